/- Texts of this proof, one behind the other (SGl, SShP, SLMv); each fact names its conditions. -/
import Derived.Test.YtndiocehkdbjkaaGreatJS4
import Derived.Test.YtndiocehkdbjkaaGreatJS2
import Derived.Deep.RegionHeld3
import Derived.Test.YtndiocehkdbjkaaGreatJS8
import Derived.Test.YtndiocehkdbjkaaGreatJSSBegun
namespace Go.Proofs.YtndiocehkdbjkaaGreat

section
set_option maxRecDepth 100000
set_option linter.unusedVariables false
open Go.RowKit

theorem u64_i64 (k : Nat) (h : k < 9223372036854775808) : IntKind.u64.wrap (IntKind.i64.wrap (k : Int)) = (k : Int) := by
  simp [IntKind.wrap, IntKind.bits, IntKind.signed]; omega
/-- What is behind the first. -/
theorem rdv_rest {w : World} {A : Option Addr} {c k : Nat} {B : List Bool} (h : RdV w w.heap.size A (ic B)) (hl : B.length = k + 1) (hc : k + 1 ≤ c) :
    RdV w w.heap.size (if c = 1 then A else Option.map (fun x => { block := x.block, off := x.off + 1 }) A) (ic (B.drop 1)) := by
  by_cases h1 : c = 1
  · left
    rw [List.drop_of_length_le (by omega)]; rfl
  · rw [if_neg h1]
    rcases h with h | ⟨b, off, rfl, hb, hcell⟩
    · have := congrArg List.length h
      rw [ic_length, hl] at this
      simp at this
    · refine .inr ⟨b, off + 1, rfl, hb, fun i v hi => ?_⟩
      have e : ic (B.drop 1) = (ic B).drop 1 := by simp [ic]
      rw [e, List.getElem?_drop] at hi
      rw [Nat.add_assoc]
      exact hcell (1 + i) v hi
/-- A slice of one number, newly laid. -/
theorem own_lit1 (w : World) (base : Nat) (hb : base ≤ w.heap.size) (u : Value) : (w.alloc (.cells #[u] 3)).ownsRow base 3 1 (.slice (some ⟨w.heap.size, 0, none⟩) 1 1) 1 [u] :=
  ⟨rfl, .inr ⟨w.heap.size, 1, #[u], rfl, hb, World.alloc_heap_new w _, Nat.le_refl _, by decide, rfl, rfl⟩⟩

/-- At each round's head: j bits have been written. -/
def BiRel (w : World) (n : Nat) (v p : Value) (wr : World) : Prop :=
  ∃ j : Nat, v = .int .u64 ((n / 2 ^ j : Nat) : Int) ∧ wr.ownsRow w.heap.size 3 1 p j (ic (nb n j)) ∧ Below w.heap.size w wr ∧ (j = 0 ∨ 2 ^ j ≤ 2 * n)

theorem bi_bit (n j : Nat) : ic (nb n (j + 1)) = [.int .i64 (((n / 2 ^ j : Nat) : Int) % 2)] ++ ic (nb n j) := by
  rw [nb_succ]
  generalize n / 2 ^ j = y
  have e : (((y % 2 == 1).toNat : Nat) : Int) = (y : Int) % 2 := by
    rcases (show y % 2 = 0 ∨ y % 2 = 1 by omega) with h | h
    · rw [h]; have : (y : Int) % 2 = 0 := by omega
      rw [this]; rfl
    · rw [h]; have : (y : Int) % 2 = 1 := by omega
      rw [this]; rfl
  simp [ic, e]

set_option maxHeartbeats 1000000 in
theorem binary_any (n K : Nat) (hn : n < 18446744073709551616) (h0 : 1 ≤ n) (h1 : n < 2 ^ K) (h2 : 2 ^ K ≤ 2 * n) (L : List Bool) (hL : L = nb n K) (w : World) :
    Calls Tryz.prog 71 #[.int .u64 (n : Int)] w (Listed w L) := by
  have HL := Lib.hid hL; clear hL
  have H1 := Lib.hid h1; clear h1
  have H2 := Lib.hid h2; clear h2
  go_enter Tryz.func71, Tryz.ntmps71
  go_wp2
  go_loopw [0, 3] (fun v p wr => BiRel w n v p wr) (fun v _ _ => (intOf v).toNat)
  case atStart => exact ⟨0, by rw [Nat.pow_zero, Nat.div_one], ⟨rfl, .inl ⟨rfl, rfl⟩⟩, Below.refl _ _, .inl rfl⟩
  case round =>
    obtain ⟨j, rfl, hrow, hbel, hj⟩ := hrel
    obtain ⟨Av, cv, rfl⟩ := own_slice3 hrow
    have hyn : n / 2 ^ j ≤ n := Nat.div_le_self _ _
    have HBel := Lib.hid hbel; clear hbel
    have HJ := Lib.hid hj; clear hj
    by_cases hlt : 0 < n / 2 ^ j
    · have HP : Hid (2 ^ j ≤ n) := by
        show _ ≤ _
        rcases Nat.lt_or_ge n (2 ^ j) with h | h
        · rw [Nat.div_eq_of_lt h] at hlt; omega
        · exact h
      have HJs : Hid ((j + 1) * 8 ≤ 140737488355328) := by
        have h64 : 2 ^ j < 2 ^ 64 := Nat.lt_of_le_of_lt HP.out hn
        have := pow_inj_le h64
        show _ ≤ _
        omega
      have HH : Hid (n / 2 ^ (j + 1) = n / 2 ^ j / 2) := by
        show _ = _
        rw [Nat.pow_succ, Nat.div_div_eq_div_mul]
      have HBit := Lib.hid (bi_bit n j)
      have HRow := Lib.hid hrow; clear hrow
      generalize n / 2 ^ j = y at *
      go_wp2_with (at_builtin; refine app3 rfl _ _ rfl w.heap.size _ 1 _ rfl (own_lit1 wr w.heap.size HBel.out.size _) Av j cv (ic (nb n j)) rfl (own_rdv (HRow.out.alloc _)) (by rw [ic_length, nb_length]) (ic_one _) (own_none HRow.out) (by have := HJs.out; omega) (by have := HBel.out.size; simp; omega) ?_; intro v' w3 hown' hgrow; obtain ⟨A3, c3, rfl⟩ := own_slice3 hown'; rw [Nat.add_comm 1 j] at hown' ⊢)
      have HGr := Lib.hid hgrow; clear hgrow
      have HOw := Lib.hid hown'; clear hown'
      refine ⟨⟨j + 1, by rw [HH.out]; go_num, ?_, (HBel.out.alloc HBel.out.size _).grown HGr.out (by have := HBel.out.size; simp; omega) (fun k hk => ((own_lit1 wr w.heap.size HBel.out.size (.int .i64 0)).lt k hk).1), .inr (by have := HP.out; rw [Nat.pow_succ]; omega)⟩, by simp [intOf]; omega⟩
      rw [HBit.out]
      exact HOw.out
    · have e0 : n / 2 ^ j = 0 := Nat.eq_zero_of_not_pos hlt
      have hjK : j = K := by
        have hnj : n < 2 ^ j := by
          rcases Nat.div_eq_zero_iff.1 e0 with h | h
          · have := Nat.two_pow_pos j; omega
          · exact h
        rcases HJ.out with rfl | h
        · rw [Nat.pow_zero] at hnj; omega
        · have a := pow_inj_le (a := j) (b := K + 1) (by have := H1.out; rw [Nat.pow_succ]; omega)
          have b := pow_inj_le (a := K) (b := j + 1) (by have := H2.out; rw [Nat.pow_succ]; omega)
          omega
      have HF : Hid (Listed w L (.returned (.slice Av j cv)) wr) := by
        have hl : L.length = j := by rw [HL.out, nb_length, hjK]
        refine ⟨Av, cv, by rw [hl], ?_, HBel.out⟩
        rw [hl, HL.out, ← hjK]
        exact hrow
      clear hrow HJ H1 H2
      rw [e0]
      go_wp2
      go_ret
      exact HF.out

/-- At each round's head: i - 1 noughts. -/
def GLRel (w1 : World) (k : Nat) (v p : Value) (wr : World) : Prop :=
  ∃ i : Nat, i ≤ k ∧ p = .int .i64 ((i : Int) + 1) ∧ wr.ownsRow w1.heap.size 3 1 v i (ic (List.replicate i false)) ∧ Below w1.heap.size w1 wr

set_option maxHeartbeats 1000000 in
theorem gammaList_any (n : Nat) (hn : n ≤ 1099511627776) (L : List Bool) (hL : L = gam n) (w : World) :
    Calls Tryz.prog 28 #[.int .u64 (n : Int)] w (Listed w L) := by
  obtain ⟨i0, hi, hz0, hz1, hz2⟩ := info_parts info3
  have a := lg_le n
  have b := lg_lt n
  have hk := lg_lt_of n 41 (by omega)
  have HBi := Lib.hid (binary_any (n + 1) (lg n + 1) (by omega) (by omega) b (by rw [Nat.pow_succ]; omega) _ rfl)
  have HL : Hid (L = List.replicate (lg n) false ++ nb (n + 1) (lg n + 1)) := by
    show _ = _
    rw [hL, nb_top _ _ a b]; simp [gam, uc]
  clear hL a b
  have HLen : Hid ((nb (n + 1) (lg n + 1)).length = lg n + 1) := nb_length _ _
  generalize nb (n + 1) (lg n + 1) = B at *
  generalize lg n = k at *
  go_enter Tryz.func28, Tryz.ntmps28
  go_wp2_with fail
  refine (HBi.out _).mono ?_
  rintro e w1 ⟨A1, c1, rfl, ho1, hb1⟩
  rw [HLen.out] at ho1 ⊢
  have HO1 := Lib.hid ho1; clear ho1
  have HB1 := Lib.hid hb1; clear hb1
  go_wp2
  go_loopw [4, 5] (fun v p wr => GLRel w1 k v p wr) (fun _ p _ => k + 1 - (intOf p).toNat)
  case atStart => exact ⟨0, Nat.zero_le _, rfl, ⟨rfl, .inl ⟨rfl, rfl⟩⟩, Below.refl _ _⟩
  case round =>
    obtain ⟨i, him, rfl, hrow, hbel⟩ := hrel
    obtain ⟨Av, cv, rfl⟩ := own_slice3 hrow
    have HBel := Lib.hid hbel; clear hbel
    by_cases hlt : i < k
    · go_wp2_with (at_builtin; refine wpList_append_own _ rfl _ _ 22 rfl w1.heap.size 3 i0 (.int .i64 0) 1 8 Tryz.underlying22 hi hz0 hz1 hz2 rfl (by decide) _ _ _ rfl (hrow.alloc _) ⟨wr.heap.size, 0, none⟩ 1 1 [.int .i64 0] rfl rfl (cell_one_new _ _ _) (by simp [Value.oneCell']) (by unfold maxLen; omega) (by omega) (by have := HBel.out.size; simp; omega) ?_; intro v' w3 hown' hgrow _; obtain ⟨g', cap', rfl⟩ := ownsRow_succ hown')
      have HGr := Lib.hid hgrow; clear hgrow
      have HOw := Lib.hid hown'; clear hown'
      go_roundw
      case rel =>
        refine ⟨i + 1, by omega, by go_num, ?_, (HBel.out.alloc HBel.out.size _).grown HGr.out (by have := HBel.out.size; simp; omega) (fun k hk => (hrow.lt k hk).1)⟩
        rw [List.replicate_succ', ic_append]
        exact HOw.out
      case measure => simp [intOf]; omega
    · have e : i = k := by omega
      subst e
      have HRow := Lib.hid hrow; clear hrow
      have HR1 : Hid (RdV wr wr.heap.size A1 (ic B)) := (own_rdv HO1.out).on HBel.out
      have HN1 := Lib.hid (own_none HO1.out)
      have HLb : Hid ((ic B).length = i + 1) := by show _ = _; rw [ic_length, HLen.out]
      go_wp2_with (at_builtin; refine app3 rfl _ _ rfl w1.heap.size _ i (ic (List.replicate i false)) rfl HRow.out A1 (i + 1) c1 (ic B) rfl HR1.out HLb.out (ic_one _) HN1.out (by omega) HBel.out.size ?_; intro v' w3 hown' hgrow; obtain ⟨A3, c3, rfl⟩ := own_slice3 hown')
      have HF : Hid (Listed w L (.returned (.slice A3 (i + (i + 1)) c3)) w3) := by
        have hl : L.length = i + (i + 1) := by rw [HL.out, List.length_append, List.length_replicate, HLen.out]
        refine ⟨A3, c3, by rw [hl], ?_, ?_⟩
        · rw [hl, HL.out, ic_append]
          exact own_base hown' HB1.out.size
        · exact HB1.out.trans ((HBel.out.grown hgrow HBel.out.size (fun k hk => (HRow.out.lt k hk).1)).mono HB1.out.size)
      clear hown' hgrow
      go_ret
      exact HF.out
end

section
set_option linter.unusedVariables false

def shrS (d : Int) (p : Int × Int) : Int × Int := (p.1 + d, p.2)
theorem shrS_parts (d : Int) (k : Nat) : ∀ A B : List Rn, rz B = (rz A).map (shrS d) → rz (lng k B) = (rz (lng k A)).map (shrS d) ∧ ns (flatR (sht k B)) = (ns (flatR (sht k A))).map (· + d)
  | [], [], _ => by simp [lng, sht, flatR, rz, ns]
  | [], _ :: _, h => by simp [rz] at h
  | _ :: _, [], h => by simp [rz] at h
  | (f, m) :: A, (g, n) :: B, h => by
    simp only [rz, List.map_cons, List.cons.injEq, shrS, Prod.mk.injEq] at h
    obtain ⟨⟨h1, h2⟩, h3⟩ := h
    have hn : n = m := by omega
    subst hn
    obtain ⟨i1, i2⟩ := shrS_parts d k A B h3
    have hnum : ns (List.range' g n) = (ns (List.range' f n)).map (· + d) := by
      unfold ns
      rw [List.range'_eq_map_range, List.range'_eq_map_range, List.map_map, List.map_map, List.map_map]
      refine List.map_congr_left fun x _ => ?_
      simp only [Function.comp]
      omega
    unfold lng sht at *
    rw [List.filter_cons, List.filter_cons, List.filter_cons, List.filter_cons]
    by_cases hk : k ≤ n
    · have e1 : decide (k ≤ n) = true := by simpa using hk
      have e2 : decide (n < k) = false := by simp; omega
      simp only [e1, e2, if_true]
      refine ⟨?_, by simpa using i2⟩
      simp only [rz, List.map_cons, List.cons.injEq, shrS, Prod.mk.injEq] at i1 ⊢
      exact ⟨⟨h1, trivial⟩, i1⟩
    · have e1 : decide (k ≤ n) = false := by simpa using hk
      have e2 : decide (n < k) = true := by simp; omega
      simp only [e1, e2, if_true]
      refine ⟨by simpa using i1, ?_⟩
      rw [flatR_cons, flatR_cons, ns_append, ns_append, List.map_append]
      exact congr (congrArg HAppend.hAppend hnum) i2
theorem mem_ns (l : List Nat) (x : Nat) : x ∈ l ↔ (x : Int) ∈ ns l := by
  unfold ns
  rw [List.mem_map]
  exact ⟨fun h => ⟨x, h, rfl⟩, fun ⟨y, hy, e⟩ => by have : y = x := by omega
                                                    exact this ▸ hy⟩
theorem inL_shift (d : Int) (l m : List Nat) (h : ns m = (ns l).map (· + d)) (x y : Nat) (hy : (y : Int) = (x : Int) + d) : inL m y = inL l x := by
  unfold inL
  refine decide_eq_decide.2 ?_
  rw [mem_ns, mem_ns, h, hy, List.mem_map]
  exact ⟨fun ⟨z, hz, e⟩ => by have : z = (x : Int) := by omega
                              exact this ▸ hz, fun h => ⟨_, h, rfl⟩⟩
theorem inLs_shift (d : Int) (l m : List Nat) (h : ns m = (ns l).map (· + d)) : ∀ F G : List Nat, ns G = (ns F).map (· + d) → G.map (inL m) = F.map (inL l)
  | [], [], _ => rfl
  | [], _ :: _, e => by simp [ns] at e
  | _ :: _, [], e => by simp [ns] at e
  | x :: F, y :: G, e => by
    simp only [ns, List.map_cons, List.cons.injEq] at e
    rw [List.map_cons, List.map_cons, inL_shift d l m h x y e.1, inLs_shift d l m h F G e.2]
theorem bks_shift (d : Int) (l m F G : List Nat) (h : ns m = (ns l).map (· + d)) (hF : ns G = (ns F).map (· + d)) : bks G m = bks F l := by
  unfold bks
  rw [inLs_shift d l m h F G hF]
theorem notin_shift (d : Int) (F G : List Nat) (hF : ns G = (ns F).map (· + d)) : ∀ l m : List Nat, ns m = (ns l).map (· + d) → ns (notin G m) = (ns (notin F l)).map (· + d)
  | [], [], _ => rfl
  | [], _ :: _, e => by simp [ns] at e
  | _ :: _, [], e => by simp [ns] at e
  | x :: l, y :: m, e => by
    simp only [ns, List.map_cons, List.cons.injEq] at e
    have ih := notin_shift d F G hF l m e.2
    have hi := inL_shift d F G hF x y e.1
    unfold notin at ih ⊢
    rw [List.filter_cons, List.filter_cons, hi]
    cases inL F x
    · simp only [Bool.not_false, if_true]
      simp only [ns, List.map_cons, List.cons.injEq] at ih ⊢
      exact ⟨e.1, ih⟩
    · simpa using ih
theorem rnx_shift (d : Int) (ls : Nat) : ∀ (A B : List Rn) (e f : Nat), (f : Int) = (e : Int) + d → rz B = (rz A).map (shrS d) → rnx ls f B = rnx ls e A
  | [], [], _, _, _, _ => rfl
  | [], _ :: _, _, _, _, h => by simp [rz] at h
  | _ :: _, [], _, _, _, h => by simp [rz] at h
  | p :: A, q :: B, e, f, he, h => by
    simp only [rz, List.map_cons, List.cons.injEq, shrS, Prod.mk.injEq] at h
    obtain ⟨⟨h1, h2⟩, h3⟩ := h
    unfold rnx
    rw [rnx_shift d ls A B (p.1 + p.2 + 1) (q.1 + q.2 + 1) (by omega) h3]
    have e1 : q.1 - f = p.1 - e := by omega
    have e2 : q.2 = p.2 := by omega
    rw [e1, e2]
theorem rnu_shift (d a : Int) (ls : Nat) : ∀ (A B : List Rn), rz B = (rz A).map (shrS d) → rnu (a + d) ls B = rnu a ls A
  | [], [], _ => rfl
  | [], _ :: _, h => by simp [rz] at h
  | _ :: _, [], h => by simp [rz] at h
  | p :: A, q :: B, h => by
    simp only [rz, List.map_cons, List.cons.injEq, shrS, Prod.mk.injEq] at h
    obtain ⟨⟨h1, h2⟩, h3⟩ := h
    show fold ((q.1 : Int) - (a + d)) :: (q.2 - ls) :: rnx ls (q.1 + q.2 + 1) B = fold ((p.1 : Int) - a) :: (p.2 - ls) :: rnx ls (p.1 + p.2 + 1) A
    rw [rnx_shift d ls A B (p.1 + p.2 + 1) (q.1 + q.2 + 1) (by omega) h3]
    have e1 : (q.1 : Int) - (a + d) = (p.1 : Int) - a := by omega
    have e2 : q.2 = p.2 := by omega
    rw [e1, e2]
theorem len_shift (d : Int) (l m : List Nat) (h : ns m = (ns l).map (· + d)) : m.length = l.length := by
  rw [← ns_length m, h, List.length_map, ns_length]
theorem nil_shift (d : Int) (l m : List Nat) (h : ns m = (ns l).map (· + d)) : (m = []) = (l = []) := by
  have := len_shift d l m h
  cases l <;> cases m <;> simp at *
theorem restB_shift (a a2 : Nat) (d : Int) (ha : (a2 : Int) = (a : Int) + d) (ls k : Nat) (r r2 : List Nat) (h : ns r2 = (ns r).map (· + d)) : restB a2 ls k r2 = restB a ls k r := by
  have hp := shrS_parts d ls (rs r) (rs r2) (rs_shift d r r2 h)
  have e1 : rnu (a2 : Int) ls (rsR ls r2) = rnu (a : Int) ls (rsR ls r) := by
    rw [ha]
    refine rnu_shift d a ls _ _ ?_
    unfold rsR
    split
    · rfl
    · exact hp.1
  have e2 : (rsR ls r2).length = (rsR ls r).length := by
    unfold rsR
    split
    · rfl
    · rw [← rz_length, hp.1, List.length_map, rz_length]
  have e3 : ns (rsS ls r2) = (ns (rsS ls r)).map (· + d) := by
    unfold rsS
    split
    · exact h
    · exact hp.2
  have e4 : gps (a2 : Int) (rsS ls r2) = gps (a : Int) (rsS ls r) := by rw [ha]; exact gps_shift d a _ _ e3
  unfold restB runB
  rw [e1, e2, e4]
  simp only [nil_shift d r r2 h]
theorem sbits_shift (a a2 : Nat) (d : Int) (ha : (a2 : Int) = (a : Int) + d) (bk ls k : Nat) (l l2 F F2 : List Nat) (h : ns l2 = (ns l).map (· + d)) (hF : bk ≠ 0 → ns F2 = (ns F).map (· + d)) : sbits a2 bk ls k l2 F2 = sbits a bk ls k l F := by
  unfold sbits bksB bksR
  simp only [nil_shift d l l2 h]
  rw [len_shift d l l2 h]
  by_cases hb : bk = 0
  · rw [if_pos hb, if_pos hb, if_pos hb, if_pos hb, restB_shift a a2 d ha ls k l l2 h]
  · rw [if_neg hb, if_neg hb, if_neg hb, if_neg hb, bks_shift d l l2 F F2 h (hF hb), restB_shift a a2 d ha ls k _ _ (notin_shift d F F2 (hF hb) l l2 h)]
theorem sw_shift (a : Nat) (l : List Nat) (hl : Rising l) (b s k : Nat) (hb : b ≤ 7) (hs : s = 0 ∨ 2 ≤ s ∧ s ≤ 300) (hk : 1 ≤ k) (hk2 : k ≤ 16) (F : List Nat) (hF : b ≠ 0 → Rising F) (d : Int) (zs : List Int) (hz : b ≠ 0 → zs = (ns F).map (· + d)) (hlen : (sbits a b s k l F).length ≤ 8192) :
    swF ((a : Int) + d) ((ns l).map (· + d)) zs (b : Int) (s : Int) (k : Int) = 3 ∨ (swF ((a : Int) + d) ((ns l).map (· + d)) zs (b : Int) (s : Int) (k : Int) = 0 ∧ swL ((a : Int) + d) ((ns l).map (· + d)) zs (b : Int) (s : Int) (k : Int) = sbits a b s k l F) := by
  have three : swE ((a : Int) + d) ((ns l).map (· + d)) zs (b : Int) (s : Int) (k : Int) = 3 → swF ((a : Int) + d) ((ns l).map (· + d)) zs (b : Int) (s : Int) (k : Int) = 3 := fun h => by unfold swF; rw [h]; rfl
  have h0 : hck (b : Int) (s : Int) (k : Int) = 0 := hck_ok b s k hb hs hk hk2
  have eT : rgE (0 : Int) [true] = 0 := by decide
  have eF : rgE (0 : Int) [false] = 3 := by decide
  by_cases h1 : okN ((a : Int) + d) = true
  · obtain ⟨a2, e1, ha2⟩ := okN_true h1
    rcases rchk_shift d l hl with h2 | h2
    · obtain ⟨l2, e2, hl2⟩ := rchk_zero _ h2
      have key : ∀ F2, (b ≠ 0 → zs = ns F2) → (b ≠ 0 → rchk zs = 0) → swF ((a : Int) + d) ((ns l).map (· + d)) zs (b : Int) (s : Int) (k : Int) = 0 ∧ swL ((a : Int) + d) ((ns l).map (· + d)) zs (b : Int) (s : Int) (k : Int) = sbits a b s k l F := fun F2 e3 h3 => by
        have hsb : sbits a2 b s k l2 (tn zs) = sbits a b s k l F := sbits_shift a a2 d e1.symm b s k l l2 F (tn zs) e2.symm (fun hb0 => by rw [e3 hb0, tn_ns, ← e3 hb0]; exact hz hb0)
        have h4 := swF_in a2 ha2 l2 hl2 b s k hb hs hk hk2 zs h3 (by rw [hsb]; exact hlen)
        rw [e1, e2]
        exact ⟨h4.1, h4.2.trans hsb⟩
      by_cases hb0 : b = 0
      · exact .inr (key [] (fun h => absurd hb0 h) (fun h => absurd hb0 h))
      · have hzz := hz hb0
        rcases rchk_shift d F (hF hb0) with h3 | h3
        · obtain ⟨F2, e3, hF2⟩ := rchk_zero _ h3
          exact .inr (key F2 (fun _ => hzz.trans e3) (fun _ => by rw [hzz]; exact h3))
        · refine .inl (three ?_)
          unfold swE
          rw [h0, h1, eT, if_neg (fun c => c rfl), h2, if_neg (fun c => c rfl), if_neg (by omega), hzz]
          exact h3
    · refine .inl (three ?_)
      unfold swE
      rw [h0, h1, eT, if_neg (fun c => c rfl), h2, if_pos (by decide)]
  · refine .inl (three ?_)
    have h1' : okN ((a : Int) + d) = false := by simpa using h1
    unfold swE
    rw [h0, h1', eF, if_pos (by decide)]
end

section
set_option maxRecDepth 100000
set_option linter.unusedVariables false
open Go.RowKit Go.Shelf

theorem take_snocS (xs : List Int) (i : Nat) (h : i < xs.length) : xs.take (i + 1) = xs.take i ++ [xs[i]?.getD 0] := by
  rw [List.take_succ_eq_append_getElem h, List.getElem?_eq_getElem h]; rfl
def ShRelS (xs : List Int) (d : Int) (w : World) (v p : Value) (wr : World) : Prop :=
  ∃ i : Nat, i ≤ xs.length ∧ p = .int .i64 (i : Int) ∧ wr.ownsRow w.heap.size 3 1 v i (zc ((xs.map (· + d)).take i)) ∧ Below w.heap.size w wr
theorem row1 (w : World) (u : Int) : RdV (w.alloc (.cells #[.int .i64 u] 3)) (w.alloc (.cells #[.int .i64 u] 3)).heap.size (some ⟨w.heap.size, 0, none⟩) [.int .i64 u] := by
  refine .inr ⟨w.heap.size, 0, rfl, by simp, fun i v hi => ?_⟩
  rw [cell_of_row _ _ _ _ _ _ (World.alloc_heap_new w (.cells #[.int .i64 u] 3))]
  simpa using hi
def MvP (w : World) (n : Nat) (zs : List Int) (e : Ending) (w' : World) : Prop := ∃ A2 c2, e = .returned (.slice A2 n c2) ∧ n ≤ c2 ∧ (A2 = none → c2 = 0) ∧ RdV w' w'.heap.size A2 (zc zs) ∧ Below w.heap.size w w'
set_option maxHeartbeats 4000000 in
theorem smove_any (xs : List Int) (n : Nat) (hn : xs.length = n) (hn2 : n ≤ 300) (d : Int) (hd1 : -1048576 ≤ d) (hd2 : d ≤ 1048576) (hx : ∀ x ∈ xs, 0 ≤ x ∧ x ≤ 1048576) (A : Option Addr) (c B : Nat) (w : World) (hB : w.heap[B]? = some (.cells #[.int .i64 d] 3 (0, 0))) (h : RdV w w.heap.size A (zc xs)) :
    Calls Tryz.prog 27 (#[.slice A n c] ++ #[.pointer (some ⟨B, 0, none⟩)]) w (MvP w n (xs.map (· + d))) := by
  show Calls Tryz.prog 27 #[.slice A n c, .pointer (some ⟨B, 0, none⟩)] w _
  have hBl : B < w.heap.size := (Array.getElem?_eq_some_iff.1 hB).1
  have hBc : w.cell? ⟨B, 0, none⟩ = some (.int .i64 d) := (cell_at hB _).trans rfl
  have HBx : Hid (∀ V, Below w.heap.size w V → V.cell? ⟨B, 0, none⟩ = some (.int .i64 d)) := fun V hV => (hV.cell (p := ⟨B, 0, none⟩) hBl).trans hBc
  have HA := Lib.hid h
  have HN := Lib.hid hn
  have HX := Lib.hid hx
  have HML : Hid ((xs.map (· + d)).length = n) := by show _ = _; rw [List.length_map]; exact hn
  clear hB hBl hBc h hn hx
  go_enter Tryz.func27, Tryz.ntmps27
  go_wp2
  go_loopw [4, 5] (fun v p wr => ShRelS xs d w v p wr) (fun _ p _ => n - (intOf p).toNat)
  case atStart => exact ⟨0, Nat.zero_le _, rfl, ⟨rfl, .inl ⟨rfl, rfl⟩⟩, Below.refl _ _⟩
  case round =>
    obtain ⟨i, hi', rfl, hrow, hbel⟩ := hrel
    rw [HN.out] at hi'
    have hbc := HBx.out wr hbel
    by_cases hlt : i < n
    · have hin : i < xs.length := by rw [HN.out]; exact hlt
      obtain ⟨b, off, rfl, hb, hcx⟩ := HA.out.at_ (zc_get xs i hin)
      have hxi := HX.out (xs[i]?.getD 0) (by rw [List.getElem?_eq_getElem hin]; exact List.getElem_mem hin)
      have htk := take_snocS (xs.map (· + d)) i (by rw [HML.out]; exact hlt)
      rw [List.getElem?_map, List.getElem?_eq_getElem hin] at htk
      rw [List.getElem?_eq_getElem hin] at hcx hxi
      simp only [Option.map_some, Option.getD_some] at htk hcx hxi
      obtain ⟨x, hx0⟩ : ∃ x, xs[i] = x := ⟨_, rfl⟩
      rw [hx0] at hcx htk hxi
      obtain ⟨hx1, hx2⟩ := hxi
      have tw : IntKind.i64.wrap (x + d) = x + d := IntWalk.i64_in _ (by omega)
      have hzz : zc ((xs.map (· + d)).take i) ++ [Value.int .i64 (x + d)] = zc ((xs.map (· + d)).take (i + 1)) := by rw [htk, zc_append]; rfl
      have HZZ := Lib.hid hzz; clear hzz htk hx0
      have HB2 := Lib.hid hbel; clear hbel
      have HRow := Lib.hid hrow
      have HK : Hid (∀ V, Below w.heap.size w V → V.cell? ⟨b, off + i, none⟩ = some (.int .i64 x) ∧ V.cell? ⟨B, 0, none⟩ = some (.int .i64 d)) := fun V hV => ⟨(hV.cell (p := ⟨b, off + i, none⟩) hb).trans hcx, HBx.out V hV⟩
      replace hcx := (HB2.out.cell (p := ⟨b, off + i, none⟩) hb).trans hcx
      obtain ⟨Av, cv, rfl⟩ := own_slice3 hrow
      clear hrow
      obtain ⟨i0, hi, hz0, hz1, hz2⟩ := info_parts info3
      go_wp2_with fail
      go_region_held3 (fun w' => w'.cell? ⟨b, off + i, none⟩ = some (.int .i64 x) ∧ w'.cell? ⟨B, 0, none⟩ = some (.int .i64 d))
        ((refine HK.out _ ?_; first | exact hk2.out | exact HB2.out.drew.alloc HB2.out.size _ | exact HB2.out.drew))
        (first | (refine app3s (by rfl) _ _ (by rfl) w.heap.size (.slice Av i cv) i (zc ((xs.map (· + d)).take i)) (by rfl) ((own_drew HRow.out).alloc _) (some ⟨wr.heap.size, 0, none⟩) 1 1 [.int .i64 (x + d)] (by rfl) (row1 wr.drew (x + d)) rfl (by simp [Value.oneCell']) (fun h => by cases h) (by omega) (by have := HB2.out.size; simp; omega) ?_; intro v3 w3 hown3 hgrow3; have HO3 := Lib.hid hown3; have hk2 : Hid (Below w.heap.size w w3) := join_grown (HB2.out.drew.alloc HB2.out.size _) (Nat.le_refl _) (by have := HB2.out.size; simp; omega) ((own_drew HRow.out).alloc _) hgrow3; clear hown3 hgrow3))
      rw [HZZ.out] at HO3
      go_wp2
      go_roundw
      case rel => exact ⟨i + 1, by rw [HN.out]; omega, by go_num, HO3.out, hk2.out⟩
      case measure => simp [intOf]; omega
    · have e : (xs.map (· + d)).take i = xs.map (· + d) := List.take_of_length_le (by rw [HML.out]; omega)
      rw [e] at hrow
      obtain rfl : i = n := by omega
      obtain ⟨Av, cv, rfl⟩ := own_slice3 hrow
      have HRd := Lib.hid (own_rdvT hrow)
      have HCp := Lib.hid (own_capT hrow)
      have HBl := Lib.hid hbel
      clear hrow hbel e
      go_wp2
      go_ret
      exact ⟨Av, cv, rfl, HCp.out.1, HCp.out.2, HRd.out, HBl.out⟩
end
end Go.Proofs.YtndiocehkdbjkaaGreat
