/- Texts of this proof, one behind the other (SGl, SShP, SLMv, WPure); each fact names its conditions. -/
import Derived.Test.YticdnodlapafoaaGreatJS4
import Derived.Test.YticdnodlapafoaaGreatJS2
import Derived.Deep.RegionHeld3
import Derived.Test.YticdnodlapafoaaGreatJS8
import Derived.Test.YticdnodlapafoaaGreatJSSBegun
import Derived.Test.YticdnodlapafoaaGreatJS5
namespace Go.Proofs.YticdnodlapafoaaGreat

section
set_option maxRecDepth 100000
set_option linter.unusedVariables false
open Go.RowKit

theorem u64_i64 (k : Nat) (h : k < 9223372036854775808) : IntKind.u64.wrap (IntKind.i64.wrap (k : Int)) = (k : Int) := by
  simp [IntKind.wrap, IntKind.bits, IntKind.signed]; omega
/-- What is behind the first. -/
theorem rdv_rest {w : World} {A : Option Addr} {c k : Nat} {B : List Bool} (h : RdV w w.heap.size A (ic B)) (hl : B.length = k + 1) (hc : k + 1 ≤ c) :
    RdV w w.heap.size (if c = 1 then A else Option.map (fun x => { block := x.block, off := x.off + 1 }) A) (ic (B.drop 1)) := by
  by_cases h1 : c = 1
  · left
    rw [List.drop_of_length_le (by omega)]; rfl
  · rw [if_neg h1]
    rcases h with h | ⟨b, off, rfl, hb, hcell⟩
    · have := congrArg List.length h
      rw [ic_length, hl] at this
      simp at this
    · refine .inr ⟨b, off + 1, rfl, hb, fun i v hi => ?_⟩
      have e : ic (B.drop 1) = (ic B).drop 1 := by simp [ic]
      rw [e, List.getElem?_drop] at hi
      rw [Nat.add_assoc]
      exact hcell (1 + i) v hi
/-- A slice of one number, newly laid. -/
theorem own_lit1 (w : World) (base : Nat) (hb : base ≤ w.heap.size) (u : Value) : (w.alloc (.cells #[u] 3)).ownsRow base 3 1 (.slice (some ⟨w.heap.size, 0, none⟩) 1 1) 1 [u] :=
  ⟨rfl, .inr ⟨w.heap.size, 1, #[u], rfl, hb, World.alloc_heap_new w _, Nat.le_refl _, by decide, rfl, rfl⟩⟩

/-- At each round's head: j bits have been written. -/
def BiRel (w : World) (n : Nat) (v p : Value) (wr : World) : Prop :=
  ∃ j : Nat, v = .int .u64 ((n / 2 ^ j : Nat) : Int) ∧ wr.ownsRow w.heap.size 3 1 p j (ic (nb n j)) ∧ Below w.heap.size w wr ∧ (j = 0 ∨ 2 ^ j ≤ 2 * n)

theorem bi_bit (n j : Nat) : ic (nb n (j + 1)) = [.int .i64 (((n / 2 ^ j : Nat) : Int) % 2)] ++ ic (nb n j) := by
  rw [nb_succ]
  generalize n / 2 ^ j = y
  have e : (((y % 2 == 1).toNat : Nat) : Int) = (y : Int) % 2 := by
    rcases (show y % 2 = 0 ∨ y % 2 = 1 by omega) with h | h
    · rw [h]; have : (y : Int) % 2 = 0 := by omega
      rw [this]; rfl
    · rw [h]; have : (y : Int) % 2 = 1 := by omega
      rw [this]; rfl
  simp [ic, e]

set_option maxHeartbeats 1000000 in
theorem binary_any (n K : Nat) (hn : n < 18446744073709551616) (h0 : 1 ≤ n) (h1 : n < 2 ^ K) (h2 : 2 ^ K ≤ 2 * n) (L : List Bool) (hL : L = nb n K) (w : World) :
    Calls Tryz.prog 61 #[.int .u64 (n : Int)] w (Listed w L) := by
  have HL := Lib.hid hL; clear hL
  have H1 := Lib.hid h1; clear h1
  have H2 := Lib.hid h2; clear h2
  go_enter Tryz.func61, Tryz.ntmps61
  go_wp2
  go_loopw [0, 3] (fun v p wr => BiRel w n v p wr) (fun v _ _ => (intOf v).toNat)
  case atStart => exact ⟨0, by rw [Nat.pow_zero, Nat.div_one], ⟨rfl, .inl ⟨rfl, rfl⟩⟩, Below.refl _ _, .inl rfl⟩
  case round =>
    obtain ⟨j, rfl, hrow, hbel, hj⟩ := hrel
    obtain ⟨Av, cv, rfl⟩ := own_slice3 hrow
    have hyn : n / 2 ^ j ≤ n := Nat.div_le_self _ _
    have HBel := Lib.hid hbel; clear hbel
    have HJ := Lib.hid hj; clear hj
    by_cases hlt : 0 < n / 2 ^ j
    · have HP : Hid (2 ^ j ≤ n) := by
        show _ ≤ _
        rcases Nat.lt_or_ge n (2 ^ j) with h | h
        · rw [Nat.div_eq_of_lt h] at hlt; omega
        · exact h
      have HJs : Hid ((j + 1) * 8 ≤ 140737488355328) := by
        have h64 : 2 ^ j < 2 ^ 64 := Nat.lt_of_le_of_lt HP.out hn
        have := pow_inj_le h64
        show _ ≤ _
        omega
      have HH : Hid (n / 2 ^ (j + 1) = n / 2 ^ j / 2) := by
        show _ = _
        rw [Nat.pow_succ, Nat.div_div_eq_div_mul]
      have HBit := Lib.hid (bi_bit n j)
      have HRow := Lib.hid hrow; clear hrow
      generalize n / 2 ^ j = y at *
      go_wp2_with (at_builtin; refine app3 rfl _ _ rfl w.heap.size _ 1 _ rfl (own_lit1 wr w.heap.size HBel.out.size _) Av j cv (ic (nb n j)) rfl (own_rdv (HRow.out.alloc _)) (by rw [ic_length, nb_length]) (ic_one _) (own_none HRow.out) (by have := HJs.out; omega) (by have := HBel.out.size; simp; omega) ?_; intro v' w3 hown' hgrow; obtain ⟨A3, c3, rfl⟩ := own_slice3 hown'; rw [Nat.add_comm 1 j] at hown' ⊢)
      have HGr := Lib.hid hgrow; clear hgrow
      have HOw := Lib.hid hown'; clear hown'
      refine ⟨⟨j + 1, by rw [HH.out]; go_num, ?_, (HBel.out.alloc HBel.out.size _).grown HGr.out (by have := HBel.out.size; simp; omega) (fun k hk => ((own_lit1 wr w.heap.size HBel.out.size (.int .i64 0)).lt k hk).1), .inr (by have := HP.out; rw [Nat.pow_succ]; omega)⟩, by simp [intOf]; omega⟩
      rw [HBit.out]
      exact HOw.out
    · have e0 : n / 2 ^ j = 0 := Nat.eq_zero_of_not_pos hlt
      have hjK : j = K := by
        have hnj : n < 2 ^ j := by
          rcases Nat.div_eq_zero_iff.1 e0 with h | h
          · have := Nat.two_pow_pos j; omega
          · exact h
        rcases HJ.out with rfl | h
        · rw [Nat.pow_zero] at hnj; omega
        · have a := pow_inj_le (a := j) (b := K + 1) (by have := H1.out; rw [Nat.pow_succ]; omega)
          have b := pow_inj_le (a := K) (b := j + 1) (by have := H2.out; rw [Nat.pow_succ]; omega)
          omega
      have HF : Hid (Listed w L (.returned (.slice Av j cv)) wr) := by
        have hl : L.length = j := by rw [HL.out, nb_length, hjK]
        refine ⟨Av, cv, by rw [hl], ?_, HBel.out⟩
        rw [hl, HL.out, ← hjK]
        exact hrow
      clear hrow HJ H1 H2
      rw [e0]
      go_wp2
      go_ret
      exact HF.out

/-- At each round's head: i - 1 noughts. -/
def GLRel (w1 : World) (k : Nat) (v p : Value) (wr : World) : Prop :=
  ∃ i : Nat, i ≤ k ∧ p = .int .i64 ((i : Int) + 1) ∧ wr.ownsRow w1.heap.size 3 1 v i (ic (List.replicate i false)) ∧ Below w1.heap.size w1 wr

set_option maxHeartbeats 1000000 in
theorem gammaList_any (n : Nat) (hn : n ≤ 1099511627776) (L : List Bool) (hL : L = gam n) (w : World) :
    Calls Tryz.prog 28 #[.int .u64 (n : Int)] w (Listed w L) := by
  obtain ⟨i0, hi, hz0, hz1, hz2⟩ := info_parts info3
  have a := lg_le n
  have b := lg_lt n
  have hk := lg_lt_of n 41 (by omega)
  have HBi := Lib.hid (binary_any (n + 1) (lg n + 1) (by omega) (by omega) b (by rw [Nat.pow_succ]; omega) _ rfl)
  have HL : Hid (L = List.replicate (lg n) false ++ nb (n + 1) (lg n + 1)) := by
    show _ = _
    rw [hL, nb_top _ _ a b]; simp [gam, uc]
  clear hL a b
  have HLen : Hid ((nb (n + 1) (lg n + 1)).length = lg n + 1) := nb_length _ _
  generalize nb (n + 1) (lg n + 1) = B at *
  generalize lg n = k at *
  go_enter Tryz.func28, Tryz.ntmps28
  go_wp2_with fail
  refine (HBi.out _).mono ?_
  rintro e w1 ⟨A1, c1, rfl, ho1, hb1⟩
  rw [HLen.out] at ho1 ⊢
  have HO1 := Lib.hid ho1; clear ho1
  have HB1 := Lib.hid hb1; clear hb1
  go_wp2
  go_loopw [4, 5] (fun v p wr => GLRel w1 k v p wr) (fun _ p _ => k + 1 - (intOf p).toNat)
  case atStart => exact ⟨0, Nat.zero_le _, rfl, ⟨rfl, .inl ⟨rfl, rfl⟩⟩, Below.refl _ _⟩
  case round =>
    obtain ⟨i, him, rfl, hrow, hbel⟩ := hrel
    obtain ⟨Av, cv, rfl⟩ := own_slice3 hrow
    have HBel := Lib.hid hbel; clear hbel
    by_cases hlt : i < k
    · go_wp2_with (at_builtin; refine wpList_append_own _ rfl _ _ 22 rfl w1.heap.size 3 i0 (.int .i64 0) 1 8 Tryz.underlying22 hi hz0 hz1 hz2 rfl (by decide) _ _ _ rfl (hrow.alloc _) ⟨wr.heap.size, 0, none⟩ 1 1 [.int .i64 0] rfl rfl (cell_one_new _ _ _) (by simp [Value.oneCell']) (by unfold maxLen; omega) (by omega) (by have := HBel.out.size; simp; omega) ?_; intro v' w3 hown' hgrow _; obtain ⟨g', cap', rfl⟩ := ownsRow_succ hown')
      have HGr := Lib.hid hgrow; clear hgrow
      have HOw := Lib.hid hown'; clear hown'
      go_roundw
      case rel =>
        refine ⟨i + 1, by omega, by go_num, ?_, (HBel.out.alloc HBel.out.size _).grown HGr.out (by have := HBel.out.size; simp; omega) (fun k hk => (hrow.lt k hk).1)⟩
        rw [List.replicate_succ', ic_append]
        exact HOw.out
      case measure => simp [intOf]; omega
    · have e : i = k := by omega
      subst e
      have HRow := Lib.hid hrow; clear hrow
      have HR1 : Hid (RdV wr wr.heap.size A1 (ic B)) := (own_rdv HO1.out).on HBel.out
      have HN1 := Lib.hid (own_none HO1.out)
      have HLb : Hid ((ic B).length = i + 1) := by show _ = _; rw [ic_length, HLen.out]
      go_wp2_with (at_builtin; refine app3 rfl _ _ rfl w1.heap.size _ i (ic (List.replicate i false)) rfl HRow.out A1 (i + 1) c1 (ic B) rfl HR1.out HLb.out (ic_one _) HN1.out (by omega) HBel.out.size ?_; intro v' w3 hown' hgrow; obtain ⟨A3, c3, rfl⟩ := own_slice3 hown')
      have HF : Hid (Listed w L (.returned (.slice A3 (i + (i + 1)) c3)) w3) := by
        have hl : L.length = i + (i + 1) := by rw [HL.out, List.length_append, List.length_replicate, HLen.out]
        refine ⟨A3, c3, by rw [hl], ?_, ?_⟩
        · rw [hl, HL.out, ic_append]
          exact own_base hown' HB1.out.size
        · exact HB1.out.trans ((HBel.out.grown hgrow HBel.out.size (fun k hk => (HRow.out.lt k hk).1)).mono HB1.out.size)
      clear hown' hgrow
      go_ret
      exact HF.out
end

section
set_option linter.unusedVariables false

def shrS (d : Int) (p : Int × Int) : Int × Int := (p.1 + d, p.2)
theorem shrS_parts (d : Int) (k : Nat) : ∀ A B : List Rn, rz B = (rz A).map (shrS d) → rz (lng k B) = (rz (lng k A)).map (shrS d) ∧ ns (flatR (sht k B)) = (ns (flatR (sht k A))).map (· + d)
  | [], [], _ => by simp [lng, sht, flatR, rz, ns]
  | [], _ :: _, h => by simp [rz] at h
  | _ :: _, [], h => by simp [rz] at h
  | (f, m) :: A, (g, n) :: B, h => by
    simp only [rz, List.map_cons, List.cons.injEq, shrS, Prod.mk.injEq] at h
    obtain ⟨⟨h1, h2⟩, h3⟩ := h
    have hn : n = m := by omega
    subst hn
    obtain ⟨i1, i2⟩ := shrS_parts d k A B h3
    have hnum : ns (List.range' g n) = (ns (List.range' f n)).map (· + d) := by
      unfold ns
      rw [List.range'_eq_map_range, List.range'_eq_map_range, List.map_map, List.map_map, List.map_map]
      refine List.map_congr_left fun x _ => ?_
      simp only [Function.comp]
      omega
    unfold lng sht at *
    rw [List.filter_cons, List.filter_cons, List.filter_cons, List.filter_cons]
    by_cases hk : k ≤ n
    · have e1 : decide (k ≤ n) = true := by simpa using hk
      have e2 : decide (n < k) = false := by simp; omega
      simp only [e1, e2, if_true]
      refine ⟨?_, by simpa using i2⟩
      simp only [rz, List.map_cons, List.cons.injEq, shrS, Prod.mk.injEq] at i1 ⊢
      exact ⟨⟨h1, trivial⟩, i1⟩
    · have e1 : decide (k ≤ n) = false := by simpa using hk
      have e2 : decide (n < k) = true := by simp; omega
      simp only [e1, e2, if_true]
      refine ⟨by simpa using i1, ?_⟩
      rw [flatR_cons, flatR_cons, ns_append, ns_append, List.map_append]
      exact congr (congrArg HAppend.hAppend hnum) i2
theorem mem_ns (l : List Nat) (x : Nat) : x ∈ l ↔ (x : Int) ∈ ns l := by
  unfold ns
  rw [List.mem_map]
  exact ⟨fun h => ⟨x, h, rfl⟩, fun ⟨y, hy, e⟩ => by have : y = x := by omega
                                                    exact this ▸ hy⟩
theorem inL_shift (d : Int) (l m : List Nat) (h : ns m = (ns l).map (· + d)) (x y : Nat) (hy : (y : Int) = (x : Int) + d) : inL m y = inL l x := by
  unfold inL
  refine decide_eq_decide.2 ?_
  rw [mem_ns, mem_ns, h, hy, List.mem_map]
  exact ⟨fun ⟨z, hz, e⟩ => by have : z = (x : Int) := by omega
                              exact this ▸ hz, fun h => ⟨_, h, rfl⟩⟩
theorem inLs_shift (d : Int) (l m : List Nat) (h : ns m = (ns l).map (· + d)) : ∀ F G : List Nat, ns G = (ns F).map (· + d) → G.map (inL m) = F.map (inL l)
  | [], [], _ => rfl
  | [], _ :: _, e => by simp [ns] at e
  | _ :: _, [], e => by simp [ns] at e
  | x :: F, y :: G, e => by
    simp only [ns, List.map_cons, List.cons.injEq] at e
    rw [List.map_cons, List.map_cons, inL_shift d l m h x y e.1, inLs_shift d l m h F G e.2]
theorem bks_shift (d : Int) (l m F G : List Nat) (h : ns m = (ns l).map (· + d)) (hF : ns G = (ns F).map (· + d)) : bks G m = bks F l := by
  unfold bks
  rw [inLs_shift d l m h F G hF]
theorem notin_shift (d : Int) (F G : List Nat) (hF : ns G = (ns F).map (· + d)) : ∀ l m : List Nat, ns m = (ns l).map (· + d) → ns (notin G m) = (ns (notin F l)).map (· + d)
  | [], [], _ => rfl
  | [], _ :: _, e => by simp [ns] at e
  | _ :: _, [], e => by simp [ns] at e
  | x :: l, y :: m, e => by
    simp only [ns, List.map_cons, List.cons.injEq] at e
    have ih := notin_shift d F G hF l m e.2
    have hi := inL_shift d F G hF x y e.1
    unfold notin at ih ⊢
    rw [List.filter_cons, List.filter_cons, hi]
    cases inL F x
    · simp only [Bool.not_false, if_true]
      simp only [ns, List.map_cons, List.cons.injEq] at ih ⊢
      exact ⟨e.1, ih⟩
    · simpa using ih
theorem rnx_shift (d : Int) (ls : Nat) : ∀ (A B : List Rn) (e f : Nat), (f : Int) = (e : Int) + d → rz B = (rz A).map (shrS d) → rnx ls f B = rnx ls e A
  | [], [], _, _, _, _ => rfl
  | [], _ :: _, _, _, _, h => by simp [rz] at h
  | _ :: _, [], _, _, _, h => by simp [rz] at h
  | p :: A, q :: B, e, f, he, h => by
    simp only [rz, List.map_cons, List.cons.injEq, shrS, Prod.mk.injEq] at h
    obtain ⟨⟨h1, h2⟩, h3⟩ := h
    unfold rnx
    rw [rnx_shift d ls A B (p.1 + p.2 + 1) (q.1 + q.2 + 1) (by omega) h3]
    have e1 : q.1 - f = p.1 - e := by omega
    have e2 : q.2 = p.2 := by omega
    rw [e1, e2]
theorem rnu_shift (d a : Int) (ls : Nat) : ∀ (A B : List Rn), rz B = (rz A).map (shrS d) → rnu (a + d) ls B = rnu a ls A
  | [], [], _ => rfl
  | [], _ :: _, h => by simp [rz] at h
  | _ :: _, [], h => by simp [rz] at h
  | p :: A, q :: B, h => by
    simp only [rz, List.map_cons, List.cons.injEq, shrS, Prod.mk.injEq] at h
    obtain ⟨⟨h1, h2⟩, h3⟩ := h
    show fold ((q.1 : Int) - (a + d)) :: (q.2 - ls) :: rnx ls (q.1 + q.2 + 1) B = fold ((p.1 : Int) - a) :: (p.2 - ls) :: rnx ls (p.1 + p.2 + 1) A
    rw [rnx_shift d ls A B (p.1 + p.2 + 1) (q.1 + q.2 + 1) (by omega) h3]
    have e1 : (q.1 : Int) - (a + d) = (p.1 : Int) - a := by omega
    have e2 : q.2 = p.2 := by omega
    rw [e1, e2]
theorem len_shift (d : Int) (l m : List Nat) (h : ns m = (ns l).map (· + d)) : m.length = l.length := by
  rw [← ns_length m, h, List.length_map, ns_length]
theorem nil_shift (d : Int) (l m : List Nat) (h : ns m = (ns l).map (· + d)) : (m = []) = (l = []) := by
  have := len_shift d l m h
  cases l <;> cases m <;> simp at *
theorem restB_shift (a a2 : Nat) (d : Int) (ha : (a2 : Int) = (a : Int) + d) (ls k : Nat) (r r2 : List Nat) (h : ns r2 = (ns r).map (· + d)) : restB a2 ls k r2 = restB a ls k r := by
  have hp := shrS_parts d ls (rs r) (rs r2) (rs_shift d r r2 h)
  have e1 : rnu (a2 : Int) ls (rsR ls r2) = rnu (a : Int) ls (rsR ls r) := by
    rw [ha]
    refine rnu_shift d a ls _ _ ?_
    unfold rsR
    split
    · rfl
    · exact hp.1
  have e2 : (rsR ls r2).length = (rsR ls r).length := by
    unfold rsR
    split
    · rfl
    · rw [← rz_length, hp.1, List.length_map, rz_length]
  have e3 : ns (rsS ls r2) = (ns (rsS ls r)).map (· + d) := by
    unfold rsS
    split
    · exact h
    · exact hp.2
  have e4 : gps (a2 : Int) (rsS ls r2) = gps (a : Int) (rsS ls r) := by rw [ha]; exact gps_shift d a _ _ e3
  unfold restB runB
  rw [e1, e2, e4]
  simp only [nil_shift d r r2 h]
theorem sbits_shift (a a2 : Nat) (d : Int) (ha : (a2 : Int) = (a : Int) + d) (bk ls k : Nat) (l l2 F F2 : List Nat) (h : ns l2 = (ns l).map (· + d)) (hF : bk ≠ 0 → ns F2 = (ns F).map (· + d)) : sbits a2 bk ls k l2 F2 = sbits a bk ls k l F := by
  unfold sbits bksB bksR
  simp only [nil_shift d l l2 h]
  rw [len_shift d l l2 h]
  by_cases hb : bk = 0
  · rw [if_pos hb, if_pos hb, if_pos hb, if_pos hb, restB_shift a a2 d ha ls k l l2 h]
  · rw [if_neg hb, if_neg hb, if_neg hb, if_neg hb, bks_shift d l l2 F F2 h (hF hb), restB_shift a a2 d ha ls k _ _ (notin_shift d F F2 (hF hb) l l2 h)]
theorem sw_shift (a : Nat) (l : List Nat) (hl : Rising l) (b s k : Nat) (hb : b ≤ 7) (hs : s = 0 ∨ 2 ≤ s ∧ s ≤ 300) (hk : 1 ≤ k) (hk2 : k ≤ 16) (F : List Nat) (hF : b ≠ 0 → Rising F) (d : Int) (zs : List Int) (hz : b ≠ 0 → zs = (ns F).map (· + d)) (hlen : (sbits a b s k l F).length ≤ 8192) :
    swF ((a : Int) + d) ((ns l).map (· + d)) zs (b : Int) (s : Int) (k : Int) = 3 ∨ (swF ((a : Int) + d) ((ns l).map (· + d)) zs (b : Int) (s : Int) (k : Int) = 0 ∧ swL ((a : Int) + d) ((ns l).map (· + d)) zs (b : Int) (s : Int) (k : Int) = sbits a b s k l F) := by
  have three : swE ((a : Int) + d) ((ns l).map (· + d)) zs (b : Int) (s : Int) (k : Int) = 3 → swF ((a : Int) + d) ((ns l).map (· + d)) zs (b : Int) (s : Int) (k : Int) = 3 := fun h => by unfold swF; rw [h]; rfl
  have h0 : hck (b : Int) (s : Int) (k : Int) = 0 := hck_ok b s k hb hs hk hk2
  have eT : rgE (0 : Int) [true] = 0 := by decide
  have eF : rgE (0 : Int) [false] = 3 := by decide
  by_cases h1 : okN ((a : Int) + d) = true
  · obtain ⟨a2, e1, ha2⟩ := okN_true h1
    rcases rchk_shift d l hl with h2 | h2
    · obtain ⟨l2, e2, hl2⟩ := rchk_zero _ h2
      have key : ∀ F2, (b ≠ 0 → zs = ns F2) → (b ≠ 0 → rchk zs = 0) → swF ((a : Int) + d) ((ns l).map (· + d)) zs (b : Int) (s : Int) (k : Int) = 0 ∧ swL ((a : Int) + d) ((ns l).map (· + d)) zs (b : Int) (s : Int) (k : Int) = sbits a b s k l F := fun F2 e3 h3 => by
        have hsb : sbits a2 b s k l2 (tn zs) = sbits a b s k l F := sbits_shift a a2 d e1.symm b s k l l2 F (tn zs) e2.symm (fun hb0 => by rw [e3 hb0, tn_ns, ← e3 hb0]; exact hz hb0)
        have h4 := swF_in a2 ha2 l2 hl2 b s k hb hs hk hk2 zs h3 (by rw [hsb]; exact hlen)
        rw [e1, e2]
        exact ⟨h4.1, h4.2.trans hsb⟩
      by_cases hb0 : b = 0
      · exact .inr (key [] (fun h => absurd hb0 h) (fun h => absurd hb0 h))
      · have hzz := hz hb0
        rcases rchk_shift d F (hF hb0) with h3 | h3
        · obtain ⟨F2, e3, hF2⟩ := rchk_zero _ h3
          exact .inr (key F2 (fun _ => hzz.trans e3) (fun _ => by rw [hzz]; exact h3))
        · refine .inl (three ?_)
          unfold swE
          rw [h0, h1, eT, if_neg (fun c => c rfl), h2, if_neg (fun c => c rfl), if_neg (by omega), hzz]
          exact h3
    · refine .inl (three ?_)
      unfold swE
      rw [h0, h1, eT, if_neg (fun c => c rfl), h2, if_pos (by decide)]
  · refine .inl (three ?_)
    have h1' : okN ((a : Int) + d) = false := by simpa using h1
    unfold swE
    rw [h0, h1', eF, if_pos (by decide)]
end

section
set_option maxRecDepth 100000
set_option linter.unusedVariables false
open Go.RowKit Go.Shelf

theorem take_snocS (xs : List Int) (i : Nat) (h : i < xs.length) : xs.take (i + 1) = xs.take i ++ [xs[i]?.getD 0] := by
  rw [List.take_succ_eq_append_getElem h, List.getElem?_eq_getElem h]; rfl
def ShRelS (xs : List Int) (d : Int) (w : World) (v p : Value) (wr : World) : Prop :=
  ∃ i : Nat, i ≤ xs.length ∧ p = .int .i64 (i : Int) ∧ wr.ownsRow w.heap.size 3 1 v i (zc ((xs.map (· + d)).take i)) ∧ Below w.heap.size w wr
theorem row1 (w : World) (u : Int) : RdV (w.alloc (.cells #[.int .i64 u] 3)) (w.alloc (.cells #[.int .i64 u] 3)).heap.size (some ⟨w.heap.size, 0, none⟩) [.int .i64 u] := by
  refine .inr ⟨w.heap.size, 0, rfl, by simp, fun i v hi => ?_⟩
  rw [cell_of_row _ _ _ _ _ _ (World.alloc_heap_new w (.cells #[.int .i64 u] 3))]
  simpa using hi
def MvP (w : World) (n : Nat) (zs : List Int) (e : Ending) (w' : World) : Prop := ∃ A2 c2, e = .returned (.slice A2 n c2) ∧ n ≤ c2 ∧ (A2 = none → c2 = 0) ∧ RdV w' w'.heap.size A2 (zc zs) ∧ Below w.heap.size w w'
set_option maxHeartbeats 4000000 in
theorem smove_any (xs : List Int) (n : Nat) (hn : xs.length = n) (hn2 : n ≤ 300) (d : Int) (hd1 : -1048576 ≤ d) (hd2 : d ≤ 1048576) (hx : ∀ x ∈ xs, 0 ≤ x ∧ x ≤ 1048576) (A : Option Addr) (c B : Nat) (w : World) (hB : w.heap[B]? = some (.cells #[.int .i64 d] 3 (0, 0))) (h : RdV w w.heap.size A (zc xs)) :
    Calls Tryz.prog 27 (#[.slice A n c] ++ #[.pointer (some ⟨B, 0, none⟩)]) w (MvP w n (xs.map (· + d))) := by
  show Calls Tryz.prog 27 #[.slice A n c, .pointer (some ⟨B, 0, none⟩)] w _
  have hBl : B < w.heap.size := (Array.getElem?_eq_some_iff.1 hB).1
  have hBc : w.cell? ⟨B, 0, none⟩ = some (.int .i64 d) := (cell_at hB _).trans rfl
  have HBx : Hid (∀ V, Below w.heap.size w V → V.cell? ⟨B, 0, none⟩ = some (.int .i64 d)) := fun V hV => (hV.cell (p := ⟨B, 0, none⟩) hBl).trans hBc
  have HA := Lib.hid h
  have HN := Lib.hid hn
  have HX := Lib.hid hx
  have HML : Hid ((xs.map (· + d)).length = n) := by show _ = _; rw [List.length_map]; exact hn
  clear hB hBl hBc h hn hx
  go_enter Tryz.func27, Tryz.ntmps27
  go_wp2
  go_loopw [4, 5] (fun v p wr => ShRelS xs d w v p wr) (fun _ p _ => n - (intOf p).toNat)
  case atStart => exact ⟨0, Nat.zero_le _, rfl, ⟨rfl, .inl ⟨rfl, rfl⟩⟩, Below.refl _ _⟩
  case round =>
    obtain ⟨i, hi', rfl, hrow, hbel⟩ := hrel
    rw [HN.out] at hi'
    have hbc := HBx.out wr hbel
    by_cases hlt : i < n
    · have hin : i < xs.length := by rw [HN.out]; exact hlt
      obtain ⟨b, off, rfl, hb, hcx⟩ := HA.out.at_ (zc_get xs i hin)
      have hxi := HX.out (xs[i]?.getD 0) (by rw [List.getElem?_eq_getElem hin]; exact List.getElem_mem hin)
      have htk := take_snocS (xs.map (· + d)) i (by rw [HML.out]; exact hlt)
      rw [List.getElem?_map, List.getElem?_eq_getElem hin] at htk
      rw [List.getElem?_eq_getElem hin] at hcx hxi
      simp only [Option.map_some, Option.getD_some] at htk hcx hxi
      obtain ⟨x, hx0⟩ : ∃ x, xs[i] = x := ⟨_, rfl⟩
      rw [hx0] at hcx htk hxi
      obtain ⟨hx1, hx2⟩ := hxi
      have tw : IntKind.i64.wrap (x + d) = x + d := IntWalk.i64_in _ (by omega)
      have hzz : zc ((xs.map (· + d)).take i) ++ [Value.int .i64 (x + d)] = zc ((xs.map (· + d)).take (i + 1)) := by rw [htk, zc_append]; rfl
      have HZZ := Lib.hid hzz; clear hzz htk hx0
      have HB2 := Lib.hid hbel; clear hbel
      have HRow := Lib.hid hrow
      have HK : Hid (∀ V, Below w.heap.size w V → V.cell? ⟨b, off + i, none⟩ = some (.int .i64 x) ∧ V.cell? ⟨B, 0, none⟩ = some (.int .i64 d)) := fun V hV => ⟨(hV.cell (p := ⟨b, off + i, none⟩) hb).trans hcx, HBx.out V hV⟩
      replace hcx := (HB2.out.cell (p := ⟨b, off + i, none⟩) hb).trans hcx
      obtain ⟨Av, cv, rfl⟩ := own_slice3 hrow
      clear hrow
      obtain ⟨i0, hi, hz0, hz1, hz2⟩ := info_parts info3
      go_wp2_with fail
      go_region_held3 (fun w' => w'.cell? ⟨b, off + i, none⟩ = some (.int .i64 x) ∧ w'.cell? ⟨B, 0, none⟩ = some (.int .i64 d))
        ((refine HK.out _ ?_; first | exact hk2.out | exact HB2.out.drew.alloc HB2.out.size _ | exact HB2.out.drew))
        (first | (refine app3s (by rfl) _ _ (by rfl) w.heap.size (.slice Av i cv) i (zc ((xs.map (· + d)).take i)) (by rfl) ((own_drew HRow.out).alloc _) (some ⟨wr.heap.size, 0, none⟩) 1 1 [.int .i64 (x + d)] (by rfl) (row1 wr.drew (x + d)) rfl (by simp [Value.oneCell']) (fun h => by cases h) (by omega) (by have := HB2.out.size; simp; omega) ?_; intro v3 w3 hown3 hgrow3; have HO3 := Lib.hid hown3; have hk2 : Hid (Below w.heap.size w w3) := join_grown (HB2.out.drew.alloc HB2.out.size _) (Nat.le_refl _) (by have := HB2.out.size; simp; omega) ((own_drew HRow.out).alloc _) hgrow3; clear hown3 hgrow3))
      rw [HZZ.out] at HO3
      go_wp2
      go_roundw
      case rel => exact ⟨i + 1, by rw [HN.out]; omega, by go_num, HO3.out, hk2.out⟩
      case measure => simp [intOf]; omega
    · have e : (xs.map (· + d)).take i = xs.map (· + d) := List.take_of_length_le (by rw [HML.out]; omega)
      rw [e] at hrow
      obtain rfl : i = n := by omega
      obtain ⟨Av, cv, rfl⟩ := own_slice3 hrow
      have HRd := Lib.hid (own_rdvT hrow)
      have HCp := Lib.hid (own_capT hrow)
      have HBl := Lib.hid hbel
      clear hrow hbel e
      go_wp2
      go_ret
      exact ⟨Av, cv, rfl, HCp.out.1, HCp.out.2, HRd.out, HBl.out⟩
end

section
set_option linter.unusedVariables false

/-- An arc: from where, and to where. -/
abbrev Ar := Nat × Nat
/-- The arcs of lists, the first list being that of node o. -/
def arcs : Nat → List (List Nat) → List Ar
  | _, [] => []
  | o, l :: t => l.map (fun x => (o, x)) ++ arcs (o + 1) t
/-- A graph that is right. -/
structure GOk (g : List (List Nat)) : Prop where
  nodes : g.length ≤ 100
  ris : ∀ l ∈ g, l.Pairwise (· < ·)
  bd : ∀ l ∈ g, ∀ x ∈ l, x < g.length
  many : (arcs 0 g).length ≤ 600
/-- What a node's list has. -/
def row (g : List (List Nat)) (i : Nat) : List Nat := g[i]?.getD []
theorem row_mem {g : List (List Nat)} {i : Nat} (h : i < g.length) : row g i ∈ g := by
  unfold row; rw [List.getElem?_eq_getElem h]; exact List.getElem_mem h
theorem row_out {g : List (List Nat)} {i : Nat} (h : g.length ≤ i) : row g i = [] := by
  unfold row; rw [List.getElem?_eq_none h]; rfl
theorem arcs_mem : ∀ (g : List (List Nat)) (o : Nat) (a : Ar), a ∈ arcs o g ↔ o ≤ a.1 ∧ a.2 ∈ row g (a.1 - o)
  | [], o, a => by simp [arcs, row]
  | l :: t, o, a => by
    unfold arcs
    rw [List.mem_append, arcs_mem t (o + 1) a]
    constructor
    · rintro (h | ⟨h1, h2⟩)
      · obtain ⟨x, hx, rfl⟩ := List.mem_map.1 h
        exact ⟨Nat.le_refl _, by simpa [row] using hx⟩
      · refine ⟨by omega, ?_⟩
        unfold row at h2 ⊢
        rw [show a.1 - o = (a.1 - (o + 1)) + 1 by omega, List.getElem?_cons_succ]; exact h2
    · rintro ⟨h1, h2⟩
      by_cases e : a.1 = o
      · left
        refine List.mem_map.2 ⟨a.2, ?_, by rw [← e]⟩
        rw [e, Nat.sub_self] at h2
        simpa [row] using h2
      · right
        refine ⟨by omega, ?_⟩
        unfold row at h2 ⊢
        rw [show a.1 - o = (a.1 - (o + 1)) + 1 by omega, List.getElem?_cons_succ] at h2; exact h2
theorem arcs_mem0 (g : List (List Nat)) (a : Ar) : a ∈ arcs 0 g ↔ a.2 ∈ row g a.1 := by rw [arcs_mem]; simp
theorem arcs_nodup : ∀ (g : List (List Nat)) (o : Nat), (∀ l ∈ g, l.Pairwise (· < ·)) → (arcs o g).Nodup
  | [], o, _ => by simp [arcs]
  | l :: t, o, h => by
    unfold arcs
    refine List.nodup_append.2 ⟨?_, arcs_nodup t (o + 1) (fun m hm => h m (by simp [hm])), ?_⟩
    · have := h l (by simp)
      exact List.pairwise_map.2 (this.imp fun {a b} hab e => by simp at e; omega)
    · rintro a ha b hb rfl
      obtain ⟨x, _, rfl⟩ := List.mem_map.1 ha
      have := ((arcs_mem t (o + 1) _).1 hb).1
      simp at this
      omega
theorem arcs_fst : ∀ (g : List (List Nat)) (o : Nat), ∀ a ∈ arcs o g, o ≤ a.1 ∧ a.1 < o + g.length := by
  intro g o a h
  have := (arcs_mem g o a).1 h
  refine ⟨this.1, ?_⟩
  by_cases hl : a.1 - o < g.length
  · omega
  · rw [row_out (by omega)] at this; simp at this
theorem arcs_snoc : ∀ (g : List (List Nat)) (o : Nat) (l : List Nat), arcs o (g ++ [l]) = arcs o g ++ l.map (fun x => (o + g.length, x))
  | [], o, l => by simp [arcs]
  | m :: t, o, l => by
    rw [List.cons_append]
    unfold arcs
    rw [arcs_snoc t (o + 1) l, List.append_assoc, List.length_cons, show o + 1 + t.length = o + (t.length + 1) by omega]
theorem arcs_bd {g : List (List Nat)} (h : GOk g) : ∀ a ∈ arcs 0 g, a.1 < g.length ∧ a.2 < g.length := by
  intro a ha
  have h1 := (arcs_fst g 0 a ha).2
  rw [Nat.zero_add] at h1
  exact ⟨h1, h.bd _ (row_mem h1) _ ((arcs_mem0 g a).1 ha)⟩
theorem row_ris {g : List (List Nat)} (h : GOk g) (i : Nat) : (row g i).Pairwise (· < ·) := by
  by_cases hi : i < g.length
  · exact h.ris _ (row_mem hi)
  · rw [row_out (by omega)]; exact .nil

/-- Two rising lists that have the same numbers are one. -/
theorem ris_ext {a b : List Nat} (ha : a.Pairwise (· < ·)) (hb : b.Pairwise (· < ·)) (h : ∀ x, x ∈ a ↔ x ∈ b) : a = b := by
  have na : a.Nodup := ha.imp (fun h => by omega)
  have nb : b.Nodup := hb.imp (fun h => by omega)
  exact sorted_uniq a b ((List.perm_ext_iff_of_nodup na nb).2 h) (ha.imp (fun h => by omega)) (hb.imp (fun h => by omega))
theorem graph_ext {a b : List (List Nat)} (hl : a.length = b.length) (ha : ∀ i, (row a i).Pairwise (· < ·)) (hb : ∀ i, (row b i).Pairwise (· < ·)) (h : ∀ i x, i < a.length → (x ∈ row a i ↔ x ∈ row b i)) : a = b := by
  apply List.ext_getElem hl
  intro i h1 h2
  have := ris_ext (ha i) (hb i) (fun x => h i x h1)
  unfold row at this
  rw [List.getElem?_eq_getElem h1, List.getElem?_eq_getElem h2] at this
  exact this

/-- Those to which arcs lead from a node, in the arcs' order. -/
def tos (L : List Ar) (i : Nat) : List Nat := (L.filter (fun a => a.1 == i)).map (·.2)
theorem tos_mem (L : List Ar) (i x : Nat) : x ∈ tos L i ↔ (i, x) ∈ L := by
  unfold tos
  simp only [List.mem_map, List.mem_filter]
  constructor
  · rintro ⟨⟨a, b⟩, ⟨h1, h2⟩, rfl⟩
    have : a = i := by simpa using h2
    subst this; exact h1
  · intro h; exact ⟨(i, x), ⟨h, by simp⟩, rfl⟩
theorem tos_nodup {L : List Ar} (h : L.Nodup) (i : Nat) : (tos L i).Nodup := by
  unfold tos
  have h1 : (L.filter (fun a => a.1 == i)).Nodup := h.filter _
  refine List.pairwise_map.2 (h1.imp_of_mem ?_)
  intro a b ha hb hab e
  have e1 := (List.mem_filter.1 ha).2
  have e2 := (List.mem_filter.1 hb).2
  simp at e1 e2
  exact hab (Prod.ext (e1.trans e2.symm) e)
theorem tos_snoc (L : List Ar) (a : Ar) (i : Nat) : tos (L ++ [a]) i = if a.1 = i then tos L i ++ [a.2] else tos L i := by
  unfold tos
  rw [List.filter_append, List.map_append]
  by_cases h : a.1 = i
  · rw [if_pos h]; simp [h]
  · rw [if_neg h]; simp [h]
theorem tos_length (L : List Ar) (i : Nat) : (tos L i).length ≤ L.length := by
  unfold tos; rw [List.length_map]; exact List.length_filter_le _ _
theorem tos_len_perm {a b : List Ar} (h : a.Perm b) (i : Nat) : (tos a i).length = (tos b i).length := by
  unfold tos; rw [List.length_map, List.length_map]; exact (h.filter _).length_eq
/-- The lists of a graph that is being made, in the arcs' order. -/
def rws (n : Nat) (L : List Ar) : List (List Nat) := (List.range n).map (tos L)
theorem rws_length (n : Nat) (L : List Ar) : (rws n L).length = n := by simp [rws]
theorem rws_row (n : Nat) (L : List Ar) (i : Nat) (h : i < n) : row (rws n L) i = tos L i := by
  unfold row rws; rw [List.getElem?_map, List.getElem?_range h]; rfl
/-- The graph of arcs. -/
def wa (n : Nat) (L : List Ar) : List (List Nat) := (rws n L).map nso
theorem wa_length (n : Nat) (L : List Ar) : (wa n L).length = n := by simp [wa, rws_length]
theorem wa_row (n : Nat) (L : List Ar) (i : Nat) (h : i < n) : row (wa n L) i = nso (tos L i) := by
  unfold row wa rws; rw [List.getElem?_map, List.getElem?_map, List.getElem?_range h]; rfl
theorem nso_ris {l : List Nat} (h : l.Nodup) : (nso l).Pairwise (· < ·) := by
  have h1 := nso_sorted l
  have h2 : (nso l).Nodup := ((nso_perm l).nodup_iff).2 h
  exact (List.pairwise_and_iff.2 ⟨h1, h2⟩).imp (fun {a b} h => by have := h.1; have := h.2; omega)
theorem wa_ris {n : Nat} {L : List Ar} (h : L.Nodup) (i : Nat) : (row (wa n L) i).Pairwise (· < ·) := by
  by_cases hi : i < n
  · rw [wa_row n L i hi]; exact nso_ris (tos_nodup h i)
  · rw [row_out (by rw [wa_length]; omega)]; exact .nil
theorem wa_mem (n : Nat) (L : List Ar) (i x : Nat) (h : i < n) : x ∈ row (wa n L) i ↔ (i, x) ∈ L := by
  rw [wa_row n L i h, (nso_perm _).mem_iff, tos_mem]
/-- Arcs that are those of a graph, in whatever order, make it. -/
theorem wa_eq {g : List (List Nat)} {L : List Ar} (hg : ∀ i, (row g i).Pairwise (· < ·)) (hn : L.Nodup) (h : ∀ i x, i < g.length → ((i, x) ∈ L ↔ x ∈ row g i)) : wa g.length L = g :=
  graph_ext (by rw [wa_length]) (wa_ris hn) hg (fun i x hi => by rw [wa_length] at hi; rw [wa_mem _ _ _ _ hi]; exact h i x hi)
theorem wa_perm {n : Nat} {a b : List Ar} (h : a.Perm b) (hn : a.Nodup) : wa n a = wa n b :=
  graph_ext (by rw [wa_length, wa_length]) (wa_ris hn) (wa_ris (h.nodup_iff.1 hn)) (fun i x hi => by
    rw [wa_length] at hi; rw [wa_mem _ _ _ _ hi, wa_mem _ _ _ _ hi]; exact h.mem_iff)
/-- The arcs of a graph that is made of arcs are these. -/
theorem wa_arcs {n : Nat} {L : List Ar} (hn : L.Nodup) (hb : ∀ a ∈ L, a.1 < n ∧ a.2 < n) : (arcs 0 (wa n L)).Perm L := by
  refine (List.perm_ext_iff_of_nodup (arcs_nodup _ _ (fun l hl => ?_)) hn).2 (fun a => ?_)
  · obtain ⟨i, hi, rfl⟩ := List.mem_iff_getElem.1 hl
    have := wa_ris (n := n) hn i
    unfold row at this
    rwa [List.getElem?_eq_getElem hi] at this
  · rw [arcs_mem0]
    by_cases h : a.1 < n
    · rw [wa_mem n L _ _ h]
    · rw [row_out (by rw [wa_length]; omega)]
      exact ⟨fun h' => by simp at h', fun h' => absurd (hb a h').1 h⟩
theorem wa_ok {n : Nat} {L : List Ar} (h100 : n ≤ 100) (hn : L.Nodup) (hb : ∀ a ∈ L, a.1 < n ∧ a.2 < n) (hl : L.length ≤ 600) : GOk (wa n L) where
  nodes := by rw [wa_length]; exact h100
  ris := fun l hl => by
    obtain ⟨i, hi, rfl⟩ := List.mem_iff_getElem.1 hl
    have := wa_ris (n := n) hn i
    unfold row at this
    rwa [List.getElem?_eq_getElem hi] at this
  bd := fun l hl x hx => by
    obtain ⟨i, hi, rfl⟩ := List.mem_iff_getElem.1 hl
    have hi' : i < n := by rw [wa_length] at hi; exact hi
    have : x ∈ row (wa n L) i := by unfold row; rw [List.getElem?_eq_getElem hi]; exact hx
    rw [wa_mem _ _ _ _ hi'] at this
    rw [wa_length]; exact (hb _ this).2
  many := by rw [(wa_arcs hn hb).length_eq]; exact hl
theorem wa_self {g : List (List Nat)} (h : GOk g) : wa g.length (arcs 0 g) = g :=
  wa_eq (row_ris h) (arcs_nodup g 0 h.ris) (fun i x _ => arcs_mem0 g (i, x))

/-- An arc the other way. -/
def rev (a : Ar) : Ar := (a.2, a.1)
theorem rev_rev (a : Ar) : rev (rev a) = a := rfl
theorem rev_inj {a b : Ar} (h : rev a = rev b) : a = b := by rw [← rev_rev a, h, rev_rev]
theorem rev_mem (L : List Ar) (a : Ar) : a ∈ L.map rev ↔ rev a ∈ L := by
  rw [List.mem_map]
  exact ⟨fun ⟨b, hb, e⟩ => by rw [← e, rev_rev]; exact hb, fun h => ⟨rev a, h, rfl⟩⟩
theorem rev_nodup {L : List Ar} (h : L.Nodup) : (L.map rev).Nodup := List.pairwise_map.2 (h.imp fun {a b} hab e => hab (rev_inj e))
/-- The graph turned. -/
def gturn (g : List (List Nat)) : List (List Nat) := wa g.length ((arcs 0 g).map rev)
theorem gturn_length (g : List (List Nat)) : (gturn g).length = g.length := wa_length _ _
theorem gturn_mem {g : List (List Nat)} {i x : Nat} (h : i < g.length) : x ∈ row (gturn g) i ↔ i ∈ row g x := by
  unfold gturn; rw [wa_mem _ _ _ _ h, rev_mem, arcs_mem0]; rfl
theorem gturn_ok {g : List (List Nat)} (h : GOk g) : GOk (gturn g) :=
  wa_ok h.nodes (rev_nodup (arcs_nodup g 0 h.ris)) (fun a ha => by have := arcs_bd h _ ((rev_mem _ a).1 ha); exact ⟨this.2, this.1⟩) (by rw [List.length_map]; exact h.many)
theorem gturn_turn {g : List (List Nat)} (h : GOk g) : gturn (gturn g) = g := by
  refine graph_ext (by rw [gturn_length, gturn_length]) (row_ris (gturn_ok (gturn_ok h))) (row_ris h) (fun i x hi => ?_)
  rw [gturn_length, gturn_length] at hi
  rw [gturn_mem (by rw [gturn_length]; exact hi)]
  by_cases hx : x < g.length
  · rw [gturn_mem hx]
  · rw [row_out (by rw [gturn_length]; omega)]
    exact ⟨fun h' => by simp at h', fun h' => absurd (h.bd _ (row_mem hi) _ h') hx⟩

/-- An arc is put into what there is. -/
def ains (S : List Ar) (a : Ar) : List Ar := if a ∈ S then S else S ++ [a]
theorem ains_mem (S : List Ar) (a b : Ar) : b ∈ ains S a ↔ b ∈ S ∨ b = a := by
  unfold ains
  split
  · exact ⟨fun h => .inl h, fun h => h.elim id (fun e => by rw [e]; assumption)⟩
  · simp
theorem ains_nodup {S : List Ar} (h : S.Nodup) (a : Ar) : (ains S a).Nodup := by
  unfold ains
  split
  · exact h
  · rename_i hn
    refine List.nodup_append.2 ⟨h, by simp, ?_⟩
    rintro x hx y hy rfl
    simp at hy; subst hy; exact hn hx
theorem ains_length (S : List Ar) (a : Ar) : (ains S a).length ≤ S.length + 1 := by unfold ains; split <;> simp
/-- All arcs and those the other way, each once. -/
def bth (L : List Ar) : List Ar := L.foldl (fun S a => ains (ains S a) (rev a)) []
theorem bth_snoc (L : List Ar) (a : Ar) : bth (L ++ [a]) = ains (ains (bth L) a) (rev a) := by simp [bth]
theorem bth_mem_fold (L : List Ar) (b : Ar) : ∀ S, b ∈ L.foldl (fun S a => ains (ains S a) (rev a)) S ↔ b ∈ S ∨ b ∈ L ∨ rev b ∈ L := by
  induction L with
  | nil => intro S; simp
  | cons a t ih =>
    intro S
    rw [List.foldl_cons, ih, ains_mem, ains_mem]
    have e : b = rev a ↔ rev b = a := ⟨fun h => by rw [h, rev_rev], fun h => by rw [← h, rev_rev]⟩
    rw [e]
    simp only [List.mem_cons]
    constructor
    · rintro (((h | h) | h) | h | h) <;> simp [h]
    · rintro (h | (h | h) | (h | h)) <;> simp [h]
theorem bth_mem (L : List Ar) (b : Ar) : b ∈ bth L ↔ b ∈ L ∨ rev b ∈ L := by unfold bth; rw [bth_mem_fold]; simp
theorem bth_nodup (L : List Ar) : (bth L).Nodup := by
  unfold bth
  have : ∀ (L S : List Ar), S.Nodup → (L.foldl (fun S a => ains (ains S a) (rev a)) S).Nodup := by
    intro L
    induction L with
    | nil => intro S h; exact h
    | cons a t ih => intro S h; exact ih _ (ains_nodup (ains_nodup h a) (rev a))
  exact this L [] (by simp)
theorem bth_length (L : List Ar) : (bth L).length ≤ 2 * L.length := by
  unfold bth
  have : ∀ (L S : List Ar), (L.foldl (fun S a => ains (ains S a) (rev a)) S).length ≤ S.length + 2 * L.length := by
    intro L
    induction L with
    | nil => intro S; simp
    | cons a t ih =>
      intro S
      have h1 := ih (ains (ains S a) (rev a))
      have h2 := ains_length (ains S a) (rev a)
      have h3 := ains_length S a
      rw [List.foldl_cons, List.length_cons]; omega
  have := this L []
  simpa using this
/-- The graph both ways. -/
def gboth (g : List (List Nat)) : List (List Nat) := wa g.length (bth (arcs 0 g))
theorem gboth_length (g : List (List Nat)) : (gboth g).length = g.length := wa_length _ _
theorem gboth_mem {g : List (List Nat)} {i x : Nat} (h : i < g.length) : x ∈ row (gboth g) i ↔ x ∈ row g i ∨ i ∈ row g x := by
  unfold gboth; rw [wa_mem _ _ _ _ h, bth_mem, arcs_mem0, arcs_mem0]; rfl
theorem bth_bd {g : List (List Nat)} (h : GOk g) : ∀ a ∈ bth (arcs 0 g), a.1 < g.length ∧ a.2 < g.length := fun a ha => by
  rcases (bth_mem _ a).1 ha with h1 | h1
  · exact arcs_bd h a h1
  · have := arcs_bd h _ h1; exact ⟨this.2, this.1⟩
theorem gboth_ok {g : List (List Nat)} (h : GOk g) (hl : (bth (arcs 0 g)).length ≤ 600) : GOk (gboth g) :=
  wa_ok h.nodes (bth_nodup _) (bth_bd h) hl
theorem gboth_arcs {g : List (List Nat)} (h : GOk g) : (arcs 0 (gboth g)).Perm (bth (arcs 0 g)) := wa_arcs (bth_nodup _) (bth_bd h)
theorem gboth_ris {g : List (List Nat)} (i : Nat) : (row (gboth g) i).Pairwise (· < ·) := wa_ris (bth_nodup _) i
theorem gboth_bd {g : List (List Nat)} (h : GOk g) {i x : Nat} (hi : i < g.length) (hx : x ∈ row (gboth g) i) : x < g.length := by
  rw [gboth_mem hi] at hx
  rcases hx with h1 | h1
  · exact h.bd _ (row_mem hi) _ h1
  · by_cases hx : x < g.length
    · exact hx
    · rw [row_out (by omega)] at h1; simp at h1
/-- Both ways a graph is its own gturn. -/
theorem gboth_turn {g : List (List Nat)} (h : GOk g) (hl : (bth (arcs 0 g)).length ≤ 600) : gturn (gboth g) = gboth g := by
  refine graph_ext (gturn_length _) (row_ris (gturn_ok (gboth_ok h hl))) gboth_ris (fun i x hi => ?_)
  rw [gturn_length, gboth_length] at hi
  rw [gturn_mem (by rw [gboth_length]; exact hi), gboth_mem hi]
  by_cases hx : x < g.length
  · rw [gboth_mem hx]; exact or_comm
  · rw [row_out (by rw [gboth_length]; omega), row_out (g := g) (i := x) (by omega)]
    refine ⟨fun h' => by simp at h', fun h' => ?_⟩
    rcases h' with h' | h'
    · exact absurd (h.bd _ (row_mem hi) _ h') hx
    · simp at h'
/-- Both ways again it is the same. -/
theorem gboth_both {g : List (List Nat)} (h : GOk g) (hl : (bth (arcs 0 g)).length ≤ 600) : gboth (gboth g) = gboth g ∧ (bth (arcs 0 (gboth g))).length ≤ 600 := by
  have hok := gboth_ok h hl
  have hm : ∀ a, a ∈ bth (arcs 0 (gboth g)) ↔ a ∈ arcs 0 (gboth g) := fun a => by
    rw [bth_mem]
    refine ⟨fun h' => h'.elim id (fun h1 => ?_), .inl⟩
    have ht := gboth_turn h hl
    have hb := arcs_bd hok _ h1
    rw [arcs_mem0] at h1 ⊢
    rw [← ht, gturn_mem (by exact hb.2)]
    exact h1
  have hp : (bth (arcs 0 (gboth g))).Perm (arcs 0 (gboth g)) := (List.perm_ext_iff_of_nodup (bth_nodup _) (arcs_nodup _ _ hok.ris)).2 hm
  refine ⟨?_, by rw [hp.length_eq]; exact hok.many⟩
  have : wa (gboth g).length (bth (arcs 0 (gboth g))) = wa (gboth g).length (arcs 0 (gboth g)) := wa_perm hp (bth_nodup _)
  show wa (gboth g).length _ = _
  rw [this, wa_self hok]
end
end Go.Proofs.YticdnodlapafoaaGreat
