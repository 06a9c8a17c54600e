/- The document's own lists and readers of gamma and delta codes; each with its conditions. -/
import Derived.Test.YtcacbekdghlncaaRefU
import Derived.Test.YtcacbekdghlncaaEPure
import Derived.Deep.RegionHeld3
namespace Go.Proofs.Ytcacbekdghlncaa
set_option maxRecDepth 100000
set_option linter.unusedVariables false
open Go.RowKit

theorem u64_i64 (k : Nat) (h : k < 9223372036854775808) : IntKind.u64.wrap (IntKind.i64.wrap (k : Int)) = (k : Int) := by
  simp [IntKind.wrap, IntKind.bits, IntKind.signed]; omega
/-- What is behind the first. -/
theorem rdv_rest {w : World} {A : Option Addr} {c k : Nat} {B : List Bool} (h : RdV w w.heap.size A (ic B)) (hl : B.length = k + 1) (hc : k + 1 ≤ c) :
    RdV w w.heap.size (if c = 1 then A else Option.map (fun x => { block := x.block, off := x.off + 1 }) A) (ic (B.drop 1)) := by
  by_cases h1 : c = 1
  · left
    rw [List.drop_of_length_le (by omega)]; rfl
  · rw [if_neg h1]
    rcases h with h | ⟨b, off, rfl, hb, hcell⟩
    · have := congrArg List.length h
      rw [ic_length, hl] at this
      simp at this
    · refine .inr ⟨b, off + 1, rfl, hb, fun i v hi => ?_⟩
      have e : ic (B.drop 1) = (ic B).drop 1 := by simp [ic]
      rw [e, List.getElem?_drop] at hi
      rw [Nat.add_assoc]
      exact hcell (1 + i) v hi
/-- A slice of one number, newly laid. -/
theorem own_lit1 (w : World) (base : Nat) (hb : base ≤ w.heap.size) (u : Value) : (w.alloc (.cells #[u] 3)).ownsRow base 3 1 (.slice (some ⟨w.heap.size, 0, none⟩) 1 1) 1 [u] :=
  ⟨rfl, .inr ⟨w.heap.size, 1, #[u], rfl, hb, World.alloc_heap_new w _, Nat.le_refl _, by decide, rfl, rfl⟩⟩

/-- At each round's head: j bits have been written. -/
def BiRel (w : World) (n : Nat) (v p : Value) (wr : World) : Prop :=
  ∃ j : Nat, v = .int .u64 ((n / 2 ^ j : Nat) : Int) ∧ wr.ownsRow w.heap.size 3 1 p j (ic (nb n j)) ∧ Below w.heap.size w wr ∧ (j = 0 ∨ 2 ^ j ≤ 2 * n)

theorem bi_bit (n j : Nat) : ic (nb n (j + 1)) = [.int .i64 (((n / 2 ^ j : Nat) : Int) % 2)] ++ ic (nb n j) := by
  rw [nb_succ]
  generalize n / 2 ^ j = y
  have e : (((y % 2 == 1).toNat : Nat) : Int) = (y : Int) % 2 := by
    rcases (show y % 2 = 0 ∨ y % 2 = 1 by omega) with h | h
    · rw [h]; have : (y : Int) % 2 = 0 := by omega
      rw [this]; rfl
    · rw [h]; have : (y : Int) % 2 = 1 := by omega
      rw [this]; rfl
  simp [ic, e]

set_option maxHeartbeats 1000000 in
theorem binary_any (n K : Nat) (hn : n < 18446744073709551616) (h0 : 1 ≤ n) (h1 : n < 2 ^ K) (h2 : 2 ^ K ≤ 2 * n) (L : List Bool) (hL : L = nb n K) (w : World) :
    Calls Try.prog 59 #[.int .u64 (n : Int)] w (Listed w L) := by
  have HL := Lib.hid hL; clear hL
  have H1 := Lib.hid h1; clear h1
  have H2 := Lib.hid h2; clear h2
  go_enter Try.func59, Try.ntmps59
  go_wp2
  go_loopw [0, 3] (fun v p wr => BiRel w n v p wr) (fun v _ _ => (intOf v).toNat)
  case atStart => exact ⟨0, by rw [Nat.pow_zero, Nat.div_one], ⟨rfl, .inl ⟨rfl, rfl⟩⟩, Below.refl _ _, .inl rfl⟩
  case round =>
    obtain ⟨j, rfl, hrow, hbel, hj⟩ := hrel
    obtain ⟨Av, cv, rfl⟩ := own_slice3 hrow
    have hyn : n / 2 ^ j ≤ n := Nat.div_le_self _ _
    have HBel := Lib.hid hbel; clear hbel
    have HJ := Lib.hid hj; clear hj
    by_cases hlt : 0 < n / 2 ^ j
    · have HP : Hid (2 ^ j ≤ n) := by
        show _ ≤ _
        rcases Nat.lt_or_ge n (2 ^ j) with h | h
        · rw [Nat.div_eq_of_lt h] at hlt; omega
        · exact h
      have HJs : Hid ((j + 1) * 8 ≤ 140737488355328) := by
        have h64 : 2 ^ j < 2 ^ 64 := Nat.lt_of_le_of_lt HP.out hn
        have := pow_inj_le h64
        show _ ≤ _
        omega
      have HH : Hid (n / 2 ^ (j + 1) = n / 2 ^ j / 2) := by
        show _ = _
        rw [Nat.pow_succ, Nat.div_div_eq_div_mul]
      have HBit := Lib.hid (bi_bit n j)
      have HRow := Lib.hid hrow; clear hrow
      generalize n / 2 ^ j = y at *
      go_wp2_with (at_builtin; refine app3 rfl _ _ rfl w.heap.size _ 1 _ rfl (own_lit1 wr w.heap.size HBel.out.size _) Av j cv (ic (nb n j)) rfl (own_rdv (HRow.out.alloc _)) (by rw [ic_length, nb_length]) (ic_one _) (own_none HRow.out) (by have := HJs.out; omega) (by have := HBel.out.size; simp; omega) ?_; intro v' w3 hown' hgrow; obtain ⟨A3, c3, rfl⟩ := own_slice3 hown'; rw [Nat.add_comm 1 j] at hown' ⊢)
      have HGr := Lib.hid hgrow; clear hgrow
      have HOw := Lib.hid hown'; clear hown'
      refine ⟨⟨j + 1, by rw [HH.out]; go_num, ?_, (HBel.out.alloc HBel.out.size _).grown HGr.out (by have := HBel.out.size; simp; omega) (fun k hk => ((own_lit1 wr w.heap.size HBel.out.size (.int .i64 0)).lt k hk).1), .inr (by have := HP.out; rw [Nat.pow_succ]; omega)⟩, by simp [intOf]; omega⟩
      rw [HBit.out]
      exact HOw.out
    · have e0 : n / 2 ^ j = 0 := Nat.eq_zero_of_not_pos hlt
      have hjK : j = K := by
        have hnj : n < 2 ^ j := by
          rcases Nat.div_eq_zero_iff.1 e0 with h | h
          · have := Nat.two_pow_pos j; omega
          · exact h
        rcases HJ.out with rfl | h
        · rw [Nat.pow_zero] at hnj; omega
        · have a := pow_inj_le (a := j) (b := K + 1) (by have := H1.out; rw [Nat.pow_succ]; omega)
          have b := pow_inj_le (a := K) (b := j + 1) (by have := H2.out; rw [Nat.pow_succ]; omega)
          omega
      have HF : Hid (Listed w L (.returned (.slice Av j cv)) wr) := by
        have hl : L.length = j := by rw [HL.out, nb_length, hjK]
        refine ⟨Av, cv, by rw [hl], ?_, HBel.out⟩
        rw [hl, HL.out, ← hjK]
        exact hrow
      clear hrow HJ H1 H2
      rw [e0]
      go_wp2
      go_ret
      exact HF.out

/-- At each round's head: i - 1 noughts. -/
def GLRel (w1 : World) (k : Nat) (v p : Value) (wr : World) : Prop :=
  ∃ i : Nat, i ≤ k ∧ p = .int .i64 ((i : Int) + 1) ∧ wr.ownsRow w1.heap.size 3 1 v i (ic (List.replicate i false)) ∧ Below w1.heap.size w1 wr

set_option maxHeartbeats 1000000 in
theorem gammaList_any (n : Nat) (hn : n ≤ 1099511627776) (L : List Bool) (hL : L = gam n) (w : World) :
    Calls Try.prog 21 #[.int .u64 (n : Int)] w (Listed w L) := by
  obtain ⟨i0, hi, hz0, hz1, hz2⟩ := info_parts info3
  have a := lg_le n
  have b := lg_lt n
  have hk := lg_lt_of n 41 (by omega)
  have HBi := Lib.hid (binary_any (n + 1) (lg n + 1) (by omega) (by omega) b (by rw [Nat.pow_succ]; omega) _ rfl)
  have HL : Hid (L = List.replicate (lg n) false ++ nb (n + 1) (lg n + 1)) := by
    show _ = _
    rw [hL, nb_top _ _ a b]; simp [gam, uc]
  clear hL a b
  have HLen : Hid ((nb (n + 1) (lg n + 1)).length = lg n + 1) := nb_length _ _
  generalize nb (n + 1) (lg n + 1) = B at *
  generalize lg n = k at *
  go_enter Try.func21, Try.ntmps21
  go_wp2_with fail
  refine (HBi.out _).mono ?_
  rintro e w1 ⟨A1, c1, rfl, ho1, hb1⟩
  rw [HLen.out] at ho1 ⊢
  have HO1 := Lib.hid ho1; clear ho1
  have HB1 := Lib.hid hb1; clear hb1
  go_wp2
  go_loopw [4, 5] (fun v p wr => GLRel w1 k v p wr) (fun _ p _ => k + 1 - (intOf p).toNat)
  case atStart => exact ⟨0, Nat.zero_le _, rfl, ⟨rfl, .inl ⟨rfl, rfl⟩⟩, Below.refl _ _⟩
  case round =>
    obtain ⟨i, him, rfl, hrow, hbel⟩ := hrel
    obtain ⟨Av, cv, rfl⟩ := own_slice3 hrow
    have HBel := Lib.hid hbel; clear hbel
    by_cases hlt : i < k
    · go_wp2_with (at_builtin; refine wpList_append_own _ rfl _ _ 34 rfl w1.heap.size 3 i0 (.int .i64 0) 1 8 Try.underlying34 hi hz0 hz1 hz2 rfl (by decide) _ _ _ rfl (hrow.alloc _) ⟨wr.heap.size, 0, none⟩ 1 1 [.int .i64 0] rfl rfl (cell_one_new _ _ _) (by simp [Value.oneCell']) (by unfold maxLen; omega) (by omega) (by have := HBel.out.size; simp; omega) ?_; intro v' w3 hown' hgrow _; obtain ⟨g', cap', rfl⟩ := ownsRow_succ hown')
      have HGr := Lib.hid hgrow; clear hgrow
      have HOw := Lib.hid hown'; clear hown'
      go_roundw
      case rel =>
        refine ⟨i + 1, by omega, by go_num, ?_, (HBel.out.alloc HBel.out.size _).grown HGr.out (by have := HBel.out.size; simp; omega) (fun k hk => (hrow.lt k hk).1)⟩
        rw [List.replicate_succ', ic_append]
        exact HOw.out
      case measure => simp [intOf]; omega
    · have e : i = k := by omega
      subst e
      have HRow := Lib.hid hrow; clear hrow
      have HR1 : Hid (RdV wr wr.heap.size A1 (ic B)) := (own_rdv HO1.out).on HBel.out
      have HN1 := Lib.hid (own_none HO1.out)
      have HLb : Hid ((ic B).length = i + 1) := by show _ = _; rw [ic_length, HLen.out]
      go_wp2_with (at_builtin; refine app3 rfl _ _ rfl w1.heap.size _ i (ic (List.replicate i false)) rfl HRow.out A1 (i + 1) c1 (ic B) rfl HR1.out HLb.out (ic_one _) HN1.out (by omega) HBel.out.size ?_; intro v' w3 hown' hgrow; obtain ⟨A3, c3, rfl⟩ := own_slice3 hown')
      have HF : Hid (Listed w L (.returned (.slice A3 (i + (i + 1)) c3)) w3) := by
        have hl : L.length = i + (i + 1) := by rw [HL.out, List.length_append, List.length_replicate, HLen.out]
        refine ⟨A3, c3, by rw [hl], ?_, ?_⟩
        · rw [hl, HL.out, ic_append]
          exact own_base hown' HB1.out.size
        · exact HB1.out.trans ((HBel.out.grown hgrow HBel.out.size (fun k hk => (HRow.out.lt k hk).1)).mono HB1.out.size)
      clear hown' hgrow
      go_ret
      exact HF.out

set_option maxHeartbeats 2000000 in
theorem deltaList_any (n : Nat) (hn : n ≤ 1099511627776) (L : List Bool) (hL : L = del n) (w : World) :
    Calls Try.prog 22 #[.int .u64 (n : Int)] w (Listed w L) := by
  have a := lg_le n
  have b := lg_lt n
  have hk := lg_lt_of n 41 (by omega)
  have hj := lg_lt_of (lg n) 6 (by omega)
  have HBi := Lib.hid (binary_any (n + 1) (lg n + 1) (by omega) (by omega) b (by rw [Nat.pow_succ]; omega) _ rfl)
  have HGa : Hid (∀ V : World, Calls Try.prog 21 #[.int .u64 (lg n : Int)] V.drew fun e w' => ∃ A c, e = .returned (.slice A (gam (lg n)).length c) ∧ w'.ownsRow V.heap.size 3 1 (.slice A (gam (lg n)).length c) (gam (lg n)).length (ic (gam (lg n))) ∧ Below V.heap.size V w') := fun V =>
    (gammaList_any (lg n) (by omega) _ rfl V.drew).mono fun _ _ h => listed_drew h
  have HL : Hid (L = gam (lg n) ++ (nb (n + 1) (lg n + 1)).drop 1) := by
    show _ = _
    rw [hL, nb_top _ _ a b]; rfl
  have hgl : (gam (lg n)).length = 2 * lg (lg n) + 1 := gam_length _
  clear hL a b
  have HLen : Hid ((nb (n + 1) (lg n + 1)).length = lg n + 1) := nb_length _ _
  generalize nb (n + 1) (lg n + 1) = B at *
  have hgs : (gam (lg n)).length ≤ 20 := by omega
  clear hgl hj
  generalize gam (lg n) = G at *
  generalize hGn : G.length = gl at *
  generalize lg n = k at *
  go_enter Try.func22, Try.ntmps22
  go_wp2_with fail
  refine (HBi.out _).mono ?_
  rintro e w1 ⟨A1, c1, rfl, ho1, hb1⟩
  rw [HLen.out] at ho1 ⊢
  have HO1 := Lib.hid ho1; clear ho1
  have HB1 := Lib.hid hb1; clear hb1
  have hcap := own_cap HO1.out
  have HW := Lib.hid (u64_i64 k (by omega))
  have k1 : (1 : Int) ≤ (k : Int) + 1 := by omega
  have HD : Hid ((ic (B.drop 1)).length = k) := by show _ = _; rw [ic_length, List.length_drop, HLen.out]; omega
  have HNo : Hid ((if c1 = 1 then A1 else Option.map (fun x => { block := x.block, off := x.off + 1 }) A1) = none → c1 - 1 = 0) := by
    intro h
    by_cases h1 : c1 = 1
    · omega
    · rw [if_neg h1, Option.map_eq_none_iff] at h
      have := own_none HO1.out h; omega
  have HRc : Hid (∀ w' : World, Below w1.heap.size w1 w' → RdV w' w'.heap.size (if c1 = 1 then A1 else Option.map (fun x => { block := x.block, off := x.off + 1 }) A1) (ic (B.drop 1))) := fun w' h => rdv_rest ((own_rdv HO1.out).on h) HLen.out hcap
  have HFin : Hid (∀ (w3 : World) A3 c3, w3.ownsRow w1.heap.size 3 1 (.slice A3 (gl + k) c3) (gl + k) (ic G ++ ic (B.drop 1)) → Below w1.heap.size w1 w3 → Listed w L (.returned (.slice A3 (gl + k) c3)) w3) := by
    intro w3 A3 c3 h1 h2
    have hl : L.length = gl + k := by rw [HL.out, List.length_append, List.length_drop, HLen.out, hGn]; omega
    refine ⟨A3, c3, by rw [hl], ?_, HB1.out.trans (h2.mono HB1.out.size)⟩
    rw [hl, HL.out, ic_append]
    exact own_base h1 HB1.out.size
  by_cases hc1 : c1 = 1
  · subst hc1
    have hk0 : k = 0 := by omega
    rw [hk0] at HD HFin
    clear hk0
    have HRc' : Hid (∀ w' : World, Below w1.heap.size w1 w' → RdV w' w'.heap.size A1 (ic (B.drop 1))) := fun w' h => HRc.out w' h
    clear HRc HNo
    go_wp2_with fail
    go_region_held3 (fun _ => True) (trivial)
      (first
        | (go_at_call 21; rw [HW.out]; refine (HGa.out w1).mono ?_; rintro e w2 ⟨A2, c2, rfl, ho2, hb2⟩; have HO2 := Lib.hid ho2; have HB2 := Lib.hid hb2; clear ho2 hb2)
        | (refine app3s (by rfl) _ _ (by rfl) w1.heap.size (.slice A2 gl c2) gl (ic G) (by rfl) HO2.out A1 0 0 (ic (B.drop 1)) (by rfl) (HRc'.out w2 HB2.out) HD.out (ic_one _) (fun _ => rfl) (by omega) HB2.out.size ?_; intro v3 w3 hown3 hgrow3; obtain ⟨A3, c3, rfl⟩ := own_slice3 hown3; have HF := Lib.hid (HFin.out w3 A3 c3 hown3 (join_grown HB2.out (Nat.le_refl _) HB2.out.size HO2.out hgrow3)); clear hown3 hgrow3))
    go_wp2
    go_ret
    exact HF.out
  · have HRc' : Hid (∀ w' : World, Below w1.heap.size w1 w' → RdV w' w'.heap.size (Option.map (fun x => { block := x.block, off := x.off + 1 }) A1) (ic (B.drop 1))) := fun w' h => by have := HRc.out w' h; rwa [if_neg hc1] at this
    have HNo' : Hid (Option.map (fun x : Addr => ({ block := x.block, off := x.off + 1 } : Addr)) A1 = none → c1 - 1 = 0) := fun h => HNo.out (by rw [if_neg hc1]; exact h)
    clear HRc HNo
    go_wp2_with fail
    go_region_held3 (fun _ => True) (trivial)
      (first
        | (go_at_call 21; rw [HW.out]; refine (HGa.out w1).mono ?_; rintro e w2 ⟨A2, c2, rfl, ho2, hb2⟩; have HO2 := Lib.hid ho2; have HB2 := Lib.hid hb2; clear ho2 hb2)
        | (refine app3s (by rfl) _ _ (by rfl) w1.heap.size (.slice A2 gl c2) gl (ic G) (by rfl) HO2.out (Option.map (fun x => { block := x.block, off := x.off + 1 }) A1) k (c1 - 1) (ic (B.drop 1)) (by rfl) (HRc'.out w2 HB2.out) HD.out (ic_one _) HNo'.out (by omega) HB2.out.size ?_; intro v3 w3 hown3 hgrow3; obtain ⟨A3, c3, rfl⟩ := own_slice3 hown3; have HF := Lib.hid (HFin.out w3 A3 c3 hown3 (join_grown HB2.out (Nat.le_refl _) HB2.out.size HO2.out hgrow3)); clear hown3 hgrow3))
    go_wp2
    go_ret
    exact HF.out

set_option maxHeartbeats 1000000 in
/-- What is read behind a length. -/
theorem rest_any (l : List Bool) (n : Nat) (hl : l.length = n) (hn : n ≤ 8192) (A : Option Addr) (c s k : Nat) (hs : s ≤ n) (hk : k < 18446744073709551616) (r : Nat × Nat × Int) (hr : r = restR l s k) (hA : A = none → c = 0) (hc : n ≤ c) (w : World) (h : RdV w w.heap.size A (ic l)) :
    Calls Try.prog 63 #[.slice A n c, .int .i64 (s : Int), .int .u64 (k : Int)] w (ReadP w r.1 r.2.1 r.2.2) := by
  unfold restR at hr
  rw [hl] at hr
  by_cases h1 : 63 < k
  · rw [if_pos h1] at hr
    subst hr
    have t1 : decide ((63 : Int) < (k : Int)) = true := by simp; omega
    go_enter Try.func63, Try.ntmps63
    go_wp2
    go_ret3
    exact ⟨rfl, Below.refl _ _⟩
  · rw [if_neg h1] at hr
    have t1 : decide ((63 : Int) < (k : Int)) = false := by simp; omega
    by_cases h2 : n < s + k
    · rw [if_pos h2] at hr
      subst hr
      have t2 : decide ((n : Int) < (s : Int) + (k : Int)) = true := by simp; omega
      go_enter Try.func63, Try.ntmps63
      go_wp2
      go_ret3
      exact ⟨rfl, Below.refl _ _⟩
    · rw [if_neg h2] at hr
      have t2 : decide ((n : Int) < (s : Int) + (k : Int)) = false := by simp; omega
      have HR := Lib.hid (h.cut s k); clear h
      have HC : Hid (((ic l).drop s).take k = ic ((l.drop s).take k)) := (ic_cut l s k).symm
      have HT : Hid (((l.drop s).take k).length = k) := by show _ = _; rw [List.length_take, List.length_drop]; omega
      rw [HC.out] at HR
      have HNum : Hid (num (true :: (l.drop s).take k) = 2 ^ k + num ((l.drop s).take k)) := by
        show _ = _
        rw [num_cons, HT.out]; simp
      have hlt := num_lt ((l.drop s).take k)
      rw [HT.out] at hlt
      have hp := Nat.pow_le_pow_right (n := 2) (by omega) (show k ≤ 63 by omega)
      have hp0 := Nat.two_pow_pos k
      have HBN : Hid (∀ A c V, RdV V V.heap.size A (ic (true :: (l.drop s).take k)) → Calls Try.prog 84 #[.slice A (1 + k) c] V fun e w' => e = .returned (.int .u64 ((2 ^ k + num ((l.drop s).take k) : Nat) : Int)) ∧ V = w') := by
        intro A c V hV
        have := bitNum_any (true :: (l.drop s).take k) (1 + k) (by rw [List.length_cons, HT.out]; omega) (by omega) A c V hV
        rwa [HNum.out] at this
      clear HC HNum
      have HRi : Hid (RdV (w.alloc (.cells #[.int .i64 1] 3)) (w.alloc (.cells #[.int .i64 1] 3)).heap.size (if c = s then A else Option.map (fun x => x.add s) A) (ic ((l.drop s).take k))) := by
        by_cases e : c = s
        · have hk0 : k = 0 := by omega
          left; rw [hk0]; rfl
        · rw [if_neg e]; exact HR.out.on (one_below w _)
      have HNo : Hid ((if c = s then A else Option.map (fun x => x.add s) A) = none → c - s = 0) := by
        intro h
        by_cases e : c = s
        · omega
        · rw [if_neg e, Option.map_eq_none_iff] at h
          have := hA h; omega
      have HTl : Hid ((ic ((l.drop s).take k)).length = s + k - s) := by show _ = _; rw [ic_length, HT.out]; omega
      have HSk : Hid (1 + (s + k - s) = 1 + k) := by show _ = _; omega
      clear HR
      clear HT hA
      generalize num ((l.drop s).take k) = m at *
      generalize (l.drop s).take k = T at *
      have hq0 : 1 ≤ 2 ^ k + m := by omega
      have hq1 : 2 ^ k + m < 18446744073709551616 := by omega
      clear hp hp0 hlt
      generalize 2 ^ k + m = q at *
      have s0 : (0 : Int) ≤ (s : Int) := by omega
      have s1 : (s : Int) ≤ (s : Int) + (k : Int) := by omega
      have s2 : (s : Int) + (k : Int) ≤ (c : Int) := by omega
      by_cases h3 : 1099511627776 < q - 1
      · rw [if_pos h3] at hr
        subst hr
        have t3 : decide ((1099511627776 : Int) < (q : Int) - 1) = true := by simp; omega
        go_enter Try.func63, Try.ntmps63
        go_wp2_with (first | (go_at_call 84; refine (HBN.out _ _ _ HR3.out).mono ?_; rintro e _ ⟨rfl, rfl⟩) | (at_builtin; refine app3 rfl _ _ rfl w.heap.size _ 1 _ rfl (own_lit1 w w.heap.size (Nat.le_refl _) _) (if c = s then A else Option.map (fun x => x.add s) A) (s + k - s) (c - s) (ic T) rfl HRi.out HTl.out (ic_one _) HNo.out (by omega) (by simp) ?_; intro v' w3 hown' hgrow; obtain ⟨A3, c3, rfl⟩ := own_slice3 hown'; rw [HSk.out] at hown' ⊢; have HR3 : Hid (RdV w3 w3.heap.size A3 (ic (true :: T))) := own_rdv hown'; have HB3 : Hid (Below w.heap.size w w3) := ((Below.refl _ w).alloc (Nat.le_refl _) _).grown hgrow (by simp) (fun k hk => ((own_lit1 w w.heap.size (Nat.le_refl _) (.int .i64 1)).lt k hk).1); clear hown' hgrow))
        all_goals go_ret3
        all_goals exact ⟨rfl, HB3.out⟩
      · rw [if_neg h3] at hr
        subst hr
        have t3 : decide ((1099511627776 : Int) < (q : Int) - 1) = false := by simp; omega
        go_enter Try.func63, Try.ntmps63
        go_wp2_with (first | (go_at_call 84; refine (HBN.out _ _ _ HR3.out).mono ?_; rintro e _ ⟨rfl, rfl⟩) | (at_builtin; refine app3 rfl _ _ rfl w.heap.size _ 1 _ rfl (own_lit1 w w.heap.size (Nat.le_refl _) _) (if c = s then A else Option.map (fun x => x.add s) A) (s + k - s) (c - s) (ic T) rfl HRi.out HTl.out (ic_one _) HNo.out (by omega) (by simp) ?_; intro v' w3 hown' hgrow; obtain ⟨A3, c3, rfl⟩ := own_slice3 hown'; rw [HSk.out] at hown' ⊢; have HR3 : Hid (RdV w3 w3.heap.size A3 (ic (true :: T))) := own_rdv hown'; have HB3 : Hid (Below w.heap.size w w3) := ((Below.refl _ w).alloc (Nat.le_refl _) _).grown hgrow (by simp) (fun k hk => ((own_lit1 w w.heap.size (Nat.le_refl _) (.int .i64 1)).lt k hk).1); clear hown' hgrow))
        all_goals go_ret3
        all_goals exact ⟨by go_num, HB3.out⟩

/-- The document's readers. -/
theorem ur_l (l : List Bool) (n : Nat) (hl : l.length = n) (hn : n ≤ 8192) (A : Option Addr) (c s : Nat) (hs : s ≤ n) (w : World) (h : RdV w w.heap.size A (ic l)) :
    Calls Try.prog 62 #[.slice A n c, .int .i64 (s : Int)] w fun e w' => e = .returned (.tuple #[.int .u64 ((uR l s).1 : Int), .int .i64 (if (uR l s).2.2 = 0 then ((uR l s).2.1 : Int) else -1)]) ∧ w = w' := by
  refine uRead_any l n hl hn A c s hs _ _ ⟨fun e => ?_, fun x xs e => ?_⟩ w h
  · unfold uR; rw [e]; exact ⟨rfl, rfl⟩
  · unfold uR; rw [e]; exact ⟨rfl, rfl⟩
set_option maxHeartbeats 1000000 in
theorem gammaRead_any (l : List Bool) (n : Nat) (hl : l.length = n) (hn : n ≤ 8192) (A : Option Addr) (c s : Nat) (hs : s ≤ n) (hA : A = none → c = 0) (hc : n ≤ c) (r : Nat × Nat × Int) (hr : r = gamR l s) (w : World) (h : RdV w w.heap.size A (ic l)) :
    Calls Try.prog 25 #[.slice A n c, .int .i64 (s : Int)] w (ReadP w r.1 r.2.1 r.2.2) := by
  have HU := Lib.hid (ur_l l n hl hn A c s hs w h)
  have hb := uR_bound l s (by omega)
  unfold gamR thenR at hr
  generalize uR l s = u at *
  obtain ⟨k, fr, e0⟩ := u
  simp only at hb hr HU
  by_cases h0 : e0 = 0
  · subst h0
    rw [if_pos rfl] at hr HU
    have HR := Lib.hid (rest_any l n hl hn A c fr k (by omega) (by omega) r hr hA hc w h)
    have t0 : decide ((fr : Int) < 0) = false := by simp
    clear hr h
    obtain ⟨r1, r2, r3⟩ := r
    go_enter Try.func25, Try.ntmps25
    go_wp2_with fail
    refine HU.out.mono ?_
    rintro e _ ⟨rfl, rfl⟩
    go_wp2_with fail
    refine HR.out.mono ?_
    rintro e w2 ⟨rfl, B2⟩
    have HB2 := Lib.hid B2; clear B2
    go_wp2
    go_ret3
    exact ⟨rfl, HB2.out⟩
  · rw [if_neg h0] at hr HU
    obtain rfl : e0 = 7 := by omega
    subst hr
    go_enter Try.func25, Try.ntmps25
    go_wp2_with fail
    refine HU.out.mono ?_
    rintro e _ ⟨rfl, rfl⟩
    go_wp2
    go_ret3
    exact ⟨rfl, Below.refl _ _⟩
set_option maxHeartbeats 1000000 in
theorem deltaRead_any (l : List Bool) (n : Nat) (hl : l.length = n) (hn : n ≤ 8192) (A : Option Addr) (c s : Nat) (hs : s ≤ n) (hA : A = none → c = 0) (hc : n ≤ c) (r : Nat × Nat × Int) (hr : r = delR l s) (w : World) (h : RdV w w.heap.size A (ic l)) :
    Calls Try.prog 26 #[.slice A n c, .int .i64 (s : Int)] w (ReadP w r.1 r.2.1 r.2.2) := by
  have HU := Lib.hid (gammaRead_any l n hl hn A c s hs hA hc _ rfl w h)
  have hb := thenR_bound l (uR l s)
  unfold delR thenR at hr
  have e1 : thenR l (uR l s) = gamR l s := rfl
  rw [e1] at hb
  generalize gamR l s = u at *
  obtain ⟨k, fr, e0⟩ := u
  simp only at hb hr HU
  by_cases h0 : e0 = 0
  · subst h0
    rw [if_pos rfl] at hr
    have HR : Hid (∀ V, Below w.heap.size w V → Calls Try.prog 63 #[.slice A n c, .int .i64 (fr : Int), .int .u64 (k : Int)] V (ReadP V r.1 r.2.1 r.2.2)) := fun V hV => rest_any l n hl hn A c fr k (by omega) (by omega) r hr hA hc V (h.on hV)
    clear hr h
    obtain ⟨r1, r2, r3⟩ := r
    go_enter Try.func26, Try.ntmps26
    go_wp2_with fail
    refine HU.out.mono ?_
    rintro e w1 ⟨rfl, B1⟩
    have HB1 := Lib.hid B1; clear B1
    go_wp2_with fail
    refine (HR.out _ HB1.out).mono ?_
    rintro e w2 ⟨rfl, B2⟩
    have HB2 : Hid (Below w.heap.size w w2) := HB1.out.trans (B2.mono HB1.out.size)
    clear B2
    go_wp2
    go_ret3
    exact ⟨rfl, HB2.out⟩
  · rw [if_neg h0] at hr
    have t0 : (e0 != 0) = true := by simpa using h0
    subst hr
    go_enter Try.func26, Try.ntmps26
    go_wp2_with fail
    refine HU.out.mono ?_
    rintro e w1 ⟨rfl, B1⟩
    have HB1 := Lib.hid B1; clear B1
    go_wp2
    go_ret3
    exact ⟨rfl, HB1.out⟩
end Go.Proofs.Ytcacbekdghlncaa
