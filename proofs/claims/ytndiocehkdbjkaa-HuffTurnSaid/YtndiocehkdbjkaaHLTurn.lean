/- The law HuffTurn: whichever sign comes first all cost as much; for whatever frequencies are handed in. -/
import Derived.Test.YtndiocehkdbjkaaJH6
namespace Go.Proofs.Ytndiocehkdbjkaa
set_option maxRecDepth 100000
set_option linter.unusedVariables false
open Go.RowKit Go.Shelf

set_option maxHeartbeats 4000000 in
theorem htu_e (A : Option Addr) (n c : Nat) (w : World) (e0 : Int) (h0 : e0 ≠ 0) (HL : Hid (∀ V, Below w.heap.size w V → Calls Try.prog 16 #[.slice A n c] V (GzM V 0 [] e0))) :
    Calls Try.prog 8 #[.slice A n c] w fun e w' => e = .returned (.bool true) ∧ Below w.heap.size w w' := by
  have t0 : (e0 != 0) = true := by simpa using h0
  clear h0
  go_enter Try.func8, Try.ntmps8
  go_wp2_with fail
  refine (HL.out _ (Below.refl _ _)).mono ?_
  rintro e w1_ ⟨A1, c1, rfl, hc1, hn1, Rq, Bq⟩
  have Sq : Below w.heap.size w w1_ := Bq
  have HB : Hid (Below w.heap.size w w1_) := Sq
  clear Bq Sq
  have HR1 := Lib.hid Rq; clear Rq
  go_wp2_with fail
  refine (huffbegun_true _).mono ?_
  rintro e w2_ ⟨rfl, Bq⟩
  have Sq : Below w1_.heap.size w1_ w2_ := Bq
  replace HR1 : Hid (RdV w2_ w2_.heap.size A1 (zc (ns []))) := HR1.out.on Sq
  replace HB : Hid (Below w.heap.size w w2_) := HB.out.trans (Sq.mono HB.out.size)
  clear Bq Sq
  go_wp2
  go_ret
  exact ⟨rfl, HB.out⟩
/-- At each round's head: the last i are turned round. -/
def TurRel (os : List Nat) (w2 : World) (v p : Value) (wr : World) : Prop :=
  ∃ i : Nat, i ≤ os.length ∧ p = .int .i64 ((os.length : Int) - 1 - (i : Int)) ∧ wr.ownsRow w2.heap.size 3 1 v i (zc (ns (os.reverse.take i))) ∧ Below w2.heap.size w2 wr
theorem rev_at (os : List Nat) (i : Nat) (h : i < os.length) : os.reverse.take (i + 1) = os.reverse.take i ++ [os[os.length - 1 - i]?.getD 0] := by
  rw [take_snoc _ _ (by rw [List.length_reverse]; exact h), List.getElem?_reverse h]
set_option maxHeartbeats 8000000 in
theorem htu_8 (A : Option Addr) (n c : Nat) (w : World) (os l : List Nat) (hn : os.length = n) (h64 : n ≤ 64) (hb : ∀ x ∈ os, x ≤ 1048576) (HA : Hid (∀ V, Below w.heap.size w V → RdV V V.heap.size A (zc (ns os)))) (HL : Hid (∀ V, Below w.heap.size w V → Calls Try.prog 16 #[.slice A n c] V (GzM V n l 0)))
    (HM : Hid (∀ A5 c5 V, RdV V V.heap.size A5 (zc (ns os.reverse)) → Calls Try.prog 16 #[.slice A5 n c5] V (GzM V 0 [] 8)))
     :
    Calls Try.prog 8 #[.slice A n c] w fun e w' => e = .returned (.bool true) ∧ Below w.heap.size w w' := by
  obtain ⟨i0, hi, hz0, hz1, hz2⟩ := info_parts info3i
  have HN := Lib.hid hn; have HBd := Lib.hid hb
  have u0 : IntKind.i64.wrap ((n : Int) - 1) = (n : Int) - 1 := IntWalk.i64_in _ (by omega)
  clear hn hb
  go_enter Try.func8, Try.ntmps8
  go_wp2_with fail
  refine (HL.out _ (Below.refl _ _)).mono ?_
  rintro e w1_ ⟨A1, c1, rfl, hc1, hn1, Rq, Bq⟩
  have Sq : Below w.heap.size w w1_ := Bq
  have HB : Hid (Below w.heap.size w w1_) := Sq
  clear Bq Sq
  have HR1 := Lib.hid Rq; clear Rq
  go_wp2_with fail
  refine (huffbegun_true _).mono ?_
  rintro e w2_ ⟨rfl, Bq⟩
  have Sq : Below w1_.heap.size w1_ w2_ := Bq
  replace HR1 : Hid (RdV w2_ w2_.heap.size A1 (zc (ns l))) := HR1.out.on Sq
  replace HB : Hid (Below w.heap.size w w2_) := HB.out.trans (Sq.mono HB.out.size)
  clear Bq Sq
  go_wp2
  go_loopw [5, 6] (fun v p wr => TurRel os w2_ v p wr) (fun _ p _ => (intOf p + 1).toNat)
  case atStart => exact ⟨0, Nat.zero_le _, by rw [HN.out]; simp, ⟨rfl, .inl ⟨rfl, rfl⟩⟩, Below.refl _ _⟩
  case round =>
    clear u0
    obtain ⟨i, hi', rfl, hrow, hbel⟩ := hrel
    rw [HN.out] at hi'
    rw [HN.out]
    by_cases hlt : i < n
    · have hin : i < os.length := by rw [HN.out]; exact hlt
      obtain ⟨q, hq⟩ : ∃ q : Nat, n - 1 - i = q := ⟨_, rfl⟩
      have hqn : q < n := by omega
      have htk := rev_at os i hin
      rw [HN.out, hq] at htk
      have eq : (n : Int) - 1 - (i : Int) = (q : Int) := by omega
      have HQ : Hid ((n : Int) - 1 - ((i + 1 : Nat) : Int) = (q : Int) - 1) := by show _ = _; omega
      have u1 : IntKind.i64.wrap ((q : Int) - 1) = (q : Int) - 1 := IntWalk.i64_in _ (by omega)
      have tq : decide ((q : Int) ≥ 0) = true := by simp
      have tq2 : decide ((0 : Int) ≤ (q : Int)) = true := by simp
      obtain ⟨b, off, rfl, hb, hc⟩ := (HA.out wr (HB.out.trans (hbel.mono HB.out.size))).at_ (ns_get os q (by rw [HN.out]; exact hqn))
      have HBe := Lib.hid hbel
      clear hbel
      rw [eq]
      clear eq
      generalize os[q]?.getD 0 = x at *
      have HT := Lib.hid htk; clear htk
      go_wp2_with (at_builtin; refine wpList_append_own _ rfl _ _ 22 rfl w2_.heap.size 3 i0 (.int .i64 0) 1 8 Try.underlying22 hi hz0 hz1 hz2 rfl (by decide) _ _ _ rfl (hrow.alloc _) ⟨wr.heap.size, 0, none⟩ 1 1 [.int .i64 (x : Int)] rfl rfl (cell_one_new _ _ _) (by simp [Value.oneCell']) (by unfold maxLen; omega) (by omega) (by have := HBe.out.size; simp; omega) ?_; intro v' w3 hown' hgrow _)
      have HO3 := Lib.hid hown'
      have HB3 : Hid (Below w2_.heap.size w2_ w3) := HBe.out.trans (((Below.refl w2_.heap.size wr).alloc HBe.out.size _).trans (grown_low hgrow (hrow.alloc _) (by have := HBe.out.size; simp; omega)))
      clear hown' hgrow hrow
      go_roundw
      case rel => exact ⟨i + 1, by rw [HN.out]; omega, by rw [HN.out, HQ.out]; try go_num, by rw [HT.out, ns_snoc]; exact HO3.out, HB3.out⟩
      case measure => simp [intOf] <;> omega
    · have e : os.reverse.take i = os.reverse := List.take_of_length_le (by rw [List.length_reverse, HN.out]; omega)
      rw [e] at hrow
      obtain rfl : i = n := by omega
      obtain ⟨A5, c5, rfl⟩ := own_slice3 hrow
      have HR5 := Lib.hid (own_rdv hrow)
      have HBr : Hid (Below w.heap.size w wr) := HB.out.trans (hbel.mono HB.out.size)
      replace HR1 : Hid (RdV wr wr.heap.size A1 (zc (ns l))) := HR1.out.on hbel
      have em : (i : Int) - 1 - (i : Int) = -1 := by omega
      rw [em]
      clear hrow hbel e em
      replace HB : Hid (Below w.heap.size w wr) := HBr
      go_wp2_with fail
      refine (HM.out A5 c5 _ HR5.out).mono ?_
      rintro e w3_ ⟨A6, c6, rfl, -, -, -, Bq⟩
      have Sq : Below wr.heap.size wr w3_ := Bq
      replace HR5 : Hid (RdV w3_ w3_.heap.size A5 (zc (ns os.reverse))) := HR5.out.on Sq
      replace HR1 : Hid (RdV w3_ w3_.heap.size A1 (zc (ns l))) := HR1.out.on Sq
      replace HB : Hid (Below w.heap.size w w3_) := HB.out.trans (Sq.mono HB.out.size)
      clear Bq Sq
      go_wp2
      go_ret
      exact ⟨rfl, HB.out⟩
set_option maxHeartbeats 8000000 in
theorem htu_0 (A : Option Addr) (n c : Nat) (w : World) (os l : List Nat) (m : List Nat) (k : Int) (hn : os.length = n) (h64 : n ≤ 64) (hb : ∀ x ∈ os, x ≤ 1048576) (HA : Hid (∀ V, Below w.heap.size w V → RdV V V.heap.size A (zc (ns os)))) (HL : Hid (∀ V, Below w.heap.size w V → Calls Try.prog 16 #[.slice A n c] V (GzM V n l 0)))
    (HM : Hid (∀ A5 c5 V, RdV V V.heap.size A5 (zc (ns os.reverse)) → Calls Try.prog 16 #[.slice A5 n c5] V (GzM V n m 0)))
    (HC1 : Hid (∀ A1 c1 V, Below w.heap.size w V → RdV V V.heap.size A1 (zc (ns l)) → Calls Try.prog 17 #[.slice A n c, .slice A1 n c1] V fun e w' => e = .returned (.tuple #[.int .i64 k, .int .i64 0]) ∧ Below V.heap.size V w'))
    (HC2 : Hid (∀ A5 c5 A6 c6 V, RdV V V.heap.size A5 (zc (ns os.reverse)) → RdV V V.heap.size A6 (zc (ns m)) → Calls Try.prog 17 #[.slice A5 n c5, .slice A6 n c6] V fun e w' => e = .returned (.tuple #[.int .i64 k, .int .i64 0]) ∧ Below V.heap.size V w')) :
    Calls Try.prog 8 #[.slice A n c] w fun e w' => e = .returned (.bool true) ∧ Below w.heap.size w w' := by
  obtain ⟨i0, hi, hz0, hz1, hz2⟩ := info_parts info3i
  have HN := Lib.hid hn; have HBd := Lib.hid hb
  have u0 : IntKind.i64.wrap ((n : Int) - 1) = (n : Int) - 1 := IntWalk.i64_in _ (by omega)
  clear hn hb
  go_enter Try.func8, Try.ntmps8
  go_wp2_with fail
  refine (HL.out _ (Below.refl _ _)).mono ?_
  rintro e w1_ ⟨A1, c1, rfl, hc1, hn1, Rq, Bq⟩
  have Sq : Below w.heap.size w w1_ := Bq
  have HB : Hid (Below w.heap.size w w1_) := Sq
  clear Bq Sq
  have HR1 := Lib.hid Rq; clear Rq
  go_wp2_with fail
  refine (huffbegun_true _).mono ?_
  rintro e w2_ ⟨rfl, Bq⟩
  have Sq : Below w1_.heap.size w1_ w2_ := Bq
  replace HR1 : Hid (RdV w2_ w2_.heap.size A1 (zc (ns l))) := HR1.out.on Sq
  replace HB : Hid (Below w.heap.size w w2_) := HB.out.trans (Sq.mono HB.out.size)
  clear Bq Sq
  go_wp2
  go_loopw [5, 6] (fun v p wr => TurRel os w2_ v p wr) (fun _ p _ => (intOf p + 1).toNat)
  case atStart => exact ⟨0, Nat.zero_le _, by rw [HN.out]; simp, ⟨rfl, .inl ⟨rfl, rfl⟩⟩, Below.refl _ _⟩
  case round =>
    clear u0
    obtain ⟨i, hi', rfl, hrow, hbel⟩ := hrel
    rw [HN.out] at hi'
    rw [HN.out]
    by_cases hlt : i < n
    · have hin : i < os.length := by rw [HN.out]; exact hlt
      obtain ⟨q, hq⟩ : ∃ q : Nat, n - 1 - i = q := ⟨_, rfl⟩
      have hqn : q < n := by omega
      have htk := rev_at os i hin
      rw [HN.out, hq] at htk
      have eq : (n : Int) - 1 - (i : Int) = (q : Int) := by omega
      have HQ : Hid ((n : Int) - 1 - ((i + 1 : Nat) : Int) = (q : Int) - 1) := by show _ = _; omega
      have u1 : IntKind.i64.wrap ((q : Int) - 1) = (q : Int) - 1 := IntWalk.i64_in _ (by omega)
      have tq : decide ((q : Int) ≥ 0) = true := by simp
      have tq2 : decide ((0 : Int) ≤ (q : Int)) = true := by simp
      obtain ⟨b, off, rfl, hb, hc⟩ := (HA.out wr (HB.out.trans (hbel.mono HB.out.size))).at_ (ns_get os q (by rw [HN.out]; exact hqn))
      have HBe := Lib.hid hbel
      clear hbel
      rw [eq]
      clear eq
      generalize os[q]?.getD 0 = x at *
      have HT := Lib.hid htk; clear htk
      go_wp2_with (at_builtin; refine wpList_append_own _ rfl _ _ 22 rfl w2_.heap.size 3 i0 (.int .i64 0) 1 8 Try.underlying22 hi hz0 hz1 hz2 rfl (by decide) _ _ _ rfl (hrow.alloc _) ⟨wr.heap.size, 0, none⟩ 1 1 [.int .i64 (x : Int)] rfl rfl (cell_one_new _ _ _) (by simp [Value.oneCell']) (by unfold maxLen; omega) (by omega) (by have := HBe.out.size; simp; omega) ?_; intro v' w3 hown' hgrow _)
      have HO3 := Lib.hid hown'
      have HB3 : Hid (Below w2_.heap.size w2_ w3) := HBe.out.trans (((Below.refl w2_.heap.size wr).alloc HBe.out.size _).trans (grown_low hgrow (hrow.alloc _) (by have := HBe.out.size; simp; omega)))
      clear hown' hgrow hrow
      go_roundw
      case rel => exact ⟨i + 1, by rw [HN.out]; omega, by rw [HN.out, HQ.out]; try go_num, by rw [HT.out, ns_snoc]; exact HO3.out, HB3.out⟩
      case measure => simp [intOf] <;> omega
    · have e : os.reverse.take i = os.reverse := List.take_of_length_le (by rw [List.length_reverse, HN.out]; omega)
      rw [e] at hrow
      obtain rfl : i = n := by omega
      obtain ⟨A5, c5, rfl⟩ := own_slice3 hrow
      have HR5 := Lib.hid (own_rdv hrow)
      have HBr : Hid (Below w.heap.size w wr) := HB.out.trans (hbel.mono HB.out.size)
      replace HR1 : Hid (RdV wr wr.heap.size A1 (zc (ns l))) := HR1.out.on hbel
      have em : (i : Int) - 1 - (i : Int) = -1 := by omega
      rw [em]
      clear hrow hbel e em
      replace HB : Hid (Below w.heap.size w wr) := HBr
      go_wp2_with fail
      refine (HM.out A5 c5 _ HR5.out).mono ?_
      rintro e w3_ ⟨A6, c6, rfl, -, -, Rq, Bq⟩
      have Sq : Below wr.heap.size wr w3_ := Bq
      replace HR5 : Hid (RdV w3_ w3_.heap.size A5 (zc (ns os.reverse))) := HR5.out.on Sq
      replace HR1 : Hid (RdV w3_ w3_.heap.size A1 (zc (ns l))) := HR1.out.on Sq
      replace HB : Hid (Below w.heap.size w w3_) := HB.out.trans (Sq.mono HB.out.size)
      clear Bq Sq
      have HR6 := Lib.hid Rq; clear Rq
      go_wp2_with fail
      refine (HC1.out A1 c1 _ HB.out HR1.out).mono ?_
      rintro e w4_ ⟨rfl, Bq⟩
      have Sq : Below w3_.heap.size w3_ w4_ := Bq
      replace HR5 : Hid (RdV w4_ w4_.heap.size A5 (zc (ns os.reverse))) := HR5.out.on Sq
      replace HR1 : Hid (RdV w4_ w4_.heap.size A1 (zc (ns l))) := HR1.out.on Sq
      replace HR6 : Hid (RdV w4_ w4_.heap.size A6 (zc (ns m))) := HR6.out.on Sq
      replace HB : Hid (Below w.heap.size w w4_) := HB.out.trans (Sq.mono HB.out.size)
      clear Bq Sq
      go_wp2_with fail
      refine (HC2.out A5 c5 A6 c6 _ HR5.out HR6.out).mono ?_
      rintro e w5_ ⟨rfl, Bq⟩
      have Sq : Below w4_.heap.size w4_ w5_ := Bq
      replace HR5 : Hid (RdV w5_ w5_.heap.size A5 (zc (ns os.reverse))) := HR5.out.on Sq
      replace HR1 : Hid (RdV w5_ w5_.heap.size A1 (zc (ns l))) := HR1.out.on Sq
      replace HR6 : Hid (RdV w5_ w5_.heap.size A6 (zc (ns m))) := HR6.out.on Sq
      replace HB : Hid (Below w.heap.size w w5_) := HB.out.trans (Sq.mono HB.out.size)
      clear Bq Sq
      go_wp2
      go_ret
      exact ⟨rfl, HB.out⟩
theorem huffTurn_law (A : Option Addr) (c : Nat) (xs : List Int) (w : World) (hb : ∀ x ∈ xs, -9223372036854775808 ≤ x ∧ x ≤ 9223372036854775807) (h : RdV w w.heap.size A (zc xs)) (hs : xs.length ≤ 9223372036854775807) :
    Calls Try.prog 8 #[.slice A xs.length c] w fun e w' => e = .returned (.bool true) ∧ Below w.heap.size w w' := by
  have HX : ∀ V, Below w.heap.size w V → Calls Try.prog 16 #[.slice A xs.length c] V (GotZ V (hlA xs)) := fun V hV => lengths_any xs _ rfl hs A c V (h.on hV)
  by_cases h0 : (hlA xs).2 = 0
  · obtain ⟨os, rfl, h64, ho, e1, h24⟩ := hlA_zero xs h0
    rw [e1] at HX
    rw [ns_length] at hs HX ⊢
    have hll : (hl os).length = os.length := hl_length os
    have HL : Hid (∀ V, Below w.heap.size w V → Calls Try.prog 16 #[.slice A os.length c] V (GzM V os.length (hl os) 0)) := fun V hV => (HX V hV).mono fun _ _ q => gzM q hll
    have hrl : (ns os.reverse).length = os.length := by rw [ns_length, List.length_reverse]
    have hrb : ∀ x ∈ os.reverse, x ≤ 1048576 := fun x hx => ho x (by simpa using hx)
    have HM : ∀ A5 c5 V, RdV V V.heap.size A5 (zc (ns os.reverse)) → Calls Try.prog 16 #[.slice A5 os.length c5] V (GotZ V (lnA os.reverse)) := fun A5 c5 V hR => by
      have := lengths_any (ns os.reverse) os.length hrl hs A5 c5 V hR
      rwa [hlA_nat _ (by rw [List.length_reverse]; exact h64) hrb] at this
    have hC := coE_hl os h64 ho h24
    rcases lnA_two os.reverse with ⟨_, e2, h24'⟩ | e2
    · rw [e2] at HM
      have hC' := coE_hl os.reverse (by rw [List.length_reverse]; exact h64) hrb h24'
      have heq := turn_eq os h24 h24'
      refine htu_0 A _ c w os (hl os) (hl os.reverse) (dot os (hl os) : Int) rfl h64 ho (Lib.hid fun V hV => h.on hV) HL (Lib.hid fun A5 c5 V hR => (HM A5 c5 V hR).mono fun _ _ q => gzM q (by rw [hl_length, List.length_reverse])) (Lib.hid fun A1 c1 V hV hR => ?_) (Lib.hid fun A5 c5 A6 c6 V hR hS => ?_)
      · have := cost_any (ns os) (ns (hl os)) os.length os.length (ns_length os) (by rw [ns_length, hll]) hs hs A A1 c c1 V (h.on hV) hR
        rwa [hC.1, hC.2] at this
      · have := cost_any (ns os.reverse) (ns (hl os.reverse)) os.length os.length hrl (by rw [ns_length, hl_length, List.length_reverse]) hs hs A5 A6 c5 c6 V hR hS
        rw [hC'.1, hC'.2] at this
        rw [heq]; exact this
    · rw [e2] at HM
      exact htu_8 A _ c w os (hl os) rfl h64 ho (Lib.hid fun V hV => h.on hV) HL (Lib.hid fun A5 c5 V hR => (HM A5 c5 V hR).mono fun _ _ q => gzM q rfl)
  · rw [hlA_err xs h0] at HX
    exact htu_e A _ c w _ h0 (Lib.hid fun V hV => (HX V hV).mono fun _ _ q => gzM q rfl)
end Go.Proofs.Ytndiocehkdbjkaa
