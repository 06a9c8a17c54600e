/- The law HuffTimes: where all stand so many times as often the lengths are the same, and the cost is so many times as much; for whatever is handed in. -/
import Derived.Test.YtndiocehkdbjkaaJH6
namespace Go.Proofs.Ytndiocehkdbjkaa
set_option maxRecDepth 100000
set_option linter.unusedVariables false
open Go.RowKit Go.Shelf

set_option maxHeartbeats 4000000 in
theorem hti_e (A : Option Addr) (n c : Nat) (y : Int) (w : World) (e0 : Int) (h0 : e0 ≠ 0) (HL : Hid (∀ V, Below w.heap.size w V → Calls Try.prog 16 #[.slice A n c] V (GzM V 0 [] e0))) :
    Calls Try.prog 6 #[.slice A n c, .int .i64 y] w fun e w' => e = .returned (.bool true) ∧ Below w.heap.size w w' := by
  have t0 : (e0 != 0) = true := by simpa using h0
  clear h0
  go_enter Try.func6, Try.ntmps6
  go_wp2_with fail
  refine (HL.out _ (Below.refl _ _)).mono ?_
  rintro e w1_ ⟨A1, c1, rfl, hc1, hn1, Rq, Bq⟩
  have Sq : Below w.heap.size w w1_ := Bq
  have HB : Hid (Below w.heap.size w w1_) := Sq
  clear Bq Sq
  have HR1 := Lib.hid Rq; clear Rq
  go_wp2_with fail
  refine (huffbegun_true _).mono ?_
  rintro e w2_ ⟨rfl, Bq⟩
  have Sq : Below w1_.heap.size w1_ w2_ := Bq
  replace HR1 : Hid (RdV w2_ w2_.heap.size A1 (zc (ns []))) := HR1.out.on Sq
  replace HB : Hid (Below w.heap.size w w2_) := HB.out.trans (Sq.mono HB.out.size)
  clear Bq Sq
  go_wp2
  go_ret
  exact ⟨rfl, HB.out⟩
set_option maxHeartbeats 4000000 in
theorem hti_l (A : Option Addr) (n c : Nat) (y : Int) (w : World) (l : List Nat) (h0 : y < 1) (HL : Hid (∀ V, Below w.heap.size w V → Calls Try.prog 16 #[.slice A n c] V (GzM V n l 0))) :
    Calls Try.prog 6 #[.slice A n c, .int .i64 y] w fun e w' => e = .returned (.bool true) ∧ Below w.heap.size w w' := by
  have t0 : decide (y < 1) = true := by simpa using h0
  clear h0
  go_enter Try.func6, Try.ntmps6
  go_wp2_with fail
  refine (HL.out _ (Below.refl _ _)).mono ?_
  rintro e w1_ ⟨A1, c1, rfl, hc1, hn1, Rq, Bq⟩
  have Sq : Below w.heap.size w w1_ := Bq
  have HB : Hid (Below w.heap.size w w1_) := Sq
  clear Bq Sq
  have HR1 := Lib.hid Rq; clear Rq
  go_wp2_with fail
  refine (huffbegun_true _).mono ?_
  rintro e w2_ ⟨rfl, Bq⟩
  have Sq : Below w1_.heap.size w1_ w2_ := Bq
  replace HR1 : Hid (RdV w2_ w2_.heap.size A1 (zc (ns l))) := HR1.out.on Sq
  replace HB : Hid (Below w.heap.size w w2_) := HB.out.trans (Sq.mono HB.out.size)
  clear Bq Sq
  go_wp2
  go_ret
  exact ⟨rfl, HB.out⟩
set_option maxHeartbeats 4000000 in
theorem hti_g (A : Option Addr) (n c : Nat) (y : Int) (w : World) (l : List Nat) (h0 : 1000 < y) (HL : Hid (∀ V, Below w.heap.size w V → Calls Try.prog 16 #[.slice A n c] V (GzM V n l 0))) :
    Calls Try.prog 6 #[.slice A n c, .int .i64 y] w fun e w' => e = .returned (.bool true) ∧ Below w.heap.size w w' := by
  have t0 : decide (y < 1) = false := by simp; omega
  have t1 : decide (1000 < y) = true := by simpa using h0
  have t2 : decide (y > 1000) = true := by simpa using h0
  clear h0
  go_enter Try.func6, Try.ntmps6
  go_wp2_with fail
  refine (HL.out _ (Below.refl _ _)).mono ?_
  rintro e w1_ ⟨A1, c1, rfl, hc1, hn1, Rq, Bq⟩
  have Sq : Below w.heap.size w w1_ := Bq
  have HB : Hid (Below w.heap.size w w1_) := Sq
  clear Bq Sq
  have HR1 := Lib.hid Rq; clear Rq
  go_wp2_with fail
  refine (huffbegun_true _).mono ?_
  rintro e w2_ ⟨rfl, Bq⟩
  have Sq : Below w1_.heap.size w1_ w2_ := Bq
  replace HR1 : Hid (RdV w2_ w2_.heap.size A1 (zc (ns l))) := HR1.out.on Sq
  replace HB : Hid (Below w.heap.size w w2_) := HB.out.trans (Sq.mono HB.out.size)
  clear Bq Sq
  go_wp2
  go_ret
  exact ⟨rfl, HB.out⟩
/-- At each round's head: i numbers, each so many times as often. -/
def TimRel (os : List Nat) (b : Nat) (w2 : World) (v p : Value) (wr : World) : Prop :=
  ∃ i : Nat, i ≤ os.length ∧ p = .int .i64 (i : Int) ∧ wr.ownsRow w2.heap.size 3 1 v i (zc (ns ((os.map (b * ·)).take i))) ∧ Below w2.heap.size w2 wr
theorem tim_at (os : List Nat) (b i : Nat) (h : i < os.length) : (os.map (b * ·)).take (i + 1) = (os.map (b * ·)).take i ++ [b * os[i]?.getD 0] := by
  rw [take_snoc _ _ (by rw [List.length_map]; exact h), List.getElem?_map, List.getElem?_eq_getElem h]; rfl
set_option maxHeartbeats 8000000 in
theorem hti_3 (A : Option Addr) (n c : Nat) (b : Nat) (w : World) (os l : List Nat) (hn : os.length = n) (h64 : n ≤ 64) (hb : ∀ x ∈ os, x ≤ 1048576) (h1 : 1 ≤ b) (h2 : b ≤ 1000) (HA : Hid (∀ V, Below w.heap.size w V → RdV V V.heap.size A (zc (ns os)))) (HL : Hid (∀ V, Below w.heap.size w V → Calls Try.prog 16 #[.slice A n c] V (GzM V n l 0)))
    (HM : Hid (∀ A5 c5 V, RdV V V.heap.size A5 (zc (ns (os.map (b * ·)))) → Calls Try.prog 16 #[.slice A5 n c5] V (GzM V 0 [] 3)))
     :
    Calls Try.prog 6 #[.slice A n c, .int .i64 (b : Int)] w fun e w' => e = .returned (.bool true) ∧ Below w.heap.size w w' := by
  obtain ⟨i0, hi, hz0, hz1, hz2⟩ := info_parts info3i
  have HN := Lib.hid hn; have HBd := Lib.hid hb
  have t0 : decide ((b : Int) < 1) = false := by simp; omega
  have t0' : decide (b < 1) = false := by simp; omega
  have t1 : decide ((1000 : Int) < (b : Int)) = false := by simp; omega
  have t2 : decide ((b : Int) > 1000) = false := by simp; omega
  have t3 : decide (1000 < b) = false := by simp; omega
  clear hn hb
  go_enter Try.func6, Try.ntmps6
  go_wp2_with fail
  refine (HL.out _ (Below.refl _ _)).mono ?_
  rintro e w1_ ⟨A1, c1, rfl, hc1, hn1, Rq, Bq⟩
  have Sq : Below w.heap.size w w1_ := Bq
  have HB : Hid (Below w.heap.size w w1_) := Sq
  clear Bq Sq
  have HR1 := Lib.hid Rq; clear Rq
  go_wp2_with fail
  refine (huffbegun_true _).mono ?_
  rintro e w2_ ⟨rfl, Bq⟩
  have Sq : Below w1_.heap.size w1_ w2_ := Bq
  replace HR1 : Hid (RdV w2_ w2_.heap.size A1 (zc (ns l))) := HR1.out.on Sq
  replace HB : Hid (Below w.heap.size w w2_) := HB.out.trans (Sq.mono HB.out.size)
  clear Bq Sq
  go_wp2
  go_loopw [7, 8] (fun v p wr => TimRel os b w2_ v p wr) (fun _ p _ => n - (intOf p).toNat)
  case atStart => exact ⟨0, Nat.zero_le _, rfl, ⟨rfl, .inl ⟨rfl, rfl⟩⟩, Below.refl _ _⟩
  case round =>
    obtain ⟨i, hi', rfl, hrow, hbel⟩ := hrel
    rw [HN.out] at hi'
    by_cases hlt : i < n
    · have hin : i < os.length := by rw [HN.out]; exact hlt
      have htk := tim_at os b i hin
      have hx := HBd.out _ (at_mem os i hin)
      obtain ⟨bk, off, rfl, hb, hc⟩ := (HA.out wr (HB.out.trans (hbel.mono HB.out.size))).at_ (ns_get os i hin)
      have HBe := Lib.hid hbel
      clear hbel
      generalize os[i]?.getD 0 = x at *
      have hbx : b * x ≤ 1000 * 1048576 := Nat.mul_le_mul h2 hx
      have u1 : IntKind.i64.wrap ((b : Int) * (x : Int)) = ((b * x : Nat) : Int) := by rw [Int.natCast_mul]; exact IntWalk.i64_in _ (by rw [← Int.natCast_mul]; omega)
      obtain ⟨z, hz⟩ : ∃ z, b * x = z := ⟨_, rfl⟩
      rw [hz] at u1 htk
      clear hz hbx hx
      have HT := Lib.hid htk; clear htk
      go_wp2_with (at_builtin; refine wpList_append_own _ rfl _ _ 22 rfl w2_.heap.size 3 i0 (.int .i64 0) 1 8 Try.underlying22 hi hz0 hz1 hz2 rfl (by decide) _ _ _ rfl (hrow.alloc _) ⟨wr.heap.size, 0, none⟩ 1 1 [.int .i64 (z : Int)] rfl rfl (cell_one_new _ _ _) (by simp [Value.oneCell']) (by unfold maxLen; omega) (by omega) (by have := HBe.out.size; simp; omega) ?_; intro v' w3 hown' hgrow _)
      have HO3 := Lib.hid hown'
      have HB3 : Hid (Below w2_.heap.size w2_ w3) := HBe.out.trans (((Below.refl w2_.heap.size wr).alloc HBe.out.size _).trans (grown_low hgrow (hrow.alloc _) (by have := HBe.out.size; simp; omega)))
      clear hown' hgrow hrow
      go_roundw
      case rel => exact ⟨i + 1, by rw [HN.out]; omega, by go_num, by rw [HT.out, ns_snoc]; exact HO3.out, HB3.out⟩
      case measure => simp [intOf] <;> omega
    · have e : (os.map (b * ·)).take i = os.map (b * ·) := List.take_of_length_le (by rw [List.length_map, HN.out]; omega)
      rw [e] at hrow
      obtain rfl : i = n := by omega
      obtain ⟨A5, c5, rfl⟩ := own_slice3 hrow
      have HR5 := Lib.hid (own_rdv hrow)
      have HBr : Hid (Below w.heap.size w wr) := HB.out.trans (hbel.mono HB.out.size)
      replace HR1 : Hid (RdV wr wr.heap.size A1 (zc (ns l))) := HR1.out.on hbel
      clear hrow hbel e
      replace HB : Hid (Below w.heap.size w wr) := HBr
      go_wp2_with fail
      refine (HM.out A5 c5 _ HR5.out).mono ?_
      rintro e w3_ ⟨A6, c6, rfl, -, -, -, Bq⟩
      have Sq : Below wr.heap.size wr w3_ := Bq
      replace HR5 : Hid (RdV w3_ w3_.heap.size A5 (zc (ns (os.map (b * ·))))) := HR5.out.on Sq
      replace HR1 : Hid (RdV w3_ w3_.heap.size A1 (zc (ns l))) := HR1.out.on Sq
      replace HB : Hid (Below w.heap.size w w3_) := HB.out.trans (Sq.mono HB.out.size)
      clear Bq Sq
      go_wp2
      go_ret
      exact ⟨rfl, HB.out⟩
set_option maxHeartbeats 8000000 in
theorem hti_0 (A : Option Addr) (n c : Nat) (b : Nat) (w : World) (os l : List Nat) (k : Nat) (d : Int) (hn : os.length = n) (h64 : n ≤ 64) (hb : ∀ x ∈ os, x ≤ 1048576) (h1 : 1 ≤ b) (h2 : b ≤ 1000) (HA : Hid (∀ V, Below w.heap.size w V → RdV V V.heap.size A (zc (ns os)))) (HL : Hid (∀ V, Below w.heap.size w V → Calls Try.prog 16 #[.slice A n c] V (GzM V n l 0)))
    (HM : Hid (∀ A5 c5 V, RdV V V.heap.size A5 (zc (ns (os.map (b * ·)))) → Calls Try.prog 16 #[.slice A5 n c5] V (GzM V n l 0)))
    (u9 : IntKind.i64.wrap ((b : Int) * (k : Int)) = d)
    (HC1 : Hid (∀ A1 c1 V, Below w.heap.size w V → RdV V V.heap.size A1 (zc (ns l)) → Calls Try.prog 17 #[.slice A n c, .slice A1 n c1] V fun e w' => e = .returned (.tuple #[.int .i64 (k : Int), .int .i64 0]) ∧ Below V.heap.size V w'))
    (HC2 : Hid (∀ A5 c5 A6 c6 V, RdV V V.heap.size A5 (zc (ns (os.map (b * ·)))) → RdV V V.heap.size A6 (zc (ns l)) → Calls Try.prog 17 #[.slice A5 n c5, .slice A6 n c6] V fun e w' => e = .returned (.tuple #[.int .i64 d, .int .i64 0]) ∧ Below V.heap.size V w'))
    (HS : Hid (∀ A B c d V, RdV V V.heap.size A (zc (ns l)) → RdV V V.heap.size B (zc (ns l)) → Calls Try.prog 25 #[.slice A n c, .slice B n d] V fun e w' => e = .returned (.bool true) ∧ Below V.heap.size V w')) :
    Calls Try.prog 6 #[.slice A n c, .int .i64 (b : Int)] w fun e w' => e = .returned (.bool true) ∧ Below w.heap.size w w' := by
  obtain ⟨i0, hi, hz0, hz1, hz2⟩ := info_parts info3i
  have HN := Lib.hid hn; have HBd := Lib.hid hb
  have t0 : decide ((b : Int) < 1) = false := by simp; omega
  have t0' : decide (b < 1) = false := by simp; omega
  have t1 : decide ((1000 : Int) < (b : Int)) = false := by simp; omega
  have t2 : decide ((b : Int) > 1000) = false := by simp; omega
  have t3 : decide (1000 < b) = false := by simp; omega
  clear hn hb
  go_enter Try.func6, Try.ntmps6
  go_wp2_with fail
  refine (HL.out _ (Below.refl _ _)).mono ?_
  rintro e w1_ ⟨A1, c1, rfl, hc1, hn1, Rq, Bq⟩
  have Sq : Below w.heap.size w w1_ := Bq
  have HB : Hid (Below w.heap.size w w1_) := Sq
  clear Bq Sq
  have HR1 := Lib.hid Rq; clear Rq
  go_wp2_with fail
  refine (huffbegun_true _).mono ?_
  rintro e w2_ ⟨rfl, Bq⟩
  have Sq : Below w1_.heap.size w1_ w2_ := Bq
  replace HR1 : Hid (RdV w2_ w2_.heap.size A1 (zc (ns l))) := HR1.out.on Sq
  replace HB : Hid (Below w.heap.size w w2_) := HB.out.trans (Sq.mono HB.out.size)
  clear Bq Sq
  go_wp2
  go_loopw [7, 8] (fun v p wr => TimRel os b w2_ v p wr) (fun _ p _ => n - (intOf p).toNat)
  case atStart => exact ⟨0, Nat.zero_le _, rfl, ⟨rfl, .inl ⟨rfl, rfl⟩⟩, Below.refl _ _⟩
  case round =>
    obtain ⟨i, hi', rfl, hrow, hbel⟩ := hrel
    rw [HN.out] at hi'
    by_cases hlt : i < n
    · have hin : i < os.length := by rw [HN.out]; exact hlt
      have htk := tim_at os b i hin
      have hx := HBd.out _ (at_mem os i hin)
      obtain ⟨bk, off, rfl, hb, hc⟩ := (HA.out wr (HB.out.trans (hbel.mono HB.out.size))).at_ (ns_get os i hin)
      have HBe := Lib.hid hbel
      clear hbel
      generalize os[i]?.getD 0 = x at *
      have hbx : b * x ≤ 1000 * 1048576 := Nat.mul_le_mul h2 hx
      have u1 : IntKind.i64.wrap ((b : Int) * (x : Int)) = ((b * x : Nat) : Int) := by rw [Int.natCast_mul]; exact IntWalk.i64_in _ (by rw [← Int.natCast_mul]; omega)
      obtain ⟨z, hz⟩ : ∃ z, b * x = z := ⟨_, rfl⟩
      rw [hz] at u1 htk
      clear hz hbx hx
      have HT := Lib.hid htk; clear htk
      go_wp2_with (at_builtin; refine wpList_append_own _ rfl _ _ 22 rfl w2_.heap.size 3 i0 (.int .i64 0) 1 8 Try.underlying22 hi hz0 hz1 hz2 rfl (by decide) _ _ _ rfl (hrow.alloc _) ⟨wr.heap.size, 0, none⟩ 1 1 [.int .i64 (z : Int)] rfl rfl (cell_one_new _ _ _) (by simp [Value.oneCell']) (by unfold maxLen; omega) (by omega) (by have := HBe.out.size; simp; omega) ?_; intro v' w3 hown' hgrow _)
      have HO3 := Lib.hid hown'
      have HB3 : Hid (Below w2_.heap.size w2_ w3) := HBe.out.trans (((Below.refl w2_.heap.size wr).alloc HBe.out.size _).trans (grown_low hgrow (hrow.alloc _) (by have := HBe.out.size; simp; omega)))
      clear hown' hgrow hrow
      go_roundw
      case rel => exact ⟨i + 1, by rw [HN.out]; omega, by go_num, by rw [HT.out, ns_snoc]; exact HO3.out, HB3.out⟩
      case measure => simp [intOf] <;> omega
    · have e : (os.map (b * ·)).take i = os.map (b * ·) := List.take_of_length_le (by rw [List.length_map, HN.out]; omega)
      rw [e] at hrow
      obtain rfl : i = n := by omega
      obtain ⟨A5, c5, rfl⟩ := own_slice3 hrow
      have HR5 := Lib.hid (own_rdv hrow)
      have HBr : Hid (Below w.heap.size w wr) := HB.out.trans (hbel.mono HB.out.size)
      replace HR1 : Hid (RdV wr wr.heap.size A1 (zc (ns l))) := HR1.out.on hbel
      clear hrow hbel e
      replace HB : Hid (Below w.heap.size w wr) := HBr
      go_wp2_with fail
      refine (HM.out A5 c5 _ HR5.out).mono ?_
      rintro e w3_ ⟨A6, c6, rfl, -, -, Rq, Bq⟩
      have Sq : Below wr.heap.size wr w3_ := Bq
      replace HR5 : Hid (RdV w3_ w3_.heap.size A5 (zc (ns (os.map (b * ·))))) := HR5.out.on Sq
      replace HR1 : Hid (RdV w3_ w3_.heap.size A1 (zc (ns l))) := HR1.out.on Sq
      replace HB : Hid (Below w.heap.size w w3_) := HB.out.trans (Sq.mono HB.out.size)
      clear Bq Sq
      have HR6 := Lib.hid Rq; clear Rq
      go_wp2_with fail
      refine (HC1.out A1 c1 _ HB.out HR1.out).mono ?_
      rintro e w4_ ⟨rfl, Bq⟩
      have Sq : Below w3_.heap.size w3_ w4_ := Bq
      replace HR5 : Hid (RdV w4_ w4_.heap.size A5 (zc (ns (os.map (b * ·))))) := HR5.out.on Sq
      replace HR1 : Hid (RdV w4_ w4_.heap.size A1 (zc (ns l))) := HR1.out.on Sq
      replace HR6 : Hid (RdV w4_ w4_.heap.size A6 (zc (ns l))) := HR6.out.on Sq
      replace HB : Hid (Below w.heap.size w w4_) := HB.out.trans (Sq.mono HB.out.size)
      clear Bq Sq
      go_wp2_with fail
      refine (HC2.out A5 c5 A6 c6 _ HR5.out HR6.out).mono ?_
      rintro e w5_ ⟨rfl, Bq⟩
      have Sq : Below w4_.heap.size w4_ w5_ := Bq
      replace HR5 : Hid (RdV w5_ w5_.heap.size A5 (zc (ns (os.map (b * ·))))) := HR5.out.on Sq
      replace HR1 : Hid (RdV w5_ w5_.heap.size A1 (zc (ns l))) := HR1.out.on Sq
      replace HR6 : Hid (RdV w5_ w5_.heap.size A6 (zc (ns l))) := HR6.out.on Sq
      replace HB : Hid (Below w.heap.size w w5_) := HB.out.trans (Sq.mono HB.out.size)
      clear Bq Sq
      go_wp2_with fail
      refine (HS.out A1 A6 c1 c6 _ HR1.out HR6.out).mono ?_
      rintro e w6_ ⟨rfl, Bq⟩
      have Sq : Below w5_.heap.size w5_ w6_ := Bq
      replace HR5 : Hid (RdV w6_ w6_.heap.size A5 (zc (ns (os.map (b * ·))))) := HR5.out.on Sq
      replace HR1 : Hid (RdV w6_ w6_.heap.size A1 (zc (ns l))) := HR1.out.on Sq
      replace HR6 : Hid (RdV w6_ w6_.heap.size A6 (zc (ns l))) := HR6.out.on Sq
      replace HB : Hid (Below w.heap.size w w6_) := HB.out.trans (Sq.mono HB.out.size)
      clear Bq Sq
      go_wp2
      go_ret
      exact ⟨rfl, HB.out⟩
theorem huffTimes_law (A : Option Addr) (c : Nat) (xs : List Int) (y : Int) (w : World) (hb : ∀ x ∈ xs, -9223372036854775808 ≤ x ∧ x ≤ 9223372036854775807) (h : RdV w w.heap.size A (zc xs)) (hs : xs.length ≤ 9223372036854775807) (_ : -9223372036854775808 ≤ y ∧ y ≤ 9223372036854775807) :
    Calls Try.prog 6 #[.slice A xs.length c, .int .i64 y] w fun e w' => e = .returned (.bool true) ∧ Below w.heap.size w w' := by
  have HX : ∀ V, Below w.heap.size w V → Calls Try.prog 16 #[.slice A xs.length c] V (GotZ V (hlA xs)) := fun V hV => lengths_any xs _ rfl hs A c V (h.on hV)
  by_cases h0 : (hlA xs).2 = 0
  · obtain ⟨os, rfl, h64, ho, e1, h24⟩ := hlA_zero xs h0
    rw [e1] at HX
    rw [ns_length] at hs HX ⊢
    have hll : (hl os).length = os.length := hl_length os
    have HL : Hid (∀ V, Below w.heap.size w V → Calls Try.prog 16 #[.slice A os.length c] V (GzM V os.length (hl os) 0)) := fun V hV => (HX V hV).mono fun _ _ q => gzM q hll
    rcases (show y < 1 ∨ 1000 < y ∨ (1 ≤ y ∧ y ≤ 1000) by omega) with c1 | c1 | ⟨c1, c2⟩
    · exact hti_l A _ c y w (hl os) c1 HL
    · exact hti_g A _ c y w (hl os) c1 HL
    · obtain ⟨b, rfl⟩ := Int.eq_ofNat_of_zero_le (show 0 ≤ y by omega)
      have hml : (ns (os.map (b * ·))).length = os.length := by rw [ns_length, List.length_map]
      have HM : ∀ A5 c5 V, RdV V V.heap.size A5 (zc (ns (os.map (b * ·)))) → Calls Try.prog 16 #[.slice A5 os.length c5] V (GotZ V (hlA (ns (os.map (b * ·))))) := fun A5 c5 V hR => lengths_any (ns (os.map (b * ·))) os.length hml hs A5 c5 V hR
      have hsc : hl (os.map (b * ·)) = hl os := hl_scale b (by omega) os
      by_cases hof : ofE (ns (os.map (b * ·))) = 0
      · have hmb : ∀ x ∈ os.map (b * ·), x ≤ 1048576 := by
          obtain ⟨q, hq, hqb⟩ := ofE_zero _ hof
          have : os.map (b * ·) = q := by have := congrArg (List.map Int.toNat) hq; rwa [ns_nat, ns_nat] at this
          rw [this]; exact hqb
        have hm64 : (os.map (b * ·)).length ≤ 64 := by rw [List.length_map]; exact h64
        have e2 : hlA (ns (os.map (b * ·))) = (hl os, 0) := by
          rw [hlA_nat _ hm64 hmb]
          unfold lnA
          rw [hsc, if_pos (d8_all _ h24)]
        rw [e2] at HM
        have hC := coE_hl os h64 ho h24
        have hC' := coE_hl (os.map (b * ·)) hm64 hmb (by rw [hsc]; exact h24)
        rw [hsc, dot_scale] at hC'
        have hbd := dot_bd os (hl os) ho h24
        have hbk : b * dot os (hl os) ≤ 1000 * (64 * 25165824) := Nat.mul_le_mul (by omega) (Nat.le_trans hbd (Nat.mul_le_mul h64 (Nat.le_refl _)))
        refine hti_0 A _ c b w os (hl os) (dot os (hl os)) ((b * dot os (hl os) : Nat) : Int) rfl h64 ho (by omega) (by omega) (Lib.hid fun V hV => h.on hV) HL (Lib.hid fun A5 c5 V hR => (HM A5 c5 V hR).mono fun _ _ q => gzM q hll) (by rw [Int.natCast_mul]; exact IntWalk.i64_in _ (by rw [← Int.natCast_mul]; omega)) (Lib.hid fun A1 c1 V hV hR => ?_) (Lib.hid fun A5 c5 A6 c6 V hR hS => ?_) (Lib.hid fun A B c d V h1 h2 => sameI_x (ns (hl os)) os.length (by rw [ns_length, hll]) hs A B c d V h1 h2)
        · have := cost_any (ns os) (ns (hl os)) os.length os.length (ns_length os) (by rw [ns_length, hll]) hs hs A A1 c c1 V (h.on hV) hR
          rwa [hC.1, hC.2] at this
        · have := cost_any (ns (os.map (b * ·))) (ns (hl os)) os.length os.length hml (by rw [ns_length, hll]) hs hs A5 A6 c5 c6 V hR hS
          rwa [hC'.1, hC'.2] at this
      · have e2 : hlA (ns (os.map (b * ·))) = ([], 3) := by
          unfold hlA
          rw [if_neg (by rw [hml]; omega), if_pos hof]
          rcases ofE_or (ns (os.map (b * ·))) with h | h
          · exact absurd h hof
          · rw [h]
        rw [e2] at HM
        exact hti_3 A _ c b w os (hl os) rfl h64 ho (by omega) (by omega) (Lib.hid fun V hV => h.on hV) HL (Lib.hid fun A5 c5 V hR => (HM A5 c5 V hR).mono fun _ _ q => gzM q rfl)
  · rw [hlA_err xs h0] at HX
    exact hti_e A _ c y w _ h0 (Lib.hid fun V hV => (HX V hV).mono fun _ _ q => gzM q rfl)
end Go.Proofs.Ytndiocehkdbjkaa
