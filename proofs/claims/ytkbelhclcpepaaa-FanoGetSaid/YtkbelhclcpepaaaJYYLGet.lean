/- The law FanoGet: for whatever list, top and place it returns true. -/
import Derived.Test.YtkbelhclcpepaaaJYYSev
namespace Go.Proofs.Ytkbelhclcpepaaa
set_option maxRecDepth 100000
set_option linter.unusedVariables false
open Go.RowKit Go.Shelf

set_option maxHeartbeats 4000000 in
theorem fg_e (A : Option Addr) (N c n1 n2 b o x y p i j a s h k : Nat) (n t ll lh iv top e0 : Int) (b1 b2 : List Nat) (w : World)
    (HW : Hid (∀ V, Below w.heap.size w V → Calls Try.prog 49 #[.slice A N c, .int .i64 top] V (WrP V 0 0 0 0 0 0 0 [] [] e0)))
    (t0 : (e0 != 0) = true) :
    Calls Try.prog 16 #[.slice A N c, .int .i64 top, .int .i64 iv] w fun e w' => e = .returned (.bool true) ∧ Below w.heap.size w w' := by
  go_enter Try.func16, Try.ntmps16
  go_wp2_with fail
  refine (HW.out _ (Below.refl _ _)).mono ?_
  rintro e w1_ ⟨A1, c1, A2, c2, rfl, Rq, Rq_HH, Bq⟩
  have Sq : Below w.heap.size w w1_ := Bq
  have HB : Hid (Below w.heap.size w w1_) := Sq
  clear Bq Sq
  have HL := Lib.hid Rq; clear Rq
  have HH := Lib.hid Rq_HH; clear Rq_HH
  go_wp2_with fail
  refine (ybegun_true _).mono ?_
  rintro e w2_ ⟨rfl, Bq⟩
  rw [World.size_alloc] at Bq
  have Sq : Below w1_.heap.size w1_ w2_ := (one_below w1_ _).trans (Bq.mono (by omega))
  replace HL : Hid (Rd w2_ w2_.heap.size A1 []) := HL.out.on Sq
  replace HH : Hid (Rd w2_ w2_.heap.size A2 []) := HH.out.on Sq
  replace HB : Hid (Below w.heap.size w w2_) := HB.out.trans (Sq.mono HB.out.size)
  have zf : w1_.heap.size < w2_.heap.size := by have := Bq.size; rw [World.size_alloc] at this; omega
  obtain ⟨pf0, pf1, pf2, pf3, pf4, pf5, pf6⟩ := box7_at Bq
  clear Bq Sq
  go_wp2_with fail
  refine (rbegun_true _).mono ?_
  rintro e w3_ ⟨rfl, Bq⟩
  have Sq : Below w2_.heap.size w2_ w3_ := Bq
  replace HL : Hid (Rd w3_ w3_.heap.size A1 []) := HL.out.on Sq
  replace HH : Hid (Rd w3_ w3_.heap.size A2 []) := HH.out.on Sq
  replace HB : Hid (Below w.heap.size w w3_) := HB.out.trans (Sq.mono HB.out.size)
  replace pf0 := (Sq.cell (p := ⟨w1_.heap.size, 0, none⟩) zf).trans pf0
  replace pf1 := (Sq.cell (p := ⟨w1_.heap.size, 1, none⟩) zf).trans pf1
  replace pf2 := (Sq.cell (p := ⟨w1_.heap.size, 2, none⟩) zf).trans pf2
  replace pf3 := (Sq.cell (p := ⟨w1_.heap.size, 3, none⟩) zf).trans pf3
  replace pf4 := (Sq.cell (p := ⟨w1_.heap.size, 4, none⟩) zf).trans pf4
  replace pf5 := (Sq.cell (p := ⟨w1_.heap.size, 5, none⟩) zf).trans pf5
  replace pf6 := (Sq.cell (p := ⟨w1_.heap.size, 6, none⟩) zf).trans pf6
  replace zf : w1_.heap.size < w3_.heap.size := Nat.lt_of_lt_of_le zf Sq.size
  clear Bq Sq
  go_wp2
  go_ret
  exact ⟨rfl, HB.out⟩
set_option maxHeartbeats 4000000 in
theorem get_i1 (A : Option Addr) (N c n1 n2 b o x y p i j a s h k : Nat) (n t ll lh iv top e0 : Int) (b1 b2 : List Nat) (w : World)
    (HW : Hid (∀ V, Below w.heap.size w V → Calls Try.prog 49 #[.slice A N c, .int .i64 t] V (WrP V n t (k : Int) ll lh n1 n2 b1 b2 0)))
    (t0 : decide (iv < 0) = true) :
    Calls Try.prog 16 #[.slice A N c, .int .i64 t, .int .i64 iv] w fun e w' => e = .returned (.bool true) ∧ Below w.heap.size w w' := by
  go_enter Try.func16, Try.ntmps16
  go_wp2_with fail
  refine (HW.out _ (Below.refl _ _)).mono ?_
  rintro e w1_ ⟨A1, c1, A2, c2, rfl, Rq, Rq_HH, Bq⟩
  have Sq : Below w.heap.size w w1_ := Bq
  have HB : Hid (Below w.heap.size w w1_) := Sq
  clear Bq Sq
  have HL := Lib.hid Rq; clear Rq
  have HH := Lib.hid Rq_HH; clear Rq_HH
  go_wp2_with fail
  refine (ybegun_true _).mono ?_
  rintro e w2_ ⟨rfl, Bq⟩
  rw [World.size_alloc] at Bq
  have Sq : Below w1_.heap.size w1_ w2_ := (one_below w1_ _).trans (Bq.mono (by omega))
  replace HL : Hid (Rd w2_ w2_.heap.size A1 b1) := HL.out.on Sq
  replace HH : Hid (Rd w2_ w2_.heap.size A2 b2) := HH.out.on Sq
  replace HB : Hid (Below w.heap.size w w2_) := HB.out.trans (Sq.mono HB.out.size)
  have zf : w1_.heap.size < w2_.heap.size := by have := Bq.size; rw [World.size_alloc] at this; omega
  obtain ⟨pf0, pf1, pf2, pf3, pf4, pf5, pf6⟩ := box7_at Bq
  clear Bq Sq
  go_wp2_with fail
  refine (rbegun_true _).mono ?_
  rintro e w3_ ⟨rfl, Bq⟩
  have Sq : Below w2_.heap.size w2_ w3_ := Bq
  replace HL : Hid (Rd w3_ w3_.heap.size A1 b1) := HL.out.on Sq
  replace HH : Hid (Rd w3_ w3_.heap.size A2 b2) := HH.out.on Sq
  replace HB : Hid (Below w.heap.size w w3_) := HB.out.trans (Sq.mono HB.out.size)
  replace pf0 := (Sq.cell (p := ⟨w1_.heap.size, 0, none⟩) zf).trans pf0
  replace pf1 := (Sq.cell (p := ⟨w1_.heap.size, 1, none⟩) zf).trans pf1
  replace pf2 := (Sq.cell (p := ⟨w1_.heap.size, 2, none⟩) zf).trans pf2
  replace pf3 := (Sq.cell (p := ⟨w1_.heap.size, 3, none⟩) zf).trans pf3
  replace pf4 := (Sq.cell (p := ⟨w1_.heap.size, 4, none⟩) zf).trans pf4
  replace pf5 := (Sq.cell (p := ⟨w1_.heap.size, 5, none⟩) zf).trans pf5
  replace pf6 := (Sq.cell (p := ⟨w1_.heap.size, 6, none⟩) zf).trans pf6
  replace zf : w1_.heap.size < w3_.heap.size := Nat.lt_of_lt_of_le zf Sq.size
  clear Bq Sq
  go_wp2
  go_ret
  exact ⟨rfl, HB.out⟩
set_option maxHeartbeats 4000000 in
theorem get_i2 (A : Option Addr) (N c n1 n2 b o x y p i j a s h k : Nat) (n t ll lh iv top e0 : Int) (b1 b2 : List Nat) (w : World)
    (HW : Hid (∀ V, Below w.heap.size w V → Calls Try.prog 49 #[.slice A N c, .int .i64 t] V (WrP V n t (k : Int) ll lh n1 n2 b1 b2 0)))
    (t0 : decide (iv < 0) = false) (t1 : decide ((N : Int) ≤ iv) = true) :
    Calls Try.prog 16 #[.slice A N c, .int .i64 t, .int .i64 iv] w fun e w' => e = .returned (.bool true) ∧ Below w.heap.size w w' := by
  go_enter Try.func16, Try.ntmps16
  go_wp2_with fail
  refine (HW.out _ (Below.refl _ _)).mono ?_
  rintro e w1_ ⟨A1, c1, A2, c2, rfl, Rq, Rq_HH, Bq⟩
  have Sq : Below w.heap.size w w1_ := Bq
  have HB : Hid (Below w.heap.size w w1_) := Sq
  clear Bq Sq
  have HL := Lib.hid Rq; clear Rq
  have HH := Lib.hid Rq_HH; clear Rq_HH
  go_wp2_with fail
  refine (ybegun_true _).mono ?_
  rintro e w2_ ⟨rfl, Bq⟩
  rw [World.size_alloc] at Bq
  have Sq : Below w1_.heap.size w1_ w2_ := (one_below w1_ _).trans (Bq.mono (by omega))
  replace HL : Hid (Rd w2_ w2_.heap.size A1 b1) := HL.out.on Sq
  replace HH : Hid (Rd w2_ w2_.heap.size A2 b2) := HH.out.on Sq
  replace HB : Hid (Below w.heap.size w w2_) := HB.out.trans (Sq.mono HB.out.size)
  have zf : w1_.heap.size < w2_.heap.size := by have := Bq.size; rw [World.size_alloc] at this; omega
  obtain ⟨pf0, pf1, pf2, pf3, pf4, pf5, pf6⟩ := box7_at Bq
  clear Bq Sq
  go_wp2_with fail
  refine (rbegun_true _).mono ?_
  rintro e w3_ ⟨rfl, Bq⟩
  have Sq : Below w2_.heap.size w2_ w3_ := Bq
  replace HL : Hid (Rd w3_ w3_.heap.size A1 b1) := HL.out.on Sq
  replace HH : Hid (Rd w3_ w3_.heap.size A2 b2) := HH.out.on Sq
  replace HB : Hid (Below w.heap.size w w3_) := HB.out.trans (Sq.mono HB.out.size)
  replace pf0 := (Sq.cell (p := ⟨w1_.heap.size, 0, none⟩) zf).trans pf0
  replace pf1 := (Sq.cell (p := ⟨w1_.heap.size, 1, none⟩) zf).trans pf1
  replace pf2 := (Sq.cell (p := ⟨w1_.heap.size, 2, none⟩) zf).trans pf2
  replace pf3 := (Sq.cell (p := ⟨w1_.heap.size, 3, none⟩) zf).trans pf3
  replace pf4 := (Sq.cell (p := ⟨w1_.heap.size, 4, none⟩) zf).trans pf4
  replace pf5 := (Sq.cell (p := ⟨w1_.heap.size, 5, none⟩) zf).trans pf5
  replace pf6 := (Sq.cell (p := ⟨w1_.heap.size, 6, none⟩) zf).trans pf6
  replace zf : w1_.heap.size < w3_.heap.size := Nat.lt_of_lt_of_le zf Sq.size
  clear Bq Sq
  go_wp2
  go_ret
  exact ⟨rfl, HB.out⟩
set_option maxHeartbeats 4000000 in
theorem get_c0 (A : Option Addr) (N c n1 n2 b o x y p i j a s h k : Nat) (n t ll lh iv top e0 : Int) (b1 b2 : List Nat) (w : World)
    (HW : Hid (∀ V, Below w.heap.size w V → Calls Try.prog 49 #[.slice (some ⟨b, o, none⟩) N c, .int .i64 t] V (WrP V n t (k : Int) ll lh n1 n2 b1 b2 0)))
    (HG : Hid (∀ A1 c1 A2 c2 V, Rd V V.heap.size A1 b1 → Rd V V.heap.size A2 b2 → Calls Try.prog 51 #[.agg #[.int .i64 n, .int .i64 t, .int .i64 (k : Int), .int .i64 ll, .slice A1 n1 c1, .int .i64 lh, .slice A2 n2 c2], .int .i64 (i : Int)] V (RkP V x 0)))
    (HS : Hid (∀ A2 c2 V, Rd V V.heap.size A2 b2 → Calls Try.prog 36 #[.agg #[.int .i64 lh, .slice A2 n2 c2], .int .i64 1, .int .i64 (i : Int)] V (RkP V s 0)))
    (HN : Hid (∀ A1 c1 A2 c2 V, Rd V V.heap.size A1 b1 → Rd V V.heap.size A2 b2 → Calls Try.prog 52 #[.agg #[.int .i64 n, .int .i64 t, .int .i64 (k : Int), .int .i64 ll, .slice A1 n1 c1, .int .i64 lh, .slice A2 n2 c2], .int .i64 (x : Int)] V (NxP V 0 x 0)))
    (HC : Hid (∀ V, Below w.heap.size w V → V.cell? ⟨b, o + i, none⟩ = some (.int .i64 (x : Int))))
    (i0 : (0 : Int) ≤ (i : Int)) (i1 : (i : Int) < (N : Int)) (i2 : i < N) (t0 : decide ((i : Int) < 0) = false) (t1 : decide ((N : Int) ≤ (i : Int)) = false) (ts : (s : Int) - (i : Int) = (h : Int)) (tw : IntKind.i64.wrap (h : Int) = (h : Int)) (tw2 : wrap64 (h : Int) = (h : Int)) (hk : k ≤ 20) (th : (x : Int) / 2 ^ k = (h : Int)) (ta : decide ((0 : Int) ≤ (i : Int)) = true) :
    Calls Try.prog 16 #[.slice (some ⟨b, o, none⟩) N c, .int .i64 t, .int .i64 (i : Int)] w fun e w' => e = .returned (.bool true) ∧ Below w.heap.size w w' := by
  go_enter Try.func16, Try.ntmps16
  go_wp2_with fail
  refine (HW.out _ (Below.refl _ _)).mono ?_
  rintro e w1_ ⟨A1, c1, A2, c2, rfl, Rq, Rq_HH, Bq⟩
  have Sq : Below w.heap.size w w1_ := Bq
  have HB : Hid (Below w.heap.size w w1_) := Sq
  clear Bq Sq
  have HL := Lib.hid Rq; clear Rq
  have HH := Lib.hid Rq_HH; clear Rq_HH
  go_wp2_with fail
  refine (ybegun_true _).mono ?_
  rintro e w2_ ⟨rfl, Bq⟩
  rw [World.size_alloc] at Bq
  have Sq : Below w1_.heap.size w1_ w2_ := (one_below w1_ _).trans (Bq.mono (by omega))
  replace HL : Hid (Rd w2_ w2_.heap.size A1 b1) := HL.out.on Sq
  replace HH : Hid (Rd w2_ w2_.heap.size A2 b2) := HH.out.on Sq
  replace HB : Hid (Below w.heap.size w w2_) := HB.out.trans (Sq.mono HB.out.size)
  have zf : w1_.heap.size < w2_.heap.size := by have := Bq.size; rw [World.size_alloc] at this; omega
  obtain ⟨pf0, pf1, pf2, pf3, pf4, pf5, pf6⟩ := box7_at Bq
  clear Bq Sq
  go_wp2_with fail
  refine (rbegun_true _).mono ?_
  rintro e w3_ ⟨rfl, Bq⟩
  have Sq : Below w2_.heap.size w2_ w3_ := Bq
  replace HL : Hid (Rd w3_ w3_.heap.size A1 b1) := HL.out.on Sq
  replace HH : Hid (Rd w3_ w3_.heap.size A2 b2) := HH.out.on Sq
  replace HB : Hid (Below w.heap.size w w3_) := HB.out.trans (Sq.mono HB.out.size)
  replace pf0 := (Sq.cell (p := ⟨w1_.heap.size, 0, none⟩) zf).trans pf0
  replace pf1 := (Sq.cell (p := ⟨w1_.heap.size, 1, none⟩) zf).trans pf1
  replace pf2 := (Sq.cell (p := ⟨w1_.heap.size, 2, none⟩) zf).trans pf2
  replace pf3 := (Sq.cell (p := ⟨w1_.heap.size, 3, none⟩) zf).trans pf3
  replace pf4 := (Sq.cell (p := ⟨w1_.heap.size, 4, none⟩) zf).trans pf4
  replace pf5 := (Sq.cell (p := ⟨w1_.heap.size, 5, none⟩) zf).trans pf5
  replace pf6 := (Sq.cell (p := ⟨w1_.heap.size, 6, none⟩) zf).trans pf6
  replace zf : w1_.heap.size < w3_.heap.size := Nat.lt_of_lt_of_le zf Sq.size
  clear Bq Sq
  go_wp2_with fail
  refine (HG.out A1 c1 A2 c2 _ HL.out HH.out).mono ?_
  rintro e w4_ ⟨rfl, Bq⟩
  have Sq : Below w3_.heap.size w3_ w4_ := Bq
  replace HL : Hid (Rd w4_ w4_.heap.size A1 b1) := HL.out.on Sq
  replace HH : Hid (Rd w4_ w4_.heap.size A2 b2) := HH.out.on Sq
  replace HB : Hid (Below w.heap.size w w4_) := HB.out.trans (Sq.mono HB.out.size)
  replace pf0 := (Sq.cell (p := ⟨w1_.heap.size, 0, none⟩) zf).trans pf0
  replace pf1 := (Sq.cell (p := ⟨w1_.heap.size, 1, none⟩) zf).trans pf1
  replace pf2 := (Sq.cell (p := ⟨w1_.heap.size, 2, none⟩) zf).trans pf2
  replace pf3 := (Sq.cell (p := ⟨w1_.heap.size, 3, none⟩) zf).trans pf3
  replace pf4 := (Sq.cell (p := ⟨w1_.heap.size, 4, none⟩) zf).trans pf4
  replace pf5 := (Sq.cell (p := ⟨w1_.heap.size, 5, none⟩) zf).trans pf5
  replace pf6 := (Sq.cell (p := ⟨w1_.heap.size, 6, none⟩) zf).trans pf6
  replace zf : w1_.heap.size < w4_.heap.size := Nat.lt_of_lt_of_le zf Sq.size
  clear Bq Sq
  go_wp2_with fail
  refine (HS.out A2 c2 _ HH.out).mono ?_
  rintro e w5_ ⟨rfl, Bq⟩
  have Sq : Below w4_.heap.size w4_ w5_ := Bq
  replace HL : Hid (Rd w5_ w5_.heap.size A1 b1) := HL.out.on Sq
  replace HH : Hid (Rd w5_ w5_.heap.size A2 b2) := HH.out.on Sq
  replace HB : Hid (Below w.heap.size w w5_) := HB.out.trans (Sq.mono HB.out.size)
  replace pf0 := (Sq.cell (p := ⟨w1_.heap.size, 0, none⟩) zf).trans pf0
  replace pf1 := (Sq.cell (p := ⟨w1_.heap.size, 1, none⟩) zf).trans pf1
  replace pf2 := (Sq.cell (p := ⟨w1_.heap.size, 2, none⟩) zf).trans pf2
  replace pf3 := (Sq.cell (p := ⟨w1_.heap.size, 3, none⟩) zf).trans pf3
  replace pf4 := (Sq.cell (p := ⟨w1_.heap.size, 4, none⟩) zf).trans pf4
  replace pf5 := (Sq.cell (p := ⟨w1_.heap.size, 5, none⟩) zf).trans pf5
  replace pf6 := (Sq.cell (p := ⟨w1_.heap.size, 6, none⟩) zf).trans pf6
  replace zf : w1_.heap.size < w5_.heap.size := Nat.lt_of_lt_of_le zf Sq.size
  clear Bq Sq
  go_wp2_with fail
  refine (HN.out A1 c1 A2 c2 _ HL.out HH.out).mono ?_
  rintro e w6_ ⟨rfl, Bq⟩
  have Sq : Below w5_.heap.size w5_ w6_ := Bq
  replace HL : Hid (Rd w6_ w6_.heap.size A1 b1) := HL.out.on Sq
  replace HH : Hid (Rd w6_ w6_.heap.size A2 b2) := HH.out.on Sq
  replace HB : Hid (Below w.heap.size w w6_) := HB.out.trans (Sq.mono HB.out.size)
  replace pf0 := (Sq.cell (p := ⟨w1_.heap.size, 0, none⟩) zf).trans pf0
  replace pf1 := (Sq.cell (p := ⟨w1_.heap.size, 1, none⟩) zf).trans pf1
  replace pf2 := (Sq.cell (p := ⟨w1_.heap.size, 2, none⟩) zf).trans pf2
  replace pf3 := (Sq.cell (p := ⟨w1_.heap.size, 3, none⟩) zf).trans pf3
  replace pf4 := (Sq.cell (p := ⟨w1_.heap.size, 4, none⟩) zf).trans pf4
  replace pf5 := (Sq.cell (p := ⟨w1_.heap.size, 5, none⟩) zf).trans pf5
  replace pf6 := (Sq.cell (p := ⟨w1_.heap.size, 6, none⟩) zf).trans pf6
  replace zf : w1_.heap.size < w6_.heap.size := Nat.lt_of_lt_of_le zf Sq.size
  clear Bq Sq
  have hHC := HC.out _ HB.out
  go_wp2
  go_ret
  exact ⟨rfl, HB.out⟩
set_option maxHeartbeats 4000000 in
theorem get_c1 (A : Option Addr) (N c n1 n2 b o x y p i j a s h k : Nat) (n t ll lh iv top e0 : Int) (b1 b2 : List Nat) (w : World)
    (HW : Hid (∀ V, Below w.heap.size w V → Calls Try.prog 49 #[.slice (some ⟨b, o, none⟩) N c, .int .i64 t] V (WrP V n t (k : Int) ll lh n1 n2 b1 b2 0)))
    (HG : Hid (∀ A1 c1 A2 c2 V, Rd V V.heap.size A1 b1 → Rd V V.heap.size A2 b2 → Calls Try.prog 51 #[.agg #[.int .i64 n, .int .i64 t, .int .i64 (k : Int), .int .i64 ll, .slice A1 n1 c1, .int .i64 lh, .slice A2 n2 c2], .int .i64 (i : Int)] V (RkP V x 0)))
    (HS : Hid (∀ A2 c2 V, Rd V V.heap.size A2 b2 → Calls Try.prog 36 #[.agg #[.int .i64 lh, .slice A2 n2 c2], .int .i64 1, .int .i64 (i : Int)] V (RkP V s 0)))
    (HN : Hid (∀ A1 c1 A2 c2 V, Rd V V.heap.size A1 b1 → Rd V V.heap.size A2 b2 → Calls Try.prog 52 #[.agg #[.int .i64 n, .int .i64 t, .int .i64 (k : Int), .int .i64 ll, .slice A1 n1 c1, .int .i64 lh, .slice A2 n2 c2], .int .i64 (x : Int)] V (NxP V a x 0)))
    (HC : Hid (∀ V, Below w.heap.size w V → V.cell? ⟨b, o + i, none⟩ = some (.int .i64 (x : Int))))
    (HD : Hid (∀ V, Below w.heap.size w V → V.cell? ⟨b, o + j, none⟩ = some (.int .i64 (p : Int))))
    (i0 : (0 : Int) ≤ (i : Int)) (i1 : (i : Int) < (N : Int)) (i2 : i < N) (t0 : decide ((i : Int) < 0) = false) (t1 : decide ((N : Int) ≤ (i : Int)) = false) (ts : (s : Int) - (i : Int) = (h : Int)) (tw : IntKind.i64.wrap (h : Int) = (h : Int)) (tw2 : wrap64 (h : Int) = (h : Int)) (hk : k ≤ 20) (th : (x : Int) / 2 ^ k = (h : Int)) (ta : a ≤ i) (t3 : ((a : Int) == 0) = false) (t4 : (a : Int) - 1 = (j : Int)) (tj : IntKind.i64.wrap (j : Int) = (j : Int)) (tj2 : wrap64 (j : Int) = (j : Int)) (i3 : (0 : Int) ≤ (j : Int)) (i4 : (j : Int) < (N : Int)) (i5 : j < N) (t5 : decide (p < x) = true) :
    Calls Try.prog 16 #[.slice (some ⟨b, o, none⟩) N c, .int .i64 t, .int .i64 (i : Int)] w fun e w' => e = .returned (.bool true) ∧ Below w.heap.size w w' := by
  go_enter Try.func16, Try.ntmps16
  go_wp2_with fail
  refine (HW.out _ (Below.refl _ _)).mono ?_
  rintro e w1_ ⟨A1, c1, A2, c2, rfl, Rq, Rq_HH, Bq⟩
  have Sq : Below w.heap.size w w1_ := Bq
  have HB : Hid (Below w.heap.size w w1_) := Sq
  clear Bq Sq
  have HL := Lib.hid Rq; clear Rq
  have HH := Lib.hid Rq_HH; clear Rq_HH
  go_wp2_with fail
  refine (ybegun_true _).mono ?_
  rintro e w2_ ⟨rfl, Bq⟩
  rw [World.size_alloc] at Bq
  have Sq : Below w1_.heap.size w1_ w2_ := (one_below w1_ _).trans (Bq.mono (by omega))
  replace HL : Hid (Rd w2_ w2_.heap.size A1 b1) := HL.out.on Sq
  replace HH : Hid (Rd w2_ w2_.heap.size A2 b2) := HH.out.on Sq
  replace HB : Hid (Below w.heap.size w w2_) := HB.out.trans (Sq.mono HB.out.size)
  have zf : w1_.heap.size < w2_.heap.size := by have := Bq.size; rw [World.size_alloc] at this; omega
  obtain ⟨pf0, pf1, pf2, pf3, pf4, pf5, pf6⟩ := box7_at Bq
  clear Bq Sq
  go_wp2_with fail
  refine (rbegun_true _).mono ?_
  rintro e w3_ ⟨rfl, Bq⟩
  have Sq : Below w2_.heap.size w2_ w3_ := Bq
  replace HL : Hid (Rd w3_ w3_.heap.size A1 b1) := HL.out.on Sq
  replace HH : Hid (Rd w3_ w3_.heap.size A2 b2) := HH.out.on Sq
  replace HB : Hid (Below w.heap.size w w3_) := HB.out.trans (Sq.mono HB.out.size)
  replace pf0 := (Sq.cell (p := ⟨w1_.heap.size, 0, none⟩) zf).trans pf0
  replace pf1 := (Sq.cell (p := ⟨w1_.heap.size, 1, none⟩) zf).trans pf1
  replace pf2 := (Sq.cell (p := ⟨w1_.heap.size, 2, none⟩) zf).trans pf2
  replace pf3 := (Sq.cell (p := ⟨w1_.heap.size, 3, none⟩) zf).trans pf3
  replace pf4 := (Sq.cell (p := ⟨w1_.heap.size, 4, none⟩) zf).trans pf4
  replace pf5 := (Sq.cell (p := ⟨w1_.heap.size, 5, none⟩) zf).trans pf5
  replace pf6 := (Sq.cell (p := ⟨w1_.heap.size, 6, none⟩) zf).trans pf6
  replace zf : w1_.heap.size < w3_.heap.size := Nat.lt_of_lt_of_le zf Sq.size
  clear Bq Sq
  go_wp2_with fail
  refine (HG.out A1 c1 A2 c2 _ HL.out HH.out).mono ?_
  rintro e w4_ ⟨rfl, Bq⟩
  have Sq : Below w3_.heap.size w3_ w4_ := Bq
  replace HL : Hid (Rd w4_ w4_.heap.size A1 b1) := HL.out.on Sq
  replace HH : Hid (Rd w4_ w4_.heap.size A2 b2) := HH.out.on Sq
  replace HB : Hid (Below w.heap.size w w4_) := HB.out.trans (Sq.mono HB.out.size)
  replace pf0 := (Sq.cell (p := ⟨w1_.heap.size, 0, none⟩) zf).trans pf0
  replace pf1 := (Sq.cell (p := ⟨w1_.heap.size, 1, none⟩) zf).trans pf1
  replace pf2 := (Sq.cell (p := ⟨w1_.heap.size, 2, none⟩) zf).trans pf2
  replace pf3 := (Sq.cell (p := ⟨w1_.heap.size, 3, none⟩) zf).trans pf3
  replace pf4 := (Sq.cell (p := ⟨w1_.heap.size, 4, none⟩) zf).trans pf4
  replace pf5 := (Sq.cell (p := ⟨w1_.heap.size, 5, none⟩) zf).trans pf5
  replace pf6 := (Sq.cell (p := ⟨w1_.heap.size, 6, none⟩) zf).trans pf6
  replace zf : w1_.heap.size < w4_.heap.size := Nat.lt_of_lt_of_le zf Sq.size
  clear Bq Sq
  go_wp2_with fail
  refine (HS.out A2 c2 _ HH.out).mono ?_
  rintro e w5_ ⟨rfl, Bq⟩
  have Sq : Below w4_.heap.size w4_ w5_ := Bq
  replace HL : Hid (Rd w5_ w5_.heap.size A1 b1) := HL.out.on Sq
  replace HH : Hid (Rd w5_ w5_.heap.size A2 b2) := HH.out.on Sq
  replace HB : Hid (Below w.heap.size w w5_) := HB.out.trans (Sq.mono HB.out.size)
  replace pf0 := (Sq.cell (p := ⟨w1_.heap.size, 0, none⟩) zf).trans pf0
  replace pf1 := (Sq.cell (p := ⟨w1_.heap.size, 1, none⟩) zf).trans pf1
  replace pf2 := (Sq.cell (p := ⟨w1_.heap.size, 2, none⟩) zf).trans pf2
  replace pf3 := (Sq.cell (p := ⟨w1_.heap.size, 3, none⟩) zf).trans pf3
  replace pf4 := (Sq.cell (p := ⟨w1_.heap.size, 4, none⟩) zf).trans pf4
  replace pf5 := (Sq.cell (p := ⟨w1_.heap.size, 5, none⟩) zf).trans pf5
  replace pf6 := (Sq.cell (p := ⟨w1_.heap.size, 6, none⟩) zf).trans pf6
  replace zf : w1_.heap.size < w5_.heap.size := Nat.lt_of_lt_of_le zf Sq.size
  clear Bq Sq
  go_wp2_with fail
  refine (HN.out A1 c1 A2 c2 _ HL.out HH.out).mono ?_
  rintro e w6_ ⟨rfl, Bq⟩
  have Sq : Below w5_.heap.size w5_ w6_ := Bq
  replace HL : Hid (Rd w6_ w6_.heap.size A1 b1) := HL.out.on Sq
  replace HH : Hid (Rd w6_ w6_.heap.size A2 b2) := HH.out.on Sq
  replace HB : Hid (Below w.heap.size w w6_) := HB.out.trans (Sq.mono HB.out.size)
  replace pf0 := (Sq.cell (p := ⟨w1_.heap.size, 0, none⟩) zf).trans pf0
  replace pf1 := (Sq.cell (p := ⟨w1_.heap.size, 1, none⟩) zf).trans pf1
  replace pf2 := (Sq.cell (p := ⟨w1_.heap.size, 2, none⟩) zf).trans pf2
  replace pf3 := (Sq.cell (p := ⟨w1_.heap.size, 3, none⟩) zf).trans pf3
  replace pf4 := (Sq.cell (p := ⟨w1_.heap.size, 4, none⟩) zf).trans pf4
  replace pf5 := (Sq.cell (p := ⟨w1_.heap.size, 5, none⟩) zf).trans pf5
  replace pf6 := (Sq.cell (p := ⟨w1_.heap.size, 6, none⟩) zf).trans pf6
  replace zf : w1_.heap.size < w6_.heap.size := Nat.lt_of_lt_of_le zf Sq.size
  clear Bq Sq
  have hHC := HC.out _ HB.out
  have hHD := HD.out _ HB.out
  go_wp2
  go_ret
  exact ⟨rfl, HB.out⟩
theorem fanoGet_law (A : Option Addr) (c : Nat) (xs : List Int) (top iv : Int) (w : World) (hcp : xs.length ≤ c) (hnl : A = none → c = 0) (hb : ∀ x ∈ xs, -9223372036854775808 ≤ x ∧ x ≤ 9223372036854775807) (h : RdV w w.heap.size A (zc xs)) (hs : xs.length ≤ 9223372036854775807) (hp : -9223372036854775808 ≤ top ∧ top ≤ 9223372036854775807) (hx : -9223372036854775808 ≤ iv ∧ iv ≤ 9223372036854775807) :
    Calls Try.prog 16 #[.slice A xs.length c, .int .i64 top, .int .i64 iv] w fun e w' => e = .returned (.bool true) ∧ Below w.heap.size w w' := by
  rcases writeP xs _ rfl hs top A c w h with ⟨e0, t0, _, HW⟩ | ⟨l, t, k, rfl, rfl, hn, hn3, ht, hle, hu, hk, hz, HW⟩
  · exact fg_e A _ c 0 0 0 0 0 0 0 0 0 0 0 0 0 0 0 0 0 iv top e0 [] [] w HW t0
  · obtain ⟨n, hnn⟩ : ∃ n, (ns l).length = n := ⟨_, rfl⟩
    rw [hnn] at HW hn hn3 hk hz hs ⊢
    by_cases q1 : iv < 0
    · exact get_i1 A n c _ _ 0 0 0 0 0 0 0 0 0 0 k (n : Int) (t : Int) _ _ iv 0 0 _ _ w HW (by simpa using q1)
    · by_cases q2 : (n : Int) ≤ iv
      · exact get_i2 A n c _ _ 0 0 0 0 0 0 0 0 0 0 k (n : Int) (t : Int) _ _ iv 0 0 _ _ w HW (by simpa using q1) (by simpa using q2)
      · obtain ⟨i, rfl⟩ := Int.eq_ofNat_of_zero_le (show 0 ≤ iv by omega)
        have hi : i < n := by omega
        obtain ⟨b, o, rfl, HC⟩ : ∃ b o, A = some ⟨b, o, none⟩ ∧ Hid (∀ V, Below w.heap.size w V → ∀ j, j < n → V.cell? ⟨b, o + j, none⟩ = some (.int .i64 ((l[j]?.getD 0 : Nat) : Int))) := by
          obtain ⟨b, o, hA, hb, hc⟩ := h.at_ (ns_get l i (by omega))
          refine ⟨b, o, hA, fun V hV j hj => ?_⟩
          obtain ⟨b', o', hA', hb', hc'⟩ := h.at_ (ns_get l j (by omega))
          rw [hA] at hA'
          injection hA' with hA'
          injection hA' with e1 e2
          subst e1 e2
          exact (hV.cell (p := ⟨b, o + j, none⟩) hb').trans hc'
        have hk20 : k ≤ 20 := by rw [← hk]; exact fw_bound n t ht
        have hfl := fhi_len k l t hu hle
        have hf8 : (fhi k l t).length ≤ 8192 := by rw [hfl, hn]; omega
        obtain ⟨s, hs1, hs2, hs3⟩ := fhi_sel k l t i hu (by omega)
        have hsl : s < (fhi k l t).length := by
          have := pos_bound (fhi k l t) 0 s (List.mem_of_getElem? hs1)
          omega
        have hsel : sel true (fhi k l t) i = some s := by rw [sel_eq, eqs_true]; exact hs1
        have HS : Hid (∀ A2 c2 V, Rd V V.heap.size A2 (pack (fhi k l t)) → Calls Try.prog 36 #[.agg #[.int .i64 ((fhi k l t).length : Int), .slice A2 (pack (fhi k l t)).length c2], .int .i64 1, .int .i64 (i : Int)] V (RkP V s 0)) := fun A2 c2 V R => sel_ok1 _ hf8 A2 c2 i s 0 (.inr ⟨hsel, rfl⟩) V R
        obtain ⟨x, hx⟩ : ∃ x, l[i]?.getD 0 = x := ⟨_, rfl⟩
        have hxi : l[i]'(by omega) = x := by rw [← hx, List.getElem?_eq_getElem (by omega)]; rfl
        rw [hxi] at hs2
        have HG : Hid (∀ A1 c1 A2 c2 V, Rd V V.heap.size A1 (pack (loP k l)) → Rd V V.heap.size A2 (pack (fhi k l t)) → Calls Try.prog 51 #[.agg #[.int .i64 (n : Int), .int .i64 (t : Int), .int .i64 (k : Int), .int .i64 ((loP k l).length : Int), .slice A1 (pack (loP k l)).length c1, .int .i64 ((fhi k l t).length : Int), .slice A2 (pack (fhi k l t)).length c2], .int .i64 (i : Int)] V (RkP V x 0)) := fun A1 c1 A2 c2 V R1 R2 => fget_w l n t k hn hn3 ht hle hu hk hz i hi x hx A1 c1 A2 c2 V R1 R2
        have th : ((x : Nat) : Int) / 2 ^ k = ((x / 2 ^ k : Nat) : Int) := by simp
        have ts : (s : Int) - (i : Int) = ((x / 2 ^ k : Nat) : Int) := by rw [← hs2]; omega
        have hb9 : x / 2 ^ k ≤ 8192 := by omega
        rcases fnext_w l n t k hn hn3 ht hle hu hk hz (x : Int) with ⟨hall, HN⟩ | ⟨a, ha, hxa, hmin, HN⟩
        · have := hall i hi; omega
        · have hai : a ≤ i := by
            rcases Nat.lt_or_ge i a with q | q
            · have := hmin i q; omega
            · exact q
          have hag := fun q : a < i => up_get l 0 hu a i q (by omega)
          have hax : l[a]?.getD 0 = x := by
            rcases Nat.lt_or_eq_of_le hai with q | q
            · have := hag q; omega
            · rw [q]; exact hx
          rw [hax] at HN
          have HC1 : Hid (∀ V, Below w.heap.size w V → V.cell? ⟨b, o + i, none⟩ = some (.int .i64 (x : Int))) := fun V hV => by rw [← hx]; exact HC.out V hV i hi
          rcases Nat.eq_zero_or_pos a with rfl | hpos
          · exact get_c0 none n c _ _ b o x 0 0 i 0 0 s (x / 2 ^ k) k (n : Int) (t : Int) _ _ 0 0 0 _ _ w HW HG HS HN HC1 (by omega) (by omega) hi (by simp) (by simp; omega) ts (by rw [IntKind.wrap_i64]; omega) (by unfold wrap64; omega) hk20 th (by simp)
          · exact get_c1 none n c _ _ b o x 0 (l[a - 1]?.getD 0) i (a - 1) a s (x / 2 ^ k) k (n : Int) (t : Int) _ _ 0 0 0 _ _ w HW HG HS HN HC1 (fun V hV => HC.out V hV (a - 1) (by omega)) (by omega) (by omega) hi (by simp) (by simp; omega) ts (by rw [IntKind.wrap_i64]; omega) (by unfold wrap64; omega) hk20 th hai (by simp; omega) (by omega) (by rw [IntKind.wrap_i64]; omega) (by unfold wrap64; omega) (by omega) (by omega) (by omega) (by have := hmin (a - 1) (by omega); simp; omega)
end Go.Proofs.Ytkbelhclcpepaaa
