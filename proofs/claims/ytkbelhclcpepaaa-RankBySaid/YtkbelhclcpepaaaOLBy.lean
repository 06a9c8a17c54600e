/- The law RankBy: for whatever bits, place and two distances it returns true. -/
import Derived.Test.YtkbelhclcpepaaaOLEnds
namespace Go.Proofs.Ytkbelhclcpepaaa
set_option maxRecDepth 100000
set_option linter.unusedVariables false
open Go.RowKit Go.Shelf

set_option maxHeartbeats 4000000 in
theorem by_a (len : Int) (A : Option Addr) (N c : Nat) (p x y e0 ex fx ey fy : Int) (nX nY n : Nat) (xs ys : List Int) (w : World)
    (HR : Hid (∀ V, Below w.heap.size w V → Calls Try.prog 35 #[.agg #[.int .i64 len, .slice A N c], .int .i64 p] V (RkP V n e0)))
    (HX : Hid (∀ V, Below w.heap.size w V → Calls Try.prog 37 #[.agg #[.int .i64 len, .slice A N c], .int .i64 x] V fun x w' => ∃ A c, x = .returned (.tuple #[.agg #[.int .i64 ex, .slice A nX c], .int .i64 fx]) ∧ RdV w' w'.heap.size A (zc xs) ∧ Below V.heap.size V w'))
    (HY : Hid (∀ V, Below w.heap.size w V → Calls Try.prog 37 #[.agg #[.int .i64 len, .slice A N c], .int .i64 y] V fun x w' => ∃ A c, x = .returned (.tuple #[.agg #[.int .i64 ey, .slice A nY c], .int .i64 fy]) ∧ RdV w' w'.heap.size A (zc ys) ∧ Below V.heap.size V w')) (t0 : (e0 != 0) = true) :
    Calls Try.prog 10 #[.agg #[.int .i64 len, .slice A N c], .int .i64 p, .int .i64 x, .int .i64 y] w fun e w' => e = .returned (.bool true) ∧ Below w.heap.size w w' := by
  go_enter Try.func10, Try.ntmps10
  go_wp2_with fail
  refine (HR.out _ (one_below w _)).mono ?_
  rintro e w1_ ⟨rfl, Bq⟩
  rw [World.size_alloc] at Bq
  have Sq : Below w.heap.size w w1_ := (one_below w _).trans (Bq.mono (by omega))
  have zb : w.heap.size < w1_.heap.size := by have := Bq.size; rw [World.size_alloc] at this; omega
  obtain ⟨pb, qb⟩ := boxT_at Bq
  have HB : Hid (Below w.heap.size w w1_) := Sq
  clear Bq Sq
  go_wp2_with fail
  refine (HX.out _ HB.out).mono ?_
  rintro e w2_ ⟨AP, cP, rfl, Rq, Bq⟩
  have Sq : Below w1_.heap.size w1_ w2_ := Bq
  replace pb := (Sq.cell (p := ⟨w.heap.size, 0, none⟩) zb).trans pb
  replace qb := (Sq.cell (p := ⟨w.heap.size, 1, none⟩) zb).trans qb
  replace zb : w.heap.size < w2_.heap.size := Nat.lt_of_lt_of_le zb Sq.size
  replace HB : Hid (Below w.heap.size w w2_) := HB.out.trans (Sq.mono HB.out.size)
  clear Bq Sq
  have HP := Lib.hid Rq; clear Rq
  go_wp2_with fail
  refine (HY.out _ (HB.out.trans ((one_below w2_ _).mono HB.out.size))).mono ?_
  rintro e w3_ ⟨AQ, cQ, rfl, Rq, Bq⟩
  rw [World.size_alloc] at Bq
  have Sq : Below w2_.heap.size w2_ w3_ := (one_below w2_ _).trans (Bq.mono (by omega))
  have zp : w2_.heap.size < w3_.heap.size := by have := Bq.size; rw [World.size_alloc] at this; omega
  obtain ⟨pp, qp⟩ := boxT_at Bq
  replace pb := (Sq.cell (p := ⟨w.heap.size, 0, none⟩) zb).trans pb
  replace qb := (Sq.cell (p := ⟨w.heap.size, 1, none⟩) zb).trans qb
  replace zb : w.heap.size < w3_.heap.size := Nat.lt_of_lt_of_le zb Sq.size
  replace HP : Hid (RdV w3_ w3_.heap.size AP (zc xs)) := HP.out.on Sq
  replace HB : Hid (Below w.heap.size w w3_) := HB.out.trans (Sq.mono HB.out.size)
  clear Bq Sq
  have HQ := Lib.hid Rq; clear Rq
  go_wp2_with fail
  refine (rbegun_true _).mono ?_
  rintro e w4_ ⟨rfl, Bq⟩
  rw [World.size_alloc] at Bq
  have Sq : Below w3_.heap.size w3_ w4_ := (one_below w3_ _).trans (Bq.mono (by omega))
  have zq : w3_.heap.size < w4_.heap.size := by have := Bq.size; rw [World.size_alloc] at this; omega
  obtain ⟨pq, qq⟩ := boxT_at Bq
  replace pb := (Sq.cell (p := ⟨w.heap.size, 0, none⟩) zb).trans pb
  replace qb := (Sq.cell (p := ⟨w.heap.size, 1, none⟩) zb).trans qb
  replace zb : w.heap.size < w4_.heap.size := Nat.lt_of_lt_of_le zb Sq.size
  replace pp := (Sq.cell (p := ⟨w2_.heap.size, 0, none⟩) zp).trans pp
  replace qp := (Sq.cell (p := ⟨w2_.heap.size, 1, none⟩) zp).trans qp
  replace zp : w2_.heap.size < w4_.heap.size := Nat.lt_of_lt_of_le zp Sq.size
  replace HP : Hid (RdV w4_ w4_.heap.size AP (zc xs)) := HP.out.on Sq
  replace HQ : Hid (RdV w4_ w4_.heap.size AQ (zc ys)) := HQ.out.on Sq
  replace HB : Hid (Below w.heap.size w w4_) := HB.out.trans (Sq.mono HB.out.size)
  clear Bq Sq
  go_wp2
  go_ret
  exact ⟨rfl, HB.out⟩
set_option maxHeartbeats 4000000 in
theorem by_b (len : Int) (A : Option Addr) (N c : Nat) (p x y e0 ex fx ey fy : Int) (nX nY n : Nat) (xs ys : List Int) (w : World)
    (HR : Hid (∀ V, Below w.heap.size w V → Calls Try.prog 35 #[.agg #[.int .i64 len, .slice A N c], .int .i64 p] V (RkP V n 0)))
    (HX : Hid (∀ V, Below w.heap.size w V → Calls Try.prog 37 #[.agg #[.int .i64 len, .slice A N c], .int .i64 x] V fun x w' => ∃ A c, x = .returned (.tuple #[.agg #[.int .i64 ex, .slice A nX c], .int .i64 fx]) ∧ RdV w' w'.heap.size A (zc xs) ∧ Below V.heap.size V w'))
    (HY : Hid (∀ V, Below w.heap.size w V → Calls Try.prog 37 #[.agg #[.int .i64 len, .slice A N c], .int .i64 y] V fun x w' => ∃ A c, x = .returned (.tuple #[.agg #[.int .i64 ey, .slice A nY c], .int .i64 fy]) ∧ RdV w' w'.heap.size A (zc ys) ∧ Below V.heap.size V w')) (t0 : (fx != 0) = true) :
    Calls Try.prog 10 #[.agg #[.int .i64 len, .slice A N c], .int .i64 p, .int .i64 x, .int .i64 y] w fun e w' => e = .returned (.bool true) ∧ Below w.heap.size w w' := by
  go_enter Try.func10, Try.ntmps10
  go_wp2_with fail
  refine (HR.out _ (one_below w _)).mono ?_
  rintro e w1_ ⟨rfl, Bq⟩
  rw [World.size_alloc] at Bq
  have Sq : Below w.heap.size w w1_ := (one_below w _).trans (Bq.mono (by omega))
  have zb : w.heap.size < w1_.heap.size := by have := Bq.size; rw [World.size_alloc] at this; omega
  obtain ⟨pb, qb⟩ := boxT_at Bq
  have HB : Hid (Below w.heap.size w w1_) := Sq
  clear Bq Sq
  go_wp2_with fail
  refine (HX.out _ HB.out).mono ?_
  rintro e w2_ ⟨AP, cP, rfl, Rq, Bq⟩
  have Sq : Below w1_.heap.size w1_ w2_ := Bq
  replace pb := (Sq.cell (p := ⟨w.heap.size, 0, none⟩) zb).trans pb
  replace qb := (Sq.cell (p := ⟨w.heap.size, 1, none⟩) zb).trans qb
  replace zb : w.heap.size < w2_.heap.size := Nat.lt_of_lt_of_le zb Sq.size
  replace HB : Hid (Below w.heap.size w w2_) := HB.out.trans (Sq.mono HB.out.size)
  clear Bq Sq
  have HP := Lib.hid Rq; clear Rq
  go_wp2_with fail
  refine (HY.out _ (HB.out.trans ((one_below w2_ _).mono HB.out.size))).mono ?_
  rintro e w3_ ⟨AQ, cQ, rfl, Rq, Bq⟩
  rw [World.size_alloc] at Bq
  have Sq : Below w2_.heap.size w2_ w3_ := (one_below w2_ _).trans (Bq.mono (by omega))
  have zp : w2_.heap.size < w3_.heap.size := by have := Bq.size; rw [World.size_alloc] at this; omega
  obtain ⟨pp, qp⟩ := boxT_at Bq
  replace pb := (Sq.cell (p := ⟨w.heap.size, 0, none⟩) zb).trans pb
  replace qb := (Sq.cell (p := ⟨w.heap.size, 1, none⟩) zb).trans qb
  replace zb : w.heap.size < w3_.heap.size := Nat.lt_of_lt_of_le zb Sq.size
  replace HP : Hid (RdV w3_ w3_.heap.size AP (zc xs)) := HP.out.on Sq
  replace HB : Hid (Below w.heap.size w w3_) := HB.out.trans (Sq.mono HB.out.size)
  clear Bq Sq
  have HQ := Lib.hid Rq; clear Rq
  go_wp2_with fail
  refine (rbegun_true _).mono ?_
  rintro e w4_ ⟨rfl, Bq⟩
  rw [World.size_alloc] at Bq
  have Sq : Below w3_.heap.size w3_ w4_ := (one_below w3_ _).trans (Bq.mono (by omega))
  have zq : w3_.heap.size < w4_.heap.size := by have := Bq.size; rw [World.size_alloc] at this; omega
  obtain ⟨pq, qq⟩ := boxT_at Bq
  replace pb := (Sq.cell (p := ⟨w.heap.size, 0, none⟩) zb).trans pb
  replace qb := (Sq.cell (p := ⟨w.heap.size, 1, none⟩) zb).trans qb
  replace zb : w.heap.size < w4_.heap.size := Nat.lt_of_lt_of_le zb Sq.size
  replace pp := (Sq.cell (p := ⟨w2_.heap.size, 0, none⟩) zp).trans pp
  replace qp := (Sq.cell (p := ⟨w2_.heap.size, 1, none⟩) zp).trans qp
  replace zp : w2_.heap.size < w4_.heap.size := Nat.lt_of_lt_of_le zp Sq.size
  replace HP : Hid (RdV w4_ w4_.heap.size AP (zc xs)) := HP.out.on Sq
  replace HQ : Hid (RdV w4_ w4_.heap.size AQ (zc ys)) := HQ.out.on Sq
  replace HB : Hid (Below w.heap.size w w4_) := HB.out.trans (Sq.mono HB.out.size)
  clear Bq Sq
  go_wp2
  go_ret
  exact ⟨rfl, HB.out⟩
set_option maxHeartbeats 4000000 in
theorem by_c (len : Int) (A : Option Addr) (N c : Nat) (p x y e0 ex fx ey fy : Int) (nX nY n : Nat) (xs ys : List Int) (w : World)
    (HR : Hid (∀ V, Below w.heap.size w V → Calls Try.prog 35 #[.agg #[.int .i64 len, .slice A N c], .int .i64 p] V (RkP V n 0)))
    (HX : Hid (∀ V, Below w.heap.size w V → Calls Try.prog 37 #[.agg #[.int .i64 len, .slice A N c], .int .i64 x] V fun x w' => ∃ A c, x = .returned (.tuple #[.agg #[.int .i64 ex, .slice A nX c], .int .i64 0]) ∧ RdV w' w'.heap.size A (zc xs) ∧ Below V.heap.size V w'))
    (HY : Hid (∀ V, Below w.heap.size w V → Calls Try.prog 37 #[.agg #[.int .i64 len, .slice A N c], .int .i64 y] V fun x w' => ∃ A c, x = .returned (.tuple #[.agg #[.int .i64 ey, .slice A nY c], .int .i64 fy]) ∧ RdV w' w'.heap.size A (zc ys) ∧ Below V.heap.size V w')) (t0 : (fy != 0) = true) :
    Calls Try.prog 10 #[.agg #[.int .i64 len, .slice A N c], .int .i64 p, .int .i64 x, .int .i64 y] w fun e w' => e = .returned (.bool true) ∧ Below w.heap.size w w' := by
  go_enter Try.func10, Try.ntmps10
  go_wp2_with fail
  refine (HR.out _ (one_below w _)).mono ?_
  rintro e w1_ ⟨rfl, Bq⟩
  rw [World.size_alloc] at Bq
  have Sq : Below w.heap.size w w1_ := (one_below w _).trans (Bq.mono (by omega))
  have zb : w.heap.size < w1_.heap.size := by have := Bq.size; rw [World.size_alloc] at this; omega
  obtain ⟨pb, qb⟩ := boxT_at Bq
  have HB : Hid (Below w.heap.size w w1_) := Sq
  clear Bq Sq
  go_wp2_with fail
  refine (HX.out _ HB.out).mono ?_
  rintro e w2_ ⟨AP, cP, rfl, Rq, Bq⟩
  have Sq : Below w1_.heap.size w1_ w2_ := Bq
  replace pb := (Sq.cell (p := ⟨w.heap.size, 0, none⟩) zb).trans pb
  replace qb := (Sq.cell (p := ⟨w.heap.size, 1, none⟩) zb).trans qb
  replace zb : w.heap.size < w2_.heap.size := Nat.lt_of_lt_of_le zb Sq.size
  replace HB : Hid (Below w.heap.size w w2_) := HB.out.trans (Sq.mono HB.out.size)
  clear Bq Sq
  have HP := Lib.hid Rq; clear Rq
  go_wp2_with fail
  refine (HY.out _ (HB.out.trans ((one_below w2_ _).mono HB.out.size))).mono ?_
  rintro e w3_ ⟨AQ, cQ, rfl, Rq, Bq⟩
  rw [World.size_alloc] at Bq
  have Sq : Below w2_.heap.size w2_ w3_ := (one_below w2_ _).trans (Bq.mono (by omega))
  have zp : w2_.heap.size < w3_.heap.size := by have := Bq.size; rw [World.size_alloc] at this; omega
  obtain ⟨pp, qp⟩ := boxT_at Bq
  replace pb := (Sq.cell (p := ⟨w.heap.size, 0, none⟩) zb).trans pb
  replace qb := (Sq.cell (p := ⟨w.heap.size, 1, none⟩) zb).trans qb
  replace zb : w.heap.size < w3_.heap.size := Nat.lt_of_lt_of_le zb Sq.size
  replace HP : Hid (RdV w3_ w3_.heap.size AP (zc xs)) := HP.out.on Sq
  replace HB : Hid (Below w.heap.size w w3_) := HB.out.trans (Sq.mono HB.out.size)
  clear Bq Sq
  have HQ := Lib.hid Rq; clear Rq
  go_wp2_with fail
  refine (rbegun_true _).mono ?_
  rintro e w4_ ⟨rfl, Bq⟩
  rw [World.size_alloc] at Bq
  have Sq : Below w3_.heap.size w3_ w4_ := (one_below w3_ _).trans (Bq.mono (by omega))
  have zq : w3_.heap.size < w4_.heap.size := by have := Bq.size; rw [World.size_alloc] at this; omega
  obtain ⟨pq, qq⟩ := boxT_at Bq
  replace pb := (Sq.cell (p := ⟨w.heap.size, 0, none⟩) zb).trans pb
  replace qb := (Sq.cell (p := ⟨w.heap.size, 1, none⟩) zb).trans qb
  replace zb : w.heap.size < w4_.heap.size := Nat.lt_of_lt_of_le zb Sq.size
  replace pp := (Sq.cell (p := ⟨w2_.heap.size, 0, none⟩) zp).trans pp
  replace qp := (Sq.cell (p := ⟨w2_.heap.size, 1, none⟩) zp).trans qp
  replace zp : w2_.heap.size < w4_.heap.size := Nat.lt_of_lt_of_le zp Sq.size
  replace HP : Hid (RdV w4_ w4_.heap.size AP (zc xs)) := HP.out.on Sq
  replace HQ : Hid (RdV w4_ w4_.heap.size AQ (zc ys)) := HQ.out.on Sq
  replace HB : Hid (Below w.heap.size w w4_) := HB.out.trans (Sq.mono HB.out.size)
  clear Bq Sq
  go_wp2
  go_ret
  exact ⟨rfl, HB.out⟩
set_option maxHeartbeats 4000000 in
theorem by_d (len : Int) (A : Option Addr) (N c : Nat) (p x y e0 ex fx ey fy : Int) (nX nY n : Nat) (xs ys : List Int) (w : World)
    (HR : Hid (∀ V, Below w.heap.size w V → Calls Try.prog 35 #[.agg #[.int .i64 len, .slice A N c], .int .i64 p] V (RkP V n 0)))
    (HX : Hid (∀ V, Below w.heap.size w V → Calls Try.prog 37 #[.agg #[.int .i64 len, .slice A N c], .int .i64 x] V fun x w' => ∃ A c, x = .returned (.tuple #[.agg #[.int .i64 ex, .slice A nX c], .int .i64 0]) ∧ RdV w' w'.heap.size A (zc xs) ∧ Below V.heap.size V w'))
    (HY : Hid (∀ V, Below w.heap.size w V → Calls Try.prog 37 #[.agg #[.int .i64 len, .slice A N c], .int .i64 y] V fun x w' => ∃ A c, x = .returned (.tuple #[.agg #[.int .i64 ey, .slice A nY c], .int .i64 0]) ∧ RdV w' w'.heap.size A (zc ys) ∧ Below V.heap.size V w'))
    (HB1 : Hid (∀ A2 c2 V, Below w.heap.size w V → RdV V V.heap.size A2 (zc xs) → Calls Try.prog 38 #[.agg #[.int .i64 len, .slice A N c], .agg #[.int .i64 ex, .slice A2 nX c2], .int .i64 p] V (RkP V n 0)))
    (HB2 : Hid (∀ A2 c2 V, Below w.heap.size w V → RdV V V.heap.size A2 (zc ys) → Calls Try.prog 38 #[.agg #[.int .i64 len, .slice A N c], .agg #[.int .i64 ey, .slice A2 nY c2], .int .i64 p] V (RkP V n 0)))
    (HB3 : Hid (∀ A2 c2 V, Below w.heap.size w V → RdV V V.heap.size A2 (zc xs) → Calls Try.prog 46 #[.agg #[.int .i64 len, .slice A N c], .agg #[.int .i64 ex, .slice A2 nX c2]] V (fun e w' => e = .returned (.int .i64 0) ∧ Below V.heap.size V w'))) :
    Calls Try.prog 10 #[.agg #[.int .i64 len, .slice A N c], .int .i64 p, .int .i64 x, .int .i64 y] w fun e w' => e = .returned (.bool true) ∧ Below w.heap.size w w' := by
  go_enter Try.func10, Try.ntmps10
  go_wp2_with fail
  refine (HR.out _ (one_below w _)).mono ?_
  rintro e w1_ ⟨rfl, Bq⟩
  rw [World.size_alloc] at Bq
  have Sq : Below w.heap.size w w1_ := (one_below w _).trans (Bq.mono (by omega))
  have zb : w.heap.size < w1_.heap.size := by have := Bq.size; rw [World.size_alloc] at this; omega
  obtain ⟨pb, qb⟩ := boxT_at Bq
  have HB : Hid (Below w.heap.size w w1_) := Sq
  clear Bq Sq
  go_wp2_with fail
  refine (HX.out _ HB.out).mono ?_
  rintro e w2_ ⟨AP, cP, rfl, Rq, Bq⟩
  have Sq : Below w1_.heap.size w1_ w2_ := Bq
  replace pb := (Sq.cell (p := ⟨w.heap.size, 0, none⟩) zb).trans pb
  replace qb := (Sq.cell (p := ⟨w.heap.size, 1, none⟩) zb).trans qb
  replace zb : w.heap.size < w2_.heap.size := Nat.lt_of_lt_of_le zb Sq.size
  replace HB : Hid (Below w.heap.size w w2_) := HB.out.trans (Sq.mono HB.out.size)
  clear Bq Sq
  have HP := Lib.hid Rq; clear Rq
  go_wp2_with fail
  refine (HY.out _ (HB.out.trans ((one_below w2_ _).mono HB.out.size))).mono ?_
  rintro e w3_ ⟨AQ, cQ, rfl, Rq, Bq⟩
  rw [World.size_alloc] at Bq
  have Sq : Below w2_.heap.size w2_ w3_ := (one_below w2_ _).trans (Bq.mono (by omega))
  have zp : w2_.heap.size < w3_.heap.size := by have := Bq.size; rw [World.size_alloc] at this; omega
  obtain ⟨pp, qp⟩ := boxT_at Bq
  replace pb := (Sq.cell (p := ⟨w.heap.size, 0, none⟩) zb).trans pb
  replace qb := (Sq.cell (p := ⟨w.heap.size, 1, none⟩) zb).trans qb
  replace zb : w.heap.size < w3_.heap.size := Nat.lt_of_lt_of_le zb Sq.size
  replace HP : Hid (RdV w3_ w3_.heap.size AP (zc xs)) := HP.out.on Sq
  replace HB : Hid (Below w.heap.size w w3_) := HB.out.trans (Sq.mono HB.out.size)
  clear Bq Sq
  have HQ := Lib.hid Rq; clear Rq
  go_wp2_with fail
  refine (rbegun_true _).mono ?_
  rintro e w4_ ⟨rfl, Bq⟩
  rw [World.size_alloc] at Bq
  have Sq : Below w3_.heap.size w3_ w4_ := (one_below w3_ _).trans (Bq.mono (by omega))
  have zq : w3_.heap.size < w4_.heap.size := by have := Bq.size; rw [World.size_alloc] at this; omega
  obtain ⟨pq, qq⟩ := boxT_at Bq
  replace pb := (Sq.cell (p := ⟨w.heap.size, 0, none⟩) zb).trans pb
  replace qb := (Sq.cell (p := ⟨w.heap.size, 1, none⟩) zb).trans qb
  replace zb : w.heap.size < w4_.heap.size := Nat.lt_of_lt_of_le zb Sq.size
  replace pp := (Sq.cell (p := ⟨w2_.heap.size, 0, none⟩) zp).trans pp
  replace qp := (Sq.cell (p := ⟨w2_.heap.size, 1, none⟩) zp).trans qp
  replace zp : w2_.heap.size < w4_.heap.size := Nat.lt_of_lt_of_le zp Sq.size
  replace HP : Hid (RdV w4_ w4_.heap.size AP (zc xs)) := HP.out.on Sq
  replace HQ : Hid (RdV w4_ w4_.heap.size AQ (zc ys)) := HQ.out.on Sq
  replace HB : Hid (Below w.heap.size w w4_) := HB.out.trans (Sq.mono HB.out.size)
  clear Bq Sq
  go_wp2_with fail
  refine (HB1.out AP cP _ HB.out HP.out).mono ?_
  rintro e w5_ ⟨rfl, Bq⟩
  have Sq : Below w4_.heap.size w4_ w5_ := Bq
  replace pb := (Sq.cell (p := ⟨w.heap.size, 0, none⟩) zb).trans pb
  replace qb := (Sq.cell (p := ⟨w.heap.size, 1, none⟩) zb).trans qb
  replace zb : w.heap.size < w5_.heap.size := Nat.lt_of_lt_of_le zb Sq.size
  replace pp := (Sq.cell (p := ⟨w2_.heap.size, 0, none⟩) zp).trans pp
  replace qp := (Sq.cell (p := ⟨w2_.heap.size, 1, none⟩) zp).trans qp
  replace zp : w2_.heap.size < w5_.heap.size := Nat.lt_of_lt_of_le zp Sq.size
  replace pq := (Sq.cell (p := ⟨w3_.heap.size, 0, none⟩) zq).trans pq
  replace qq := (Sq.cell (p := ⟨w3_.heap.size, 1, none⟩) zq).trans qq
  replace zq : w3_.heap.size < w5_.heap.size := Nat.lt_of_lt_of_le zq Sq.size
  replace HP : Hid (RdV w5_ w5_.heap.size AP (zc xs)) := HP.out.on Sq
  replace HQ : Hid (RdV w5_ w5_.heap.size AQ (zc ys)) := HQ.out.on Sq
  replace HB : Hid (Below w.heap.size w w5_) := HB.out.trans (Sq.mono HB.out.size)
  clear Bq Sq
  go_wp2_with fail
  refine (HB2.out AQ cQ _ HB.out HQ.out).mono ?_
  rintro e w6_ ⟨rfl, Bq⟩
  have Sq : Below w5_.heap.size w5_ w6_ := Bq
  replace pb := (Sq.cell (p := ⟨w.heap.size, 0, none⟩) zb).trans pb
  replace qb := (Sq.cell (p := ⟨w.heap.size, 1, none⟩) zb).trans qb
  replace zb : w.heap.size < w6_.heap.size := Nat.lt_of_lt_of_le zb Sq.size
  replace pp := (Sq.cell (p := ⟨w2_.heap.size, 0, none⟩) zp).trans pp
  replace qp := (Sq.cell (p := ⟨w2_.heap.size, 1, none⟩) zp).trans qp
  replace zp : w2_.heap.size < w6_.heap.size := Nat.lt_of_lt_of_le zp Sq.size
  replace pq := (Sq.cell (p := ⟨w3_.heap.size, 0, none⟩) zq).trans pq
  replace qq := (Sq.cell (p := ⟨w3_.heap.size, 1, none⟩) zq).trans qq
  replace zq : w3_.heap.size < w6_.heap.size := Nat.lt_of_lt_of_le zq Sq.size
  replace HP : Hid (RdV w6_ w6_.heap.size AP (zc xs)) := HP.out.on Sq
  replace HQ : Hid (RdV w6_ w6_.heap.size AQ (zc ys)) := HQ.out.on Sq
  replace HB : Hid (Below w.heap.size w w6_) := HB.out.trans (Sq.mono HB.out.size)
  clear Bq Sq
  go_wp2_with fail
  refine (HB3.out AP cP _ HB.out HP.out).mono ?_
  rintro e w7_ ⟨rfl, Bq⟩
  have Sq : Below w6_.heap.size w6_ w7_ := Bq
  replace pb := (Sq.cell (p := ⟨w.heap.size, 0, none⟩) zb).trans pb
  replace qb := (Sq.cell (p := ⟨w.heap.size, 1, none⟩) zb).trans qb
  replace zb : w.heap.size < w7_.heap.size := Nat.lt_of_lt_of_le zb Sq.size
  replace pp := (Sq.cell (p := ⟨w2_.heap.size, 0, none⟩) zp).trans pp
  replace qp := (Sq.cell (p := ⟨w2_.heap.size, 1, none⟩) zp).trans qp
  replace zp : w2_.heap.size < w7_.heap.size := Nat.lt_of_lt_of_le zp Sq.size
  replace pq := (Sq.cell (p := ⟨w3_.heap.size, 0, none⟩) zq).trans pq
  replace qq := (Sq.cell (p := ⟨w3_.heap.size, 1, none⟩) zq).trans qq
  replace zq : w3_.heap.size < w7_.heap.size := Nat.lt_of_lt_of_le zq Sq.size
  replace HP : Hid (RdV w7_ w7_.heap.size AP (zc xs)) := HP.out.on Sq
  replace HQ : Hid (RdV w7_ w7_.heap.size AQ (zc ys)) := HQ.out.on Sq
  replace HB : Hid (Below w.heap.size w w7_) := HB.out.trans (Sq.mono HB.out.size)
  clear Bq Sq
  go_wp2
  go_ret
  exact ⟨rfl, HB.out⟩
theorem rankBy_law (len : Int) (A : Option Addr) (c : Nat) (bs : List Nat) (p x y : Int) (w : World) (hb : ∀ b ∈ bs, b < 256) (h : Rd w w.heap.size A bs) (_ : -9223372036854775808 ≤ p ∧ p ≤ 9223372036854775807) (_ : -9223372036854775808 ≤ x ∧ x ≤ 9223372036854775807) (_ : -9223372036854775808 ≤ y ∧ y ≤ 9223372036854775807) :
    Calls Try.prog 10 #[.agg #[.int .i64 len, .slice A bs.length c], .int .i64 p, .int .i64 x, .int .i64 y] w fun e w' => e = .returned (.bool true) ∧ Below w.heap.size w w' := by
  have HR := fun V (hV : Below w.heap.size w V) => rank_any len A c bs hb p V (h.on hV)
  have HX := fun V (hV : Below w.heap.size w V) => build_any len A c bs hb x V (h.on hV)
  have HY := fun V (hV : Below w.heap.size w V) => build_any len A c bs hb y V (h.on hV)
  by_cases h0 : rkE len bs p = 0
  · by_cases h1 : bdE len bs x = 0
    · by_cases h2 : bdE len bs y = 0
      · obtain ⟨l, rfl, hl, rfl, q, rfl, hq⟩ := rkE_zero hb h0
        obtain ⟨-, -, -, -, kx, rfl, hx1, hx2⟩ := bdE_zero hb h1
        obtain ⟨-, -, -, -, ky, rfl, hy1, hy2⟩ := bdE_zero hb h2
        have hxl : (ns (bx l kx)).length ≤ 9223372036854775807 := by rw [ns_length, bx_length]; have := Nat.div_le_self l.length kx; omega
        have hck : ckI (l.length : Int) (pack l) (kx : Int) (ns (bx l kx)) = 0 := by
          unfold ckI bdX
          rw [if_pos h1, if_pos h1, Int.toNat_natCast, Int.toNat_natCast, unpack_pack, if_pos rfl]
        exact by_d _ A _ c _ _ _ 0 _ 0 _ 0 _ _ (cnt (l.take q)) _ _ w
          (fun V hV => rank_ok l hl A c q hq _ rfl V (h.on hV)) (fun V hV => build_ok l hl A c kx hx1 hx2 V (h.on hV)) (fun V hV => build_ok l hl A c ky hy1 hy2 V (h.on hV))
          (fun A2 c2 V hV h3 => by_ok l hl A c kx hx1 hx2 A2 c2 q hq V (h.on hV) h3) (fun A2 c2 V hV h3 => by_ok l hl A c ky hy1 hy2 A2 c2 q hq V (h.on hV) h3)
          (fun A2 c2 V hV h3 => by have := rcheck_ix (l.length : Int) A c (pack l) (pack_lt l) (kx : Int) _ hxl A2 c2 V (h.on hV) h3; rw [hck] at this; exact this)
      · rw [h0] at HR; rw [h1] at HX
        exact by_c len A _ c p x y 0 _ 0 _ _ _ _ _ _ _ w HR HX HY (by simpa using h2)
    · rw [h0] at HR
      exact by_b len A _ c p x y 0 _ _ _ _ _ _ _ _ _ w HR HX HY (by simpa using h1)
  · exact by_a len A _ c p x y _ _ _ _ _ _ _ _ _ _ w HR HX HY (by simpa using h0)
end Go.Proofs.Ytkbelhclcpepaaa
