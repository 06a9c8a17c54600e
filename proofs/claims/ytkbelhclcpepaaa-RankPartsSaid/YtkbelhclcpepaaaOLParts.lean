/- The law RankParts: for whatever two sequences of bits and place it returns true. -/
import Derived.Test.YtkbelhclcpepaaaOLEnds
namespace Go.Proofs.Ytkbelhclcpepaaa
set_option maxRecDepth 100000
set_option linter.unusedVariables false
open Go.RowKit Go.Shelf

theorem up2_sz (w : World) (a b : Obj) : ((w.alloc a).alloc b).heap.size = w.heap.size + 2 := by rw [World.size_alloc, World.size_alloc]
set_option maxHeartbeats 4000000 in
theorem parts_a (len lenB : Int) (A B : Option Addr) (N c M d : Nat) (p eJ lJ s : Int) (nJ n m k : Nat) (bJ : List Nat) (w : World)
    (HJ : Hid (∀ V, Below w.heap.size w V → Calls Try.prog 34 #[.agg #[.int .i64 len, .slice A N c], .agg #[.int .i64 lenB, .slice B M d]] V (Gv V lJ nJ bJ eJ))) (t0 : (eJ != 0) = true) :
    Calls Try.prog 11 #[.agg #[.int .i64 len, .slice A N c], .agg #[.int .i64 lenB, .slice B M d], .int .i64 p] w fun e w' => e = .returned (.bool true) ∧ Below w.heap.size w w' := by
  go_enter Try.func11, Try.ntmps11
  go_wp2_with fail
  refine (HJ.out _ (up2 w _ _)).mono ?_
  rintro e w1_ ⟨AJ, cJ, rfl, Rq, Bq⟩
  have Sq : Below w.heap.size w w1_ := (up2 w _ _).trans (Bq.mono (by rw [up2_sz]; omega))
  obtain ⟨⟨pa, qa⟩, ⟨pb, qb⟩, zb⟩ := boxT2_at Bq
  have za : w.heap.size < w1_.heap.size := by omega
  have HB : Hid (Below w.heap.size w w1_) := Sq
  clear Bq Sq
  have HJr := Lib.hid Rq; clear Rq
  go_wp2_with fail
  refine (rbegun_true _).mono ?_
  rintro e w2_ ⟨rfl, Bq⟩
  rw [World.size_alloc] at Bq
  have Sq : Below w1_.heap.size w1_ w2_ := (one_below w1_ _).trans (Bq.mono (by omega))
  have zj : w1_.heap.size < w2_.heap.size := by have := Bq.size; rw [World.size_alloc] at this; omega
  obtain ⟨pj, qj⟩ := boxT_at Bq
  replace pa := (Sq.cell (p := ⟨w.heap.size, 0, none⟩) za).trans pa
  replace qa := (Sq.cell (p := ⟨w.heap.size, 1, none⟩) za).trans qa
  replace za : w.heap.size < w2_.heap.size := Nat.lt_of_lt_of_le za Sq.size
  replace pb := (Sq.cell (p := ⟨(w.heap.size + 1), 0, none⟩) zb).trans pb
  replace qb := (Sq.cell (p := ⟨(w.heap.size + 1), 1, none⟩) zb).trans qb
  replace zb : (w.heap.size + 1) < w2_.heap.size := Nat.lt_of_lt_of_le zb Sq.size
  replace HJr : Hid (Rd w2_ w2_.heap.size AJ bJ) := HJr.out.on Sq
  replace HB : Hid (Below w.heap.size w w2_) := HB.out.trans (Sq.mono HB.out.size)
  clear Bq Sq
  go_wp2_with fail
  refine (begun_true _).mono ?_
  rintro e w3_ ⟨rfl, Bq⟩
  have Sq : Below w2_.heap.size w2_ w3_ := Bq
  replace pa := (Sq.cell (p := ⟨w.heap.size, 0, none⟩) za).trans pa
  replace qa := (Sq.cell (p := ⟨w.heap.size, 1, none⟩) za).trans qa
  replace za : w.heap.size < w3_.heap.size := Nat.lt_of_lt_of_le za Sq.size
  replace pb := (Sq.cell (p := ⟨(w.heap.size + 1), 0, none⟩) zb).trans pb
  replace qb := (Sq.cell (p := ⟨(w.heap.size + 1), 1, none⟩) zb).trans qb
  replace zb : (w.heap.size + 1) < w3_.heap.size := Nat.lt_of_lt_of_le zb Sq.size
  replace pj := (Sq.cell (p := ⟨w1_.heap.size, 0, none⟩) zj).trans pj
  replace qj := (Sq.cell (p := ⟨w1_.heap.size, 1, none⟩) zj).trans qj
  replace zj : w1_.heap.size < w3_.heap.size := Nat.lt_of_lt_of_le zj Sq.size
  replace HJr : Hid (Rd w3_ w3_.heap.size AJ bJ) := HJr.out.on Sq
  replace HB : Hid (Below w.heap.size w w3_) := HB.out.trans (Sq.mono HB.out.size)
  clear Bq Sq
  go_wp2
  go_ret
  exact ⟨rfl, HB.out⟩
set_option maxHeartbeats 4000000 in
theorem parts_b (len lenB : Int) (A B : Option Addr) (N c M d : Nat) (p eJ lJ s : Int) (nJ n m k : Nat) (bJ : List Nat) (w : World)
    (HJ : Hid (∀ V, Below w.heap.size w V → Calls Try.prog 34 #[.agg #[.int .i64 len, .slice A N c], .agg #[.int .i64 lenB, .slice B M d]] V (Gv V lJ nJ bJ 0))) (t0 : decide (p < 0) = true) :
    Calls Try.prog 11 #[.agg #[.int .i64 len, .slice A N c], .agg #[.int .i64 lenB, .slice B M d], .int .i64 p] w fun e w' => e = .returned (.bool true) ∧ Below w.heap.size w w' := by
  go_enter Try.func11, Try.ntmps11
  go_wp2_with fail
  refine (HJ.out _ (up2 w _ _)).mono ?_
  rintro e w1_ ⟨AJ, cJ, rfl, Rq, Bq⟩
  have Sq : Below w.heap.size w w1_ := (up2 w _ _).trans (Bq.mono (by rw [up2_sz]; omega))
  obtain ⟨⟨pa, qa⟩, ⟨pb, qb⟩, zb⟩ := boxT2_at Bq
  have za : w.heap.size < w1_.heap.size := by omega
  have HB : Hid (Below w.heap.size w w1_) := Sq
  clear Bq Sq
  have HJr := Lib.hid Rq; clear Rq
  go_wp2_with fail
  refine (rbegun_true _).mono ?_
  rintro e w2_ ⟨rfl, Bq⟩
  rw [World.size_alloc] at Bq
  have Sq : Below w1_.heap.size w1_ w2_ := (one_below w1_ _).trans (Bq.mono (by omega))
  have zj : w1_.heap.size < w2_.heap.size := by have := Bq.size; rw [World.size_alloc] at this; omega
  obtain ⟨pj, qj⟩ := boxT_at Bq
  replace pa := (Sq.cell (p := ⟨w.heap.size, 0, none⟩) za).trans pa
  replace qa := (Sq.cell (p := ⟨w.heap.size, 1, none⟩) za).trans qa
  replace za : w.heap.size < w2_.heap.size := Nat.lt_of_lt_of_le za Sq.size
  replace pb := (Sq.cell (p := ⟨(w.heap.size + 1), 0, none⟩) zb).trans pb
  replace qb := (Sq.cell (p := ⟨(w.heap.size + 1), 1, none⟩) zb).trans qb
  replace zb : (w.heap.size + 1) < w2_.heap.size := Nat.lt_of_lt_of_le zb Sq.size
  replace HJr : Hid (Rd w2_ w2_.heap.size AJ bJ) := HJr.out.on Sq
  replace HB : Hid (Below w.heap.size w w2_) := HB.out.trans (Sq.mono HB.out.size)
  clear Bq Sq
  go_wp2_with fail
  refine (begun_true _).mono ?_
  rintro e w3_ ⟨rfl, Bq⟩
  have Sq : Below w2_.heap.size w2_ w3_ := Bq
  replace pa := (Sq.cell (p := ⟨w.heap.size, 0, none⟩) za).trans pa
  replace qa := (Sq.cell (p := ⟨w.heap.size, 1, none⟩) za).trans qa
  replace za : w.heap.size < w3_.heap.size := Nat.lt_of_lt_of_le za Sq.size
  replace pb := (Sq.cell (p := ⟨(w.heap.size + 1), 0, none⟩) zb).trans pb
  replace qb := (Sq.cell (p := ⟨(w.heap.size + 1), 1, none⟩) zb).trans qb
  replace zb : (w.heap.size + 1) < w3_.heap.size := Nat.lt_of_lt_of_le zb Sq.size
  replace pj := (Sq.cell (p := ⟨w1_.heap.size, 0, none⟩) zj).trans pj
  replace qj := (Sq.cell (p := ⟨w1_.heap.size, 1, none⟩) zj).trans qj
  replace zj : w1_.heap.size < w3_.heap.size := Nat.lt_of_lt_of_le zj Sq.size
  replace HJr : Hid (Rd w3_ w3_.heap.size AJ bJ) := HJr.out.on Sq
  replace HB : Hid (Below w.heap.size w w3_) := HB.out.trans (Sq.mono HB.out.size)
  clear Bq Sq
  go_wp2
  go_ret
  exact ⟨rfl, HB.out⟩
set_option maxHeartbeats 4000000 in
theorem parts_c (len lenB : Int) (A B : Option Addr) (N c M d : Nat) (p eJ lJ s : Int) (nJ n m k : Nat) (bJ : List Nat) (w : World)
    (HJ : Hid (∀ V, Below w.heap.size w V → Calls Try.prog 34 #[.agg #[.int .i64 len, .slice A N c], .agg #[.int .i64 lenB, .slice B M d]] V (Gv V lJ nJ bJ 0))) (t0 : decide (p < 0) = false) (t1 : decide (lenB < p) = true) :
    Calls Try.prog 11 #[.agg #[.int .i64 len, .slice A N c], .agg #[.int .i64 lenB, .slice B M d], .int .i64 p] w fun e w' => e = .returned (.bool true) ∧ Below w.heap.size w w' := by
  go_enter Try.func11, Try.ntmps11
  go_wp2_with fail
  refine (HJ.out _ (up2 w _ _)).mono ?_
  rintro e w1_ ⟨AJ, cJ, rfl, Rq, Bq⟩
  have Sq : Below w.heap.size w w1_ := (up2 w _ _).trans (Bq.mono (by rw [up2_sz]; omega))
  obtain ⟨⟨pa, qa⟩, ⟨pb, qb⟩, zb⟩ := boxT2_at Bq
  have za : w.heap.size < w1_.heap.size := by omega
  have HB : Hid (Below w.heap.size w w1_) := Sq
  clear Bq Sq
  have HJr := Lib.hid Rq; clear Rq
  go_wp2_with fail
  refine (rbegun_true _).mono ?_
  rintro e w2_ ⟨rfl, Bq⟩
  rw [World.size_alloc] at Bq
  have Sq : Below w1_.heap.size w1_ w2_ := (one_below w1_ _).trans (Bq.mono (by omega))
  have zj : w1_.heap.size < w2_.heap.size := by have := Bq.size; rw [World.size_alloc] at this; omega
  obtain ⟨pj, qj⟩ := boxT_at Bq
  replace pa := (Sq.cell (p := ⟨w.heap.size, 0, none⟩) za).trans pa
  replace qa := (Sq.cell (p := ⟨w.heap.size, 1, none⟩) za).trans qa
  replace za : w.heap.size < w2_.heap.size := Nat.lt_of_lt_of_le za Sq.size
  replace pb := (Sq.cell (p := ⟨(w.heap.size + 1), 0, none⟩) zb).trans pb
  replace qb := (Sq.cell (p := ⟨(w.heap.size + 1), 1, none⟩) zb).trans qb
  replace zb : (w.heap.size + 1) < w2_.heap.size := Nat.lt_of_lt_of_le zb Sq.size
  replace HJr : Hid (Rd w2_ w2_.heap.size AJ bJ) := HJr.out.on Sq
  replace HB : Hid (Below w.heap.size w w2_) := HB.out.trans (Sq.mono HB.out.size)
  clear Bq Sq
  go_wp2_with fail
  refine (begun_true _).mono ?_
  rintro e w3_ ⟨rfl, Bq⟩
  have Sq : Below w2_.heap.size w2_ w3_ := Bq
  replace pa := (Sq.cell (p := ⟨w.heap.size, 0, none⟩) za).trans pa
  replace qa := (Sq.cell (p := ⟨w.heap.size, 1, none⟩) za).trans qa
  replace za : w.heap.size < w3_.heap.size := Nat.lt_of_lt_of_le za Sq.size
  replace pb := (Sq.cell (p := ⟨(w.heap.size + 1), 0, none⟩) zb).trans pb
  replace qb := (Sq.cell (p := ⟨(w.heap.size + 1), 1, none⟩) zb).trans qb
  replace zb : (w.heap.size + 1) < w3_.heap.size := Nat.lt_of_lt_of_le zb Sq.size
  replace pj := (Sq.cell (p := ⟨w1_.heap.size, 0, none⟩) zj).trans pj
  replace qj := (Sq.cell (p := ⟨w1_.heap.size, 1, none⟩) zj).trans qj
  replace zj : w1_.heap.size < w3_.heap.size := Nat.lt_of_lt_of_le zj Sq.size
  replace HJr : Hid (Rd w3_ w3_.heap.size AJ bJ) := HJr.out.on Sq
  replace HB : Hid (Below w.heap.size w w3_) := HB.out.trans (Sq.mono HB.out.size)
  clear Bq Sq
  go_wp2
  go_ret
  exact ⟨rfl, HB.out⟩
set_option maxHeartbeats 4000000 in
theorem parts_d (len lenB : Int) (A B : Option Addr) (N c M d : Nat) (p eJ lJ s : Int) (nJ n m k : Nat) (bJ : List Nat) (w : World)
    (HJ : Hid (∀ V, Below w.heap.size w V → Calls Try.prog 34 #[.agg #[.int .i64 len, .slice A N c], .agg #[.int .i64 lenB, .slice B M d]] V (Gv V lJ nJ bJ 0)))
    (HR1 : Hid (∀ V, Below w.heap.size w V → Calls Try.prog 35 #[.agg #[.int .i64 len, .slice A N c], .int .i64 len] V (RkP V n 0)))
    (HR2 : Hid (∀ V, Below w.heap.size w V → Calls Try.prog 35 #[.agg #[.int .i64 lenB, .slice B M d], .int .i64 p] V (RkP V m 0)))
    (HR3 : Hid (∀ A c V, Below w.heap.size w V → Rd V V.heap.size A bJ → Calls Try.prog 35 #[.agg #[.int .i64 lJ, .slice A nJ c], .int .i64 s] V (RkP V k 0))) (t0 : decide (p < 0) = false) (t1 : decide (lenB < p) = false) (t2 : len + p = s) (t3 : IntKind.i64.wrap s = s) (t4 : (n : Int) + (m : Int) = (k : Int)) (t5 : IntKind.i64.wrap (k : Int) = (k : Int)) (t6 : wrap64 (k : Int) = (k : Int)) (t7 : decide ((m : Int) ≤ p) = true) :
    Calls Try.prog 11 #[.agg #[.int .i64 len, .slice A N c], .agg #[.int .i64 lenB, .slice B M d], .int .i64 p] w fun e w' => e = .returned (.bool true) ∧ Below w.heap.size w w' := by
  go_enter Try.func11, Try.ntmps11
  go_wp2_with fail
  refine (HJ.out _ (up2 w _ _)).mono ?_
  rintro e w1_ ⟨AJ, cJ, rfl, Rq, Bq⟩
  have Sq : Below w.heap.size w w1_ := (up2 w _ _).trans (Bq.mono (by rw [up2_sz]; omega))
  obtain ⟨⟨pa, qa⟩, ⟨pb, qb⟩, zb⟩ := boxT2_at Bq
  have za : w.heap.size < w1_.heap.size := by omega
  have HB : Hid (Below w.heap.size w w1_) := Sq
  clear Bq Sq
  have HJr := Lib.hid Rq; clear Rq
  go_wp2_with fail
  refine (rbegun_true _).mono ?_
  rintro e w2_ ⟨rfl, Bq⟩
  rw [World.size_alloc] at Bq
  have Sq : Below w1_.heap.size w1_ w2_ := (one_below w1_ _).trans (Bq.mono (by omega))
  have zj : w1_.heap.size < w2_.heap.size := by have := Bq.size; rw [World.size_alloc] at this; omega
  obtain ⟨pj, qj⟩ := boxT_at Bq
  replace pa := (Sq.cell (p := ⟨w.heap.size, 0, none⟩) za).trans pa
  replace qa := (Sq.cell (p := ⟨w.heap.size, 1, none⟩) za).trans qa
  replace za : w.heap.size < w2_.heap.size := Nat.lt_of_lt_of_le za Sq.size
  replace pb := (Sq.cell (p := ⟨(w.heap.size + 1), 0, none⟩) zb).trans pb
  replace qb := (Sq.cell (p := ⟨(w.heap.size + 1), 1, none⟩) zb).trans qb
  replace zb : (w.heap.size + 1) < w2_.heap.size := Nat.lt_of_lt_of_le zb Sq.size
  replace HJr : Hid (Rd w2_ w2_.heap.size AJ bJ) := HJr.out.on Sq
  replace HB : Hid (Below w.heap.size w w2_) := HB.out.trans (Sq.mono HB.out.size)
  clear Bq Sq
  go_wp2_with fail
  refine (begun_true _).mono ?_
  rintro e w3_ ⟨rfl, Bq⟩
  have Sq : Below w2_.heap.size w2_ w3_ := Bq
  replace pa := (Sq.cell (p := ⟨w.heap.size, 0, none⟩) za).trans pa
  replace qa := (Sq.cell (p := ⟨w.heap.size, 1, none⟩) za).trans qa
  replace za : w.heap.size < w3_.heap.size := Nat.lt_of_lt_of_le za Sq.size
  replace pb := (Sq.cell (p := ⟨(w.heap.size + 1), 0, none⟩) zb).trans pb
  replace qb := (Sq.cell (p := ⟨(w.heap.size + 1), 1, none⟩) zb).trans qb
  replace zb : (w.heap.size + 1) < w3_.heap.size := Nat.lt_of_lt_of_le zb Sq.size
  replace pj := (Sq.cell (p := ⟨w1_.heap.size, 0, none⟩) zj).trans pj
  replace qj := (Sq.cell (p := ⟨w1_.heap.size, 1, none⟩) zj).trans qj
  replace zj : w1_.heap.size < w3_.heap.size := Nat.lt_of_lt_of_le zj Sq.size
  replace HJr : Hid (Rd w3_ w3_.heap.size AJ bJ) := HJr.out.on Sq
  replace HB : Hid (Below w.heap.size w w3_) := HB.out.trans (Sq.mono HB.out.size)
  clear Bq Sq
  go_wp2_with fail
  refine (HR1.out _ HB.out).mono ?_
  rintro e w4_ ⟨rfl, Bq⟩
  have Sq : Below w3_.heap.size w3_ w4_ := Bq
  replace pa := (Sq.cell (p := ⟨w.heap.size, 0, none⟩) za).trans pa
  replace qa := (Sq.cell (p := ⟨w.heap.size, 1, none⟩) za).trans qa
  replace za : w.heap.size < w4_.heap.size := Nat.lt_of_lt_of_le za Sq.size
  replace pb := (Sq.cell (p := ⟨(w.heap.size + 1), 0, none⟩) zb).trans pb
  replace qb := (Sq.cell (p := ⟨(w.heap.size + 1), 1, none⟩) zb).trans qb
  replace zb : (w.heap.size + 1) < w4_.heap.size := Nat.lt_of_lt_of_le zb Sq.size
  replace pj := (Sq.cell (p := ⟨w1_.heap.size, 0, none⟩) zj).trans pj
  replace qj := (Sq.cell (p := ⟨w1_.heap.size, 1, none⟩) zj).trans qj
  replace zj : w1_.heap.size < w4_.heap.size := Nat.lt_of_lt_of_le zj Sq.size
  replace HJr : Hid (Rd w4_ w4_.heap.size AJ bJ) := HJr.out.on Sq
  replace HB : Hid (Below w.heap.size w w4_) := HB.out.trans (Sq.mono HB.out.size)
  clear Bq Sq
  go_wp2_with fail
  refine (HR2.out _ HB.out).mono ?_
  rintro e w5_ ⟨rfl, Bq⟩
  have Sq : Below w4_.heap.size w4_ w5_ := Bq
  replace pa := (Sq.cell (p := ⟨w.heap.size, 0, none⟩) za).trans pa
  replace qa := (Sq.cell (p := ⟨w.heap.size, 1, none⟩) za).trans qa
  replace za : w.heap.size < w5_.heap.size := Nat.lt_of_lt_of_le za Sq.size
  replace pb := (Sq.cell (p := ⟨(w.heap.size + 1), 0, none⟩) zb).trans pb
  replace qb := (Sq.cell (p := ⟨(w.heap.size + 1), 1, none⟩) zb).trans qb
  replace zb : (w.heap.size + 1) < w5_.heap.size := Nat.lt_of_lt_of_le zb Sq.size
  replace pj := (Sq.cell (p := ⟨w1_.heap.size, 0, none⟩) zj).trans pj
  replace qj := (Sq.cell (p := ⟨w1_.heap.size, 1, none⟩) zj).trans qj
  replace zj : w1_.heap.size < w5_.heap.size := Nat.lt_of_lt_of_le zj Sq.size
  replace HJr : Hid (Rd w5_ w5_.heap.size AJ bJ) := HJr.out.on Sq
  replace HB : Hid (Below w.heap.size w w5_) := HB.out.trans (Sq.mono HB.out.size)
  clear Bq Sq
  go_wp2_with fail
  refine (HR3.out AJ cJ _ HB.out HJr.out).mono ?_
  rintro e w6_ ⟨rfl, Bq⟩
  have Sq : Below w5_.heap.size w5_ w6_ := Bq
  replace pa := (Sq.cell (p := ⟨w.heap.size, 0, none⟩) za).trans pa
  replace qa := (Sq.cell (p := ⟨w.heap.size, 1, none⟩) za).trans qa
  replace za : w.heap.size < w6_.heap.size := Nat.lt_of_lt_of_le za Sq.size
  replace pb := (Sq.cell (p := ⟨(w.heap.size + 1), 0, none⟩) zb).trans pb
  replace qb := (Sq.cell (p := ⟨(w.heap.size + 1), 1, none⟩) zb).trans qb
  replace zb : (w.heap.size + 1) < w6_.heap.size := Nat.lt_of_lt_of_le zb Sq.size
  replace pj := (Sq.cell (p := ⟨w1_.heap.size, 0, none⟩) zj).trans pj
  replace qj := (Sq.cell (p := ⟨w1_.heap.size, 1, none⟩) zj).trans qj
  replace zj : w1_.heap.size < w6_.heap.size := Nat.lt_of_lt_of_le zj Sq.size
  replace HJr : Hid (Rd w6_ w6_.heap.size AJ bJ) := HJr.out.on Sq
  replace HB : Hid (Below w.heap.size w w6_) := HB.out.trans (Sq.mono HB.out.size)
  clear Bq Sq
  go_wp2
  go_ret
  exact ⟨rfl, HB.out⟩
theorem rankParts_law (len : Int) (A : Option Addr) (c : Nat) (bs : List Nat) (lenB : Int) (B : Option Addr) (d : Nat) (bsB : List Nat) (p : Int) (w : World) (hb : ∀ b ∈ bs, b < 256) (h : Rd w w.heap.size A bs) (hbB : ∀ b ∈ bsB, b < 256) (h2 : Rd w w.heap.size B bsB) (hp : -9223372036854775808 ≤ p ∧ p ≤ 9223372036854775807) :
    Calls Try.prog 11 #[.agg #[.int .i64 len, .slice A bs.length c], .agg #[.int .i64 lenB, .slice B bsB.length d], .int .i64 p] w fun e w' => e = .returned (.bool true) ∧ Below w.heap.size w w' := by
  by_cases h0 : joinE len bs lenB bsB = 0
  · have hj0 := h0
    unfold joinE at h0
    have h1 : chk len bs = 0 := by
      by_cases q : chk len bs = 0
      · exact q
      · rw [if_pos q] at h0; exact absurd h0 q
    rw [if_neg (by omega)] at h0
    have h3 : chk lenB bsB = 0 := by
      by_cases q : chk lenB bsB = 0
      · exact q
      · rw [if_pos q] at h0; exact absurd h0 q
    rw [if_neg (by omega)] at h0
    have h4 : ¬ 8192 < len + lenB := by
      intro q
      rw [if_pos q] at h0; cases h0
    obtain ⟨a, rfl, ha, rfl⟩ := chk_zero len bs hb h1
    obtain ⟨b, rfl, hbb, rfl⟩ := chk_zero lenB bsB hbB h3
    have hal : a.length + b.length ≤ 8192 := by omega
    have HJ := fun V (hV : Below w.heap.size w V) => join_l a b (a ++ b) A B c d hal rfl V (h.on hV) (h2.on hV)
    by_cases q1 : p < 0
    · exact parts_b _ _ A B _ c _ d p 0 _ 0 _ 0 0 0 _ w HJ (by simpa using q1)
    · by_cases q2 : (b.length : Int) < p
      · exact parts_c _ _ A B _ c _ d p 0 _ 0 _ 0 0 0 _ w HJ (by simpa using q1) (by simpa using q2)
      · obtain ⟨q, rfl⟩ := Int.eq_ofNat_of_zero_le (show 0 ≤ p by omega)
        have hq : q ≤ b.length := by omega
        have hle := cnt_take_le b q
        have hca := cnt_le a
        have hk : cnt ((a ++ b).take (a.length + q)) = cnt a + cnt (b.take q) := by
          rw [List.take_append, List.take_of_length_le (by omega), cnt_append, Nat.add_sub_cancel_left]
        exact parts_d _ _ A B _ c _ d (q : Int) 0 _ ((a.length + q : Nat) : Int) _ (cnt a) (cnt (b.take q)) (cnt a + cnt (b.take q)) _ w HJ
          (fun V hV => rank_ok a ha A c a.length (Nat.le_refl _) _ (by rw [List.take_of_length_le (Nat.le_refl _)]) V (h.on hV))
          (fun V hV => rank_ok b hbb B d q hq _ rfl V (h2.on hV))
          (fun A' c' V hV hr => rank_ok (a ++ b) (by rw [List.length_append]; exact hal) A' c' (a.length + q) (by rw [List.length_append]; omega) _ hk V hr)
          (by simp) (by simpa using hq) (by omega) (by rw [IntKind.wrap_i64]; omega) (by omega) (by rw [IntKind.wrap_i64]; omega) (by unfold wrap64; omega) (by simpa using hle)
  · exact parts_a _ _ A B _ c _ d p (joinE len bs lenB bsB) _ 0 _ 0 0 0 _ w (fun V hV => join_any len lenB A B c d bs bsB V hb (h.on hV) hbB (h2.on hV)) (by simpa using h0)
end Go.Proofs.Ytkbelhclcpepaaa
