/- The law RankEnds: for whatever bits and place it returns true. -/
import Derived.Test.YtkbelhclcpepaaaOBeg
namespace Go.Proofs.Ytkbelhclcpepaaa
set_option maxRecDepth 100000
set_option linter.unusedVariables false
open Go.RowKit Go.Shelf

set_option maxHeartbeats 4000000 in
theorem ends_a (len : Int) (A : Option Addr) (N c : Nat) (p : Int) (al d n m bit q : Nat) (w : World)
    (HC : Hid (∀ V, Below w.heap.size w V → Calls Try.prog 48 #[.agg #[.int .i64 len, .slice A N c]] V fun e w' => e = .returned (.int .i64 (m : Int)) ∧ Below V.heap.size V w')) (t0 : ((m : Int) != 0) = true) :
    Calls Try.prog 12 #[.agg #[.int .i64 len, .slice A N c], .int .i64 p] w fun e w' => e = .returned (.bool true) ∧ Below w.heap.size w w' := by
  go_enter Try.func12, Try.ntmps12
  go_wp2_with fail
  refine (rbegun_true _).mono ?_
  rintro e w1_ ⟨rfl, Bq⟩
  rw [World.size_alloc] at Bq
  have Sq : Below w.heap.size w w1_ := (one_below w _).trans (Bq.mono (by omega))
  have zb : w.heap.size < w1_.heap.size := by have := Bq.size; rw [World.size_alloc] at this; omega
  obtain ⟨pb, qb⟩ := boxT_at Bq
  have HB : Hid (Below w.heap.size w w1_) := Sq
  clear Bq Sq
  go_wp2_with fail
  refine (begun_true _).mono ?_
  rintro e w2_ ⟨rfl, Bq⟩
  have Sq : Below w1_.heap.size w1_ w2_ := Bq
  replace pb := (Sq.cell (p := ⟨w.heap.size, 0, none⟩) zb).trans pb
  replace qb := (Sq.cell (p := ⟨w.heap.size, 1, none⟩) zb).trans qb
  replace zb : w.heap.size < w2_.heap.size := Nat.lt_of_lt_of_le zb Sq.size
  replace HB : Hid (Below w.heap.size w w2_) := HB.out.trans (Sq.mono HB.out.size)
  clear Bq Sq
  go_wp2_with fail
  refine (HC.out _ HB.out).mono ?_
  rintro e w3_ ⟨rfl, Bq⟩
  have Sq : Below w2_.heap.size w2_ w3_ := Bq
  replace pb := (Sq.cell (p := ⟨w.heap.size, 0, none⟩) zb).trans pb
  replace qb := (Sq.cell (p := ⟨w.heap.size, 1, none⟩) zb).trans qb
  replace zb : w.heap.size < w3_.heap.size := Nat.lt_of_lt_of_le zb Sq.size
  replace HB : Hid (Below w.heap.size w w3_) := HB.out.trans (Sq.mono HB.out.size)
  clear Bq Sq
  go_wp2
  go_ret
  exact ⟨rfl, HB.out⟩
set_option maxHeartbeats 4000000 in
theorem ends_b (len : Int) (A : Option Addr) (N c : Nat) (p : Int) (al d n m bit q : Nat) (w : World)
    (HC : Hid (∀ V, Below w.heap.size w V → Calls Try.prog 48 #[.agg #[.int .i64 len, .slice A N c]] V fun e w' => e = .returned (.int .i64 0) ∧ Below V.heap.size V w'))
    (H0 : Hid (∀ V, Below w.heap.size w V → Calls Try.prog 35 #[.agg #[.int .i64 len, .slice A N c], .int .i64 0] V (RkP V 0 0)))
    (H1 : Hid (∀ V, Below w.heap.size w V → Calls Try.prog 35 #[.agg #[.int .i64 len, .slice A N c], .int .i64 len] V (RkP V al 0)))
    (H2 : Hid (∀ V, Below w.heap.size w V → Calls Try.prog 36 #[.agg #[.int .i64 len, .slice A N c], .int .i64 1, .int .i64 (al : Int)] V (RkP V 0 5)))
    (H3 : Hid (∀ V, Below w.heap.size w V → Calls Try.prog 36 #[.agg #[.int .i64 len, .slice A N c], .int .i64 0, .int .i64 (d : Int)] V (RkP V 0 5))) (td : len - (al : Int) = (d : Int)) (twd : IntKind.i64.wrap (d : Int) = (d : Int)) (t0 : decide (p < 0) = true) :
    Calls Try.prog 12 #[.agg #[.int .i64 len, .slice A N c], .int .i64 p] w fun e w' => e = .returned (.bool true) ∧ Below w.heap.size w w' := by
  go_enter Try.func12, Try.ntmps12
  go_wp2_with fail
  refine (rbegun_true _).mono ?_
  rintro e w1_ ⟨rfl, Bq⟩
  rw [World.size_alloc] at Bq
  have Sq : Below w.heap.size w w1_ := (one_below w _).trans (Bq.mono (by omega))
  have zb : w.heap.size < w1_.heap.size := by have := Bq.size; rw [World.size_alloc] at this; omega
  obtain ⟨pb, qb⟩ := boxT_at Bq
  have HB : Hid (Below w.heap.size w w1_) := Sq
  clear Bq Sq
  go_wp2_with fail
  refine (begun_true _).mono ?_
  rintro e w2_ ⟨rfl, Bq⟩
  have Sq : Below w1_.heap.size w1_ w2_ := Bq
  replace pb := (Sq.cell (p := ⟨w.heap.size, 0, none⟩) zb).trans pb
  replace qb := (Sq.cell (p := ⟨w.heap.size, 1, none⟩) zb).trans qb
  replace zb : w.heap.size < w2_.heap.size := Nat.lt_of_lt_of_le zb Sq.size
  replace HB : Hid (Below w.heap.size w w2_) := HB.out.trans (Sq.mono HB.out.size)
  clear Bq Sq
  go_wp2_with fail
  refine (HC.out _ HB.out).mono ?_
  rintro e w3_ ⟨rfl, Bq⟩
  have Sq : Below w2_.heap.size w2_ w3_ := Bq
  replace pb := (Sq.cell (p := ⟨w.heap.size, 0, none⟩) zb).trans pb
  replace qb := (Sq.cell (p := ⟨w.heap.size, 1, none⟩) zb).trans qb
  replace zb : w.heap.size < w3_.heap.size := Nat.lt_of_lt_of_le zb Sq.size
  replace HB : Hid (Below w.heap.size w w3_) := HB.out.trans (Sq.mono HB.out.size)
  clear Bq Sq
  go_wp2_with fail
  refine (H0.out _ HB.out).mono ?_
  rintro e w4_ ⟨rfl, Bq⟩
  have Sq : Below w3_.heap.size w3_ w4_ := Bq
  replace pb := (Sq.cell (p := ⟨w.heap.size, 0, none⟩) zb).trans pb
  replace qb := (Sq.cell (p := ⟨w.heap.size, 1, none⟩) zb).trans qb
  replace zb : w.heap.size < w4_.heap.size := Nat.lt_of_lt_of_le zb Sq.size
  replace HB : Hid (Below w.heap.size w w4_) := HB.out.trans (Sq.mono HB.out.size)
  clear Bq Sq
  go_wp2_with fail
  refine (H1.out _ HB.out).mono ?_
  rintro e w5_ ⟨rfl, Bq⟩
  have Sq : Below w4_.heap.size w4_ w5_ := Bq
  replace pb := (Sq.cell (p := ⟨w.heap.size, 0, none⟩) zb).trans pb
  replace qb := (Sq.cell (p := ⟨w.heap.size, 1, none⟩) zb).trans qb
  replace zb : w.heap.size < w5_.heap.size := Nat.lt_of_lt_of_le zb Sq.size
  replace HB : Hid (Below w.heap.size w w5_) := HB.out.trans (Sq.mono HB.out.size)
  clear Bq Sq
  go_wp2_with fail
  refine (H2.out _ HB.out).mono ?_
  rintro e w6_ ⟨rfl, Bq⟩
  have Sq : Below w5_.heap.size w5_ w6_ := Bq
  replace pb := (Sq.cell (p := ⟨w.heap.size, 0, none⟩) zb).trans pb
  replace qb := (Sq.cell (p := ⟨w.heap.size, 1, none⟩) zb).trans qb
  replace zb : w.heap.size < w6_.heap.size := Nat.lt_of_lt_of_le zb Sq.size
  replace HB : Hid (Below w.heap.size w w6_) := HB.out.trans (Sq.mono HB.out.size)
  clear Bq Sq
  go_wp2_with fail
  refine (H3.out _ HB.out).mono ?_
  rintro e w7_ ⟨rfl, Bq⟩
  have Sq : Below w6_.heap.size w6_ w7_ := Bq
  replace pb := (Sq.cell (p := ⟨w.heap.size, 0, none⟩) zb).trans pb
  replace qb := (Sq.cell (p := ⟨w.heap.size, 1, none⟩) zb).trans qb
  replace zb : w.heap.size < w7_.heap.size := Nat.lt_of_lt_of_le zb Sq.size
  replace HB : Hid (Below w.heap.size w w7_) := HB.out.trans (Sq.mono HB.out.size)
  clear Bq Sq
  go_wp2
  go_ret
  exact ⟨rfl, HB.out⟩
set_option maxHeartbeats 4000000 in
theorem ends_c (len : Int) (A : Option Addr) (N c : Nat) (p : Int) (al d n m bit q : Nat) (w : World)
    (HC : Hid (∀ V, Below w.heap.size w V → Calls Try.prog 48 #[.agg #[.int .i64 len, .slice A N c]] V fun e w' => e = .returned (.int .i64 0) ∧ Below V.heap.size V w'))
    (H0 : Hid (∀ V, Below w.heap.size w V → Calls Try.prog 35 #[.agg #[.int .i64 len, .slice A N c], .int .i64 0] V (RkP V 0 0)))
    (H1 : Hid (∀ V, Below w.heap.size w V → Calls Try.prog 35 #[.agg #[.int .i64 len, .slice A N c], .int .i64 len] V (RkP V al 0)))
    (H2 : Hid (∀ V, Below w.heap.size w V → Calls Try.prog 36 #[.agg #[.int .i64 len, .slice A N c], .int .i64 1, .int .i64 (al : Int)] V (RkP V 0 5)))
    (H3 : Hid (∀ V, Below w.heap.size w V → Calls Try.prog 36 #[.agg #[.int .i64 len, .slice A N c], .int .i64 0, .int .i64 (d : Int)] V (RkP V 0 5))) (td : len - (al : Int) = (d : Int)) (twd : IntKind.i64.wrap (d : Int) = (d : Int)) (t0 : decide (p < 0) = false) (t1 : decide (len ≤ p) = true) :
    Calls Try.prog 12 #[.agg #[.int .i64 len, .slice A N c], .int .i64 p] w fun e w' => e = .returned (.bool true) ∧ Below w.heap.size w w' := by
  go_enter Try.func12, Try.ntmps12
  go_wp2_with fail
  refine (rbegun_true _).mono ?_
  rintro e w1_ ⟨rfl, Bq⟩
  rw [World.size_alloc] at Bq
  have Sq : Below w.heap.size w w1_ := (one_below w _).trans (Bq.mono (by omega))
  have zb : w.heap.size < w1_.heap.size := by have := Bq.size; rw [World.size_alloc] at this; omega
  obtain ⟨pb, qb⟩ := boxT_at Bq
  have HB : Hid (Below w.heap.size w w1_) := Sq
  clear Bq Sq
  go_wp2_with fail
  refine (begun_true _).mono ?_
  rintro e w2_ ⟨rfl, Bq⟩
  have Sq : Below w1_.heap.size w1_ w2_ := Bq
  replace pb := (Sq.cell (p := ⟨w.heap.size, 0, none⟩) zb).trans pb
  replace qb := (Sq.cell (p := ⟨w.heap.size, 1, none⟩) zb).trans qb
  replace zb : w.heap.size < w2_.heap.size := Nat.lt_of_lt_of_le zb Sq.size
  replace HB : Hid (Below w.heap.size w w2_) := HB.out.trans (Sq.mono HB.out.size)
  clear Bq Sq
  go_wp2_with fail
  refine (HC.out _ HB.out).mono ?_
  rintro e w3_ ⟨rfl, Bq⟩
  have Sq : Below w2_.heap.size w2_ w3_ := Bq
  replace pb := (Sq.cell (p := ⟨w.heap.size, 0, none⟩) zb).trans pb
  replace qb := (Sq.cell (p := ⟨w.heap.size, 1, none⟩) zb).trans qb
  replace zb : w.heap.size < w3_.heap.size := Nat.lt_of_lt_of_le zb Sq.size
  replace HB : Hid (Below w.heap.size w w3_) := HB.out.trans (Sq.mono HB.out.size)
  clear Bq Sq
  go_wp2_with fail
  refine (H0.out _ HB.out).mono ?_
  rintro e w4_ ⟨rfl, Bq⟩
  have Sq : Below w3_.heap.size w3_ w4_ := Bq
  replace pb := (Sq.cell (p := ⟨w.heap.size, 0, none⟩) zb).trans pb
  replace qb := (Sq.cell (p := ⟨w.heap.size, 1, none⟩) zb).trans qb
  replace zb : w.heap.size < w4_.heap.size := Nat.lt_of_lt_of_le zb Sq.size
  replace HB : Hid (Below w.heap.size w w4_) := HB.out.trans (Sq.mono HB.out.size)
  clear Bq Sq
  go_wp2_with fail
  refine (H1.out _ HB.out).mono ?_
  rintro e w5_ ⟨rfl, Bq⟩
  have Sq : Below w4_.heap.size w4_ w5_ := Bq
  replace pb := (Sq.cell (p := ⟨w.heap.size, 0, none⟩) zb).trans pb
  replace qb := (Sq.cell (p := ⟨w.heap.size, 1, none⟩) zb).trans qb
  replace zb : w.heap.size < w5_.heap.size := Nat.lt_of_lt_of_le zb Sq.size
  replace HB : Hid (Below w.heap.size w w5_) := HB.out.trans (Sq.mono HB.out.size)
  clear Bq Sq
  go_wp2_with fail
  refine (H2.out _ HB.out).mono ?_
  rintro e w6_ ⟨rfl, Bq⟩
  have Sq : Below w5_.heap.size w5_ w6_ := Bq
  replace pb := (Sq.cell (p := ⟨w.heap.size, 0, none⟩) zb).trans pb
  replace qb := (Sq.cell (p := ⟨w.heap.size, 1, none⟩) zb).trans qb
  replace zb : w.heap.size < w6_.heap.size := Nat.lt_of_lt_of_le zb Sq.size
  replace HB : Hid (Below w.heap.size w w6_) := HB.out.trans (Sq.mono HB.out.size)
  clear Bq Sq
  go_wp2_with fail
  refine (H3.out _ HB.out).mono ?_
  rintro e w7_ ⟨rfl, Bq⟩
  have Sq : Below w6_.heap.size w6_ w7_ := Bq
  replace pb := (Sq.cell (p := ⟨w.heap.size, 0, none⟩) zb).trans pb
  replace qb := (Sq.cell (p := ⟨w.heap.size, 1, none⟩) zb).trans qb
  replace zb : w.heap.size < w7_.heap.size := Nat.lt_of_lt_of_le zb Sq.size
  replace HB : Hid (Below w.heap.size w w7_) := HB.out.trans (Sq.mono HB.out.size)
  clear Bq Sq
  go_wp2
  go_ret
  exact ⟨rfl, HB.out⟩
set_option maxHeartbeats 4000000 in
theorem ends_d (len : Int) (A : Option Addr) (N c : Nat) (p : Int) (al d n m bit q : Nat) (w : World)
    (HC : Hid (∀ V, Below w.heap.size w V → Calls Try.prog 48 #[.agg #[.int .i64 len, .slice A N c]] V fun e w' => e = .returned (.int .i64 0) ∧ Below V.heap.size V w'))
    (H0 : Hid (∀ V, Below w.heap.size w V → Calls Try.prog 35 #[.agg #[.int .i64 len, .slice A N c], .int .i64 0] V (RkP V 0 0)))
    (H1 : Hid (∀ V, Below w.heap.size w V → Calls Try.prog 35 #[.agg #[.int .i64 len, .slice A N c], .int .i64 len] V (RkP V al 0)))
    (H2 : Hid (∀ V, Below w.heap.size w V → Calls Try.prog 36 #[.agg #[.int .i64 len, .slice A N c], .int .i64 1, .int .i64 (al : Int)] V (RkP V 0 5)))
    (H3 : Hid (∀ V, Below w.heap.size w V → Calls Try.prog 36 #[.agg #[.int .i64 len, .slice A N c], .int .i64 0, .int .i64 (d : Int)] V (RkP V 0 5)))
    (H4 : Hid (∀ V, Below w.heap.size w V → Calls Try.prog 35 #[.agg #[.int .i64 len, .slice A N c], .int .i64 p] V (RkP V n 0)))
    (H5 : Hid (∀ V, Below w.heap.size w V → Calls Try.prog 35 #[.agg #[.int .i64 len, .slice A N c], .int .i64 (q : Int)] V (RkP V m 0)))
    (H6 : Hid (∀ V, Below w.heap.size w V → Calls Try.prog 47 #[.agg #[.int .i64 len, .slice A N c], .int .i64 p, .int .i64 1] V fun e w' => e = .returned (.tuple #[.int .u64 (bit : Int), .int .i64 0]) ∧ Below V.heap.size V w')) (td : len - (al : Int) = (d : Int)) (twd : IntKind.i64.wrap (d : Int) = (d : Int)) (t0 : decide (p < 0) = false) (t1 : decide (len ≤ p) = false) (hq : p + 1 = (q : Int)) (hw : IntKind.i64.wrap (q : Int) = (q : Int)) (hb : IntKind.i64.wrap (bit : Int) = (bit : Int)) (hs : IntKind.i64.wrap ((n : Int) + (bit : Int)) = (m : Int)) (hs2 : (n : Int) + (bit : Int) = (m : Int)) (hwm : wrap64 (m : Int) = (m : Int)) :
    Calls Try.prog 12 #[.agg #[.int .i64 len, .slice A N c], .int .i64 p] w fun e w' => e = .returned (.bool true) ∧ Below w.heap.size w w' := by
  go_enter Try.func12, Try.ntmps12
  go_wp2_with fail
  refine (rbegun_true _).mono ?_
  rintro e w1_ ⟨rfl, Bq⟩
  rw [World.size_alloc] at Bq
  have Sq : Below w.heap.size w w1_ := (one_below w _).trans (Bq.mono (by omega))
  have zb : w.heap.size < w1_.heap.size := by have := Bq.size; rw [World.size_alloc] at this; omega
  obtain ⟨pb, qb⟩ := boxT_at Bq
  have HB : Hid (Below w.heap.size w w1_) := Sq
  clear Bq Sq
  go_wp2_with fail
  refine (begun_true _).mono ?_
  rintro e w2_ ⟨rfl, Bq⟩
  have Sq : Below w1_.heap.size w1_ w2_ := Bq
  replace pb := (Sq.cell (p := ⟨w.heap.size, 0, none⟩) zb).trans pb
  replace qb := (Sq.cell (p := ⟨w.heap.size, 1, none⟩) zb).trans qb
  replace zb : w.heap.size < w2_.heap.size := Nat.lt_of_lt_of_le zb Sq.size
  replace HB : Hid (Below w.heap.size w w2_) := HB.out.trans (Sq.mono HB.out.size)
  clear Bq Sq
  go_wp2_with fail
  refine (HC.out _ HB.out).mono ?_
  rintro e w3_ ⟨rfl, Bq⟩
  have Sq : Below w2_.heap.size w2_ w3_ := Bq
  replace pb := (Sq.cell (p := ⟨w.heap.size, 0, none⟩) zb).trans pb
  replace qb := (Sq.cell (p := ⟨w.heap.size, 1, none⟩) zb).trans qb
  replace zb : w.heap.size < w3_.heap.size := Nat.lt_of_lt_of_le zb Sq.size
  replace HB : Hid (Below w.heap.size w w3_) := HB.out.trans (Sq.mono HB.out.size)
  clear Bq Sq
  go_wp2_with fail
  refine (H0.out _ HB.out).mono ?_
  rintro e w4_ ⟨rfl, Bq⟩
  have Sq : Below w3_.heap.size w3_ w4_ := Bq
  replace pb := (Sq.cell (p := ⟨w.heap.size, 0, none⟩) zb).trans pb
  replace qb := (Sq.cell (p := ⟨w.heap.size, 1, none⟩) zb).trans qb
  replace zb : w.heap.size < w4_.heap.size := Nat.lt_of_lt_of_le zb Sq.size
  replace HB : Hid (Below w.heap.size w w4_) := HB.out.trans (Sq.mono HB.out.size)
  clear Bq Sq
  go_wp2_with fail
  refine (H1.out _ HB.out).mono ?_
  rintro e w5_ ⟨rfl, Bq⟩
  have Sq : Below w4_.heap.size w4_ w5_ := Bq
  replace pb := (Sq.cell (p := ⟨w.heap.size, 0, none⟩) zb).trans pb
  replace qb := (Sq.cell (p := ⟨w.heap.size, 1, none⟩) zb).trans qb
  replace zb : w.heap.size < w5_.heap.size := Nat.lt_of_lt_of_le zb Sq.size
  replace HB : Hid (Below w.heap.size w w5_) := HB.out.trans (Sq.mono HB.out.size)
  clear Bq Sq
  go_wp2_with fail
  refine (H2.out _ HB.out).mono ?_
  rintro e w6_ ⟨rfl, Bq⟩
  have Sq : Below w5_.heap.size w5_ w6_ := Bq
  replace pb := (Sq.cell (p := ⟨w.heap.size, 0, none⟩) zb).trans pb
  replace qb := (Sq.cell (p := ⟨w.heap.size, 1, none⟩) zb).trans qb
  replace zb : w.heap.size < w6_.heap.size := Nat.lt_of_lt_of_le zb Sq.size
  replace HB : Hid (Below w.heap.size w w6_) := HB.out.trans (Sq.mono HB.out.size)
  clear Bq Sq
  go_wp2_with fail
  refine (H3.out _ HB.out).mono ?_
  rintro e w7_ ⟨rfl, Bq⟩
  have Sq : Below w6_.heap.size w6_ w7_ := Bq
  replace pb := (Sq.cell (p := ⟨w.heap.size, 0, none⟩) zb).trans pb
  replace qb := (Sq.cell (p := ⟨w.heap.size, 1, none⟩) zb).trans qb
  replace zb : w.heap.size < w7_.heap.size := Nat.lt_of_lt_of_le zb Sq.size
  replace HB : Hid (Below w.heap.size w w7_) := HB.out.trans (Sq.mono HB.out.size)
  clear Bq Sq
  go_wp2_with fail
  refine (H4.out _ HB.out).mono ?_
  rintro e w8_ ⟨rfl, Bq⟩
  have Sq : Below w7_.heap.size w7_ w8_ := Bq
  replace pb := (Sq.cell (p := ⟨w.heap.size, 0, none⟩) zb).trans pb
  replace qb := (Sq.cell (p := ⟨w.heap.size, 1, none⟩) zb).trans qb
  replace zb : w.heap.size < w8_.heap.size := Nat.lt_of_lt_of_le zb Sq.size
  replace HB : Hid (Below w.heap.size w w8_) := HB.out.trans (Sq.mono HB.out.size)
  clear Bq Sq
  go_wp2_with fail
  refine (H5.out _ HB.out).mono ?_
  rintro e w9_ ⟨rfl, Bq⟩
  have Sq : Below w8_.heap.size w8_ w9_ := Bq
  replace pb := (Sq.cell (p := ⟨w.heap.size, 0, none⟩) zb).trans pb
  replace qb := (Sq.cell (p := ⟨w.heap.size, 1, none⟩) zb).trans qb
  replace zb : w.heap.size < w9_.heap.size := Nat.lt_of_lt_of_le zb Sq.size
  replace HB : Hid (Below w.heap.size w w9_) := HB.out.trans (Sq.mono HB.out.size)
  clear Bq Sq
  go_wp2_with fail
  refine (H6.out _ HB.out).mono ?_
  rintro e w10_ ⟨rfl, Bq⟩
  have Sq : Below w9_.heap.size w9_ w10_ := Bq
  replace pb := (Sq.cell (p := ⟨w.heap.size, 0, none⟩) zb).trans pb
  replace qb := (Sq.cell (p := ⟨w.heap.size, 1, none⟩) zb).trans qb
  replace zb : w.heap.size < w10_.heap.size := Nat.lt_of_lt_of_le zb Sq.size
  replace HB : Hid (Below w.heap.size w w10_) := HB.out.trans (Sq.mono HB.out.size)
  clear Bq Sq
  go_wp2
  go_ret
  exact ⟨rfl, HB.out⟩
theorem chk_big (len : Int) (bs : List Nat) : ∃ m : Nat, chk len bs = (m : Int) := by
  unfold chk
  split
  · exact ⟨3, rfl⟩
  · split
    · exact ⟨1, rfl⟩
    · split
      · exact ⟨1, rfl⟩
      · exact ⟨0, rfl⟩
theorem rankEnds_law (len : Int) (A : Option Addr) (c : Nat) (bs : List Nat) (p : Int) (w : World) (hb : ∀ b ∈ bs, b < 256) (h : Rd w w.heap.size A bs) (hp : -9223372036854775808 ≤ p ∧ p ≤ 9223372036854775807) :
    Calls Try.prog 12 #[.agg #[.int .i64 len, .slice A bs.length c], .int .i64 p] w fun e w' => e = .returned (.bool true) ∧ Below w.heap.size w w' := by
  by_cases h0 : chk len bs = 0
  · obtain ⟨l, rfl, hl, rfl⟩ := chk_zero len bs hb h0
    have HC : Hid (∀ V, Below w.heap.size w V → Calls Try.prog 48 #[.agg #[.int .i64 (l.length : Int), .slice A (pack l).length c]] V fun e w' => e = .returned (.int .i64 0) ∧ Below V.heap.size V w') := fun V hV => check_l l hl A c V (h.on hV)
    have H0 : Hid (∀ V, Below w.heap.size w V → Calls Try.prog 35 #[.agg #[.int .i64 (l.length : Int), .slice A (pack l).length c], .int .i64 0] V (RkP V 0 0)) := fun V hV => rank_ok l hl A c 0 (Nat.zero_le _) 0 (by simp [cnt]) V (h.on hV)
    have H1 : Hid (∀ V, Below w.heap.size w V → Calls Try.prog 35 #[.agg #[.int .i64 (l.length : Int), .slice A (pack l).length c], .int .i64 (l.length : Int)] V (RkP V (cnt l) 0)) := fun V hV => rank_ok l hl A c l.length (Nat.le_refl _) _ (by rw [List.take_of_length_le (Nat.le_refl _)]) V (h.on hV)
    have H2 : Hid (∀ V, Below w.heap.size w V → Calls Try.prog 36 #[.agg #[.int .i64 (l.length : Int), .slice A (pack l).length c], .int .i64 1, .int .i64 (cnt l : Int)] V (RkP V 0 5)) := fun V hV => sel_ok1 l hl A c (cnt l) 0 5 (.inl ⟨(sel_none true l _).2 (by rw [eqs_true]; exact Nat.le_refl _), rfl, rfl⟩) V (h.on hV)
    have hd := cnt_eqs_false l
    have H3 : Hid (∀ V, Below w.heap.size w V → Calls Try.prog 36 #[.agg #[.int .i64 (l.length : Int), .slice A (pack l).length c], .int .i64 0, .int .i64 (cnt (eqs false l) : Int)] V (RkP V 0 5)) := fun V hV => sel_ok0 l hl A c _ 0 5 (.inl ⟨(sel_none false l _).2 (Nat.le_refl _), rfl, rfl⟩) V (h.on hV)
    have td : (l.length : Int) - (cnt l : Int) = (cnt (eqs false l) : Int) := by omega
    have hcl := cnt_le (eqs false l)
    rw [eqs_length] at hcl
    have htw : IntKind.i64.wrap ((cnt (eqs false l) : Nat) : Int) = ((cnt (eqs false l) : Nat) : Int) := by rw [IntKind.wrap_i64]; omega
    by_cases h1 : p < 0
    · exact ends_b _ A _ c p _ _ 0 0 0 0 w HC H0 H1 H2 H3 td htw (by simpa using h1)
    · by_cases h2 : (l.length : Int) ≤ p
      · exact ends_c _ A _ c p _ _ 0 0 0 0 w HC H0 H1 H2 H3 td htw (by simpa using h1) (by simpa using h2)
      · obtain ⟨q, rfl⟩ := Int.eq_ofNat_of_zero_le (show 0 ≤ p by omega)
        have hq : q < l.length := by omega
        have hs := cnt_take_succ l q hq
        have hle := cnt_take_le l q
        have hbt := Bool.toNat_le (l[q]?.getD false)
        refine ends_d _ A _ c (q : Int) _ _ (cnt (l.take q)) (cnt (l.take (q + 1))) ((l[q]?.getD false).toNat) (q + 1) w HC H0 H1 H2 H3 (fun V hV => rank_ok l hl A c q (by omega) _ rfl V (h.on hV)) (fun V hV => rank_ok l hl A c (q + 1) (by omega) _ rfl V (h.on hV)) (fun V hV => get_bit l hl A c q hq V (h.on hV)) td htw (by simp) (by simp; omega) (by omega) (by rw [IntKind.wrap_i64]; omega) ?_ ?_ (by omega) (by unfold wrap64; omega)
        · have := Bool.toNat_le (l[q]?.getD false)
          rw [IntKind.wrap_i64]; omega
        · have := Bool.toNat_le (l[q]?.getD false)
          rw [IntKind.wrap_i64]; omega
  · obtain ⟨m, hm⟩ := chk_big len bs
    rw [hm] at h0
    refine ends_a len A bs.length c p 0 0 0 m 0 0 w (fun V hV => by rw [← hm]; exact check_any len A c bs V hb (h.on hV)) (by simp; omega)
end Go.Proofs.Ytkbelhclcpepaaa
