/- The law RankBack: for whatever bits, number and place it returns true. -/
import Derived.Test.YtkbelhclcpepaaaOLEnds
import Derived.Test.YtkbelhclcpepaaaOParts0
namespace Go.Proofs.Ytkbelhclcpepaaa
set_option maxRecDepth 100000
set_option linter.unusedVariables false
open Go.RowKit Go.Shelf

set_option maxHeartbeats 4000000 in
theorem back_00X1 (len : Int) (A : Option Addr) (N c : Nat) (i p es ez eg eh : Int) (s z q nz n bn d pn : Nat) (w : World)
    (HS : Hid (∀ V, Below w.heap.size w V → Calls Try.prog 36 #[.agg #[.int .i64 len, .slice A N c], .int .i64 1, .int .i64 i] V (RkP V 0 es)))
    (HZ : Hid (∀ V, Below w.heap.size w V → Calls Try.prog 36 #[.agg #[.int .i64 len, .slice A N c], .int .i64 0, .int .i64 i] V (RkP V 0 ez)))
    (HR3 : Hid (∀ V, Below w.heap.size w V → Calls Try.prog 35 #[.agg #[.int .i64 len, .slice A N c], .int .i64 p] V (RkP V 0 eg)))
    (HG3 : Hid (∀ V, Below w.heap.size w V → Calls Try.prog 47 #[.agg #[.int .i64 len, .slice A N c], .int .i64 p, .int .i64 1] V fun e w' => e = .returned (.tuple #[.int .u64 (bn : Int), .int .i64 eh]) ∧ Below V.heap.size V w')) (ts : (es == 0) = false) (tz : (ez == 0) = false) (t5 : (eg != 0) = true) :
    Calls Try.prog 9 #[.agg #[.int .i64 len, .slice A N c], .int .i64 i, .int .i64 p] w fun e w' => e = .returned (.bool true) ∧ Below w.heap.size w w' := by
  go_enter Try.func9, Try.ntmps9
  go_wp2_with fail
  refine (HS.out _ (one_below w _)).mono ?_
  rintro e w1_ ⟨rfl, Bq⟩
  rw [World.size_alloc] at Bq
  have Sq : Below w.heap.size w w1_ := (one_below w _).trans (Bq.mono (by omega))
  have zb : w.heap.size < w1_.heap.size := by have := Bq.size; rw [World.size_alloc] at this; omega
  obtain ⟨pb, qb⟩ := boxT_at Bq
  have HB : Hid (Below w.heap.size w w1_) := Sq
  clear Bq Sq
  go_wp2_with fail
  refine (HZ.out _ HB.out).mono ?_
  rintro e w2_ ⟨rfl, Bq⟩
  have Sq : Below w1_.heap.size w1_ w2_ := Bq
  replace pb := (Sq.cell (p := ⟨w.heap.size, 0, none⟩) zb).trans pb
  replace qb := (Sq.cell (p := ⟨w.heap.size, 1, none⟩) zb).trans qb
  replace zb : w.heap.size < w2_.heap.size := Nat.lt_of_lt_of_le zb Sq.size
  replace HB : Hid (Below w.heap.size w w2_) := HB.out.trans (Sq.mono HB.out.size)
  clear Bq Sq
  go_wp2_with fail
  refine (rbegun_true _).mono ?_
  rintro e w3_ ⟨rfl, Bq⟩
  have Sq : Below w2_.heap.size w2_ w3_ := Bq
  replace pb := (Sq.cell (p := ⟨w.heap.size, 0, none⟩) zb).trans pb
  replace qb := (Sq.cell (p := ⟨w.heap.size, 1, none⟩) zb).trans qb
  replace zb : w.heap.size < w3_.heap.size := Nat.lt_of_lt_of_le zb Sq.size
  replace HB : Hid (Below w.heap.size w w3_) := HB.out.trans (Sq.mono HB.out.size)
  clear Bq Sq
  go_wp2_with fail
  refine (begun_true _).mono ?_
  rintro e w4_ ⟨rfl, Bq⟩
  have Sq : Below w3_.heap.size w3_ w4_ := Bq
  replace pb := (Sq.cell (p := ⟨w.heap.size, 0, none⟩) zb).trans pb
  replace qb := (Sq.cell (p := ⟨w.heap.size, 1, none⟩) zb).trans qb
  replace zb : w.heap.size < w4_.heap.size := Nat.lt_of_lt_of_le zb Sq.size
  replace HB : Hid (Below w.heap.size w w4_) := HB.out.trans (Sq.mono HB.out.size)
  clear Bq Sq
  go_wp2_with fail
  refine (HR3.out _ HB.out).mono ?_
  rintro e w5_ ⟨rfl, Bq⟩
  have Sq : Below w4_.heap.size w4_ w5_ := Bq
  replace pb := (Sq.cell (p := ⟨w.heap.size, 0, none⟩) zb).trans pb
  replace qb := (Sq.cell (p := ⟨w.heap.size, 1, none⟩) zb).trans qb
  replace zb : w.heap.size < w5_.heap.size := Nat.lt_of_lt_of_le zb Sq.size
  replace HB : Hid (Below w.heap.size w w5_) := HB.out.trans (Sq.mono HB.out.size)
  clear Bq Sq
  go_wp2_with fail
  refine (HG3.out _ HB.out).mono ?_
  rintro e w6_ ⟨rfl, Bq⟩
  have Sq : Below w5_.heap.size w5_ w6_ := Bq
  replace pb := (Sq.cell (p := ⟨w.heap.size, 0, none⟩) zb).trans pb
  replace qb := (Sq.cell (p := ⟨w.heap.size, 1, none⟩) zb).trans qb
  replace zb : w.heap.size < w6_.heap.size := Nat.lt_of_lt_of_le zb Sq.size
  replace HB : Hid (Below w.heap.size w w6_) := HB.out.trans (Sq.mono HB.out.size)
  clear Bq Sq
  go_wp2
  go_ret
  exact ⟨rfl, HB.out⟩
set_option maxHeartbeats 4000000 in
theorem back_00X2 (len : Int) (A : Option Addr) (N c : Nat) (i p es ez eg eh : Int) (s z q nz n bn d pn : Nat) (w : World)
    (HS : Hid (∀ V, Below w.heap.size w V → Calls Try.prog 36 #[.agg #[.int .i64 len, .slice A N c], .int .i64 1, .int .i64 i] V (RkP V 0 es)))
    (HZ : Hid (∀ V, Below w.heap.size w V → Calls Try.prog 36 #[.agg #[.int .i64 len, .slice A N c], .int .i64 0, .int .i64 i] V (RkP V 0 ez)))
    (HR3 : Hid (∀ V, Below w.heap.size w V → Calls Try.prog 35 #[.agg #[.int .i64 len, .slice A N c], .int .i64 p] V (RkP V n 0)))
    (HG3 : Hid (∀ V, Below w.heap.size w V → Calls Try.prog 47 #[.agg #[.int .i64 len, .slice A N c], .int .i64 p, .int .i64 1] V fun e w' => e = .returned (.tuple #[.int .u64 (bn : Int), .int .i64 eh]) ∧ Below V.heap.size V w')) (ts : (es == 0) = false) (tz : (ez == 0) = false) (t5 : (eh != 0) = true) :
    Calls Try.prog 9 #[.agg #[.int .i64 len, .slice A N c], .int .i64 i, .int .i64 p] w fun e w' => e = .returned (.bool true) ∧ Below w.heap.size w w' := by
  go_enter Try.func9, Try.ntmps9
  go_wp2_with fail
  refine (HS.out _ (one_below w _)).mono ?_
  rintro e w1_ ⟨rfl, Bq⟩
  rw [World.size_alloc] at Bq
  have Sq : Below w.heap.size w w1_ := (one_below w _).trans (Bq.mono (by omega))
  have zb : w.heap.size < w1_.heap.size := by have := Bq.size; rw [World.size_alloc] at this; omega
  obtain ⟨pb, qb⟩ := boxT_at Bq
  have HB : Hid (Below w.heap.size w w1_) := Sq
  clear Bq Sq
  go_wp2_with fail
  refine (HZ.out _ HB.out).mono ?_
  rintro e w2_ ⟨rfl, Bq⟩
  have Sq : Below w1_.heap.size w1_ w2_ := Bq
  replace pb := (Sq.cell (p := ⟨w.heap.size, 0, none⟩) zb).trans pb
  replace qb := (Sq.cell (p := ⟨w.heap.size, 1, none⟩) zb).trans qb
  replace zb : w.heap.size < w2_.heap.size := Nat.lt_of_lt_of_le zb Sq.size
  replace HB : Hid (Below w.heap.size w w2_) := HB.out.trans (Sq.mono HB.out.size)
  clear Bq Sq
  go_wp2_with fail
  refine (rbegun_true _).mono ?_
  rintro e w3_ ⟨rfl, Bq⟩
  have Sq : Below w2_.heap.size w2_ w3_ := Bq
  replace pb := (Sq.cell (p := ⟨w.heap.size, 0, none⟩) zb).trans pb
  replace qb := (Sq.cell (p := ⟨w.heap.size, 1, none⟩) zb).trans qb
  replace zb : w.heap.size < w3_.heap.size := Nat.lt_of_lt_of_le zb Sq.size
  replace HB : Hid (Below w.heap.size w w3_) := HB.out.trans (Sq.mono HB.out.size)
  clear Bq Sq
  go_wp2_with fail
  refine (begun_true _).mono ?_
  rintro e w4_ ⟨rfl, Bq⟩
  have Sq : Below w3_.heap.size w3_ w4_ := Bq
  replace pb := (Sq.cell (p := ⟨w.heap.size, 0, none⟩) zb).trans pb
  replace qb := (Sq.cell (p := ⟨w.heap.size, 1, none⟩) zb).trans qb
  replace zb : w.heap.size < w4_.heap.size := Nat.lt_of_lt_of_le zb Sq.size
  replace HB : Hid (Below w.heap.size w w4_) := HB.out.trans (Sq.mono HB.out.size)
  clear Bq Sq
  go_wp2_with fail
  refine (HR3.out _ HB.out).mono ?_
  rintro e w5_ ⟨rfl, Bq⟩
  have Sq : Below w4_.heap.size w4_ w5_ := Bq
  replace pb := (Sq.cell (p := ⟨w.heap.size, 0, none⟩) zb).trans pb
  replace qb := (Sq.cell (p := ⟨w.heap.size, 1, none⟩) zb).trans qb
  replace zb : w.heap.size < w5_.heap.size := Nat.lt_of_lt_of_le zb Sq.size
  replace HB : Hid (Below w.heap.size w w5_) := HB.out.trans (Sq.mono HB.out.size)
  clear Bq Sq
  go_wp2_with fail
  refine (HG3.out _ HB.out).mono ?_
  rintro e w6_ ⟨rfl, Bq⟩
  have Sq : Below w5_.heap.size w5_ w6_ := Bq
  replace pb := (Sq.cell (p := ⟨w.heap.size, 0, none⟩) zb).trans pb
  replace qb := (Sq.cell (p := ⟨w.heap.size, 1, none⟩) zb).trans qb
  replace zb : w.heap.size < w6_.heap.size := Nat.lt_of_lt_of_le zb Sq.size
  replace HB : Hid (Below w.heap.size w w6_) := HB.out.trans (Sq.mono HB.out.size)
  clear Bq Sq
  go_wp2
  go_ret
  exact ⟨rfl, HB.out⟩
set_option maxHeartbeats 4000000 in
theorem back_00Y1 (len : Int) (A : Option Addr) (N c : Nat) (i p es ez eg eh : Int) (s z q nz n bn d pn : Nat) (w : World)
    (HS : Hid (∀ V, Below w.heap.size w V → Calls Try.prog 36 #[.agg #[.int .i64 len, .slice A N c], .int .i64 1, .int .i64 i] V (RkP V 0 es)))
    (HZ : Hid (∀ V, Below w.heap.size w V → Calls Try.prog 36 #[.agg #[.int .i64 len, .slice A N c], .int .i64 0, .int .i64 i] V (RkP V 0 ez)))
    (HR3 : Hid (∀ V, Below w.heap.size w V → Calls Try.prog 35 #[.agg #[.int .i64 len, .slice A N c], .int .i64 p] V (RkP V n 0)))
    (HG3 : Hid (∀ V, Below w.heap.size w V → Calls Try.prog 47 #[.agg #[.int .i64 len, .slice A N c], .int .i64 p, .int .i64 1] V fun e w' => e = .returned (.tuple #[.int .u64 (1 : Int), .int .i64 0]) ∧ Below V.heap.size V w'))
    (HS3 : Hid (∀ V, Below w.heap.size w V → Calls Try.prog 36 #[.agg #[.int .i64 len, .slice A N c], .int .i64 1, .int .i64 (n : Int)] V (RkP V pn 0))) (ts : (es == 0) = false) (tz : (ez == 0) = false) (t5 : (pn : Int) = p) :
    Calls Try.prog 9 #[.agg #[.int .i64 len, .slice A N c], .int .i64 i, .int .i64 p] w fun e w' => e = .returned (.bool true) ∧ Below w.heap.size w w' := by
  go_enter Try.func9, Try.ntmps9
  go_wp2_with fail
  refine (HS.out _ (one_below w _)).mono ?_
  rintro e w1_ ⟨rfl, Bq⟩
  rw [World.size_alloc] at Bq
  have Sq : Below w.heap.size w w1_ := (one_below w _).trans (Bq.mono (by omega))
  have zb : w.heap.size < w1_.heap.size := by have := Bq.size; rw [World.size_alloc] at this; omega
  obtain ⟨pb, qb⟩ := boxT_at Bq
  have HB : Hid (Below w.heap.size w w1_) := Sq
  clear Bq Sq
  go_wp2_with fail
  refine (HZ.out _ HB.out).mono ?_
  rintro e w2_ ⟨rfl, Bq⟩
  have Sq : Below w1_.heap.size w1_ w2_ := Bq
  replace pb := (Sq.cell (p := ⟨w.heap.size, 0, none⟩) zb).trans pb
  replace qb := (Sq.cell (p := ⟨w.heap.size, 1, none⟩) zb).trans qb
  replace zb : w.heap.size < w2_.heap.size := Nat.lt_of_lt_of_le zb Sq.size
  replace HB : Hid (Below w.heap.size w w2_) := HB.out.trans (Sq.mono HB.out.size)
  clear Bq Sq
  go_wp2_with fail
  refine (rbegun_true _).mono ?_
  rintro e w3_ ⟨rfl, Bq⟩
  have Sq : Below w2_.heap.size w2_ w3_ := Bq
  replace pb := (Sq.cell (p := ⟨w.heap.size, 0, none⟩) zb).trans pb
  replace qb := (Sq.cell (p := ⟨w.heap.size, 1, none⟩) zb).trans qb
  replace zb : w.heap.size < w3_.heap.size := Nat.lt_of_lt_of_le zb Sq.size
  replace HB : Hid (Below w.heap.size w w3_) := HB.out.trans (Sq.mono HB.out.size)
  clear Bq Sq
  go_wp2_with fail
  refine (begun_true _).mono ?_
  rintro e w4_ ⟨rfl, Bq⟩
  have Sq : Below w3_.heap.size w3_ w4_ := Bq
  replace pb := (Sq.cell (p := ⟨w.heap.size, 0, none⟩) zb).trans pb
  replace qb := (Sq.cell (p := ⟨w.heap.size, 1, none⟩) zb).trans qb
  replace zb : w.heap.size < w4_.heap.size := Nat.lt_of_lt_of_le zb Sq.size
  replace HB : Hid (Below w.heap.size w w4_) := HB.out.trans (Sq.mono HB.out.size)
  clear Bq Sq
  go_wp2_with fail
  refine (HR3.out _ HB.out).mono ?_
  rintro e w5_ ⟨rfl, Bq⟩
  have Sq : Below w4_.heap.size w4_ w5_ := Bq
  replace pb := (Sq.cell (p := ⟨w.heap.size, 0, none⟩) zb).trans pb
  replace qb := (Sq.cell (p := ⟨w.heap.size, 1, none⟩) zb).trans qb
  replace zb : w.heap.size < w5_.heap.size := Nat.lt_of_lt_of_le zb Sq.size
  replace HB : Hid (Below w.heap.size w w5_) := HB.out.trans (Sq.mono HB.out.size)
  clear Bq Sq
  go_wp2_with fail
  refine (HG3.out _ HB.out).mono ?_
  rintro e w6_ ⟨rfl, Bq⟩
  have Sq : Below w5_.heap.size w5_ w6_ := Bq
  replace pb := (Sq.cell (p := ⟨w.heap.size, 0, none⟩) zb).trans pb
  replace qb := (Sq.cell (p := ⟨w.heap.size, 1, none⟩) zb).trans qb
  replace zb : w.heap.size < w6_.heap.size := Nat.lt_of_lt_of_le zb Sq.size
  replace HB : Hid (Below w.heap.size w w6_) := HB.out.trans (Sq.mono HB.out.size)
  clear Bq Sq
  go_wp2_with fail
  refine (HS3.out _ HB.out).mono ?_
  rintro e w7_ ⟨rfl, Bq⟩
  have Sq : Below w6_.heap.size w6_ w7_ := Bq
  replace pb := (Sq.cell (p := ⟨w.heap.size, 0, none⟩) zb).trans pb
  replace qb := (Sq.cell (p := ⟨w.heap.size, 1, none⟩) zb).trans qb
  replace zb : w.heap.size < w7_.heap.size := Nat.lt_of_lt_of_le zb Sq.size
  replace HB : Hid (Below w.heap.size w w7_) := HB.out.trans (Sq.mono HB.out.size)
  clear Bq Sq
  have t8 : (((pn : Nat) : Int) == p) = true := by simpa using t5
  clear t5
  go_wp2
  go_ret
  exact ⟨rfl, HB.out⟩
set_option maxHeartbeats 4000000 in
theorem back_00Y0 (len : Int) (A : Option Addr) (N c : Nat) (i p es ez eg eh : Int) (s z q nz n bn d pn : Nat) (w : World)
    (HS : Hid (∀ V, Below w.heap.size w V → Calls Try.prog 36 #[.agg #[.int .i64 len, .slice A N c], .int .i64 1, .int .i64 i] V (RkP V 0 es)))
    (HZ : Hid (∀ V, Below w.heap.size w V → Calls Try.prog 36 #[.agg #[.int .i64 len, .slice A N c], .int .i64 0, .int .i64 i] V (RkP V 0 ez)))
    (HR3 : Hid (∀ V, Below w.heap.size w V → Calls Try.prog 35 #[.agg #[.int .i64 len, .slice A N c], .int .i64 p] V (RkP V n 0)))
    (HG3 : Hid (∀ V, Below w.heap.size w V → Calls Try.prog 47 #[.agg #[.int .i64 len, .slice A N c], .int .i64 p, .int .i64 1] V fun e w' => e = .returned (.tuple #[.int .u64 (0 : Int), .int .i64 0]) ∧ Below V.heap.size V w'))
    (HS3 : Hid (∀ V, Below w.heap.size w V → Calls Try.prog 36 #[.agg #[.int .i64 len, .slice A N c], .int .i64 0, .int .i64 (d : Int)] V (RkP V pn 0))) (ts : (es == 0) = false) (tz : (ez == 0) = false) (t5 : (pn : Int) = p) (t6 : p - (n : Int) = (d : Int)) (t7 : IntKind.i64.wrap (d : Int) = (d : Int)) :
    Calls Try.prog 9 #[.agg #[.int .i64 len, .slice A N c], .int .i64 i, .int .i64 p] w fun e w' => e = .returned (.bool true) ∧ Below w.heap.size w w' := by
  go_enter Try.func9, Try.ntmps9
  go_wp2_with fail
  refine (HS.out _ (one_below w _)).mono ?_
  rintro e w1_ ⟨rfl, Bq⟩
  rw [World.size_alloc] at Bq
  have Sq : Below w.heap.size w w1_ := (one_below w _).trans (Bq.mono (by omega))
  have zb : w.heap.size < w1_.heap.size := by have := Bq.size; rw [World.size_alloc] at this; omega
  obtain ⟨pb, qb⟩ := boxT_at Bq
  have HB : Hid (Below w.heap.size w w1_) := Sq
  clear Bq Sq
  go_wp2_with fail
  refine (HZ.out _ HB.out).mono ?_
  rintro e w2_ ⟨rfl, Bq⟩
  have Sq : Below w1_.heap.size w1_ w2_ := Bq
  replace pb := (Sq.cell (p := ⟨w.heap.size, 0, none⟩) zb).trans pb
  replace qb := (Sq.cell (p := ⟨w.heap.size, 1, none⟩) zb).trans qb
  replace zb : w.heap.size < w2_.heap.size := Nat.lt_of_lt_of_le zb Sq.size
  replace HB : Hid (Below w.heap.size w w2_) := HB.out.trans (Sq.mono HB.out.size)
  clear Bq Sq
  go_wp2_with fail
  refine (rbegun_true _).mono ?_
  rintro e w3_ ⟨rfl, Bq⟩
  have Sq : Below w2_.heap.size w2_ w3_ := Bq
  replace pb := (Sq.cell (p := ⟨w.heap.size, 0, none⟩) zb).trans pb
  replace qb := (Sq.cell (p := ⟨w.heap.size, 1, none⟩) zb).trans qb
  replace zb : w.heap.size < w3_.heap.size := Nat.lt_of_lt_of_le zb Sq.size
  replace HB : Hid (Below w.heap.size w w3_) := HB.out.trans (Sq.mono HB.out.size)
  clear Bq Sq
  go_wp2_with fail
  refine (begun_true _).mono ?_
  rintro e w4_ ⟨rfl, Bq⟩
  have Sq : Below w3_.heap.size w3_ w4_ := Bq
  replace pb := (Sq.cell (p := ⟨w.heap.size, 0, none⟩) zb).trans pb
  replace qb := (Sq.cell (p := ⟨w.heap.size, 1, none⟩) zb).trans qb
  replace zb : w.heap.size < w4_.heap.size := Nat.lt_of_lt_of_le zb Sq.size
  replace HB : Hid (Below w.heap.size w w4_) := HB.out.trans (Sq.mono HB.out.size)
  clear Bq Sq
  go_wp2_with fail
  refine (HR3.out _ HB.out).mono ?_
  rintro e w5_ ⟨rfl, Bq⟩
  have Sq : Below w4_.heap.size w4_ w5_ := Bq
  replace pb := (Sq.cell (p := ⟨w.heap.size, 0, none⟩) zb).trans pb
  replace qb := (Sq.cell (p := ⟨w.heap.size, 1, none⟩) zb).trans qb
  replace zb : w.heap.size < w5_.heap.size := Nat.lt_of_lt_of_le zb Sq.size
  replace HB : Hid (Below w.heap.size w w5_) := HB.out.trans (Sq.mono HB.out.size)
  clear Bq Sq
  go_wp2_with fail
  refine (HG3.out _ HB.out).mono ?_
  rintro e w6_ ⟨rfl, Bq⟩
  have Sq : Below w5_.heap.size w5_ w6_ := Bq
  replace pb := (Sq.cell (p := ⟨w.heap.size, 0, none⟩) zb).trans pb
  replace qb := (Sq.cell (p := ⟨w.heap.size, 1, none⟩) zb).trans qb
  replace zb : w.heap.size < w6_.heap.size := Nat.lt_of_lt_of_le zb Sq.size
  replace HB : Hid (Below w.heap.size w w6_) := HB.out.trans (Sq.mono HB.out.size)
  clear Bq Sq
  go_wp2_with fail
  refine (HS3.out _ HB.out).mono ?_
  rintro e w7_ ⟨rfl, Bq⟩
  have Sq : Below w6_.heap.size w6_ w7_ := Bq
  replace pb := (Sq.cell (p := ⟨w.heap.size, 0, none⟩) zb).trans pb
  replace qb := (Sq.cell (p := ⟨w.heap.size, 1, none⟩) zb).trans qb
  replace zb : w.heap.size < w7_.heap.size := Nat.lt_of_lt_of_le zb Sq.size
  replace HB : Hid (Below w.heap.size w w7_) := HB.out.trans (Sq.mono HB.out.size)
  clear Bq Sq
  have t8 : (((pn : Nat) : Int) == p) = true := by simpa using t5
  clear t5
  go_wp2
  go_ret
  exact ⟨rfl, HB.out⟩
set_option maxHeartbeats 4000000 in
theorem back_01X1 (len : Int) (A : Option Addr) (N c : Nat) (i p es ez eg eh : Int) (s z q nz n bn d pn : Nat) (w : World)
    (HS : Hid (∀ V, Below w.heap.size w V → Calls Try.prog 36 #[.agg #[.int .i64 len, .slice A N c], .int .i64 1, .int .i64 i] V (RkP V 0 es)))
    (HZ : Hid (∀ V, Below w.heap.size w V → Calls Try.prog 36 #[.agg #[.int .i64 len, .slice A N c], .int .i64 0, .int .i64 i] V (RkP V z 0)))
    (HR2 : Hid (∀ V, Below w.heap.size w V → Calls Try.prog 35 #[.agg #[.int .i64 len, .slice A N c], .int .i64 (z : Int)] V (RkP V nz 0)))
    (HG2 : Hid (∀ V, Below w.heap.size w V → Calls Try.prog 47 #[.agg #[.int .i64 len, .slice A N c], .int .i64 (z : Int), .int .i64 1] V fun e w' => e = .returned (.tuple #[.int .u64 (0 : Int), .int .i64 0]) ∧ Below V.heap.size V w'))
    (HR3 : Hid (∀ V, Below w.heap.size w V → Calls Try.prog 35 #[.agg #[.int .i64 len, .slice A N c], .int .i64 p] V (RkP V 0 eg)))
    (HG3 : Hid (∀ V, Below w.heap.size w V → Calls Try.prog 47 #[.agg #[.int .i64 len, .slice A N c], .int .i64 p, .int .i64 1] V fun e w' => e = .returned (.tuple #[.int .u64 (bn : Int), .int .i64 eh]) ∧ Below V.heap.size V w')) (ts : (es == 0) = false) (t2 : (z : Int) - (nz : Int) = i) (t3 : IntKind.i64.wrap i = i) (t4 : wrap64 i = i) (t5 : (eg != 0) = true) :
    Calls Try.prog 9 #[.agg #[.int .i64 len, .slice A N c], .int .i64 i, .int .i64 p] w fun e w' => e = .returned (.bool true) ∧ Below w.heap.size w w' := by
  go_enter Try.func9, Try.ntmps9
  go_wp2_with fail
  refine (HS.out _ (one_below w _)).mono ?_
  rintro e w1_ ⟨rfl, Bq⟩
  rw [World.size_alloc] at Bq
  have Sq : Below w.heap.size w w1_ := (one_below w _).trans (Bq.mono (by omega))
  have zb : w.heap.size < w1_.heap.size := by have := Bq.size; rw [World.size_alloc] at this; omega
  obtain ⟨pb, qb⟩ := boxT_at Bq
  have HB : Hid (Below w.heap.size w w1_) := Sq
  clear Bq Sq
  go_wp2_with fail
  refine (HZ.out _ HB.out).mono ?_
  rintro e w2_ ⟨rfl, Bq⟩
  have Sq : Below w1_.heap.size w1_ w2_ := Bq
  replace pb := (Sq.cell (p := ⟨w.heap.size, 0, none⟩) zb).trans pb
  replace qb := (Sq.cell (p := ⟨w.heap.size, 1, none⟩) zb).trans qb
  replace zb : w.heap.size < w2_.heap.size := Nat.lt_of_lt_of_le zb Sq.size
  replace HB : Hid (Below w.heap.size w w2_) := HB.out.trans (Sq.mono HB.out.size)
  clear Bq Sq
  go_wp2_with fail
  refine (rbegun_true _).mono ?_
  rintro e w3_ ⟨rfl, Bq⟩
  have Sq : Below w2_.heap.size w2_ w3_ := Bq
  replace pb := (Sq.cell (p := ⟨w.heap.size, 0, none⟩) zb).trans pb
  replace qb := (Sq.cell (p := ⟨w.heap.size, 1, none⟩) zb).trans qb
  replace zb : w.heap.size < w3_.heap.size := Nat.lt_of_lt_of_le zb Sq.size
  replace HB : Hid (Below w.heap.size w w3_) := HB.out.trans (Sq.mono HB.out.size)
  clear Bq Sq
  go_wp2_with fail
  refine (begun_true _).mono ?_
  rintro e w4_ ⟨rfl, Bq⟩
  have Sq : Below w3_.heap.size w3_ w4_ := Bq
  replace pb := (Sq.cell (p := ⟨w.heap.size, 0, none⟩) zb).trans pb
  replace qb := (Sq.cell (p := ⟨w.heap.size, 1, none⟩) zb).trans qb
  replace zb : w.heap.size < w4_.heap.size := Nat.lt_of_lt_of_le zb Sq.size
  replace HB : Hid (Below w.heap.size w w4_) := HB.out.trans (Sq.mono HB.out.size)
  clear Bq Sq
  go_wp2_with fail
  refine (HR2.out _ HB.out).mono ?_
  rintro e w5_ ⟨rfl, Bq⟩
  have Sq : Below w4_.heap.size w4_ w5_ := Bq
  replace pb := (Sq.cell (p := ⟨w.heap.size, 0, none⟩) zb).trans pb
  replace qb := (Sq.cell (p := ⟨w.heap.size, 1, none⟩) zb).trans qb
  replace zb : w.heap.size < w5_.heap.size := Nat.lt_of_lt_of_le zb Sq.size
  replace HB : Hid (Below w.heap.size w w5_) := HB.out.trans (Sq.mono HB.out.size)
  clear Bq Sq
  go_wp2_with fail
  refine (HG2.out _ HB.out).mono ?_
  rintro e w6_ ⟨rfl, Bq⟩
  have Sq : Below w5_.heap.size w5_ w6_ := Bq
  replace pb := (Sq.cell (p := ⟨w.heap.size, 0, none⟩) zb).trans pb
  replace qb := (Sq.cell (p := ⟨w.heap.size, 1, none⟩) zb).trans qb
  replace zb : w.heap.size < w6_.heap.size := Nat.lt_of_lt_of_le zb Sq.size
  replace HB : Hid (Below w.heap.size w w6_) := HB.out.trans (Sq.mono HB.out.size)
  clear Bq Sq
  go_wp2_with fail
  refine (HR3.out _ HB.out).mono ?_
  rintro e w7_ ⟨rfl, Bq⟩
  have Sq : Below w6_.heap.size w6_ w7_ := Bq
  replace pb := (Sq.cell (p := ⟨w.heap.size, 0, none⟩) zb).trans pb
  replace qb := (Sq.cell (p := ⟨w.heap.size, 1, none⟩) zb).trans qb
  replace zb : w.heap.size < w7_.heap.size := Nat.lt_of_lt_of_le zb Sq.size
  replace HB : Hid (Below w.heap.size w w7_) := HB.out.trans (Sq.mono HB.out.size)
  clear Bq Sq
  go_wp2_with fail
  refine (HG3.out _ HB.out).mono ?_
  rintro e w8_ ⟨rfl, Bq⟩
  have Sq : Below w7_.heap.size w7_ w8_ := Bq
  replace pb := (Sq.cell (p := ⟨w.heap.size, 0, none⟩) zb).trans pb
  replace qb := (Sq.cell (p := ⟨w.heap.size, 1, none⟩) zb).trans qb
  replace zb : w.heap.size < w8_.heap.size := Nat.lt_of_lt_of_le zb Sq.size
  replace HB : Hid (Below w.heap.size w w8_) := HB.out.trans (Sq.mono HB.out.size)
  clear Bq Sq
  go_wp2
  go_ret
  exact ⟨rfl, HB.out⟩
set_option maxHeartbeats 4000000 in
theorem back_01X2 (len : Int) (A : Option Addr) (N c : Nat) (i p es ez eg eh : Int) (s z q nz n bn d pn : Nat) (w : World)
    (HS : Hid (∀ V, Below w.heap.size w V → Calls Try.prog 36 #[.agg #[.int .i64 len, .slice A N c], .int .i64 1, .int .i64 i] V (RkP V 0 es)))
    (HZ : Hid (∀ V, Below w.heap.size w V → Calls Try.prog 36 #[.agg #[.int .i64 len, .slice A N c], .int .i64 0, .int .i64 i] V (RkP V z 0)))
    (HR2 : Hid (∀ V, Below w.heap.size w V → Calls Try.prog 35 #[.agg #[.int .i64 len, .slice A N c], .int .i64 (z : Int)] V (RkP V nz 0)))
    (HG2 : Hid (∀ V, Below w.heap.size w V → Calls Try.prog 47 #[.agg #[.int .i64 len, .slice A N c], .int .i64 (z : Int), .int .i64 1] V fun e w' => e = .returned (.tuple #[.int .u64 (0 : Int), .int .i64 0]) ∧ Below V.heap.size V w'))
    (HR3 : Hid (∀ V, Below w.heap.size w V → Calls Try.prog 35 #[.agg #[.int .i64 len, .slice A N c], .int .i64 p] V (RkP V n 0)))
    (HG3 : Hid (∀ V, Below w.heap.size w V → Calls Try.prog 47 #[.agg #[.int .i64 len, .slice A N c], .int .i64 p, .int .i64 1] V fun e w' => e = .returned (.tuple #[.int .u64 (bn : Int), .int .i64 eh]) ∧ Below V.heap.size V w')) (ts : (es == 0) = false) (t2 : (z : Int) - (nz : Int) = i) (t3 : IntKind.i64.wrap i = i) (t4 : wrap64 i = i) (t5 : (eh != 0) = true) :
    Calls Try.prog 9 #[.agg #[.int .i64 len, .slice A N c], .int .i64 i, .int .i64 p] w fun e w' => e = .returned (.bool true) ∧ Below w.heap.size w w' := by
  go_enter Try.func9, Try.ntmps9
  go_wp2_with fail
  refine (HS.out _ (one_below w _)).mono ?_
  rintro e w1_ ⟨rfl, Bq⟩
  rw [World.size_alloc] at Bq
  have Sq : Below w.heap.size w w1_ := (one_below w _).trans (Bq.mono (by omega))
  have zb : w.heap.size < w1_.heap.size := by have := Bq.size; rw [World.size_alloc] at this; omega
  obtain ⟨pb, qb⟩ := boxT_at Bq
  have HB : Hid (Below w.heap.size w w1_) := Sq
  clear Bq Sq
  go_wp2_with fail
  refine (HZ.out _ HB.out).mono ?_
  rintro e w2_ ⟨rfl, Bq⟩
  have Sq : Below w1_.heap.size w1_ w2_ := Bq
  replace pb := (Sq.cell (p := ⟨w.heap.size, 0, none⟩) zb).trans pb
  replace qb := (Sq.cell (p := ⟨w.heap.size, 1, none⟩) zb).trans qb
  replace zb : w.heap.size < w2_.heap.size := Nat.lt_of_lt_of_le zb Sq.size
  replace HB : Hid (Below w.heap.size w w2_) := HB.out.trans (Sq.mono HB.out.size)
  clear Bq Sq
  go_wp2_with fail
  refine (rbegun_true _).mono ?_
  rintro e w3_ ⟨rfl, Bq⟩
  have Sq : Below w2_.heap.size w2_ w3_ := Bq
  replace pb := (Sq.cell (p := ⟨w.heap.size, 0, none⟩) zb).trans pb
  replace qb := (Sq.cell (p := ⟨w.heap.size, 1, none⟩) zb).trans qb
  replace zb : w.heap.size < w3_.heap.size := Nat.lt_of_lt_of_le zb Sq.size
  replace HB : Hid (Below w.heap.size w w3_) := HB.out.trans (Sq.mono HB.out.size)
  clear Bq Sq
  go_wp2_with fail
  refine (begun_true _).mono ?_
  rintro e w4_ ⟨rfl, Bq⟩
  have Sq : Below w3_.heap.size w3_ w4_ := Bq
  replace pb := (Sq.cell (p := ⟨w.heap.size, 0, none⟩) zb).trans pb
  replace qb := (Sq.cell (p := ⟨w.heap.size, 1, none⟩) zb).trans qb
  replace zb : w.heap.size < w4_.heap.size := Nat.lt_of_lt_of_le zb Sq.size
  replace HB : Hid (Below w.heap.size w w4_) := HB.out.trans (Sq.mono HB.out.size)
  clear Bq Sq
  go_wp2_with fail
  refine (HR2.out _ HB.out).mono ?_
  rintro e w5_ ⟨rfl, Bq⟩
  have Sq : Below w4_.heap.size w4_ w5_ := Bq
  replace pb := (Sq.cell (p := ⟨w.heap.size, 0, none⟩) zb).trans pb
  replace qb := (Sq.cell (p := ⟨w.heap.size, 1, none⟩) zb).trans qb
  replace zb : w.heap.size < w5_.heap.size := Nat.lt_of_lt_of_le zb Sq.size
  replace HB : Hid (Below w.heap.size w w5_) := HB.out.trans (Sq.mono HB.out.size)
  clear Bq Sq
  go_wp2_with fail
  refine (HG2.out _ HB.out).mono ?_
  rintro e w6_ ⟨rfl, Bq⟩
  have Sq : Below w5_.heap.size w5_ w6_ := Bq
  replace pb := (Sq.cell (p := ⟨w.heap.size, 0, none⟩) zb).trans pb
  replace qb := (Sq.cell (p := ⟨w.heap.size, 1, none⟩) zb).trans qb
  replace zb : w.heap.size < w6_.heap.size := Nat.lt_of_lt_of_le zb Sq.size
  replace HB : Hid (Below w.heap.size w w6_) := HB.out.trans (Sq.mono HB.out.size)
  clear Bq Sq
  go_wp2_with fail
  refine (HR3.out _ HB.out).mono ?_
  rintro e w7_ ⟨rfl, Bq⟩
  have Sq : Below w6_.heap.size w6_ w7_ := Bq
  replace pb := (Sq.cell (p := ⟨w.heap.size, 0, none⟩) zb).trans pb
  replace qb := (Sq.cell (p := ⟨w.heap.size, 1, none⟩) zb).trans qb
  replace zb : w.heap.size < w7_.heap.size := Nat.lt_of_lt_of_le zb Sq.size
  replace HB : Hid (Below w.heap.size w w7_) := HB.out.trans (Sq.mono HB.out.size)
  clear Bq Sq
  go_wp2_with fail
  refine (HG3.out _ HB.out).mono ?_
  rintro e w8_ ⟨rfl, Bq⟩
  have Sq : Below w7_.heap.size w7_ w8_ := Bq
  replace pb := (Sq.cell (p := ⟨w.heap.size, 0, none⟩) zb).trans pb
  replace qb := (Sq.cell (p := ⟨w.heap.size, 1, none⟩) zb).trans qb
  replace zb : w.heap.size < w8_.heap.size := Nat.lt_of_lt_of_le zb Sq.size
  replace HB : Hid (Below w.heap.size w w8_) := HB.out.trans (Sq.mono HB.out.size)
  clear Bq Sq
  go_wp2
  go_ret
  exact ⟨rfl, HB.out⟩
set_option maxHeartbeats 4000000 in
theorem back_01Y1 (len : Int) (A : Option Addr) (N c : Nat) (i p es ez eg eh : Int) (s z q nz n bn d pn : Nat) (w : World)
    (HS : Hid (∀ V, Below w.heap.size w V → Calls Try.prog 36 #[.agg #[.int .i64 len, .slice A N c], .int .i64 1, .int .i64 i] V (RkP V 0 es)))
    (HZ : Hid (∀ V, Below w.heap.size w V → Calls Try.prog 36 #[.agg #[.int .i64 len, .slice A N c], .int .i64 0, .int .i64 i] V (RkP V z 0)))
    (HR2 : Hid (∀ V, Below w.heap.size w V → Calls Try.prog 35 #[.agg #[.int .i64 len, .slice A N c], .int .i64 (z : Int)] V (RkP V nz 0)))
    (HG2 : Hid (∀ V, Below w.heap.size w V → Calls Try.prog 47 #[.agg #[.int .i64 len, .slice A N c], .int .i64 (z : Int), .int .i64 1] V fun e w' => e = .returned (.tuple #[.int .u64 (0 : Int), .int .i64 0]) ∧ Below V.heap.size V w'))
    (HR3 : Hid (∀ V, Below w.heap.size w V → Calls Try.prog 35 #[.agg #[.int .i64 len, .slice A N c], .int .i64 p] V (RkP V n 0)))
    (HG3 : Hid (∀ V, Below w.heap.size w V → Calls Try.prog 47 #[.agg #[.int .i64 len, .slice A N c], .int .i64 p, .int .i64 1] V fun e w' => e = .returned (.tuple #[.int .u64 (1 : Int), .int .i64 0]) ∧ Below V.heap.size V w'))
    (HS3 : Hid (∀ V, Below w.heap.size w V → Calls Try.prog 36 #[.agg #[.int .i64 len, .slice A N c], .int .i64 1, .int .i64 (n : Int)] V (RkP V pn 0))) (ts : (es == 0) = false) (t2 : (z : Int) - (nz : Int) = i) (t3 : IntKind.i64.wrap i = i) (t4 : wrap64 i = i) (t5 : (pn : Int) = p) :
    Calls Try.prog 9 #[.agg #[.int .i64 len, .slice A N c], .int .i64 i, .int .i64 p] w fun e w' => e = .returned (.bool true) ∧ Below w.heap.size w w' := by
  go_enter Try.func9, Try.ntmps9
  go_wp2_with fail
  refine (HS.out _ (one_below w _)).mono ?_
  rintro e w1_ ⟨rfl, Bq⟩
  rw [World.size_alloc] at Bq
  have Sq : Below w.heap.size w w1_ := (one_below w _).trans (Bq.mono (by omega))
  have zb : w.heap.size < w1_.heap.size := by have := Bq.size; rw [World.size_alloc] at this; omega
  obtain ⟨pb, qb⟩ := boxT_at Bq
  have HB : Hid (Below w.heap.size w w1_) := Sq
  clear Bq Sq
  go_wp2_with fail
  refine (HZ.out _ HB.out).mono ?_
  rintro e w2_ ⟨rfl, Bq⟩
  have Sq : Below w1_.heap.size w1_ w2_ := Bq
  replace pb := (Sq.cell (p := ⟨w.heap.size, 0, none⟩) zb).trans pb
  replace qb := (Sq.cell (p := ⟨w.heap.size, 1, none⟩) zb).trans qb
  replace zb : w.heap.size < w2_.heap.size := Nat.lt_of_lt_of_le zb Sq.size
  replace HB : Hid (Below w.heap.size w w2_) := HB.out.trans (Sq.mono HB.out.size)
  clear Bq Sq
  go_wp2_with fail
  refine (rbegun_true _).mono ?_
  rintro e w3_ ⟨rfl, Bq⟩
  have Sq : Below w2_.heap.size w2_ w3_ := Bq
  replace pb := (Sq.cell (p := ⟨w.heap.size, 0, none⟩) zb).trans pb
  replace qb := (Sq.cell (p := ⟨w.heap.size, 1, none⟩) zb).trans qb
  replace zb : w.heap.size < w3_.heap.size := Nat.lt_of_lt_of_le zb Sq.size
  replace HB : Hid (Below w.heap.size w w3_) := HB.out.trans (Sq.mono HB.out.size)
  clear Bq Sq
  go_wp2_with fail
  refine (begun_true _).mono ?_
  rintro e w4_ ⟨rfl, Bq⟩
  have Sq : Below w3_.heap.size w3_ w4_ := Bq
  replace pb := (Sq.cell (p := ⟨w.heap.size, 0, none⟩) zb).trans pb
  replace qb := (Sq.cell (p := ⟨w.heap.size, 1, none⟩) zb).trans qb
  replace zb : w.heap.size < w4_.heap.size := Nat.lt_of_lt_of_le zb Sq.size
  replace HB : Hid (Below w.heap.size w w4_) := HB.out.trans (Sq.mono HB.out.size)
  clear Bq Sq
  go_wp2_with fail
  refine (HR2.out _ HB.out).mono ?_
  rintro e w5_ ⟨rfl, Bq⟩
  have Sq : Below w4_.heap.size w4_ w5_ := Bq
  replace pb := (Sq.cell (p := ⟨w.heap.size, 0, none⟩) zb).trans pb
  replace qb := (Sq.cell (p := ⟨w.heap.size, 1, none⟩) zb).trans qb
  replace zb : w.heap.size < w5_.heap.size := Nat.lt_of_lt_of_le zb Sq.size
  replace HB : Hid (Below w.heap.size w w5_) := HB.out.trans (Sq.mono HB.out.size)
  clear Bq Sq
  go_wp2_with fail
  refine (HG2.out _ HB.out).mono ?_
  rintro e w6_ ⟨rfl, Bq⟩
  have Sq : Below w5_.heap.size w5_ w6_ := Bq
  replace pb := (Sq.cell (p := ⟨w.heap.size, 0, none⟩) zb).trans pb
  replace qb := (Sq.cell (p := ⟨w.heap.size, 1, none⟩) zb).trans qb
  replace zb : w.heap.size < w6_.heap.size := Nat.lt_of_lt_of_le zb Sq.size
  replace HB : Hid (Below w.heap.size w w6_) := HB.out.trans (Sq.mono HB.out.size)
  clear Bq Sq
  go_wp2_with fail
  refine (HR3.out _ HB.out).mono ?_
  rintro e w7_ ⟨rfl, Bq⟩
  have Sq : Below w6_.heap.size w6_ w7_ := Bq
  replace pb := (Sq.cell (p := ⟨w.heap.size, 0, none⟩) zb).trans pb
  replace qb := (Sq.cell (p := ⟨w.heap.size, 1, none⟩) zb).trans qb
  replace zb : w.heap.size < w7_.heap.size := Nat.lt_of_lt_of_le zb Sq.size
  replace HB : Hid (Below w.heap.size w w7_) := HB.out.trans (Sq.mono HB.out.size)
  clear Bq Sq
  go_wp2_with fail
  refine (HG3.out _ HB.out).mono ?_
  rintro e w8_ ⟨rfl, Bq⟩
  have Sq : Below w7_.heap.size w7_ w8_ := Bq
  replace pb := (Sq.cell (p := ⟨w.heap.size, 0, none⟩) zb).trans pb
  replace qb := (Sq.cell (p := ⟨w.heap.size, 1, none⟩) zb).trans qb
  replace zb : w.heap.size < w8_.heap.size := Nat.lt_of_lt_of_le zb Sq.size
  replace HB : Hid (Below w.heap.size w w8_) := HB.out.trans (Sq.mono HB.out.size)
  clear Bq Sq
  go_wp2_with fail
  refine (HS3.out _ HB.out).mono ?_
  rintro e w9_ ⟨rfl, Bq⟩
  have Sq : Below w8_.heap.size w8_ w9_ := Bq
  replace pb := (Sq.cell (p := ⟨w.heap.size, 0, none⟩) zb).trans pb
  replace qb := (Sq.cell (p := ⟨w.heap.size, 1, none⟩) zb).trans qb
  replace zb : w.heap.size < w9_.heap.size := Nat.lt_of_lt_of_le zb Sq.size
  replace HB : Hid (Below w.heap.size w w9_) := HB.out.trans (Sq.mono HB.out.size)
  clear Bq Sq
  have t8 : (((pn : Nat) : Int) == p) = true := by simpa using t5
  clear t5
  go_wp2
  go_ret
  exact ⟨rfl, HB.out⟩
set_option maxHeartbeats 4000000 in
theorem back_01Y0 (len : Int) (A : Option Addr) (N c : Nat) (i p es ez eg eh : Int) (s z q nz n bn d pn : Nat) (w : World)
    (HS : Hid (∀ V, Below w.heap.size w V → Calls Try.prog 36 #[.agg #[.int .i64 len, .slice A N c], .int .i64 1, .int .i64 i] V (RkP V 0 es)))
    (HZ : Hid (∀ V, Below w.heap.size w V → Calls Try.prog 36 #[.agg #[.int .i64 len, .slice A N c], .int .i64 0, .int .i64 i] V (RkP V z 0)))
    (HR2 : Hid (∀ V, Below w.heap.size w V → Calls Try.prog 35 #[.agg #[.int .i64 len, .slice A N c], .int .i64 (z : Int)] V (RkP V nz 0)))
    (HG2 : Hid (∀ V, Below w.heap.size w V → Calls Try.prog 47 #[.agg #[.int .i64 len, .slice A N c], .int .i64 (z : Int), .int .i64 1] V fun e w' => e = .returned (.tuple #[.int .u64 (0 : Int), .int .i64 0]) ∧ Below V.heap.size V w'))
    (HR3 : Hid (∀ V, Below w.heap.size w V → Calls Try.prog 35 #[.agg #[.int .i64 len, .slice A N c], .int .i64 p] V (RkP V n 0)))
    (HG3 : Hid (∀ V, Below w.heap.size w V → Calls Try.prog 47 #[.agg #[.int .i64 len, .slice A N c], .int .i64 p, .int .i64 1] V fun e w' => e = .returned (.tuple #[.int .u64 (0 : Int), .int .i64 0]) ∧ Below V.heap.size V w'))
    (HS3 : Hid (∀ V, Below w.heap.size w V → Calls Try.prog 36 #[.agg #[.int .i64 len, .slice A N c], .int .i64 0, .int .i64 (d : Int)] V (RkP V pn 0))) (ts : (es == 0) = false) (t2 : (z : Int) - (nz : Int) = i) (t3 : IntKind.i64.wrap i = i) (t4 : wrap64 i = i) (t5 : (pn : Int) = p) (t6 : p - (n : Int) = (d : Int)) (t7 : IntKind.i64.wrap (d : Int) = (d : Int)) :
    Calls Try.prog 9 #[.agg #[.int .i64 len, .slice A N c], .int .i64 i, .int .i64 p] w fun e w' => e = .returned (.bool true) ∧ Below w.heap.size w w' := by
  go_enter Try.func9, Try.ntmps9
  go_wp2_with fail
  refine (HS.out _ (one_below w _)).mono ?_
  rintro e w1_ ⟨rfl, Bq⟩
  rw [World.size_alloc] at Bq
  have Sq : Below w.heap.size w w1_ := (one_below w _).trans (Bq.mono (by omega))
  have zb : w.heap.size < w1_.heap.size := by have := Bq.size; rw [World.size_alloc] at this; omega
  obtain ⟨pb, qb⟩ := boxT_at Bq
  have HB : Hid (Below w.heap.size w w1_) := Sq
  clear Bq Sq
  go_wp2_with fail
  refine (HZ.out _ HB.out).mono ?_
  rintro e w2_ ⟨rfl, Bq⟩
  have Sq : Below w1_.heap.size w1_ w2_ := Bq
  replace pb := (Sq.cell (p := ⟨w.heap.size, 0, none⟩) zb).trans pb
  replace qb := (Sq.cell (p := ⟨w.heap.size, 1, none⟩) zb).trans qb
  replace zb : w.heap.size < w2_.heap.size := Nat.lt_of_lt_of_le zb Sq.size
  replace HB : Hid (Below w.heap.size w w2_) := HB.out.trans (Sq.mono HB.out.size)
  clear Bq Sq
  go_wp2_with fail
  refine (rbegun_true _).mono ?_
  rintro e w3_ ⟨rfl, Bq⟩
  have Sq : Below w2_.heap.size w2_ w3_ := Bq
  replace pb := (Sq.cell (p := ⟨w.heap.size, 0, none⟩) zb).trans pb
  replace qb := (Sq.cell (p := ⟨w.heap.size, 1, none⟩) zb).trans qb
  replace zb : w.heap.size < w3_.heap.size := Nat.lt_of_lt_of_le zb Sq.size
  replace HB : Hid (Below w.heap.size w w3_) := HB.out.trans (Sq.mono HB.out.size)
  clear Bq Sq
  go_wp2_with fail
  refine (begun_true _).mono ?_
  rintro e w4_ ⟨rfl, Bq⟩
  have Sq : Below w3_.heap.size w3_ w4_ := Bq
  replace pb := (Sq.cell (p := ⟨w.heap.size, 0, none⟩) zb).trans pb
  replace qb := (Sq.cell (p := ⟨w.heap.size, 1, none⟩) zb).trans qb
  replace zb : w.heap.size < w4_.heap.size := Nat.lt_of_lt_of_le zb Sq.size
  replace HB : Hid (Below w.heap.size w w4_) := HB.out.trans (Sq.mono HB.out.size)
  clear Bq Sq
  go_wp2_with fail
  refine (HR2.out _ HB.out).mono ?_
  rintro e w5_ ⟨rfl, Bq⟩
  have Sq : Below w4_.heap.size w4_ w5_ := Bq
  replace pb := (Sq.cell (p := ⟨w.heap.size, 0, none⟩) zb).trans pb
  replace qb := (Sq.cell (p := ⟨w.heap.size, 1, none⟩) zb).trans qb
  replace zb : w.heap.size < w5_.heap.size := Nat.lt_of_lt_of_le zb Sq.size
  replace HB : Hid (Below w.heap.size w w5_) := HB.out.trans (Sq.mono HB.out.size)
  clear Bq Sq
  go_wp2_with fail
  refine (HG2.out _ HB.out).mono ?_
  rintro e w6_ ⟨rfl, Bq⟩
  have Sq : Below w5_.heap.size w5_ w6_ := Bq
  replace pb := (Sq.cell (p := ⟨w.heap.size, 0, none⟩) zb).trans pb
  replace qb := (Sq.cell (p := ⟨w.heap.size, 1, none⟩) zb).trans qb
  replace zb : w.heap.size < w6_.heap.size := Nat.lt_of_lt_of_le zb Sq.size
  replace HB : Hid (Below w.heap.size w w6_) := HB.out.trans (Sq.mono HB.out.size)
  clear Bq Sq
  go_wp2_with fail
  refine (HR3.out _ HB.out).mono ?_
  rintro e w7_ ⟨rfl, Bq⟩
  have Sq : Below w6_.heap.size w6_ w7_ := Bq
  replace pb := (Sq.cell (p := ⟨w.heap.size, 0, none⟩) zb).trans pb
  replace qb := (Sq.cell (p := ⟨w.heap.size, 1, none⟩) zb).trans qb
  replace zb : w.heap.size < w7_.heap.size := Nat.lt_of_lt_of_le zb Sq.size
  replace HB : Hid (Below w.heap.size w w7_) := HB.out.trans (Sq.mono HB.out.size)
  clear Bq Sq
  go_wp2_with fail
  refine (HG3.out _ HB.out).mono ?_
  rintro e w8_ ⟨rfl, Bq⟩
  have Sq : Below w7_.heap.size w7_ w8_ := Bq
  replace pb := (Sq.cell (p := ⟨w.heap.size, 0, none⟩) zb).trans pb
  replace qb := (Sq.cell (p := ⟨w.heap.size, 1, none⟩) zb).trans qb
  replace zb : w.heap.size < w8_.heap.size := Nat.lt_of_lt_of_le zb Sq.size
  replace HB : Hid (Below w.heap.size w w8_) := HB.out.trans (Sq.mono HB.out.size)
  clear Bq Sq
  go_wp2_with fail
  refine (HS3.out _ HB.out).mono ?_
  rintro e w9_ ⟨rfl, Bq⟩
  have Sq : Below w8_.heap.size w8_ w9_ := Bq
  replace pb := (Sq.cell (p := ⟨w.heap.size, 0, none⟩) zb).trans pb
  replace qb := (Sq.cell (p := ⟨w.heap.size, 1, none⟩) zb).trans qb
  replace zb : w.heap.size < w9_.heap.size := Nat.lt_of_lt_of_le zb Sq.size
  replace HB : Hid (Below w.heap.size w w9_) := HB.out.trans (Sq.mono HB.out.size)
  clear Bq Sq
  have t8 : (((pn : Nat) : Int) == p) = true := by simpa using t5
  clear t5
  go_wp2
  go_ret
  exact ⟨rfl, HB.out⟩
set_option maxHeartbeats 4000000 in
theorem back_10X1 (len : Int) (A : Option Addr) (N c : Nat) (i p es ez eg eh : Int) (s z q nz n bn d pn : Nat) (w : World)
    (HS : Hid (∀ V, Below w.heap.size w V → Calls Try.prog 36 #[.agg #[.int .i64 len, .slice A N c], .int .i64 1, .int .i64 i] V (RkP V s 0)))
    (HZ : Hid (∀ V, Below w.heap.size w V → Calls Try.prog 36 #[.agg #[.int .i64 len, .slice A N c], .int .i64 0, .int .i64 i] V (RkP V 0 ez)))
    (HR1 : Hid (∀ V, Below w.heap.size w V → Calls Try.prog 35 #[.agg #[.int .i64 len, .slice A N c], .int .i64 (s : Int)] V (RkP V q 0)))
    (HG1 : Hid (∀ V, Below w.heap.size w V → Calls Try.prog 47 #[.agg #[.int .i64 len, .slice A N c], .int .i64 (s : Int), .int .i64 1] V fun e w' => e = .returned (.tuple #[.int .u64 (1 : Int), .int .i64 0]) ∧ Below V.heap.size V w'))
    (HR3 : Hid (∀ V, Below w.heap.size w V → Calls Try.prog 35 #[.agg #[.int .i64 len, .slice A N c], .int .i64 p] V (RkP V 0 eg)))
    (HG3 : Hid (∀ V, Below w.heap.size w V → Calls Try.prog 47 #[.agg #[.int .i64 len, .slice A N c], .int .i64 p, .int .i64 1] V fun e w' => e = .returned (.tuple #[.int .u64 (bn : Int), .int .i64 eh]) ∧ Below V.heap.size V w')) (tz : (ez == 0) = false) (t1 : ((q : Int) != i) = false) (t5 : (eg != 0) = true) :
    Calls Try.prog 9 #[.agg #[.int .i64 len, .slice A N c], .int .i64 i, .int .i64 p] w fun e w' => e = .returned (.bool true) ∧ Below w.heap.size w w' := by
  go_enter Try.func9, Try.ntmps9
  go_wp2_with fail
  refine (HS.out _ (one_below w _)).mono ?_
  rintro e w1_ ⟨rfl, Bq⟩
  rw [World.size_alloc] at Bq
  have Sq : Below w.heap.size w w1_ := (one_below w _).trans (Bq.mono (by omega))
  have zb : w.heap.size < w1_.heap.size := by have := Bq.size; rw [World.size_alloc] at this; omega
  obtain ⟨pb, qb⟩ := boxT_at Bq
  have HB : Hid (Below w.heap.size w w1_) := Sq
  clear Bq Sq
  go_wp2_with fail
  refine (HZ.out _ HB.out).mono ?_
  rintro e w2_ ⟨rfl, Bq⟩
  have Sq : Below w1_.heap.size w1_ w2_ := Bq
  replace pb := (Sq.cell (p := ⟨w.heap.size, 0, none⟩) zb).trans pb
  replace qb := (Sq.cell (p := ⟨w.heap.size, 1, none⟩) zb).trans qb
  replace zb : w.heap.size < w2_.heap.size := Nat.lt_of_lt_of_le zb Sq.size
  replace HB : Hid (Below w.heap.size w w2_) := HB.out.trans (Sq.mono HB.out.size)
  clear Bq Sq
  go_wp2_with fail
  refine (rbegun_true _).mono ?_
  rintro e w3_ ⟨rfl, Bq⟩
  have Sq : Below w2_.heap.size w2_ w3_ := Bq
  replace pb := (Sq.cell (p := ⟨w.heap.size, 0, none⟩) zb).trans pb
  replace qb := (Sq.cell (p := ⟨w.heap.size, 1, none⟩) zb).trans qb
  replace zb : w.heap.size < w3_.heap.size := Nat.lt_of_lt_of_le zb Sq.size
  replace HB : Hid (Below w.heap.size w w3_) := HB.out.trans (Sq.mono HB.out.size)
  clear Bq Sq
  go_wp2_with fail
  refine (begun_true _).mono ?_
  rintro e w4_ ⟨rfl, Bq⟩
  have Sq : Below w3_.heap.size w3_ w4_ := Bq
  replace pb := (Sq.cell (p := ⟨w.heap.size, 0, none⟩) zb).trans pb
  replace qb := (Sq.cell (p := ⟨w.heap.size, 1, none⟩) zb).trans qb
  replace zb : w.heap.size < w4_.heap.size := Nat.lt_of_lt_of_le zb Sq.size
  replace HB : Hid (Below w.heap.size w w4_) := HB.out.trans (Sq.mono HB.out.size)
  clear Bq Sq
  go_wp2_with fail
  refine (HR1.out _ HB.out).mono ?_
  rintro e w5_ ⟨rfl, Bq⟩
  have Sq : Below w4_.heap.size w4_ w5_ := Bq
  replace pb := (Sq.cell (p := ⟨w.heap.size, 0, none⟩) zb).trans pb
  replace qb := (Sq.cell (p := ⟨w.heap.size, 1, none⟩) zb).trans qb
  replace zb : w.heap.size < w5_.heap.size := Nat.lt_of_lt_of_le zb Sq.size
  replace HB : Hid (Below w.heap.size w w5_) := HB.out.trans (Sq.mono HB.out.size)
  clear Bq Sq
  go_wp2_with fail
  refine (HG1.out _ HB.out).mono ?_
  rintro e w6_ ⟨rfl, Bq⟩
  have Sq : Below w5_.heap.size w5_ w6_ := Bq
  replace pb := (Sq.cell (p := ⟨w.heap.size, 0, none⟩) zb).trans pb
  replace qb := (Sq.cell (p := ⟨w.heap.size, 1, none⟩) zb).trans qb
  replace zb : w.heap.size < w6_.heap.size := Nat.lt_of_lt_of_le zb Sq.size
  replace HB : Hid (Below w.heap.size w w6_) := HB.out.trans (Sq.mono HB.out.size)
  clear Bq Sq
  go_wp2_with fail
  refine (HR3.out _ HB.out).mono ?_
  rintro e w7_ ⟨rfl, Bq⟩
  have Sq : Below w6_.heap.size w6_ w7_ := Bq
  replace pb := (Sq.cell (p := ⟨w.heap.size, 0, none⟩) zb).trans pb
  replace qb := (Sq.cell (p := ⟨w.heap.size, 1, none⟩) zb).trans qb
  replace zb : w.heap.size < w7_.heap.size := Nat.lt_of_lt_of_le zb Sq.size
  replace HB : Hid (Below w.heap.size w w7_) := HB.out.trans (Sq.mono HB.out.size)
  clear Bq Sq
  go_wp2_with fail
  refine (HG3.out _ HB.out).mono ?_
  rintro e w8_ ⟨rfl, Bq⟩
  have Sq : Below w7_.heap.size w7_ w8_ := Bq
  replace pb := (Sq.cell (p := ⟨w.heap.size, 0, none⟩) zb).trans pb
  replace qb := (Sq.cell (p := ⟨w.heap.size, 1, none⟩) zb).trans qb
  replace zb : w.heap.size < w8_.heap.size := Nat.lt_of_lt_of_le zb Sq.size
  replace HB : Hid (Below w.heap.size w w8_) := HB.out.trans (Sq.mono HB.out.size)
  clear Bq Sq
  go_wp2
  go_ret
  exact ⟨rfl, HB.out⟩
set_option maxHeartbeats 4000000 in
theorem back_10X2 (len : Int) (A : Option Addr) (N c : Nat) (i p es ez eg eh : Int) (s z q nz n bn d pn : Nat) (w : World)
    (HS : Hid (∀ V, Below w.heap.size w V → Calls Try.prog 36 #[.agg #[.int .i64 len, .slice A N c], .int .i64 1, .int .i64 i] V (RkP V s 0)))
    (HZ : Hid (∀ V, Below w.heap.size w V → Calls Try.prog 36 #[.agg #[.int .i64 len, .slice A N c], .int .i64 0, .int .i64 i] V (RkP V 0 ez)))
    (HR1 : Hid (∀ V, Below w.heap.size w V → Calls Try.prog 35 #[.agg #[.int .i64 len, .slice A N c], .int .i64 (s : Int)] V (RkP V q 0)))
    (HG1 : Hid (∀ V, Below w.heap.size w V → Calls Try.prog 47 #[.agg #[.int .i64 len, .slice A N c], .int .i64 (s : Int), .int .i64 1] V fun e w' => e = .returned (.tuple #[.int .u64 (1 : Int), .int .i64 0]) ∧ Below V.heap.size V w'))
    (HR3 : Hid (∀ V, Below w.heap.size w V → Calls Try.prog 35 #[.agg #[.int .i64 len, .slice A N c], .int .i64 p] V (RkP V n 0)))
    (HG3 : Hid (∀ V, Below w.heap.size w V → Calls Try.prog 47 #[.agg #[.int .i64 len, .slice A N c], .int .i64 p, .int .i64 1] V fun e w' => e = .returned (.tuple #[.int .u64 (bn : Int), .int .i64 eh]) ∧ Below V.heap.size V w')) (tz : (ez == 0) = false) (t1 : ((q : Int) != i) = false) (t5 : (eh != 0) = true) :
    Calls Try.prog 9 #[.agg #[.int .i64 len, .slice A N c], .int .i64 i, .int .i64 p] w fun e w' => e = .returned (.bool true) ∧ Below w.heap.size w w' := by
  go_enter Try.func9, Try.ntmps9
  go_wp2_with fail
  refine (HS.out _ (one_below w _)).mono ?_
  rintro e w1_ ⟨rfl, Bq⟩
  rw [World.size_alloc] at Bq
  have Sq : Below w.heap.size w w1_ := (one_below w _).trans (Bq.mono (by omega))
  have zb : w.heap.size < w1_.heap.size := by have := Bq.size; rw [World.size_alloc] at this; omega
  obtain ⟨pb, qb⟩ := boxT_at Bq
  have HB : Hid (Below w.heap.size w w1_) := Sq
  clear Bq Sq
  go_wp2_with fail
  refine (HZ.out _ HB.out).mono ?_
  rintro e w2_ ⟨rfl, Bq⟩
  have Sq : Below w1_.heap.size w1_ w2_ := Bq
  replace pb := (Sq.cell (p := ⟨w.heap.size, 0, none⟩) zb).trans pb
  replace qb := (Sq.cell (p := ⟨w.heap.size, 1, none⟩) zb).trans qb
  replace zb : w.heap.size < w2_.heap.size := Nat.lt_of_lt_of_le zb Sq.size
  replace HB : Hid (Below w.heap.size w w2_) := HB.out.trans (Sq.mono HB.out.size)
  clear Bq Sq
  go_wp2_with fail
  refine (rbegun_true _).mono ?_
  rintro e w3_ ⟨rfl, Bq⟩
  have Sq : Below w2_.heap.size w2_ w3_ := Bq
  replace pb := (Sq.cell (p := ⟨w.heap.size, 0, none⟩) zb).trans pb
  replace qb := (Sq.cell (p := ⟨w.heap.size, 1, none⟩) zb).trans qb
  replace zb : w.heap.size < w3_.heap.size := Nat.lt_of_lt_of_le zb Sq.size
  replace HB : Hid (Below w.heap.size w w3_) := HB.out.trans (Sq.mono HB.out.size)
  clear Bq Sq
  go_wp2_with fail
  refine (begun_true _).mono ?_
  rintro e w4_ ⟨rfl, Bq⟩
  have Sq : Below w3_.heap.size w3_ w4_ := Bq
  replace pb := (Sq.cell (p := ⟨w.heap.size, 0, none⟩) zb).trans pb
  replace qb := (Sq.cell (p := ⟨w.heap.size, 1, none⟩) zb).trans qb
  replace zb : w.heap.size < w4_.heap.size := Nat.lt_of_lt_of_le zb Sq.size
  replace HB : Hid (Below w.heap.size w w4_) := HB.out.trans (Sq.mono HB.out.size)
  clear Bq Sq
  go_wp2_with fail
  refine (HR1.out _ HB.out).mono ?_
  rintro e w5_ ⟨rfl, Bq⟩
  have Sq : Below w4_.heap.size w4_ w5_ := Bq
  replace pb := (Sq.cell (p := ⟨w.heap.size, 0, none⟩) zb).trans pb
  replace qb := (Sq.cell (p := ⟨w.heap.size, 1, none⟩) zb).trans qb
  replace zb : w.heap.size < w5_.heap.size := Nat.lt_of_lt_of_le zb Sq.size
  replace HB : Hid (Below w.heap.size w w5_) := HB.out.trans (Sq.mono HB.out.size)
  clear Bq Sq
  go_wp2_with fail
  refine (HG1.out _ HB.out).mono ?_
  rintro e w6_ ⟨rfl, Bq⟩
  have Sq : Below w5_.heap.size w5_ w6_ := Bq
  replace pb := (Sq.cell (p := ⟨w.heap.size, 0, none⟩) zb).trans pb
  replace qb := (Sq.cell (p := ⟨w.heap.size, 1, none⟩) zb).trans qb
  replace zb : w.heap.size < w6_.heap.size := Nat.lt_of_lt_of_le zb Sq.size
  replace HB : Hid (Below w.heap.size w w6_) := HB.out.trans (Sq.mono HB.out.size)
  clear Bq Sq
  go_wp2_with fail
  refine (HR3.out _ HB.out).mono ?_
  rintro e w7_ ⟨rfl, Bq⟩
  have Sq : Below w6_.heap.size w6_ w7_ := Bq
  replace pb := (Sq.cell (p := ⟨w.heap.size, 0, none⟩) zb).trans pb
  replace qb := (Sq.cell (p := ⟨w.heap.size, 1, none⟩) zb).trans qb
  replace zb : w.heap.size < w7_.heap.size := Nat.lt_of_lt_of_le zb Sq.size
  replace HB : Hid (Below w.heap.size w w7_) := HB.out.trans (Sq.mono HB.out.size)
  clear Bq Sq
  go_wp2_with fail
  refine (HG3.out _ HB.out).mono ?_
  rintro e w8_ ⟨rfl, Bq⟩
  have Sq : Below w7_.heap.size w7_ w8_ := Bq
  replace pb := (Sq.cell (p := ⟨w.heap.size, 0, none⟩) zb).trans pb
  replace qb := (Sq.cell (p := ⟨w.heap.size, 1, none⟩) zb).trans qb
  replace zb : w.heap.size < w8_.heap.size := Nat.lt_of_lt_of_le zb Sq.size
  replace HB : Hid (Below w.heap.size w w8_) := HB.out.trans (Sq.mono HB.out.size)
  clear Bq Sq
  go_wp2
  go_ret
  exact ⟨rfl, HB.out⟩
set_option maxHeartbeats 4000000 in
theorem back_10Y1 (len : Int) (A : Option Addr) (N c : Nat) (i p es ez eg eh : Int) (s z q nz n bn d pn : Nat) (w : World)
    (HS : Hid (∀ V, Below w.heap.size w V → Calls Try.prog 36 #[.agg #[.int .i64 len, .slice A N c], .int .i64 1, .int .i64 i] V (RkP V s 0)))
    (HZ : Hid (∀ V, Below w.heap.size w V → Calls Try.prog 36 #[.agg #[.int .i64 len, .slice A N c], .int .i64 0, .int .i64 i] V (RkP V 0 ez)))
    (HR1 : Hid (∀ V, Below w.heap.size w V → Calls Try.prog 35 #[.agg #[.int .i64 len, .slice A N c], .int .i64 (s : Int)] V (RkP V q 0)))
    (HG1 : Hid (∀ V, Below w.heap.size w V → Calls Try.prog 47 #[.agg #[.int .i64 len, .slice A N c], .int .i64 (s : Int), .int .i64 1] V fun e w' => e = .returned (.tuple #[.int .u64 (1 : Int), .int .i64 0]) ∧ Below V.heap.size V w'))
    (HR3 : Hid (∀ V, Below w.heap.size w V → Calls Try.prog 35 #[.agg #[.int .i64 len, .slice A N c], .int .i64 p] V (RkP V n 0)))
    (HG3 : Hid (∀ V, Below w.heap.size w V → Calls Try.prog 47 #[.agg #[.int .i64 len, .slice A N c], .int .i64 p, .int .i64 1] V fun e w' => e = .returned (.tuple #[.int .u64 (1 : Int), .int .i64 0]) ∧ Below V.heap.size V w'))
    (HS3 : Hid (∀ V, Below w.heap.size w V → Calls Try.prog 36 #[.agg #[.int .i64 len, .slice A N c], .int .i64 1, .int .i64 (n : Int)] V (RkP V pn 0))) (tz : (ez == 0) = false) (t1 : ((q : Int) != i) = false) (t5 : (pn : Int) = p) :
    Calls Try.prog 9 #[.agg #[.int .i64 len, .slice A N c], .int .i64 i, .int .i64 p] w fun e w' => e = .returned (.bool true) ∧ Below w.heap.size w w' := by
  go_enter Try.func9, Try.ntmps9
  go_wp2_with fail
  refine (HS.out _ (one_below w _)).mono ?_
  rintro e w1_ ⟨rfl, Bq⟩
  rw [World.size_alloc] at Bq
  have Sq : Below w.heap.size w w1_ := (one_below w _).trans (Bq.mono (by omega))
  have zb : w.heap.size < w1_.heap.size := by have := Bq.size; rw [World.size_alloc] at this; omega
  obtain ⟨pb, qb⟩ := boxT_at Bq
  have HB : Hid (Below w.heap.size w w1_) := Sq
  clear Bq Sq
  go_wp2_with fail
  refine (HZ.out _ HB.out).mono ?_
  rintro e w2_ ⟨rfl, Bq⟩
  have Sq : Below w1_.heap.size w1_ w2_ := Bq
  replace pb := (Sq.cell (p := ⟨w.heap.size, 0, none⟩) zb).trans pb
  replace qb := (Sq.cell (p := ⟨w.heap.size, 1, none⟩) zb).trans qb
  replace zb : w.heap.size < w2_.heap.size := Nat.lt_of_lt_of_le zb Sq.size
  replace HB : Hid (Below w.heap.size w w2_) := HB.out.trans (Sq.mono HB.out.size)
  clear Bq Sq
  go_wp2_with fail
  refine (rbegun_true _).mono ?_
  rintro e w3_ ⟨rfl, Bq⟩
  have Sq : Below w2_.heap.size w2_ w3_ := Bq
  replace pb := (Sq.cell (p := ⟨w.heap.size, 0, none⟩) zb).trans pb
  replace qb := (Sq.cell (p := ⟨w.heap.size, 1, none⟩) zb).trans qb
  replace zb : w.heap.size < w3_.heap.size := Nat.lt_of_lt_of_le zb Sq.size
  replace HB : Hid (Below w.heap.size w w3_) := HB.out.trans (Sq.mono HB.out.size)
  clear Bq Sq
  go_wp2_with fail
  refine (begun_true _).mono ?_
  rintro e w4_ ⟨rfl, Bq⟩
  have Sq : Below w3_.heap.size w3_ w4_ := Bq
  replace pb := (Sq.cell (p := ⟨w.heap.size, 0, none⟩) zb).trans pb
  replace qb := (Sq.cell (p := ⟨w.heap.size, 1, none⟩) zb).trans qb
  replace zb : w.heap.size < w4_.heap.size := Nat.lt_of_lt_of_le zb Sq.size
  replace HB : Hid (Below w.heap.size w w4_) := HB.out.trans (Sq.mono HB.out.size)
  clear Bq Sq
  go_wp2_with fail
  refine (HR1.out _ HB.out).mono ?_
  rintro e w5_ ⟨rfl, Bq⟩
  have Sq : Below w4_.heap.size w4_ w5_ := Bq
  replace pb := (Sq.cell (p := ⟨w.heap.size, 0, none⟩) zb).trans pb
  replace qb := (Sq.cell (p := ⟨w.heap.size, 1, none⟩) zb).trans qb
  replace zb : w.heap.size < w5_.heap.size := Nat.lt_of_lt_of_le zb Sq.size
  replace HB : Hid (Below w.heap.size w w5_) := HB.out.trans (Sq.mono HB.out.size)
  clear Bq Sq
  go_wp2_with fail
  refine (HG1.out _ HB.out).mono ?_
  rintro e w6_ ⟨rfl, Bq⟩
  have Sq : Below w5_.heap.size w5_ w6_ := Bq
  replace pb := (Sq.cell (p := ⟨w.heap.size, 0, none⟩) zb).trans pb
  replace qb := (Sq.cell (p := ⟨w.heap.size, 1, none⟩) zb).trans qb
  replace zb : w.heap.size < w6_.heap.size := Nat.lt_of_lt_of_le zb Sq.size
  replace HB : Hid (Below w.heap.size w w6_) := HB.out.trans (Sq.mono HB.out.size)
  clear Bq Sq
  go_wp2_with fail
  refine (HR3.out _ HB.out).mono ?_
  rintro e w7_ ⟨rfl, Bq⟩
  have Sq : Below w6_.heap.size w6_ w7_ := Bq
  replace pb := (Sq.cell (p := ⟨w.heap.size, 0, none⟩) zb).trans pb
  replace qb := (Sq.cell (p := ⟨w.heap.size, 1, none⟩) zb).trans qb
  replace zb : w.heap.size < w7_.heap.size := Nat.lt_of_lt_of_le zb Sq.size
  replace HB : Hid (Below w.heap.size w w7_) := HB.out.trans (Sq.mono HB.out.size)
  clear Bq Sq
  go_wp2_with fail
  refine (HG3.out _ HB.out).mono ?_
  rintro e w8_ ⟨rfl, Bq⟩
  have Sq : Below w7_.heap.size w7_ w8_ := Bq
  replace pb := (Sq.cell (p := ⟨w.heap.size, 0, none⟩) zb).trans pb
  replace qb := (Sq.cell (p := ⟨w.heap.size, 1, none⟩) zb).trans qb
  replace zb : w.heap.size < w8_.heap.size := Nat.lt_of_lt_of_le zb Sq.size
  replace HB : Hid (Below w.heap.size w w8_) := HB.out.trans (Sq.mono HB.out.size)
  clear Bq Sq
  go_wp2_with fail
  refine (HS3.out _ HB.out).mono ?_
  rintro e w9_ ⟨rfl, Bq⟩
  have Sq : Below w8_.heap.size w8_ w9_ := Bq
  replace pb := (Sq.cell (p := ⟨w.heap.size, 0, none⟩) zb).trans pb
  replace qb := (Sq.cell (p := ⟨w.heap.size, 1, none⟩) zb).trans qb
  replace zb : w.heap.size < w9_.heap.size := Nat.lt_of_lt_of_le zb Sq.size
  replace HB : Hid (Below w.heap.size w w9_) := HB.out.trans (Sq.mono HB.out.size)
  clear Bq Sq
  have t8 : (((pn : Nat) : Int) == p) = true := by simpa using t5
  clear t5
  go_wp2
  go_ret
  exact ⟨rfl, HB.out⟩
set_option maxHeartbeats 4000000 in
theorem back_10Y0 (len : Int) (A : Option Addr) (N c : Nat) (i p es ez eg eh : Int) (s z q nz n bn d pn : Nat) (w : World)
    (HS : Hid (∀ V, Below w.heap.size w V → Calls Try.prog 36 #[.agg #[.int .i64 len, .slice A N c], .int .i64 1, .int .i64 i] V (RkP V s 0)))
    (HZ : Hid (∀ V, Below w.heap.size w V → Calls Try.prog 36 #[.agg #[.int .i64 len, .slice A N c], .int .i64 0, .int .i64 i] V (RkP V 0 ez)))
    (HR1 : Hid (∀ V, Below w.heap.size w V → Calls Try.prog 35 #[.agg #[.int .i64 len, .slice A N c], .int .i64 (s : Int)] V (RkP V q 0)))
    (HG1 : Hid (∀ V, Below w.heap.size w V → Calls Try.prog 47 #[.agg #[.int .i64 len, .slice A N c], .int .i64 (s : Int), .int .i64 1] V fun e w' => e = .returned (.tuple #[.int .u64 (1 : Int), .int .i64 0]) ∧ Below V.heap.size V w'))
    (HR3 : Hid (∀ V, Below w.heap.size w V → Calls Try.prog 35 #[.agg #[.int .i64 len, .slice A N c], .int .i64 p] V (RkP V n 0)))
    (HG3 : Hid (∀ V, Below w.heap.size w V → Calls Try.prog 47 #[.agg #[.int .i64 len, .slice A N c], .int .i64 p, .int .i64 1] V fun e w' => e = .returned (.tuple #[.int .u64 (0 : Int), .int .i64 0]) ∧ Below V.heap.size V w'))
    (HS3 : Hid (∀ V, Below w.heap.size w V → Calls Try.prog 36 #[.agg #[.int .i64 len, .slice A N c], .int .i64 0, .int .i64 (d : Int)] V (RkP V pn 0))) (tz : (ez == 0) = false) (t1 : ((q : Int) != i) = false) (t5 : (pn : Int) = p) (t6 : p - (n : Int) = (d : Int)) (t7 : IntKind.i64.wrap (d : Int) = (d : Int)) :
    Calls Try.prog 9 #[.agg #[.int .i64 len, .slice A N c], .int .i64 i, .int .i64 p] w fun e w' => e = .returned (.bool true) ∧ Below w.heap.size w w' := by
  go_enter Try.func9, Try.ntmps9
  go_wp2_with fail
  refine (HS.out _ (one_below w _)).mono ?_
  rintro e w1_ ⟨rfl, Bq⟩
  rw [World.size_alloc] at Bq
  have Sq : Below w.heap.size w w1_ := (one_below w _).trans (Bq.mono (by omega))
  have zb : w.heap.size < w1_.heap.size := by have := Bq.size; rw [World.size_alloc] at this; omega
  obtain ⟨pb, qb⟩ := boxT_at Bq
  have HB : Hid (Below w.heap.size w w1_) := Sq
  clear Bq Sq
  go_wp2_with fail
  refine (HZ.out _ HB.out).mono ?_
  rintro e w2_ ⟨rfl, Bq⟩
  have Sq : Below w1_.heap.size w1_ w2_ := Bq
  replace pb := (Sq.cell (p := ⟨w.heap.size, 0, none⟩) zb).trans pb
  replace qb := (Sq.cell (p := ⟨w.heap.size, 1, none⟩) zb).trans qb
  replace zb : w.heap.size < w2_.heap.size := Nat.lt_of_lt_of_le zb Sq.size
  replace HB : Hid (Below w.heap.size w w2_) := HB.out.trans (Sq.mono HB.out.size)
  clear Bq Sq
  go_wp2_with fail
  refine (rbegun_true _).mono ?_
  rintro e w3_ ⟨rfl, Bq⟩
  have Sq : Below w2_.heap.size w2_ w3_ := Bq
  replace pb := (Sq.cell (p := ⟨w.heap.size, 0, none⟩) zb).trans pb
  replace qb := (Sq.cell (p := ⟨w.heap.size, 1, none⟩) zb).trans qb
  replace zb : w.heap.size < w3_.heap.size := Nat.lt_of_lt_of_le zb Sq.size
  replace HB : Hid (Below w.heap.size w w3_) := HB.out.trans (Sq.mono HB.out.size)
  clear Bq Sq
  go_wp2_with fail
  refine (begun_true _).mono ?_
  rintro e w4_ ⟨rfl, Bq⟩
  have Sq : Below w3_.heap.size w3_ w4_ := Bq
  replace pb := (Sq.cell (p := ⟨w.heap.size, 0, none⟩) zb).trans pb
  replace qb := (Sq.cell (p := ⟨w.heap.size, 1, none⟩) zb).trans qb
  replace zb : w.heap.size < w4_.heap.size := Nat.lt_of_lt_of_le zb Sq.size
  replace HB : Hid (Below w.heap.size w w4_) := HB.out.trans (Sq.mono HB.out.size)
  clear Bq Sq
  go_wp2_with fail
  refine (HR1.out _ HB.out).mono ?_
  rintro e w5_ ⟨rfl, Bq⟩
  have Sq : Below w4_.heap.size w4_ w5_ := Bq
  replace pb := (Sq.cell (p := ⟨w.heap.size, 0, none⟩) zb).trans pb
  replace qb := (Sq.cell (p := ⟨w.heap.size, 1, none⟩) zb).trans qb
  replace zb : w.heap.size < w5_.heap.size := Nat.lt_of_lt_of_le zb Sq.size
  replace HB : Hid (Below w.heap.size w w5_) := HB.out.trans (Sq.mono HB.out.size)
  clear Bq Sq
  go_wp2_with fail
  refine (HG1.out _ HB.out).mono ?_
  rintro e w6_ ⟨rfl, Bq⟩
  have Sq : Below w5_.heap.size w5_ w6_ := Bq
  replace pb := (Sq.cell (p := ⟨w.heap.size, 0, none⟩) zb).trans pb
  replace qb := (Sq.cell (p := ⟨w.heap.size, 1, none⟩) zb).trans qb
  replace zb : w.heap.size < w6_.heap.size := Nat.lt_of_lt_of_le zb Sq.size
  replace HB : Hid (Below w.heap.size w w6_) := HB.out.trans (Sq.mono HB.out.size)
  clear Bq Sq
  go_wp2_with fail
  refine (HR3.out _ HB.out).mono ?_
  rintro e w7_ ⟨rfl, Bq⟩
  have Sq : Below w6_.heap.size w6_ w7_ := Bq
  replace pb := (Sq.cell (p := ⟨w.heap.size, 0, none⟩) zb).trans pb
  replace qb := (Sq.cell (p := ⟨w.heap.size, 1, none⟩) zb).trans qb
  replace zb : w.heap.size < w7_.heap.size := Nat.lt_of_lt_of_le zb Sq.size
  replace HB : Hid (Below w.heap.size w w7_) := HB.out.trans (Sq.mono HB.out.size)
  clear Bq Sq
  go_wp2_with fail
  refine (HG3.out _ HB.out).mono ?_
  rintro e w8_ ⟨rfl, Bq⟩
  have Sq : Below w7_.heap.size w7_ w8_ := Bq
  replace pb := (Sq.cell (p := ⟨w.heap.size, 0, none⟩) zb).trans pb
  replace qb := (Sq.cell (p := ⟨w.heap.size, 1, none⟩) zb).trans qb
  replace zb : w.heap.size < w8_.heap.size := Nat.lt_of_lt_of_le zb Sq.size
  replace HB : Hid (Below w.heap.size w w8_) := HB.out.trans (Sq.mono HB.out.size)
  clear Bq Sq
  go_wp2_with fail
  refine (HS3.out _ HB.out).mono ?_
  rintro e w9_ ⟨rfl, Bq⟩
  have Sq : Below w8_.heap.size w8_ w9_ := Bq
  replace pb := (Sq.cell (p := ⟨w.heap.size, 0, none⟩) zb).trans pb
  replace qb := (Sq.cell (p := ⟨w.heap.size, 1, none⟩) zb).trans qb
  replace zb : w.heap.size < w9_.heap.size := Nat.lt_of_lt_of_le zb Sq.size
  replace HB : Hid (Below w.heap.size w w9_) := HB.out.trans (Sq.mono HB.out.size)
  clear Bq Sq
  have t8 : (((pn : Nat) : Int) == p) = true := by simpa using t5
  clear t5
  go_wp2
  go_ret
  exact ⟨rfl, HB.out⟩
set_option maxHeartbeats 4000000 in
theorem back_11X1 (len : Int) (A : Option Addr) (N c : Nat) (i p es ez eg eh : Int) (s z q nz n bn d pn : Nat) (w : World)
    (HS : Hid (∀ V, Below w.heap.size w V → Calls Try.prog 36 #[.agg #[.int .i64 len, .slice A N c], .int .i64 1, .int .i64 i] V (RkP V s 0)))
    (HZ : Hid (∀ V, Below w.heap.size w V → Calls Try.prog 36 #[.agg #[.int .i64 len, .slice A N c], .int .i64 0, .int .i64 i] V (RkP V z 0)))
    (HR1 : Hid (∀ V, Below w.heap.size w V → Calls Try.prog 35 #[.agg #[.int .i64 len, .slice A N c], .int .i64 (s : Int)] V (RkP V q 0)))
    (HG1 : Hid (∀ V, Below w.heap.size w V → Calls Try.prog 47 #[.agg #[.int .i64 len, .slice A N c], .int .i64 (s : Int), .int .i64 1] V fun e w' => e = .returned (.tuple #[.int .u64 (1 : Int), .int .i64 0]) ∧ Below V.heap.size V w'))
    (HR2 : Hid (∀ V, Below w.heap.size w V → Calls Try.prog 35 #[.agg #[.int .i64 len, .slice A N c], .int .i64 (z : Int)] V (RkP V nz 0)))
    (HG2 : Hid (∀ V, Below w.heap.size w V → Calls Try.prog 47 #[.agg #[.int .i64 len, .slice A N c], .int .i64 (z : Int), .int .i64 1] V fun e w' => e = .returned (.tuple #[.int .u64 (0 : Int), .int .i64 0]) ∧ Below V.heap.size V w'))
    (HR3 : Hid (∀ V, Below w.heap.size w V → Calls Try.prog 35 #[.agg #[.int .i64 len, .slice A N c], .int .i64 p] V (RkP V 0 eg)))
    (HG3 : Hid (∀ V, Below w.heap.size w V → Calls Try.prog 47 #[.agg #[.int .i64 len, .slice A N c], .int .i64 p, .int .i64 1] V fun e w' => e = .returned (.tuple #[.int .u64 (bn : Int), .int .i64 eh]) ∧ Below V.heap.size V w')) (t1 : ((q : Int) != i) = false) (t2 : (z : Int) - (nz : Int) = i) (t3 : IntKind.i64.wrap i = i) (t4 : wrap64 i = i) (t5 : (eg != 0) = true) :
    Calls Try.prog 9 #[.agg #[.int .i64 len, .slice A N c], .int .i64 i, .int .i64 p] w fun e w' => e = .returned (.bool true) ∧ Below w.heap.size w w' := by
  go_enter Try.func9, Try.ntmps9
  go_wp2_with fail
  refine (HS.out _ (one_below w _)).mono ?_
  rintro e w1_ ⟨rfl, Bq⟩
  rw [World.size_alloc] at Bq
  have Sq : Below w.heap.size w w1_ := (one_below w _).trans (Bq.mono (by omega))
  have zb : w.heap.size < w1_.heap.size := by have := Bq.size; rw [World.size_alloc] at this; omega
  obtain ⟨pb, qb⟩ := boxT_at Bq
  have HB : Hid (Below w.heap.size w w1_) := Sq
  clear Bq Sq
  go_wp2_with fail
  refine (HZ.out _ HB.out).mono ?_
  rintro e w2_ ⟨rfl, Bq⟩
  have Sq : Below w1_.heap.size w1_ w2_ := Bq
  replace pb := (Sq.cell (p := ⟨w.heap.size, 0, none⟩) zb).trans pb
  replace qb := (Sq.cell (p := ⟨w.heap.size, 1, none⟩) zb).trans qb
  replace zb : w.heap.size < w2_.heap.size := Nat.lt_of_lt_of_le zb Sq.size
  replace HB : Hid (Below w.heap.size w w2_) := HB.out.trans (Sq.mono HB.out.size)
  clear Bq Sq
  go_wp2_with fail
  refine (rbegun_true _).mono ?_
  rintro e w3_ ⟨rfl, Bq⟩
  have Sq : Below w2_.heap.size w2_ w3_ := Bq
  replace pb := (Sq.cell (p := ⟨w.heap.size, 0, none⟩) zb).trans pb
  replace qb := (Sq.cell (p := ⟨w.heap.size, 1, none⟩) zb).trans qb
  replace zb : w.heap.size < w3_.heap.size := Nat.lt_of_lt_of_le zb Sq.size
  replace HB : Hid (Below w.heap.size w w3_) := HB.out.trans (Sq.mono HB.out.size)
  clear Bq Sq
  go_wp2_with fail
  refine (begun_true _).mono ?_
  rintro e w4_ ⟨rfl, Bq⟩
  have Sq : Below w3_.heap.size w3_ w4_ := Bq
  replace pb := (Sq.cell (p := ⟨w.heap.size, 0, none⟩) zb).trans pb
  replace qb := (Sq.cell (p := ⟨w.heap.size, 1, none⟩) zb).trans qb
  replace zb : w.heap.size < w4_.heap.size := Nat.lt_of_lt_of_le zb Sq.size
  replace HB : Hid (Below w.heap.size w w4_) := HB.out.trans (Sq.mono HB.out.size)
  clear Bq Sq
  go_wp2_with fail
  refine (HR1.out _ HB.out).mono ?_
  rintro e w5_ ⟨rfl, Bq⟩
  have Sq : Below w4_.heap.size w4_ w5_ := Bq
  replace pb := (Sq.cell (p := ⟨w.heap.size, 0, none⟩) zb).trans pb
  replace qb := (Sq.cell (p := ⟨w.heap.size, 1, none⟩) zb).trans qb
  replace zb : w.heap.size < w5_.heap.size := Nat.lt_of_lt_of_le zb Sq.size
  replace HB : Hid (Below w.heap.size w w5_) := HB.out.trans (Sq.mono HB.out.size)
  clear Bq Sq
  go_wp2_with fail
  refine (HG1.out _ HB.out).mono ?_
  rintro e w6_ ⟨rfl, Bq⟩
  have Sq : Below w5_.heap.size w5_ w6_ := Bq
  replace pb := (Sq.cell (p := ⟨w.heap.size, 0, none⟩) zb).trans pb
  replace qb := (Sq.cell (p := ⟨w.heap.size, 1, none⟩) zb).trans qb
  replace zb : w.heap.size < w6_.heap.size := Nat.lt_of_lt_of_le zb Sq.size
  replace HB : Hid (Below w.heap.size w w6_) := HB.out.trans (Sq.mono HB.out.size)
  clear Bq Sq
  go_wp2_with fail
  refine (HR2.out _ HB.out).mono ?_
  rintro e w7_ ⟨rfl, Bq⟩
  have Sq : Below w6_.heap.size w6_ w7_ := Bq
  replace pb := (Sq.cell (p := ⟨w.heap.size, 0, none⟩) zb).trans pb
  replace qb := (Sq.cell (p := ⟨w.heap.size, 1, none⟩) zb).trans qb
  replace zb : w.heap.size < w7_.heap.size := Nat.lt_of_lt_of_le zb Sq.size
  replace HB : Hid (Below w.heap.size w w7_) := HB.out.trans (Sq.mono HB.out.size)
  clear Bq Sq
  go_wp2_with fail
  refine (HG2.out _ HB.out).mono ?_
  rintro e w8_ ⟨rfl, Bq⟩
  have Sq : Below w7_.heap.size w7_ w8_ := Bq
  replace pb := (Sq.cell (p := ⟨w.heap.size, 0, none⟩) zb).trans pb
  replace qb := (Sq.cell (p := ⟨w.heap.size, 1, none⟩) zb).trans qb
  replace zb : w.heap.size < w8_.heap.size := Nat.lt_of_lt_of_le zb Sq.size
  replace HB : Hid (Below w.heap.size w w8_) := HB.out.trans (Sq.mono HB.out.size)
  clear Bq Sq
  go_wp2_with fail
  refine (HR3.out _ HB.out).mono ?_
  rintro e w9_ ⟨rfl, Bq⟩
  have Sq : Below w8_.heap.size w8_ w9_ := Bq
  replace pb := (Sq.cell (p := ⟨w.heap.size, 0, none⟩) zb).trans pb
  replace qb := (Sq.cell (p := ⟨w.heap.size, 1, none⟩) zb).trans qb
  replace zb : w.heap.size < w9_.heap.size := Nat.lt_of_lt_of_le zb Sq.size
  replace HB : Hid (Below w.heap.size w w9_) := HB.out.trans (Sq.mono HB.out.size)
  clear Bq Sq
  go_wp2_with fail
  refine (HG3.out _ HB.out).mono ?_
  rintro e w10_ ⟨rfl, Bq⟩
  have Sq : Below w9_.heap.size w9_ w10_ := Bq
  replace pb := (Sq.cell (p := ⟨w.heap.size, 0, none⟩) zb).trans pb
  replace qb := (Sq.cell (p := ⟨w.heap.size, 1, none⟩) zb).trans qb
  replace zb : w.heap.size < w10_.heap.size := Nat.lt_of_lt_of_le zb Sq.size
  replace HB : Hid (Below w.heap.size w w10_) := HB.out.trans (Sq.mono HB.out.size)
  clear Bq Sq
  go_wp2
  go_ret
  exact ⟨rfl, HB.out⟩
set_option maxHeartbeats 4000000 in
theorem back_11X2 (len : Int) (A : Option Addr) (N c : Nat) (i p es ez eg eh : Int) (s z q nz n bn d pn : Nat) (w : World)
    (HS : Hid (∀ V, Below w.heap.size w V → Calls Try.prog 36 #[.agg #[.int .i64 len, .slice A N c], .int .i64 1, .int .i64 i] V (RkP V s 0)))
    (HZ : Hid (∀ V, Below w.heap.size w V → Calls Try.prog 36 #[.agg #[.int .i64 len, .slice A N c], .int .i64 0, .int .i64 i] V (RkP V z 0)))
    (HR1 : Hid (∀ V, Below w.heap.size w V → Calls Try.prog 35 #[.agg #[.int .i64 len, .slice A N c], .int .i64 (s : Int)] V (RkP V q 0)))
    (HG1 : Hid (∀ V, Below w.heap.size w V → Calls Try.prog 47 #[.agg #[.int .i64 len, .slice A N c], .int .i64 (s : Int), .int .i64 1] V fun e w' => e = .returned (.tuple #[.int .u64 (1 : Int), .int .i64 0]) ∧ Below V.heap.size V w'))
    (HR2 : Hid (∀ V, Below w.heap.size w V → Calls Try.prog 35 #[.agg #[.int .i64 len, .slice A N c], .int .i64 (z : Int)] V (RkP V nz 0)))
    (HG2 : Hid (∀ V, Below w.heap.size w V → Calls Try.prog 47 #[.agg #[.int .i64 len, .slice A N c], .int .i64 (z : Int), .int .i64 1] V fun e w' => e = .returned (.tuple #[.int .u64 (0 : Int), .int .i64 0]) ∧ Below V.heap.size V w'))
    (HR3 : Hid (∀ V, Below w.heap.size w V → Calls Try.prog 35 #[.agg #[.int .i64 len, .slice A N c], .int .i64 p] V (RkP V n 0)))
    (HG3 : Hid (∀ V, Below w.heap.size w V → Calls Try.prog 47 #[.agg #[.int .i64 len, .slice A N c], .int .i64 p, .int .i64 1] V fun e w' => e = .returned (.tuple #[.int .u64 (bn : Int), .int .i64 eh]) ∧ Below V.heap.size V w')) (t1 : ((q : Int) != i) = false) (t2 : (z : Int) - (nz : Int) = i) (t3 : IntKind.i64.wrap i = i) (t4 : wrap64 i = i) (t5 : (eh != 0) = true) :
    Calls Try.prog 9 #[.agg #[.int .i64 len, .slice A N c], .int .i64 i, .int .i64 p] w fun e w' => e = .returned (.bool true) ∧ Below w.heap.size w w' := by
  go_enter Try.func9, Try.ntmps9
  go_wp2_with fail
  refine (HS.out _ (one_below w _)).mono ?_
  rintro e w1_ ⟨rfl, Bq⟩
  rw [World.size_alloc] at Bq
  have Sq : Below w.heap.size w w1_ := (one_below w _).trans (Bq.mono (by omega))
  have zb : w.heap.size < w1_.heap.size := by have := Bq.size; rw [World.size_alloc] at this; omega
  obtain ⟨pb, qb⟩ := boxT_at Bq
  have HB : Hid (Below w.heap.size w w1_) := Sq
  clear Bq Sq
  go_wp2_with fail
  refine (HZ.out _ HB.out).mono ?_
  rintro e w2_ ⟨rfl, Bq⟩
  have Sq : Below w1_.heap.size w1_ w2_ := Bq
  replace pb := (Sq.cell (p := ⟨w.heap.size, 0, none⟩) zb).trans pb
  replace qb := (Sq.cell (p := ⟨w.heap.size, 1, none⟩) zb).trans qb
  replace zb : w.heap.size < w2_.heap.size := Nat.lt_of_lt_of_le zb Sq.size
  replace HB : Hid (Below w.heap.size w w2_) := HB.out.trans (Sq.mono HB.out.size)
  clear Bq Sq
  go_wp2_with fail
  refine (rbegun_true _).mono ?_
  rintro e w3_ ⟨rfl, Bq⟩
  have Sq : Below w2_.heap.size w2_ w3_ := Bq
  replace pb := (Sq.cell (p := ⟨w.heap.size, 0, none⟩) zb).trans pb
  replace qb := (Sq.cell (p := ⟨w.heap.size, 1, none⟩) zb).trans qb
  replace zb : w.heap.size < w3_.heap.size := Nat.lt_of_lt_of_le zb Sq.size
  replace HB : Hid (Below w.heap.size w w3_) := HB.out.trans (Sq.mono HB.out.size)
  clear Bq Sq
  go_wp2_with fail
  refine (begun_true _).mono ?_
  rintro e w4_ ⟨rfl, Bq⟩
  have Sq : Below w3_.heap.size w3_ w4_ := Bq
  replace pb := (Sq.cell (p := ⟨w.heap.size, 0, none⟩) zb).trans pb
  replace qb := (Sq.cell (p := ⟨w.heap.size, 1, none⟩) zb).trans qb
  replace zb : w.heap.size < w4_.heap.size := Nat.lt_of_lt_of_le zb Sq.size
  replace HB : Hid (Below w.heap.size w w4_) := HB.out.trans (Sq.mono HB.out.size)
  clear Bq Sq
  go_wp2_with fail
  refine (HR1.out _ HB.out).mono ?_
  rintro e w5_ ⟨rfl, Bq⟩
  have Sq : Below w4_.heap.size w4_ w5_ := Bq
  replace pb := (Sq.cell (p := ⟨w.heap.size, 0, none⟩) zb).trans pb
  replace qb := (Sq.cell (p := ⟨w.heap.size, 1, none⟩) zb).trans qb
  replace zb : w.heap.size < w5_.heap.size := Nat.lt_of_lt_of_le zb Sq.size
  replace HB : Hid (Below w.heap.size w w5_) := HB.out.trans (Sq.mono HB.out.size)
  clear Bq Sq
  go_wp2_with fail
  refine (HG1.out _ HB.out).mono ?_
  rintro e w6_ ⟨rfl, Bq⟩
  have Sq : Below w5_.heap.size w5_ w6_ := Bq
  replace pb := (Sq.cell (p := ⟨w.heap.size, 0, none⟩) zb).trans pb
  replace qb := (Sq.cell (p := ⟨w.heap.size, 1, none⟩) zb).trans qb
  replace zb : w.heap.size < w6_.heap.size := Nat.lt_of_lt_of_le zb Sq.size
  replace HB : Hid (Below w.heap.size w w6_) := HB.out.trans (Sq.mono HB.out.size)
  clear Bq Sq
  go_wp2_with fail
  refine (HR2.out _ HB.out).mono ?_
  rintro e w7_ ⟨rfl, Bq⟩
  have Sq : Below w6_.heap.size w6_ w7_ := Bq
  replace pb := (Sq.cell (p := ⟨w.heap.size, 0, none⟩) zb).trans pb
  replace qb := (Sq.cell (p := ⟨w.heap.size, 1, none⟩) zb).trans qb
  replace zb : w.heap.size < w7_.heap.size := Nat.lt_of_lt_of_le zb Sq.size
  replace HB : Hid (Below w.heap.size w w7_) := HB.out.trans (Sq.mono HB.out.size)
  clear Bq Sq
  go_wp2_with fail
  refine (HG2.out _ HB.out).mono ?_
  rintro e w8_ ⟨rfl, Bq⟩
  have Sq : Below w7_.heap.size w7_ w8_ := Bq
  replace pb := (Sq.cell (p := ⟨w.heap.size, 0, none⟩) zb).trans pb
  replace qb := (Sq.cell (p := ⟨w.heap.size, 1, none⟩) zb).trans qb
  replace zb : w.heap.size < w8_.heap.size := Nat.lt_of_lt_of_le zb Sq.size
  replace HB : Hid (Below w.heap.size w w8_) := HB.out.trans (Sq.mono HB.out.size)
  clear Bq Sq
  go_wp2_with fail
  refine (HR3.out _ HB.out).mono ?_
  rintro e w9_ ⟨rfl, Bq⟩
  have Sq : Below w8_.heap.size w8_ w9_ := Bq
  replace pb := (Sq.cell (p := ⟨w.heap.size, 0, none⟩) zb).trans pb
  replace qb := (Sq.cell (p := ⟨w.heap.size, 1, none⟩) zb).trans qb
  replace zb : w.heap.size < w9_.heap.size := Nat.lt_of_lt_of_le zb Sq.size
  replace HB : Hid (Below w.heap.size w w9_) := HB.out.trans (Sq.mono HB.out.size)
  clear Bq Sq
  go_wp2_with fail
  refine (HG3.out _ HB.out).mono ?_
  rintro e w10_ ⟨rfl, Bq⟩
  have Sq : Below w9_.heap.size w9_ w10_ := Bq
  replace pb := (Sq.cell (p := ⟨w.heap.size, 0, none⟩) zb).trans pb
  replace qb := (Sq.cell (p := ⟨w.heap.size, 1, none⟩) zb).trans qb
  replace zb : w.heap.size < w10_.heap.size := Nat.lt_of_lt_of_le zb Sq.size
  replace HB : Hid (Below w.heap.size w w10_) := HB.out.trans (Sq.mono HB.out.size)
  clear Bq Sq
  go_wp2
  go_ret
  exact ⟨rfl, HB.out⟩
set_option maxHeartbeats 4000000 in
theorem back_11Y1 (len : Int) (A : Option Addr) (N c : Nat) (i p es ez eg eh : Int) (s z q nz n bn d pn : Nat) (w : World)
    (HS : Hid (∀ V, Below w.heap.size w V → Calls Try.prog 36 #[.agg #[.int .i64 len, .slice A N c], .int .i64 1, .int .i64 i] V (RkP V s 0)))
    (HZ : Hid (∀ V, Below w.heap.size w V → Calls Try.prog 36 #[.agg #[.int .i64 len, .slice A N c], .int .i64 0, .int .i64 i] V (RkP V z 0)))
    (HR1 : Hid (∀ V, Below w.heap.size w V → Calls Try.prog 35 #[.agg #[.int .i64 len, .slice A N c], .int .i64 (s : Int)] V (RkP V q 0)))
    (HG1 : Hid (∀ V, Below w.heap.size w V → Calls Try.prog 47 #[.agg #[.int .i64 len, .slice A N c], .int .i64 (s : Int), .int .i64 1] V fun e w' => e = .returned (.tuple #[.int .u64 (1 : Int), .int .i64 0]) ∧ Below V.heap.size V w'))
    (HR2 : Hid (∀ V, Below w.heap.size w V → Calls Try.prog 35 #[.agg #[.int .i64 len, .slice A N c], .int .i64 (z : Int)] V (RkP V nz 0)))
    (HG2 : Hid (∀ V, Below w.heap.size w V → Calls Try.prog 47 #[.agg #[.int .i64 len, .slice A N c], .int .i64 (z : Int), .int .i64 1] V fun e w' => e = .returned (.tuple #[.int .u64 (0 : Int), .int .i64 0]) ∧ Below V.heap.size V w'))
    (HR3 : Hid (∀ V, Below w.heap.size w V → Calls Try.prog 35 #[.agg #[.int .i64 len, .slice A N c], .int .i64 p] V (RkP V n 0)))
    (HG3 : Hid (∀ V, Below w.heap.size w V → Calls Try.prog 47 #[.agg #[.int .i64 len, .slice A N c], .int .i64 p, .int .i64 1] V fun e w' => e = .returned (.tuple #[.int .u64 (1 : Int), .int .i64 0]) ∧ Below V.heap.size V w'))
    (HS3 : Hid (∀ V, Below w.heap.size w V → Calls Try.prog 36 #[.agg #[.int .i64 len, .slice A N c], .int .i64 1, .int .i64 (n : Int)] V (RkP V pn 0))) (t1 : ((q : Int) != i) = false) (t2 : (z : Int) - (nz : Int) = i) (t3 : IntKind.i64.wrap i = i) (t4 : wrap64 i = i) (t5 : (pn : Int) = p) :
    Calls Try.prog 9 #[.agg #[.int .i64 len, .slice A N c], .int .i64 i, .int .i64 p] w fun e w' => e = .returned (.bool true) ∧ Below w.heap.size w w' := by
  go_enter Try.func9, Try.ntmps9
  go_wp2_with fail
  refine (HS.out _ (one_below w _)).mono ?_
  rintro e w1_ ⟨rfl, Bq⟩
  rw [World.size_alloc] at Bq
  have Sq : Below w.heap.size w w1_ := (one_below w _).trans (Bq.mono (by omega))
  have zb : w.heap.size < w1_.heap.size := by have := Bq.size; rw [World.size_alloc] at this; omega
  obtain ⟨pb, qb⟩ := boxT_at Bq
  have HB : Hid (Below w.heap.size w w1_) := Sq
  clear Bq Sq
  go_wp2_with fail
  refine (HZ.out _ HB.out).mono ?_
  rintro e w2_ ⟨rfl, Bq⟩
  have Sq : Below w1_.heap.size w1_ w2_ := Bq
  replace pb := (Sq.cell (p := ⟨w.heap.size, 0, none⟩) zb).trans pb
  replace qb := (Sq.cell (p := ⟨w.heap.size, 1, none⟩) zb).trans qb
  replace zb : w.heap.size < w2_.heap.size := Nat.lt_of_lt_of_le zb Sq.size
  replace HB : Hid (Below w.heap.size w w2_) := HB.out.trans (Sq.mono HB.out.size)
  clear Bq Sq
  go_wp2_with fail
  refine (rbegun_true _).mono ?_
  rintro e w3_ ⟨rfl, Bq⟩
  have Sq : Below w2_.heap.size w2_ w3_ := Bq
  replace pb := (Sq.cell (p := ⟨w.heap.size, 0, none⟩) zb).trans pb
  replace qb := (Sq.cell (p := ⟨w.heap.size, 1, none⟩) zb).trans qb
  replace zb : w.heap.size < w3_.heap.size := Nat.lt_of_lt_of_le zb Sq.size
  replace HB : Hid (Below w.heap.size w w3_) := HB.out.trans (Sq.mono HB.out.size)
  clear Bq Sq
  go_wp2_with fail
  refine (begun_true _).mono ?_
  rintro e w4_ ⟨rfl, Bq⟩
  have Sq : Below w3_.heap.size w3_ w4_ := Bq
  replace pb := (Sq.cell (p := ⟨w.heap.size, 0, none⟩) zb).trans pb
  replace qb := (Sq.cell (p := ⟨w.heap.size, 1, none⟩) zb).trans qb
  replace zb : w.heap.size < w4_.heap.size := Nat.lt_of_lt_of_le zb Sq.size
  replace HB : Hid (Below w.heap.size w w4_) := HB.out.trans (Sq.mono HB.out.size)
  clear Bq Sq
  go_wp2_with fail
  refine (HR1.out _ HB.out).mono ?_
  rintro e w5_ ⟨rfl, Bq⟩
  have Sq : Below w4_.heap.size w4_ w5_ := Bq
  replace pb := (Sq.cell (p := ⟨w.heap.size, 0, none⟩) zb).trans pb
  replace qb := (Sq.cell (p := ⟨w.heap.size, 1, none⟩) zb).trans qb
  replace zb : w.heap.size < w5_.heap.size := Nat.lt_of_lt_of_le zb Sq.size
  replace HB : Hid (Below w.heap.size w w5_) := HB.out.trans (Sq.mono HB.out.size)
  clear Bq Sq
  go_wp2_with fail
  refine (HG1.out _ HB.out).mono ?_
  rintro e w6_ ⟨rfl, Bq⟩
  have Sq : Below w5_.heap.size w5_ w6_ := Bq
  replace pb := (Sq.cell (p := ⟨w.heap.size, 0, none⟩) zb).trans pb
  replace qb := (Sq.cell (p := ⟨w.heap.size, 1, none⟩) zb).trans qb
  replace zb : w.heap.size < w6_.heap.size := Nat.lt_of_lt_of_le zb Sq.size
  replace HB : Hid (Below w.heap.size w w6_) := HB.out.trans (Sq.mono HB.out.size)
  clear Bq Sq
  go_wp2_with fail
  refine (HR2.out _ HB.out).mono ?_
  rintro e w7_ ⟨rfl, Bq⟩
  have Sq : Below w6_.heap.size w6_ w7_ := Bq
  replace pb := (Sq.cell (p := ⟨w.heap.size, 0, none⟩) zb).trans pb
  replace qb := (Sq.cell (p := ⟨w.heap.size, 1, none⟩) zb).trans qb
  replace zb : w.heap.size < w7_.heap.size := Nat.lt_of_lt_of_le zb Sq.size
  replace HB : Hid (Below w.heap.size w w7_) := HB.out.trans (Sq.mono HB.out.size)
  clear Bq Sq
  go_wp2_with fail
  refine (HG2.out _ HB.out).mono ?_
  rintro e w8_ ⟨rfl, Bq⟩
  have Sq : Below w7_.heap.size w7_ w8_ := Bq
  replace pb := (Sq.cell (p := ⟨w.heap.size, 0, none⟩) zb).trans pb
  replace qb := (Sq.cell (p := ⟨w.heap.size, 1, none⟩) zb).trans qb
  replace zb : w.heap.size < w8_.heap.size := Nat.lt_of_lt_of_le zb Sq.size
  replace HB : Hid (Below w.heap.size w w8_) := HB.out.trans (Sq.mono HB.out.size)
  clear Bq Sq
  go_wp2_with fail
  refine (HR3.out _ HB.out).mono ?_
  rintro e w9_ ⟨rfl, Bq⟩
  have Sq : Below w8_.heap.size w8_ w9_ := Bq
  replace pb := (Sq.cell (p := ⟨w.heap.size, 0, none⟩) zb).trans pb
  replace qb := (Sq.cell (p := ⟨w.heap.size, 1, none⟩) zb).trans qb
  replace zb : w.heap.size < w9_.heap.size := Nat.lt_of_lt_of_le zb Sq.size
  replace HB : Hid (Below w.heap.size w w9_) := HB.out.trans (Sq.mono HB.out.size)
  clear Bq Sq
  go_wp2_with fail
  refine (HG3.out _ HB.out).mono ?_
  rintro e w10_ ⟨rfl, Bq⟩
  have Sq : Below w9_.heap.size w9_ w10_ := Bq
  replace pb := (Sq.cell (p := ⟨w.heap.size, 0, none⟩) zb).trans pb
  replace qb := (Sq.cell (p := ⟨w.heap.size, 1, none⟩) zb).trans qb
  replace zb : w.heap.size < w10_.heap.size := Nat.lt_of_lt_of_le zb Sq.size
  replace HB : Hid (Below w.heap.size w w10_) := HB.out.trans (Sq.mono HB.out.size)
  clear Bq Sq
  go_wp2_with fail
  refine (HS3.out _ HB.out).mono ?_
  rintro e w11_ ⟨rfl, Bq⟩
  have Sq : Below w10_.heap.size w10_ w11_ := Bq
  replace pb := (Sq.cell (p := ⟨w.heap.size, 0, none⟩) zb).trans pb
  replace qb := (Sq.cell (p := ⟨w.heap.size, 1, none⟩) zb).trans qb
  replace zb : w.heap.size < w11_.heap.size := Nat.lt_of_lt_of_le zb Sq.size
  replace HB : Hid (Below w.heap.size w w11_) := HB.out.trans (Sq.mono HB.out.size)
  clear Bq Sq
  have t8 : (((pn : Nat) : Int) == p) = true := by simpa using t5
  clear t5
  go_wp2
  go_ret
  exact ⟨rfl, HB.out⟩
set_option maxHeartbeats 4000000 in
theorem back_11Y0 (len : Int) (A : Option Addr) (N c : Nat) (i p es ez eg eh : Int) (s z q nz n bn d pn : Nat) (w : World)
    (HS : Hid (∀ V, Below w.heap.size w V → Calls Try.prog 36 #[.agg #[.int .i64 len, .slice A N c], .int .i64 1, .int .i64 i] V (RkP V s 0)))
    (HZ : Hid (∀ V, Below w.heap.size w V → Calls Try.prog 36 #[.agg #[.int .i64 len, .slice A N c], .int .i64 0, .int .i64 i] V (RkP V z 0)))
    (HR1 : Hid (∀ V, Below w.heap.size w V → Calls Try.prog 35 #[.agg #[.int .i64 len, .slice A N c], .int .i64 (s : Int)] V (RkP V q 0)))
    (HG1 : Hid (∀ V, Below w.heap.size w V → Calls Try.prog 47 #[.agg #[.int .i64 len, .slice A N c], .int .i64 (s : Int), .int .i64 1] V fun e w' => e = .returned (.tuple #[.int .u64 (1 : Int), .int .i64 0]) ∧ Below V.heap.size V w'))
    (HR2 : Hid (∀ V, Below w.heap.size w V → Calls Try.prog 35 #[.agg #[.int .i64 len, .slice A N c], .int .i64 (z : Int)] V (RkP V nz 0)))
    (HG2 : Hid (∀ V, Below w.heap.size w V → Calls Try.prog 47 #[.agg #[.int .i64 len, .slice A N c], .int .i64 (z : Int), .int .i64 1] V fun e w' => e = .returned (.tuple #[.int .u64 (0 : Int), .int .i64 0]) ∧ Below V.heap.size V w'))
    (HR3 : Hid (∀ V, Below w.heap.size w V → Calls Try.prog 35 #[.agg #[.int .i64 len, .slice A N c], .int .i64 p] V (RkP V n 0)))
    (HG3 : Hid (∀ V, Below w.heap.size w V → Calls Try.prog 47 #[.agg #[.int .i64 len, .slice A N c], .int .i64 p, .int .i64 1] V fun e w' => e = .returned (.tuple #[.int .u64 (0 : Int), .int .i64 0]) ∧ Below V.heap.size V w'))
    (HS3 : Hid (∀ V, Below w.heap.size w V → Calls Try.prog 36 #[.agg #[.int .i64 len, .slice A N c], .int .i64 0, .int .i64 (d : Int)] V (RkP V pn 0))) (t1 : ((q : Int) != i) = false) (t2 : (z : Int) - (nz : Int) = i) (t3 : IntKind.i64.wrap i = i) (t4 : wrap64 i = i) (t5 : (pn : Int) = p) (t6 : p - (n : Int) = (d : Int)) (t7 : IntKind.i64.wrap (d : Int) = (d : Int)) :
    Calls Try.prog 9 #[.agg #[.int .i64 len, .slice A N c], .int .i64 i, .int .i64 p] w fun e w' => e = .returned (.bool true) ∧ Below w.heap.size w w' := by
  go_enter Try.func9, Try.ntmps9
  go_wp2_with fail
  refine (HS.out _ (one_below w _)).mono ?_
  rintro e w1_ ⟨rfl, Bq⟩
  rw [World.size_alloc] at Bq
  have Sq : Below w.heap.size w w1_ := (one_below w _).trans (Bq.mono (by omega))
  have zb : w.heap.size < w1_.heap.size := by have := Bq.size; rw [World.size_alloc] at this; omega
  obtain ⟨pb, qb⟩ := boxT_at Bq
  have HB : Hid (Below w.heap.size w w1_) := Sq
  clear Bq Sq
  go_wp2_with fail
  refine (HZ.out _ HB.out).mono ?_
  rintro e w2_ ⟨rfl, Bq⟩
  have Sq : Below w1_.heap.size w1_ w2_ := Bq
  replace pb := (Sq.cell (p := ⟨w.heap.size, 0, none⟩) zb).trans pb
  replace qb := (Sq.cell (p := ⟨w.heap.size, 1, none⟩) zb).trans qb
  replace zb : w.heap.size < w2_.heap.size := Nat.lt_of_lt_of_le zb Sq.size
  replace HB : Hid (Below w.heap.size w w2_) := HB.out.trans (Sq.mono HB.out.size)
  clear Bq Sq
  go_wp2_with fail
  refine (rbegun_true _).mono ?_
  rintro e w3_ ⟨rfl, Bq⟩
  have Sq : Below w2_.heap.size w2_ w3_ := Bq
  replace pb := (Sq.cell (p := ⟨w.heap.size, 0, none⟩) zb).trans pb
  replace qb := (Sq.cell (p := ⟨w.heap.size, 1, none⟩) zb).trans qb
  replace zb : w.heap.size < w3_.heap.size := Nat.lt_of_lt_of_le zb Sq.size
  replace HB : Hid (Below w.heap.size w w3_) := HB.out.trans (Sq.mono HB.out.size)
  clear Bq Sq
  go_wp2_with fail
  refine (begun_true _).mono ?_
  rintro e w4_ ⟨rfl, Bq⟩
  have Sq : Below w3_.heap.size w3_ w4_ := Bq
  replace pb := (Sq.cell (p := ⟨w.heap.size, 0, none⟩) zb).trans pb
  replace qb := (Sq.cell (p := ⟨w.heap.size, 1, none⟩) zb).trans qb
  replace zb : w.heap.size < w4_.heap.size := Nat.lt_of_lt_of_le zb Sq.size
  replace HB : Hid (Below w.heap.size w w4_) := HB.out.trans (Sq.mono HB.out.size)
  clear Bq Sq
  go_wp2_with fail
  refine (HR1.out _ HB.out).mono ?_
  rintro e w5_ ⟨rfl, Bq⟩
  have Sq : Below w4_.heap.size w4_ w5_ := Bq
  replace pb := (Sq.cell (p := ⟨w.heap.size, 0, none⟩) zb).trans pb
  replace qb := (Sq.cell (p := ⟨w.heap.size, 1, none⟩) zb).trans qb
  replace zb : w.heap.size < w5_.heap.size := Nat.lt_of_lt_of_le zb Sq.size
  replace HB : Hid (Below w.heap.size w w5_) := HB.out.trans (Sq.mono HB.out.size)
  clear Bq Sq
  go_wp2_with fail
  refine (HG1.out _ HB.out).mono ?_
  rintro e w6_ ⟨rfl, Bq⟩
  have Sq : Below w5_.heap.size w5_ w6_ := Bq
  replace pb := (Sq.cell (p := ⟨w.heap.size, 0, none⟩) zb).trans pb
  replace qb := (Sq.cell (p := ⟨w.heap.size, 1, none⟩) zb).trans qb
  replace zb : w.heap.size < w6_.heap.size := Nat.lt_of_lt_of_le zb Sq.size
  replace HB : Hid (Below w.heap.size w w6_) := HB.out.trans (Sq.mono HB.out.size)
  clear Bq Sq
  go_wp2_with fail
  refine (HR2.out _ HB.out).mono ?_
  rintro e w7_ ⟨rfl, Bq⟩
  have Sq : Below w6_.heap.size w6_ w7_ := Bq
  replace pb := (Sq.cell (p := ⟨w.heap.size, 0, none⟩) zb).trans pb
  replace qb := (Sq.cell (p := ⟨w.heap.size, 1, none⟩) zb).trans qb
  replace zb : w.heap.size < w7_.heap.size := Nat.lt_of_lt_of_le zb Sq.size
  replace HB : Hid (Below w.heap.size w w7_) := HB.out.trans (Sq.mono HB.out.size)
  clear Bq Sq
  go_wp2_with fail
  refine (HG2.out _ HB.out).mono ?_
  rintro e w8_ ⟨rfl, Bq⟩
  have Sq : Below w7_.heap.size w7_ w8_ := Bq
  replace pb := (Sq.cell (p := ⟨w.heap.size, 0, none⟩) zb).trans pb
  replace qb := (Sq.cell (p := ⟨w.heap.size, 1, none⟩) zb).trans qb
  replace zb : w.heap.size < w8_.heap.size := Nat.lt_of_lt_of_le zb Sq.size
  replace HB : Hid (Below w.heap.size w w8_) := HB.out.trans (Sq.mono HB.out.size)
  clear Bq Sq
  go_wp2_with fail
  refine (HR3.out _ HB.out).mono ?_
  rintro e w9_ ⟨rfl, Bq⟩
  have Sq : Below w8_.heap.size w8_ w9_ := Bq
  replace pb := (Sq.cell (p := ⟨w.heap.size, 0, none⟩) zb).trans pb
  replace qb := (Sq.cell (p := ⟨w.heap.size, 1, none⟩) zb).trans qb
  replace zb : w.heap.size < w9_.heap.size := Nat.lt_of_lt_of_le zb Sq.size
  replace HB : Hid (Below w.heap.size w w9_) := HB.out.trans (Sq.mono HB.out.size)
  clear Bq Sq
  go_wp2_with fail
  refine (HG3.out _ HB.out).mono ?_
  rintro e w10_ ⟨rfl, Bq⟩
  have Sq : Below w9_.heap.size w9_ w10_ := Bq
  replace pb := (Sq.cell (p := ⟨w.heap.size, 0, none⟩) zb).trans pb
  replace qb := (Sq.cell (p := ⟨w.heap.size, 1, none⟩) zb).trans qb
  replace zb : w.heap.size < w10_.heap.size := Nat.lt_of_lt_of_le zb Sq.size
  replace HB : Hid (Below w.heap.size w w10_) := HB.out.trans (Sq.mono HB.out.size)
  clear Bq Sq
  go_wp2_with fail
  refine (HS3.out _ HB.out).mono ?_
  rintro e w11_ ⟨rfl, Bq⟩
  have Sq : Below w10_.heap.size w10_ w11_ := Bq
  replace pb := (Sq.cell (p := ⟨w.heap.size, 0, none⟩) zb).trans pb
  replace qb := (Sq.cell (p := ⟨w.heap.size, 1, none⟩) zb).trans qb
  replace zb : w.heap.size < w11_.heap.size := Nat.lt_of_lt_of_le zb Sq.size
  replace HB : Hid (Below w.heap.size w w11_) := HB.out.trans (Sq.mono HB.out.size)
  clear Bq Sq
  have t8 : (((pn : Nat) : Int) == p) = true := by simpa using t5
  clear t5
  go_wp2
  go_ret
  exact ⟨rfl, HB.out⟩
theorem rankBack_law (len : Int) (A : Option Addr) (c : Nat) (bs : List Nat) (i p : Int) (w : World) (hb : ∀ b ∈ bs, b < 256) (h : Rd w w.heap.size A bs) (hi : -9223372036854775808 ≤ i ∧ i ≤ 9223372036854775807) (hp : -9223372036854775808 ≤ p ∧ p ≤ 9223372036854775807) :
    Calls Try.prog 9 #[.agg #[.int .i64 len, .slice A bs.length c], .int .i64 i, .int .i64 p] w fun e w' => e = .returned (.bool true) ∧ Below w.heap.size w w' := by
  have W1 : IntKind.i64.wrap i = i := by rw [IntKind.wrap_i64]; omega
  have W2 : wrap64 i = i := by unfold wrap64; omega
  rcases selP1 w len A c bs hb h i with ⟨es, ts, HS⟩ | ⟨s, q, n1, hq, HS, HR1, hn1, HG1⟩ <;> rcases selP0 w len A c bs hb h i with ⟨ez, tz, HZ⟩ | ⟨z, q2, nz, hq2, HZ, HR2, hn2, HG2⟩ <;> rcases atP w len A c bs hb h p with ⟨eg, bn, eh, tg, HR3, HG3⟩ | ⟨n, bn, eh, th, HR3, HG3⟩ | ⟨n, pn, tp, HR3, HG3, HS3⟩ | ⟨n, pn, d, tp, td, tw, HR3, HG3, HS3⟩
  · exact back_00X1 len A bs.length c i p es ez eg eh 0 0 0 0 0 bn 0 0 w HS HZ HR3 HG3 ts tz tg
  · exact back_00X2 len A bs.length c i p es ez 0 eh 0 0 0 0 n bn 0 0 w HS HZ HR3 HG3 ts tz th
  · exact back_00Y1 len A bs.length c i p es ez 0 0 0 0 0 0 n 0 0 pn w HS HZ HR3 HG3 HS3 ts tz tp
  · exact back_00Y0 len A bs.length c i p es ez 0 0 0 0 0 0 n 0 d pn w HS HZ HR3 HG3 HS3 ts tz tp td tw
  · exact back_01X1 len A bs.length c i p es 0 eg eh 0 z 0 nz 0 bn 0 0 w HS HZ HR2 HG2 HR3 HG3 ts (by rw [hn2, hq2]) W1 W2 tg
  · exact back_01X2 len A bs.length c i p es 0 0 eh 0 z 0 nz n bn 0 0 w HS HZ HR2 HG2 HR3 HG3 ts (by rw [hn2, hq2]) W1 W2 th
  · exact back_01Y1 len A bs.length c i p es 0 0 0 0 z 0 nz n 0 0 pn w HS HZ HR2 HG2 HR3 HG3 HS3 ts (by rw [hn2, hq2]) W1 W2 tp
  · exact back_01Y0 len A bs.length c i p es 0 0 0 0 z 0 nz n 0 d pn w HS HZ HR2 HG2 HR3 HG3 HS3 ts (by rw [hn2, hq2]) W1 W2 tp td tw
  · exact back_10X1 len A bs.length c i p 0 ez eg eh s 0 n1 0 0 bn 0 0 w HS HZ HR1 HG1 HR3 HG3 tz (by rw [hn1, hq]; simp) tg
  · exact back_10X2 len A bs.length c i p 0 ez 0 eh s 0 n1 0 n bn 0 0 w HS HZ HR1 HG1 HR3 HG3 tz (by rw [hn1, hq]; simp) th
  · exact back_10Y1 len A bs.length c i p 0 ez 0 0 s 0 n1 0 n 0 0 pn w HS HZ HR1 HG1 HR3 HG3 HS3 tz (by rw [hn1, hq]; simp) tp
  · exact back_10Y0 len A bs.length c i p 0 ez 0 0 s 0 n1 0 n 0 d pn w HS HZ HR1 HG1 HR3 HG3 HS3 tz (by rw [hn1, hq]; simp) tp td tw
  · exact back_11X1 len A bs.length c i p 0 0 eg eh s z n1 nz 0 bn 0 0 w HS HZ HR1 HG1 HR2 HG2 HR3 HG3 (by rw [hn1, hq]; simp) (by rw [hn2, hq2]) W1 W2 tg
  · exact back_11X2 len A bs.length c i p 0 0 0 eh s z n1 nz n bn 0 0 w HS HZ HR1 HG1 HR2 HG2 HR3 HG3 (by rw [hn1, hq]; simp) (by rw [hn2, hq2]) W1 W2 th
  · exact back_11Y1 len A bs.length c i p 0 0 0 0 s z n1 nz n 0 0 pn w HS HZ HR1 HG1 HR2 HG2 HR3 HG3 HS3 (by rw [hn1, hq]; simp) (by rw [hn2, hq2]) W1 W2 tp
  · exact back_11Y0 len A bs.length c i p 0 0 0 0 s z n1 nz n 0 d pn w HS HZ HR1 HG1 HR2 HG2 HR3 HG3 HS3 (by rw [hn1, hq]; simp) (by rw [hn2, hq2]) W1 W2 tp td tw
end Go.Proofs.Ytkbelhclcpepaaa
