/- The law GapsTell: Check, Gaps, Back and Write answer just what the document says; its four ways in letters. -/
import Derived.Test.YthldcdcpflamaaaJGNT
namespace Go.Proofs.Ythldcdcpflamaaa
set_option maxRecDepth 100000
set_option linter.unusedVariables false
open Go.RowKit Go.Shelf

def NumN (w : World) (n : Nat) (l : List Nat) (err : Int) (e : Ending) (w' : World) : Prop :=
  ∃ A c, e = .returned (.tuple #[.slice A n c, .int .i64 err]) ∧ RdV w' w'.heap.size A (nc l) ∧ Below w.heap.size w w'
def IntN (w : World) (n : Nat) (l : List Nat) (err : Int) (e : Ending) (w' : World) : Prop :=
  ∃ A c, e = .returned (.tuple #[.slice A n c, .int .i64 err]) ∧ RdV w' w'.heap.size A (zc (ns l)) ∧ Below w.heap.size w w'

set_option maxHeartbeats 4000000 in
theorem gtell1 (A G : Option Addr) (c d n m : Nat) (cx cg : List Value) (a k rc : Int) (nG nB : Nat) (gl bl : List Nat) (eB lW : Int) (nW : Nat) (bW : List Nat) (eW : Int) (w : World) (hA : RdV w w.heap.size A cx) (hG : RdV w w.heap.size G cg) (t0 : (rc == 0) = false)
    (HGp : Hid (∀ V, RdV V V.heap.size A cx → Calls Try.prog 15 #[.slice A n c, .int .i64 a] V (NumN V nG gl rc)))
    (HBk : Hid (∀ V, RdV V V.heap.size G cg → Calls Try.prog 16 #[.slice G m d, .int .i64 a] V (IntN V nB bl eB)))
    (HW : Hid (∀ V, RdV V V.heap.size A cx → Calls Try.prog 17 #[.slice A n c, .int .i64 a, .int .i64 k] V (Gv V lW nW bW eW)))
    (HRC : Hid (∀ V, RdV V V.heap.size A cx → Calls Try.prog 18 #[.slice A n c] V fun e w' => e = .returned (.int .i64 rc) ∧ Below V.heap.size V w'))
    (HCk : Hid (∀ V, RdV V V.heap.size A cx → Calls Try.prog 23 #[.slice A n c] V fun e w' => e = .returned (.int .i64 rc) ∧ Below V.heap.size V w'))
    (HRB : Hid (∀ V, RdV V V.heap.size G cg → Calls Try.prog 20 #[.slice G m d, .int .i64 a] V (IntN V nB bl eB)))
    (HRW : Hid (∀ V, RdV V V.heap.size A cx → Calls Try.prog 21 #[.slice A n c, .int .i64 a, .int .i64 k] V (Gv V lW nW bW eW)))
    (HSI : Hid (∀ (A1 A2 : Option Addr) (c1 c2 : Nat) (V : World), RdV V V.heap.size A1 (zc (ns bl)) → RdV V V.heap.size A2 (zc (ns bl)) → Calls Try.prog 25 #[.slice A1 nB c1, .slice A2 nB c2] V fun e w' => e = .returned (.bool true) ∧ Below V.heap.size V w'))
    (HSB : Hid (∀ (A1 A2 : Option Addr) (c1 c2 : Nat) (V : World), Rd V V.heap.size A1 bW → Rd V V.heap.size A2 bW → Calls Try.prog 26 #[.agg #[.int .i64 lW, .slice A1 nW c1], .agg #[.int .i64 lW, .slice A2 nW c2]] V fun e w' => e = .returned (.bool true) ∧ Below V.heap.size V w'))
    (HSN : Hid (∀ (A1 : Option Addr) (c1 : Nat) (V : World), RdV V V.heap.size A1 (nc gl) → Calls Try.prog 24 #[.slice A1 nG c1, .slice none 0 0] V fun e w' => e = .returned (.bool true) ∧ Below V.heap.size V w')) :
    Calls Try.prog 3 #[.slice A n c, .slice G m d, .int .i64 a, .int .i64 k] w fun e w' => e = .returned (.bool true) ∧ Below w.heap.size w w' := by
  have HA := Lib.hid hA; have HG := Lib.hid hG
  clear hA hG
  go_enter Try.func3, Try.ntmps3
  go_wp2_with fail
  refine (HGp.out w HA.out).mono ?_
  rintro e w1_ ⟨A1, c1, rfl, Rq, Bq⟩
  have Sq : Below w.heap.size w w1_ := Bq
  replace HA : Hid (RdV w1_ w1_.heap.size A cx) := HA.out.on Sq
  replace HG : Hid (RdV w1_ w1_.heap.size G cg) := HG.out.on Sq
  have HB : Hid (Below w.heap.size w w1_) := Sq
  clear Bq Sq
  have HR1 := Lib.hid Rq; clear Rq
  go_wp2_with fail
  refine (HBk.out w1_ HG.out).mono ?_
  rintro e w2_ ⟨A2, c2, rfl, Rq, Bq⟩
  have Sq : Below w1_.heap.size w1_ w2_ := Bq
  replace HA : Hid (RdV w2_ w2_.heap.size A cx) := HA.out.on Sq
  replace HG : Hid (RdV w2_ w2_.heap.size G cg) := HG.out.on Sq
  replace HR1 : Hid (RdV w2_ w2_.heap.size A1 (nc gl)) := HR1.out.on Sq
  replace HB : Hid (Below w.heap.size w w2_) := HB.out.trans (Sq.mono HB.out.size)
  clear Bq Sq
  have HR2 := Lib.hid Rq; clear Rq
  go_wp2_with fail
  refine (HW.out w2_ HA.out).mono ?_
  rintro e w3_ ⟨A3, c3, rfl, Rq, Bq⟩
  have Sq : Below w2_.heap.size w2_ w3_ := Bq
  replace HA : Hid (RdV w3_ w3_.heap.size A cx) := HA.out.on Sq
  replace HG : Hid (RdV w3_ w3_.heap.size G cg) := HG.out.on Sq
  replace HR1 : Hid (RdV w3_ w3_.heap.size A1 (nc gl)) := HR1.out.on Sq
  replace HR2 : Hid (RdV w3_ w3_.heap.size A2 (zc (ns bl))) := HR2.out.on Sq
  replace HB : Hid (Below w.heap.size w w3_) := HB.out.trans (Sq.mono HB.out.size)
  clear Bq Sq
  have HR3 := Lib.hid Rq; clear Rq
  go_wp2_with fail
  refine (HRC.out _ (HA.out.on (one_below w3_ _))).mono ?_
  rintro e w4_ ⟨rfl, Bq⟩
  rw [World.size_alloc] at Bq
  have Sq : Below w3_.heap.size w3_ w4_ := (one_below w3_ _).trans (Bq.mono (by omega))
  have zu : w3_.heap.size < w4_.heap.size := by have := Bq.size; rw [World.size_alloc] at this; omega
  obtain ⟨pu, qu⟩ := box_at Bq
  replace HA : Hid (RdV w4_ w4_.heap.size A cx) := HA.out.on Sq
  replace HG : Hid (RdV w4_ w4_.heap.size G cg) := HG.out.on Sq
  replace HR1 : Hid (RdV w4_ w4_.heap.size A1 (nc gl)) := HR1.out.on Sq
  replace HR2 : Hid (RdV w4_ w4_.heap.size A2 (zc (ns bl))) := HR2.out.on Sq
  replace HR3 : Hid (Rd w4_ w4_.heap.size A3 bW) := HR3.out.on Sq
  replace HB : Hid (Below w.heap.size w w4_) := HB.out.trans (Sq.mono HB.out.size)
  clear Bq Sq
  go_wp2_with fail
  refine (HRB.out w4_ HG.out).mono ?_
  rintro e w5_ ⟨A5, c5, rfl, Rq, Bq⟩
  have Sq : Below w4_.heap.size w4_ w5_ := Bq
  replace pu := (Sq.cell (p := ⟨w3_.heap.size, 0, none⟩) zu).trans pu
  replace qu := (Sq.cell (p := ⟨w3_.heap.size, 1, none⟩) zu).trans qu
  replace zu : w3_.heap.size < w5_.heap.size := Nat.lt_of_lt_of_le zu Sq.size
  replace HA : Hid (RdV w5_ w5_.heap.size A cx) := HA.out.on Sq
  replace HG : Hid (RdV w5_ w5_.heap.size G cg) := HG.out.on Sq
  replace HR1 : Hid (RdV w5_ w5_.heap.size A1 (nc gl)) := HR1.out.on Sq
  replace HR2 : Hid (RdV w5_ w5_.heap.size A2 (zc (ns bl))) := HR2.out.on Sq
  replace HR3 : Hid (Rd w5_ w5_.heap.size A3 bW) := HR3.out.on Sq
  replace HB : Hid (Below w.heap.size w w5_) := HB.out.trans (Sq.mono HB.out.size)
  clear Bq Sq
  have HR5 := Lib.hid Rq; clear Rq
  go_wp2_with fail
  refine (HRW.out w5_ HA.out).mono ?_
  rintro e w6_ ⟨A6, c6, rfl, Rq, Bq⟩
  have Sq : Below w5_.heap.size w5_ w6_ := Bq
  replace pu := (Sq.cell (p := ⟨w3_.heap.size, 0, none⟩) zu).trans pu
  replace qu := (Sq.cell (p := ⟨w3_.heap.size, 1, none⟩) zu).trans qu
  replace zu : w3_.heap.size < w6_.heap.size := Nat.lt_of_lt_of_le zu Sq.size
  replace HA : Hid (RdV w6_ w6_.heap.size A cx) := HA.out.on Sq
  replace HG : Hid (RdV w6_ w6_.heap.size G cg) := HG.out.on Sq
  replace HR1 : Hid (RdV w6_ w6_.heap.size A1 (nc gl)) := HR1.out.on Sq
  replace HR2 : Hid (RdV w6_ w6_.heap.size A2 (zc (ns bl))) := HR2.out.on Sq
  replace HR3 : Hid (Rd w6_ w6_.heap.size A3 bW) := HR3.out.on Sq
  replace HR5 : Hid (RdV w6_ w6_.heap.size A5 (zc (ns bl))) := HR5.out.on Sq
  replace HB : Hid (Below w.heap.size w w6_) := HB.out.trans (Sq.mono HB.out.size)
  clear Bq Sq
  have HR6 := Lib.hid Rq; clear Rq
  go_wp2_with fail
  refine (gapsbegun_true _).mono ?_
  rintro e w7_ ⟨rfl, Bq⟩
  rw [World.size_alloc] at Bq
  have Sq : Below w6_.heap.size w6_ w7_ := (one_below w6_ _).trans (Bq.mono (by omega))
  have zv : w6_.heap.size < w7_.heap.size := by have := Bq.size; rw [World.size_alloc] at this; omega
  obtain ⟨pv, qv⟩ := box_at Bq
  replace pu := (Sq.cell (p := ⟨w3_.heap.size, 0, none⟩) zu).trans pu
  replace qu := (Sq.cell (p := ⟨w3_.heap.size, 1, none⟩) zu).trans qu
  replace zu : w3_.heap.size < w7_.heap.size := Nat.lt_of_lt_of_le zu Sq.size
  replace HA : Hid (RdV w7_ w7_.heap.size A cx) := HA.out.on Sq
  replace HG : Hid (RdV w7_ w7_.heap.size G cg) := HG.out.on Sq
  replace HR1 : Hid (RdV w7_ w7_.heap.size A1 (nc gl)) := HR1.out.on Sq
  replace HR2 : Hid (RdV w7_ w7_.heap.size A2 (zc (ns bl))) := HR2.out.on Sq
  replace HR3 : Hid (Rd w7_ w7_.heap.size A3 bW) := HR3.out.on Sq
  replace HR5 : Hid (RdV w7_ w7_.heap.size A5 (zc (ns bl))) := HR5.out.on Sq
  replace HR6 : Hid (Rd w7_ w7_.heap.size A6 bW) := HR6.out.on Sq
  replace HB : Hid (Below w.heap.size w w7_) := HB.out.trans (Sq.mono HB.out.size)
  clear Bq Sq
  go_wp2_with fail
  refine (HCk.out w7_ HA.out).mono ?_
  rintro e w8_ ⟨rfl, Bq⟩
  have Sq : Below w7_.heap.size w7_ w8_ := Bq
  replace pu := (Sq.cell (p := ⟨w3_.heap.size, 0, none⟩) zu).trans pu
  replace qu := (Sq.cell (p := ⟨w3_.heap.size, 1, none⟩) zu).trans qu
  replace zu : w3_.heap.size < w8_.heap.size := Nat.lt_of_lt_of_le zu Sq.size
  replace pv := (Sq.cell (p := ⟨w6_.heap.size, 0, none⟩) zv).trans pv
  replace qv := (Sq.cell (p := ⟨w6_.heap.size, 1, none⟩) zv).trans qv
  replace zv : w6_.heap.size < w8_.heap.size := Nat.lt_of_lt_of_le zv Sq.size
  replace HA : Hid (RdV w8_ w8_.heap.size A cx) := HA.out.on Sq
  replace HG : Hid (RdV w8_ w8_.heap.size G cg) := HG.out.on Sq
  replace HR1 : Hid (RdV w8_ w8_.heap.size A1 (nc gl)) := HR1.out.on Sq
  replace HR2 : Hid (RdV w8_ w8_.heap.size A2 (zc (ns bl))) := HR2.out.on Sq
  replace HR3 : Hid (Rd w8_ w8_.heap.size A3 bW) := HR3.out.on Sq
  replace HR5 : Hid (RdV w8_ w8_.heap.size A5 (zc (ns bl))) := HR5.out.on Sq
  replace HR6 : Hid (Rd w8_ w8_.heap.size A6 bW) := HR6.out.on Sq
  replace HB : Hid (Below w.heap.size w w8_) := HB.out.trans (Sq.mono HB.out.size)
  clear Bq Sq
  go_wp2_with fail
  refine (HSN.out A1 c1 w8_ HR1.out).mono ?_
  rintro e w9_ ⟨rfl, Bq⟩
  have Sq : Below w8_.heap.size w8_ w9_ := Bq
  replace pu := (Sq.cell (p := ⟨w3_.heap.size, 0, none⟩) zu).trans pu
  replace qu := (Sq.cell (p := ⟨w3_.heap.size, 1, none⟩) zu).trans qu
  replace zu : w3_.heap.size < w9_.heap.size := Nat.lt_of_lt_of_le zu Sq.size
  replace pv := (Sq.cell (p := ⟨w6_.heap.size, 0, none⟩) zv).trans pv
  replace qv := (Sq.cell (p := ⟨w6_.heap.size, 1, none⟩) zv).trans qv
  replace zv : w6_.heap.size < w9_.heap.size := Nat.lt_of_lt_of_le zv Sq.size
  replace HA : Hid (RdV w9_ w9_.heap.size A cx) := HA.out.on Sq
  replace HG : Hid (RdV w9_ w9_.heap.size G cg) := HG.out.on Sq
  replace HR1 : Hid (RdV w9_ w9_.heap.size A1 (nc gl)) := HR1.out.on Sq
  replace HR2 : Hid (RdV w9_ w9_.heap.size A2 (zc (ns bl))) := HR2.out.on Sq
  replace HR3 : Hid (Rd w9_ w9_.heap.size A3 bW) := HR3.out.on Sq
  replace HR5 : Hid (RdV w9_ w9_.heap.size A5 (zc (ns bl))) := HR5.out.on Sq
  replace HR6 : Hid (Rd w9_ w9_.heap.size A6 bW) := HR6.out.on Sq
  replace HB : Hid (Below w.heap.size w w9_) := HB.out.trans (Sq.mono HB.out.size)
  clear Bq Sq
  go_wp2_with fail
  refine (HSI.out A2 A5 c2 c5 w9_ HR2.out HR5.out).mono ?_
  rintro e w10_ ⟨rfl, Bq⟩
  have Sq : Below w9_.heap.size w9_ w10_ := Bq
  replace pu := (Sq.cell (p := ⟨w3_.heap.size, 0, none⟩) zu).trans pu
  replace qu := (Sq.cell (p := ⟨w3_.heap.size, 1, none⟩) zu).trans qu
  replace zu : w3_.heap.size < w10_.heap.size := Nat.lt_of_lt_of_le zu Sq.size
  replace pv := (Sq.cell (p := ⟨w6_.heap.size, 0, none⟩) zv).trans pv
  replace qv := (Sq.cell (p := ⟨w6_.heap.size, 1, none⟩) zv).trans qv
  replace zv : w6_.heap.size < w10_.heap.size := Nat.lt_of_lt_of_le zv Sq.size
  replace HA : Hid (RdV w10_ w10_.heap.size A cx) := HA.out.on Sq
  replace HG : Hid (RdV w10_ w10_.heap.size G cg) := HG.out.on Sq
  replace HR1 : Hid (RdV w10_ w10_.heap.size A1 (nc gl)) := HR1.out.on Sq
  replace HR2 : Hid (RdV w10_ w10_.heap.size A2 (zc (ns bl))) := HR2.out.on Sq
  replace HR3 : Hid (Rd w10_ w10_.heap.size A3 bW) := HR3.out.on Sq
  replace HR5 : Hid (RdV w10_ w10_.heap.size A5 (zc (ns bl))) := HR5.out.on Sq
  replace HR6 : Hid (Rd w10_ w10_.heap.size A6 bW) := HR6.out.on Sq
  replace HB : Hid (Below w.heap.size w w10_) := HB.out.trans (Sq.mono HB.out.size)
  clear Bq Sq
  go_wp2_with fail
  refine (HSB.out A3 A6 c3 c6 w10_ HR3.out HR6.out).mono ?_
  rintro e w11_ ⟨rfl, Bq⟩
  have Sq : Below w10_.heap.size w10_ w11_ := Bq
  replace pu := (Sq.cell (p := ⟨w3_.heap.size, 0, none⟩) zu).trans pu
  replace qu := (Sq.cell (p := ⟨w3_.heap.size, 1, none⟩) zu).trans qu
  replace zu : w3_.heap.size < w11_.heap.size := Nat.lt_of_lt_of_le zu Sq.size
  replace pv := (Sq.cell (p := ⟨w6_.heap.size, 0, none⟩) zv).trans pv
  replace qv := (Sq.cell (p := ⟨w6_.heap.size, 1, none⟩) zv).trans qv
  replace zv : w6_.heap.size < w11_.heap.size := Nat.lt_of_lt_of_le zv Sq.size
  replace HA : Hid (RdV w11_ w11_.heap.size A cx) := HA.out.on Sq
  replace HG : Hid (RdV w11_ w11_.heap.size G cg) := HG.out.on Sq
  replace HR1 : Hid (RdV w11_ w11_.heap.size A1 (nc gl)) := HR1.out.on Sq
  replace HR2 : Hid (RdV w11_ w11_.heap.size A2 (zc (ns bl))) := HR2.out.on Sq
  replace HR3 : Hid (Rd w11_ w11_.heap.size A3 bW) := HR3.out.on Sq
  replace HR5 : Hid (RdV w11_ w11_.heap.size A5 (zc (ns bl))) := HR5.out.on Sq
  replace HR6 : Hid (Rd w11_ w11_.heap.size A6 bW) := HR6.out.on Sq
  replace HB : Hid (Below w.heap.size w w11_) := HB.out.trans (Sq.mono HB.out.size)
  clear Bq Sq
  go_wp2
  go_ret
  exact ⟨rfl, HB.out⟩

set_option maxHeartbeats 4000000 in
theorem gtell2 (A G : Option Addr) (c d n m : Nat) (cx cg : List Value) (a k : Int) (nG nB : Nat) (gl bl : List Nat) (eB lW : Int) (nW : Nat) (bW : List Nat) (eW : Int) (w : World) (hA : RdV w w.heap.size A cx) (hG : RdV w w.heap.size G cg) (t0 : decide (a < 0) = true)
    (HGp : Hid (∀ V, RdV V V.heap.size A cx → Calls Try.prog 15 #[.slice A n c, .int .i64 a] V (NumN V nG gl 3)))
    (HBk : Hid (∀ V, RdV V V.heap.size G cg → Calls Try.prog 16 #[.slice G m d, .int .i64 a] V (IntN V nB bl eB)))
    (HW : Hid (∀ V, RdV V V.heap.size A cx → Calls Try.prog 17 #[.slice A n c, .int .i64 a, .int .i64 k] V (Gv V lW nW bW eW)))
    (HRC : Hid (∀ V, RdV V V.heap.size A cx → Calls Try.prog 18 #[.slice A n c] V fun e w' => e = .returned (.int .i64 0) ∧ Below V.heap.size V w'))
    (HCk : Hid (∀ V, RdV V V.heap.size A cx → Calls Try.prog 23 #[.slice A n c] V fun e w' => e = .returned (.int .i64 0) ∧ Below V.heap.size V w'))
    (HRB : Hid (∀ V, RdV V V.heap.size G cg → Calls Try.prog 20 #[.slice G m d, .int .i64 a] V (IntN V nB bl eB)))
    (HRW : Hid (∀ V, RdV V V.heap.size A cx → Calls Try.prog 21 #[.slice A n c, .int .i64 a, .int .i64 k] V (Gv V lW nW bW eW)))
    (HSI : Hid (∀ (A1 A2 : Option Addr) (c1 c2 : Nat) (V : World), RdV V V.heap.size A1 (zc (ns bl)) → RdV V V.heap.size A2 (zc (ns bl)) → Calls Try.prog 25 #[.slice A1 nB c1, .slice A2 nB c2] V fun e w' => e = .returned (.bool true) ∧ Below V.heap.size V w'))
    (HSB : Hid (∀ (A1 A2 : Option Addr) (c1 c2 : Nat) (V : World), Rd V V.heap.size A1 bW → Rd V V.heap.size A2 bW → Calls Try.prog 26 #[.agg #[.int .i64 lW, .slice A1 nW c1], .agg #[.int .i64 lW, .slice A2 nW c2]] V fun e w' => e = .returned (.bool true) ∧ Below V.heap.size V w'))
    (HSN : Hid (∀ (A1 : Option Addr) (c1 : Nat) (V : World), RdV V V.heap.size A1 (nc gl) → Calls Try.prog 24 #[.slice A1 nG c1, .slice none 0 0] V fun e w' => e = .returned (.bool true) ∧ Below V.heap.size V w')) :
    Calls Try.prog 3 #[.slice A n c, .slice G m d, .int .i64 a, .int .i64 k] w fun e w' => e = .returned (.bool true) ∧ Below w.heap.size w w' := by
  have HA := Lib.hid hA; have HG := Lib.hid hG
  clear hA hG
  go_enter Try.func3, Try.ntmps3
  go_wp2_with fail
  refine (HGp.out w HA.out).mono ?_
  rintro e w1_ ⟨A1, c1, rfl, Rq, Bq⟩
  have Sq : Below w.heap.size w w1_ := Bq
  replace HA : Hid (RdV w1_ w1_.heap.size A cx) := HA.out.on Sq
  replace HG : Hid (RdV w1_ w1_.heap.size G cg) := HG.out.on Sq
  have HB : Hid (Below w.heap.size w w1_) := Sq
  clear Bq Sq
  have HR1 := Lib.hid Rq; clear Rq
  go_wp2_with fail
  refine (HBk.out w1_ HG.out).mono ?_
  rintro e w2_ ⟨A2, c2, rfl, Rq, Bq⟩
  have Sq : Below w1_.heap.size w1_ w2_ := Bq
  replace HA : Hid (RdV w2_ w2_.heap.size A cx) := HA.out.on Sq
  replace HG : Hid (RdV w2_ w2_.heap.size G cg) := HG.out.on Sq
  replace HR1 : Hid (RdV w2_ w2_.heap.size A1 (nc gl)) := HR1.out.on Sq
  replace HB : Hid (Below w.heap.size w w2_) := HB.out.trans (Sq.mono HB.out.size)
  clear Bq Sq
  have HR2 := Lib.hid Rq; clear Rq
  go_wp2_with fail
  refine (HW.out w2_ HA.out).mono ?_
  rintro e w3_ ⟨A3, c3, rfl, Rq, Bq⟩
  have Sq : Below w2_.heap.size w2_ w3_ := Bq
  replace HA : Hid (RdV w3_ w3_.heap.size A cx) := HA.out.on Sq
  replace HG : Hid (RdV w3_ w3_.heap.size G cg) := HG.out.on Sq
  replace HR1 : Hid (RdV w3_ w3_.heap.size A1 (nc gl)) := HR1.out.on Sq
  replace HR2 : Hid (RdV w3_ w3_.heap.size A2 (zc (ns bl))) := HR2.out.on Sq
  replace HB : Hid (Below w.heap.size w w3_) := HB.out.trans (Sq.mono HB.out.size)
  clear Bq Sq
  have HR3 := Lib.hid Rq; clear Rq
  go_wp2_with fail
  refine (HRC.out _ (HA.out.on (one_below w3_ _))).mono ?_
  rintro e w4_ ⟨rfl, Bq⟩
  rw [World.size_alloc] at Bq
  have Sq : Below w3_.heap.size w3_ w4_ := (one_below w3_ _).trans (Bq.mono (by omega))
  have zu : w3_.heap.size < w4_.heap.size := by have := Bq.size; rw [World.size_alloc] at this; omega
  obtain ⟨pu, qu⟩ := box_at Bq
  replace HA : Hid (RdV w4_ w4_.heap.size A cx) := HA.out.on Sq
  replace HG : Hid (RdV w4_ w4_.heap.size G cg) := HG.out.on Sq
  replace HR1 : Hid (RdV w4_ w4_.heap.size A1 (nc gl)) := HR1.out.on Sq
  replace HR2 : Hid (RdV w4_ w4_.heap.size A2 (zc (ns bl))) := HR2.out.on Sq
  replace HR3 : Hid (Rd w4_ w4_.heap.size A3 bW) := HR3.out.on Sq
  replace HB : Hid (Below w.heap.size w w4_) := HB.out.trans (Sq.mono HB.out.size)
  clear Bq Sq
  go_wp2_with fail
  refine (HRB.out w4_ HG.out).mono ?_
  rintro e w5_ ⟨A5, c5, rfl, Rq, Bq⟩
  have Sq : Below w4_.heap.size w4_ w5_ := Bq
  replace pu := (Sq.cell (p := ⟨w3_.heap.size, 0, none⟩) zu).trans pu
  replace qu := (Sq.cell (p := ⟨w3_.heap.size, 1, none⟩) zu).trans qu
  replace zu : w3_.heap.size < w5_.heap.size := Nat.lt_of_lt_of_le zu Sq.size
  replace HA : Hid (RdV w5_ w5_.heap.size A cx) := HA.out.on Sq
  replace HG : Hid (RdV w5_ w5_.heap.size G cg) := HG.out.on Sq
  replace HR1 : Hid (RdV w5_ w5_.heap.size A1 (nc gl)) := HR1.out.on Sq
  replace HR2 : Hid (RdV w5_ w5_.heap.size A2 (zc (ns bl))) := HR2.out.on Sq
  replace HR3 : Hid (Rd w5_ w5_.heap.size A3 bW) := HR3.out.on Sq
  replace HB : Hid (Below w.heap.size w w5_) := HB.out.trans (Sq.mono HB.out.size)
  clear Bq Sq
  have HR5 := Lib.hid Rq; clear Rq
  go_wp2_with fail
  refine (HRW.out w5_ HA.out).mono ?_
  rintro e w6_ ⟨A6, c6, rfl, Rq, Bq⟩
  have Sq : Below w5_.heap.size w5_ w6_ := Bq
  replace pu := (Sq.cell (p := ⟨w3_.heap.size, 0, none⟩) zu).trans pu
  replace qu := (Sq.cell (p := ⟨w3_.heap.size, 1, none⟩) zu).trans qu
  replace zu : w3_.heap.size < w6_.heap.size := Nat.lt_of_lt_of_le zu Sq.size
  replace HA : Hid (RdV w6_ w6_.heap.size A cx) := HA.out.on Sq
  replace HG : Hid (RdV w6_ w6_.heap.size G cg) := HG.out.on Sq
  replace HR1 : Hid (RdV w6_ w6_.heap.size A1 (nc gl)) := HR1.out.on Sq
  replace HR2 : Hid (RdV w6_ w6_.heap.size A2 (zc (ns bl))) := HR2.out.on Sq
  replace HR3 : Hid (Rd w6_ w6_.heap.size A3 bW) := HR3.out.on Sq
  replace HR5 : Hid (RdV w6_ w6_.heap.size A5 (zc (ns bl))) := HR5.out.on Sq
  replace HB : Hid (Below w.heap.size w w6_) := HB.out.trans (Sq.mono HB.out.size)
  clear Bq Sq
  have HR6 := Lib.hid Rq; clear Rq
  go_wp2_with fail
  refine (gapsbegun_true _).mono ?_
  rintro e w7_ ⟨rfl, Bq⟩
  rw [World.size_alloc] at Bq
  have Sq : Below w6_.heap.size w6_ w7_ := (one_below w6_ _).trans (Bq.mono (by omega))
  have zv : w6_.heap.size < w7_.heap.size := by have := Bq.size; rw [World.size_alloc] at this; omega
  obtain ⟨pv, qv⟩ := box_at Bq
  replace pu := (Sq.cell (p := ⟨w3_.heap.size, 0, none⟩) zu).trans pu
  replace qu := (Sq.cell (p := ⟨w3_.heap.size, 1, none⟩) zu).trans qu
  replace zu : w3_.heap.size < w7_.heap.size := Nat.lt_of_lt_of_le zu Sq.size
  replace HA : Hid (RdV w7_ w7_.heap.size A cx) := HA.out.on Sq
  replace HG : Hid (RdV w7_ w7_.heap.size G cg) := HG.out.on Sq
  replace HR1 : Hid (RdV w7_ w7_.heap.size A1 (nc gl)) := HR1.out.on Sq
  replace HR2 : Hid (RdV w7_ w7_.heap.size A2 (zc (ns bl))) := HR2.out.on Sq
  replace HR3 : Hid (Rd w7_ w7_.heap.size A3 bW) := HR3.out.on Sq
  replace HR5 : Hid (RdV w7_ w7_.heap.size A5 (zc (ns bl))) := HR5.out.on Sq
  replace HR6 : Hid (Rd w7_ w7_.heap.size A6 bW) := HR6.out.on Sq
  replace HB : Hid (Below w.heap.size w w7_) := HB.out.trans (Sq.mono HB.out.size)
  clear Bq Sq
  go_wp2_with fail
  refine (HCk.out w7_ HA.out).mono ?_
  rintro e w8_ ⟨rfl, Bq⟩
  have Sq : Below w7_.heap.size w7_ w8_ := Bq
  replace pu := (Sq.cell (p := ⟨w3_.heap.size, 0, none⟩) zu).trans pu
  replace qu := (Sq.cell (p := ⟨w3_.heap.size, 1, none⟩) zu).trans qu
  replace zu : w3_.heap.size < w8_.heap.size := Nat.lt_of_lt_of_le zu Sq.size
  replace pv := (Sq.cell (p := ⟨w6_.heap.size, 0, none⟩) zv).trans pv
  replace qv := (Sq.cell (p := ⟨w6_.heap.size, 1, none⟩) zv).trans qv
  replace zv : w6_.heap.size < w8_.heap.size := Nat.lt_of_lt_of_le zv Sq.size
  replace HA : Hid (RdV w8_ w8_.heap.size A cx) := HA.out.on Sq
  replace HG : Hid (RdV w8_ w8_.heap.size G cg) := HG.out.on Sq
  replace HR1 : Hid (RdV w8_ w8_.heap.size A1 (nc gl)) := HR1.out.on Sq
  replace HR2 : Hid (RdV w8_ w8_.heap.size A2 (zc (ns bl))) := HR2.out.on Sq
  replace HR3 : Hid (Rd w8_ w8_.heap.size A3 bW) := HR3.out.on Sq
  replace HR5 : Hid (RdV w8_ w8_.heap.size A5 (zc (ns bl))) := HR5.out.on Sq
  replace HR6 : Hid (Rd w8_ w8_.heap.size A6 bW) := HR6.out.on Sq
  replace HB : Hid (Below w.heap.size w w8_) := HB.out.trans (Sq.mono HB.out.size)
  clear Bq Sq
  go_wp2_with fail
  refine (HSN.out A1 c1 w8_ HR1.out).mono ?_
  rintro e w9_ ⟨rfl, Bq⟩
  have Sq : Below w8_.heap.size w8_ w9_ := Bq
  replace pu := (Sq.cell (p := ⟨w3_.heap.size, 0, none⟩) zu).trans pu
  replace qu := (Sq.cell (p := ⟨w3_.heap.size, 1, none⟩) zu).trans qu
  replace zu : w3_.heap.size < w9_.heap.size := Nat.lt_of_lt_of_le zu Sq.size
  replace pv := (Sq.cell (p := ⟨w6_.heap.size, 0, none⟩) zv).trans pv
  replace qv := (Sq.cell (p := ⟨w6_.heap.size, 1, none⟩) zv).trans qv
  replace zv : w6_.heap.size < w9_.heap.size := Nat.lt_of_lt_of_le zv Sq.size
  replace HA : Hid (RdV w9_ w9_.heap.size A cx) := HA.out.on Sq
  replace HG : Hid (RdV w9_ w9_.heap.size G cg) := HG.out.on Sq
  replace HR1 : Hid (RdV w9_ w9_.heap.size A1 (nc gl)) := HR1.out.on Sq
  replace HR2 : Hid (RdV w9_ w9_.heap.size A2 (zc (ns bl))) := HR2.out.on Sq
  replace HR3 : Hid (Rd w9_ w9_.heap.size A3 bW) := HR3.out.on Sq
  replace HR5 : Hid (RdV w9_ w9_.heap.size A5 (zc (ns bl))) := HR5.out.on Sq
  replace HR6 : Hid (Rd w9_ w9_.heap.size A6 bW) := HR6.out.on Sq
  replace HB : Hid (Below w.heap.size w w9_) := HB.out.trans (Sq.mono HB.out.size)
  clear Bq Sq
  go_wp2_with fail
  refine (HSI.out A2 A5 c2 c5 w9_ HR2.out HR5.out).mono ?_
  rintro e w10_ ⟨rfl, Bq⟩
  have Sq : Below w9_.heap.size w9_ w10_ := Bq
  replace pu := (Sq.cell (p := ⟨w3_.heap.size, 0, none⟩) zu).trans pu
  replace qu := (Sq.cell (p := ⟨w3_.heap.size, 1, none⟩) zu).trans qu
  replace zu : w3_.heap.size < w10_.heap.size := Nat.lt_of_lt_of_le zu Sq.size
  replace pv := (Sq.cell (p := ⟨w6_.heap.size, 0, none⟩) zv).trans pv
  replace qv := (Sq.cell (p := ⟨w6_.heap.size, 1, none⟩) zv).trans qv
  replace zv : w6_.heap.size < w10_.heap.size := Nat.lt_of_lt_of_le zv Sq.size
  replace HA : Hid (RdV w10_ w10_.heap.size A cx) := HA.out.on Sq
  replace HG : Hid (RdV w10_ w10_.heap.size G cg) := HG.out.on Sq
  replace HR1 : Hid (RdV w10_ w10_.heap.size A1 (nc gl)) := HR1.out.on Sq
  replace HR2 : Hid (RdV w10_ w10_.heap.size A2 (zc (ns bl))) := HR2.out.on Sq
  replace HR3 : Hid (Rd w10_ w10_.heap.size A3 bW) := HR3.out.on Sq
  replace HR5 : Hid (RdV w10_ w10_.heap.size A5 (zc (ns bl))) := HR5.out.on Sq
  replace HR6 : Hid (Rd w10_ w10_.heap.size A6 bW) := HR6.out.on Sq
  replace HB : Hid (Below w.heap.size w w10_) := HB.out.trans (Sq.mono HB.out.size)
  clear Bq Sq
  go_wp2_with fail
  refine (HSB.out A3 A6 c3 c6 w10_ HR3.out HR6.out).mono ?_
  rintro e w11_ ⟨rfl, Bq⟩
  have Sq : Below w10_.heap.size w10_ w11_ := Bq
  replace pu := (Sq.cell (p := ⟨w3_.heap.size, 0, none⟩) zu).trans pu
  replace qu := (Sq.cell (p := ⟨w3_.heap.size, 1, none⟩) zu).trans qu
  replace zu : w3_.heap.size < w11_.heap.size := Nat.lt_of_lt_of_le zu Sq.size
  replace pv := (Sq.cell (p := ⟨w6_.heap.size, 0, none⟩) zv).trans pv
  replace qv := (Sq.cell (p := ⟨w6_.heap.size, 1, none⟩) zv).trans qv
  replace zv : w6_.heap.size < w11_.heap.size := Nat.lt_of_lt_of_le zv Sq.size
  replace HA : Hid (RdV w11_ w11_.heap.size A cx) := HA.out.on Sq
  replace HG : Hid (RdV w11_ w11_.heap.size G cg) := HG.out.on Sq
  replace HR1 : Hid (RdV w11_ w11_.heap.size A1 (nc gl)) := HR1.out.on Sq
  replace HR2 : Hid (RdV w11_ w11_.heap.size A2 (zc (ns bl))) := HR2.out.on Sq
  replace HR3 : Hid (Rd w11_ w11_.heap.size A3 bW) := HR3.out.on Sq
  replace HR5 : Hid (RdV w11_ w11_.heap.size A5 (zc (ns bl))) := HR5.out.on Sq
  replace HR6 : Hid (Rd w11_ w11_.heap.size A6 bW) := HR6.out.on Sq
  replace HB : Hid (Below w.heap.size w w11_) := HB.out.trans (Sq.mono HB.out.size)
  clear Bq Sq
  go_wp2
  go_ret
  exact ⟨rfl, HB.out⟩

set_option maxHeartbeats 4000000 in
theorem gtell3 (A G : Option Addr) (c d n m : Nat) (cx cg : List Value) (a k : Int) (nG nB : Nat) (gl bl : List Nat) (eB lW : Int) (nW : Nat) (bW : List Nat) (eW : Int) (w : World) (hA : RdV w w.heap.size A cx) (hG : RdV w w.heap.size G cg) (t0 : decide (a < 0) = false) (t1 : decide (1048576 < a) = true)
    (HGp : Hid (∀ V, RdV V V.heap.size A cx → Calls Try.prog 15 #[.slice A n c, .int .i64 a] V (NumN V nG gl 3)))
    (HBk : Hid (∀ V, RdV V V.heap.size G cg → Calls Try.prog 16 #[.slice G m d, .int .i64 a] V (IntN V nB bl eB)))
    (HW : Hid (∀ V, RdV V V.heap.size A cx → Calls Try.prog 17 #[.slice A n c, .int .i64 a, .int .i64 k] V (Gv V lW nW bW eW)))
    (HRC : Hid (∀ V, RdV V V.heap.size A cx → Calls Try.prog 18 #[.slice A n c] V fun e w' => e = .returned (.int .i64 0) ∧ Below V.heap.size V w'))
    (HCk : Hid (∀ V, RdV V V.heap.size A cx → Calls Try.prog 23 #[.slice A n c] V fun e w' => e = .returned (.int .i64 0) ∧ Below V.heap.size V w'))
    (HRB : Hid (∀ V, RdV V V.heap.size G cg → Calls Try.prog 20 #[.slice G m d, .int .i64 a] V (IntN V nB bl eB)))
    (HRW : Hid (∀ V, RdV V V.heap.size A cx → Calls Try.prog 21 #[.slice A n c, .int .i64 a, .int .i64 k] V (Gv V lW nW bW eW)))
    (HSI : Hid (∀ (A1 A2 : Option Addr) (c1 c2 : Nat) (V : World), RdV V V.heap.size A1 (zc (ns bl)) → RdV V V.heap.size A2 (zc (ns bl)) → Calls Try.prog 25 #[.slice A1 nB c1, .slice A2 nB c2] V fun e w' => e = .returned (.bool true) ∧ Below V.heap.size V w'))
    (HSB : Hid (∀ (A1 A2 : Option Addr) (c1 c2 : Nat) (V : World), Rd V V.heap.size A1 bW → Rd V V.heap.size A2 bW → Calls Try.prog 26 #[.agg #[.int .i64 lW, .slice A1 nW c1], .agg #[.int .i64 lW, .slice A2 nW c2]] V fun e w' => e = .returned (.bool true) ∧ Below V.heap.size V w'))
    (HSN : Hid (∀ (A1 : Option Addr) (c1 : Nat) (V : World), RdV V V.heap.size A1 (nc gl) → Calls Try.prog 24 #[.slice A1 nG c1, .slice none 0 0] V fun e w' => e = .returned (.bool true) ∧ Below V.heap.size V w')) :
    Calls Try.prog 3 #[.slice A n c, .slice G m d, .int .i64 a, .int .i64 k] w fun e w' => e = .returned (.bool true) ∧ Below w.heap.size w w' := by
  have HA := Lib.hid hA; have HG := Lib.hid hG
  clear hA hG
  go_enter Try.func3, Try.ntmps3
  go_wp2_with fail
  refine (HGp.out w HA.out).mono ?_
  rintro e w1_ ⟨A1, c1, rfl, Rq, Bq⟩
  have Sq : Below w.heap.size w w1_ := Bq
  replace HA : Hid (RdV w1_ w1_.heap.size A cx) := HA.out.on Sq
  replace HG : Hid (RdV w1_ w1_.heap.size G cg) := HG.out.on Sq
  have HB : Hid (Below w.heap.size w w1_) := Sq
  clear Bq Sq
  have HR1 := Lib.hid Rq; clear Rq
  go_wp2_with fail
  refine (HBk.out w1_ HG.out).mono ?_
  rintro e w2_ ⟨A2, c2, rfl, Rq, Bq⟩
  have Sq : Below w1_.heap.size w1_ w2_ := Bq
  replace HA : Hid (RdV w2_ w2_.heap.size A cx) := HA.out.on Sq
  replace HG : Hid (RdV w2_ w2_.heap.size G cg) := HG.out.on Sq
  replace HR1 : Hid (RdV w2_ w2_.heap.size A1 (nc gl)) := HR1.out.on Sq
  replace HB : Hid (Below w.heap.size w w2_) := HB.out.trans (Sq.mono HB.out.size)
  clear Bq Sq
  have HR2 := Lib.hid Rq; clear Rq
  go_wp2_with fail
  refine (HW.out w2_ HA.out).mono ?_
  rintro e w3_ ⟨A3, c3, rfl, Rq, Bq⟩
  have Sq : Below w2_.heap.size w2_ w3_ := Bq
  replace HA : Hid (RdV w3_ w3_.heap.size A cx) := HA.out.on Sq
  replace HG : Hid (RdV w3_ w3_.heap.size G cg) := HG.out.on Sq
  replace HR1 : Hid (RdV w3_ w3_.heap.size A1 (nc gl)) := HR1.out.on Sq
  replace HR2 : Hid (RdV w3_ w3_.heap.size A2 (zc (ns bl))) := HR2.out.on Sq
  replace HB : Hid (Below w.heap.size w w3_) := HB.out.trans (Sq.mono HB.out.size)
  clear Bq Sq
  have HR3 := Lib.hid Rq; clear Rq
  go_wp2_with fail
  refine (HRC.out _ (HA.out.on (one_below w3_ _))).mono ?_
  rintro e w4_ ⟨rfl, Bq⟩
  rw [World.size_alloc] at Bq
  have Sq : Below w3_.heap.size w3_ w4_ := (one_below w3_ _).trans (Bq.mono (by omega))
  have zu : w3_.heap.size < w4_.heap.size := by have := Bq.size; rw [World.size_alloc] at this; omega
  obtain ⟨pu, qu⟩ := box_at Bq
  replace HA : Hid (RdV w4_ w4_.heap.size A cx) := HA.out.on Sq
  replace HG : Hid (RdV w4_ w4_.heap.size G cg) := HG.out.on Sq
  replace HR1 : Hid (RdV w4_ w4_.heap.size A1 (nc gl)) := HR1.out.on Sq
  replace HR2 : Hid (RdV w4_ w4_.heap.size A2 (zc (ns bl))) := HR2.out.on Sq
  replace HR3 : Hid (Rd w4_ w4_.heap.size A3 bW) := HR3.out.on Sq
  replace HB : Hid (Below w.heap.size w w4_) := HB.out.trans (Sq.mono HB.out.size)
  clear Bq Sq
  go_wp2_with fail
  refine (HRB.out w4_ HG.out).mono ?_
  rintro e w5_ ⟨A5, c5, rfl, Rq, Bq⟩
  have Sq : Below w4_.heap.size w4_ w5_ := Bq
  replace pu := (Sq.cell (p := ⟨w3_.heap.size, 0, none⟩) zu).trans pu
  replace qu := (Sq.cell (p := ⟨w3_.heap.size, 1, none⟩) zu).trans qu
  replace zu : w3_.heap.size < w5_.heap.size := Nat.lt_of_lt_of_le zu Sq.size
  replace HA : Hid (RdV w5_ w5_.heap.size A cx) := HA.out.on Sq
  replace HG : Hid (RdV w5_ w5_.heap.size G cg) := HG.out.on Sq
  replace HR1 : Hid (RdV w5_ w5_.heap.size A1 (nc gl)) := HR1.out.on Sq
  replace HR2 : Hid (RdV w5_ w5_.heap.size A2 (zc (ns bl))) := HR2.out.on Sq
  replace HR3 : Hid (Rd w5_ w5_.heap.size A3 bW) := HR3.out.on Sq
  replace HB : Hid (Below w.heap.size w w5_) := HB.out.trans (Sq.mono HB.out.size)
  clear Bq Sq
  have HR5 := Lib.hid Rq; clear Rq
  go_wp2_with fail
  refine (HRW.out w5_ HA.out).mono ?_
  rintro e w6_ ⟨A6, c6, rfl, Rq, Bq⟩
  have Sq : Below w5_.heap.size w5_ w6_ := Bq
  replace pu := (Sq.cell (p := ⟨w3_.heap.size, 0, none⟩) zu).trans pu
  replace qu := (Sq.cell (p := ⟨w3_.heap.size, 1, none⟩) zu).trans qu
  replace zu : w3_.heap.size < w6_.heap.size := Nat.lt_of_lt_of_le zu Sq.size
  replace HA : Hid (RdV w6_ w6_.heap.size A cx) := HA.out.on Sq
  replace HG : Hid (RdV w6_ w6_.heap.size G cg) := HG.out.on Sq
  replace HR1 : Hid (RdV w6_ w6_.heap.size A1 (nc gl)) := HR1.out.on Sq
  replace HR2 : Hid (RdV w6_ w6_.heap.size A2 (zc (ns bl))) := HR2.out.on Sq
  replace HR3 : Hid (Rd w6_ w6_.heap.size A3 bW) := HR3.out.on Sq
  replace HR5 : Hid (RdV w6_ w6_.heap.size A5 (zc (ns bl))) := HR5.out.on Sq
  replace HB : Hid (Below w.heap.size w w6_) := HB.out.trans (Sq.mono HB.out.size)
  clear Bq Sq
  have HR6 := Lib.hid Rq; clear Rq
  go_wp2_with fail
  refine (gapsbegun_true _).mono ?_
  rintro e w7_ ⟨rfl, Bq⟩
  rw [World.size_alloc] at Bq
  have Sq : Below w6_.heap.size w6_ w7_ := (one_below w6_ _).trans (Bq.mono (by omega))
  have zv : w6_.heap.size < w7_.heap.size := by have := Bq.size; rw [World.size_alloc] at this; omega
  obtain ⟨pv, qv⟩ := box_at Bq
  replace pu := (Sq.cell (p := ⟨w3_.heap.size, 0, none⟩) zu).trans pu
  replace qu := (Sq.cell (p := ⟨w3_.heap.size, 1, none⟩) zu).trans qu
  replace zu : w3_.heap.size < w7_.heap.size := Nat.lt_of_lt_of_le zu Sq.size
  replace HA : Hid (RdV w7_ w7_.heap.size A cx) := HA.out.on Sq
  replace HG : Hid (RdV w7_ w7_.heap.size G cg) := HG.out.on Sq
  replace HR1 : Hid (RdV w7_ w7_.heap.size A1 (nc gl)) := HR1.out.on Sq
  replace HR2 : Hid (RdV w7_ w7_.heap.size A2 (zc (ns bl))) := HR2.out.on Sq
  replace HR3 : Hid (Rd w7_ w7_.heap.size A3 bW) := HR3.out.on Sq
  replace HR5 : Hid (RdV w7_ w7_.heap.size A5 (zc (ns bl))) := HR5.out.on Sq
  replace HR6 : Hid (Rd w7_ w7_.heap.size A6 bW) := HR6.out.on Sq
  replace HB : Hid (Below w.heap.size w w7_) := HB.out.trans (Sq.mono HB.out.size)
  clear Bq Sq
  go_wp2_with fail
  refine (HCk.out w7_ HA.out).mono ?_
  rintro e w8_ ⟨rfl, Bq⟩
  have Sq : Below w7_.heap.size w7_ w8_ := Bq
  replace pu := (Sq.cell (p := ⟨w3_.heap.size, 0, none⟩) zu).trans pu
  replace qu := (Sq.cell (p := ⟨w3_.heap.size, 1, none⟩) zu).trans qu
  replace zu : w3_.heap.size < w8_.heap.size := Nat.lt_of_lt_of_le zu Sq.size
  replace pv := (Sq.cell (p := ⟨w6_.heap.size, 0, none⟩) zv).trans pv
  replace qv := (Sq.cell (p := ⟨w6_.heap.size, 1, none⟩) zv).trans qv
  replace zv : w6_.heap.size < w8_.heap.size := Nat.lt_of_lt_of_le zv Sq.size
  replace HA : Hid (RdV w8_ w8_.heap.size A cx) := HA.out.on Sq
  replace HG : Hid (RdV w8_ w8_.heap.size G cg) := HG.out.on Sq
  replace HR1 : Hid (RdV w8_ w8_.heap.size A1 (nc gl)) := HR1.out.on Sq
  replace HR2 : Hid (RdV w8_ w8_.heap.size A2 (zc (ns bl))) := HR2.out.on Sq
  replace HR3 : Hid (Rd w8_ w8_.heap.size A3 bW) := HR3.out.on Sq
  replace HR5 : Hid (RdV w8_ w8_.heap.size A5 (zc (ns bl))) := HR5.out.on Sq
  replace HR6 : Hid (Rd w8_ w8_.heap.size A6 bW) := HR6.out.on Sq
  replace HB : Hid (Below w.heap.size w w8_) := HB.out.trans (Sq.mono HB.out.size)
  clear Bq Sq
  go_wp2_with fail
  refine (HSN.out A1 c1 w8_ HR1.out).mono ?_
  rintro e w9_ ⟨rfl, Bq⟩
  have Sq : Below w8_.heap.size w8_ w9_ := Bq
  replace pu := (Sq.cell (p := ⟨w3_.heap.size, 0, none⟩) zu).trans pu
  replace qu := (Sq.cell (p := ⟨w3_.heap.size, 1, none⟩) zu).trans qu
  replace zu : w3_.heap.size < w9_.heap.size := Nat.lt_of_lt_of_le zu Sq.size
  replace pv := (Sq.cell (p := ⟨w6_.heap.size, 0, none⟩) zv).trans pv
  replace qv := (Sq.cell (p := ⟨w6_.heap.size, 1, none⟩) zv).trans qv
  replace zv : w6_.heap.size < w9_.heap.size := Nat.lt_of_lt_of_le zv Sq.size
  replace HA : Hid (RdV w9_ w9_.heap.size A cx) := HA.out.on Sq
  replace HG : Hid (RdV w9_ w9_.heap.size G cg) := HG.out.on Sq
  replace HR1 : Hid (RdV w9_ w9_.heap.size A1 (nc gl)) := HR1.out.on Sq
  replace HR2 : Hid (RdV w9_ w9_.heap.size A2 (zc (ns bl))) := HR2.out.on Sq
  replace HR3 : Hid (Rd w9_ w9_.heap.size A3 bW) := HR3.out.on Sq
  replace HR5 : Hid (RdV w9_ w9_.heap.size A5 (zc (ns bl))) := HR5.out.on Sq
  replace HR6 : Hid (Rd w9_ w9_.heap.size A6 bW) := HR6.out.on Sq
  replace HB : Hid (Below w.heap.size w w9_) := HB.out.trans (Sq.mono HB.out.size)
  clear Bq Sq
  go_wp2_with fail
  refine (HSI.out A2 A5 c2 c5 w9_ HR2.out HR5.out).mono ?_
  rintro e w10_ ⟨rfl, Bq⟩
  have Sq : Below w9_.heap.size w9_ w10_ := Bq
  replace pu := (Sq.cell (p := ⟨w3_.heap.size, 0, none⟩) zu).trans pu
  replace qu := (Sq.cell (p := ⟨w3_.heap.size, 1, none⟩) zu).trans qu
  replace zu : w3_.heap.size < w10_.heap.size := Nat.lt_of_lt_of_le zu Sq.size
  replace pv := (Sq.cell (p := ⟨w6_.heap.size, 0, none⟩) zv).trans pv
  replace qv := (Sq.cell (p := ⟨w6_.heap.size, 1, none⟩) zv).trans qv
  replace zv : w6_.heap.size < w10_.heap.size := Nat.lt_of_lt_of_le zv Sq.size
  replace HA : Hid (RdV w10_ w10_.heap.size A cx) := HA.out.on Sq
  replace HG : Hid (RdV w10_ w10_.heap.size G cg) := HG.out.on Sq
  replace HR1 : Hid (RdV w10_ w10_.heap.size A1 (nc gl)) := HR1.out.on Sq
  replace HR2 : Hid (RdV w10_ w10_.heap.size A2 (zc (ns bl))) := HR2.out.on Sq
  replace HR3 : Hid (Rd w10_ w10_.heap.size A3 bW) := HR3.out.on Sq
  replace HR5 : Hid (RdV w10_ w10_.heap.size A5 (zc (ns bl))) := HR5.out.on Sq
  replace HR6 : Hid (Rd w10_ w10_.heap.size A6 bW) := HR6.out.on Sq
  replace HB : Hid (Below w.heap.size w w10_) := HB.out.trans (Sq.mono HB.out.size)
  clear Bq Sq
  go_wp2_with fail
  refine (HSB.out A3 A6 c3 c6 w10_ HR3.out HR6.out).mono ?_
  rintro e w11_ ⟨rfl, Bq⟩
  have Sq : Below w10_.heap.size w10_ w11_ := Bq
  replace pu := (Sq.cell (p := ⟨w3_.heap.size, 0, none⟩) zu).trans pu
  replace qu := (Sq.cell (p := ⟨w3_.heap.size, 1, none⟩) zu).trans qu
  replace zu : w3_.heap.size < w11_.heap.size := Nat.lt_of_lt_of_le zu Sq.size
  replace pv := (Sq.cell (p := ⟨w6_.heap.size, 0, none⟩) zv).trans pv
  replace qv := (Sq.cell (p := ⟨w6_.heap.size, 1, none⟩) zv).trans qv
  replace zv : w6_.heap.size < w11_.heap.size := Nat.lt_of_lt_of_le zv Sq.size
  replace HA : Hid (RdV w11_ w11_.heap.size A cx) := HA.out.on Sq
  replace HG : Hid (RdV w11_ w11_.heap.size G cg) := HG.out.on Sq
  replace HR1 : Hid (RdV w11_ w11_.heap.size A1 (nc gl)) := HR1.out.on Sq
  replace HR2 : Hid (RdV w11_ w11_.heap.size A2 (zc (ns bl))) := HR2.out.on Sq
  replace HR3 : Hid (Rd w11_ w11_.heap.size A3 bW) := HR3.out.on Sq
  replace HR5 : Hid (RdV w11_ w11_.heap.size A5 (zc (ns bl))) := HR5.out.on Sq
  replace HR6 : Hid (Rd w11_ w11_.heap.size A6 bW) := HR6.out.on Sq
  replace HB : Hid (Below w.heap.size w w11_) := HB.out.trans (Sq.mono HB.out.size)
  clear Bq Sq
  go_wp2
  go_ret
  exact ⟨rfl, HB.out⟩

set_option maxHeartbeats 4000000 in
theorem gtell4 (A G : Option Addr) (c d n m : Nat) (cx cg : List Value) (a k : Int) (nG nB : Nat) (gl bl : List Nat) (eB lW : Int) (nW : Nat) (bW : List Nat) (eW : Int) (w : World) (hA : RdV w w.heap.size A cx) (hG : RdV w w.heap.size G cg) (t0 : decide (a < 0) = false) (t1 : decide (1048576 < a) = false)
    (HGp : Hid (∀ V, RdV V V.heap.size A cx → Calls Try.prog 15 #[.slice A n c, .int .i64 a] V (NumN V nG gl 0)))
    (HBk : Hid (∀ V, RdV V V.heap.size G cg → Calls Try.prog 16 #[.slice G m d, .int .i64 a] V (IntN V nB bl eB)))
    (HW : Hid (∀ V, RdV V V.heap.size A cx → Calls Try.prog 17 #[.slice A n c, .int .i64 a, .int .i64 k] V (Gv V lW nW bW eW)))
    (HRC : Hid (∀ V, RdV V V.heap.size A cx → Calls Try.prog 18 #[.slice A n c] V fun e w' => e = .returned (.int .i64 0) ∧ Below V.heap.size V w'))
    (HCk : Hid (∀ V, RdV V V.heap.size A cx → Calls Try.prog 23 #[.slice A n c] V fun e w' => e = .returned (.int .i64 0) ∧ Below V.heap.size V w'))
    (HRB : Hid (∀ V, RdV V V.heap.size G cg → Calls Try.prog 20 #[.slice G m d, .int .i64 a] V (IntN V nB bl eB)))
    (HRW : Hid (∀ V, RdV V V.heap.size A cx → Calls Try.prog 21 #[.slice A n c, .int .i64 a, .int .i64 k] V (Gv V lW nW bW eW)))
    (HSI : Hid (∀ (A1 A2 : Option Addr) (c1 c2 : Nat) (V : World), RdV V V.heap.size A1 (zc (ns bl)) → RdV V V.heap.size A2 (zc (ns bl)) → Calls Try.prog 25 #[.slice A1 nB c1, .slice A2 nB c2] V fun e w' => e = .returned (.bool true) ∧ Below V.heap.size V w'))
    (HSB : Hid (∀ (A1 A2 : Option Addr) (c1 c2 : Nat) (V : World), Rd V V.heap.size A1 bW → Rd V V.heap.size A2 bW → Calls Try.prog 26 #[.agg #[.int .i64 lW, .slice A1 nW c1], .agg #[.int .i64 lW, .slice A2 nW c2]] V fun e w' => e = .returned (.bool true) ∧ Below V.heap.size V w'))
    (HGO : Hid (∀ V, RdV V V.heap.size A cx → Calls Try.prog 19 #[.slice A n c, .int .i64 a] V fun e w' => ∃ A2 c2, e = .returned (.slice A2 nG c2) ∧ RdV w' w'.heap.size A2 (nc gl) ∧ Below V.heap.size V w'))
    (HSN : Hid (∀ (A1 A2 : Option Addr) (c1 c2 : Nat) (V : World), RdV V V.heap.size A1 (nc gl) → RdV V V.heap.size A2 (nc gl) → Calls Try.prog 24 #[.slice A1 nG c1, .slice A2 nG c2] V fun e w' => e = .returned (.bool true) ∧ Below V.heap.size V w')) :
    Calls Try.prog 3 #[.slice A n c, .slice G m d, .int .i64 a, .int .i64 k] w fun e w' => e = .returned (.bool true) ∧ Below w.heap.size w w' := by
  have HA := Lib.hid hA; have HG := Lib.hid hG
  clear hA hG
  go_enter Try.func3, Try.ntmps3
  go_wp2_with fail
  refine (HGp.out w HA.out).mono ?_
  rintro e w1_ ⟨A1, c1, rfl, Rq, Bq⟩
  have Sq : Below w.heap.size w w1_ := Bq
  replace HA : Hid (RdV w1_ w1_.heap.size A cx) := HA.out.on Sq
  replace HG : Hid (RdV w1_ w1_.heap.size G cg) := HG.out.on Sq
  have HB : Hid (Below w.heap.size w w1_) := Sq
  clear Bq Sq
  have HR1 := Lib.hid Rq; clear Rq
  go_wp2_with fail
  refine (HBk.out w1_ HG.out).mono ?_
  rintro e w2_ ⟨A2, c2, rfl, Rq, Bq⟩
  have Sq : Below w1_.heap.size w1_ w2_ := Bq
  replace HA : Hid (RdV w2_ w2_.heap.size A cx) := HA.out.on Sq
  replace HG : Hid (RdV w2_ w2_.heap.size G cg) := HG.out.on Sq
  replace HR1 : Hid (RdV w2_ w2_.heap.size A1 (nc gl)) := HR1.out.on Sq
  replace HB : Hid (Below w.heap.size w w2_) := HB.out.trans (Sq.mono HB.out.size)
  clear Bq Sq
  have HR2 := Lib.hid Rq; clear Rq
  go_wp2_with fail
  refine (HW.out w2_ HA.out).mono ?_
  rintro e w3_ ⟨A3, c3, rfl, Rq, Bq⟩
  have Sq : Below w2_.heap.size w2_ w3_ := Bq
  replace HA : Hid (RdV w3_ w3_.heap.size A cx) := HA.out.on Sq
  replace HG : Hid (RdV w3_ w3_.heap.size G cg) := HG.out.on Sq
  replace HR1 : Hid (RdV w3_ w3_.heap.size A1 (nc gl)) := HR1.out.on Sq
  replace HR2 : Hid (RdV w3_ w3_.heap.size A2 (zc (ns bl))) := HR2.out.on Sq
  replace HB : Hid (Below w.heap.size w w3_) := HB.out.trans (Sq.mono HB.out.size)
  clear Bq Sq
  have HR3 := Lib.hid Rq; clear Rq
  go_wp2_with fail
  refine (HRC.out _ (HA.out.on (one_below w3_ _))).mono ?_
  rintro e w4_ ⟨rfl, Bq⟩
  rw [World.size_alloc] at Bq
  have Sq : Below w3_.heap.size w3_ w4_ := (one_below w3_ _).trans (Bq.mono (by omega))
  have zu : w3_.heap.size < w4_.heap.size := by have := Bq.size; rw [World.size_alloc] at this; omega
  obtain ⟨pu, qu⟩ := box_at Bq
  replace HA : Hid (RdV w4_ w4_.heap.size A cx) := HA.out.on Sq
  replace HG : Hid (RdV w4_ w4_.heap.size G cg) := HG.out.on Sq
  replace HR1 : Hid (RdV w4_ w4_.heap.size A1 (nc gl)) := HR1.out.on Sq
  replace HR2 : Hid (RdV w4_ w4_.heap.size A2 (zc (ns bl))) := HR2.out.on Sq
  replace HR3 : Hid (Rd w4_ w4_.heap.size A3 bW) := HR3.out.on Sq
  replace HB : Hid (Below w.heap.size w w4_) := HB.out.trans (Sq.mono HB.out.size)
  clear Bq Sq
  go_wp2_with fail
  refine (HGO.out w4_ HA.out).mono ?_
  rintro e w5_ ⟨A4, c4, rfl, Rq, Bq⟩
  have Sq : Below w4_.heap.size w4_ w5_ := Bq
  replace pu := (Sq.cell (p := ⟨w3_.heap.size, 0, none⟩) zu).trans pu
  replace qu := (Sq.cell (p := ⟨w3_.heap.size, 1, none⟩) zu).trans qu
  replace zu : w3_.heap.size < w5_.heap.size := Nat.lt_of_lt_of_le zu Sq.size
  replace HA : Hid (RdV w5_ w5_.heap.size A cx) := HA.out.on Sq
  replace HG : Hid (RdV w5_ w5_.heap.size G cg) := HG.out.on Sq
  replace HR1 : Hid (RdV w5_ w5_.heap.size A1 (nc gl)) := HR1.out.on Sq
  replace HR2 : Hid (RdV w5_ w5_.heap.size A2 (zc (ns bl))) := HR2.out.on Sq
  replace HR3 : Hid (Rd w5_ w5_.heap.size A3 bW) := HR3.out.on Sq
  replace HB : Hid (Below w.heap.size w w5_) := HB.out.trans (Sq.mono HB.out.size)
  clear Bq Sq
  have HR4 := Lib.hid Rq; clear Rq
  go_wp2_with fail
  refine (HRB.out w5_ HG.out).mono ?_
  rintro e w6_ ⟨A5, c5, rfl, Rq, Bq⟩
  have Sq : Below w5_.heap.size w5_ w6_ := Bq
  replace pu := (Sq.cell (p := ⟨w3_.heap.size, 0, none⟩) zu).trans pu
  replace qu := (Sq.cell (p := ⟨w3_.heap.size, 1, none⟩) zu).trans qu
  replace zu : w3_.heap.size < w6_.heap.size := Nat.lt_of_lt_of_le zu Sq.size
  replace HA : Hid (RdV w6_ w6_.heap.size A cx) := HA.out.on Sq
  replace HG : Hid (RdV w6_ w6_.heap.size G cg) := HG.out.on Sq
  replace HR1 : Hid (RdV w6_ w6_.heap.size A1 (nc gl)) := HR1.out.on Sq
  replace HR2 : Hid (RdV w6_ w6_.heap.size A2 (zc (ns bl))) := HR2.out.on Sq
  replace HR3 : Hid (Rd w6_ w6_.heap.size A3 bW) := HR3.out.on Sq
  replace HR4 : Hid (RdV w6_ w6_.heap.size A4 (nc gl)) := HR4.out.on Sq
  replace HB : Hid (Below w.heap.size w w6_) := HB.out.trans (Sq.mono HB.out.size)
  clear Bq Sq
  have HR5 := Lib.hid Rq; clear Rq
  go_wp2_with fail
  refine (HRW.out w6_ HA.out).mono ?_
  rintro e w7_ ⟨A6, c6, rfl, Rq, Bq⟩
  have Sq : Below w6_.heap.size w6_ w7_ := Bq
  replace pu := (Sq.cell (p := ⟨w3_.heap.size, 0, none⟩) zu).trans pu
  replace qu := (Sq.cell (p := ⟨w3_.heap.size, 1, none⟩) zu).trans qu
  replace zu : w3_.heap.size < w7_.heap.size := Nat.lt_of_lt_of_le zu Sq.size
  replace HA : Hid (RdV w7_ w7_.heap.size A cx) := HA.out.on Sq
  replace HG : Hid (RdV w7_ w7_.heap.size G cg) := HG.out.on Sq
  replace HR1 : Hid (RdV w7_ w7_.heap.size A1 (nc gl)) := HR1.out.on Sq
  replace HR2 : Hid (RdV w7_ w7_.heap.size A2 (zc (ns bl))) := HR2.out.on Sq
  replace HR3 : Hid (Rd w7_ w7_.heap.size A3 bW) := HR3.out.on Sq
  replace HR4 : Hid (RdV w7_ w7_.heap.size A4 (nc gl)) := HR4.out.on Sq
  replace HR5 : Hid (RdV w7_ w7_.heap.size A5 (zc (ns bl))) := HR5.out.on Sq
  replace HB : Hid (Below w.heap.size w w7_) := HB.out.trans (Sq.mono HB.out.size)
  clear Bq Sq
  have HR6 := Lib.hid Rq; clear Rq
  go_wp2_with fail
  refine (gapsbegun_true _).mono ?_
  rintro e w8_ ⟨rfl, Bq⟩
  rw [World.size_alloc] at Bq
  have Sq : Below w7_.heap.size w7_ w8_ := (one_below w7_ _).trans (Bq.mono (by omega))
  have zv : w7_.heap.size < w8_.heap.size := by have := Bq.size; rw [World.size_alloc] at this; omega
  obtain ⟨pv, qv⟩ := box_at Bq
  replace pu := (Sq.cell (p := ⟨w3_.heap.size, 0, none⟩) zu).trans pu
  replace qu := (Sq.cell (p := ⟨w3_.heap.size, 1, none⟩) zu).trans qu
  replace zu : w3_.heap.size < w8_.heap.size := Nat.lt_of_lt_of_le zu Sq.size
  replace HA : Hid (RdV w8_ w8_.heap.size A cx) := HA.out.on Sq
  replace HG : Hid (RdV w8_ w8_.heap.size G cg) := HG.out.on Sq
  replace HR1 : Hid (RdV w8_ w8_.heap.size A1 (nc gl)) := HR1.out.on Sq
  replace HR2 : Hid (RdV w8_ w8_.heap.size A2 (zc (ns bl))) := HR2.out.on Sq
  replace HR3 : Hid (Rd w8_ w8_.heap.size A3 bW) := HR3.out.on Sq
  replace HR4 : Hid (RdV w8_ w8_.heap.size A4 (nc gl)) := HR4.out.on Sq
  replace HR5 : Hid (RdV w8_ w8_.heap.size A5 (zc (ns bl))) := HR5.out.on Sq
  replace HR6 : Hid (Rd w8_ w8_.heap.size A6 bW) := HR6.out.on Sq
  replace HB : Hid (Below w.heap.size w w8_) := HB.out.trans (Sq.mono HB.out.size)
  clear Bq Sq
  go_wp2_with fail
  refine (HCk.out w8_ HA.out).mono ?_
  rintro e w9_ ⟨rfl, Bq⟩
  have Sq : Below w8_.heap.size w8_ w9_ := Bq
  replace pu := (Sq.cell (p := ⟨w3_.heap.size, 0, none⟩) zu).trans pu
  replace qu := (Sq.cell (p := ⟨w3_.heap.size, 1, none⟩) zu).trans qu
  replace zu : w3_.heap.size < w9_.heap.size := Nat.lt_of_lt_of_le zu Sq.size
  replace pv := (Sq.cell (p := ⟨w7_.heap.size, 0, none⟩) zv).trans pv
  replace qv := (Sq.cell (p := ⟨w7_.heap.size, 1, none⟩) zv).trans qv
  replace zv : w7_.heap.size < w9_.heap.size := Nat.lt_of_lt_of_le zv Sq.size
  replace HA : Hid (RdV w9_ w9_.heap.size A cx) := HA.out.on Sq
  replace HG : Hid (RdV w9_ w9_.heap.size G cg) := HG.out.on Sq
  replace HR1 : Hid (RdV w9_ w9_.heap.size A1 (nc gl)) := HR1.out.on Sq
  replace HR2 : Hid (RdV w9_ w9_.heap.size A2 (zc (ns bl))) := HR2.out.on Sq
  replace HR3 : Hid (Rd w9_ w9_.heap.size A3 bW) := HR3.out.on Sq
  replace HR4 : Hid (RdV w9_ w9_.heap.size A4 (nc gl)) := HR4.out.on Sq
  replace HR5 : Hid (RdV w9_ w9_.heap.size A5 (zc (ns bl))) := HR5.out.on Sq
  replace HR6 : Hid (Rd w9_ w9_.heap.size A6 bW) := HR6.out.on Sq
  replace HB : Hid (Below w.heap.size w w9_) := HB.out.trans (Sq.mono HB.out.size)
  clear Bq Sq
  go_wp2_with fail
  refine (HSN.out A1 A4 c1 c4 w9_ HR1.out HR4.out).mono ?_
  rintro e w10_ ⟨rfl, Bq⟩
  have Sq : Below w9_.heap.size w9_ w10_ := Bq
  replace pu := (Sq.cell (p := ⟨w3_.heap.size, 0, none⟩) zu).trans pu
  replace qu := (Sq.cell (p := ⟨w3_.heap.size, 1, none⟩) zu).trans qu
  replace zu : w3_.heap.size < w10_.heap.size := Nat.lt_of_lt_of_le zu Sq.size
  replace pv := (Sq.cell (p := ⟨w7_.heap.size, 0, none⟩) zv).trans pv
  replace qv := (Sq.cell (p := ⟨w7_.heap.size, 1, none⟩) zv).trans qv
  replace zv : w7_.heap.size < w10_.heap.size := Nat.lt_of_lt_of_le zv Sq.size
  replace HA : Hid (RdV w10_ w10_.heap.size A cx) := HA.out.on Sq
  replace HG : Hid (RdV w10_ w10_.heap.size G cg) := HG.out.on Sq
  replace HR1 : Hid (RdV w10_ w10_.heap.size A1 (nc gl)) := HR1.out.on Sq
  replace HR2 : Hid (RdV w10_ w10_.heap.size A2 (zc (ns bl))) := HR2.out.on Sq
  replace HR3 : Hid (Rd w10_ w10_.heap.size A3 bW) := HR3.out.on Sq
  replace HR4 : Hid (RdV w10_ w10_.heap.size A4 (nc gl)) := HR4.out.on Sq
  replace HR5 : Hid (RdV w10_ w10_.heap.size A5 (zc (ns bl))) := HR5.out.on Sq
  replace HR6 : Hid (Rd w10_ w10_.heap.size A6 bW) := HR6.out.on Sq
  replace HB : Hid (Below w.heap.size w w10_) := HB.out.trans (Sq.mono HB.out.size)
  clear Bq Sq
  go_wp2_with fail
  refine (HSI.out A2 A5 c2 c5 w10_ HR2.out HR5.out).mono ?_
  rintro e w11_ ⟨rfl, Bq⟩
  have Sq : Below w10_.heap.size w10_ w11_ := Bq
  replace pu := (Sq.cell (p := ⟨w3_.heap.size, 0, none⟩) zu).trans pu
  replace qu := (Sq.cell (p := ⟨w3_.heap.size, 1, none⟩) zu).trans qu
  replace zu : w3_.heap.size < w11_.heap.size := Nat.lt_of_lt_of_le zu Sq.size
  replace pv := (Sq.cell (p := ⟨w7_.heap.size, 0, none⟩) zv).trans pv
  replace qv := (Sq.cell (p := ⟨w7_.heap.size, 1, none⟩) zv).trans qv
  replace zv : w7_.heap.size < w11_.heap.size := Nat.lt_of_lt_of_le zv Sq.size
  replace HA : Hid (RdV w11_ w11_.heap.size A cx) := HA.out.on Sq
  replace HG : Hid (RdV w11_ w11_.heap.size G cg) := HG.out.on Sq
  replace HR1 : Hid (RdV w11_ w11_.heap.size A1 (nc gl)) := HR1.out.on Sq
  replace HR2 : Hid (RdV w11_ w11_.heap.size A2 (zc (ns bl))) := HR2.out.on Sq
  replace HR3 : Hid (Rd w11_ w11_.heap.size A3 bW) := HR3.out.on Sq
  replace HR4 : Hid (RdV w11_ w11_.heap.size A4 (nc gl)) := HR4.out.on Sq
  replace HR5 : Hid (RdV w11_ w11_.heap.size A5 (zc (ns bl))) := HR5.out.on Sq
  replace HR6 : Hid (Rd w11_ w11_.heap.size A6 bW) := HR6.out.on Sq
  replace HB : Hid (Below w.heap.size w w11_) := HB.out.trans (Sq.mono HB.out.size)
  clear Bq Sq
  go_wp2_with fail
  refine (HSB.out A3 A6 c3 c6 w11_ HR3.out HR6.out).mono ?_
  rintro e w12_ ⟨rfl, Bq⟩
  have Sq : Below w11_.heap.size w11_ w12_ := Bq
  replace pu := (Sq.cell (p := ⟨w3_.heap.size, 0, none⟩) zu).trans pu
  replace qu := (Sq.cell (p := ⟨w3_.heap.size, 1, none⟩) zu).trans qu
  replace zu : w3_.heap.size < w12_.heap.size := Nat.lt_of_lt_of_le zu Sq.size
  replace pv := (Sq.cell (p := ⟨w7_.heap.size, 0, none⟩) zv).trans pv
  replace qv := (Sq.cell (p := ⟨w7_.heap.size, 1, none⟩) zv).trans qv
  replace zv : w7_.heap.size < w12_.heap.size := Nat.lt_of_lt_of_le zv Sq.size
  replace HA : Hid (RdV w12_ w12_.heap.size A cx) := HA.out.on Sq
  replace HG : Hid (RdV w12_ w12_.heap.size G cg) := HG.out.on Sq
  replace HR1 : Hid (RdV w12_ w12_.heap.size A1 (nc gl)) := HR1.out.on Sq
  replace HR2 : Hid (RdV w12_ w12_.heap.size A2 (zc (ns bl))) := HR2.out.on Sq
  replace HR3 : Hid (Rd w12_ w12_.heap.size A3 bW) := HR3.out.on Sq
  replace HR4 : Hid (RdV w12_ w12_.heap.size A4 (nc gl)) := HR4.out.on Sq
  replace HR5 : Hid (RdV w12_ w12_.heap.size A5 (zc (ns bl))) := HR5.out.on Sq
  replace HR6 : Hid (Rd w12_ w12_.heap.size A6 bW) := HR6.out.on Sq
  replace HB : Hid (Below w.heap.size w w12_) := HB.out.trans (Sq.mono HB.out.size)
  clear Bq Sq
  go_wp2
  go_ret
  exact ⟨rfl, HB.out⟩
end Go.Proofs.Ythldcdcpflamaaa
