/- The law UnaryTells: for whatever number, bits, position, list and count it returns true and leaves what it was handed as it was. -/
import Derived.Test.YtkbelhclcpepaaaRefUAll
import Derived.Test.YtkbelhclcpepaaaUBegun
import Derived.Test.YtkbelhclcpepaaaOpen2
import Derived.Test.YtkbelhclcpepaaaLists
import Derived.Test.YtkbelhclcpepaaaOpen
namespace Go.Proofs.Ytkbelhclcpepaaa
open Go.RowKit

/-- AllP, in letters. -/
def AllQ (w : World) (n : Nat) (ns : List Nat) (to : Int) (err : Int) (e : Ending) (w' : World) : Prop :=
  ∃ A c, e = .returned (.tuple #[.slice A n c, .int .i64 to, .int .i64 err]) ∧ RdV w' w'.heap.size A (nc ns) ∧ Below w.heap.size w w'

set_option maxRecDepth 100000 in
set_option maxHeartbeats 4000000 in
theorem utells_bad (n len : Int) (A B : Option Addr) (c d N M : Nat) (bs ns : List Nat) (p m : Int) (w : World) (hA : Rd w w.heap.size A bs) (hB : RdV w w.heap.size B (nc ns)) (eR : Int) (h0 : eR ≠ 0)
    (lC lM eC eM tA eA : Int) (nC nM nA : Nat) (bC bM nsA : List Nat)
    (HCode : Hid (∀ V, Calls Try.prog 19 #[.int .u64 n] V (Gv V lC nC bC eC)))
    (HCode2 : Hid (∀ V, Calls Try.prog 23 #[.int .u64 n] V (Gv V lC nC bC eC)))
    (HRead : Hid (∀ V, Rd V V.heap.size A bs → Calls Try.prog 20 #[.agg #[.int .i64 len, .slice A N c], .int .i64 p] V fun e w' => e = .returned (.tuple #[.int .u64 0, .int .i64 0, .int .i64 eR]) ∧ Below V.heap.size V w'))
    (HErr : Hid (∀ V, Rd V V.heap.size A bs → Calls Try.prog 24 #[.agg #[.int .i64 len, .slice A N c], .int .i64 p] V fun e w' => e = .returned (.int .i64 eR) ∧ Below V.heap.size V w'))
    (HMany : Hid (∀ V, RdV V V.heap.size B (nc ns) → Calls Try.prog 21 #[.slice B M d] V (Gv V lM nM bM eM)))
    (HMany2 : Hid (∀ V, RdV V V.heap.size B (nc ns) → Calls Try.prog 27 #[.slice B M d] V (Gv V lM nM bM eM)))
    (HAll : Hid (∀ V, Rd V V.heap.size A bs → Calls Try.prog 22 #[.agg #[.int .i64 len, .slice A N c], .int .i64 m] V (AllQ V nA nsA tA eA)))
    (HAll2 : Hid (∀ V, Rd V V.heap.size A bs → Calls Try.prog 28 #[.agg #[.int .i64 len, .slice A N c], .int .i64 m] V (AllQ V nA nsA tA eA)))
    (HSC : Hid (∀ A1 A2 c1 c2 V, Rd V V.heap.size A1 bC → Rd V V.heap.size A2 bC → Calls Try.prog 30 #[.agg #[.int .i64 lC, .slice A1 nC c1], .agg #[.int .i64 lC, .slice A2 nC c2]] V fun e w' => e = .returned (.bool true) ∧ Below V.heap.size V w'))
    (HSM : Hid (∀ A1 A2 c1 c2 V, Rd V V.heap.size A1 bM → Rd V V.heap.size A2 bM → Calls Try.prog 30 #[.agg #[.int .i64 lM, .slice A1 nM c1], .agg #[.int .i64 lM, .slice A2 nM c2]] V fun e w' => e = .returned (.bool true) ∧ Below V.heap.size V w'))
    (HSN : Hid (∀ A1 A2 c1 c2 V, RdV V V.heap.size A1 (nc nsA) → RdV V V.heap.size A2 (nc nsA) → Calls Try.prog 31 #[.slice A1 nA c1, .slice A2 nA c2] V fun e w' => e = .returned (.bool true) ∧ Below V.heap.size V w')) :
    Calls Try.prog 3 #[.int .u64 n, .agg #[.int .i64 len, .slice A N c], .int .i64 p, .slice B M d, .int .i64 m] w fun e w' => e = .returned (.bool true) ∧ Below w.heap.size w w' := by
  have HA := Lib.hid hA; clear hA
  have HD := Lib.hid hB; clear hB
  have t0 : (eR == 0) = false := by simpa using h0
  clear h0
  go_enter Try.func3, Try.ntmps3
  go_wp2_with fail
  refine (HCode.out _).mono ?_
  rintro e w1_ ⟨A1, c1, rfl, Rq, Bq⟩
  rw [World.size_alloc] at Bq
  have Sq : Below w.heap.size w w1_ := (one_below w _).trans (Bq.mono (by omega))
  have zb : w.heap.size < w1_.heap.size := by have := Bq.size; rw [World.size_alloc] at this; omega
  obtain ⟨pb, qb⟩ := box_at Bq
  replace HA : Hid (Rd w1_ w1_.heap.size A bs) := HA.out.on Sq
  replace HD : Hid (RdV w1_ w1_.heap.size B (nc ns)) := HD.out.on Sq
  have HB : Hid (Below w.heap.size w w1_) := Sq
  clear Bq Sq
  have R1 := Lib.hid Rq; clear Rq
  go_wp2_with fail
  refine (HRead.out _ (HA.out.on (one_below w1_ _))).mono ?_
  rintro e w2_ ⟨rfl, Bq⟩
  rw [World.size_alloc] at Bq
  have Sq : Below w1_.heap.size w1_ w2_ := (one_below w1_ _).trans (Bq.mono (by omega))
  have zc : w1_.heap.size < w2_.heap.size := by have := Bq.size; rw [World.size_alloc] at this; omega
  obtain ⟨pc, qc⟩ := box_at Bq
  replace pb := (Sq.cell (p := ⟨w.heap.size, 0, none⟩) zb).trans pb
  replace qb := (Sq.cell (p := ⟨w.heap.size, 1, none⟩) zb).trans qb
  replace zb : w.heap.size < w2_.heap.size := Nat.lt_of_lt_of_le zb Sq.size
  replace HA : Hid (Rd w2_ w2_.heap.size A bs) := HA.out.on Sq
  replace HD : Hid (RdV w2_ w2_.heap.size B (nc ns)) := HD.out.on Sq
  replace R1 : Hid (Rd w2_ w2_.heap.size A1 bC) := R1.out.on Sq
  replace HB : Hid (Below w.heap.size w w2_) := HB.out.trans (Sq.mono HB.out.size)
  clear Bq Sq
  go_wp2_with fail
  refine (HMany.out _ HD.out).mono ?_
  rintro e w3_ ⟨A2, c2, rfl, Rq, Bq⟩
  have Sq : Below w2_.heap.size w2_ w3_ := Bq
  replace pb := (Sq.cell (p := ⟨w.heap.size, 0, none⟩) zb).trans pb
  replace qb := (Sq.cell (p := ⟨w.heap.size, 1, none⟩) zb).trans qb
  replace zb : w.heap.size < w3_.heap.size := Nat.lt_of_lt_of_le zb Sq.size
  replace pc := (Sq.cell (p := ⟨w1_.heap.size, 0, none⟩) zc).trans pc
  replace qc := (Sq.cell (p := ⟨w1_.heap.size, 1, none⟩) zc).trans qc
  replace zc : w1_.heap.size < w3_.heap.size := Nat.lt_of_lt_of_le zc Sq.size
  replace HA : Hid (Rd w3_ w3_.heap.size A bs) := HA.out.on Sq
  replace HD : Hid (RdV w3_ w3_.heap.size B (nc ns)) := HD.out.on Sq
  replace R1 : Hid (Rd w3_ w3_.heap.size A1 bC) := R1.out.on Sq
  replace HB : Hid (Below w.heap.size w w3_) := HB.out.trans (Sq.mono HB.out.size)
  clear Bq Sq
  have R2 := Lib.hid Rq; clear Rq
  go_wp2_with fail
  refine (HAll.out _ (HA.out.on (one_below w3_ _))).mono ?_
  rintro e w4_ ⟨A3, c3, rfl, Rq, Bq⟩
  rw [World.size_alloc] at Bq
  have Sq : Below w3_.heap.size w3_ w4_ := (one_below w3_ _).trans (Bq.mono (by omega))
  have zm : w3_.heap.size < w4_.heap.size := by have := Bq.size; rw [World.size_alloc] at this; omega
  obtain ⟨pm, qm⟩ := box_at Bq
  replace pb := (Sq.cell (p := ⟨w.heap.size, 0, none⟩) zb).trans pb
  replace qb := (Sq.cell (p := ⟨w.heap.size, 1, none⟩) zb).trans qb
  replace zb : w.heap.size < w4_.heap.size := Nat.lt_of_lt_of_le zb Sq.size
  replace pc := (Sq.cell (p := ⟨w1_.heap.size, 0, none⟩) zc).trans pc
  replace qc := (Sq.cell (p := ⟨w1_.heap.size, 1, none⟩) zc).trans qc
  replace zc : w1_.heap.size < w4_.heap.size := Nat.lt_of_lt_of_le zc Sq.size
  replace HA : Hid (Rd w4_ w4_.heap.size A bs) := HA.out.on Sq
  replace HD : Hid (RdV w4_ w4_.heap.size B (nc ns)) := HD.out.on Sq
  replace R1 : Hid (Rd w4_ w4_.heap.size A1 bC) := R1.out.on Sq
  replace R2 : Hid (Rd w4_ w4_.heap.size A2 bM) := R2.out.on Sq
  replace HB : Hid (Below w.heap.size w w4_) := HB.out.trans (Sq.mono HB.out.size)
  clear Bq Sq
  have R3 := Lib.hid Rq; clear Rq
  go_wp2_with fail
  refine (HCode2.out _).mono ?_
  rintro e w5_ ⟨A4, c4, rfl, Rq, Bq⟩
  have Sq : Below w4_.heap.size w4_ w5_ := Bq
  replace pb := (Sq.cell (p := ⟨w.heap.size, 0, none⟩) zb).trans pb
  replace qb := (Sq.cell (p := ⟨w.heap.size, 1, none⟩) zb).trans qb
  replace zb : w.heap.size < w5_.heap.size := Nat.lt_of_lt_of_le zb Sq.size
  replace pc := (Sq.cell (p := ⟨w1_.heap.size, 0, none⟩) zc).trans pc
  replace qc := (Sq.cell (p := ⟨w1_.heap.size, 1, none⟩) zc).trans qc
  replace zc : w1_.heap.size < w5_.heap.size := Nat.lt_of_lt_of_le zc Sq.size
  replace pm := (Sq.cell (p := ⟨w3_.heap.size, 0, none⟩) zm).trans pm
  replace qm := (Sq.cell (p := ⟨w3_.heap.size, 1, none⟩) zm).trans qm
  replace zm : w3_.heap.size < w5_.heap.size := Nat.lt_of_lt_of_le zm Sq.size
  replace HA : Hid (Rd w5_ w5_.heap.size A bs) := HA.out.on Sq
  replace HD : Hid (RdV w5_ w5_.heap.size B (nc ns)) := HD.out.on Sq
  replace R1 : Hid (Rd w5_ w5_.heap.size A1 bC) := R1.out.on Sq
  replace R2 : Hid (Rd w5_ w5_.heap.size A2 bM) := R2.out.on Sq
  replace R3 : Hid (RdV w5_ w5_.heap.size A3 (nc nsA)) := R3.out.on Sq
  replace HB : Hid (Below w.heap.size w w5_) := HB.out.trans (Sq.mono HB.out.size)
  clear Bq Sq
  have R4 := Lib.hid Rq; clear Rq
  go_wp2_with fail
  refine (HErr.out _ (HA.out.on (one_below w5_ _))).mono ?_
  rintro e w6_ ⟨rfl, Bq⟩
  rw [World.size_alloc] at Bq
  have Sq : Below w5_.heap.size w5_ w6_ := (one_below w5_ _).trans (Bq.mono (by omega))
  have zc2 : w5_.heap.size < w6_.heap.size := by have := Bq.size; rw [World.size_alloc] at this; omega
  obtain ⟨pc2, qc2⟩ := box_at Bq
  replace pb := (Sq.cell (p := ⟨w.heap.size, 0, none⟩) zb).trans pb
  replace qb := (Sq.cell (p := ⟨w.heap.size, 1, none⟩) zb).trans qb
  replace zb : w.heap.size < w6_.heap.size := Nat.lt_of_lt_of_le zb Sq.size
  replace pc := (Sq.cell (p := ⟨w1_.heap.size, 0, none⟩) zc).trans pc
  replace qc := (Sq.cell (p := ⟨w1_.heap.size, 1, none⟩) zc).trans qc
  replace zc : w1_.heap.size < w6_.heap.size := Nat.lt_of_lt_of_le zc Sq.size
  replace pm := (Sq.cell (p := ⟨w3_.heap.size, 0, none⟩) zm).trans pm
  replace qm := (Sq.cell (p := ⟨w3_.heap.size, 1, none⟩) zm).trans qm
  replace zm : w3_.heap.size < w6_.heap.size := Nat.lt_of_lt_of_le zm Sq.size
  replace HA : Hid (Rd w6_ w6_.heap.size A bs) := HA.out.on Sq
  replace HD : Hid (RdV w6_ w6_.heap.size B (nc ns)) := HD.out.on Sq
  replace R1 : Hid (Rd w6_ w6_.heap.size A1 bC) := R1.out.on Sq
  replace R2 : Hid (Rd w6_ w6_.heap.size A2 bM) := R2.out.on Sq
  replace R3 : Hid (RdV w6_ w6_.heap.size A3 (nc nsA)) := R3.out.on Sq
  replace R4 : Hid (Rd w6_ w6_.heap.size A4 bC) := R4.out.on Sq
  replace HB : Hid (Below w.heap.size w w6_) := HB.out.trans (Sq.mono HB.out.size)
  clear Bq Sq
  go_wp2_with fail
  refine (HMany2.out _ HD.out).mono ?_
  rintro e w7_ ⟨A6, c6, rfl, Rq, Bq⟩
  have Sq : Below w6_.heap.size w6_ w7_ := Bq
  replace pb := (Sq.cell (p := ⟨w.heap.size, 0, none⟩) zb).trans pb
  replace qb := (Sq.cell (p := ⟨w.heap.size, 1, none⟩) zb).trans qb
  replace zb : w.heap.size < w7_.heap.size := Nat.lt_of_lt_of_le zb Sq.size
  replace pc := (Sq.cell (p := ⟨w1_.heap.size, 0, none⟩) zc).trans pc
  replace qc := (Sq.cell (p := ⟨w1_.heap.size, 1, none⟩) zc).trans qc
  replace zc : w1_.heap.size < w7_.heap.size := Nat.lt_of_lt_of_le zc Sq.size
  replace pm := (Sq.cell (p := ⟨w3_.heap.size, 0, none⟩) zm).trans pm
  replace qm := (Sq.cell (p := ⟨w3_.heap.size, 1, none⟩) zm).trans qm
  replace zm : w3_.heap.size < w7_.heap.size := Nat.lt_of_lt_of_le zm Sq.size
  replace pc2 := (Sq.cell (p := ⟨w5_.heap.size, 0, none⟩) zc2).trans pc2
  replace qc2 := (Sq.cell (p := ⟨w5_.heap.size, 1, none⟩) zc2).trans qc2
  replace zc2 : w5_.heap.size < w7_.heap.size := Nat.lt_of_lt_of_le zc2 Sq.size
  replace HA : Hid (Rd w7_ w7_.heap.size A bs) := HA.out.on Sq
  replace HD : Hid (RdV w7_ w7_.heap.size B (nc ns)) := HD.out.on Sq
  replace R1 : Hid (Rd w7_ w7_.heap.size A1 bC) := R1.out.on Sq
  replace R2 : Hid (Rd w7_ w7_.heap.size A2 bM) := R2.out.on Sq
  replace R3 : Hid (RdV w7_ w7_.heap.size A3 (nc nsA)) := R3.out.on Sq
  replace R4 : Hid (Rd w7_ w7_.heap.size A4 bC) := R4.out.on Sq
  replace HB : Hid (Below w.heap.size w w7_) := HB.out.trans (Sq.mono HB.out.size)
  clear Bq Sq
  have R6 := Lib.hid Rq; clear Rq
  go_wp2_with fail
  refine (HAll2.out _ (HA.out.on (one_below w7_ _))).mono ?_
  rintro e w8_ ⟨A7, c7, rfl, Rq, Bq⟩
  rw [World.size_alloc] at Bq
  have Sq : Below w7_.heap.size w7_ w8_ := (one_below w7_ _).trans (Bq.mono (by omega))
  have zm2 : w7_.heap.size < w8_.heap.size := by have := Bq.size; rw [World.size_alloc] at this; omega
  obtain ⟨pm2, qm2⟩ := box_at Bq
  replace pb := (Sq.cell (p := ⟨w.heap.size, 0, none⟩) zb).trans pb
  replace qb := (Sq.cell (p := ⟨w.heap.size, 1, none⟩) zb).trans qb
  replace zb : w.heap.size < w8_.heap.size := Nat.lt_of_lt_of_le zb Sq.size
  replace pc := (Sq.cell (p := ⟨w1_.heap.size, 0, none⟩) zc).trans pc
  replace qc := (Sq.cell (p := ⟨w1_.heap.size, 1, none⟩) zc).trans qc
  replace zc : w1_.heap.size < w8_.heap.size := Nat.lt_of_lt_of_le zc Sq.size
  replace pm := (Sq.cell (p := ⟨w3_.heap.size, 0, none⟩) zm).trans pm
  replace qm := (Sq.cell (p := ⟨w3_.heap.size, 1, none⟩) zm).trans qm
  replace zm : w3_.heap.size < w8_.heap.size := Nat.lt_of_lt_of_le zm Sq.size
  replace pc2 := (Sq.cell (p := ⟨w5_.heap.size, 0, none⟩) zc2).trans pc2
  replace qc2 := (Sq.cell (p := ⟨w5_.heap.size, 1, none⟩) zc2).trans qc2
  replace zc2 : w5_.heap.size < w8_.heap.size := Nat.lt_of_lt_of_le zc2 Sq.size
  replace HA : Hid (Rd w8_ w8_.heap.size A bs) := HA.out.on Sq
  replace HD : Hid (RdV w8_ w8_.heap.size B (nc ns)) := HD.out.on Sq
  replace R1 : Hid (Rd w8_ w8_.heap.size A1 bC) := R1.out.on Sq
  replace R2 : Hid (Rd w8_ w8_.heap.size A2 bM) := R2.out.on Sq
  replace R3 : Hid (RdV w8_ w8_.heap.size A3 (nc nsA)) := R3.out.on Sq
  replace R4 : Hid (Rd w8_ w8_.heap.size A4 bC) := R4.out.on Sq
  replace R6 : Hid (Rd w8_ w8_.heap.size A6 bM) := R6.out.on Sq
  replace HB : Hid (Below w.heap.size w w8_) := HB.out.trans (Sq.mono HB.out.size)
  clear Bq Sq
  have R7 := Lib.hid Rq; clear Rq
  go_wp2_with fail
  refine (ubegun_true _).mono ?_
  rintro e w9_ ⟨rfl, Bq⟩
  have Sq : Below w8_.heap.size w8_ w9_ := Bq
  replace pb := (Sq.cell (p := ⟨w.heap.size, 0, none⟩) zb).trans pb
  replace qb := (Sq.cell (p := ⟨w.heap.size, 1, none⟩) zb).trans qb
  replace zb : w.heap.size < w9_.heap.size := Nat.lt_of_lt_of_le zb Sq.size
  replace pc := (Sq.cell (p := ⟨w1_.heap.size, 0, none⟩) zc).trans pc
  replace qc := (Sq.cell (p := ⟨w1_.heap.size, 1, none⟩) zc).trans qc
  replace zc : w1_.heap.size < w9_.heap.size := Nat.lt_of_lt_of_le zc Sq.size
  replace pm := (Sq.cell (p := ⟨w3_.heap.size, 0, none⟩) zm).trans pm
  replace qm := (Sq.cell (p := ⟨w3_.heap.size, 1, none⟩) zm).trans qm
  replace zm : w3_.heap.size < w9_.heap.size := Nat.lt_of_lt_of_le zm Sq.size
  replace pc2 := (Sq.cell (p := ⟨w5_.heap.size, 0, none⟩) zc2).trans pc2
  replace qc2 := (Sq.cell (p := ⟨w5_.heap.size, 1, none⟩) zc2).trans qc2
  replace zc2 : w5_.heap.size < w9_.heap.size := Nat.lt_of_lt_of_le zc2 Sq.size
  replace pm2 := (Sq.cell (p := ⟨w7_.heap.size, 0, none⟩) zm2).trans pm2
  replace qm2 := (Sq.cell (p := ⟨w7_.heap.size, 1, none⟩) zm2).trans qm2
  replace zm2 : w7_.heap.size < w9_.heap.size := Nat.lt_of_lt_of_le zm2 Sq.size
  replace HA : Hid (Rd w9_ w9_.heap.size A bs) := HA.out.on Sq
  replace HD : Hid (RdV w9_ w9_.heap.size B (nc ns)) := HD.out.on Sq
  replace R1 : Hid (Rd w9_ w9_.heap.size A1 bC) := R1.out.on Sq
  replace R2 : Hid (Rd w9_ w9_.heap.size A2 bM) := R2.out.on Sq
  replace R3 : Hid (RdV w9_ w9_.heap.size A3 (nc nsA)) := R3.out.on Sq
  replace R4 : Hid (Rd w9_ w9_.heap.size A4 bC) := R4.out.on Sq
  replace R6 : Hid (Rd w9_ w9_.heap.size A6 bM) := R6.out.on Sq
  replace R7 : Hid (RdV w9_ w9_.heap.size A7 (nc nsA)) := R7.out.on Sq
  replace HB : Hid (Below w.heap.size w w9_) := HB.out.trans (Sq.mono HB.out.size)
  clear Bq Sq
  go_wp2_with fail
  refine (HSC.out A1 A4 c1 c4 _ R1.out R4.out).mono ?_
  rintro e w10_ ⟨rfl, Bq⟩
  have Sq : Below w9_.heap.size w9_ w10_ := Bq
  replace pb := (Sq.cell (p := ⟨w.heap.size, 0, none⟩) zb).trans pb
  replace qb := (Sq.cell (p := ⟨w.heap.size, 1, none⟩) zb).trans qb
  replace zb : w.heap.size < w10_.heap.size := Nat.lt_of_lt_of_le zb Sq.size
  replace pc := (Sq.cell (p := ⟨w1_.heap.size, 0, none⟩) zc).trans pc
  replace qc := (Sq.cell (p := ⟨w1_.heap.size, 1, none⟩) zc).trans qc
  replace zc : w1_.heap.size < w10_.heap.size := Nat.lt_of_lt_of_le zc Sq.size
  replace pm := (Sq.cell (p := ⟨w3_.heap.size, 0, none⟩) zm).trans pm
  replace qm := (Sq.cell (p := ⟨w3_.heap.size, 1, none⟩) zm).trans qm
  replace zm : w3_.heap.size < w10_.heap.size := Nat.lt_of_lt_of_le zm Sq.size
  replace pc2 := (Sq.cell (p := ⟨w5_.heap.size, 0, none⟩) zc2).trans pc2
  replace qc2 := (Sq.cell (p := ⟨w5_.heap.size, 1, none⟩) zc2).trans qc2
  replace zc2 : w5_.heap.size < w10_.heap.size := Nat.lt_of_lt_of_le zc2 Sq.size
  replace pm2 := (Sq.cell (p := ⟨w7_.heap.size, 0, none⟩) zm2).trans pm2
  replace qm2 := (Sq.cell (p := ⟨w7_.heap.size, 1, none⟩) zm2).trans qm2
  replace zm2 : w7_.heap.size < w10_.heap.size := Nat.lt_of_lt_of_le zm2 Sq.size
  replace HA : Hid (Rd w10_ w10_.heap.size A bs) := HA.out.on Sq
  replace HD : Hid (RdV w10_ w10_.heap.size B (nc ns)) := HD.out.on Sq
  replace R1 : Hid (Rd w10_ w10_.heap.size A1 bC) := R1.out.on Sq
  replace R2 : Hid (Rd w10_ w10_.heap.size A2 bM) := R2.out.on Sq
  replace R3 : Hid (RdV w10_ w10_.heap.size A3 (nc nsA)) := R3.out.on Sq
  replace R4 : Hid (Rd w10_ w10_.heap.size A4 bC) := R4.out.on Sq
  replace R6 : Hid (Rd w10_ w10_.heap.size A6 bM) := R6.out.on Sq
  replace R7 : Hid (RdV w10_ w10_.heap.size A7 (nc nsA)) := R7.out.on Sq
  replace HB : Hid (Below w.heap.size w w10_) := HB.out.trans (Sq.mono HB.out.size)
  clear Bq Sq
  go_wp2_with fail
  refine (HSM.out A2 A6 c2 c6 _ R2.out R6.out).mono ?_
  rintro e w11_ ⟨rfl, Bq⟩
  have Sq : Below w10_.heap.size w10_ w11_ := Bq
  replace pb := (Sq.cell (p := ⟨w.heap.size, 0, none⟩) zb).trans pb
  replace qb := (Sq.cell (p := ⟨w.heap.size, 1, none⟩) zb).trans qb
  replace zb : w.heap.size < w11_.heap.size := Nat.lt_of_lt_of_le zb Sq.size
  replace pc := (Sq.cell (p := ⟨w1_.heap.size, 0, none⟩) zc).trans pc
  replace qc := (Sq.cell (p := ⟨w1_.heap.size, 1, none⟩) zc).trans qc
  replace zc : w1_.heap.size < w11_.heap.size := Nat.lt_of_lt_of_le zc Sq.size
  replace pm := (Sq.cell (p := ⟨w3_.heap.size, 0, none⟩) zm).trans pm
  replace qm := (Sq.cell (p := ⟨w3_.heap.size, 1, none⟩) zm).trans qm
  replace zm : w3_.heap.size < w11_.heap.size := Nat.lt_of_lt_of_le zm Sq.size
  replace pc2 := (Sq.cell (p := ⟨w5_.heap.size, 0, none⟩) zc2).trans pc2
  replace qc2 := (Sq.cell (p := ⟨w5_.heap.size, 1, none⟩) zc2).trans qc2
  replace zc2 : w5_.heap.size < w11_.heap.size := Nat.lt_of_lt_of_le zc2 Sq.size
  replace pm2 := (Sq.cell (p := ⟨w7_.heap.size, 0, none⟩) zm2).trans pm2
  replace qm2 := (Sq.cell (p := ⟨w7_.heap.size, 1, none⟩) zm2).trans qm2
  replace zm2 : w7_.heap.size < w11_.heap.size := Nat.lt_of_lt_of_le zm2 Sq.size
  replace HA : Hid (Rd w11_ w11_.heap.size A bs) := HA.out.on Sq
  replace HD : Hid (RdV w11_ w11_.heap.size B (nc ns)) := HD.out.on Sq
  replace R1 : Hid (Rd w11_ w11_.heap.size A1 bC) := R1.out.on Sq
  replace R2 : Hid (Rd w11_ w11_.heap.size A2 bM) := R2.out.on Sq
  replace R3 : Hid (RdV w11_ w11_.heap.size A3 (nc nsA)) := R3.out.on Sq
  replace R4 : Hid (Rd w11_ w11_.heap.size A4 bC) := R4.out.on Sq
  replace R6 : Hid (Rd w11_ w11_.heap.size A6 bM) := R6.out.on Sq
  replace R7 : Hid (RdV w11_ w11_.heap.size A7 (nc nsA)) := R7.out.on Sq
  replace HB : Hid (Below w.heap.size w w11_) := HB.out.trans (Sq.mono HB.out.size)
  clear Bq Sq
  go_wp2_with fail
  refine (HSN.out A3 A7 c3 c7 _ R3.out R7.out).mono ?_
  rintro e w12_ ⟨rfl, Bq⟩
  have Sq : Below w11_.heap.size w11_ w12_ := Bq
  replace pb := (Sq.cell (p := ⟨w.heap.size, 0, none⟩) zb).trans pb
  replace qb := (Sq.cell (p := ⟨w.heap.size, 1, none⟩) zb).trans qb
  replace zb : w.heap.size < w12_.heap.size := Nat.lt_of_lt_of_le zb Sq.size
  replace pc := (Sq.cell (p := ⟨w1_.heap.size, 0, none⟩) zc).trans pc
  replace qc := (Sq.cell (p := ⟨w1_.heap.size, 1, none⟩) zc).trans qc
  replace zc : w1_.heap.size < w12_.heap.size := Nat.lt_of_lt_of_le zc Sq.size
  replace pm := (Sq.cell (p := ⟨w3_.heap.size, 0, none⟩) zm).trans pm
  replace qm := (Sq.cell (p := ⟨w3_.heap.size, 1, none⟩) zm).trans qm
  replace zm : w3_.heap.size < w12_.heap.size := Nat.lt_of_lt_of_le zm Sq.size
  replace pc2 := (Sq.cell (p := ⟨w5_.heap.size, 0, none⟩) zc2).trans pc2
  replace qc2 := (Sq.cell (p := ⟨w5_.heap.size, 1, none⟩) zc2).trans qc2
  replace zc2 : w5_.heap.size < w12_.heap.size := Nat.lt_of_lt_of_le zc2 Sq.size
  replace pm2 := (Sq.cell (p := ⟨w7_.heap.size, 0, none⟩) zm2).trans pm2
  replace qm2 := (Sq.cell (p := ⟨w7_.heap.size, 1, none⟩) zm2).trans qm2
  replace zm2 : w7_.heap.size < w12_.heap.size := Nat.lt_of_lt_of_le zm2 Sq.size
  replace HA : Hid (Rd w12_ w12_.heap.size A bs) := HA.out.on Sq
  replace HD : Hid (RdV w12_ w12_.heap.size B (nc ns)) := HD.out.on Sq
  replace R1 : Hid (Rd w12_ w12_.heap.size A1 bC) := R1.out.on Sq
  replace R2 : Hid (Rd w12_ w12_.heap.size A2 bM) := R2.out.on Sq
  replace R3 : Hid (RdV w12_ w12_.heap.size A3 (nc nsA)) := R3.out.on Sq
  replace R4 : Hid (Rd w12_ w12_.heap.size A4 bC) := R4.out.on Sq
  replace R6 : Hid (Rd w12_ w12_.heap.size A6 bM) := R6.out.on Sq
  replace R7 : Hid (RdV w12_ w12_.heap.size A7 (nc nsA)) := R7.out.on Sq
  replace HB : Hid (Below w.heap.size w w12_) := HB.out.trans (Sq.mono HB.out.size)
  clear Bq Sq
  go_wp2
  go_ret
  exact ⟨rfl, HB.out⟩

set_option maxRecDepth 100000 in
set_option maxHeartbeats 4000000 in
theorem utells_none (n len : Int) (A B : Option Addr) (c d N M : Nat) (bs ns : List Nat) (p m : Int) (w : World) (hA : Rd w w.heap.size A bs) (hB : RdV w w.heap.size B (nc ns)) (l : List Bool) (N5 : Nat)
    (lC lM eC eM tA eA : Int) (nC nM nA : Nat) (bC bM nsA : List Nat)
    (HCode : Hid (∀ V, Calls Try.prog 19 #[.int .u64 n] V (Gv V lC nC bC eC)))
    (HCode2 : Hid (∀ V, Calls Try.prog 23 #[.int .u64 n] V (Gv V lC nC bC eC)))
    (HRead : Hid (∀ V, Rd V V.heap.size A bs → Calls Try.prog 20 #[.agg #[.int .i64 len, .slice A N c], .int .i64 p] V fun e w' => e = .returned (.tuple #[.int .u64 0, .int .i64 0, .int .i64 7]) ∧ Below V.heap.size V w'))
    (HErr : Hid (∀ V, Rd V V.heap.size A bs → Calls Try.prog 24 #[.agg #[.int .i64 len, .slice A N c], .int .i64 p] V fun e w' => e = .returned (.int .i64 0) ∧ Below V.heap.size V w'))
    (HBL : Hid (∀ V, Rd V V.heap.size A bs → Calls Try.prog 26 #[.agg #[.int .i64 len, .slice A N c]] V fun e w' => ∃ A c, e = .returned (.slice A N5 c) ∧ RdV w' w'.heap.size A (ic l) ∧ Below V.heap.size V w'))
    (HUR : Hid (∀ A c V, RdV V V.heap.size A (ic l) → Calls Try.prog 25 #[.slice A N5 c, .int .i64 p] V fun e w' => e = .returned (.tuple #[.int .u64 0, .int .i64 (-1)]) ∧ Below V.heap.size V w'))
    (HMany : Hid (∀ V, RdV V V.heap.size B (nc ns) → Calls Try.prog 21 #[.slice B M d] V (Gv V lM nM bM eM)))
    (HMany2 : Hid (∀ V, RdV V V.heap.size B (nc ns) → Calls Try.prog 27 #[.slice B M d] V (Gv V lM nM bM eM)))
    (HAll : Hid (∀ V, Rd V V.heap.size A bs → Calls Try.prog 22 #[.agg #[.int .i64 len, .slice A N c], .int .i64 m] V (AllQ V nA nsA tA eA)))
    (HAll2 : Hid (∀ V, Rd V V.heap.size A bs → Calls Try.prog 28 #[.agg #[.int .i64 len, .slice A N c], .int .i64 m] V (AllQ V nA nsA tA eA)))
    (HSC : Hid (∀ A1 A2 c1 c2 V, Rd V V.heap.size A1 bC → Rd V V.heap.size A2 bC → Calls Try.prog 30 #[.agg #[.int .i64 lC, .slice A1 nC c1], .agg #[.int .i64 lC, .slice A2 nC c2]] V fun e w' => e = .returned (.bool true) ∧ Below V.heap.size V w'))
    (HSM : Hid (∀ A1 A2 c1 c2 V, Rd V V.heap.size A1 bM → Rd V V.heap.size A2 bM → Calls Try.prog 30 #[.agg #[.int .i64 lM, .slice A1 nM c1], .agg #[.int .i64 lM, .slice A2 nM c2]] V fun e w' => e = .returned (.bool true) ∧ Below V.heap.size V w'))
    (HSN : Hid (∀ A1 A2 c1 c2 V, RdV V V.heap.size A1 (nc nsA) → RdV V V.heap.size A2 (nc nsA) → Calls Try.prog 31 #[.slice A1 nA c1, .slice A2 nA c2] V fun e w' => e = .returned (.bool true) ∧ Below V.heap.size V w')) :
    Calls Try.prog 3 #[.int .u64 n, .agg #[.int .i64 len, .slice A N c], .int .i64 p, .slice B M d, .int .i64 m] w fun e w' => e = .returned (.bool true) ∧ Below w.heap.size w w' := by
  have HA := Lib.hid hA; clear hA
  have HD := Lib.hid hB; clear hB
  go_enter Try.func3, Try.ntmps3
  go_wp2_with fail
  refine (HCode.out _).mono ?_
  rintro e w1_ ⟨A1, c1, rfl, Rq, Bq⟩
  rw [World.size_alloc] at Bq
  have Sq : Below w.heap.size w w1_ := (one_below w _).trans (Bq.mono (by omega))
  have zb : w.heap.size < w1_.heap.size := by have := Bq.size; rw [World.size_alloc] at this; omega
  obtain ⟨pb, qb⟩ := box_at Bq
  replace HA : Hid (Rd w1_ w1_.heap.size A bs) := HA.out.on Sq
  replace HD : Hid (RdV w1_ w1_.heap.size B (nc ns)) := HD.out.on Sq
  have HB : Hid (Below w.heap.size w w1_) := Sq
  clear Bq Sq
  have R1 := Lib.hid Rq; clear Rq
  go_wp2_with fail
  refine (HRead.out _ (HA.out.on (one_below w1_ _))).mono ?_
  rintro e w2_ ⟨rfl, Bq⟩
  rw [World.size_alloc] at Bq
  have Sq : Below w1_.heap.size w1_ w2_ := (one_below w1_ _).trans (Bq.mono (by omega))
  have zc : w1_.heap.size < w2_.heap.size := by have := Bq.size; rw [World.size_alloc] at this; omega
  obtain ⟨pc, qc⟩ := box_at Bq
  replace pb := (Sq.cell (p := ⟨w.heap.size, 0, none⟩) zb).trans pb
  replace qb := (Sq.cell (p := ⟨w.heap.size, 1, none⟩) zb).trans qb
  replace zb : w.heap.size < w2_.heap.size := Nat.lt_of_lt_of_le zb Sq.size
  replace HA : Hid (Rd w2_ w2_.heap.size A bs) := HA.out.on Sq
  replace HD : Hid (RdV w2_ w2_.heap.size B (nc ns)) := HD.out.on Sq
  replace R1 : Hid (Rd w2_ w2_.heap.size A1 bC) := R1.out.on Sq
  replace HB : Hid (Below w.heap.size w w2_) := HB.out.trans (Sq.mono HB.out.size)
  clear Bq Sq
  go_wp2_with fail
  refine (HMany.out _ HD.out).mono ?_
  rintro e w3_ ⟨A2, c2, rfl, Rq, Bq⟩
  have Sq : Below w2_.heap.size w2_ w3_ := Bq
  replace pb := (Sq.cell (p := ⟨w.heap.size, 0, none⟩) zb).trans pb
  replace qb := (Sq.cell (p := ⟨w.heap.size, 1, none⟩) zb).trans qb
  replace zb : w.heap.size < w3_.heap.size := Nat.lt_of_lt_of_le zb Sq.size
  replace pc := (Sq.cell (p := ⟨w1_.heap.size, 0, none⟩) zc).trans pc
  replace qc := (Sq.cell (p := ⟨w1_.heap.size, 1, none⟩) zc).trans qc
  replace zc : w1_.heap.size < w3_.heap.size := Nat.lt_of_lt_of_le zc Sq.size
  replace HA : Hid (Rd w3_ w3_.heap.size A bs) := HA.out.on Sq
  replace HD : Hid (RdV w3_ w3_.heap.size B (nc ns)) := HD.out.on Sq
  replace R1 : Hid (Rd w3_ w3_.heap.size A1 bC) := R1.out.on Sq
  replace HB : Hid (Below w.heap.size w w3_) := HB.out.trans (Sq.mono HB.out.size)
  clear Bq Sq
  have R2 := Lib.hid Rq; clear Rq
  go_wp2_with fail
  refine (HAll.out _ (HA.out.on (one_below w3_ _))).mono ?_
  rintro e w4_ ⟨A3, c3, rfl, Rq, Bq⟩
  rw [World.size_alloc] at Bq
  have Sq : Below w3_.heap.size w3_ w4_ := (one_below w3_ _).trans (Bq.mono (by omega))
  have zm : w3_.heap.size < w4_.heap.size := by have := Bq.size; rw [World.size_alloc] at this; omega
  obtain ⟨pm, qm⟩ := box_at Bq
  replace pb := (Sq.cell (p := ⟨w.heap.size, 0, none⟩) zb).trans pb
  replace qb := (Sq.cell (p := ⟨w.heap.size, 1, none⟩) zb).trans qb
  replace zb : w.heap.size < w4_.heap.size := Nat.lt_of_lt_of_le zb Sq.size
  replace pc := (Sq.cell (p := ⟨w1_.heap.size, 0, none⟩) zc).trans pc
  replace qc := (Sq.cell (p := ⟨w1_.heap.size, 1, none⟩) zc).trans qc
  replace zc : w1_.heap.size < w4_.heap.size := Nat.lt_of_lt_of_le zc Sq.size
  replace HA : Hid (Rd w4_ w4_.heap.size A bs) := HA.out.on Sq
  replace HD : Hid (RdV w4_ w4_.heap.size B (nc ns)) := HD.out.on Sq
  replace R1 : Hid (Rd w4_ w4_.heap.size A1 bC) := R1.out.on Sq
  replace R2 : Hid (Rd w4_ w4_.heap.size A2 bM) := R2.out.on Sq
  replace HB : Hid (Below w.heap.size w w4_) := HB.out.trans (Sq.mono HB.out.size)
  clear Bq Sq
  have R3 := Lib.hid Rq; clear Rq
  go_wp2_with fail
  refine (HCode2.out _).mono ?_
  rintro e w5_ ⟨A4, c4, rfl, Rq, Bq⟩
  have Sq : Below w4_.heap.size w4_ w5_ := Bq
  replace pb := (Sq.cell (p := ⟨w.heap.size, 0, none⟩) zb).trans pb
  replace qb := (Sq.cell (p := ⟨w.heap.size, 1, none⟩) zb).trans qb
  replace zb : w.heap.size < w5_.heap.size := Nat.lt_of_lt_of_le zb Sq.size
  replace pc := (Sq.cell (p := ⟨w1_.heap.size, 0, none⟩) zc).trans pc
  replace qc := (Sq.cell (p := ⟨w1_.heap.size, 1, none⟩) zc).trans qc
  replace zc : w1_.heap.size < w5_.heap.size := Nat.lt_of_lt_of_le zc Sq.size
  replace pm := (Sq.cell (p := ⟨w3_.heap.size, 0, none⟩) zm).trans pm
  replace qm := (Sq.cell (p := ⟨w3_.heap.size, 1, none⟩) zm).trans qm
  replace zm : w3_.heap.size < w5_.heap.size := Nat.lt_of_lt_of_le zm Sq.size
  replace HA : Hid (Rd w5_ w5_.heap.size A bs) := HA.out.on Sq
  replace HD : Hid (RdV w5_ w5_.heap.size B (nc ns)) := HD.out.on Sq
  replace R1 : Hid (Rd w5_ w5_.heap.size A1 bC) := R1.out.on Sq
  replace R2 : Hid (Rd w5_ w5_.heap.size A2 bM) := R2.out.on Sq
  replace R3 : Hid (RdV w5_ w5_.heap.size A3 (nc nsA)) := R3.out.on Sq
  replace HB : Hid (Below w.heap.size w w5_) := HB.out.trans (Sq.mono HB.out.size)
  clear Bq Sq
  have R4 := Lib.hid Rq; clear Rq
  go_wp2_with fail
  refine (HErr.out _ (HA.out.on (one_below w5_ _))).mono ?_
  rintro e w6_ ⟨rfl, Bq⟩
  rw [World.size_alloc] at Bq
  have Sq : Below w5_.heap.size w5_ w6_ := (one_below w5_ _).trans (Bq.mono (by omega))
  have zc2 : w5_.heap.size < w6_.heap.size := by have := Bq.size; rw [World.size_alloc] at this; omega
  obtain ⟨pc2, qc2⟩ := box_at Bq
  replace pb := (Sq.cell (p := ⟨w.heap.size, 0, none⟩) zb).trans pb
  replace qb := (Sq.cell (p := ⟨w.heap.size, 1, none⟩) zb).trans qb
  replace zb : w.heap.size < w6_.heap.size := Nat.lt_of_lt_of_le zb Sq.size
  replace pc := (Sq.cell (p := ⟨w1_.heap.size, 0, none⟩) zc).trans pc
  replace qc := (Sq.cell (p := ⟨w1_.heap.size, 1, none⟩) zc).trans qc
  replace zc : w1_.heap.size < w6_.heap.size := Nat.lt_of_lt_of_le zc Sq.size
  replace pm := (Sq.cell (p := ⟨w3_.heap.size, 0, none⟩) zm).trans pm
  replace qm := (Sq.cell (p := ⟨w3_.heap.size, 1, none⟩) zm).trans qm
  replace zm : w3_.heap.size < w6_.heap.size := Nat.lt_of_lt_of_le zm Sq.size
  replace HA : Hid (Rd w6_ w6_.heap.size A bs) := HA.out.on Sq
  replace HD : Hid (RdV w6_ w6_.heap.size B (nc ns)) := HD.out.on Sq
  replace R1 : Hid (Rd w6_ w6_.heap.size A1 bC) := R1.out.on Sq
  replace R2 : Hid (Rd w6_ w6_.heap.size A2 bM) := R2.out.on Sq
  replace R3 : Hid (RdV w6_ w6_.heap.size A3 (nc nsA)) := R3.out.on Sq
  replace R4 : Hid (Rd w6_ w6_.heap.size A4 bC) := R4.out.on Sq
  replace HB : Hid (Below w.heap.size w w6_) := HB.out.trans (Sq.mono HB.out.size)
  clear Bq Sq
  go_wp2_with fail
  refine (HBL.out _ HA.out).mono ?_
  rintro e w7_ ⟨A5, c5, rfl, Rq, Bq⟩
  have Sq : Below w6_.heap.size w6_ w7_ := Bq
  replace pb := (Sq.cell (p := ⟨w.heap.size, 0, none⟩) zb).trans pb
  replace qb := (Sq.cell (p := ⟨w.heap.size, 1, none⟩) zb).trans qb
  replace zb : w.heap.size < w7_.heap.size := Nat.lt_of_lt_of_le zb Sq.size
  replace pc := (Sq.cell (p := ⟨w1_.heap.size, 0, none⟩) zc).trans pc
  replace qc := (Sq.cell (p := ⟨w1_.heap.size, 1, none⟩) zc).trans qc
  replace zc : w1_.heap.size < w7_.heap.size := Nat.lt_of_lt_of_le zc Sq.size
  replace pm := (Sq.cell (p := ⟨w3_.heap.size, 0, none⟩) zm).trans pm
  replace qm := (Sq.cell (p := ⟨w3_.heap.size, 1, none⟩) zm).trans qm
  replace zm : w3_.heap.size < w7_.heap.size := Nat.lt_of_lt_of_le zm Sq.size
  replace pc2 := (Sq.cell (p := ⟨w5_.heap.size, 0, none⟩) zc2).trans pc2
  replace qc2 := (Sq.cell (p := ⟨w5_.heap.size, 1, none⟩) zc2).trans qc2
  replace zc2 : w5_.heap.size < w7_.heap.size := Nat.lt_of_lt_of_le zc2 Sq.size
  replace HA : Hid (Rd w7_ w7_.heap.size A bs) := HA.out.on Sq
  replace HD : Hid (RdV w7_ w7_.heap.size B (nc ns)) := HD.out.on Sq
  replace R1 : Hid (Rd w7_ w7_.heap.size A1 bC) := R1.out.on Sq
  replace R2 : Hid (Rd w7_ w7_.heap.size A2 bM) := R2.out.on Sq
  replace R3 : Hid (RdV w7_ w7_.heap.size A3 (nc nsA)) := R3.out.on Sq
  replace R4 : Hid (Rd w7_ w7_.heap.size A4 bC) := R4.out.on Sq
  replace HB : Hid (Below w.heap.size w w7_) := HB.out.trans (Sq.mono HB.out.size)
  clear Bq Sq
  have R5 := Lib.hid Rq; clear Rq
  go_wp2_with fail
  refine (HUR.out _ _ _ R5.out).mono ?_
  rintro e w8_ ⟨rfl, Bq⟩
  have Sq : Below w7_.heap.size w7_ w8_ := Bq
  replace pb := (Sq.cell (p := ⟨w.heap.size, 0, none⟩) zb).trans pb
  replace qb := (Sq.cell (p := ⟨w.heap.size, 1, none⟩) zb).trans qb
  replace zb : w.heap.size < w8_.heap.size := Nat.lt_of_lt_of_le zb Sq.size
  replace pc := (Sq.cell (p := ⟨w1_.heap.size, 0, none⟩) zc).trans pc
  replace qc := (Sq.cell (p := ⟨w1_.heap.size, 1, none⟩) zc).trans qc
  replace zc : w1_.heap.size < w8_.heap.size := Nat.lt_of_lt_of_le zc Sq.size
  replace pm := (Sq.cell (p := ⟨w3_.heap.size, 0, none⟩) zm).trans pm
  replace qm := (Sq.cell (p := ⟨w3_.heap.size, 1, none⟩) zm).trans qm
  replace zm : w3_.heap.size < w8_.heap.size := Nat.lt_of_lt_of_le zm Sq.size
  replace pc2 := (Sq.cell (p := ⟨w5_.heap.size, 0, none⟩) zc2).trans pc2
  replace qc2 := (Sq.cell (p := ⟨w5_.heap.size, 1, none⟩) zc2).trans qc2
  replace zc2 : w5_.heap.size < w8_.heap.size := Nat.lt_of_lt_of_le zc2 Sq.size
  replace HA : Hid (Rd w8_ w8_.heap.size A bs) := HA.out.on Sq
  replace HD : Hid (RdV w8_ w8_.heap.size B (nc ns)) := HD.out.on Sq
  replace R1 : Hid (Rd w8_ w8_.heap.size A1 bC) := R1.out.on Sq
  replace R2 : Hid (Rd w8_ w8_.heap.size A2 bM) := R2.out.on Sq
  replace R3 : Hid (RdV w8_ w8_.heap.size A3 (nc nsA)) := R3.out.on Sq
  replace R4 : Hid (Rd w8_ w8_.heap.size A4 bC) := R4.out.on Sq
  replace R5 : Hid (RdV w8_ w8_.heap.size A5 (ic l)) := R5.out.on Sq
  replace HB : Hid (Below w.heap.size w w8_) := HB.out.trans (Sq.mono HB.out.size)
  clear Bq Sq
  go_wp2_with fail
  refine (HMany2.out _ HD.out).mono ?_
  rintro e w9_ ⟨A6, c6, rfl, Rq, Bq⟩
  have Sq : Below w8_.heap.size w8_ w9_ := Bq
  replace pb := (Sq.cell (p := ⟨w.heap.size, 0, none⟩) zb).trans pb
  replace qb := (Sq.cell (p := ⟨w.heap.size, 1, none⟩) zb).trans qb
  replace zb : w.heap.size < w9_.heap.size := Nat.lt_of_lt_of_le zb Sq.size
  replace pc := (Sq.cell (p := ⟨w1_.heap.size, 0, none⟩) zc).trans pc
  replace qc := (Sq.cell (p := ⟨w1_.heap.size, 1, none⟩) zc).trans qc
  replace zc : w1_.heap.size < w9_.heap.size := Nat.lt_of_lt_of_le zc Sq.size
  replace pm := (Sq.cell (p := ⟨w3_.heap.size, 0, none⟩) zm).trans pm
  replace qm := (Sq.cell (p := ⟨w3_.heap.size, 1, none⟩) zm).trans qm
  replace zm : w3_.heap.size < w9_.heap.size := Nat.lt_of_lt_of_le zm Sq.size
  replace pc2 := (Sq.cell (p := ⟨w5_.heap.size, 0, none⟩) zc2).trans pc2
  replace qc2 := (Sq.cell (p := ⟨w5_.heap.size, 1, none⟩) zc2).trans qc2
  replace zc2 : w5_.heap.size < w9_.heap.size := Nat.lt_of_lt_of_le zc2 Sq.size
  replace HA : Hid (Rd w9_ w9_.heap.size A bs) := HA.out.on Sq
  replace HD : Hid (RdV w9_ w9_.heap.size B (nc ns)) := HD.out.on Sq
  replace R1 : Hid (Rd w9_ w9_.heap.size A1 bC) := R1.out.on Sq
  replace R2 : Hid (Rd w9_ w9_.heap.size A2 bM) := R2.out.on Sq
  replace R3 : Hid (RdV w9_ w9_.heap.size A3 (nc nsA)) := R3.out.on Sq
  replace R4 : Hid (Rd w9_ w9_.heap.size A4 bC) := R4.out.on Sq
  replace R5 : Hid (RdV w9_ w9_.heap.size A5 (ic l)) := R5.out.on Sq
  replace HB : Hid (Below w.heap.size w w9_) := HB.out.trans (Sq.mono HB.out.size)
  clear Bq Sq
  have R6 := Lib.hid Rq; clear Rq
  go_wp2_with fail
  refine (HAll2.out _ (HA.out.on (one_below w9_ _))).mono ?_
  rintro e w10_ ⟨A7, c7, rfl, Rq, Bq⟩
  rw [World.size_alloc] at Bq
  have Sq : Below w9_.heap.size w9_ w10_ := (one_below w9_ _).trans (Bq.mono (by omega))
  have zm2 : w9_.heap.size < w10_.heap.size := by have := Bq.size; rw [World.size_alloc] at this; omega
  obtain ⟨pm2, qm2⟩ := box_at Bq
  replace pb := (Sq.cell (p := ⟨w.heap.size, 0, none⟩) zb).trans pb
  replace qb := (Sq.cell (p := ⟨w.heap.size, 1, none⟩) zb).trans qb
  replace zb : w.heap.size < w10_.heap.size := Nat.lt_of_lt_of_le zb Sq.size
  replace pc := (Sq.cell (p := ⟨w1_.heap.size, 0, none⟩) zc).trans pc
  replace qc := (Sq.cell (p := ⟨w1_.heap.size, 1, none⟩) zc).trans qc
  replace zc : w1_.heap.size < w10_.heap.size := Nat.lt_of_lt_of_le zc Sq.size
  replace pm := (Sq.cell (p := ⟨w3_.heap.size, 0, none⟩) zm).trans pm
  replace qm := (Sq.cell (p := ⟨w3_.heap.size, 1, none⟩) zm).trans qm
  replace zm : w3_.heap.size < w10_.heap.size := Nat.lt_of_lt_of_le zm Sq.size
  replace pc2 := (Sq.cell (p := ⟨w5_.heap.size, 0, none⟩) zc2).trans pc2
  replace qc2 := (Sq.cell (p := ⟨w5_.heap.size, 1, none⟩) zc2).trans qc2
  replace zc2 : w5_.heap.size < w10_.heap.size := Nat.lt_of_lt_of_le zc2 Sq.size
  replace HA : Hid (Rd w10_ w10_.heap.size A bs) := HA.out.on Sq
  replace HD : Hid (RdV w10_ w10_.heap.size B (nc ns)) := HD.out.on Sq
  replace R1 : Hid (Rd w10_ w10_.heap.size A1 bC) := R1.out.on Sq
  replace R2 : Hid (Rd w10_ w10_.heap.size A2 bM) := R2.out.on Sq
  replace R3 : Hid (RdV w10_ w10_.heap.size A3 (nc nsA)) := R3.out.on Sq
  replace R4 : Hid (Rd w10_ w10_.heap.size A4 bC) := R4.out.on Sq
  replace R5 : Hid (RdV w10_ w10_.heap.size A5 (ic l)) := R5.out.on Sq
  replace R6 : Hid (Rd w10_ w10_.heap.size A6 bM) := R6.out.on Sq
  replace HB : Hid (Below w.heap.size w w10_) := HB.out.trans (Sq.mono HB.out.size)
  clear Bq Sq
  have R7 := Lib.hid Rq; clear Rq
  go_wp2_with fail
  refine (ubegun_true _).mono ?_
  rintro e w11_ ⟨rfl, Bq⟩
  have Sq : Below w10_.heap.size w10_ w11_ := Bq
  replace pb := (Sq.cell (p := ⟨w.heap.size, 0, none⟩) zb).trans pb
  replace qb := (Sq.cell (p := ⟨w.heap.size, 1, none⟩) zb).trans qb
  replace zb : w.heap.size < w11_.heap.size := Nat.lt_of_lt_of_le zb Sq.size
  replace pc := (Sq.cell (p := ⟨w1_.heap.size, 0, none⟩) zc).trans pc
  replace qc := (Sq.cell (p := ⟨w1_.heap.size, 1, none⟩) zc).trans qc
  replace zc : w1_.heap.size < w11_.heap.size := Nat.lt_of_lt_of_le zc Sq.size
  replace pm := (Sq.cell (p := ⟨w3_.heap.size, 0, none⟩) zm).trans pm
  replace qm := (Sq.cell (p := ⟨w3_.heap.size, 1, none⟩) zm).trans qm
  replace zm : w3_.heap.size < w11_.heap.size := Nat.lt_of_lt_of_le zm Sq.size
  replace pc2 := (Sq.cell (p := ⟨w5_.heap.size, 0, none⟩) zc2).trans pc2
  replace qc2 := (Sq.cell (p := ⟨w5_.heap.size, 1, none⟩) zc2).trans qc2
  replace zc2 : w5_.heap.size < w11_.heap.size := Nat.lt_of_lt_of_le zc2 Sq.size
  replace pm2 := (Sq.cell (p := ⟨w9_.heap.size, 0, none⟩) zm2).trans pm2
  replace qm2 := (Sq.cell (p := ⟨w9_.heap.size, 1, none⟩) zm2).trans qm2
  replace zm2 : w9_.heap.size < w11_.heap.size := Nat.lt_of_lt_of_le zm2 Sq.size
  replace HA : Hid (Rd w11_ w11_.heap.size A bs) := HA.out.on Sq
  replace HD : Hid (RdV w11_ w11_.heap.size B (nc ns)) := HD.out.on Sq
  replace R1 : Hid (Rd w11_ w11_.heap.size A1 bC) := R1.out.on Sq
  replace R2 : Hid (Rd w11_ w11_.heap.size A2 bM) := R2.out.on Sq
  replace R3 : Hid (RdV w11_ w11_.heap.size A3 (nc nsA)) := R3.out.on Sq
  replace R4 : Hid (Rd w11_ w11_.heap.size A4 bC) := R4.out.on Sq
  replace R5 : Hid (RdV w11_ w11_.heap.size A5 (ic l)) := R5.out.on Sq
  replace R6 : Hid (Rd w11_ w11_.heap.size A6 bM) := R6.out.on Sq
  replace R7 : Hid (RdV w11_ w11_.heap.size A7 (nc nsA)) := R7.out.on Sq
  replace HB : Hid (Below w.heap.size w w11_) := HB.out.trans (Sq.mono HB.out.size)
  clear Bq Sq
  go_wp2_with fail
  refine (HSC.out A1 A4 c1 c4 _ R1.out R4.out).mono ?_
  rintro e w12_ ⟨rfl, Bq⟩
  have Sq : Below w11_.heap.size w11_ w12_ := Bq
  replace pb := (Sq.cell (p := ⟨w.heap.size, 0, none⟩) zb).trans pb
  replace qb := (Sq.cell (p := ⟨w.heap.size, 1, none⟩) zb).trans qb
  replace zb : w.heap.size < w12_.heap.size := Nat.lt_of_lt_of_le zb Sq.size
  replace pc := (Sq.cell (p := ⟨w1_.heap.size, 0, none⟩) zc).trans pc
  replace qc := (Sq.cell (p := ⟨w1_.heap.size, 1, none⟩) zc).trans qc
  replace zc : w1_.heap.size < w12_.heap.size := Nat.lt_of_lt_of_le zc Sq.size
  replace pm := (Sq.cell (p := ⟨w3_.heap.size, 0, none⟩) zm).trans pm
  replace qm := (Sq.cell (p := ⟨w3_.heap.size, 1, none⟩) zm).trans qm
  replace zm : w3_.heap.size < w12_.heap.size := Nat.lt_of_lt_of_le zm Sq.size
  replace pc2 := (Sq.cell (p := ⟨w5_.heap.size, 0, none⟩) zc2).trans pc2
  replace qc2 := (Sq.cell (p := ⟨w5_.heap.size, 1, none⟩) zc2).trans qc2
  replace zc2 : w5_.heap.size < w12_.heap.size := Nat.lt_of_lt_of_le zc2 Sq.size
  replace pm2 := (Sq.cell (p := ⟨w9_.heap.size, 0, none⟩) zm2).trans pm2
  replace qm2 := (Sq.cell (p := ⟨w9_.heap.size, 1, none⟩) zm2).trans qm2
  replace zm2 : w9_.heap.size < w12_.heap.size := Nat.lt_of_lt_of_le zm2 Sq.size
  replace HA : Hid (Rd w12_ w12_.heap.size A bs) := HA.out.on Sq
  replace HD : Hid (RdV w12_ w12_.heap.size B (nc ns)) := HD.out.on Sq
  replace R1 : Hid (Rd w12_ w12_.heap.size A1 bC) := R1.out.on Sq
  replace R2 : Hid (Rd w12_ w12_.heap.size A2 bM) := R2.out.on Sq
  replace R3 : Hid (RdV w12_ w12_.heap.size A3 (nc nsA)) := R3.out.on Sq
  replace R4 : Hid (Rd w12_ w12_.heap.size A4 bC) := R4.out.on Sq
  replace R5 : Hid (RdV w12_ w12_.heap.size A5 (ic l)) := R5.out.on Sq
  replace R6 : Hid (Rd w12_ w12_.heap.size A6 bM) := R6.out.on Sq
  replace R7 : Hid (RdV w12_ w12_.heap.size A7 (nc nsA)) := R7.out.on Sq
  replace HB : Hid (Below w.heap.size w w12_) := HB.out.trans (Sq.mono HB.out.size)
  clear Bq Sq
  go_wp2_with fail
  refine (HSM.out A2 A6 c2 c6 _ R2.out R6.out).mono ?_
  rintro e w13_ ⟨rfl, Bq⟩
  have Sq : Below w12_.heap.size w12_ w13_ := Bq
  replace pb := (Sq.cell (p := ⟨w.heap.size, 0, none⟩) zb).trans pb
  replace qb := (Sq.cell (p := ⟨w.heap.size, 1, none⟩) zb).trans qb
  replace zb : w.heap.size < w13_.heap.size := Nat.lt_of_lt_of_le zb Sq.size
  replace pc := (Sq.cell (p := ⟨w1_.heap.size, 0, none⟩) zc).trans pc
  replace qc := (Sq.cell (p := ⟨w1_.heap.size, 1, none⟩) zc).trans qc
  replace zc : w1_.heap.size < w13_.heap.size := Nat.lt_of_lt_of_le zc Sq.size
  replace pm := (Sq.cell (p := ⟨w3_.heap.size, 0, none⟩) zm).trans pm
  replace qm := (Sq.cell (p := ⟨w3_.heap.size, 1, none⟩) zm).trans qm
  replace zm : w3_.heap.size < w13_.heap.size := Nat.lt_of_lt_of_le zm Sq.size
  replace pc2 := (Sq.cell (p := ⟨w5_.heap.size, 0, none⟩) zc2).trans pc2
  replace qc2 := (Sq.cell (p := ⟨w5_.heap.size, 1, none⟩) zc2).trans qc2
  replace zc2 : w5_.heap.size < w13_.heap.size := Nat.lt_of_lt_of_le zc2 Sq.size
  replace pm2 := (Sq.cell (p := ⟨w9_.heap.size, 0, none⟩) zm2).trans pm2
  replace qm2 := (Sq.cell (p := ⟨w9_.heap.size, 1, none⟩) zm2).trans qm2
  replace zm2 : w9_.heap.size < w13_.heap.size := Nat.lt_of_lt_of_le zm2 Sq.size
  replace HA : Hid (Rd w13_ w13_.heap.size A bs) := HA.out.on Sq
  replace HD : Hid (RdV w13_ w13_.heap.size B (nc ns)) := HD.out.on Sq
  replace R1 : Hid (Rd w13_ w13_.heap.size A1 bC) := R1.out.on Sq
  replace R2 : Hid (Rd w13_ w13_.heap.size A2 bM) := R2.out.on Sq
  replace R3 : Hid (RdV w13_ w13_.heap.size A3 (nc nsA)) := R3.out.on Sq
  replace R4 : Hid (Rd w13_ w13_.heap.size A4 bC) := R4.out.on Sq
  replace R5 : Hid (RdV w13_ w13_.heap.size A5 (ic l)) := R5.out.on Sq
  replace R6 : Hid (Rd w13_ w13_.heap.size A6 bM) := R6.out.on Sq
  replace R7 : Hid (RdV w13_ w13_.heap.size A7 (nc nsA)) := R7.out.on Sq
  replace HB : Hid (Below w.heap.size w w13_) := HB.out.trans (Sq.mono HB.out.size)
  clear Bq Sq
  go_wp2_with fail
  refine (HSN.out A3 A7 c3 c7 _ R3.out R7.out).mono ?_
  rintro e w14_ ⟨rfl, Bq⟩
  have Sq : Below w13_.heap.size w13_ w14_ := Bq
  replace pb := (Sq.cell (p := ⟨w.heap.size, 0, none⟩) zb).trans pb
  replace qb := (Sq.cell (p := ⟨w.heap.size, 1, none⟩) zb).trans qb
  replace zb : w.heap.size < w14_.heap.size := Nat.lt_of_lt_of_le zb Sq.size
  replace pc := (Sq.cell (p := ⟨w1_.heap.size, 0, none⟩) zc).trans pc
  replace qc := (Sq.cell (p := ⟨w1_.heap.size, 1, none⟩) zc).trans qc
  replace zc : w1_.heap.size < w14_.heap.size := Nat.lt_of_lt_of_le zc Sq.size
  replace pm := (Sq.cell (p := ⟨w3_.heap.size, 0, none⟩) zm).trans pm
  replace qm := (Sq.cell (p := ⟨w3_.heap.size, 1, none⟩) zm).trans qm
  replace zm : w3_.heap.size < w14_.heap.size := Nat.lt_of_lt_of_le zm Sq.size
  replace pc2 := (Sq.cell (p := ⟨w5_.heap.size, 0, none⟩) zc2).trans pc2
  replace qc2 := (Sq.cell (p := ⟨w5_.heap.size, 1, none⟩) zc2).trans qc2
  replace zc2 : w5_.heap.size < w14_.heap.size := Nat.lt_of_lt_of_le zc2 Sq.size
  replace pm2 := (Sq.cell (p := ⟨w9_.heap.size, 0, none⟩) zm2).trans pm2
  replace qm2 := (Sq.cell (p := ⟨w9_.heap.size, 1, none⟩) zm2).trans qm2
  replace zm2 : w9_.heap.size < w14_.heap.size := Nat.lt_of_lt_of_le zm2 Sq.size
  replace HA : Hid (Rd w14_ w14_.heap.size A bs) := HA.out.on Sq
  replace HD : Hid (RdV w14_ w14_.heap.size B (nc ns)) := HD.out.on Sq
  replace R1 : Hid (Rd w14_ w14_.heap.size A1 bC) := R1.out.on Sq
  replace R2 : Hid (Rd w14_ w14_.heap.size A2 bM) := R2.out.on Sq
  replace R3 : Hid (RdV w14_ w14_.heap.size A3 (nc nsA)) := R3.out.on Sq
  replace R4 : Hid (Rd w14_ w14_.heap.size A4 bC) := R4.out.on Sq
  replace R5 : Hid (RdV w14_ w14_.heap.size A5 (ic l)) := R5.out.on Sq
  replace R6 : Hid (Rd w14_ w14_.heap.size A6 bM) := R6.out.on Sq
  replace R7 : Hid (RdV w14_ w14_.heap.size A7 (nc nsA)) := R7.out.on Sq
  replace HB : Hid (Below w.heap.size w w14_) := HB.out.trans (Sq.mono HB.out.size)
  clear Bq Sq
  go_wp2
  go_ret
  exact ⟨rfl, HB.out⟩

set_option maxRecDepth 100000 in
set_option maxHeartbeats 4000000 in
theorem utells_found (n len : Int) (A B : Option Addr) (c d N M : Nat) (bs ns : List Nat) (p m : Int) (w : World) (hA : Rd w w.heap.size A bs) (hB : RdV w w.heap.size B (nc ns)) (l : List Bool) (N5 : Nat) (rn rt : Int) (ht : 0 ≤ rt)
    (lC lM eC eM tA eA : Int) (nC nM nA : Nat) (bC bM nsA : List Nat)
    (HCode : Hid (∀ V, Calls Try.prog 19 #[.int .u64 n] V (Gv V lC nC bC eC)))
    (HCode2 : Hid (∀ V, Calls Try.prog 23 #[.int .u64 n] V (Gv V lC nC bC eC)))
    (HRead : Hid (∀ V, Rd V V.heap.size A bs → Calls Try.prog 20 #[.agg #[.int .i64 len, .slice A N c], .int .i64 p] V fun e w' => e = .returned (.tuple #[.int .u64 rn, .int .i64 rt, .int .i64 0]) ∧ Below V.heap.size V w'))
    (HErr : Hid (∀ V, Rd V V.heap.size A bs → Calls Try.prog 24 #[.agg #[.int .i64 len, .slice A N c], .int .i64 p] V fun e w' => e = .returned (.int .i64 0) ∧ Below V.heap.size V w'))
    (HBL : Hid (∀ V, Rd V V.heap.size A bs → Calls Try.prog 26 #[.agg #[.int .i64 len, .slice A N c]] V fun e w' => ∃ A c, e = .returned (.slice A N5 c) ∧ RdV w' w'.heap.size A (ic l) ∧ Below V.heap.size V w'))
    (HUR : Hid (∀ A c V, RdV V V.heap.size A (ic l) → Calls Try.prog 25 #[.slice A N5 c, .int .i64 p] V fun e w' => e = .returned (.tuple #[.int .u64 rn, .int .i64 rt]) ∧ Below V.heap.size V w'))
    (HMany : Hid (∀ V, RdV V V.heap.size B (nc ns) → Calls Try.prog 21 #[.slice B M d] V (Gv V lM nM bM eM)))
    (HMany2 : Hid (∀ V, RdV V V.heap.size B (nc ns) → Calls Try.prog 27 #[.slice B M d] V (Gv V lM nM bM eM)))
    (HAll : Hid (∀ V, Rd V V.heap.size A bs → Calls Try.prog 22 #[.agg #[.int .i64 len, .slice A N c], .int .i64 m] V (AllQ V nA nsA tA eA)))
    (HAll2 : Hid (∀ V, Rd V V.heap.size A bs → Calls Try.prog 28 #[.agg #[.int .i64 len, .slice A N c], .int .i64 m] V (AllQ V nA nsA tA eA)))
    (HSC : Hid (∀ A1 A2 c1 c2 V, Rd V V.heap.size A1 bC → Rd V V.heap.size A2 bC → Calls Try.prog 30 #[.agg #[.int .i64 lC, .slice A1 nC c1], .agg #[.int .i64 lC, .slice A2 nC c2]] V fun e w' => e = .returned (.bool true) ∧ Below V.heap.size V w'))
    (HSM : Hid (∀ A1 A2 c1 c2 V, Rd V V.heap.size A1 bM → Rd V V.heap.size A2 bM → Calls Try.prog 30 #[.agg #[.int .i64 lM, .slice A1 nM c1], .agg #[.int .i64 lM, .slice A2 nM c2]] V fun e w' => e = .returned (.bool true) ∧ Below V.heap.size V w'))
    (HSN : Hid (∀ A1 A2 c1 c2 V, RdV V V.heap.size A1 (nc nsA) → RdV V V.heap.size A2 (nc nsA) → Calls Try.prog 31 #[.slice A1 nA c1, .slice A2 nA c2] V fun e w' => e = .returned (.bool true) ∧ Below V.heap.size V w')) :
    Calls Try.prog 3 #[.int .u64 n, .agg #[.int .i64 len, .slice A N c], .int .i64 p, .slice B M d, .int .i64 m] w fun e w' => e = .returned (.bool true) ∧ Below w.heap.size w w' := by
  have HA := Lib.hid hA; clear hA
  have HD := Lib.hid hB; clear hB
  have t0 : ¬ rt < 0 := by omega
  go_enter Try.func3, Try.ntmps3
  go_wp2_with fail
  refine (HCode.out _).mono ?_
  rintro e w1_ ⟨A1, c1, rfl, Rq, Bq⟩
  rw [World.size_alloc] at Bq
  have Sq : Below w.heap.size w w1_ := (one_below w _).trans (Bq.mono (by omega))
  have zb : w.heap.size < w1_.heap.size := by have := Bq.size; rw [World.size_alloc] at this; omega
  obtain ⟨pb, qb⟩ := box_at Bq
  replace HA : Hid (Rd w1_ w1_.heap.size A bs) := HA.out.on Sq
  replace HD : Hid (RdV w1_ w1_.heap.size B (nc ns)) := HD.out.on Sq
  have HB : Hid (Below w.heap.size w w1_) := Sq
  clear Bq Sq
  have R1 := Lib.hid Rq; clear Rq
  go_wp2_with fail
  refine (HRead.out _ (HA.out.on (one_below w1_ _))).mono ?_
  rintro e w2_ ⟨rfl, Bq⟩
  rw [World.size_alloc] at Bq
  have Sq : Below w1_.heap.size w1_ w2_ := (one_below w1_ _).trans (Bq.mono (by omega))
  have zc : w1_.heap.size < w2_.heap.size := by have := Bq.size; rw [World.size_alloc] at this; omega
  obtain ⟨pc, qc⟩ := box_at Bq
  replace pb := (Sq.cell (p := ⟨w.heap.size, 0, none⟩) zb).trans pb
  replace qb := (Sq.cell (p := ⟨w.heap.size, 1, none⟩) zb).trans qb
  replace zb : w.heap.size < w2_.heap.size := Nat.lt_of_lt_of_le zb Sq.size
  replace HA : Hid (Rd w2_ w2_.heap.size A bs) := HA.out.on Sq
  replace HD : Hid (RdV w2_ w2_.heap.size B (nc ns)) := HD.out.on Sq
  replace R1 : Hid (Rd w2_ w2_.heap.size A1 bC) := R1.out.on Sq
  replace HB : Hid (Below w.heap.size w w2_) := HB.out.trans (Sq.mono HB.out.size)
  clear Bq Sq
  go_wp2_with fail
  refine (HMany.out _ HD.out).mono ?_
  rintro e w3_ ⟨A2, c2, rfl, Rq, Bq⟩
  have Sq : Below w2_.heap.size w2_ w3_ := Bq
  replace pb := (Sq.cell (p := ⟨w.heap.size, 0, none⟩) zb).trans pb
  replace qb := (Sq.cell (p := ⟨w.heap.size, 1, none⟩) zb).trans qb
  replace zb : w.heap.size < w3_.heap.size := Nat.lt_of_lt_of_le zb Sq.size
  replace pc := (Sq.cell (p := ⟨w1_.heap.size, 0, none⟩) zc).trans pc
  replace qc := (Sq.cell (p := ⟨w1_.heap.size, 1, none⟩) zc).trans qc
  replace zc : w1_.heap.size < w3_.heap.size := Nat.lt_of_lt_of_le zc Sq.size
  replace HA : Hid (Rd w3_ w3_.heap.size A bs) := HA.out.on Sq
  replace HD : Hid (RdV w3_ w3_.heap.size B (nc ns)) := HD.out.on Sq
  replace R1 : Hid (Rd w3_ w3_.heap.size A1 bC) := R1.out.on Sq
  replace HB : Hid (Below w.heap.size w w3_) := HB.out.trans (Sq.mono HB.out.size)
  clear Bq Sq
  have R2 := Lib.hid Rq; clear Rq
  go_wp2_with fail
  refine (HAll.out _ (HA.out.on (one_below w3_ _))).mono ?_
  rintro e w4_ ⟨A3, c3, rfl, Rq, Bq⟩
  rw [World.size_alloc] at Bq
  have Sq : Below w3_.heap.size w3_ w4_ := (one_below w3_ _).trans (Bq.mono (by omega))
  have zm : w3_.heap.size < w4_.heap.size := by have := Bq.size; rw [World.size_alloc] at this; omega
  obtain ⟨pm, qm⟩ := box_at Bq
  replace pb := (Sq.cell (p := ⟨w.heap.size, 0, none⟩) zb).trans pb
  replace qb := (Sq.cell (p := ⟨w.heap.size, 1, none⟩) zb).trans qb
  replace zb : w.heap.size < w4_.heap.size := Nat.lt_of_lt_of_le zb Sq.size
  replace pc := (Sq.cell (p := ⟨w1_.heap.size, 0, none⟩) zc).trans pc
  replace qc := (Sq.cell (p := ⟨w1_.heap.size, 1, none⟩) zc).trans qc
  replace zc : w1_.heap.size < w4_.heap.size := Nat.lt_of_lt_of_le zc Sq.size
  replace HA : Hid (Rd w4_ w4_.heap.size A bs) := HA.out.on Sq
  replace HD : Hid (RdV w4_ w4_.heap.size B (nc ns)) := HD.out.on Sq
  replace R1 : Hid (Rd w4_ w4_.heap.size A1 bC) := R1.out.on Sq
  replace R2 : Hid (Rd w4_ w4_.heap.size A2 bM) := R2.out.on Sq
  replace HB : Hid (Below w.heap.size w w4_) := HB.out.trans (Sq.mono HB.out.size)
  clear Bq Sq
  have R3 := Lib.hid Rq; clear Rq
  go_wp2_with fail
  refine (HCode2.out _).mono ?_
  rintro e w5_ ⟨A4, c4, rfl, Rq, Bq⟩
  have Sq : Below w4_.heap.size w4_ w5_ := Bq
  replace pb := (Sq.cell (p := ⟨w.heap.size, 0, none⟩) zb).trans pb
  replace qb := (Sq.cell (p := ⟨w.heap.size, 1, none⟩) zb).trans qb
  replace zb : w.heap.size < w5_.heap.size := Nat.lt_of_lt_of_le zb Sq.size
  replace pc := (Sq.cell (p := ⟨w1_.heap.size, 0, none⟩) zc).trans pc
  replace qc := (Sq.cell (p := ⟨w1_.heap.size, 1, none⟩) zc).trans qc
  replace zc : w1_.heap.size < w5_.heap.size := Nat.lt_of_lt_of_le zc Sq.size
  replace pm := (Sq.cell (p := ⟨w3_.heap.size, 0, none⟩) zm).trans pm
  replace qm := (Sq.cell (p := ⟨w3_.heap.size, 1, none⟩) zm).trans qm
  replace zm : w3_.heap.size < w5_.heap.size := Nat.lt_of_lt_of_le zm Sq.size
  replace HA : Hid (Rd w5_ w5_.heap.size A bs) := HA.out.on Sq
  replace HD : Hid (RdV w5_ w5_.heap.size B (nc ns)) := HD.out.on Sq
  replace R1 : Hid (Rd w5_ w5_.heap.size A1 bC) := R1.out.on Sq
  replace R2 : Hid (Rd w5_ w5_.heap.size A2 bM) := R2.out.on Sq
  replace R3 : Hid (RdV w5_ w5_.heap.size A3 (nc nsA)) := R3.out.on Sq
  replace HB : Hid (Below w.heap.size w w5_) := HB.out.trans (Sq.mono HB.out.size)
  clear Bq Sq
  have R4 := Lib.hid Rq; clear Rq
  go_wp2_with fail
  refine (HErr.out _ (HA.out.on (one_below w5_ _))).mono ?_
  rintro e w6_ ⟨rfl, Bq⟩
  rw [World.size_alloc] at Bq
  have Sq : Below w5_.heap.size w5_ w6_ := (one_below w5_ _).trans (Bq.mono (by omega))
  have zc2 : w5_.heap.size < w6_.heap.size := by have := Bq.size; rw [World.size_alloc] at this; omega
  obtain ⟨pc2, qc2⟩ := box_at Bq
  replace pb := (Sq.cell (p := ⟨w.heap.size, 0, none⟩) zb).trans pb
  replace qb := (Sq.cell (p := ⟨w.heap.size, 1, none⟩) zb).trans qb
  replace zb : w.heap.size < w6_.heap.size := Nat.lt_of_lt_of_le zb Sq.size
  replace pc := (Sq.cell (p := ⟨w1_.heap.size, 0, none⟩) zc).trans pc
  replace qc := (Sq.cell (p := ⟨w1_.heap.size, 1, none⟩) zc).trans qc
  replace zc : w1_.heap.size < w6_.heap.size := Nat.lt_of_lt_of_le zc Sq.size
  replace pm := (Sq.cell (p := ⟨w3_.heap.size, 0, none⟩) zm).trans pm
  replace qm := (Sq.cell (p := ⟨w3_.heap.size, 1, none⟩) zm).trans qm
  replace zm : w3_.heap.size < w6_.heap.size := Nat.lt_of_lt_of_le zm Sq.size
  replace HA : Hid (Rd w6_ w6_.heap.size A bs) := HA.out.on Sq
  replace HD : Hid (RdV w6_ w6_.heap.size B (nc ns)) := HD.out.on Sq
  replace R1 : Hid (Rd w6_ w6_.heap.size A1 bC) := R1.out.on Sq
  replace R2 : Hid (Rd w6_ w6_.heap.size A2 bM) := R2.out.on Sq
  replace R3 : Hid (RdV w6_ w6_.heap.size A3 (nc nsA)) := R3.out.on Sq
  replace R4 : Hid (Rd w6_ w6_.heap.size A4 bC) := R4.out.on Sq
  replace HB : Hid (Below w.heap.size w w6_) := HB.out.trans (Sq.mono HB.out.size)
  clear Bq Sq
  go_wp2_with fail
  refine (HBL.out _ HA.out).mono ?_
  rintro e w7_ ⟨A5, c5, rfl, Rq, Bq⟩
  have Sq : Below w6_.heap.size w6_ w7_ := Bq
  replace pb := (Sq.cell (p := ⟨w.heap.size, 0, none⟩) zb).trans pb
  replace qb := (Sq.cell (p := ⟨w.heap.size, 1, none⟩) zb).trans qb
  replace zb : w.heap.size < w7_.heap.size := Nat.lt_of_lt_of_le zb Sq.size
  replace pc := (Sq.cell (p := ⟨w1_.heap.size, 0, none⟩) zc).trans pc
  replace qc := (Sq.cell (p := ⟨w1_.heap.size, 1, none⟩) zc).trans qc
  replace zc : w1_.heap.size < w7_.heap.size := Nat.lt_of_lt_of_le zc Sq.size
  replace pm := (Sq.cell (p := ⟨w3_.heap.size, 0, none⟩) zm).trans pm
  replace qm := (Sq.cell (p := ⟨w3_.heap.size, 1, none⟩) zm).trans qm
  replace zm : w3_.heap.size < w7_.heap.size := Nat.lt_of_lt_of_le zm Sq.size
  replace pc2 := (Sq.cell (p := ⟨w5_.heap.size, 0, none⟩) zc2).trans pc2
  replace qc2 := (Sq.cell (p := ⟨w5_.heap.size, 1, none⟩) zc2).trans qc2
  replace zc2 : w5_.heap.size < w7_.heap.size := Nat.lt_of_lt_of_le zc2 Sq.size
  replace HA : Hid (Rd w7_ w7_.heap.size A bs) := HA.out.on Sq
  replace HD : Hid (RdV w7_ w7_.heap.size B (nc ns)) := HD.out.on Sq
  replace R1 : Hid (Rd w7_ w7_.heap.size A1 bC) := R1.out.on Sq
  replace R2 : Hid (Rd w7_ w7_.heap.size A2 bM) := R2.out.on Sq
  replace R3 : Hid (RdV w7_ w7_.heap.size A3 (nc nsA)) := R3.out.on Sq
  replace R4 : Hid (Rd w7_ w7_.heap.size A4 bC) := R4.out.on Sq
  replace HB : Hid (Below w.heap.size w w7_) := HB.out.trans (Sq.mono HB.out.size)
  clear Bq Sq
  have R5 := Lib.hid Rq; clear Rq
  go_wp2_with fail
  refine (HUR.out _ _ _ R5.out).mono ?_
  rintro e w8_ ⟨rfl, Bq⟩
  have Sq : Below w7_.heap.size w7_ w8_ := Bq
  replace pb := (Sq.cell (p := ⟨w.heap.size, 0, none⟩) zb).trans pb
  replace qb := (Sq.cell (p := ⟨w.heap.size, 1, none⟩) zb).trans qb
  replace zb : w.heap.size < w8_.heap.size := Nat.lt_of_lt_of_le zb Sq.size
  replace pc := (Sq.cell (p := ⟨w1_.heap.size, 0, none⟩) zc).trans pc
  replace qc := (Sq.cell (p := ⟨w1_.heap.size, 1, none⟩) zc).trans qc
  replace zc : w1_.heap.size < w8_.heap.size := Nat.lt_of_lt_of_le zc Sq.size
  replace pm := (Sq.cell (p := ⟨w3_.heap.size, 0, none⟩) zm).trans pm
  replace qm := (Sq.cell (p := ⟨w3_.heap.size, 1, none⟩) zm).trans qm
  replace zm : w3_.heap.size < w8_.heap.size := Nat.lt_of_lt_of_le zm Sq.size
  replace pc2 := (Sq.cell (p := ⟨w5_.heap.size, 0, none⟩) zc2).trans pc2
  replace qc2 := (Sq.cell (p := ⟨w5_.heap.size, 1, none⟩) zc2).trans qc2
  replace zc2 : w5_.heap.size < w8_.heap.size := Nat.lt_of_lt_of_le zc2 Sq.size
  replace HA : Hid (Rd w8_ w8_.heap.size A bs) := HA.out.on Sq
  replace HD : Hid (RdV w8_ w8_.heap.size B (nc ns)) := HD.out.on Sq
  replace R1 : Hid (Rd w8_ w8_.heap.size A1 bC) := R1.out.on Sq
  replace R2 : Hid (Rd w8_ w8_.heap.size A2 bM) := R2.out.on Sq
  replace R3 : Hid (RdV w8_ w8_.heap.size A3 (nc nsA)) := R3.out.on Sq
  replace R4 : Hid (Rd w8_ w8_.heap.size A4 bC) := R4.out.on Sq
  replace R5 : Hid (RdV w8_ w8_.heap.size A5 (ic l)) := R5.out.on Sq
  replace HB : Hid (Below w.heap.size w w8_) := HB.out.trans (Sq.mono HB.out.size)
  clear Bq Sq
  go_wp2_with fail
  refine (HMany2.out _ HD.out).mono ?_
  rintro e w9_ ⟨A6, c6, rfl, Rq, Bq⟩
  have Sq : Below w8_.heap.size w8_ w9_ := Bq
  replace pb := (Sq.cell (p := ⟨w.heap.size, 0, none⟩) zb).trans pb
  replace qb := (Sq.cell (p := ⟨w.heap.size, 1, none⟩) zb).trans qb
  replace zb : w.heap.size < w9_.heap.size := Nat.lt_of_lt_of_le zb Sq.size
  replace pc := (Sq.cell (p := ⟨w1_.heap.size, 0, none⟩) zc).trans pc
  replace qc := (Sq.cell (p := ⟨w1_.heap.size, 1, none⟩) zc).trans qc
  replace zc : w1_.heap.size < w9_.heap.size := Nat.lt_of_lt_of_le zc Sq.size
  replace pm := (Sq.cell (p := ⟨w3_.heap.size, 0, none⟩) zm).trans pm
  replace qm := (Sq.cell (p := ⟨w3_.heap.size, 1, none⟩) zm).trans qm
  replace zm : w3_.heap.size < w9_.heap.size := Nat.lt_of_lt_of_le zm Sq.size
  replace pc2 := (Sq.cell (p := ⟨w5_.heap.size, 0, none⟩) zc2).trans pc2
  replace qc2 := (Sq.cell (p := ⟨w5_.heap.size, 1, none⟩) zc2).trans qc2
  replace zc2 : w5_.heap.size < w9_.heap.size := Nat.lt_of_lt_of_le zc2 Sq.size
  replace HA : Hid (Rd w9_ w9_.heap.size A bs) := HA.out.on Sq
  replace HD : Hid (RdV w9_ w9_.heap.size B (nc ns)) := HD.out.on Sq
  replace R1 : Hid (Rd w9_ w9_.heap.size A1 bC) := R1.out.on Sq
  replace R2 : Hid (Rd w9_ w9_.heap.size A2 bM) := R2.out.on Sq
  replace R3 : Hid (RdV w9_ w9_.heap.size A3 (nc nsA)) := R3.out.on Sq
  replace R4 : Hid (Rd w9_ w9_.heap.size A4 bC) := R4.out.on Sq
  replace R5 : Hid (RdV w9_ w9_.heap.size A5 (ic l)) := R5.out.on Sq
  replace HB : Hid (Below w.heap.size w w9_) := HB.out.trans (Sq.mono HB.out.size)
  clear Bq Sq
  have R6 := Lib.hid Rq; clear Rq
  go_wp2_with fail
  refine (HAll2.out _ (HA.out.on (one_below w9_ _))).mono ?_
  rintro e w10_ ⟨A7, c7, rfl, Rq, Bq⟩
  rw [World.size_alloc] at Bq
  have Sq : Below w9_.heap.size w9_ w10_ := (one_below w9_ _).trans (Bq.mono (by omega))
  have zm2 : w9_.heap.size < w10_.heap.size := by have := Bq.size; rw [World.size_alloc] at this; omega
  obtain ⟨pm2, qm2⟩ := box_at Bq
  replace pb := (Sq.cell (p := ⟨w.heap.size, 0, none⟩) zb).trans pb
  replace qb := (Sq.cell (p := ⟨w.heap.size, 1, none⟩) zb).trans qb
  replace zb : w.heap.size < w10_.heap.size := Nat.lt_of_lt_of_le zb Sq.size
  replace pc := (Sq.cell (p := ⟨w1_.heap.size, 0, none⟩) zc).trans pc
  replace qc := (Sq.cell (p := ⟨w1_.heap.size, 1, none⟩) zc).trans qc
  replace zc : w1_.heap.size < w10_.heap.size := Nat.lt_of_lt_of_le zc Sq.size
  replace pm := (Sq.cell (p := ⟨w3_.heap.size, 0, none⟩) zm).trans pm
  replace qm := (Sq.cell (p := ⟨w3_.heap.size, 1, none⟩) zm).trans qm
  replace zm : w3_.heap.size < w10_.heap.size := Nat.lt_of_lt_of_le zm Sq.size
  replace pc2 := (Sq.cell (p := ⟨w5_.heap.size, 0, none⟩) zc2).trans pc2
  replace qc2 := (Sq.cell (p := ⟨w5_.heap.size, 1, none⟩) zc2).trans qc2
  replace zc2 : w5_.heap.size < w10_.heap.size := Nat.lt_of_lt_of_le zc2 Sq.size
  replace HA : Hid (Rd w10_ w10_.heap.size A bs) := HA.out.on Sq
  replace HD : Hid (RdV w10_ w10_.heap.size B (nc ns)) := HD.out.on Sq
  replace R1 : Hid (Rd w10_ w10_.heap.size A1 bC) := R1.out.on Sq
  replace R2 : Hid (Rd w10_ w10_.heap.size A2 bM) := R2.out.on Sq
  replace R3 : Hid (RdV w10_ w10_.heap.size A3 (nc nsA)) := R3.out.on Sq
  replace R4 : Hid (Rd w10_ w10_.heap.size A4 bC) := R4.out.on Sq
  replace R5 : Hid (RdV w10_ w10_.heap.size A5 (ic l)) := R5.out.on Sq
  replace R6 : Hid (Rd w10_ w10_.heap.size A6 bM) := R6.out.on Sq
  replace HB : Hid (Below w.heap.size w w10_) := HB.out.trans (Sq.mono HB.out.size)
  clear Bq Sq
  have R7 := Lib.hid Rq; clear Rq
  go_wp2_with fail
  refine (ubegun_true _).mono ?_
  rintro e w11_ ⟨rfl, Bq⟩
  have Sq : Below w10_.heap.size w10_ w11_ := Bq
  replace pb := (Sq.cell (p := ⟨w.heap.size, 0, none⟩) zb).trans pb
  replace qb := (Sq.cell (p := ⟨w.heap.size, 1, none⟩) zb).trans qb
  replace zb : w.heap.size < w11_.heap.size := Nat.lt_of_lt_of_le zb Sq.size
  replace pc := (Sq.cell (p := ⟨w1_.heap.size, 0, none⟩) zc).trans pc
  replace qc := (Sq.cell (p := ⟨w1_.heap.size, 1, none⟩) zc).trans qc
  replace zc : w1_.heap.size < w11_.heap.size := Nat.lt_of_lt_of_le zc Sq.size
  replace pm := (Sq.cell (p := ⟨w3_.heap.size, 0, none⟩) zm).trans pm
  replace qm := (Sq.cell (p := ⟨w3_.heap.size, 1, none⟩) zm).trans qm
  replace zm : w3_.heap.size < w11_.heap.size := Nat.lt_of_lt_of_le zm Sq.size
  replace pc2 := (Sq.cell (p := ⟨w5_.heap.size, 0, none⟩) zc2).trans pc2
  replace qc2 := (Sq.cell (p := ⟨w5_.heap.size, 1, none⟩) zc2).trans qc2
  replace zc2 : w5_.heap.size < w11_.heap.size := Nat.lt_of_lt_of_le zc2 Sq.size
  replace pm2 := (Sq.cell (p := ⟨w9_.heap.size, 0, none⟩) zm2).trans pm2
  replace qm2 := (Sq.cell (p := ⟨w9_.heap.size, 1, none⟩) zm2).trans qm2
  replace zm2 : w9_.heap.size < w11_.heap.size := Nat.lt_of_lt_of_le zm2 Sq.size
  replace HA : Hid (Rd w11_ w11_.heap.size A bs) := HA.out.on Sq
  replace HD : Hid (RdV w11_ w11_.heap.size B (nc ns)) := HD.out.on Sq
  replace R1 : Hid (Rd w11_ w11_.heap.size A1 bC) := R1.out.on Sq
  replace R2 : Hid (Rd w11_ w11_.heap.size A2 bM) := R2.out.on Sq
  replace R3 : Hid (RdV w11_ w11_.heap.size A3 (nc nsA)) := R3.out.on Sq
  replace R4 : Hid (Rd w11_ w11_.heap.size A4 bC) := R4.out.on Sq
  replace R5 : Hid (RdV w11_ w11_.heap.size A5 (ic l)) := R5.out.on Sq
  replace R6 : Hid (Rd w11_ w11_.heap.size A6 bM) := R6.out.on Sq
  replace R7 : Hid (RdV w11_ w11_.heap.size A7 (nc nsA)) := R7.out.on Sq
  replace HB : Hid (Below w.heap.size w w11_) := HB.out.trans (Sq.mono HB.out.size)
  clear Bq Sq
  go_wp2_with fail
  refine (HSC.out A1 A4 c1 c4 _ R1.out R4.out).mono ?_
  rintro e w12_ ⟨rfl, Bq⟩
  have Sq : Below w11_.heap.size w11_ w12_ := Bq
  replace pb := (Sq.cell (p := ⟨w.heap.size, 0, none⟩) zb).trans pb
  replace qb := (Sq.cell (p := ⟨w.heap.size, 1, none⟩) zb).trans qb
  replace zb : w.heap.size < w12_.heap.size := Nat.lt_of_lt_of_le zb Sq.size
  replace pc := (Sq.cell (p := ⟨w1_.heap.size, 0, none⟩) zc).trans pc
  replace qc := (Sq.cell (p := ⟨w1_.heap.size, 1, none⟩) zc).trans qc
  replace zc : w1_.heap.size < w12_.heap.size := Nat.lt_of_lt_of_le zc Sq.size
  replace pm := (Sq.cell (p := ⟨w3_.heap.size, 0, none⟩) zm).trans pm
  replace qm := (Sq.cell (p := ⟨w3_.heap.size, 1, none⟩) zm).trans qm
  replace zm : w3_.heap.size < w12_.heap.size := Nat.lt_of_lt_of_le zm Sq.size
  replace pc2 := (Sq.cell (p := ⟨w5_.heap.size, 0, none⟩) zc2).trans pc2
  replace qc2 := (Sq.cell (p := ⟨w5_.heap.size, 1, none⟩) zc2).trans qc2
  replace zc2 : w5_.heap.size < w12_.heap.size := Nat.lt_of_lt_of_le zc2 Sq.size
  replace pm2 := (Sq.cell (p := ⟨w9_.heap.size, 0, none⟩) zm2).trans pm2
  replace qm2 := (Sq.cell (p := ⟨w9_.heap.size, 1, none⟩) zm2).trans qm2
  replace zm2 : w9_.heap.size < w12_.heap.size := Nat.lt_of_lt_of_le zm2 Sq.size
  replace HA : Hid (Rd w12_ w12_.heap.size A bs) := HA.out.on Sq
  replace HD : Hid (RdV w12_ w12_.heap.size B (nc ns)) := HD.out.on Sq
  replace R1 : Hid (Rd w12_ w12_.heap.size A1 bC) := R1.out.on Sq
  replace R2 : Hid (Rd w12_ w12_.heap.size A2 bM) := R2.out.on Sq
  replace R3 : Hid (RdV w12_ w12_.heap.size A3 (nc nsA)) := R3.out.on Sq
  replace R4 : Hid (Rd w12_ w12_.heap.size A4 bC) := R4.out.on Sq
  replace R5 : Hid (RdV w12_ w12_.heap.size A5 (ic l)) := R5.out.on Sq
  replace R6 : Hid (Rd w12_ w12_.heap.size A6 bM) := R6.out.on Sq
  replace R7 : Hid (RdV w12_ w12_.heap.size A7 (nc nsA)) := R7.out.on Sq
  replace HB : Hid (Below w.heap.size w w12_) := HB.out.trans (Sq.mono HB.out.size)
  clear Bq Sq
  go_wp2_with fail
  refine (HSM.out A2 A6 c2 c6 _ R2.out R6.out).mono ?_
  rintro e w13_ ⟨rfl, Bq⟩
  have Sq : Below w12_.heap.size w12_ w13_ := Bq
  replace pb := (Sq.cell (p := ⟨w.heap.size, 0, none⟩) zb).trans pb
  replace qb := (Sq.cell (p := ⟨w.heap.size, 1, none⟩) zb).trans qb
  replace zb : w.heap.size < w13_.heap.size := Nat.lt_of_lt_of_le zb Sq.size
  replace pc := (Sq.cell (p := ⟨w1_.heap.size, 0, none⟩) zc).trans pc
  replace qc := (Sq.cell (p := ⟨w1_.heap.size, 1, none⟩) zc).trans qc
  replace zc : w1_.heap.size < w13_.heap.size := Nat.lt_of_lt_of_le zc Sq.size
  replace pm := (Sq.cell (p := ⟨w3_.heap.size, 0, none⟩) zm).trans pm
  replace qm := (Sq.cell (p := ⟨w3_.heap.size, 1, none⟩) zm).trans qm
  replace zm : w3_.heap.size < w13_.heap.size := Nat.lt_of_lt_of_le zm Sq.size
  replace pc2 := (Sq.cell (p := ⟨w5_.heap.size, 0, none⟩) zc2).trans pc2
  replace qc2 := (Sq.cell (p := ⟨w5_.heap.size, 1, none⟩) zc2).trans qc2
  replace zc2 : w5_.heap.size < w13_.heap.size := Nat.lt_of_lt_of_le zc2 Sq.size
  replace pm2 := (Sq.cell (p := ⟨w9_.heap.size, 0, none⟩) zm2).trans pm2
  replace qm2 := (Sq.cell (p := ⟨w9_.heap.size, 1, none⟩) zm2).trans qm2
  replace zm2 : w9_.heap.size < w13_.heap.size := Nat.lt_of_lt_of_le zm2 Sq.size
  replace HA : Hid (Rd w13_ w13_.heap.size A bs) := HA.out.on Sq
  replace HD : Hid (RdV w13_ w13_.heap.size B (nc ns)) := HD.out.on Sq
  replace R1 : Hid (Rd w13_ w13_.heap.size A1 bC) := R1.out.on Sq
  replace R2 : Hid (Rd w13_ w13_.heap.size A2 bM) := R2.out.on Sq
  replace R3 : Hid (RdV w13_ w13_.heap.size A3 (nc nsA)) := R3.out.on Sq
  replace R4 : Hid (Rd w13_ w13_.heap.size A4 bC) := R4.out.on Sq
  replace R5 : Hid (RdV w13_ w13_.heap.size A5 (ic l)) := R5.out.on Sq
  replace R6 : Hid (Rd w13_ w13_.heap.size A6 bM) := R6.out.on Sq
  replace R7 : Hid (RdV w13_ w13_.heap.size A7 (nc nsA)) := R7.out.on Sq
  replace HB : Hid (Below w.heap.size w w13_) := HB.out.trans (Sq.mono HB.out.size)
  clear Bq Sq
  go_wp2_with fail
  refine (HSN.out A3 A7 c3 c7 _ R3.out R7.out).mono ?_
  rintro e w14_ ⟨rfl, Bq⟩
  have Sq : Below w13_.heap.size w13_ w14_ := Bq
  replace pb := (Sq.cell (p := ⟨w.heap.size, 0, none⟩) zb).trans pb
  replace qb := (Sq.cell (p := ⟨w.heap.size, 1, none⟩) zb).trans qb
  replace zb : w.heap.size < w14_.heap.size := Nat.lt_of_lt_of_le zb Sq.size
  replace pc := (Sq.cell (p := ⟨w1_.heap.size, 0, none⟩) zc).trans pc
  replace qc := (Sq.cell (p := ⟨w1_.heap.size, 1, none⟩) zc).trans qc
  replace zc : w1_.heap.size < w14_.heap.size := Nat.lt_of_lt_of_le zc Sq.size
  replace pm := (Sq.cell (p := ⟨w3_.heap.size, 0, none⟩) zm).trans pm
  replace qm := (Sq.cell (p := ⟨w3_.heap.size, 1, none⟩) zm).trans qm
  replace zm : w3_.heap.size < w14_.heap.size := Nat.lt_of_lt_of_le zm Sq.size
  replace pc2 := (Sq.cell (p := ⟨w5_.heap.size, 0, none⟩) zc2).trans pc2
  replace qc2 := (Sq.cell (p := ⟨w5_.heap.size, 1, none⟩) zc2).trans qc2
  replace zc2 : w5_.heap.size < w14_.heap.size := Nat.lt_of_lt_of_le zc2 Sq.size
  replace pm2 := (Sq.cell (p := ⟨w9_.heap.size, 0, none⟩) zm2).trans pm2
  replace qm2 := (Sq.cell (p := ⟨w9_.heap.size, 1, none⟩) zm2).trans qm2
  replace zm2 : w9_.heap.size < w14_.heap.size := Nat.lt_of_lt_of_le zm2 Sq.size
  replace HA : Hid (Rd w14_ w14_.heap.size A bs) := HA.out.on Sq
  replace HD : Hid (RdV w14_ w14_.heap.size B (nc ns)) := HD.out.on Sq
  replace R1 : Hid (Rd w14_ w14_.heap.size A1 bC) := R1.out.on Sq
  replace R2 : Hid (Rd w14_ w14_.heap.size A2 bM) := R2.out.on Sq
  replace R3 : Hid (RdV w14_ w14_.heap.size A3 (nc nsA)) := R3.out.on Sq
  replace R4 : Hid (Rd w14_ w14_.heap.size A4 bC) := R4.out.on Sq
  replace R5 : Hid (RdV w14_ w14_.heap.size A5 (ic l)) := R5.out.on Sq
  replace R6 : Hid (Rd w14_ w14_.heap.size A6 bM) := R6.out.on Sq
  replace R7 : Hid (RdV w14_ w14_.heap.size A7 (nc nsA)) := R7.out.on Sq
  replace HB : Hid (Below w.heap.size w w14_) := HB.out.trans (Sq.mono HB.out.size)
  clear Bq Sq
  go_wp2
  go_ret
  exact ⟨rfl, HB.out⟩
end Go.Proofs.Ytkbelhclcpepaaa
