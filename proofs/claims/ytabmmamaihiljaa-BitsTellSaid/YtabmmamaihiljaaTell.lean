/- The law BitsTell: for whatever bits and numbers it returns true and leaves what it was handed as it was. -/
import Derived.Test.YtabmmamaihiljaaRefJoin
import Derived.Test.YtabmmamaihiljaaLists
namespace Go.Proofs.Ytabmmamaihiljaa
open Go.RowKit

theorem up2_size (w : World) (o p : Obj) : ((w.alloc o).alloc p).heap.size = w.heap.size + 2 := by simp only [World.size_alloc]
theorem box2_at {w V : World} {a b c d : Value} (h : Below ((w.alloc (.cells #[a, b] 24)).alloc (.cells #[c, d] 24)).heap.size ((w.alloc (.cells #[a, b] 24)).alloc (.cells #[c, d] 24)) V) :
    (V.cell? ⟨w.heap.size, 0, none⟩ = some a ∧ V.cell? ⟨w.heap.size, 1, none⟩ = some b) ∧ (V.cell? ⟨w.heap.size + 1, 0, none⟩ = some c ∧ V.cell? ⟨w.heap.size + 1, 1, none⟩ = some d) ∧ w.heap.size + 1 < V.heap.size := by
  have hs := h.size
  rw [up2_size] at h hs
  have n0 := World.alloc_heap_new w (.cells #[a, b] 24)
  have n1 := World.alloc_heap_new (w.alloc (.cells #[a, b] 24)) (.cells #[c, d] 24)
  simp only [World.size_alloc] at n1
  have e0 : V.heap[w.heap.size]? = some (.cells #[a, b] 24) := by
    rw [h.block _ (by omega), Below.heap_alloc _ _ _ (by simp only [World.size_alloc]; omega)]; exact n0
  have e1 : V.heap[w.heap.size + 1]? = some (.cells #[c, d] 24) := (h.block _ (by omega)).trans n1
  exact ⟨⟨(blk_cells e0).1, (blk_cells e0).2.1⟩, ⟨(blk_cells e1).1, (blk_cells e1).2.1⟩, by omega⟩

attribute [local go_sem ↓] Go.wp_at_zero Go.wp_at_succ
set_option maxRecDepth 100000 in
set_option maxHeartbeats 4000000 in
theorem tell_walk (len ly : Int) (A B : Option Addr) (c d N M : Nat) (bs ys : List Nat) (n p wd : Int) (w : World) (hA : Rd w w.heap.size A bs) (hB : Rd w w.heap.size B ys)
    (lP lJ lC eP eJ eC m eG eK : Int) (nP nJ nC : Nat) (bP bJ bC : List Nat)
    (HPut : Hid (∀ V, Rd V V.heap.size A bs → Calls Try.prog 14 #[.agg #[.int .i64 len, .slice A N c], .int .u64 n, .int .i64 wd] V (Gv V lP nP bP eP)))
    (HPut2 : Hid (∀ V, Rd V V.heap.size A bs → Calls Try.prog 18 #[.agg #[.int .i64 len, .slice A N c], .int .u64 n, .int .i64 wd] V (Gv V lP nP bP eP)))
    (HGet : Hid (∀ V, Rd V V.heap.size A bs → Calls Try.prog 15 #[.agg #[.int .i64 len, .slice A N c], .int .i64 p, .int .i64 wd] V fun e w' => e = .returned (.tuple #[.int .u64 m, .int .i64 eG]) ∧ Below V.heap.size V w'))
    (HGet2 : Hid (∀ V, Rd V V.heap.size A bs → Calls Try.prog 19 #[.agg #[.int .i64 len, .slice A N c], .int .i64 p, .int .i64 wd] V fun e w' => e = .returned (.tuple #[.int .u64 m, .int .i64 eG]) ∧ Below V.heap.size V w'))
    (HJoin : Hid (∀ V, Rd V V.heap.size A bs → Rd V V.heap.size B ys → Calls Try.prog 16 #[.agg #[.int .i64 len, .slice A N c], .agg #[.int .i64 ly, .slice B M d]] V (Gv V lJ nJ bJ eJ)))
    (HJoin2 : Hid (∀ V, Rd V V.heap.size A bs → Rd V V.heap.size B ys → Calls Try.prog 20 #[.agg #[.int .i64 len, .slice A N c], .agg #[.int .i64 ly, .slice B M d]] V (Gv V lJ nJ bJ eJ)))
    (HCut : Hid (∀ V, Rd V V.heap.size A bs → Calls Try.prog 17 #[.agg #[.int .i64 len, .slice A N c], .int .i64 p, .int .i64 wd] V (Gv V lC nC bC eC)))
    (HCut2 : Hid (∀ V, Rd V V.heap.size A bs → Calls Try.prog 21 #[.agg #[.int .i64 len, .slice A N c], .int .i64 p, .int .i64 wd] V (Gv V lC nC bC eC)))
    (HChk : Hid (∀ V, Rd V V.heap.size A bs → Calls Try.prog 23 #[.agg #[.int .i64 len, .slice A N c]] V fun e w' => e = .returned (.int .i64 eK) ∧ Below V.heap.size V w'))
    (HChk2 : Hid (∀ V, Rd V V.heap.size A bs → Calls Try.prog 24 #[.agg #[.int .i64 len, .slice A N c]] V fun e w' => e = .returned (.int .i64 eK) ∧ Below V.heap.size V w'))
    (HSP : Hid (∀ A1 A2 c1 c2 V, Rd V V.heap.size A1 bP → Rd V V.heap.size A2 bP → Calls Try.prog 25 #[.agg #[.int .i64 lP, .slice A1 nP c1], .agg #[.int .i64 lP, .slice A2 nP c2]] V fun e w' => e = .returned (.bool true) ∧ Below V.heap.size V w'))
    (HSJ : Hid (∀ A1 A2 c1 c2 V, Rd V V.heap.size A1 bJ → Rd V V.heap.size A2 bJ → Calls Try.prog 25 #[.agg #[.int .i64 lJ, .slice A1 nJ c1], .agg #[.int .i64 lJ, .slice A2 nJ c2]] V fun e w' => e = .returned (.bool true) ∧ Below V.heap.size V w'))
    (HSC : Hid (∀ A1 A2 c1 c2 V, Rd V V.heap.size A1 bC → Rd V V.heap.size A2 bC → Calls Try.prog 25 #[.agg #[.int .i64 lC, .slice A1 nC c1], .agg #[.int .i64 lC, .slice A2 nC c2]] V fun e w' => e = .returned (.bool true) ∧ Below V.heap.size V w')) :
    Calls Try.prog 3 #[.agg #[.int .i64 len, .slice A N c], .agg #[.int .i64 ly, .slice B M d], .int .u64 n, .int .i64 p, .int .i64 wd] w fun e w' => e = .returned (.bool true) ∧ Below w.heap.size w w' := by
  have HA := Lib.hid hA; clear hA
  have HD := Lib.hid hB; clear hB
  go_enter Try.func3, Try.ntmps3
  go_wp2_with fail
  refine (HPut.out _ (HA.out.on (up2 w _ _))).mono ?_
  rintro e w1_ ⟨A1, c1, rfl, Rq, Bq⟩
  have Sq : Below w.heap.size w w1_ := (up2 w _ _).trans (Bq.mono (by rw [up2_size]; omega))
  obtain ⟨⟨pa, qa⟩, ⟨pb, qb⟩, zb⟩ := box2_at Bq
  have za : w.heap.size < w1_.heap.size := by omega
  replace HA : Hid (Rd w1_ w1_.heap.size A bs) := HA.out.on Sq
  replace HD : Hid (Rd w1_ w1_.heap.size B ys) := HD.out.on Sq
  have HB : Hid (Below w.heap.size w w1_) := Sq
  clear Bq Sq
  have R1 := Lib.hid Rq; clear Rq
  go_wp2_with fail
  refine (HGet.out _ (HA.out.on (one_below w1_ _))).mono ?_
  rintro e w2_ ⟨rfl, Bq⟩
  rw [World.size_alloc] at Bq
  have Sq : Below w1_.heap.size w1_ w2_ := (one_below w1_ _).trans (Bq.mono (by omega))
  have zp : w1_.heap.size < w2_.heap.size := by have := Bq.size; rw [World.size_alloc] at this; omega
  obtain ⟨pp, qp⟩ := box_at Bq
  replace pa := (Sq.cell (p := ⟨w.heap.size, 0, none⟩) za).trans pa
  replace qa := (Sq.cell (p := ⟨w.heap.size, 1, none⟩) za).trans qa
  replace za : w.heap.size < w2_.heap.size := Nat.lt_of_lt_of_le za Sq.size
  replace pb := (Sq.cell (p := ⟨(w.heap.size + 1), 0, none⟩) zb).trans pb
  replace qb := (Sq.cell (p := ⟨(w.heap.size + 1), 1, none⟩) zb).trans qb
  replace zb : (w.heap.size + 1) < w2_.heap.size := Nat.lt_of_lt_of_le zb Sq.size
  replace HA : Hid (Rd w2_ w2_.heap.size A bs) := HA.out.on Sq
  replace HD : Hid (Rd w2_ w2_.heap.size B ys) := HD.out.on Sq
  replace R1 : Hid (Rd w2_ w2_.heap.size A1 bP) := R1.out.on Sq
  replace HB : Hid (Below w.heap.size w w2_) := HB.out.trans (Sq.mono HB.out.size)
  clear Bq Sq
  go_wp2_with fail
  refine (HJoin.out _ HA.out HD.out).mono ?_
  rintro e w3_ ⟨A2, c2, rfl, Rq, Bq⟩
  have Sq : Below w2_.heap.size w2_ w3_ := Bq
  replace pa := (Sq.cell (p := ⟨w.heap.size, 0, none⟩) za).trans pa
  replace qa := (Sq.cell (p := ⟨w.heap.size, 1, none⟩) za).trans qa
  replace za : w.heap.size < w3_.heap.size := Nat.lt_of_lt_of_le za Sq.size
  replace pb := (Sq.cell (p := ⟨(w.heap.size + 1), 0, none⟩) zb).trans pb
  replace qb := (Sq.cell (p := ⟨(w.heap.size + 1), 1, none⟩) zb).trans qb
  replace zb : (w.heap.size + 1) < w3_.heap.size := Nat.lt_of_lt_of_le zb Sq.size
  replace pp := (Sq.cell (p := ⟨w1_.heap.size, 0, none⟩) zp).trans pp
  replace qp := (Sq.cell (p := ⟨w1_.heap.size, 1, none⟩) zp).trans qp
  replace zp : w1_.heap.size < w3_.heap.size := Nat.lt_of_lt_of_le zp Sq.size
  replace HA : Hid (Rd w3_ w3_.heap.size A bs) := HA.out.on Sq
  replace HD : Hid (Rd w3_ w3_.heap.size B ys) := HD.out.on Sq
  replace R1 : Hid (Rd w3_ w3_.heap.size A1 bP) := R1.out.on Sq
  replace HB : Hid (Below w.heap.size w w3_) := HB.out.trans (Sq.mono HB.out.size)
  clear Bq Sq
  have R2 := Lib.hid Rq; clear Rq
  go_wp2_with fail
  refine (HCut.out _ (HA.out.on (one_below w3_ _))).mono ?_
  rintro e w4_ ⟨A3, c3, rfl, Rq, Bq⟩
  rw [World.size_alloc] at Bq
  have Sq : Below w3_.heap.size w3_ w4_ := (one_below w3_ _).trans (Bq.mono (by omega))
  have zj : w3_.heap.size < w4_.heap.size := by have := Bq.size; rw [World.size_alloc] at this; omega
  obtain ⟨pj, qj⟩ := box_at Bq
  replace pa := (Sq.cell (p := ⟨w.heap.size, 0, none⟩) za).trans pa
  replace qa := (Sq.cell (p := ⟨w.heap.size, 1, none⟩) za).trans qa
  replace za : w.heap.size < w4_.heap.size := Nat.lt_of_lt_of_le za Sq.size
  replace pb := (Sq.cell (p := ⟨(w.heap.size + 1), 0, none⟩) zb).trans pb
  replace qb := (Sq.cell (p := ⟨(w.heap.size + 1), 1, none⟩) zb).trans qb
  replace zb : (w.heap.size + 1) < w4_.heap.size := Nat.lt_of_lt_of_le zb Sq.size
  replace pp := (Sq.cell (p := ⟨w1_.heap.size, 0, none⟩) zp).trans pp
  replace qp := (Sq.cell (p := ⟨w1_.heap.size, 1, none⟩) zp).trans qp
  replace zp : w1_.heap.size < w4_.heap.size := Nat.lt_of_lt_of_le zp Sq.size
  replace HA : Hid (Rd w4_ w4_.heap.size A bs) := HA.out.on Sq
  replace HD : Hid (Rd w4_ w4_.heap.size B ys) := HD.out.on Sq
  replace R1 : Hid (Rd w4_ w4_.heap.size A1 bP) := R1.out.on Sq
  replace R2 : Hid (Rd w4_ w4_.heap.size A2 bJ) := R2.out.on Sq
  replace HB : Hid (Below w.heap.size w w4_) := HB.out.trans (Sq.mono HB.out.size)
  clear Bq Sq
  have R3 := Lib.hid Rq; clear Rq
  go_wp2_with fail
  refine (HPut2.out _ (HA.out.on (one_below w4_ _))).mono ?_
  rintro e w5_ ⟨A4, c4, rfl, Rq, Bq⟩
  rw [World.size_alloc] at Bq
  have Sq : Below w4_.heap.size w4_ w5_ := (one_below w4_ _).trans (Bq.mono (by omega))
  have zc : w4_.heap.size < w5_.heap.size := by have := Bq.size; rw [World.size_alloc] at this; omega
  obtain ⟨pc, qc⟩ := box_at Bq
  replace pa := (Sq.cell (p := ⟨w.heap.size, 0, none⟩) za).trans pa
  replace qa := (Sq.cell (p := ⟨w.heap.size, 1, none⟩) za).trans qa
  replace za : w.heap.size < w5_.heap.size := Nat.lt_of_lt_of_le za Sq.size
  replace pb := (Sq.cell (p := ⟨(w.heap.size + 1), 0, none⟩) zb).trans pb
  replace qb := (Sq.cell (p := ⟨(w.heap.size + 1), 1, none⟩) zb).trans qb
  replace zb : (w.heap.size + 1) < w5_.heap.size := Nat.lt_of_lt_of_le zb Sq.size
  replace pp := (Sq.cell (p := ⟨w1_.heap.size, 0, none⟩) zp).trans pp
  replace qp := (Sq.cell (p := ⟨w1_.heap.size, 1, none⟩) zp).trans qp
  replace zp : w1_.heap.size < w5_.heap.size := Nat.lt_of_lt_of_le zp Sq.size
  replace pj := (Sq.cell (p := ⟨w3_.heap.size, 0, none⟩) zj).trans pj
  replace qj := (Sq.cell (p := ⟨w3_.heap.size, 1, none⟩) zj).trans qj
  replace zj : w3_.heap.size < w5_.heap.size := Nat.lt_of_lt_of_le zj Sq.size
  replace HA : Hid (Rd w5_ w5_.heap.size A bs) := HA.out.on Sq
  replace HD : Hid (Rd w5_ w5_.heap.size B ys) := HD.out.on Sq
  replace R1 : Hid (Rd w5_ w5_.heap.size A1 bP) := R1.out.on Sq
  replace R2 : Hid (Rd w5_ w5_.heap.size A2 bJ) := R2.out.on Sq
  replace R3 : Hid (Rd w5_ w5_.heap.size A3 bC) := R3.out.on Sq
  replace HB : Hid (Below w.heap.size w w5_) := HB.out.trans (Sq.mono HB.out.size)
  clear Bq Sq
  have R4 := Lib.hid Rq; clear Rq
  go_wp2_with fail
  refine (HGet2.out _ (HA.out.on (one_below w5_ _))).mono ?_
  rintro e w6_ ⟨rfl, Bq⟩
  rw [World.size_alloc] at Bq
  have Sq : Below w5_.heap.size w5_ w6_ := (one_below w5_ _).trans (Bq.mono (by omega))
  have zp2 : w5_.heap.size < w6_.heap.size := by have := Bq.size; rw [World.size_alloc] at this; omega
  obtain ⟨pp2, qp2⟩ := box_at Bq
  replace pa := (Sq.cell (p := ⟨w.heap.size, 0, none⟩) za).trans pa
  replace qa := (Sq.cell (p := ⟨w.heap.size, 1, none⟩) za).trans qa
  replace za : w.heap.size < w6_.heap.size := Nat.lt_of_lt_of_le za Sq.size
  replace pb := (Sq.cell (p := ⟨(w.heap.size + 1), 0, none⟩) zb).trans pb
  replace qb := (Sq.cell (p := ⟨(w.heap.size + 1), 1, none⟩) zb).trans qb
  replace zb : (w.heap.size + 1) < w6_.heap.size := Nat.lt_of_lt_of_le zb Sq.size
  replace pp := (Sq.cell (p := ⟨w1_.heap.size, 0, none⟩) zp).trans pp
  replace qp := (Sq.cell (p := ⟨w1_.heap.size, 1, none⟩) zp).trans qp
  replace zp : w1_.heap.size < w6_.heap.size := Nat.lt_of_lt_of_le zp Sq.size
  replace pj := (Sq.cell (p := ⟨w3_.heap.size, 0, none⟩) zj).trans pj
  replace qj := (Sq.cell (p := ⟨w3_.heap.size, 1, none⟩) zj).trans qj
  replace zj : w3_.heap.size < w6_.heap.size := Nat.lt_of_lt_of_le zj Sq.size
  replace pc := (Sq.cell (p := ⟨w4_.heap.size, 0, none⟩) zc).trans pc
  replace qc := (Sq.cell (p := ⟨w4_.heap.size, 1, none⟩) zc).trans qc
  replace zc : w4_.heap.size < w6_.heap.size := Nat.lt_of_lt_of_le zc Sq.size
  replace HA : Hid (Rd w6_ w6_.heap.size A bs) := HA.out.on Sq
  replace HD : Hid (Rd w6_ w6_.heap.size B ys) := HD.out.on Sq
  replace R1 : Hid (Rd w6_ w6_.heap.size A1 bP) := R1.out.on Sq
  replace R2 : Hid (Rd w6_ w6_.heap.size A2 bJ) := R2.out.on Sq
  replace R3 : Hid (Rd w6_ w6_.heap.size A3 bC) := R3.out.on Sq
  replace R4 : Hid (Rd w6_ w6_.heap.size A4 bP) := R4.out.on Sq
  replace HB : Hid (Below w.heap.size w w6_) := HB.out.trans (Sq.mono HB.out.size)
  clear Bq Sq
  go_wp2_with fail
  refine (HJoin2.out _ HA.out HD.out).mono ?_
  rintro e w7_ ⟨A5, c5, rfl, Rq, Bq⟩
  have Sq : Below w6_.heap.size w6_ w7_ := Bq
  replace pa := (Sq.cell (p := ⟨w.heap.size, 0, none⟩) za).trans pa
  replace qa := (Sq.cell (p := ⟨w.heap.size, 1, none⟩) za).trans qa
  replace za : w.heap.size < w7_.heap.size := Nat.lt_of_lt_of_le za Sq.size
  replace pb := (Sq.cell (p := ⟨(w.heap.size + 1), 0, none⟩) zb).trans pb
  replace qb := (Sq.cell (p := ⟨(w.heap.size + 1), 1, none⟩) zb).trans qb
  replace zb : (w.heap.size + 1) < w7_.heap.size := Nat.lt_of_lt_of_le zb Sq.size
  replace pp := (Sq.cell (p := ⟨w1_.heap.size, 0, none⟩) zp).trans pp
  replace qp := (Sq.cell (p := ⟨w1_.heap.size, 1, none⟩) zp).trans qp
  replace zp : w1_.heap.size < w7_.heap.size := Nat.lt_of_lt_of_le zp Sq.size
  replace pj := (Sq.cell (p := ⟨w3_.heap.size, 0, none⟩) zj).trans pj
  replace qj := (Sq.cell (p := ⟨w3_.heap.size, 1, none⟩) zj).trans qj
  replace zj : w3_.heap.size < w7_.heap.size := Nat.lt_of_lt_of_le zj Sq.size
  replace pc := (Sq.cell (p := ⟨w4_.heap.size, 0, none⟩) zc).trans pc
  replace qc := (Sq.cell (p := ⟨w4_.heap.size, 1, none⟩) zc).trans qc
  replace zc : w4_.heap.size < w7_.heap.size := Nat.lt_of_lt_of_le zc Sq.size
  replace pp2 := (Sq.cell (p := ⟨w5_.heap.size, 0, none⟩) zp2).trans pp2
  replace qp2 := (Sq.cell (p := ⟨w5_.heap.size, 1, none⟩) zp2).trans qp2
  replace zp2 : w5_.heap.size < w7_.heap.size := Nat.lt_of_lt_of_le zp2 Sq.size
  replace HA : Hid (Rd w7_ w7_.heap.size A bs) := HA.out.on Sq
  replace HD : Hid (Rd w7_ w7_.heap.size B ys) := HD.out.on Sq
  replace R1 : Hid (Rd w7_ w7_.heap.size A1 bP) := R1.out.on Sq
  replace R2 : Hid (Rd w7_ w7_.heap.size A2 bJ) := R2.out.on Sq
  replace R3 : Hid (Rd w7_ w7_.heap.size A3 bC) := R3.out.on Sq
  replace R4 : Hid (Rd w7_ w7_.heap.size A4 bP) := R4.out.on Sq
  replace HB : Hid (Below w.heap.size w w7_) := HB.out.trans (Sq.mono HB.out.size)
  clear Bq Sq
  have R5 := Lib.hid Rq; clear Rq
  go_wp2_with fail
  refine (HCut2.out _ (HA.out.on (one_below w7_ _))).mono ?_
  rintro e w8_ ⟨A6, c6, rfl, Rq, Bq⟩
  rw [World.size_alloc] at Bq
  have Sq : Below w7_.heap.size w7_ w8_ := (one_below w7_ _).trans (Bq.mono (by omega))
  have zj2 : w7_.heap.size < w8_.heap.size := by have := Bq.size; rw [World.size_alloc] at this; omega
  obtain ⟨pj2, qj2⟩ := box_at Bq
  replace pa := (Sq.cell (p := ⟨w.heap.size, 0, none⟩) za).trans pa
  replace qa := (Sq.cell (p := ⟨w.heap.size, 1, none⟩) za).trans qa
  replace za : w.heap.size < w8_.heap.size := Nat.lt_of_lt_of_le za Sq.size
  replace pb := (Sq.cell (p := ⟨(w.heap.size + 1), 0, none⟩) zb).trans pb
  replace qb := (Sq.cell (p := ⟨(w.heap.size + 1), 1, none⟩) zb).trans qb
  replace zb : (w.heap.size + 1) < w8_.heap.size := Nat.lt_of_lt_of_le zb Sq.size
  replace pp := (Sq.cell (p := ⟨w1_.heap.size, 0, none⟩) zp).trans pp
  replace qp := (Sq.cell (p := ⟨w1_.heap.size, 1, none⟩) zp).trans qp
  replace zp : w1_.heap.size < w8_.heap.size := Nat.lt_of_lt_of_le zp Sq.size
  replace pj := (Sq.cell (p := ⟨w3_.heap.size, 0, none⟩) zj).trans pj
  replace qj := (Sq.cell (p := ⟨w3_.heap.size, 1, none⟩) zj).trans qj
  replace zj : w3_.heap.size < w8_.heap.size := Nat.lt_of_lt_of_le zj Sq.size
  replace pc := (Sq.cell (p := ⟨w4_.heap.size, 0, none⟩) zc).trans pc
  replace qc := (Sq.cell (p := ⟨w4_.heap.size, 1, none⟩) zc).trans qc
  replace zc : w4_.heap.size < w8_.heap.size := Nat.lt_of_lt_of_le zc Sq.size
  replace pp2 := (Sq.cell (p := ⟨w5_.heap.size, 0, none⟩) zp2).trans pp2
  replace qp2 := (Sq.cell (p := ⟨w5_.heap.size, 1, none⟩) zp2).trans qp2
  replace zp2 : w5_.heap.size < w8_.heap.size := Nat.lt_of_lt_of_le zp2 Sq.size
  replace HA : Hid (Rd w8_ w8_.heap.size A bs) := HA.out.on Sq
  replace HD : Hid (Rd w8_ w8_.heap.size B ys) := HD.out.on Sq
  replace R1 : Hid (Rd w8_ w8_.heap.size A1 bP) := R1.out.on Sq
  replace R2 : Hid (Rd w8_ w8_.heap.size A2 bJ) := R2.out.on Sq
  replace R3 : Hid (Rd w8_ w8_.heap.size A3 bC) := R3.out.on Sq
  replace R4 : Hid (Rd w8_ w8_.heap.size A4 bP) := R4.out.on Sq
  replace R5 : Hid (Rd w8_ w8_.heap.size A5 bJ) := R5.out.on Sq
  replace HB : Hid (Below w.heap.size w w8_) := HB.out.trans (Sq.mono HB.out.size)
  clear Bq Sq
  have R6 := Lib.hid Rq; clear Rq
  have Sq : Below w8_.heap.size w8_ (w8_.alloc (.cells #[.int .i64 lC, .slice A6 nC c6] 24)) := one_below _ _
  have zc2 : w8_.heap.size < (w8_.alloc (.cells #[.int .i64 lC, .slice A6 nC c6] 24)).heap.size := by rw [World.size_alloc]; omega
  have Sr := World.alloc_heap_new w8_ (.cells #[.int .i64 lC, .slice A6 nC c6] 24)
  have pc2 := (blk_cells Sr).1
  have qc2 := (blk_cells Sr).2.1
  clear Sr
  go_wp2_with fail
  generalize w8_.alloc (.cells #[.int .i64 lC, .slice A6 nC c6] 24) = W9 at *
  replace pa := (Sq.cell (p := ⟨w.heap.size, 0, none⟩) za).trans pa
  replace qa := (Sq.cell (p := ⟨w.heap.size, 1, none⟩) za).trans qa
  replace za : w.heap.size < W9.heap.size := Nat.lt_of_lt_of_le za Sq.size
  replace pb := (Sq.cell (p := ⟨(w.heap.size + 1), 0, none⟩) zb).trans pb
  replace qb := (Sq.cell (p := ⟨(w.heap.size + 1), 1, none⟩) zb).trans qb
  replace zb : (w.heap.size + 1) < W9.heap.size := Nat.lt_of_lt_of_le zb Sq.size
  replace pp := (Sq.cell (p := ⟨w1_.heap.size, 0, none⟩) zp).trans pp
  replace qp := (Sq.cell (p := ⟨w1_.heap.size, 1, none⟩) zp).trans qp
  replace zp : w1_.heap.size < W9.heap.size := Nat.lt_of_lt_of_le zp Sq.size
  replace pj := (Sq.cell (p := ⟨w3_.heap.size, 0, none⟩) zj).trans pj
  replace qj := (Sq.cell (p := ⟨w3_.heap.size, 1, none⟩) zj).trans qj
  replace zj : w3_.heap.size < W9.heap.size := Nat.lt_of_lt_of_le zj Sq.size
  replace pc := (Sq.cell (p := ⟨w4_.heap.size, 0, none⟩) zc).trans pc
  replace qc := (Sq.cell (p := ⟨w4_.heap.size, 1, none⟩) zc).trans qc
  replace zc : w4_.heap.size < W9.heap.size := Nat.lt_of_lt_of_le zc Sq.size
  replace pp2 := (Sq.cell (p := ⟨w5_.heap.size, 0, none⟩) zp2).trans pp2
  replace qp2 := (Sq.cell (p := ⟨w5_.heap.size, 1, none⟩) zp2).trans qp2
  replace zp2 : w5_.heap.size < W9.heap.size := Nat.lt_of_lt_of_le zp2 Sq.size
  replace pj2 := (Sq.cell (p := ⟨w7_.heap.size, 0, none⟩) zj2).trans pj2
  replace qj2 := (Sq.cell (p := ⟨w7_.heap.size, 1, none⟩) zj2).trans qj2
  replace zj2 : w7_.heap.size < W9.heap.size := Nat.lt_of_lt_of_le zj2 Sq.size
  replace HA : Hid (∀ V, Below W9.heap.size W9 V → Rd V V.heap.size A bs) := fun V h => (HA.out.on Sq).on h
  replace HD : Hid (∀ V, Below W9.heap.size W9 V → Rd V V.heap.size B ys) := fun V h => (HD.out.on Sq).on h
  replace R1 : Hid (∀ V, Below W9.heap.size W9 V → Rd V V.heap.size A1 bP) := fun V h => (R1.out.on Sq).on h
  replace R2 : Hid (∀ V, Below W9.heap.size W9 V → Rd V V.heap.size A2 bJ) := fun V h => (R2.out.on Sq).on h
  replace R3 : Hid (∀ V, Below W9.heap.size W9 V → Rd V V.heap.size A3 bC) := fun V h => (R3.out.on Sq).on h
  replace R4 : Hid (∀ V, Below W9.heap.size W9 V → Rd V V.heap.size A4 bP) := fun V h => (R4.out.on Sq).on h
  replace R5 : Hid (∀ V, Below W9.heap.size W9 V → Rd V V.heap.size A5 bJ) := fun V h => (R5.out.on Sq).on h
  replace R6 : Hid (∀ V, Below W9.heap.size W9 V → Rd V V.heap.size A6 bC) := fun V h => (R6.out.on Sq).on h
  replace HB : Hid (Below w.heap.size w W9) := HB.out.trans (Sq.mono HB.out.size)
  have HK : Hid (∀ w', Below W9.heap.size W9 w' → w'.cell? ⟨w.heap.size, 0, none⟩ = some (.int .i64 len) ∧ w'.cell? ⟨w.heap.size, 1, none⟩ = some (.slice A N c) ∧ w'.cell? ⟨w1_.heap.size, 0, none⟩ = some (.int .i64 lP) ∧ w'.cell? ⟨w1_.heap.size, 1, none⟩ = some (.slice A1 nP c1) ∧ w'.cell? ⟨w3_.heap.size, 0, none⟩ = some (.int .i64 lJ) ∧ w'.cell? ⟨w3_.heap.size, 1, none⟩ = some (.slice A2 nJ c2) ∧ w'.cell? ⟨w4_.heap.size, 0, none⟩ = some (.int .i64 lC) ∧ w'.cell? ⟨w4_.heap.size, 1, none⟩ = some (.slice A3 nC c3) ∧ w'.cell? ⟨w5_.heap.size, 0, none⟩ = some (.int .i64 lP) ∧ w'.cell? ⟨w5_.heap.size, 1, none⟩ = some (.slice A4 nP c4) ∧ w'.cell? ⟨w7_.heap.size, 0, none⟩ = some (.int .i64 lJ) ∧ w'.cell? ⟨w7_.heap.size, 1, none⟩ = some (.slice A5 nJ c5) ∧ w'.cell? ⟨w8_.heap.size, 0, none⟩ = some (.int .i64 lC) ∧ w'.cell? ⟨w8_.heap.size, 1, none⟩ = some (.slice A6 nC c6)) := fun w' h => ⟨(h.cell (p := ⟨w.heap.size, 0, none⟩) za).trans pa, (h.cell (p := ⟨w.heap.size, 1, none⟩) za).trans qa, (h.cell (p := ⟨w1_.heap.size, 0, none⟩) zp).trans pp, (h.cell (p := ⟨w1_.heap.size, 1, none⟩) zp).trans qp, (h.cell (p := ⟨w3_.heap.size, 0, none⟩) zj).trans pj, (h.cell (p := ⟨w3_.heap.size, 1, none⟩) zj).trans qj, (h.cell (p := ⟨w4_.heap.size, 0, none⟩) zc).trans pc, (h.cell (p := ⟨w4_.heap.size, 1, none⟩) zc).trans qc, (h.cell (p := ⟨w5_.heap.size, 0, none⟩) zp2).trans pp2, (h.cell (p := ⟨w5_.heap.size, 1, none⟩) zp2).trans qp2, (h.cell (p := ⟨w7_.heap.size, 0, none⟩) zj2).trans pj2, (h.cell (p := ⟨w7_.heap.size, 1, none⟩) zj2).trans qj2, (h.cell (p := ⟨w8_.heap.size, 0, none⟩) zc2).trans pc2, (h.cell (p := ⟨w8_.heap.size, 1, none⟩) zc2).trans qc2⟩
  clear Sq
  clear pa qa za
  clear pb qb zb
  clear pp qp zp
  clear pj qj zj
  clear pc qc zc
  clear pp2 qp2 zp2
  clear pj2 qj2 zj2
  clear pc2 qc2 zc2
  have HT : Hid (∀ x y, Below W9.heap.size W9 x → Below x.heap.size x y → Below W9.heap.size W9 y) := fun x y h1 h2 => h1.trans (h2.mono h1.size)
  go_region_held3 (fun w' => w'.cell? ⟨w.heap.size, 0, none⟩ = some (.int .i64 len) ∧ w'.cell? ⟨w.heap.size, 1, none⟩ = some (.slice A N c) ∧ w'.cell? ⟨w1_.heap.size, 0, none⟩ = some (.int .i64 lP) ∧ w'.cell? ⟨w1_.heap.size, 1, none⟩ = some (.slice A1 nP c1) ∧ w'.cell? ⟨w3_.heap.size, 0, none⟩ = some (.int .i64 lJ) ∧ w'.cell? ⟨w3_.heap.size, 1, none⟩ = some (.slice A2 nJ c2) ∧ w'.cell? ⟨w4_.heap.size, 0, none⟩ = some (.int .i64 lC) ∧ w'.cell? ⟨w4_.heap.size, 1, none⟩ = some (.slice A3 nC c3) ∧ w'.cell? ⟨w5_.heap.size, 0, none⟩ = some (.int .i64 lP) ∧ w'.cell? ⟨w5_.heap.size, 1, none⟩ = some (.slice A4 nP c4) ∧ w'.cell? ⟨w7_.heap.size, 0, none⟩ = some (.int .i64 lJ) ∧ w'.cell? ⟨w7_.heap.size, 1, none⟩ = some (.slice A5 nJ c5) ∧ w'.cell? ⟨w8_.heap.size, 0, none⟩ = some (.int .i64 lC) ∧ w'.cell? ⟨w8_.heap.size, 1, none⟩ = some (.slice A6 nC c6))
    ((refine HK.out _ ?_; first | exact hk6.out | exact hk5.out | exact hk4.out | exact hk3.out | exact hk2.out | exact hk1.out | exact (Below.refl _ _).drew))
    (first
      | (go_at_call 22; refine (begun_true W9.drew).mono ?_; rintro e v1 ⟨rfl, Bq⟩; have hk1 : Hid (Below W9.heap.size W9 v1) := ((Below.refl _ W9).drew).trans Bq; clear Bq)
      | (go_at_call 23; have hx := hk1.out; refine (HChk.out v1 (HA.out v1 hx)).mono ?_; rintro e v2 ⟨rfl, Bq⟩; have hk2 : Hid (Below W9.heap.size W9 v2) := HT.out v1 v2 hx Bq; clear Bq hx)
      | (go_at_call 24; have hx := hk2.out; refine (HChk2.out v2 (HA.out v2 hx)).mono ?_; rintro e v3 ⟨rfl, Bq⟩; have hk3 : Hid (Below W9.heap.size W9 v3) := HT.out v2 v3 hx Bq; clear Bq hx)
      | (go_at_call 25; have hx := hk5.out; refine (HSC.out A3 A6 c3 c6 v5 (R3.out v5 hx) (R6.out v5 hx)).mono ?_; rintro e v6 ⟨rfl, Bq⟩; have hk6 : Hid (Below W9.heap.size W9 v6) := HT.out v5 v6 hx Bq; clear Bq hx)
      | (go_at_call 25; have hx := hk4.out; refine (HSJ.out A2 A5 c2 c5 v4 (R2.out v4 hx) (R5.out v4 hx)).mono ?_; rintro e v5 ⟨rfl, Bq⟩; have hk5 : Hid (Below W9.heap.size W9 v5) := HT.out v4 v5 hx Bq; clear Bq hx)
      | (go_at_call 25; have hx := hk3.out; refine (HSP.out A1 A4 c1 c4 v3 (R1.out v3 hx) (R4.out v3 hx)).mono ?_; rintro e v4 ⟨rfl, Bq⟩; have hk4 : Hid (Below W9.heap.size W9 v4) := HT.out v3 v4 hx Bq; clear Bq hx))
  go_wp2
  go_ret
  exact ⟨rfl, HB.out.trans (hk6.out.mono HB.out.size)⟩

theorem same_ll (l : List Bool) (hl : l.length ≤ 8192) : Hid (∀ (A1 A2 : Option Addr) (c1 c2 : Nat) (V : World), Rd V V.heap.size A1 (pack l) → Rd V V.heap.size A2 (pack l) → Calls Try.prog 25 #[.agg #[.int .i64 (l.length : Int), .slice A1 (pack l).length c1], .agg #[.int .i64 (l.length : Int), .slice A2 (pack l).length c2]] V fun e w' => e = .returned (.bool true) ∧ Below V.heap.size V w') :=
  fun A1 A2 c1 c2 V h1 h2 => same_l l hl A1 A2 c1 c2 V h1 h2
theorem putL_len (len : Int) (bs : List Nat) (n : Nat) (width : Int) (hb : ∀ b ∈ bs, b < 256) : (if putL len bs n width = 0 then unpack len.toNat bs ++ nb n width.toNat else []).length ≤ 8192 := by
  by_cases h : putL len bs n width = 0
  · rw [if_pos h]
    obtain ⟨l, k, rfl, rfl, rfl, _, _, hf⟩ := putL_zero len bs n width hb h
    rw [Int.toNat_natCast, Int.toNat_natCast, unpack_pack, List.length_append, nb_length]
    exact hf
  · rw [if_neg h]; simp
theorem joinE_len (lx ly : Int) (xs ys : List Nat) (hx : ∀ b ∈ xs, b < 256) (hy : ∀ b ∈ ys, b < 256) : (if joinE lx xs ly ys = 0 then unpack lx.toNat xs ++ unpack ly.toNat ys else []).length ≤ 8192 := by
  by_cases h : joinE lx xs ly ys = 0
  · rw [if_pos h]
    obtain ⟨a, b, rfl, rfl, rfl, rfl, hf⟩ := joinE_zero lx ly xs ys hx hy h
    rw [Int.toNat_natCast, Int.toNat_natCast, unpack_pack, unpack_pack, List.length_append]
    exact hf
  · rw [if_neg h]; simp
theorem cutE_len (len : Int) (bs : List Nat) (fr to : Int) (hb : ∀ b ∈ bs, b < 256) : (if cutE len bs fr to = 0 then ((unpack len.toNat bs).drop fr.toNat).take (to.toNat - fr.toNat) else []).length ≤ 8192 := by
  by_cases h : cutE len bs fr to = 0
  · rw [if_pos h]
    obtain ⟨l, f, t, rfl, rfl, rfl, rfl, h1, h2, h3⟩ := cutE_zero len bs fr to hb h
    rw [Int.toNat_natCast, Int.toNat_natCast, Int.toNat_natCast, unpack_pack, List.length_take, List.length_drop]
    omega
  · rw [if_neg h]; simp

theorem tell_law (len : Int) (A : Option Addr) (c : Nat) (bs : List Nat) (ly : Int) (B : Option Addr) (d : Nat) (ys : List Nat) (n : Nat) (p wd : Int) (w : World) (hb : ∀ b ∈ bs, b < 256) (hA : Rd w w.heap.size A bs) (hy : ∀ b ∈ ys, b < 256) (hB : Rd w w.heap.size B ys) (hn : n < 18446744073709551616) (_ : -9223372036854775808 ≤ p ∧ p ≤ 9223372036854775807) (_ : -9223372036854775808 ≤ wd ∧ wd ≤ 9223372036854775807) :
    Calls Try.prog 3 #[.agg #[.int .i64 len, .slice A bs.length c], .agg #[.int .i64 ly, .slice B ys.length d], .int .u64 (n : Int), .int .i64 p, .int .i64 wd] w fun e w' => e = .returned (.bool true) ∧ Below w.heap.size w w' :=
  tell_walk len ly A B c d bs.length ys.length bs ys (n : Int) p wd w hA hB _ _ _ _ _ _ _ _ _ _ _ _ _ _ _
    (fun V h => put_any len A c bs n wd V hb h hn) (fun V h => rput_any len A c bs n wd V hb h hn)
    (fun V h => get_any len A c bs p wd V hb h) (fun V h => rget_any len A c bs p wd V hb h)
    (fun V h k => join_any len ly A B c d bs ys V hb h hy k) (fun V h k => rjoin_any len ly A B c d bs ys V hb h hy k)
    (fun V h => cut_any len A c bs p wd V hb h) (fun V h => rcut_any len A c bs p wd V hb h)
    (fun V h => check_any len A c bs V hb h) (fun V h => rcheck_any len A c bs hb V h)
    (same_ll _ (putL_len len bs n wd hb)) (same_ll _ (joinE_len len ly bs ys hb hy)) (same_ll _ (cutE_len len bs p wd hb))
end Go.Proofs.Ytabmmamaihiljaa
