/- The law GolombTells: for whatever number, m, bits and position it returns true, in letters, part 1. -/
import Derived.Test.YtcacbekdghlncaaTRef
import Derived.Deep.RegionHeld3
namespace Go.Proofs.Ytcacbekdghlncaa

section
set_option maxRecDepth 100000
set_option linter.unusedVariables false
open Go.RowKit

set_option maxHeartbeats 4000000 in
theorem gtells_lb (w : World) (n m q r len : Int) (A : Option Addr) (c N : Nat) (bs : List Nat) (p0 : Int) (lX lY : Int) (nX nY nG nU nL nB : Nat) (bX bY : List Nat) (lG lU lL lB : List Bool) (e0 : Int) (r1 r2 s1 s2 x0 : Nat) (g : Int) (hA : Rd w w.heap.size A bs)
    (HX : Hid (∀ V, Calls Try.prog 35 #[.int .u64 n, .int .u64 m] V (Gv V 0 0 [] 3)))
    (HY : Hid (∀ V, Calls Try.prog 36 #[.int .u64 n, .int .u64 m] V (Gv V 0 0 [] 3)))
    (HP : Hid (∀ V, Rd V V.heap.size A bs → Calls Try.prog 37 #[.agg #[.int .i64 len, .slice A N c], .int .i64 p0, .int .u64 m] V (ReadP V 0 0 e0)))
    (HQ : Hid (∀ V, Rd V V.heap.size A bs → Calls Try.prog 38 #[.agg #[.int .i64 len, .slice A N c], .int .i64 p0, .int .u64 m] V (ReadP V 0 0 e0)))
    (HE : Hid (∀ V, Rd V V.heap.size A bs → Calls Try.prog 23 #[.agg #[.int .i64 len, .slice A N c], .int .i64 p0] V fun e w' => e = .returned (.int .i64 e0) ∧ Below V.heap.size V w'))
    (HS1 : Hid (∀ A B c d V, Rd V V.heap.size A [] → Rd V V.heap.size B [] → Calls Try.prog 28 #[.agg #[.int .i64 0, .slice A 0 c], .agg #[.int .i64 0, .slice B 0 d]] V fun e w' => e = .returned (.bool true) ∧ Below V.heap.size V w'))
    (HS2 : Hid (∀ A B c d V, Rd V V.heap.size A [] → Rd V V.heap.size B [] → Calls Try.prog 28 #[.agg #[.int .i64 0, .slice A 0 c], .agg #[.int .i64 0, .slice B 0 d]] V fun e w' => e = .returned (.bool true) ∧ Below V.heap.size V w'))
     (hm : m < 1) (h0 : e0 ≠ 0) :
    Calls Try.prog 8 #[.int .u64 n, .int .u64 m, .agg #[.int .i64 len, .slice A N c], .int .i64 p0] w fun e w' => e = .returned (.bool true) ∧ Below w.heap.size w w' := by
  have HA := Lib.hid hA; clear hA
  have a1 : decide ((1 : Int) ≤ m) = false := by simp; omega
  have t2 : (e0 == 0) = false := by simpa using h0
  clear h0
  go_enter Try.func8, Try.ntmps8
  go_wp2_with fail
  refine (HX.out _).mono ?_
  rintro e w1_ ⟨A1, c1, rfl, Rq, Bq⟩
  rw [World.size_alloc] at Bq
  have Sq : Below w.heap.size w w1_ := (one_below w _).trans (Bq.mono (by omega))
  have zb : w.heap.size < w1_.heap.size := by have := Bq.size; rw [World.size_alloc] at this; omega
  obtain ⟨pb, qb⟩ := box_at Bq
  replace HA : Hid (Rd w1_ w1_.heap.size A bs) := HA.out.on Sq
  have HB : Hid (Below w.heap.size w w1_) := Sq
  clear Bq Sq
  have RX := Lib.hid Rq; clear Rq
  go_wp2_with fail
  refine (HY.out _).mono ?_
  rintro e w2_ ⟨A2, c2, rfl, Rq, Bq⟩
  rw [World.size_alloc] at Bq
  have Sq : Below w1_.heap.size w1_ w2_ := (one_below w1_ _).trans (Bq.mono (by omega))
  have zx : w1_.heap.size < w2_.heap.size := by have := Bq.size; rw [World.size_alloc] at this; omega
  obtain ⟨px, qx⟩ := box_at Bq
  replace pb := (Sq.cell (p := ⟨w.heap.size, 0, none⟩) zb).trans pb
  replace qb := (Sq.cell (p := ⟨w.heap.size, 1, none⟩) zb).trans qb
  replace zb : w.heap.size < w2_.heap.size := Nat.lt_of_lt_of_le zb Sq.size
  replace HA : Hid (Rd w2_ w2_.heap.size A bs) := HA.out.on Sq
  replace RX : Hid (Rd w2_ w2_.heap.size A1 []) := RX.out.on Sq
  replace HB : Hid (Below w.heap.size w w2_) := HB.out.trans (Sq.mono HB.out.size)
  clear Bq Sq
  have RY := Lib.hid Rq; clear Rq
  go_wp2_with fail
  refine (HP.out _ (HA.out.on (one_below w2_ _))).mono ?_
  rintro e w3_ ⟨rfl, Bq⟩
  rw [World.size_alloc] at Bq
  have Sq : Below w2_.heap.size w2_ w3_ := (one_below w2_ _).trans (Bq.mono (by omega))
  have zy : w2_.heap.size < w3_.heap.size := by have := Bq.size; rw [World.size_alloc] at this; omega
  obtain ⟨py, qy⟩ := box_at Bq
  replace pb := (Sq.cell (p := ⟨w.heap.size, 0, none⟩) zb).trans pb
  replace qb := (Sq.cell (p := ⟨w.heap.size, 1, none⟩) zb).trans qb
  replace zb : w.heap.size < w3_.heap.size := Nat.lt_of_lt_of_le zb Sq.size
  replace px := (Sq.cell (p := ⟨w1_.heap.size, 0, none⟩) zx).trans px
  replace qx := (Sq.cell (p := ⟨w1_.heap.size, 1, none⟩) zx).trans qx
  replace zx : w1_.heap.size < w3_.heap.size := Nat.lt_of_lt_of_le zx Sq.size
  replace HA : Hid (Rd w3_ w3_.heap.size A bs) := HA.out.on Sq
  replace RX : Hid (Rd w3_ w3_.heap.size A1 []) := RX.out.on Sq
  replace RY : Hid (Rd w3_ w3_.heap.size A2 []) := RY.out.on Sq
  replace HB : Hid (Below w.heap.size w w3_) := HB.out.trans (Sq.mono HB.out.size)
  clear Bq Sq
  go_wp2_with fail
  refine (HQ.out _ HA.out).mono ?_
  rintro e w4_ ⟨rfl, Bq⟩
  have Sq : Below w3_.heap.size w3_ w4_ := Bq
  replace pb := (Sq.cell (p := ⟨w.heap.size, 0, none⟩) zb).trans pb
  replace qb := (Sq.cell (p := ⟨w.heap.size, 1, none⟩) zb).trans qb
  replace zb : w.heap.size < w4_.heap.size := Nat.lt_of_lt_of_le zb Sq.size
  replace px := (Sq.cell (p := ⟨w1_.heap.size, 0, none⟩) zx).trans px
  replace qx := (Sq.cell (p := ⟨w1_.heap.size, 1, none⟩) zx).trans qx
  replace zx : w1_.heap.size < w4_.heap.size := Nat.lt_of_lt_of_le zx Sq.size
  replace py := (Sq.cell (p := ⟨w2_.heap.size, 0, none⟩) zy).trans py
  replace qy := (Sq.cell (p := ⟨w2_.heap.size, 1, none⟩) zy).trans qy
  replace zy : w2_.heap.size < w4_.heap.size := Nat.lt_of_lt_of_le zy Sq.size
  replace HA : Hid (Rd w4_ w4_.heap.size A bs) := HA.out.on Sq
  replace RX : Hid (Rd w4_ w4_.heap.size A1 []) := RX.out.on Sq
  replace RY : Hid (Rd w4_ w4_.heap.size A2 []) := RY.out.on Sq
  replace HB : Hid (Below w.heap.size w w4_) := HB.out.trans (Sq.mono HB.out.size)
  clear Bq Sq
  go_wp2_with fail
  obtain ⟨w10, hw, T⟩ := b2_zero w4_
  rw [hw]
  clear hw
  have Sq := T.below
  replace pb := (Sq.cell (p := ⟨w.heap.size, 0, none⟩) zb).trans pb
  replace qb := (Sq.cell (p := ⟨w.heap.size, 1, none⟩) zb).trans qb
  replace zb : w.heap.size < w10.heap.size := Nat.lt_of_lt_of_le zb Sq.size
  replace px := (Sq.cell (p := ⟨w1_.heap.size, 0, none⟩) zx).trans px
  replace qx := (Sq.cell (p := ⟨w1_.heap.size, 1, none⟩) zx).trans qx
  replace zx : w1_.heap.size < w10.heap.size := Nat.lt_of_lt_of_le zx Sq.size
  replace py := (Sq.cell (p := ⟨w2_.heap.size, 0, none⟩) zy).trans py
  replace qy := (Sq.cell (p := ⟨w2_.heap.size, 1, none⟩) zy).trans qy
  replace zy : w2_.heap.size < w10.heap.size := Nat.lt_of_lt_of_le zy Sq.size
  replace HA : Hid (Rd w10 w10.heap.size A bs) := HA.out.on Sq
  replace RX : Hid (Rd w10 w10.heap.size A1 []) := RX.out.on Sq
  replace RY : Hid (Rd w10 w10.heap.size A2 []) := RY.out.on Sq
  replace HB : Hid (Below w.heap.size w w10) := HB.out.trans (Sq.mono HB.out.size)
  clear Sq
  obtain ⟨pg, qg, -, -⟩ := blk_cells T.x
  obtain ⟨ph, qh, -, -⟩ := blk_cells T.y
  have zh : w4_.heap.size + 1 < w10.heap.size := T.size
  have zg : w4_.heap.size < w10.heap.size := by omega
  have RG := Lib.hid T.rx
  have RH := Lib.hid T.ry
  clear T
  refine (HE.out _ HA.out).mono ?_
  rintro e w5_ ⟨rfl, Bq⟩
  have Sq : Below w10.heap.size w10 w5_ := Bq
  replace pb := (Sq.cell (p := ⟨w.heap.size, 0, none⟩) zb).trans pb
  replace qb := (Sq.cell (p := ⟨w.heap.size, 1, none⟩) zb).trans qb
  replace zb : w.heap.size < w5_.heap.size := Nat.lt_of_lt_of_le zb Sq.size
  replace px := (Sq.cell (p := ⟨w1_.heap.size, 0, none⟩) zx).trans px
  replace qx := (Sq.cell (p := ⟨w1_.heap.size, 1, none⟩) zx).trans qx
  replace zx : w1_.heap.size < w5_.heap.size := Nat.lt_of_lt_of_le zx Sq.size
  replace py := (Sq.cell (p := ⟨w2_.heap.size, 0, none⟩) zy).trans py
  replace qy := (Sq.cell (p := ⟨w2_.heap.size, 1, none⟩) zy).trans qy
  replace zy : w2_.heap.size < w5_.heap.size := Nat.lt_of_lt_of_le zy Sq.size
  replace pg := (Sq.cell (p := ⟨w4_.heap.size, 0, none⟩) zg).trans pg
  replace qg := (Sq.cell (p := ⟨w4_.heap.size, 1, none⟩) zg).trans qg
  replace zg : w4_.heap.size < w5_.heap.size := Nat.lt_of_lt_of_le zg Sq.size
  replace ph := (Sq.cell (p := ⟨(w4_.heap.size + 1), 0, none⟩) zh).trans ph
  replace qh := (Sq.cell (p := ⟨(w4_.heap.size + 1), 1, none⟩) zh).trans qh
  replace zh : (w4_.heap.size + 1) < w5_.heap.size := Nat.lt_of_lt_of_le zh Sq.size
  replace HA : Hid (Rd w5_ w5_.heap.size A bs) := HA.out.on Sq
  replace RX : Hid (Rd w5_ w5_.heap.size A1 []) := RX.out.on Sq
  replace RY : Hid (Rd w5_ w5_.heap.size A2 []) := RY.out.on Sq
  replace RG : Hid (Rd w5_ w5_.heap.size none []) := RG.out.on Sq
  replace RH : Hid (Rd w5_ w5_.heap.size none []) := RH.out.on Sq
  replace HB : Hid (Below w.heap.size w w5_) := HB.out.trans (Sq.mono HB.out.size)
  clear Bq Sq
  go_wp2_with fail
  refine (gbegun_true _).mono ?_
  rintro e w6_ ⟨rfl, Bq⟩
  have Sq : Below w5_.heap.size w5_ w6_ := Bq
  replace pb := (Sq.cell (p := ⟨w.heap.size, 0, none⟩) zb).trans pb
  replace qb := (Sq.cell (p := ⟨w.heap.size, 1, none⟩) zb).trans qb
  replace zb : w.heap.size < w6_.heap.size := Nat.lt_of_lt_of_le zb Sq.size
  replace px := (Sq.cell (p := ⟨w1_.heap.size, 0, none⟩) zx).trans px
  replace qx := (Sq.cell (p := ⟨w1_.heap.size, 1, none⟩) zx).trans qx
  replace zx : w1_.heap.size < w6_.heap.size := Nat.lt_of_lt_of_le zx Sq.size
  replace py := (Sq.cell (p := ⟨w2_.heap.size, 0, none⟩) zy).trans py
  replace qy := (Sq.cell (p := ⟨w2_.heap.size, 1, none⟩) zy).trans qy
  replace zy : w2_.heap.size < w6_.heap.size := Nat.lt_of_lt_of_le zy Sq.size
  replace pg := (Sq.cell (p := ⟨w4_.heap.size, 0, none⟩) zg).trans pg
  replace qg := (Sq.cell (p := ⟨w4_.heap.size, 1, none⟩) zg).trans qg
  replace zg : w4_.heap.size < w6_.heap.size := Nat.lt_of_lt_of_le zg Sq.size
  replace ph := (Sq.cell (p := ⟨(w4_.heap.size + 1), 0, none⟩) zh).trans ph
  replace qh := (Sq.cell (p := ⟨(w4_.heap.size + 1), 1, none⟩) zh).trans qh
  replace zh : (w4_.heap.size + 1) < w6_.heap.size := Nat.lt_of_lt_of_le zh Sq.size
  replace HA : Hid (Rd w6_ w6_.heap.size A bs) := HA.out.on Sq
  replace RX : Hid (Rd w6_ w6_.heap.size A1 []) := RX.out.on Sq
  replace RY : Hid (Rd w6_ w6_.heap.size A2 []) := RY.out.on Sq
  replace RG : Hid (Rd w6_ w6_.heap.size none []) := RG.out.on Sq
  replace RH : Hid (Rd w6_ w6_.heap.size none []) := RH.out.on Sq
  replace HB : Hid (Below w.heap.size w w6_) := HB.out.trans (Sq.mono HB.out.size)
  clear Bq Sq
  go_wp2_with fail
  refine (HS1.out A1 none c1 0 _ RX.out RG.out).mono ?_
  rintro e w7_ ⟨rfl, Bq⟩
  have Sq : Below w6_.heap.size w6_ w7_ := Bq
  replace pb := (Sq.cell (p := ⟨w.heap.size, 0, none⟩) zb).trans pb
  replace qb := (Sq.cell (p := ⟨w.heap.size, 1, none⟩) zb).trans qb
  replace zb : w.heap.size < w7_.heap.size := Nat.lt_of_lt_of_le zb Sq.size
  replace px := (Sq.cell (p := ⟨w1_.heap.size, 0, none⟩) zx).trans px
  replace qx := (Sq.cell (p := ⟨w1_.heap.size, 1, none⟩) zx).trans qx
  replace zx : w1_.heap.size < w7_.heap.size := Nat.lt_of_lt_of_le zx Sq.size
  replace py := (Sq.cell (p := ⟨w2_.heap.size, 0, none⟩) zy).trans py
  replace qy := (Sq.cell (p := ⟨w2_.heap.size, 1, none⟩) zy).trans qy
  replace zy : w2_.heap.size < w7_.heap.size := Nat.lt_of_lt_of_le zy Sq.size
  replace pg := (Sq.cell (p := ⟨w4_.heap.size, 0, none⟩) zg).trans pg
  replace qg := (Sq.cell (p := ⟨w4_.heap.size, 1, none⟩) zg).trans qg
  replace zg : w4_.heap.size < w7_.heap.size := Nat.lt_of_lt_of_le zg Sq.size
  replace ph := (Sq.cell (p := ⟨(w4_.heap.size + 1), 0, none⟩) zh).trans ph
  replace qh := (Sq.cell (p := ⟨(w4_.heap.size + 1), 1, none⟩) zh).trans qh
  replace zh : (w4_.heap.size + 1) < w7_.heap.size := Nat.lt_of_lt_of_le zh Sq.size
  replace HA : Hid (Rd w7_ w7_.heap.size A bs) := HA.out.on Sq
  replace RX : Hid (Rd w7_ w7_.heap.size A1 []) := RX.out.on Sq
  replace RY : Hid (Rd w7_ w7_.heap.size A2 []) := RY.out.on Sq
  replace RG : Hid (Rd w7_ w7_.heap.size none []) := RG.out.on Sq
  replace RH : Hid (Rd w7_ w7_.heap.size none []) := RH.out.on Sq
  replace HB : Hid (Below w.heap.size w w7_) := HB.out.trans (Sq.mono HB.out.size)
  clear Bq Sq
  go_wp2_with fail
  refine (HS2.out A2 none c2 0 _ RY.out RH.out).mono ?_
  rintro e w8_ ⟨rfl, Bq⟩
  have Sq : Below w7_.heap.size w7_ w8_ := Bq
  replace pb := (Sq.cell (p := ⟨w.heap.size, 0, none⟩) zb).trans pb
  replace qb := (Sq.cell (p := ⟨w.heap.size, 1, none⟩) zb).trans qb
  replace zb : w.heap.size < w8_.heap.size := Nat.lt_of_lt_of_le zb Sq.size
  replace px := (Sq.cell (p := ⟨w1_.heap.size, 0, none⟩) zx).trans px
  replace qx := (Sq.cell (p := ⟨w1_.heap.size, 1, none⟩) zx).trans qx
  replace zx : w1_.heap.size < w8_.heap.size := Nat.lt_of_lt_of_le zx Sq.size
  replace py := (Sq.cell (p := ⟨w2_.heap.size, 0, none⟩) zy).trans py
  replace qy := (Sq.cell (p := ⟨w2_.heap.size, 1, none⟩) zy).trans qy
  replace zy : w2_.heap.size < w8_.heap.size := Nat.lt_of_lt_of_le zy Sq.size
  replace pg := (Sq.cell (p := ⟨w4_.heap.size, 0, none⟩) zg).trans pg
  replace qg := (Sq.cell (p := ⟨w4_.heap.size, 1, none⟩) zg).trans qg
  replace zg : w4_.heap.size < w8_.heap.size := Nat.lt_of_lt_of_le zg Sq.size
  replace ph := (Sq.cell (p := ⟨(w4_.heap.size + 1), 0, none⟩) zh).trans ph
  replace qh := (Sq.cell (p := ⟨(w4_.heap.size + 1), 1, none⟩) zh).trans qh
  replace zh : (w4_.heap.size + 1) < w8_.heap.size := Nat.lt_of_lt_of_le zh Sq.size
  replace HA : Hid (Rd w8_ w8_.heap.size A bs) := HA.out.on Sq
  replace RX : Hid (Rd w8_ w8_.heap.size A1 []) := RX.out.on Sq
  replace RY : Hid (Rd w8_ w8_.heap.size A2 []) := RY.out.on Sq
  replace RG : Hid (Rd w8_ w8_.heap.size none []) := RG.out.on Sq
  replace RH : Hid (Rd w8_ w8_.heap.size none []) := RH.out.on Sq
  replace HB : Hid (Below w.heap.size w w8_) := HB.out.trans (Sq.mono HB.out.size)
  clear Bq Sq
  go_wp2
  go_ret
  exact ⟨rfl, HB.out⟩
set_option maxHeartbeats 4000000 in
theorem gtells_lo (w : World) (n m q r len : Int) (A : Option Addr) (c N : Nat) (bs : List Nat) (p0 : Int) (lX lY : Int) (nX nY nG nU nL nB : Nat) (bX bY : List Nat) (lG lU lL lB : List Bool) (e0 : Int) (r1 r2 s1 s2 x0 : Nat) (g : Int) (hA : Rd w w.heap.size A bs)
    (HX : Hid (∀ V, Calls Try.prog 35 #[.int .u64 n, .int .u64 m] V (Gv V 0 0 [] 3)))
    (HY : Hid (∀ V, Calls Try.prog 36 #[.int .u64 n, .int .u64 m] V (Gv V 0 0 [] 3)))
    (HP : Hid (∀ V, Rd V V.heap.size A bs → Calls Try.prog 37 #[.agg #[.int .i64 len, .slice A N c], .int .i64 p0, .int .u64 m] V (ReadP V 0 0 3)))
    (HQ : Hid (∀ V, Rd V V.heap.size A bs → Calls Try.prog 38 #[.agg #[.int .i64 len, .slice A N c], .int .i64 p0, .int .u64 m] V (ReadP V 0 0 3)))
    (HE : Hid (∀ V, Rd V V.heap.size A bs → Calls Try.prog 23 #[.agg #[.int .i64 len, .slice A N c], .int .i64 p0] V fun e w' => e = .returned (.int .i64 0) ∧ Below V.heap.size V w'))
    (HS1 : Hid (∀ A B c d V, Rd V V.heap.size A [] → Rd V V.heap.size B [] → Calls Try.prog 28 #[.agg #[.int .i64 0, .slice A 0 c], .agg #[.int .i64 0, .slice B 0 d]] V fun e w' => e = .returned (.bool true) ∧ Below V.heap.size V w'))
    (HS2 : Hid (∀ A B c d V, Rd V V.heap.size A [] → Rd V V.heap.size B [] → Calls Try.prog 28 #[.agg #[.int .i64 0, .slice A 0 c], .agg #[.int .i64 0, .slice B 0 d]] V fun e w' => e = .returned (.bool true) ∧ Below V.heap.size V w'))
     (hm : m < 1) :
    Calls Try.prog 8 #[.int .u64 n, .int .u64 m, .agg #[.int .i64 len, .slice A N c], .int .i64 p0] w fun e w' => e = .returned (.bool true) ∧ Below w.heap.size w w' := by
  have HA := Lib.hid hA; clear hA
  have a1 : decide ((1 : Int) ≤ m) = false := by simp; omega
  go_enter Try.func8, Try.ntmps8
  go_wp2_with fail
  refine (HX.out _).mono ?_
  rintro e w1_ ⟨A1, c1, rfl, Rq, Bq⟩
  rw [World.size_alloc] at Bq
  have Sq : Below w.heap.size w w1_ := (one_below w _).trans (Bq.mono (by omega))
  have zb : w.heap.size < w1_.heap.size := by have := Bq.size; rw [World.size_alloc] at this; omega
  obtain ⟨pb, qb⟩ := box_at Bq
  replace HA : Hid (Rd w1_ w1_.heap.size A bs) := HA.out.on Sq
  have HB : Hid (Below w.heap.size w w1_) := Sq
  clear Bq Sq
  have RX := Lib.hid Rq; clear Rq
  go_wp2_with fail
  refine (HY.out _).mono ?_
  rintro e w2_ ⟨A2, c2, rfl, Rq, Bq⟩
  rw [World.size_alloc] at Bq
  have Sq : Below w1_.heap.size w1_ w2_ := (one_below w1_ _).trans (Bq.mono (by omega))
  have zx : w1_.heap.size < w2_.heap.size := by have := Bq.size; rw [World.size_alloc] at this; omega
  obtain ⟨px, qx⟩ := box_at Bq
  replace pb := (Sq.cell (p := ⟨w.heap.size, 0, none⟩) zb).trans pb
  replace qb := (Sq.cell (p := ⟨w.heap.size, 1, none⟩) zb).trans qb
  replace zb : w.heap.size < w2_.heap.size := Nat.lt_of_lt_of_le zb Sq.size
  replace HA : Hid (Rd w2_ w2_.heap.size A bs) := HA.out.on Sq
  replace RX : Hid (Rd w2_ w2_.heap.size A1 []) := RX.out.on Sq
  replace HB : Hid (Below w.heap.size w w2_) := HB.out.trans (Sq.mono HB.out.size)
  clear Bq Sq
  have RY := Lib.hid Rq; clear Rq
  go_wp2_with fail
  refine (HP.out _ (HA.out.on (one_below w2_ _))).mono ?_
  rintro e w3_ ⟨rfl, Bq⟩
  rw [World.size_alloc] at Bq
  have Sq : Below w2_.heap.size w2_ w3_ := (one_below w2_ _).trans (Bq.mono (by omega))
  have zy : w2_.heap.size < w3_.heap.size := by have := Bq.size; rw [World.size_alloc] at this; omega
  obtain ⟨py, qy⟩ := box_at Bq
  replace pb := (Sq.cell (p := ⟨w.heap.size, 0, none⟩) zb).trans pb
  replace qb := (Sq.cell (p := ⟨w.heap.size, 1, none⟩) zb).trans qb
  replace zb : w.heap.size < w3_.heap.size := Nat.lt_of_lt_of_le zb Sq.size
  replace px := (Sq.cell (p := ⟨w1_.heap.size, 0, none⟩) zx).trans px
  replace qx := (Sq.cell (p := ⟨w1_.heap.size, 1, none⟩) zx).trans qx
  replace zx : w1_.heap.size < w3_.heap.size := Nat.lt_of_lt_of_le zx Sq.size
  replace HA : Hid (Rd w3_ w3_.heap.size A bs) := HA.out.on Sq
  replace RX : Hid (Rd w3_ w3_.heap.size A1 []) := RX.out.on Sq
  replace RY : Hid (Rd w3_ w3_.heap.size A2 []) := RY.out.on Sq
  replace HB : Hid (Below w.heap.size w w3_) := HB.out.trans (Sq.mono HB.out.size)
  clear Bq Sq
  go_wp2_with fail
  refine (HQ.out _ HA.out).mono ?_
  rintro e w4_ ⟨rfl, Bq⟩
  have Sq : Below w3_.heap.size w3_ w4_ := Bq
  replace pb := (Sq.cell (p := ⟨w.heap.size, 0, none⟩) zb).trans pb
  replace qb := (Sq.cell (p := ⟨w.heap.size, 1, none⟩) zb).trans qb
  replace zb : w.heap.size < w4_.heap.size := Nat.lt_of_lt_of_le zb Sq.size
  replace px := (Sq.cell (p := ⟨w1_.heap.size, 0, none⟩) zx).trans px
  replace qx := (Sq.cell (p := ⟨w1_.heap.size, 1, none⟩) zx).trans qx
  replace zx : w1_.heap.size < w4_.heap.size := Nat.lt_of_lt_of_le zx Sq.size
  replace py := (Sq.cell (p := ⟨w2_.heap.size, 0, none⟩) zy).trans py
  replace qy := (Sq.cell (p := ⟨w2_.heap.size, 1, none⟩) zy).trans qy
  replace zy : w2_.heap.size < w4_.heap.size := Nat.lt_of_lt_of_le zy Sq.size
  replace HA : Hid (Rd w4_ w4_.heap.size A bs) := HA.out.on Sq
  replace RX : Hid (Rd w4_ w4_.heap.size A1 []) := RX.out.on Sq
  replace RY : Hid (Rd w4_ w4_.heap.size A2 []) := RY.out.on Sq
  replace HB : Hid (Below w.heap.size w w4_) := HB.out.trans (Sq.mono HB.out.size)
  clear Bq Sq
  go_wp2_with fail
  obtain ⟨w10, hw, T⟩ := b2_zero w4_
  rw [hw]
  clear hw
  have Sq := T.below
  replace pb := (Sq.cell (p := ⟨w.heap.size, 0, none⟩) zb).trans pb
  replace qb := (Sq.cell (p := ⟨w.heap.size, 1, none⟩) zb).trans qb
  replace zb : w.heap.size < w10.heap.size := Nat.lt_of_lt_of_le zb Sq.size
  replace px := (Sq.cell (p := ⟨w1_.heap.size, 0, none⟩) zx).trans px
  replace qx := (Sq.cell (p := ⟨w1_.heap.size, 1, none⟩) zx).trans qx
  replace zx : w1_.heap.size < w10.heap.size := Nat.lt_of_lt_of_le zx Sq.size
  replace py := (Sq.cell (p := ⟨w2_.heap.size, 0, none⟩) zy).trans py
  replace qy := (Sq.cell (p := ⟨w2_.heap.size, 1, none⟩) zy).trans qy
  replace zy : w2_.heap.size < w10.heap.size := Nat.lt_of_lt_of_le zy Sq.size
  replace HA : Hid (Rd w10 w10.heap.size A bs) := HA.out.on Sq
  replace RX : Hid (Rd w10 w10.heap.size A1 []) := RX.out.on Sq
  replace RY : Hid (Rd w10 w10.heap.size A2 []) := RY.out.on Sq
  replace HB : Hid (Below w.heap.size w w10) := HB.out.trans (Sq.mono HB.out.size)
  clear Sq
  obtain ⟨pg, qg, -, -⟩ := blk_cells T.x
  obtain ⟨ph, qh, -, -⟩ := blk_cells T.y
  have zh : w4_.heap.size + 1 < w10.heap.size := T.size
  have zg : w4_.heap.size < w10.heap.size := by omega
  have RG := Lib.hid T.rx
  have RH := Lib.hid T.ry
  clear T
  refine (HE.out _ HA.out).mono ?_
  rintro e w5_ ⟨rfl, Bq⟩
  have Sq : Below w10.heap.size w10 w5_ := Bq
  replace pb := (Sq.cell (p := ⟨w.heap.size, 0, none⟩) zb).trans pb
  replace qb := (Sq.cell (p := ⟨w.heap.size, 1, none⟩) zb).trans qb
  replace zb : w.heap.size < w5_.heap.size := Nat.lt_of_lt_of_le zb Sq.size
  replace px := (Sq.cell (p := ⟨w1_.heap.size, 0, none⟩) zx).trans px
  replace qx := (Sq.cell (p := ⟨w1_.heap.size, 1, none⟩) zx).trans qx
  replace zx : w1_.heap.size < w5_.heap.size := Nat.lt_of_lt_of_le zx Sq.size
  replace py := (Sq.cell (p := ⟨w2_.heap.size, 0, none⟩) zy).trans py
  replace qy := (Sq.cell (p := ⟨w2_.heap.size, 1, none⟩) zy).trans qy
  replace zy : w2_.heap.size < w5_.heap.size := Nat.lt_of_lt_of_le zy Sq.size
  replace pg := (Sq.cell (p := ⟨w4_.heap.size, 0, none⟩) zg).trans pg
  replace qg := (Sq.cell (p := ⟨w4_.heap.size, 1, none⟩) zg).trans qg
  replace zg : w4_.heap.size < w5_.heap.size := Nat.lt_of_lt_of_le zg Sq.size
  replace ph := (Sq.cell (p := ⟨(w4_.heap.size + 1), 0, none⟩) zh).trans ph
  replace qh := (Sq.cell (p := ⟨(w4_.heap.size + 1), 1, none⟩) zh).trans qh
  replace zh : (w4_.heap.size + 1) < w5_.heap.size := Nat.lt_of_lt_of_le zh Sq.size
  replace HA : Hid (Rd w5_ w5_.heap.size A bs) := HA.out.on Sq
  replace RX : Hid (Rd w5_ w5_.heap.size A1 []) := RX.out.on Sq
  replace RY : Hid (Rd w5_ w5_.heap.size A2 []) := RY.out.on Sq
  replace RG : Hid (Rd w5_ w5_.heap.size none []) := RG.out.on Sq
  replace RH : Hid (Rd w5_ w5_.heap.size none []) := RH.out.on Sq
  replace HB : Hid (Below w.heap.size w w5_) := HB.out.trans (Sq.mono HB.out.size)
  clear Bq Sq
  go_wp2_with fail
  refine (gbegun_true _).mono ?_
  rintro e w6_ ⟨rfl, Bq⟩
  have Sq : Below w5_.heap.size w5_ w6_ := Bq
  replace pb := (Sq.cell (p := ⟨w.heap.size, 0, none⟩) zb).trans pb
  replace qb := (Sq.cell (p := ⟨w.heap.size, 1, none⟩) zb).trans qb
  replace zb : w.heap.size < w6_.heap.size := Nat.lt_of_lt_of_le zb Sq.size
  replace px := (Sq.cell (p := ⟨w1_.heap.size, 0, none⟩) zx).trans px
  replace qx := (Sq.cell (p := ⟨w1_.heap.size, 1, none⟩) zx).trans qx
  replace zx : w1_.heap.size < w6_.heap.size := Nat.lt_of_lt_of_le zx Sq.size
  replace py := (Sq.cell (p := ⟨w2_.heap.size, 0, none⟩) zy).trans py
  replace qy := (Sq.cell (p := ⟨w2_.heap.size, 1, none⟩) zy).trans qy
  replace zy : w2_.heap.size < w6_.heap.size := Nat.lt_of_lt_of_le zy Sq.size
  replace pg := (Sq.cell (p := ⟨w4_.heap.size, 0, none⟩) zg).trans pg
  replace qg := (Sq.cell (p := ⟨w4_.heap.size, 1, none⟩) zg).trans qg
  replace zg : w4_.heap.size < w6_.heap.size := Nat.lt_of_lt_of_le zg Sq.size
  replace ph := (Sq.cell (p := ⟨(w4_.heap.size + 1), 0, none⟩) zh).trans ph
  replace qh := (Sq.cell (p := ⟨(w4_.heap.size + 1), 1, none⟩) zh).trans qh
  replace zh : (w4_.heap.size + 1) < w6_.heap.size := Nat.lt_of_lt_of_le zh Sq.size
  replace HA : Hid (Rd w6_ w6_.heap.size A bs) := HA.out.on Sq
  replace RX : Hid (Rd w6_ w6_.heap.size A1 []) := RX.out.on Sq
  replace RY : Hid (Rd w6_ w6_.heap.size A2 []) := RY.out.on Sq
  replace RG : Hid (Rd w6_ w6_.heap.size none []) := RG.out.on Sq
  replace RH : Hid (Rd w6_ w6_.heap.size none []) := RH.out.on Sq
  replace HB : Hid (Below w.heap.size w w6_) := HB.out.trans (Sq.mono HB.out.size)
  clear Bq Sq
  go_wp2_with fail
  refine (HS1.out A1 none c1 0 _ RX.out RG.out).mono ?_
  rintro e w7_ ⟨rfl, Bq⟩
  have Sq : Below w6_.heap.size w6_ w7_ := Bq
  replace pb := (Sq.cell (p := ⟨w.heap.size, 0, none⟩) zb).trans pb
  replace qb := (Sq.cell (p := ⟨w.heap.size, 1, none⟩) zb).trans qb
  replace zb : w.heap.size < w7_.heap.size := Nat.lt_of_lt_of_le zb Sq.size
  replace px := (Sq.cell (p := ⟨w1_.heap.size, 0, none⟩) zx).trans px
  replace qx := (Sq.cell (p := ⟨w1_.heap.size, 1, none⟩) zx).trans qx
  replace zx : w1_.heap.size < w7_.heap.size := Nat.lt_of_lt_of_le zx Sq.size
  replace py := (Sq.cell (p := ⟨w2_.heap.size, 0, none⟩) zy).trans py
  replace qy := (Sq.cell (p := ⟨w2_.heap.size, 1, none⟩) zy).trans qy
  replace zy : w2_.heap.size < w7_.heap.size := Nat.lt_of_lt_of_le zy Sq.size
  replace pg := (Sq.cell (p := ⟨w4_.heap.size, 0, none⟩) zg).trans pg
  replace qg := (Sq.cell (p := ⟨w4_.heap.size, 1, none⟩) zg).trans qg
  replace zg : w4_.heap.size < w7_.heap.size := Nat.lt_of_lt_of_le zg Sq.size
  replace ph := (Sq.cell (p := ⟨(w4_.heap.size + 1), 0, none⟩) zh).trans ph
  replace qh := (Sq.cell (p := ⟨(w4_.heap.size + 1), 1, none⟩) zh).trans qh
  replace zh : (w4_.heap.size + 1) < w7_.heap.size := Nat.lt_of_lt_of_le zh Sq.size
  replace HA : Hid (Rd w7_ w7_.heap.size A bs) := HA.out.on Sq
  replace RX : Hid (Rd w7_ w7_.heap.size A1 []) := RX.out.on Sq
  replace RY : Hid (Rd w7_ w7_.heap.size A2 []) := RY.out.on Sq
  replace RG : Hid (Rd w7_ w7_.heap.size none []) := RG.out.on Sq
  replace RH : Hid (Rd w7_ w7_.heap.size none []) := RH.out.on Sq
  replace HB : Hid (Below w.heap.size w w7_) := HB.out.trans (Sq.mono HB.out.size)
  clear Bq Sq
  go_wp2_with fail
  refine (HS2.out A2 none c2 0 _ RY.out RH.out).mono ?_
  rintro e w8_ ⟨rfl, Bq⟩
  have Sq : Below w7_.heap.size w7_ w8_ := Bq
  replace pb := (Sq.cell (p := ⟨w.heap.size, 0, none⟩) zb).trans pb
  replace qb := (Sq.cell (p := ⟨w.heap.size, 1, none⟩) zb).trans qb
  replace zb : w.heap.size < w8_.heap.size := Nat.lt_of_lt_of_le zb Sq.size
  replace px := (Sq.cell (p := ⟨w1_.heap.size, 0, none⟩) zx).trans px
  replace qx := (Sq.cell (p := ⟨w1_.heap.size, 1, none⟩) zx).trans qx
  replace zx : w1_.heap.size < w8_.heap.size := Nat.lt_of_lt_of_le zx Sq.size
  replace py := (Sq.cell (p := ⟨w2_.heap.size, 0, none⟩) zy).trans py
  replace qy := (Sq.cell (p := ⟨w2_.heap.size, 1, none⟩) zy).trans qy
  replace zy : w2_.heap.size < w8_.heap.size := Nat.lt_of_lt_of_le zy Sq.size
  replace pg := (Sq.cell (p := ⟨w4_.heap.size, 0, none⟩) zg).trans pg
  replace qg := (Sq.cell (p := ⟨w4_.heap.size, 1, none⟩) zg).trans qg
  replace zg : w4_.heap.size < w8_.heap.size := Nat.lt_of_lt_of_le zg Sq.size
  replace ph := (Sq.cell (p := ⟨(w4_.heap.size + 1), 0, none⟩) zh).trans ph
  replace qh := (Sq.cell (p := ⟨(w4_.heap.size + 1), 1, none⟩) zh).trans qh
  replace zh : (w4_.heap.size + 1) < w8_.heap.size := Nat.lt_of_lt_of_le zh Sq.size
  replace HA : Hid (Rd w8_ w8_.heap.size A bs) := HA.out.on Sq
  replace RX : Hid (Rd w8_ w8_.heap.size A1 []) := RX.out.on Sq
  replace RY : Hid (Rd w8_ w8_.heap.size A2 []) := RY.out.on Sq
  replace RG : Hid (Rd w8_ w8_.heap.size none []) := RG.out.on Sq
  replace RH : Hid (Rd w8_ w8_.heap.size none []) := RH.out.on Sq
  replace HB : Hid (Below w.heap.size w w8_) := HB.out.trans (Sq.mono HB.out.size)
  clear Bq Sq
  go_wp2
  go_ret
  exact ⟨rfl, HB.out⟩
set_option maxHeartbeats 4000000 in
theorem gtells_hb (w : World) (n m q r len : Int) (A : Option Addr) (c N : Nat) (bs : List Nat) (p0 : Int) (lX lY : Int) (nX nY nG nU nL nB : Nat) (bX bY : List Nat) (lG lU lL lB : List Bool) (e0 : Int) (r1 r2 s1 s2 x0 : Nat) (g : Int) (hA : Rd w w.heap.size A bs)
    (HX : Hid (∀ V, Calls Try.prog 35 #[.int .u64 n, .int .u64 m] V (Gv V 0 0 [] 3)))
    (HY : Hid (∀ V, Calls Try.prog 36 #[.int .u64 n, .int .u64 m] V (Gv V 0 0 [] 3)))
    (HP : Hid (∀ V, Rd V V.heap.size A bs → Calls Try.prog 37 #[.agg #[.int .i64 len, .slice A N c], .int .i64 p0, .int .u64 m] V (ReadP V 0 0 e0)))
    (HQ : Hid (∀ V, Rd V V.heap.size A bs → Calls Try.prog 38 #[.agg #[.int .i64 len, .slice A N c], .int .i64 p0, .int .u64 m] V (ReadP V 0 0 e0)))
    (HE : Hid (∀ V, Rd V V.heap.size A bs → Calls Try.prog 23 #[.agg #[.int .i64 len, .slice A N c], .int .i64 p0] V fun e w' => e = .returned (.int .i64 e0) ∧ Below V.heap.size V w'))
    (HS1 : Hid (∀ A B c d V, Rd V V.heap.size A [] → Rd V V.heap.size B [] → Calls Try.prog 28 #[.agg #[.int .i64 0, .slice A 0 c], .agg #[.int .i64 0, .slice B 0 d]] V fun e w' => e = .returned (.bool true) ∧ Below V.heap.size V w'))
    (HS2 : Hid (∀ A B c d V, Rd V V.heap.size A [] → Rd V V.heap.size B [] → Calls Try.prog 28 #[.agg #[.int .i64 0, .slice A 0 c], .agg #[.int .i64 0, .slice B 0 d]] V fun e w' => e = .returned (.bool true) ∧ Below V.heap.size V w'))
     (hm : 1099511627776 < m) (h0 : e0 ≠ 0) :
    Calls Try.prog 8 #[.int .u64 n, .int .u64 m, .agg #[.int .i64 len, .slice A N c], .int .i64 p0] w fun e w' => e = .returned (.bool true) ∧ Below w.heap.size w w' := by
  have HA := Lib.hid hA; clear hA
  have a1 : decide ((1 : Int) ≤ m) = true := by simp; omega
  have a2 : decide (m ≤ 1099511627776) = false := by simp; omega
  have t2 : (e0 == 0) = false := by simpa using h0
  clear h0
  go_enter Try.func8, Try.ntmps8
  go_wp2_with fail
  refine (HX.out _).mono ?_
  rintro e w1_ ⟨A1, c1, rfl, Rq, Bq⟩
  rw [World.size_alloc] at Bq
  have Sq : Below w.heap.size w w1_ := (one_below w _).trans (Bq.mono (by omega))
  have zb : w.heap.size < w1_.heap.size := by have := Bq.size; rw [World.size_alloc] at this; omega
  obtain ⟨pb, qb⟩ := box_at Bq
  replace HA : Hid (Rd w1_ w1_.heap.size A bs) := HA.out.on Sq
  have HB : Hid (Below w.heap.size w w1_) := Sq
  clear Bq Sq
  have RX := Lib.hid Rq; clear Rq
  go_wp2_with fail
  refine (HY.out _).mono ?_
  rintro e w2_ ⟨A2, c2, rfl, Rq, Bq⟩
  rw [World.size_alloc] at Bq
  have Sq : Below w1_.heap.size w1_ w2_ := (one_below w1_ _).trans (Bq.mono (by omega))
  have zx : w1_.heap.size < w2_.heap.size := by have := Bq.size; rw [World.size_alloc] at this; omega
  obtain ⟨px, qx⟩ := box_at Bq
  replace pb := (Sq.cell (p := ⟨w.heap.size, 0, none⟩) zb).trans pb
  replace qb := (Sq.cell (p := ⟨w.heap.size, 1, none⟩) zb).trans qb
  replace zb : w.heap.size < w2_.heap.size := Nat.lt_of_lt_of_le zb Sq.size
  replace HA : Hid (Rd w2_ w2_.heap.size A bs) := HA.out.on Sq
  replace RX : Hid (Rd w2_ w2_.heap.size A1 []) := RX.out.on Sq
  replace HB : Hid (Below w.heap.size w w2_) := HB.out.trans (Sq.mono HB.out.size)
  clear Bq Sq
  have RY := Lib.hid Rq; clear Rq
  go_wp2_with fail
  refine (HP.out _ (HA.out.on (one_below w2_ _))).mono ?_
  rintro e w3_ ⟨rfl, Bq⟩
  rw [World.size_alloc] at Bq
  have Sq : Below w2_.heap.size w2_ w3_ := (one_below w2_ _).trans (Bq.mono (by omega))
  have zy : w2_.heap.size < w3_.heap.size := by have := Bq.size; rw [World.size_alloc] at this; omega
  obtain ⟨py, qy⟩ := box_at Bq
  replace pb := (Sq.cell (p := ⟨w.heap.size, 0, none⟩) zb).trans pb
  replace qb := (Sq.cell (p := ⟨w.heap.size, 1, none⟩) zb).trans qb
  replace zb : w.heap.size < w3_.heap.size := Nat.lt_of_lt_of_le zb Sq.size
  replace px := (Sq.cell (p := ⟨w1_.heap.size, 0, none⟩) zx).trans px
  replace qx := (Sq.cell (p := ⟨w1_.heap.size, 1, none⟩) zx).trans qx
  replace zx : w1_.heap.size < w3_.heap.size := Nat.lt_of_lt_of_le zx Sq.size
  replace HA : Hid (Rd w3_ w3_.heap.size A bs) := HA.out.on Sq
  replace RX : Hid (Rd w3_ w3_.heap.size A1 []) := RX.out.on Sq
  replace RY : Hid (Rd w3_ w3_.heap.size A2 []) := RY.out.on Sq
  replace HB : Hid (Below w.heap.size w w3_) := HB.out.trans (Sq.mono HB.out.size)
  clear Bq Sq
  go_wp2_with fail
  refine (HQ.out _ HA.out).mono ?_
  rintro e w4_ ⟨rfl, Bq⟩
  have Sq : Below w3_.heap.size w3_ w4_ := Bq
  replace pb := (Sq.cell (p := ⟨w.heap.size, 0, none⟩) zb).trans pb
  replace qb := (Sq.cell (p := ⟨w.heap.size, 1, none⟩) zb).trans qb
  replace zb : w.heap.size < w4_.heap.size := Nat.lt_of_lt_of_le zb Sq.size
  replace px := (Sq.cell (p := ⟨w1_.heap.size, 0, none⟩) zx).trans px
  replace qx := (Sq.cell (p := ⟨w1_.heap.size, 1, none⟩) zx).trans qx
  replace zx : w1_.heap.size < w4_.heap.size := Nat.lt_of_lt_of_le zx Sq.size
  replace py := (Sq.cell (p := ⟨w2_.heap.size, 0, none⟩) zy).trans py
  replace qy := (Sq.cell (p := ⟨w2_.heap.size, 1, none⟩) zy).trans qy
  replace zy : w2_.heap.size < w4_.heap.size := Nat.lt_of_lt_of_le zy Sq.size
  replace HA : Hid (Rd w4_ w4_.heap.size A bs) := HA.out.on Sq
  replace RX : Hid (Rd w4_ w4_.heap.size A1 []) := RX.out.on Sq
  replace RY : Hid (Rd w4_ w4_.heap.size A2 []) := RY.out.on Sq
  replace HB : Hid (Below w.heap.size w w4_) := HB.out.trans (Sq.mono HB.out.size)
  clear Bq Sq
  go_wp2_with fail
  obtain ⟨w10, hw, T⟩ := b2_zero w4_
  rw [hw]
  clear hw
  have Sq := T.below
  replace pb := (Sq.cell (p := ⟨w.heap.size, 0, none⟩) zb).trans pb
  replace qb := (Sq.cell (p := ⟨w.heap.size, 1, none⟩) zb).trans qb
  replace zb : w.heap.size < w10.heap.size := Nat.lt_of_lt_of_le zb Sq.size
  replace px := (Sq.cell (p := ⟨w1_.heap.size, 0, none⟩) zx).trans px
  replace qx := (Sq.cell (p := ⟨w1_.heap.size, 1, none⟩) zx).trans qx
  replace zx : w1_.heap.size < w10.heap.size := Nat.lt_of_lt_of_le zx Sq.size
  replace py := (Sq.cell (p := ⟨w2_.heap.size, 0, none⟩) zy).trans py
  replace qy := (Sq.cell (p := ⟨w2_.heap.size, 1, none⟩) zy).trans qy
  replace zy : w2_.heap.size < w10.heap.size := Nat.lt_of_lt_of_le zy Sq.size
  replace HA : Hid (Rd w10 w10.heap.size A bs) := HA.out.on Sq
  replace RX : Hid (Rd w10 w10.heap.size A1 []) := RX.out.on Sq
  replace RY : Hid (Rd w10 w10.heap.size A2 []) := RY.out.on Sq
  replace HB : Hid (Below w.heap.size w w10) := HB.out.trans (Sq.mono HB.out.size)
  clear Sq
  obtain ⟨pg, qg, -, -⟩ := blk_cells T.x
  obtain ⟨ph, qh, -, -⟩ := blk_cells T.y
  have zh : w4_.heap.size + 1 < w10.heap.size := T.size
  have zg : w4_.heap.size < w10.heap.size := by omega
  have RG := Lib.hid T.rx
  have RH := Lib.hid T.ry
  clear T
  refine (HE.out _ HA.out).mono ?_
  rintro e w5_ ⟨rfl, Bq⟩
  have Sq : Below w10.heap.size w10 w5_ := Bq
  replace pb := (Sq.cell (p := ⟨w.heap.size, 0, none⟩) zb).trans pb
  replace qb := (Sq.cell (p := ⟨w.heap.size, 1, none⟩) zb).trans qb
  replace zb : w.heap.size < w5_.heap.size := Nat.lt_of_lt_of_le zb Sq.size
  replace px := (Sq.cell (p := ⟨w1_.heap.size, 0, none⟩) zx).trans px
  replace qx := (Sq.cell (p := ⟨w1_.heap.size, 1, none⟩) zx).trans qx
  replace zx : w1_.heap.size < w5_.heap.size := Nat.lt_of_lt_of_le zx Sq.size
  replace py := (Sq.cell (p := ⟨w2_.heap.size, 0, none⟩) zy).trans py
  replace qy := (Sq.cell (p := ⟨w2_.heap.size, 1, none⟩) zy).trans qy
  replace zy : w2_.heap.size < w5_.heap.size := Nat.lt_of_lt_of_le zy Sq.size
  replace pg := (Sq.cell (p := ⟨w4_.heap.size, 0, none⟩) zg).trans pg
  replace qg := (Sq.cell (p := ⟨w4_.heap.size, 1, none⟩) zg).trans qg
  replace zg : w4_.heap.size < w5_.heap.size := Nat.lt_of_lt_of_le zg Sq.size
  replace ph := (Sq.cell (p := ⟨(w4_.heap.size + 1), 0, none⟩) zh).trans ph
  replace qh := (Sq.cell (p := ⟨(w4_.heap.size + 1), 1, none⟩) zh).trans qh
  replace zh : (w4_.heap.size + 1) < w5_.heap.size := Nat.lt_of_lt_of_le zh Sq.size
  replace HA : Hid (Rd w5_ w5_.heap.size A bs) := HA.out.on Sq
  replace RX : Hid (Rd w5_ w5_.heap.size A1 []) := RX.out.on Sq
  replace RY : Hid (Rd w5_ w5_.heap.size A2 []) := RY.out.on Sq
  replace RG : Hid (Rd w5_ w5_.heap.size none []) := RG.out.on Sq
  replace RH : Hid (Rd w5_ w5_.heap.size none []) := RH.out.on Sq
  replace HB : Hid (Below w.heap.size w w5_) := HB.out.trans (Sq.mono HB.out.size)
  clear Bq Sq
  go_wp2_with fail
  refine (gbegun_true _).mono ?_
  rintro e w6_ ⟨rfl, Bq⟩
  have Sq : Below w5_.heap.size w5_ w6_ := Bq
  replace pb := (Sq.cell (p := ⟨w.heap.size, 0, none⟩) zb).trans pb
  replace qb := (Sq.cell (p := ⟨w.heap.size, 1, none⟩) zb).trans qb
  replace zb : w.heap.size < w6_.heap.size := Nat.lt_of_lt_of_le zb Sq.size
  replace px := (Sq.cell (p := ⟨w1_.heap.size, 0, none⟩) zx).trans px
  replace qx := (Sq.cell (p := ⟨w1_.heap.size, 1, none⟩) zx).trans qx
  replace zx : w1_.heap.size < w6_.heap.size := Nat.lt_of_lt_of_le zx Sq.size
  replace py := (Sq.cell (p := ⟨w2_.heap.size, 0, none⟩) zy).trans py
  replace qy := (Sq.cell (p := ⟨w2_.heap.size, 1, none⟩) zy).trans qy
  replace zy : w2_.heap.size < w6_.heap.size := Nat.lt_of_lt_of_le zy Sq.size
  replace pg := (Sq.cell (p := ⟨w4_.heap.size, 0, none⟩) zg).trans pg
  replace qg := (Sq.cell (p := ⟨w4_.heap.size, 1, none⟩) zg).trans qg
  replace zg : w4_.heap.size < w6_.heap.size := Nat.lt_of_lt_of_le zg Sq.size
  replace ph := (Sq.cell (p := ⟨(w4_.heap.size + 1), 0, none⟩) zh).trans ph
  replace qh := (Sq.cell (p := ⟨(w4_.heap.size + 1), 1, none⟩) zh).trans qh
  replace zh : (w4_.heap.size + 1) < w6_.heap.size := Nat.lt_of_lt_of_le zh Sq.size
  replace HA : Hid (Rd w6_ w6_.heap.size A bs) := HA.out.on Sq
  replace RX : Hid (Rd w6_ w6_.heap.size A1 []) := RX.out.on Sq
  replace RY : Hid (Rd w6_ w6_.heap.size A2 []) := RY.out.on Sq
  replace RG : Hid (Rd w6_ w6_.heap.size none []) := RG.out.on Sq
  replace RH : Hid (Rd w6_ w6_.heap.size none []) := RH.out.on Sq
  replace HB : Hid (Below w.heap.size w w6_) := HB.out.trans (Sq.mono HB.out.size)
  clear Bq Sq
  go_wp2_with fail
  refine (HS1.out A1 none c1 0 _ RX.out RG.out).mono ?_
  rintro e w7_ ⟨rfl, Bq⟩
  have Sq : Below w6_.heap.size w6_ w7_ := Bq
  replace pb := (Sq.cell (p := ⟨w.heap.size, 0, none⟩) zb).trans pb
  replace qb := (Sq.cell (p := ⟨w.heap.size, 1, none⟩) zb).trans qb
  replace zb : w.heap.size < w7_.heap.size := Nat.lt_of_lt_of_le zb Sq.size
  replace px := (Sq.cell (p := ⟨w1_.heap.size, 0, none⟩) zx).trans px
  replace qx := (Sq.cell (p := ⟨w1_.heap.size, 1, none⟩) zx).trans qx
  replace zx : w1_.heap.size < w7_.heap.size := Nat.lt_of_lt_of_le zx Sq.size
  replace py := (Sq.cell (p := ⟨w2_.heap.size, 0, none⟩) zy).trans py
  replace qy := (Sq.cell (p := ⟨w2_.heap.size, 1, none⟩) zy).trans qy
  replace zy : w2_.heap.size < w7_.heap.size := Nat.lt_of_lt_of_le zy Sq.size
  replace pg := (Sq.cell (p := ⟨w4_.heap.size, 0, none⟩) zg).trans pg
  replace qg := (Sq.cell (p := ⟨w4_.heap.size, 1, none⟩) zg).trans qg
  replace zg : w4_.heap.size < w7_.heap.size := Nat.lt_of_lt_of_le zg Sq.size
  replace ph := (Sq.cell (p := ⟨(w4_.heap.size + 1), 0, none⟩) zh).trans ph
  replace qh := (Sq.cell (p := ⟨(w4_.heap.size + 1), 1, none⟩) zh).trans qh
  replace zh : (w4_.heap.size + 1) < w7_.heap.size := Nat.lt_of_lt_of_le zh Sq.size
  replace HA : Hid (Rd w7_ w7_.heap.size A bs) := HA.out.on Sq
  replace RX : Hid (Rd w7_ w7_.heap.size A1 []) := RX.out.on Sq
  replace RY : Hid (Rd w7_ w7_.heap.size A2 []) := RY.out.on Sq
  replace RG : Hid (Rd w7_ w7_.heap.size none []) := RG.out.on Sq
  replace RH : Hid (Rd w7_ w7_.heap.size none []) := RH.out.on Sq
  replace HB : Hid (Below w.heap.size w w7_) := HB.out.trans (Sq.mono HB.out.size)
  clear Bq Sq
  go_wp2_with fail
  refine (HS2.out A2 none c2 0 _ RY.out RH.out).mono ?_
  rintro e w8_ ⟨rfl, Bq⟩
  have Sq : Below w7_.heap.size w7_ w8_ := Bq
  replace pb := (Sq.cell (p := ⟨w.heap.size, 0, none⟩) zb).trans pb
  replace qb := (Sq.cell (p := ⟨w.heap.size, 1, none⟩) zb).trans qb
  replace zb : w.heap.size < w8_.heap.size := Nat.lt_of_lt_of_le zb Sq.size
  replace px := (Sq.cell (p := ⟨w1_.heap.size, 0, none⟩) zx).trans px
  replace qx := (Sq.cell (p := ⟨w1_.heap.size, 1, none⟩) zx).trans qx
  replace zx : w1_.heap.size < w8_.heap.size := Nat.lt_of_lt_of_le zx Sq.size
  replace py := (Sq.cell (p := ⟨w2_.heap.size, 0, none⟩) zy).trans py
  replace qy := (Sq.cell (p := ⟨w2_.heap.size, 1, none⟩) zy).trans qy
  replace zy : w2_.heap.size < w8_.heap.size := Nat.lt_of_lt_of_le zy Sq.size
  replace pg := (Sq.cell (p := ⟨w4_.heap.size, 0, none⟩) zg).trans pg
  replace qg := (Sq.cell (p := ⟨w4_.heap.size, 1, none⟩) zg).trans qg
  replace zg : w4_.heap.size < w8_.heap.size := Nat.lt_of_lt_of_le zg Sq.size
  replace ph := (Sq.cell (p := ⟨(w4_.heap.size + 1), 0, none⟩) zh).trans ph
  replace qh := (Sq.cell (p := ⟨(w4_.heap.size + 1), 1, none⟩) zh).trans qh
  replace zh : (w4_.heap.size + 1) < w8_.heap.size := Nat.lt_of_lt_of_le zh Sq.size
  replace HA : Hid (Rd w8_ w8_.heap.size A bs) := HA.out.on Sq
  replace RX : Hid (Rd w8_ w8_.heap.size A1 []) := RX.out.on Sq
  replace RY : Hid (Rd w8_ w8_.heap.size A2 []) := RY.out.on Sq
  replace RG : Hid (Rd w8_ w8_.heap.size none []) := RG.out.on Sq
  replace RH : Hid (Rd w8_ w8_.heap.size none []) := RH.out.on Sq
  replace HB : Hid (Below w.heap.size w w8_) := HB.out.trans (Sq.mono HB.out.size)
  clear Bq Sq
  go_wp2
  go_ret
  exact ⟨rfl, HB.out⟩
set_option maxHeartbeats 4000000 in
theorem gtells_ho (w : World) (n m q r len : Int) (A : Option Addr) (c N : Nat) (bs : List Nat) (p0 : Int) (lX lY : Int) (nX nY nG nU nL nB : Nat) (bX bY : List Nat) (lG lU lL lB : List Bool) (e0 : Int) (r1 r2 s1 s2 x0 : Nat) (g : Int) (hA : Rd w w.heap.size A bs)
    (HX : Hid (∀ V, Calls Try.prog 35 #[.int .u64 n, .int .u64 m] V (Gv V 0 0 [] 3)))
    (HY : Hid (∀ V, Calls Try.prog 36 #[.int .u64 n, .int .u64 m] V (Gv V 0 0 [] 3)))
    (HP : Hid (∀ V, Rd V V.heap.size A bs → Calls Try.prog 37 #[.agg #[.int .i64 len, .slice A N c], .int .i64 p0, .int .u64 m] V (ReadP V 0 0 3)))
    (HQ : Hid (∀ V, Rd V V.heap.size A bs → Calls Try.prog 38 #[.agg #[.int .i64 len, .slice A N c], .int .i64 p0, .int .u64 m] V (ReadP V 0 0 3)))
    (HE : Hid (∀ V, Rd V V.heap.size A bs → Calls Try.prog 23 #[.agg #[.int .i64 len, .slice A N c], .int .i64 p0] V fun e w' => e = .returned (.int .i64 0) ∧ Below V.heap.size V w'))
    (HS1 : Hid (∀ A B c d V, Rd V V.heap.size A [] → Rd V V.heap.size B [] → Calls Try.prog 28 #[.agg #[.int .i64 0, .slice A 0 c], .agg #[.int .i64 0, .slice B 0 d]] V fun e w' => e = .returned (.bool true) ∧ Below V.heap.size V w'))
    (HS2 : Hid (∀ A B c d V, Rd V V.heap.size A [] → Rd V V.heap.size B [] → Calls Try.prog 28 #[.agg #[.int .i64 0, .slice A 0 c], .agg #[.int .i64 0, .slice B 0 d]] V fun e w' => e = .returned (.bool true) ∧ Below V.heap.size V w'))
     (hm : 1099511627776 < m) :
    Calls Try.prog 8 #[.int .u64 n, .int .u64 m, .agg #[.int .i64 len, .slice A N c], .int .i64 p0] w fun e w' => e = .returned (.bool true) ∧ Below w.heap.size w w' := by
  have HA := Lib.hid hA; clear hA
  have a1 : decide ((1 : Int) ≤ m) = true := by simp; omega
  have a2 : decide (m ≤ 1099511627776) = false := by simp; omega
  go_enter Try.func8, Try.ntmps8
  go_wp2_with fail
  refine (HX.out _).mono ?_
  rintro e w1_ ⟨A1, c1, rfl, Rq, Bq⟩
  rw [World.size_alloc] at Bq
  have Sq : Below w.heap.size w w1_ := (one_below w _).trans (Bq.mono (by omega))
  have zb : w.heap.size < w1_.heap.size := by have := Bq.size; rw [World.size_alloc] at this; omega
  obtain ⟨pb, qb⟩ := box_at Bq
  replace HA : Hid (Rd w1_ w1_.heap.size A bs) := HA.out.on Sq
  have HB : Hid (Below w.heap.size w w1_) := Sq
  clear Bq Sq
  have RX := Lib.hid Rq; clear Rq
  go_wp2_with fail
  refine (HY.out _).mono ?_
  rintro e w2_ ⟨A2, c2, rfl, Rq, Bq⟩
  rw [World.size_alloc] at Bq
  have Sq : Below w1_.heap.size w1_ w2_ := (one_below w1_ _).trans (Bq.mono (by omega))
  have zx : w1_.heap.size < w2_.heap.size := by have := Bq.size; rw [World.size_alloc] at this; omega
  obtain ⟨px, qx⟩ := box_at Bq
  replace pb := (Sq.cell (p := ⟨w.heap.size, 0, none⟩) zb).trans pb
  replace qb := (Sq.cell (p := ⟨w.heap.size, 1, none⟩) zb).trans qb
  replace zb : w.heap.size < w2_.heap.size := Nat.lt_of_lt_of_le zb Sq.size
  replace HA : Hid (Rd w2_ w2_.heap.size A bs) := HA.out.on Sq
  replace RX : Hid (Rd w2_ w2_.heap.size A1 []) := RX.out.on Sq
  replace HB : Hid (Below w.heap.size w w2_) := HB.out.trans (Sq.mono HB.out.size)
  clear Bq Sq
  have RY := Lib.hid Rq; clear Rq
  go_wp2_with fail
  refine (HP.out _ (HA.out.on (one_below w2_ _))).mono ?_
  rintro e w3_ ⟨rfl, Bq⟩
  rw [World.size_alloc] at Bq
  have Sq : Below w2_.heap.size w2_ w3_ := (one_below w2_ _).trans (Bq.mono (by omega))
  have zy : w2_.heap.size < w3_.heap.size := by have := Bq.size; rw [World.size_alloc] at this; omega
  obtain ⟨py, qy⟩ := box_at Bq
  replace pb := (Sq.cell (p := ⟨w.heap.size, 0, none⟩) zb).trans pb
  replace qb := (Sq.cell (p := ⟨w.heap.size, 1, none⟩) zb).trans qb
  replace zb : w.heap.size < w3_.heap.size := Nat.lt_of_lt_of_le zb Sq.size
  replace px := (Sq.cell (p := ⟨w1_.heap.size, 0, none⟩) zx).trans px
  replace qx := (Sq.cell (p := ⟨w1_.heap.size, 1, none⟩) zx).trans qx
  replace zx : w1_.heap.size < w3_.heap.size := Nat.lt_of_lt_of_le zx Sq.size
  replace HA : Hid (Rd w3_ w3_.heap.size A bs) := HA.out.on Sq
  replace RX : Hid (Rd w3_ w3_.heap.size A1 []) := RX.out.on Sq
  replace RY : Hid (Rd w3_ w3_.heap.size A2 []) := RY.out.on Sq
  replace HB : Hid (Below w.heap.size w w3_) := HB.out.trans (Sq.mono HB.out.size)
  clear Bq Sq
  go_wp2_with fail
  refine (HQ.out _ HA.out).mono ?_
  rintro e w4_ ⟨rfl, Bq⟩
  have Sq : Below w3_.heap.size w3_ w4_ := Bq
  replace pb := (Sq.cell (p := ⟨w.heap.size, 0, none⟩) zb).trans pb
  replace qb := (Sq.cell (p := ⟨w.heap.size, 1, none⟩) zb).trans qb
  replace zb : w.heap.size < w4_.heap.size := Nat.lt_of_lt_of_le zb Sq.size
  replace px := (Sq.cell (p := ⟨w1_.heap.size, 0, none⟩) zx).trans px
  replace qx := (Sq.cell (p := ⟨w1_.heap.size, 1, none⟩) zx).trans qx
  replace zx : w1_.heap.size < w4_.heap.size := Nat.lt_of_lt_of_le zx Sq.size
  replace py := (Sq.cell (p := ⟨w2_.heap.size, 0, none⟩) zy).trans py
  replace qy := (Sq.cell (p := ⟨w2_.heap.size, 1, none⟩) zy).trans qy
  replace zy : w2_.heap.size < w4_.heap.size := Nat.lt_of_lt_of_le zy Sq.size
  replace HA : Hid (Rd w4_ w4_.heap.size A bs) := HA.out.on Sq
  replace RX : Hid (Rd w4_ w4_.heap.size A1 []) := RX.out.on Sq
  replace RY : Hid (Rd w4_ w4_.heap.size A2 []) := RY.out.on Sq
  replace HB : Hid (Below w.heap.size w w4_) := HB.out.trans (Sq.mono HB.out.size)
  clear Bq Sq
  go_wp2_with fail
  obtain ⟨w10, hw, T⟩ := b2_zero w4_
  rw [hw]
  clear hw
  have Sq := T.below
  replace pb := (Sq.cell (p := ⟨w.heap.size, 0, none⟩) zb).trans pb
  replace qb := (Sq.cell (p := ⟨w.heap.size, 1, none⟩) zb).trans qb
  replace zb : w.heap.size < w10.heap.size := Nat.lt_of_lt_of_le zb Sq.size
  replace px := (Sq.cell (p := ⟨w1_.heap.size, 0, none⟩) zx).trans px
  replace qx := (Sq.cell (p := ⟨w1_.heap.size, 1, none⟩) zx).trans qx
  replace zx : w1_.heap.size < w10.heap.size := Nat.lt_of_lt_of_le zx Sq.size
  replace py := (Sq.cell (p := ⟨w2_.heap.size, 0, none⟩) zy).trans py
  replace qy := (Sq.cell (p := ⟨w2_.heap.size, 1, none⟩) zy).trans qy
  replace zy : w2_.heap.size < w10.heap.size := Nat.lt_of_lt_of_le zy Sq.size
  replace HA : Hid (Rd w10 w10.heap.size A bs) := HA.out.on Sq
  replace RX : Hid (Rd w10 w10.heap.size A1 []) := RX.out.on Sq
  replace RY : Hid (Rd w10 w10.heap.size A2 []) := RY.out.on Sq
  replace HB : Hid (Below w.heap.size w w10) := HB.out.trans (Sq.mono HB.out.size)
  clear Sq
  obtain ⟨pg, qg, -, -⟩ := blk_cells T.x
  obtain ⟨ph, qh, -, -⟩ := blk_cells T.y
  have zh : w4_.heap.size + 1 < w10.heap.size := T.size
  have zg : w4_.heap.size < w10.heap.size := by omega
  have RG := Lib.hid T.rx
  have RH := Lib.hid T.ry
  clear T
  refine (HE.out _ HA.out).mono ?_
  rintro e w5_ ⟨rfl, Bq⟩
  have Sq : Below w10.heap.size w10 w5_ := Bq
  replace pb := (Sq.cell (p := ⟨w.heap.size, 0, none⟩) zb).trans pb
  replace qb := (Sq.cell (p := ⟨w.heap.size, 1, none⟩) zb).trans qb
  replace zb : w.heap.size < w5_.heap.size := Nat.lt_of_lt_of_le zb Sq.size
  replace px := (Sq.cell (p := ⟨w1_.heap.size, 0, none⟩) zx).trans px
  replace qx := (Sq.cell (p := ⟨w1_.heap.size, 1, none⟩) zx).trans qx
  replace zx : w1_.heap.size < w5_.heap.size := Nat.lt_of_lt_of_le zx Sq.size
  replace py := (Sq.cell (p := ⟨w2_.heap.size, 0, none⟩) zy).trans py
  replace qy := (Sq.cell (p := ⟨w2_.heap.size, 1, none⟩) zy).trans qy
  replace zy : w2_.heap.size < w5_.heap.size := Nat.lt_of_lt_of_le zy Sq.size
  replace pg := (Sq.cell (p := ⟨w4_.heap.size, 0, none⟩) zg).trans pg
  replace qg := (Sq.cell (p := ⟨w4_.heap.size, 1, none⟩) zg).trans qg
  replace zg : w4_.heap.size < w5_.heap.size := Nat.lt_of_lt_of_le zg Sq.size
  replace ph := (Sq.cell (p := ⟨(w4_.heap.size + 1), 0, none⟩) zh).trans ph
  replace qh := (Sq.cell (p := ⟨(w4_.heap.size + 1), 1, none⟩) zh).trans qh
  replace zh : (w4_.heap.size + 1) < w5_.heap.size := Nat.lt_of_lt_of_le zh Sq.size
  replace HA : Hid (Rd w5_ w5_.heap.size A bs) := HA.out.on Sq
  replace RX : Hid (Rd w5_ w5_.heap.size A1 []) := RX.out.on Sq
  replace RY : Hid (Rd w5_ w5_.heap.size A2 []) := RY.out.on Sq
  replace RG : Hid (Rd w5_ w5_.heap.size none []) := RG.out.on Sq
  replace RH : Hid (Rd w5_ w5_.heap.size none []) := RH.out.on Sq
  replace HB : Hid (Below w.heap.size w w5_) := HB.out.trans (Sq.mono HB.out.size)
  clear Bq Sq
  go_wp2_with fail
  refine (gbegun_true _).mono ?_
  rintro e w6_ ⟨rfl, Bq⟩
  have Sq : Below w5_.heap.size w5_ w6_ := Bq
  replace pb := (Sq.cell (p := ⟨w.heap.size, 0, none⟩) zb).trans pb
  replace qb := (Sq.cell (p := ⟨w.heap.size, 1, none⟩) zb).trans qb
  replace zb : w.heap.size < w6_.heap.size := Nat.lt_of_lt_of_le zb Sq.size
  replace px := (Sq.cell (p := ⟨w1_.heap.size, 0, none⟩) zx).trans px
  replace qx := (Sq.cell (p := ⟨w1_.heap.size, 1, none⟩) zx).trans qx
  replace zx : w1_.heap.size < w6_.heap.size := Nat.lt_of_lt_of_le zx Sq.size
  replace py := (Sq.cell (p := ⟨w2_.heap.size, 0, none⟩) zy).trans py
  replace qy := (Sq.cell (p := ⟨w2_.heap.size, 1, none⟩) zy).trans qy
  replace zy : w2_.heap.size < w6_.heap.size := Nat.lt_of_lt_of_le zy Sq.size
  replace pg := (Sq.cell (p := ⟨w4_.heap.size, 0, none⟩) zg).trans pg
  replace qg := (Sq.cell (p := ⟨w4_.heap.size, 1, none⟩) zg).trans qg
  replace zg : w4_.heap.size < w6_.heap.size := Nat.lt_of_lt_of_le zg Sq.size
  replace ph := (Sq.cell (p := ⟨(w4_.heap.size + 1), 0, none⟩) zh).trans ph
  replace qh := (Sq.cell (p := ⟨(w4_.heap.size + 1), 1, none⟩) zh).trans qh
  replace zh : (w4_.heap.size + 1) < w6_.heap.size := Nat.lt_of_lt_of_le zh Sq.size
  replace HA : Hid (Rd w6_ w6_.heap.size A bs) := HA.out.on Sq
  replace RX : Hid (Rd w6_ w6_.heap.size A1 []) := RX.out.on Sq
  replace RY : Hid (Rd w6_ w6_.heap.size A2 []) := RY.out.on Sq
  replace RG : Hid (Rd w6_ w6_.heap.size none []) := RG.out.on Sq
  replace RH : Hid (Rd w6_ w6_.heap.size none []) := RH.out.on Sq
  replace HB : Hid (Below w.heap.size w w6_) := HB.out.trans (Sq.mono HB.out.size)
  clear Bq Sq
  go_wp2_with fail
  refine (HS1.out A1 none c1 0 _ RX.out RG.out).mono ?_
  rintro e w7_ ⟨rfl, Bq⟩
  have Sq : Below w6_.heap.size w6_ w7_ := Bq
  replace pb := (Sq.cell (p := ⟨w.heap.size, 0, none⟩) zb).trans pb
  replace qb := (Sq.cell (p := ⟨w.heap.size, 1, none⟩) zb).trans qb
  replace zb : w.heap.size < w7_.heap.size := Nat.lt_of_lt_of_le zb Sq.size
  replace px := (Sq.cell (p := ⟨w1_.heap.size, 0, none⟩) zx).trans px
  replace qx := (Sq.cell (p := ⟨w1_.heap.size, 1, none⟩) zx).trans qx
  replace zx : w1_.heap.size < w7_.heap.size := Nat.lt_of_lt_of_le zx Sq.size
  replace py := (Sq.cell (p := ⟨w2_.heap.size, 0, none⟩) zy).trans py
  replace qy := (Sq.cell (p := ⟨w2_.heap.size, 1, none⟩) zy).trans qy
  replace zy : w2_.heap.size < w7_.heap.size := Nat.lt_of_lt_of_le zy Sq.size
  replace pg := (Sq.cell (p := ⟨w4_.heap.size, 0, none⟩) zg).trans pg
  replace qg := (Sq.cell (p := ⟨w4_.heap.size, 1, none⟩) zg).trans qg
  replace zg : w4_.heap.size < w7_.heap.size := Nat.lt_of_lt_of_le zg Sq.size
  replace ph := (Sq.cell (p := ⟨(w4_.heap.size + 1), 0, none⟩) zh).trans ph
  replace qh := (Sq.cell (p := ⟨(w4_.heap.size + 1), 1, none⟩) zh).trans qh
  replace zh : (w4_.heap.size + 1) < w7_.heap.size := Nat.lt_of_lt_of_le zh Sq.size
  replace HA : Hid (Rd w7_ w7_.heap.size A bs) := HA.out.on Sq
  replace RX : Hid (Rd w7_ w7_.heap.size A1 []) := RX.out.on Sq
  replace RY : Hid (Rd w7_ w7_.heap.size A2 []) := RY.out.on Sq
  replace RG : Hid (Rd w7_ w7_.heap.size none []) := RG.out.on Sq
  replace RH : Hid (Rd w7_ w7_.heap.size none []) := RH.out.on Sq
  replace HB : Hid (Below w.heap.size w w7_) := HB.out.trans (Sq.mono HB.out.size)
  clear Bq Sq
  go_wp2_with fail
  refine (HS2.out A2 none c2 0 _ RY.out RH.out).mono ?_
  rintro e w8_ ⟨rfl, Bq⟩
  have Sq : Below w7_.heap.size w7_ w8_ := Bq
  replace pb := (Sq.cell (p := ⟨w.heap.size, 0, none⟩) zb).trans pb
  replace qb := (Sq.cell (p := ⟨w.heap.size, 1, none⟩) zb).trans qb
  replace zb : w.heap.size < w8_.heap.size := Nat.lt_of_lt_of_le zb Sq.size
  replace px := (Sq.cell (p := ⟨w1_.heap.size, 0, none⟩) zx).trans px
  replace qx := (Sq.cell (p := ⟨w1_.heap.size, 1, none⟩) zx).trans qx
  replace zx : w1_.heap.size < w8_.heap.size := Nat.lt_of_lt_of_le zx Sq.size
  replace py := (Sq.cell (p := ⟨w2_.heap.size, 0, none⟩) zy).trans py
  replace qy := (Sq.cell (p := ⟨w2_.heap.size, 1, none⟩) zy).trans qy
  replace zy : w2_.heap.size < w8_.heap.size := Nat.lt_of_lt_of_le zy Sq.size
  replace pg := (Sq.cell (p := ⟨w4_.heap.size, 0, none⟩) zg).trans pg
  replace qg := (Sq.cell (p := ⟨w4_.heap.size, 1, none⟩) zg).trans qg
  replace zg : w4_.heap.size < w8_.heap.size := Nat.lt_of_lt_of_le zg Sq.size
  replace ph := (Sq.cell (p := ⟨(w4_.heap.size + 1), 0, none⟩) zh).trans ph
  replace qh := (Sq.cell (p := ⟨(w4_.heap.size + 1), 1, none⟩) zh).trans qh
  replace zh : (w4_.heap.size + 1) < w8_.heap.size := Nat.lt_of_lt_of_le zh Sq.size
  replace HA : Hid (Rd w8_ w8_.heap.size A bs) := HA.out.on Sq
  replace RX : Hid (Rd w8_ w8_.heap.size A1 []) := RX.out.on Sq
  replace RY : Hid (Rd w8_ w8_.heap.size A2 []) := RY.out.on Sq
  replace RG : Hid (Rd w8_ w8_.heap.size none []) := RG.out.on Sq
  replace RH : Hid (Rd w8_ w8_.heap.size none []) := RH.out.on Sq
  replace HB : Hid (Below w.heap.size w w8_) := HB.out.trans (Sq.mono HB.out.size)
  clear Bq Sq
  go_wp2
  go_ret
  exact ⟨rfl, HB.out⟩
set_option maxHeartbeats 4000000 in
theorem gtells_no_n1_bad (w : World) (n m q r len : Int) (A : Option Addr) (c N : Nat) (bs : List Nat) (p0 : Int) (lX lY : Int) (nX nY nG nU nL nB : Nat) (bX bY : List Nat) (lG lU lL lB : List Bool) (e0 : Int) (r1 r2 s1 s2 x0 : Nat) (g : Int) (hA : Rd w w.heap.size A bs)
    (HX : Hid (∀ V, Calls Try.prog 35 #[.int .u64 n, .int .u64 m] V (Gv V 0 0 [] 3)))
    (HY : Hid (∀ V, Calls Try.prog 36 #[.int .u64 n, .int .u64 m] V (Gv V 0 0 [] 3)))
    (HP : Hid (∀ V, Rd V V.heap.size A bs → Calls Try.prog 37 #[.agg #[.int .i64 len, .slice A N c], .int .i64 p0, .int .u64 m] V (ReadP V 0 0 e0)))
    (HQ : Hid (∀ V, Rd V V.heap.size A bs → Calls Try.prog 38 #[.agg #[.int .i64 len, .slice A N c], .int .i64 p0, .int .u64 m] V (ReadP V 0 0 e0)))
    (HE : Hid (∀ V, Rd V V.heap.size A bs → Calls Try.prog 23 #[.agg #[.int .i64 len, .slice A N c], .int .i64 p0] V fun e w' => e = .returned (.int .i64 e0) ∧ Below V.heap.size V w'))
    (HS1 : Hid (∀ A B c d V, Rd V V.heap.size A [] → Rd V V.heap.size B [] → Calls Try.prog 28 #[.agg #[.int .i64 0, .slice A 0 c], .agg #[.int .i64 0, .slice B 0 d]] V fun e w' => e = .returned (.bool true) ∧ Below V.heap.size V w'))
    (HS2 : Hid (∀ A B c d V, Rd V V.heap.size A [] → Rd V V.heap.size B [] → Calls Try.prog 28 #[.agg #[.int .i64 0, .slice A 0 c], .agg #[.int .i64 0, .slice B 0 d]] V fun e w' => e = .returned (.bool true) ∧ Below V.heap.size V w'))
     (hm : 1 ≤ m) (hm2 : m ≤ 1099511627776) (hl : m ≤ n) (hn : 1099511627776 < n) (h0 : e0 ≠ 0) :
    Calls Try.prog 8 #[.int .u64 n, .int .u64 m, .agg #[.int .i64 len, .slice A N c], .int .i64 p0] w fun e w' => e = .returned (.bool true) ∧ Below w.heap.size w w' := by
  have HA := Lib.hid hA; clear hA
  have a1 : decide ((1 : Int) ≤ m) = true := by simp; omega
  have a2 : decide (m ≤ 1099511627776) = true := by simp; omega
  have hm0 : ¬ m = 0 := by omega
  have a3 : decide (n < m) = false := by simp; omega
  have a4 : decide (n ≤ 1099511627776) = false := by simp; omega
  have t2 : (e0 == 0) = false := by simpa using h0
  clear h0
  go_enter Try.func8, Try.ntmps8
  go_wp2_with fail
  refine (HX.out _).mono ?_
  rintro e w1_ ⟨A1, c1, rfl, Rq, Bq⟩
  rw [World.size_alloc] at Bq
  have Sq : Below w.heap.size w w1_ := (one_below w _).trans (Bq.mono (by omega))
  have zb : w.heap.size < w1_.heap.size := by have := Bq.size; rw [World.size_alloc] at this; omega
  obtain ⟨pb, qb⟩ := box_at Bq
  replace HA : Hid (Rd w1_ w1_.heap.size A bs) := HA.out.on Sq
  have HB : Hid (Below w.heap.size w w1_) := Sq
  clear Bq Sq
  have RX := Lib.hid Rq; clear Rq
  go_wp2_with fail
  refine (HY.out _).mono ?_
  rintro e w2_ ⟨A2, c2, rfl, Rq, Bq⟩
  rw [World.size_alloc] at Bq
  have Sq : Below w1_.heap.size w1_ w2_ := (one_below w1_ _).trans (Bq.mono (by omega))
  have zx : w1_.heap.size < w2_.heap.size := by have := Bq.size; rw [World.size_alloc] at this; omega
  obtain ⟨px, qx⟩ := box_at Bq
  replace pb := (Sq.cell (p := ⟨w.heap.size, 0, none⟩) zb).trans pb
  replace qb := (Sq.cell (p := ⟨w.heap.size, 1, none⟩) zb).trans qb
  replace zb : w.heap.size < w2_.heap.size := Nat.lt_of_lt_of_le zb Sq.size
  replace HA : Hid (Rd w2_ w2_.heap.size A bs) := HA.out.on Sq
  replace RX : Hid (Rd w2_ w2_.heap.size A1 []) := RX.out.on Sq
  replace HB : Hid (Below w.heap.size w w2_) := HB.out.trans (Sq.mono HB.out.size)
  clear Bq Sq
  have RY := Lib.hid Rq; clear Rq
  go_wp2_with fail
  refine (HP.out _ (HA.out.on (one_below w2_ _))).mono ?_
  rintro e w3_ ⟨rfl, Bq⟩
  rw [World.size_alloc] at Bq
  have Sq : Below w2_.heap.size w2_ w3_ := (one_below w2_ _).trans (Bq.mono (by omega))
  have zy : w2_.heap.size < w3_.heap.size := by have := Bq.size; rw [World.size_alloc] at this; omega
  obtain ⟨py, qy⟩ := box_at Bq
  replace pb := (Sq.cell (p := ⟨w.heap.size, 0, none⟩) zb).trans pb
  replace qb := (Sq.cell (p := ⟨w.heap.size, 1, none⟩) zb).trans qb
  replace zb : w.heap.size < w3_.heap.size := Nat.lt_of_lt_of_le zb Sq.size
  replace px := (Sq.cell (p := ⟨w1_.heap.size, 0, none⟩) zx).trans px
  replace qx := (Sq.cell (p := ⟨w1_.heap.size, 1, none⟩) zx).trans qx
  replace zx : w1_.heap.size < w3_.heap.size := Nat.lt_of_lt_of_le zx Sq.size
  replace HA : Hid (Rd w3_ w3_.heap.size A bs) := HA.out.on Sq
  replace RX : Hid (Rd w3_ w3_.heap.size A1 []) := RX.out.on Sq
  replace RY : Hid (Rd w3_ w3_.heap.size A2 []) := RY.out.on Sq
  replace HB : Hid (Below w.heap.size w w3_) := HB.out.trans (Sq.mono HB.out.size)
  clear Bq Sq
  go_wp2_with fail
  refine (HQ.out _ HA.out).mono ?_
  rintro e w4_ ⟨rfl, Bq⟩
  have Sq : Below w3_.heap.size w3_ w4_ := Bq
  replace pb := (Sq.cell (p := ⟨w.heap.size, 0, none⟩) zb).trans pb
  replace qb := (Sq.cell (p := ⟨w.heap.size, 1, none⟩) zb).trans qb
  replace zb : w.heap.size < w4_.heap.size := Nat.lt_of_lt_of_le zb Sq.size
  replace px := (Sq.cell (p := ⟨w1_.heap.size, 0, none⟩) zx).trans px
  replace qx := (Sq.cell (p := ⟨w1_.heap.size, 1, none⟩) zx).trans qx
  replace zx : w1_.heap.size < w4_.heap.size := Nat.lt_of_lt_of_le zx Sq.size
  replace py := (Sq.cell (p := ⟨w2_.heap.size, 0, none⟩) zy).trans py
  replace qy := (Sq.cell (p := ⟨w2_.heap.size, 1, none⟩) zy).trans qy
  replace zy : w2_.heap.size < w4_.heap.size := Nat.lt_of_lt_of_le zy Sq.size
  replace HA : Hid (Rd w4_ w4_.heap.size A bs) := HA.out.on Sq
  replace RX : Hid (Rd w4_ w4_.heap.size A1 []) := RX.out.on Sq
  replace RY : Hid (Rd w4_ w4_.heap.size A2 []) := RY.out.on Sq
  replace HB : Hid (Below w.heap.size w w4_) := HB.out.trans (Sq.mono HB.out.size)
  clear Bq Sq
  go_wp2_with fail
  obtain ⟨w10, hw, T⟩ := b2_zero w4_
  rw [hw]
  clear hw
  have Sq := T.below
  replace pb := (Sq.cell (p := ⟨w.heap.size, 0, none⟩) zb).trans pb
  replace qb := (Sq.cell (p := ⟨w.heap.size, 1, none⟩) zb).trans qb
  replace zb : w.heap.size < w10.heap.size := Nat.lt_of_lt_of_le zb Sq.size
  replace px := (Sq.cell (p := ⟨w1_.heap.size, 0, none⟩) zx).trans px
  replace qx := (Sq.cell (p := ⟨w1_.heap.size, 1, none⟩) zx).trans qx
  replace zx : w1_.heap.size < w10.heap.size := Nat.lt_of_lt_of_le zx Sq.size
  replace py := (Sq.cell (p := ⟨w2_.heap.size, 0, none⟩) zy).trans py
  replace qy := (Sq.cell (p := ⟨w2_.heap.size, 1, none⟩) zy).trans qy
  replace zy : w2_.heap.size < w10.heap.size := Nat.lt_of_lt_of_le zy Sq.size
  replace HA : Hid (Rd w10 w10.heap.size A bs) := HA.out.on Sq
  replace RX : Hid (Rd w10 w10.heap.size A1 []) := RX.out.on Sq
  replace RY : Hid (Rd w10 w10.heap.size A2 []) := RY.out.on Sq
  replace HB : Hid (Below w.heap.size w w10) := HB.out.trans (Sq.mono HB.out.size)
  clear Sq
  obtain ⟨pg, qg, -, -⟩ := blk_cells T.x
  obtain ⟨ph, qh, -, -⟩ := blk_cells T.y
  have zh : w4_.heap.size + 1 < w10.heap.size := T.size
  have zg : w4_.heap.size < w10.heap.size := by omega
  have RG := Lib.hid T.rx
  have RH := Lib.hid T.ry
  clear T
  refine (HE.out _ HA.out).mono ?_
  rintro e w5_ ⟨rfl, Bq⟩
  have Sq : Below w10.heap.size w10 w5_ := Bq
  replace pb := (Sq.cell (p := ⟨w.heap.size, 0, none⟩) zb).trans pb
  replace qb := (Sq.cell (p := ⟨w.heap.size, 1, none⟩) zb).trans qb
  replace zb : w.heap.size < w5_.heap.size := Nat.lt_of_lt_of_le zb Sq.size
  replace px := (Sq.cell (p := ⟨w1_.heap.size, 0, none⟩) zx).trans px
  replace qx := (Sq.cell (p := ⟨w1_.heap.size, 1, none⟩) zx).trans qx
  replace zx : w1_.heap.size < w5_.heap.size := Nat.lt_of_lt_of_le zx Sq.size
  replace py := (Sq.cell (p := ⟨w2_.heap.size, 0, none⟩) zy).trans py
  replace qy := (Sq.cell (p := ⟨w2_.heap.size, 1, none⟩) zy).trans qy
  replace zy : w2_.heap.size < w5_.heap.size := Nat.lt_of_lt_of_le zy Sq.size
  replace pg := (Sq.cell (p := ⟨w4_.heap.size, 0, none⟩) zg).trans pg
  replace qg := (Sq.cell (p := ⟨w4_.heap.size, 1, none⟩) zg).trans qg
  replace zg : w4_.heap.size < w5_.heap.size := Nat.lt_of_lt_of_le zg Sq.size
  replace ph := (Sq.cell (p := ⟨(w4_.heap.size + 1), 0, none⟩) zh).trans ph
  replace qh := (Sq.cell (p := ⟨(w4_.heap.size + 1), 1, none⟩) zh).trans qh
  replace zh : (w4_.heap.size + 1) < w5_.heap.size := Nat.lt_of_lt_of_le zh Sq.size
  replace HA : Hid (Rd w5_ w5_.heap.size A bs) := HA.out.on Sq
  replace RX : Hid (Rd w5_ w5_.heap.size A1 []) := RX.out.on Sq
  replace RY : Hid (Rd w5_ w5_.heap.size A2 []) := RY.out.on Sq
  replace RG : Hid (Rd w5_ w5_.heap.size none []) := RG.out.on Sq
  replace RH : Hid (Rd w5_ w5_.heap.size none []) := RH.out.on Sq
  replace HB : Hid (Below w.heap.size w w5_) := HB.out.trans (Sq.mono HB.out.size)
  clear Bq Sq
  go_wp2_with fail
  refine (gbegun_true _).mono ?_
  rintro e w6_ ⟨rfl, Bq⟩
  have Sq : Below w5_.heap.size w5_ w6_ := Bq
  replace pb := (Sq.cell (p := ⟨w.heap.size, 0, none⟩) zb).trans pb
  replace qb := (Sq.cell (p := ⟨w.heap.size, 1, none⟩) zb).trans qb
  replace zb : w.heap.size < w6_.heap.size := Nat.lt_of_lt_of_le zb Sq.size
  replace px := (Sq.cell (p := ⟨w1_.heap.size, 0, none⟩) zx).trans px
  replace qx := (Sq.cell (p := ⟨w1_.heap.size, 1, none⟩) zx).trans qx
  replace zx : w1_.heap.size < w6_.heap.size := Nat.lt_of_lt_of_le zx Sq.size
  replace py := (Sq.cell (p := ⟨w2_.heap.size, 0, none⟩) zy).trans py
  replace qy := (Sq.cell (p := ⟨w2_.heap.size, 1, none⟩) zy).trans qy
  replace zy : w2_.heap.size < w6_.heap.size := Nat.lt_of_lt_of_le zy Sq.size
  replace pg := (Sq.cell (p := ⟨w4_.heap.size, 0, none⟩) zg).trans pg
  replace qg := (Sq.cell (p := ⟨w4_.heap.size, 1, none⟩) zg).trans qg
  replace zg : w4_.heap.size < w6_.heap.size := Nat.lt_of_lt_of_le zg Sq.size
  replace ph := (Sq.cell (p := ⟨(w4_.heap.size + 1), 0, none⟩) zh).trans ph
  replace qh := (Sq.cell (p := ⟨(w4_.heap.size + 1), 1, none⟩) zh).trans qh
  replace zh : (w4_.heap.size + 1) < w6_.heap.size := Nat.lt_of_lt_of_le zh Sq.size
  replace HA : Hid (Rd w6_ w6_.heap.size A bs) := HA.out.on Sq
  replace RX : Hid (Rd w6_ w6_.heap.size A1 []) := RX.out.on Sq
  replace RY : Hid (Rd w6_ w6_.heap.size A2 []) := RY.out.on Sq
  replace RG : Hid (Rd w6_ w6_.heap.size none []) := RG.out.on Sq
  replace RH : Hid (Rd w6_ w6_.heap.size none []) := RH.out.on Sq
  replace HB : Hid (Below w.heap.size w w6_) := HB.out.trans (Sq.mono HB.out.size)
  clear Bq Sq
  go_wp2_with fail
  refine (HS1.out A1 none c1 0 _ RX.out RG.out).mono ?_
  rintro e w7_ ⟨rfl, Bq⟩
  have Sq : Below w6_.heap.size w6_ w7_ := Bq
  replace pb := (Sq.cell (p := ⟨w.heap.size, 0, none⟩) zb).trans pb
  replace qb := (Sq.cell (p := ⟨w.heap.size, 1, none⟩) zb).trans qb
  replace zb : w.heap.size < w7_.heap.size := Nat.lt_of_lt_of_le zb Sq.size
  replace px := (Sq.cell (p := ⟨w1_.heap.size, 0, none⟩) zx).trans px
  replace qx := (Sq.cell (p := ⟨w1_.heap.size, 1, none⟩) zx).trans qx
  replace zx : w1_.heap.size < w7_.heap.size := Nat.lt_of_lt_of_le zx Sq.size
  replace py := (Sq.cell (p := ⟨w2_.heap.size, 0, none⟩) zy).trans py
  replace qy := (Sq.cell (p := ⟨w2_.heap.size, 1, none⟩) zy).trans qy
  replace zy : w2_.heap.size < w7_.heap.size := Nat.lt_of_lt_of_le zy Sq.size
  replace pg := (Sq.cell (p := ⟨w4_.heap.size, 0, none⟩) zg).trans pg
  replace qg := (Sq.cell (p := ⟨w4_.heap.size, 1, none⟩) zg).trans qg
  replace zg : w4_.heap.size < w7_.heap.size := Nat.lt_of_lt_of_le zg Sq.size
  replace ph := (Sq.cell (p := ⟨(w4_.heap.size + 1), 0, none⟩) zh).trans ph
  replace qh := (Sq.cell (p := ⟨(w4_.heap.size + 1), 1, none⟩) zh).trans qh
  replace zh : (w4_.heap.size + 1) < w7_.heap.size := Nat.lt_of_lt_of_le zh Sq.size
  replace HA : Hid (Rd w7_ w7_.heap.size A bs) := HA.out.on Sq
  replace RX : Hid (Rd w7_ w7_.heap.size A1 []) := RX.out.on Sq
  replace RY : Hid (Rd w7_ w7_.heap.size A2 []) := RY.out.on Sq
  replace RG : Hid (Rd w7_ w7_.heap.size none []) := RG.out.on Sq
  replace RH : Hid (Rd w7_ w7_.heap.size none []) := RH.out.on Sq
  replace HB : Hid (Below w.heap.size w w7_) := HB.out.trans (Sq.mono HB.out.size)
  clear Bq Sq
  go_wp2_with fail
  refine (HS2.out A2 none c2 0 _ RY.out RH.out).mono ?_
  rintro e w8_ ⟨rfl, Bq⟩
  have Sq : Below w7_.heap.size w7_ w8_ := Bq
  replace pb := (Sq.cell (p := ⟨w.heap.size, 0, none⟩) zb).trans pb
  replace qb := (Sq.cell (p := ⟨w.heap.size, 1, none⟩) zb).trans qb
  replace zb : w.heap.size < w8_.heap.size := Nat.lt_of_lt_of_le zb Sq.size
  replace px := (Sq.cell (p := ⟨w1_.heap.size, 0, none⟩) zx).trans px
  replace qx := (Sq.cell (p := ⟨w1_.heap.size, 1, none⟩) zx).trans qx
  replace zx : w1_.heap.size < w8_.heap.size := Nat.lt_of_lt_of_le zx Sq.size
  replace py := (Sq.cell (p := ⟨w2_.heap.size, 0, none⟩) zy).trans py
  replace qy := (Sq.cell (p := ⟨w2_.heap.size, 1, none⟩) zy).trans qy
  replace zy : w2_.heap.size < w8_.heap.size := Nat.lt_of_lt_of_le zy Sq.size
  replace pg := (Sq.cell (p := ⟨w4_.heap.size, 0, none⟩) zg).trans pg
  replace qg := (Sq.cell (p := ⟨w4_.heap.size, 1, none⟩) zg).trans qg
  replace zg : w4_.heap.size < w8_.heap.size := Nat.lt_of_lt_of_le zg Sq.size
  replace ph := (Sq.cell (p := ⟨(w4_.heap.size + 1), 0, none⟩) zh).trans ph
  replace qh := (Sq.cell (p := ⟨(w4_.heap.size + 1), 1, none⟩) zh).trans qh
  replace zh : (w4_.heap.size + 1) < w8_.heap.size := Nat.lt_of_lt_of_le zh Sq.size
  replace HA : Hid (Rd w8_ w8_.heap.size A bs) := HA.out.on Sq
  replace RX : Hid (Rd w8_ w8_.heap.size A1 []) := RX.out.on Sq
  replace RY : Hid (Rd w8_ w8_.heap.size A2 []) := RY.out.on Sq
  replace RG : Hid (Rd w8_ w8_.heap.size none []) := RG.out.on Sq
  replace RH : Hid (Rd w8_ w8_.heap.size none []) := RH.out.on Sq
  replace HB : Hid (Below w.heap.size w w8_) := HB.out.trans (Sq.mono HB.out.size)
  clear Bq Sq
  go_wp2
  go_ret
  exact ⟨rfl, HB.out⟩
set_option maxHeartbeats 4000000 in
theorem gtells_no_n1_hit (w : World) (n m q r len : Int) (A : Option Addr) (c N : Nat) (bs : List Nat) (p0 : Int) (lX lY : Int) (nX nY nG nU nL nB : Nat) (bX bY : List Nat) (lG lU lL lB : List Bool) (e0 : Int) (r1 r2 s1 s2 x0 : Nat) (g : Int) (hA : Rd w w.heap.size A bs)
    (HX : Hid (∀ V, Calls Try.prog 35 #[.int .u64 n, .int .u64 m] V (Gv V 0 0 [] 3)))
    (HY : Hid (∀ V, Calls Try.prog 36 #[.int .u64 n, .int .u64 m] V (Gv V 0 0 [] 3)))
    (HP : Hid (∀ V, Rd V V.heap.size A bs → Calls Try.prog 37 #[.agg #[.int .i64 len, .slice A N c], .int .i64 p0, .int .u64 m] V (ReadP V r1 r2 0)))
    (HQ : Hid (∀ V, Rd V V.heap.size A bs → Calls Try.prog 38 #[.agg #[.int .i64 len, .slice A N c], .int .i64 p0, .int .u64 m] V (ReadP V s1 s2 g)))
    (HE : Hid (∀ V, Rd V V.heap.size A bs → Calls Try.prog 23 #[.agg #[.int .i64 len, .slice A N c], .int .i64 p0] V fun e w' => e = .returned (.int .i64 0) ∧ Below V.heap.size V w'))
    (HS1 : Hid (∀ A B c d V, Rd V V.heap.size A [] → Rd V V.heap.size B [] → Calls Try.prog 28 #[.agg #[.int .i64 0, .slice A 0 c], .agg #[.int .i64 0, .slice B 0 d]] V fun e w' => e = .returned (.bool true) ∧ Below V.heap.size V w'))
    (HS2 : Hid (∀ A B c d V, Rd V V.heap.size A [] → Rd V V.heap.size B [] → Calls Try.prog 28 #[.agg #[.int .i64 0, .slice A 0 c], .agg #[.int .i64 0, .slice B 0 d]] V fun e w' => e = .returned (.bool true) ∧ Below V.heap.size V w'))
    (HBL : Hid (∀ V, Rd V V.heap.size A bs → Calls Try.prog 24 #[.agg #[.int .i64 len, .slice A N c]] V fun e w' => ∃ A c, e = .returned (.slice A nB c) ∧ RdV w' w'.heap.size A (ic lB) ∧ Below V.heap.size V w'))
    (HLR : Hid (∀ A c V, RdV V V.heap.size A (ic lB) → Calls Try.prog 41 #[.slice A nB c, .int .i64 p0, .int .u64 m] V fun e w' => e = .returned (.tuple #[.int .u64 (r1 : Int), .int .i64 (r2 : Int)]) ∧ Below V.heap.size V w'))
    (HGR : Hid (∀ A c V, RdV V V.heap.size A (ic lB) → Calls Try.prog 42 #[.slice A nB c, .int .i64 p0, .int .u64 m] V (ReadP V s1 s2 g)))
     (hm : 1 ≤ m) (hm2 : m ≤ 1099511627776) (hl : m ≤ n) (hn : 1099511627776 < n) :
    Calls Try.prog 8 #[.int .u64 n, .int .u64 m, .agg #[.int .i64 len, .slice A N c], .int .i64 p0] w fun e w' => e = .returned (.bool true) ∧ Below w.heap.size w w' := by
  have HA := Lib.hid hA; clear hA
  have a1 : decide ((1 : Int) ≤ m) = true := by simp; omega
  have a2 : decide (m ≤ 1099511627776) = true := by simp; omega
  have hm0 : ¬ m = 0 := by omega
  have a3 : decide (n < m) = false := by simp; omega
  have a4 : decide (n ≤ 1099511627776) = false := by simp; omega
  have t5 : decide ((r2 : Int) < 0) = false := by simp
  go_enter Try.func8, Try.ntmps8
  go_wp2_with fail
  refine (HX.out _).mono ?_
  rintro e w1_ ⟨A1, c1, rfl, Rq, Bq⟩
  rw [World.size_alloc] at Bq
  have Sq : Below w.heap.size w w1_ := (one_below w _).trans (Bq.mono (by omega))
  have zb : w.heap.size < w1_.heap.size := by have := Bq.size; rw [World.size_alloc] at this; omega
  obtain ⟨pb, qb⟩ := box_at Bq
  replace HA : Hid (Rd w1_ w1_.heap.size A bs) := HA.out.on Sq
  have HB : Hid (Below w.heap.size w w1_) := Sq
  clear Bq Sq
  have RX := Lib.hid Rq; clear Rq
  go_wp2_with fail
  refine (HY.out _).mono ?_
  rintro e w2_ ⟨A2, c2, rfl, Rq, Bq⟩
  rw [World.size_alloc] at Bq
  have Sq : Below w1_.heap.size w1_ w2_ := (one_below w1_ _).trans (Bq.mono (by omega))
  have zx : w1_.heap.size < w2_.heap.size := by have := Bq.size; rw [World.size_alloc] at this; omega
  obtain ⟨px, qx⟩ := box_at Bq
  replace pb := (Sq.cell (p := ⟨w.heap.size, 0, none⟩) zb).trans pb
  replace qb := (Sq.cell (p := ⟨w.heap.size, 1, none⟩) zb).trans qb
  replace zb : w.heap.size < w2_.heap.size := Nat.lt_of_lt_of_le zb Sq.size
  replace HA : Hid (Rd w2_ w2_.heap.size A bs) := HA.out.on Sq
  replace RX : Hid (Rd w2_ w2_.heap.size A1 []) := RX.out.on Sq
  replace HB : Hid (Below w.heap.size w w2_) := HB.out.trans (Sq.mono HB.out.size)
  clear Bq Sq
  have RY := Lib.hid Rq; clear Rq
  go_wp2_with fail
  refine (HP.out _ (HA.out.on (one_below w2_ _))).mono ?_
  rintro e w3_ ⟨rfl, Bq⟩
  rw [World.size_alloc] at Bq
  have Sq : Below w2_.heap.size w2_ w3_ := (one_below w2_ _).trans (Bq.mono (by omega))
  have zy : w2_.heap.size < w3_.heap.size := by have := Bq.size; rw [World.size_alloc] at this; omega
  obtain ⟨py, qy⟩ := box_at Bq
  replace pb := (Sq.cell (p := ⟨w.heap.size, 0, none⟩) zb).trans pb
  replace qb := (Sq.cell (p := ⟨w.heap.size, 1, none⟩) zb).trans qb
  replace zb : w.heap.size < w3_.heap.size := Nat.lt_of_lt_of_le zb Sq.size
  replace px := (Sq.cell (p := ⟨w1_.heap.size, 0, none⟩) zx).trans px
  replace qx := (Sq.cell (p := ⟨w1_.heap.size, 1, none⟩) zx).trans qx
  replace zx : w1_.heap.size < w3_.heap.size := Nat.lt_of_lt_of_le zx Sq.size
  replace HA : Hid (Rd w3_ w3_.heap.size A bs) := HA.out.on Sq
  replace RX : Hid (Rd w3_ w3_.heap.size A1 []) := RX.out.on Sq
  replace RY : Hid (Rd w3_ w3_.heap.size A2 []) := RY.out.on Sq
  replace HB : Hid (Below w.heap.size w w3_) := HB.out.trans (Sq.mono HB.out.size)
  clear Bq Sq
  go_wp2_with fail
  refine (HQ.out _ HA.out).mono ?_
  rintro e w4_ ⟨rfl, Bq⟩
  have Sq : Below w3_.heap.size w3_ w4_ := Bq
  replace pb := (Sq.cell (p := ⟨w.heap.size, 0, none⟩) zb).trans pb
  replace qb := (Sq.cell (p := ⟨w.heap.size, 1, none⟩) zb).trans qb
  replace zb : w.heap.size < w4_.heap.size := Nat.lt_of_lt_of_le zb Sq.size
  replace px := (Sq.cell (p := ⟨w1_.heap.size, 0, none⟩) zx).trans px
  replace qx := (Sq.cell (p := ⟨w1_.heap.size, 1, none⟩) zx).trans qx
  replace zx : w1_.heap.size < w4_.heap.size := Nat.lt_of_lt_of_le zx Sq.size
  replace py := (Sq.cell (p := ⟨w2_.heap.size, 0, none⟩) zy).trans py
  replace qy := (Sq.cell (p := ⟨w2_.heap.size, 1, none⟩) zy).trans qy
  replace zy : w2_.heap.size < w4_.heap.size := Nat.lt_of_lt_of_le zy Sq.size
  replace HA : Hid (Rd w4_ w4_.heap.size A bs) := HA.out.on Sq
  replace RX : Hid (Rd w4_ w4_.heap.size A1 []) := RX.out.on Sq
  replace RY : Hid (Rd w4_ w4_.heap.size A2 []) := RY.out.on Sq
  replace HB : Hid (Below w.heap.size w w4_) := HB.out.trans (Sq.mono HB.out.size)
  clear Bq Sq
  go_wp2_with fail
  obtain ⟨w10, hw, T⟩ := b2_zero w4_
  rw [hw]
  clear hw
  have Sq := T.below
  replace pb := (Sq.cell (p := ⟨w.heap.size, 0, none⟩) zb).trans pb
  replace qb := (Sq.cell (p := ⟨w.heap.size, 1, none⟩) zb).trans qb
  replace zb : w.heap.size < w10.heap.size := Nat.lt_of_lt_of_le zb Sq.size
  replace px := (Sq.cell (p := ⟨w1_.heap.size, 0, none⟩) zx).trans px
  replace qx := (Sq.cell (p := ⟨w1_.heap.size, 1, none⟩) zx).trans qx
  replace zx : w1_.heap.size < w10.heap.size := Nat.lt_of_lt_of_le zx Sq.size
  replace py := (Sq.cell (p := ⟨w2_.heap.size, 0, none⟩) zy).trans py
  replace qy := (Sq.cell (p := ⟨w2_.heap.size, 1, none⟩) zy).trans qy
  replace zy : w2_.heap.size < w10.heap.size := Nat.lt_of_lt_of_le zy Sq.size
  replace HA : Hid (Rd w10 w10.heap.size A bs) := HA.out.on Sq
  replace RX : Hid (Rd w10 w10.heap.size A1 []) := RX.out.on Sq
  replace RY : Hid (Rd w10 w10.heap.size A2 []) := RY.out.on Sq
  replace HB : Hid (Below w.heap.size w w10) := HB.out.trans (Sq.mono HB.out.size)
  clear Sq
  obtain ⟨pg, qg, -, -⟩ := blk_cells T.x
  obtain ⟨ph, qh, -, -⟩ := blk_cells T.y
  have zh : w4_.heap.size + 1 < w10.heap.size := T.size
  have zg : w4_.heap.size < w10.heap.size := by omega
  have RG := Lib.hid T.rx
  have RH := Lib.hid T.ry
  clear T
  refine (HE.out _ HA.out).mono ?_
  rintro e w5_ ⟨rfl, Bq⟩
  have Sq : Below w10.heap.size w10 w5_ := Bq
  replace pb := (Sq.cell (p := ⟨w.heap.size, 0, none⟩) zb).trans pb
  replace qb := (Sq.cell (p := ⟨w.heap.size, 1, none⟩) zb).trans qb
  replace zb : w.heap.size < w5_.heap.size := Nat.lt_of_lt_of_le zb Sq.size
  replace px := (Sq.cell (p := ⟨w1_.heap.size, 0, none⟩) zx).trans px
  replace qx := (Sq.cell (p := ⟨w1_.heap.size, 1, none⟩) zx).trans qx
  replace zx : w1_.heap.size < w5_.heap.size := Nat.lt_of_lt_of_le zx Sq.size
  replace py := (Sq.cell (p := ⟨w2_.heap.size, 0, none⟩) zy).trans py
  replace qy := (Sq.cell (p := ⟨w2_.heap.size, 1, none⟩) zy).trans qy
  replace zy : w2_.heap.size < w5_.heap.size := Nat.lt_of_lt_of_le zy Sq.size
  replace pg := (Sq.cell (p := ⟨w4_.heap.size, 0, none⟩) zg).trans pg
  replace qg := (Sq.cell (p := ⟨w4_.heap.size, 1, none⟩) zg).trans qg
  replace zg : w4_.heap.size < w5_.heap.size := Nat.lt_of_lt_of_le zg Sq.size
  replace ph := (Sq.cell (p := ⟨(w4_.heap.size + 1), 0, none⟩) zh).trans ph
  replace qh := (Sq.cell (p := ⟨(w4_.heap.size + 1), 1, none⟩) zh).trans qh
  replace zh : (w4_.heap.size + 1) < w5_.heap.size := Nat.lt_of_lt_of_le zh Sq.size
  replace HA : Hid (Rd w5_ w5_.heap.size A bs) := HA.out.on Sq
  replace RX : Hid (Rd w5_ w5_.heap.size A1 []) := RX.out.on Sq
  replace RY : Hid (Rd w5_ w5_.heap.size A2 []) := RY.out.on Sq
  replace RG : Hid (Rd w5_ w5_.heap.size none []) := RG.out.on Sq
  replace RH : Hid (Rd w5_ w5_.heap.size none []) := RH.out.on Sq
  replace HB : Hid (Below w.heap.size w w5_) := HB.out.trans (Sq.mono HB.out.size)
  clear Bq Sq
  go_wp2_with fail
  refine (HBL.out _ HA.out).mono ?_
  rintro e w6_ ⟨A9, c9, rfl, Rq, Bq⟩
  have Sq : Below w5_.heap.size w5_ w6_ := Bq
  replace pb := (Sq.cell (p := ⟨w.heap.size, 0, none⟩) zb).trans pb
  replace qb := (Sq.cell (p := ⟨w.heap.size, 1, none⟩) zb).trans qb
  replace zb : w.heap.size < w6_.heap.size := Nat.lt_of_lt_of_le zb Sq.size
  replace px := (Sq.cell (p := ⟨w1_.heap.size, 0, none⟩) zx).trans px
  replace qx := (Sq.cell (p := ⟨w1_.heap.size, 1, none⟩) zx).trans qx
  replace zx : w1_.heap.size < w6_.heap.size := Nat.lt_of_lt_of_le zx Sq.size
  replace py := (Sq.cell (p := ⟨w2_.heap.size, 0, none⟩) zy).trans py
  replace qy := (Sq.cell (p := ⟨w2_.heap.size, 1, none⟩) zy).trans qy
  replace zy : w2_.heap.size < w6_.heap.size := Nat.lt_of_lt_of_le zy Sq.size
  replace pg := (Sq.cell (p := ⟨w4_.heap.size, 0, none⟩) zg).trans pg
  replace qg := (Sq.cell (p := ⟨w4_.heap.size, 1, none⟩) zg).trans qg
  replace zg : w4_.heap.size < w6_.heap.size := Nat.lt_of_lt_of_le zg Sq.size
  replace ph := (Sq.cell (p := ⟨(w4_.heap.size + 1), 0, none⟩) zh).trans ph
  replace qh := (Sq.cell (p := ⟨(w4_.heap.size + 1), 1, none⟩) zh).trans qh
  replace zh : (w4_.heap.size + 1) < w6_.heap.size := Nat.lt_of_lt_of_le zh Sq.size
  replace HA : Hid (Rd w6_ w6_.heap.size A bs) := HA.out.on Sq
  replace RX : Hid (Rd w6_ w6_.heap.size A1 []) := RX.out.on Sq
  replace RY : Hid (Rd w6_ w6_.heap.size A2 []) := RY.out.on Sq
  replace RG : Hid (Rd w6_ w6_.heap.size none []) := RG.out.on Sq
  replace RH : Hid (Rd w6_ w6_.heap.size none []) := RH.out.on Sq
  replace HB : Hid (Below w.heap.size w w6_) := HB.out.trans (Sq.mono HB.out.size)
  clear Bq Sq
  have RB := Lib.hid Rq; clear Rq
  go_wp2_with fail
  refine (HLR.out A9 c9 _ RB.out).mono ?_
  rintro e w7_ ⟨rfl, Bq⟩
  have Sq : Below w6_.heap.size w6_ w7_ := Bq
  replace pb := (Sq.cell (p := ⟨w.heap.size, 0, none⟩) zb).trans pb
  replace qb := (Sq.cell (p := ⟨w.heap.size, 1, none⟩) zb).trans qb
  replace zb : w.heap.size < w7_.heap.size := Nat.lt_of_lt_of_le zb Sq.size
  replace px := (Sq.cell (p := ⟨w1_.heap.size, 0, none⟩) zx).trans px
  replace qx := (Sq.cell (p := ⟨w1_.heap.size, 1, none⟩) zx).trans qx
  replace zx : w1_.heap.size < w7_.heap.size := Nat.lt_of_lt_of_le zx Sq.size
  replace py := (Sq.cell (p := ⟨w2_.heap.size, 0, none⟩) zy).trans py
  replace qy := (Sq.cell (p := ⟨w2_.heap.size, 1, none⟩) zy).trans qy
  replace zy : w2_.heap.size < w7_.heap.size := Nat.lt_of_lt_of_le zy Sq.size
  replace pg := (Sq.cell (p := ⟨w4_.heap.size, 0, none⟩) zg).trans pg
  replace qg := (Sq.cell (p := ⟨w4_.heap.size, 1, none⟩) zg).trans qg
  replace zg : w4_.heap.size < w7_.heap.size := Nat.lt_of_lt_of_le zg Sq.size
  replace ph := (Sq.cell (p := ⟨(w4_.heap.size + 1), 0, none⟩) zh).trans ph
  replace qh := (Sq.cell (p := ⟨(w4_.heap.size + 1), 1, none⟩) zh).trans qh
  replace zh : (w4_.heap.size + 1) < w7_.heap.size := Nat.lt_of_lt_of_le zh Sq.size
  replace HA : Hid (Rd w7_ w7_.heap.size A bs) := HA.out.on Sq
  replace RX : Hid (Rd w7_ w7_.heap.size A1 []) := RX.out.on Sq
  replace RY : Hid (Rd w7_ w7_.heap.size A2 []) := RY.out.on Sq
  replace RG : Hid (Rd w7_ w7_.heap.size none []) := RG.out.on Sq
  replace RH : Hid (Rd w7_ w7_.heap.size none []) := RH.out.on Sq
  replace RB : Hid (RdV w7_ w7_.heap.size A9 (ic lB)) := RB.out.on Sq
  replace HB : Hid (Below w.heap.size w w7_) := HB.out.trans (Sq.mono HB.out.size)
  clear Bq Sq
  go_wp2_with fail
  refine (HGR.out A9 c9 _ RB.out).mono ?_
  rintro e w8_ ⟨rfl, Bq⟩
  have Sq : Below w7_.heap.size w7_ w8_ := Bq
  replace pb := (Sq.cell (p := ⟨w.heap.size, 0, none⟩) zb).trans pb
  replace qb := (Sq.cell (p := ⟨w.heap.size, 1, none⟩) zb).trans qb
  replace zb : w.heap.size < w8_.heap.size := Nat.lt_of_lt_of_le zb Sq.size
  replace px := (Sq.cell (p := ⟨w1_.heap.size, 0, none⟩) zx).trans px
  replace qx := (Sq.cell (p := ⟨w1_.heap.size, 1, none⟩) zx).trans qx
  replace zx : w1_.heap.size < w8_.heap.size := Nat.lt_of_lt_of_le zx Sq.size
  replace py := (Sq.cell (p := ⟨w2_.heap.size, 0, none⟩) zy).trans py
  replace qy := (Sq.cell (p := ⟨w2_.heap.size, 1, none⟩) zy).trans qy
  replace zy : w2_.heap.size < w8_.heap.size := Nat.lt_of_lt_of_le zy Sq.size
  replace pg := (Sq.cell (p := ⟨w4_.heap.size, 0, none⟩) zg).trans pg
  replace qg := (Sq.cell (p := ⟨w4_.heap.size, 1, none⟩) zg).trans qg
  replace zg : w4_.heap.size < w8_.heap.size := Nat.lt_of_lt_of_le zg Sq.size
  replace ph := (Sq.cell (p := ⟨(w4_.heap.size + 1), 0, none⟩) zh).trans ph
  replace qh := (Sq.cell (p := ⟨(w4_.heap.size + 1), 1, none⟩) zh).trans qh
  replace zh : (w4_.heap.size + 1) < w8_.heap.size := Nat.lt_of_lt_of_le zh Sq.size
  replace HA : Hid (Rd w8_ w8_.heap.size A bs) := HA.out.on Sq
  replace RX : Hid (Rd w8_ w8_.heap.size A1 []) := RX.out.on Sq
  replace RY : Hid (Rd w8_ w8_.heap.size A2 []) := RY.out.on Sq
  replace RG : Hid (Rd w8_ w8_.heap.size none []) := RG.out.on Sq
  replace RH : Hid (Rd w8_ w8_.heap.size none []) := RH.out.on Sq
  replace RB : Hid (RdV w8_ w8_.heap.size A9 (ic lB)) := RB.out.on Sq
  replace HB : Hid (Below w.heap.size w w8_) := HB.out.trans (Sq.mono HB.out.size)
  clear Bq Sq
  go_wp2_with fail
  refine (gbegun_true _).mono ?_
  rintro e w9_ ⟨rfl, Bq⟩
  have Sq : Below w8_.heap.size w8_ w9_ := Bq
  replace pb := (Sq.cell (p := ⟨w.heap.size, 0, none⟩) zb).trans pb
  replace qb := (Sq.cell (p := ⟨w.heap.size, 1, none⟩) zb).trans qb
  replace zb : w.heap.size < w9_.heap.size := Nat.lt_of_lt_of_le zb Sq.size
  replace px := (Sq.cell (p := ⟨w1_.heap.size, 0, none⟩) zx).trans px
  replace qx := (Sq.cell (p := ⟨w1_.heap.size, 1, none⟩) zx).trans qx
  replace zx : w1_.heap.size < w9_.heap.size := Nat.lt_of_lt_of_le zx Sq.size
  replace py := (Sq.cell (p := ⟨w2_.heap.size, 0, none⟩) zy).trans py
  replace qy := (Sq.cell (p := ⟨w2_.heap.size, 1, none⟩) zy).trans qy
  replace zy : w2_.heap.size < w9_.heap.size := Nat.lt_of_lt_of_le zy Sq.size
  replace pg := (Sq.cell (p := ⟨w4_.heap.size, 0, none⟩) zg).trans pg
  replace qg := (Sq.cell (p := ⟨w4_.heap.size, 1, none⟩) zg).trans qg
  replace zg : w4_.heap.size < w9_.heap.size := Nat.lt_of_lt_of_le zg Sq.size
  replace ph := (Sq.cell (p := ⟨(w4_.heap.size + 1), 0, none⟩) zh).trans ph
  replace qh := (Sq.cell (p := ⟨(w4_.heap.size + 1), 1, none⟩) zh).trans qh
  replace zh : (w4_.heap.size + 1) < w9_.heap.size := Nat.lt_of_lt_of_le zh Sq.size
  replace HA : Hid (Rd w9_ w9_.heap.size A bs) := HA.out.on Sq
  replace RX : Hid (Rd w9_ w9_.heap.size A1 []) := RX.out.on Sq
  replace RY : Hid (Rd w9_ w9_.heap.size A2 []) := RY.out.on Sq
  replace RG : Hid (Rd w9_ w9_.heap.size none []) := RG.out.on Sq
  replace RH : Hid (Rd w9_ w9_.heap.size none []) := RH.out.on Sq
  replace RB : Hid (RdV w9_ w9_.heap.size A9 (ic lB)) := RB.out.on Sq
  replace HB : Hid (Below w.heap.size w w9_) := HB.out.trans (Sq.mono HB.out.size)
  clear Bq Sq
  go_wp2_with fail
  refine (HS1.out A1 none c1 0 _ RX.out RG.out).mono ?_
  rintro e w10_ ⟨rfl, Bq⟩
  have Sq : Below w9_.heap.size w9_ w10_ := Bq
  replace pb := (Sq.cell (p := ⟨w.heap.size, 0, none⟩) zb).trans pb
  replace qb := (Sq.cell (p := ⟨w.heap.size, 1, none⟩) zb).trans qb
  replace zb : w.heap.size < w10_.heap.size := Nat.lt_of_lt_of_le zb Sq.size
  replace px := (Sq.cell (p := ⟨w1_.heap.size, 0, none⟩) zx).trans px
  replace qx := (Sq.cell (p := ⟨w1_.heap.size, 1, none⟩) zx).trans qx
  replace zx : w1_.heap.size < w10_.heap.size := Nat.lt_of_lt_of_le zx Sq.size
  replace py := (Sq.cell (p := ⟨w2_.heap.size, 0, none⟩) zy).trans py
  replace qy := (Sq.cell (p := ⟨w2_.heap.size, 1, none⟩) zy).trans qy
  replace zy : w2_.heap.size < w10_.heap.size := Nat.lt_of_lt_of_le zy Sq.size
  replace pg := (Sq.cell (p := ⟨w4_.heap.size, 0, none⟩) zg).trans pg
  replace qg := (Sq.cell (p := ⟨w4_.heap.size, 1, none⟩) zg).trans qg
  replace zg : w4_.heap.size < w10_.heap.size := Nat.lt_of_lt_of_le zg Sq.size
  replace ph := (Sq.cell (p := ⟨(w4_.heap.size + 1), 0, none⟩) zh).trans ph
  replace qh := (Sq.cell (p := ⟨(w4_.heap.size + 1), 1, none⟩) zh).trans qh
  replace zh : (w4_.heap.size + 1) < w10_.heap.size := Nat.lt_of_lt_of_le zh Sq.size
  replace HA : Hid (Rd w10_ w10_.heap.size A bs) := HA.out.on Sq
  replace RX : Hid (Rd w10_ w10_.heap.size A1 []) := RX.out.on Sq
  replace RY : Hid (Rd w10_ w10_.heap.size A2 []) := RY.out.on Sq
  replace RG : Hid (Rd w10_ w10_.heap.size none []) := RG.out.on Sq
  replace RH : Hid (Rd w10_ w10_.heap.size none []) := RH.out.on Sq
  replace RB : Hid (RdV w10_ w10_.heap.size A9 (ic lB)) := RB.out.on Sq
  replace HB : Hid (Below w.heap.size w w10_) := HB.out.trans (Sq.mono HB.out.size)
  clear Bq Sq
  go_wp2_with fail
  refine (HS2.out A2 none c2 0 _ RY.out RH.out).mono ?_
  rintro e w11_ ⟨rfl, Bq⟩
  have Sq : Below w10_.heap.size w10_ w11_ := Bq
  replace pb := (Sq.cell (p := ⟨w.heap.size, 0, none⟩) zb).trans pb
  replace qb := (Sq.cell (p := ⟨w.heap.size, 1, none⟩) zb).trans qb
  replace zb : w.heap.size < w11_.heap.size := Nat.lt_of_lt_of_le zb Sq.size
  replace px := (Sq.cell (p := ⟨w1_.heap.size, 0, none⟩) zx).trans px
  replace qx := (Sq.cell (p := ⟨w1_.heap.size, 1, none⟩) zx).trans qx
  replace zx : w1_.heap.size < w11_.heap.size := Nat.lt_of_lt_of_le zx Sq.size
  replace py := (Sq.cell (p := ⟨w2_.heap.size, 0, none⟩) zy).trans py
  replace qy := (Sq.cell (p := ⟨w2_.heap.size, 1, none⟩) zy).trans qy
  replace zy : w2_.heap.size < w11_.heap.size := Nat.lt_of_lt_of_le zy Sq.size
  replace pg := (Sq.cell (p := ⟨w4_.heap.size, 0, none⟩) zg).trans pg
  replace qg := (Sq.cell (p := ⟨w4_.heap.size, 1, none⟩) zg).trans qg
  replace zg : w4_.heap.size < w11_.heap.size := Nat.lt_of_lt_of_le zg Sq.size
  replace ph := (Sq.cell (p := ⟨(w4_.heap.size + 1), 0, none⟩) zh).trans ph
  replace qh := (Sq.cell (p := ⟨(w4_.heap.size + 1), 1, none⟩) zh).trans qh
  replace zh : (w4_.heap.size + 1) < w11_.heap.size := Nat.lt_of_lt_of_le zh Sq.size
  replace HA : Hid (Rd w11_ w11_.heap.size A bs) := HA.out.on Sq
  replace RX : Hid (Rd w11_ w11_.heap.size A1 []) := RX.out.on Sq
  replace RY : Hid (Rd w11_ w11_.heap.size A2 []) := RY.out.on Sq
  replace RG : Hid (Rd w11_ w11_.heap.size none []) := RG.out.on Sq
  replace RH : Hid (Rd w11_ w11_.heap.size none []) := RH.out.on Sq
  replace RB : Hid (RdV w11_ w11_.heap.size A9 (ic lB)) := RB.out.on Sq
  replace HB : Hid (Below w.heap.size w w11_) := HB.out.trans (Sq.mono HB.out.size)
  clear Bq Sq
  go_wp2
  go_ret
  exact ⟨rfl, HB.out⟩
set_option maxHeartbeats 4000000 in
theorem gtells_no_n1_short (w : World) (n m q r len : Int) (A : Option Addr) (c N : Nat) (bs : List Nat) (p0 : Int) (lX lY : Int) (nX nY nG nU nL nB : Nat) (bX bY : List Nat) (lG lU lL lB : List Bool) (e0 : Int) (r1 r2 s1 s2 x0 : Nat) (g : Int) (hA : Rd w w.heap.size A bs)
    (HX : Hid (∀ V, Calls Try.prog 35 #[.int .u64 n, .int .u64 m] V (Gv V 0 0 [] 3)))
    (HY : Hid (∀ V, Calls Try.prog 36 #[.int .u64 n, .int .u64 m] V (Gv V 0 0 [] 3)))
    (HP : Hid (∀ V, Rd V V.heap.size A bs → Calls Try.prog 37 #[.agg #[.int .i64 len, .slice A N c], .int .i64 p0, .int .u64 m] V (ReadP V 0 0 7)))
    (HQ : Hid (∀ V, Rd V V.heap.size A bs → Calls Try.prog 38 #[.agg #[.int .i64 len, .slice A N c], .int .i64 p0, .int .u64 m] V (ReadP V s1 s2 g)))
    (HE : Hid (∀ V, Rd V V.heap.size A bs → Calls Try.prog 23 #[.agg #[.int .i64 len, .slice A N c], .int .i64 p0] V fun e w' => e = .returned (.int .i64 0) ∧ Below V.heap.size V w'))
    (HS1 : Hid (∀ A B c d V, Rd V V.heap.size A [] → Rd V V.heap.size B [] → Calls Try.prog 28 #[.agg #[.int .i64 0, .slice A 0 c], .agg #[.int .i64 0, .slice B 0 d]] V fun e w' => e = .returned (.bool true) ∧ Below V.heap.size V w'))
    (HS2 : Hid (∀ A B c d V, Rd V V.heap.size A [] → Rd V V.heap.size B [] → Calls Try.prog 28 #[.agg #[.int .i64 0, .slice A 0 c], .agg #[.int .i64 0, .slice B 0 d]] V fun e w' => e = .returned (.bool true) ∧ Below V.heap.size V w'))
    (HBL : Hid (∀ V, Rd V V.heap.size A bs → Calls Try.prog 24 #[.agg #[.int .i64 len, .slice A N c]] V fun e w' => ∃ A c, e = .returned (.slice A nB c) ∧ RdV w' w'.heap.size A (ic lB) ∧ Below V.heap.size V w'))
    (HLR : Hid (∀ A c V, RdV V V.heap.size A (ic lB) → Calls Try.prog 41 #[.slice A nB c, .int .i64 p0, .int .u64 m] V fun e w' => e = .returned (.tuple #[.int .u64 (x0 : Int), .int .i64 (-1)]) ∧ Below V.heap.size V w'))
    (HGR : Hid (∀ A c V, RdV V V.heap.size A (ic lB) → Calls Try.prog 42 #[.slice A nB c, .int .i64 p0, .int .u64 m] V (ReadP V s1 s2 g)))
     (hm : 1 ≤ m) (hm2 : m ≤ 1099511627776) (hl : m ≤ n) (hn : 1099511627776 < n) :
    Calls Try.prog 8 #[.int .u64 n, .int .u64 m, .agg #[.int .i64 len, .slice A N c], .int .i64 p0] w fun e w' => e = .returned (.bool true) ∧ Below w.heap.size w w' := by
  have HA := Lib.hid hA; clear hA
  have a1 : decide ((1 : Int) ≤ m) = true := by simp; omega
  have a2 : decide (m ≤ 1099511627776) = true := by simp; omega
  have hm0 : ¬ m = 0 := by omega
  have a3 : decide (n < m) = false := by simp; omega
  have a4 : decide (n ≤ 1099511627776) = false := by simp; omega
  go_enter Try.func8, Try.ntmps8
  go_wp2_with fail
  refine (HX.out _).mono ?_
  rintro e w1_ ⟨A1, c1, rfl, Rq, Bq⟩
  rw [World.size_alloc] at Bq
  have Sq : Below w.heap.size w w1_ := (one_below w _).trans (Bq.mono (by omega))
  have zb : w.heap.size < w1_.heap.size := by have := Bq.size; rw [World.size_alloc] at this; omega
  obtain ⟨pb, qb⟩ := box_at Bq
  replace HA : Hid (Rd w1_ w1_.heap.size A bs) := HA.out.on Sq
  have HB : Hid (Below w.heap.size w w1_) := Sq
  clear Bq Sq
  have RX := Lib.hid Rq; clear Rq
  go_wp2_with fail
  refine (HY.out _).mono ?_
  rintro e w2_ ⟨A2, c2, rfl, Rq, Bq⟩
  rw [World.size_alloc] at Bq
  have Sq : Below w1_.heap.size w1_ w2_ := (one_below w1_ _).trans (Bq.mono (by omega))
  have zx : w1_.heap.size < w2_.heap.size := by have := Bq.size; rw [World.size_alloc] at this; omega
  obtain ⟨px, qx⟩ := box_at Bq
  replace pb := (Sq.cell (p := ⟨w.heap.size, 0, none⟩) zb).trans pb
  replace qb := (Sq.cell (p := ⟨w.heap.size, 1, none⟩) zb).trans qb
  replace zb : w.heap.size < w2_.heap.size := Nat.lt_of_lt_of_le zb Sq.size
  replace HA : Hid (Rd w2_ w2_.heap.size A bs) := HA.out.on Sq
  replace RX : Hid (Rd w2_ w2_.heap.size A1 []) := RX.out.on Sq
  replace HB : Hid (Below w.heap.size w w2_) := HB.out.trans (Sq.mono HB.out.size)
  clear Bq Sq
  have RY := Lib.hid Rq; clear Rq
  go_wp2_with fail
  refine (HP.out _ (HA.out.on (one_below w2_ _))).mono ?_
  rintro e w3_ ⟨rfl, Bq⟩
  rw [World.size_alloc] at Bq
  have Sq : Below w2_.heap.size w2_ w3_ := (one_below w2_ _).trans (Bq.mono (by omega))
  have zy : w2_.heap.size < w3_.heap.size := by have := Bq.size; rw [World.size_alloc] at this; omega
  obtain ⟨py, qy⟩ := box_at Bq
  replace pb := (Sq.cell (p := ⟨w.heap.size, 0, none⟩) zb).trans pb
  replace qb := (Sq.cell (p := ⟨w.heap.size, 1, none⟩) zb).trans qb
  replace zb : w.heap.size < w3_.heap.size := Nat.lt_of_lt_of_le zb Sq.size
  replace px := (Sq.cell (p := ⟨w1_.heap.size, 0, none⟩) zx).trans px
  replace qx := (Sq.cell (p := ⟨w1_.heap.size, 1, none⟩) zx).trans qx
  replace zx : w1_.heap.size < w3_.heap.size := Nat.lt_of_lt_of_le zx Sq.size
  replace HA : Hid (Rd w3_ w3_.heap.size A bs) := HA.out.on Sq
  replace RX : Hid (Rd w3_ w3_.heap.size A1 []) := RX.out.on Sq
  replace RY : Hid (Rd w3_ w3_.heap.size A2 []) := RY.out.on Sq
  replace HB : Hid (Below w.heap.size w w3_) := HB.out.trans (Sq.mono HB.out.size)
  clear Bq Sq
  go_wp2_with fail
  refine (HQ.out _ HA.out).mono ?_
  rintro e w4_ ⟨rfl, Bq⟩
  have Sq : Below w3_.heap.size w3_ w4_ := Bq
  replace pb := (Sq.cell (p := ⟨w.heap.size, 0, none⟩) zb).trans pb
  replace qb := (Sq.cell (p := ⟨w.heap.size, 1, none⟩) zb).trans qb
  replace zb : w.heap.size < w4_.heap.size := Nat.lt_of_lt_of_le zb Sq.size
  replace px := (Sq.cell (p := ⟨w1_.heap.size, 0, none⟩) zx).trans px
  replace qx := (Sq.cell (p := ⟨w1_.heap.size, 1, none⟩) zx).trans qx
  replace zx : w1_.heap.size < w4_.heap.size := Nat.lt_of_lt_of_le zx Sq.size
  replace py := (Sq.cell (p := ⟨w2_.heap.size, 0, none⟩) zy).trans py
  replace qy := (Sq.cell (p := ⟨w2_.heap.size, 1, none⟩) zy).trans qy
  replace zy : w2_.heap.size < w4_.heap.size := Nat.lt_of_lt_of_le zy Sq.size
  replace HA : Hid (Rd w4_ w4_.heap.size A bs) := HA.out.on Sq
  replace RX : Hid (Rd w4_ w4_.heap.size A1 []) := RX.out.on Sq
  replace RY : Hid (Rd w4_ w4_.heap.size A2 []) := RY.out.on Sq
  replace HB : Hid (Below w.heap.size w w4_) := HB.out.trans (Sq.mono HB.out.size)
  clear Bq Sq
  go_wp2_with fail
  obtain ⟨w10, hw, T⟩ := b2_zero w4_
  rw [hw]
  clear hw
  have Sq := T.below
  replace pb := (Sq.cell (p := ⟨w.heap.size, 0, none⟩) zb).trans pb
  replace qb := (Sq.cell (p := ⟨w.heap.size, 1, none⟩) zb).trans qb
  replace zb : w.heap.size < w10.heap.size := Nat.lt_of_lt_of_le zb Sq.size
  replace px := (Sq.cell (p := ⟨w1_.heap.size, 0, none⟩) zx).trans px
  replace qx := (Sq.cell (p := ⟨w1_.heap.size, 1, none⟩) zx).trans qx
  replace zx : w1_.heap.size < w10.heap.size := Nat.lt_of_lt_of_le zx Sq.size
  replace py := (Sq.cell (p := ⟨w2_.heap.size, 0, none⟩) zy).trans py
  replace qy := (Sq.cell (p := ⟨w2_.heap.size, 1, none⟩) zy).trans qy
  replace zy : w2_.heap.size < w10.heap.size := Nat.lt_of_lt_of_le zy Sq.size
  replace HA : Hid (Rd w10 w10.heap.size A bs) := HA.out.on Sq
  replace RX : Hid (Rd w10 w10.heap.size A1 []) := RX.out.on Sq
  replace RY : Hid (Rd w10 w10.heap.size A2 []) := RY.out.on Sq
  replace HB : Hid (Below w.heap.size w w10) := HB.out.trans (Sq.mono HB.out.size)
  clear Sq
  obtain ⟨pg, qg, -, -⟩ := blk_cells T.x
  obtain ⟨ph, qh, -, -⟩ := blk_cells T.y
  have zh : w4_.heap.size + 1 < w10.heap.size := T.size
  have zg : w4_.heap.size < w10.heap.size := by omega
  have RG := Lib.hid T.rx
  have RH := Lib.hid T.ry
  clear T
  refine (HE.out _ HA.out).mono ?_
  rintro e w5_ ⟨rfl, Bq⟩
  have Sq : Below w10.heap.size w10 w5_ := Bq
  replace pb := (Sq.cell (p := ⟨w.heap.size, 0, none⟩) zb).trans pb
  replace qb := (Sq.cell (p := ⟨w.heap.size, 1, none⟩) zb).trans qb
  replace zb : w.heap.size < w5_.heap.size := Nat.lt_of_lt_of_le zb Sq.size
  replace px := (Sq.cell (p := ⟨w1_.heap.size, 0, none⟩) zx).trans px
  replace qx := (Sq.cell (p := ⟨w1_.heap.size, 1, none⟩) zx).trans qx
  replace zx : w1_.heap.size < w5_.heap.size := Nat.lt_of_lt_of_le zx Sq.size
  replace py := (Sq.cell (p := ⟨w2_.heap.size, 0, none⟩) zy).trans py
  replace qy := (Sq.cell (p := ⟨w2_.heap.size, 1, none⟩) zy).trans qy
  replace zy : w2_.heap.size < w5_.heap.size := Nat.lt_of_lt_of_le zy Sq.size
  replace pg := (Sq.cell (p := ⟨w4_.heap.size, 0, none⟩) zg).trans pg
  replace qg := (Sq.cell (p := ⟨w4_.heap.size, 1, none⟩) zg).trans qg
  replace zg : w4_.heap.size < w5_.heap.size := Nat.lt_of_lt_of_le zg Sq.size
  replace ph := (Sq.cell (p := ⟨(w4_.heap.size + 1), 0, none⟩) zh).trans ph
  replace qh := (Sq.cell (p := ⟨(w4_.heap.size + 1), 1, none⟩) zh).trans qh
  replace zh : (w4_.heap.size + 1) < w5_.heap.size := Nat.lt_of_lt_of_le zh Sq.size
  replace HA : Hid (Rd w5_ w5_.heap.size A bs) := HA.out.on Sq
  replace RX : Hid (Rd w5_ w5_.heap.size A1 []) := RX.out.on Sq
  replace RY : Hid (Rd w5_ w5_.heap.size A2 []) := RY.out.on Sq
  replace RG : Hid (Rd w5_ w5_.heap.size none []) := RG.out.on Sq
  replace RH : Hid (Rd w5_ w5_.heap.size none []) := RH.out.on Sq
  replace HB : Hid (Below w.heap.size w w5_) := HB.out.trans (Sq.mono HB.out.size)
  clear Bq Sq
  go_wp2_with fail
  refine (HBL.out _ HA.out).mono ?_
  rintro e w6_ ⟨A9, c9, rfl, Rq, Bq⟩
  have Sq : Below w5_.heap.size w5_ w6_ := Bq
  replace pb := (Sq.cell (p := ⟨w.heap.size, 0, none⟩) zb).trans pb
  replace qb := (Sq.cell (p := ⟨w.heap.size, 1, none⟩) zb).trans qb
  replace zb : w.heap.size < w6_.heap.size := Nat.lt_of_lt_of_le zb Sq.size
  replace px := (Sq.cell (p := ⟨w1_.heap.size, 0, none⟩) zx).trans px
  replace qx := (Sq.cell (p := ⟨w1_.heap.size, 1, none⟩) zx).trans qx
  replace zx : w1_.heap.size < w6_.heap.size := Nat.lt_of_lt_of_le zx Sq.size
  replace py := (Sq.cell (p := ⟨w2_.heap.size, 0, none⟩) zy).trans py
  replace qy := (Sq.cell (p := ⟨w2_.heap.size, 1, none⟩) zy).trans qy
  replace zy : w2_.heap.size < w6_.heap.size := Nat.lt_of_lt_of_le zy Sq.size
  replace pg := (Sq.cell (p := ⟨w4_.heap.size, 0, none⟩) zg).trans pg
  replace qg := (Sq.cell (p := ⟨w4_.heap.size, 1, none⟩) zg).trans qg
  replace zg : w4_.heap.size < w6_.heap.size := Nat.lt_of_lt_of_le zg Sq.size
  replace ph := (Sq.cell (p := ⟨(w4_.heap.size + 1), 0, none⟩) zh).trans ph
  replace qh := (Sq.cell (p := ⟨(w4_.heap.size + 1), 1, none⟩) zh).trans qh
  replace zh : (w4_.heap.size + 1) < w6_.heap.size := Nat.lt_of_lt_of_le zh Sq.size
  replace HA : Hid (Rd w6_ w6_.heap.size A bs) := HA.out.on Sq
  replace RX : Hid (Rd w6_ w6_.heap.size A1 []) := RX.out.on Sq
  replace RY : Hid (Rd w6_ w6_.heap.size A2 []) := RY.out.on Sq
  replace RG : Hid (Rd w6_ w6_.heap.size none []) := RG.out.on Sq
  replace RH : Hid (Rd w6_ w6_.heap.size none []) := RH.out.on Sq
  replace HB : Hid (Below w.heap.size w w6_) := HB.out.trans (Sq.mono HB.out.size)
  clear Bq Sq
  have RB := Lib.hid Rq; clear Rq
  go_wp2_with fail
  refine (HLR.out A9 c9 _ RB.out).mono ?_
  rintro e w7_ ⟨rfl, Bq⟩
  have Sq : Below w6_.heap.size w6_ w7_ := Bq
  replace pb := (Sq.cell (p := ⟨w.heap.size, 0, none⟩) zb).trans pb
  replace qb := (Sq.cell (p := ⟨w.heap.size, 1, none⟩) zb).trans qb
  replace zb : w.heap.size < w7_.heap.size := Nat.lt_of_lt_of_le zb Sq.size
  replace px := (Sq.cell (p := ⟨w1_.heap.size, 0, none⟩) zx).trans px
  replace qx := (Sq.cell (p := ⟨w1_.heap.size, 1, none⟩) zx).trans qx
  replace zx : w1_.heap.size < w7_.heap.size := Nat.lt_of_lt_of_le zx Sq.size
  replace py := (Sq.cell (p := ⟨w2_.heap.size, 0, none⟩) zy).trans py
  replace qy := (Sq.cell (p := ⟨w2_.heap.size, 1, none⟩) zy).trans qy
  replace zy : w2_.heap.size < w7_.heap.size := Nat.lt_of_lt_of_le zy Sq.size
  replace pg := (Sq.cell (p := ⟨w4_.heap.size, 0, none⟩) zg).trans pg
  replace qg := (Sq.cell (p := ⟨w4_.heap.size, 1, none⟩) zg).trans qg
  replace zg : w4_.heap.size < w7_.heap.size := Nat.lt_of_lt_of_le zg Sq.size
  replace ph := (Sq.cell (p := ⟨(w4_.heap.size + 1), 0, none⟩) zh).trans ph
  replace qh := (Sq.cell (p := ⟨(w4_.heap.size + 1), 1, none⟩) zh).trans qh
  replace zh : (w4_.heap.size + 1) < w7_.heap.size := Nat.lt_of_lt_of_le zh Sq.size
  replace HA : Hid (Rd w7_ w7_.heap.size A bs) := HA.out.on Sq
  replace RX : Hid (Rd w7_ w7_.heap.size A1 []) := RX.out.on Sq
  replace RY : Hid (Rd w7_ w7_.heap.size A2 []) := RY.out.on Sq
  replace RG : Hid (Rd w7_ w7_.heap.size none []) := RG.out.on Sq
  replace RH : Hid (Rd w7_ w7_.heap.size none []) := RH.out.on Sq
  replace RB : Hid (RdV w7_ w7_.heap.size A9 (ic lB)) := RB.out.on Sq
  replace HB : Hid (Below w.heap.size w w7_) := HB.out.trans (Sq.mono HB.out.size)
  clear Bq Sq
  go_wp2_with fail
  refine (HGR.out A9 c9 _ RB.out).mono ?_
  rintro e w8_ ⟨rfl, Bq⟩
  have Sq : Below w7_.heap.size w7_ w8_ := Bq
  replace pb := (Sq.cell (p := ⟨w.heap.size, 0, none⟩) zb).trans pb
  replace qb := (Sq.cell (p := ⟨w.heap.size, 1, none⟩) zb).trans qb
  replace zb : w.heap.size < w8_.heap.size := Nat.lt_of_lt_of_le zb Sq.size
  replace px := (Sq.cell (p := ⟨w1_.heap.size, 0, none⟩) zx).trans px
  replace qx := (Sq.cell (p := ⟨w1_.heap.size, 1, none⟩) zx).trans qx
  replace zx : w1_.heap.size < w8_.heap.size := Nat.lt_of_lt_of_le zx Sq.size
  replace py := (Sq.cell (p := ⟨w2_.heap.size, 0, none⟩) zy).trans py
  replace qy := (Sq.cell (p := ⟨w2_.heap.size, 1, none⟩) zy).trans qy
  replace zy : w2_.heap.size < w8_.heap.size := Nat.lt_of_lt_of_le zy Sq.size
  replace pg := (Sq.cell (p := ⟨w4_.heap.size, 0, none⟩) zg).trans pg
  replace qg := (Sq.cell (p := ⟨w4_.heap.size, 1, none⟩) zg).trans qg
  replace zg : w4_.heap.size < w8_.heap.size := Nat.lt_of_lt_of_le zg Sq.size
  replace ph := (Sq.cell (p := ⟨(w4_.heap.size + 1), 0, none⟩) zh).trans ph
  replace qh := (Sq.cell (p := ⟨(w4_.heap.size + 1), 1, none⟩) zh).trans qh
  replace zh : (w4_.heap.size + 1) < w8_.heap.size := Nat.lt_of_lt_of_le zh Sq.size
  replace HA : Hid (Rd w8_ w8_.heap.size A bs) := HA.out.on Sq
  replace RX : Hid (Rd w8_ w8_.heap.size A1 []) := RX.out.on Sq
  replace RY : Hid (Rd w8_ w8_.heap.size A2 []) := RY.out.on Sq
  replace RG : Hid (Rd w8_ w8_.heap.size none []) := RG.out.on Sq
  replace RH : Hid (Rd w8_ w8_.heap.size none []) := RH.out.on Sq
  replace RB : Hid (RdV w8_ w8_.heap.size A9 (ic lB)) := RB.out.on Sq
  replace HB : Hid (Below w.heap.size w w8_) := HB.out.trans (Sq.mono HB.out.size)
  clear Bq Sq
  go_wp2_with fail
  refine (gbegun_true _).mono ?_
  rintro e w9_ ⟨rfl, Bq⟩
  have Sq : Below w8_.heap.size w8_ w9_ := Bq
  replace pb := (Sq.cell (p := ⟨w.heap.size, 0, none⟩) zb).trans pb
  replace qb := (Sq.cell (p := ⟨w.heap.size, 1, none⟩) zb).trans qb
  replace zb : w.heap.size < w9_.heap.size := Nat.lt_of_lt_of_le zb Sq.size
  replace px := (Sq.cell (p := ⟨w1_.heap.size, 0, none⟩) zx).trans px
  replace qx := (Sq.cell (p := ⟨w1_.heap.size, 1, none⟩) zx).trans qx
  replace zx : w1_.heap.size < w9_.heap.size := Nat.lt_of_lt_of_le zx Sq.size
  replace py := (Sq.cell (p := ⟨w2_.heap.size, 0, none⟩) zy).trans py
  replace qy := (Sq.cell (p := ⟨w2_.heap.size, 1, none⟩) zy).trans qy
  replace zy : w2_.heap.size < w9_.heap.size := Nat.lt_of_lt_of_le zy Sq.size
  replace pg := (Sq.cell (p := ⟨w4_.heap.size, 0, none⟩) zg).trans pg
  replace qg := (Sq.cell (p := ⟨w4_.heap.size, 1, none⟩) zg).trans qg
  replace zg : w4_.heap.size < w9_.heap.size := Nat.lt_of_lt_of_le zg Sq.size
  replace ph := (Sq.cell (p := ⟨(w4_.heap.size + 1), 0, none⟩) zh).trans ph
  replace qh := (Sq.cell (p := ⟨(w4_.heap.size + 1), 1, none⟩) zh).trans qh
  replace zh : (w4_.heap.size + 1) < w9_.heap.size := Nat.lt_of_lt_of_le zh Sq.size
  replace HA : Hid (Rd w9_ w9_.heap.size A bs) := HA.out.on Sq
  replace RX : Hid (Rd w9_ w9_.heap.size A1 []) := RX.out.on Sq
  replace RY : Hid (Rd w9_ w9_.heap.size A2 []) := RY.out.on Sq
  replace RG : Hid (Rd w9_ w9_.heap.size none []) := RG.out.on Sq
  replace RH : Hid (Rd w9_ w9_.heap.size none []) := RH.out.on Sq
  replace RB : Hid (RdV w9_ w9_.heap.size A9 (ic lB)) := RB.out.on Sq
  replace HB : Hid (Below w.heap.size w w9_) := HB.out.trans (Sq.mono HB.out.size)
  clear Bq Sq
  go_wp2_with fail
  refine (HS1.out A1 none c1 0 _ RX.out RG.out).mono ?_
  rintro e w10_ ⟨rfl, Bq⟩
  have Sq : Below w9_.heap.size w9_ w10_ := Bq
  replace pb := (Sq.cell (p := ⟨w.heap.size, 0, none⟩) zb).trans pb
  replace qb := (Sq.cell (p := ⟨w.heap.size, 1, none⟩) zb).trans qb
  replace zb : w.heap.size < w10_.heap.size := Nat.lt_of_lt_of_le zb Sq.size
  replace px := (Sq.cell (p := ⟨w1_.heap.size, 0, none⟩) zx).trans px
  replace qx := (Sq.cell (p := ⟨w1_.heap.size, 1, none⟩) zx).trans qx
  replace zx : w1_.heap.size < w10_.heap.size := Nat.lt_of_lt_of_le zx Sq.size
  replace py := (Sq.cell (p := ⟨w2_.heap.size, 0, none⟩) zy).trans py
  replace qy := (Sq.cell (p := ⟨w2_.heap.size, 1, none⟩) zy).trans qy
  replace zy : w2_.heap.size < w10_.heap.size := Nat.lt_of_lt_of_le zy Sq.size
  replace pg := (Sq.cell (p := ⟨w4_.heap.size, 0, none⟩) zg).trans pg
  replace qg := (Sq.cell (p := ⟨w4_.heap.size, 1, none⟩) zg).trans qg
  replace zg : w4_.heap.size < w10_.heap.size := Nat.lt_of_lt_of_le zg Sq.size
  replace ph := (Sq.cell (p := ⟨(w4_.heap.size + 1), 0, none⟩) zh).trans ph
  replace qh := (Sq.cell (p := ⟨(w4_.heap.size + 1), 1, none⟩) zh).trans qh
  replace zh : (w4_.heap.size + 1) < w10_.heap.size := Nat.lt_of_lt_of_le zh Sq.size
  replace HA : Hid (Rd w10_ w10_.heap.size A bs) := HA.out.on Sq
  replace RX : Hid (Rd w10_ w10_.heap.size A1 []) := RX.out.on Sq
  replace RY : Hid (Rd w10_ w10_.heap.size A2 []) := RY.out.on Sq
  replace RG : Hid (Rd w10_ w10_.heap.size none []) := RG.out.on Sq
  replace RH : Hid (Rd w10_ w10_.heap.size none []) := RH.out.on Sq
  replace RB : Hid (RdV w10_ w10_.heap.size A9 (ic lB)) := RB.out.on Sq
  replace HB : Hid (Below w.heap.size w w10_) := HB.out.trans (Sq.mono HB.out.size)
  clear Bq Sq
  go_wp2_with fail
  refine (HS2.out A2 none c2 0 _ RY.out RH.out).mono ?_
  rintro e w11_ ⟨rfl, Bq⟩
  have Sq : Below w10_.heap.size w10_ w11_ := Bq
  replace pb := (Sq.cell (p := ⟨w.heap.size, 0, none⟩) zb).trans pb
  replace qb := (Sq.cell (p := ⟨w.heap.size, 1, none⟩) zb).trans qb
  replace zb : w.heap.size < w11_.heap.size := Nat.lt_of_lt_of_le zb Sq.size
  replace px := (Sq.cell (p := ⟨w1_.heap.size, 0, none⟩) zx).trans px
  replace qx := (Sq.cell (p := ⟨w1_.heap.size, 1, none⟩) zx).trans qx
  replace zx : w1_.heap.size < w11_.heap.size := Nat.lt_of_lt_of_le zx Sq.size
  replace py := (Sq.cell (p := ⟨w2_.heap.size, 0, none⟩) zy).trans py
  replace qy := (Sq.cell (p := ⟨w2_.heap.size, 1, none⟩) zy).trans qy
  replace zy : w2_.heap.size < w11_.heap.size := Nat.lt_of_lt_of_le zy Sq.size
  replace pg := (Sq.cell (p := ⟨w4_.heap.size, 0, none⟩) zg).trans pg
  replace qg := (Sq.cell (p := ⟨w4_.heap.size, 1, none⟩) zg).trans qg
  replace zg : w4_.heap.size < w11_.heap.size := Nat.lt_of_lt_of_le zg Sq.size
  replace ph := (Sq.cell (p := ⟨(w4_.heap.size + 1), 0, none⟩) zh).trans ph
  replace qh := (Sq.cell (p := ⟨(w4_.heap.size + 1), 1, none⟩) zh).trans qh
  replace zh : (w4_.heap.size + 1) < w11_.heap.size := Nat.lt_of_lt_of_le zh Sq.size
  replace HA : Hid (Rd w11_ w11_.heap.size A bs) := HA.out.on Sq
  replace RX : Hid (Rd w11_ w11_.heap.size A1 []) := RX.out.on Sq
  replace RY : Hid (Rd w11_ w11_.heap.size A2 []) := RY.out.on Sq
  replace RG : Hid (Rd w11_ w11_.heap.size none []) := RG.out.on Sq
  replace RH : Hid (Rd w11_ w11_.heap.size none []) := RH.out.on Sq
  replace RB : Hid (RdV w11_ w11_.heap.size A9 (ic lB)) := RB.out.on Sq
  replace HB : Hid (Below w.heap.size w w11_) := HB.out.trans (Sq.mono HB.out.size)
  clear Bq Sq
  go_wp2
  go_ret
  exact ⟨rfl, HB.out⟩
set_option maxHeartbeats 4000000 in
theorem gtells_no_n2_bad (w : World) (n m q r len : Int) (A : Option Addr) (c N : Nat) (bs : List Nat) (p0 : Int) (lX lY : Int) (nX nY nG nU nL nB : Nat) (bX bY : List Nat) (lG lU lL lB : List Bool) (e0 : Int) (r1 r2 s1 s2 x0 : Nat) (g : Int) (hA : Rd w w.heap.size A bs)
    (HX : Hid (∀ V, Calls Try.prog 35 #[.int .u64 n, .int .u64 m] V (Gv V 0 0 [] 3)))
    (HY : Hid (∀ V, Calls Try.prog 36 #[.int .u64 n, .int .u64 m] V (Gv V 0 0 [] 3)))
    (HP : Hid (∀ V, Rd V V.heap.size A bs → Calls Try.prog 37 #[.agg #[.int .i64 len, .slice A N c], .int .i64 p0, .int .u64 m] V (ReadP V 0 0 e0)))
    (HQ : Hid (∀ V, Rd V V.heap.size A bs → Calls Try.prog 38 #[.agg #[.int .i64 len, .slice A N c], .int .i64 p0, .int .u64 m] V (ReadP V 0 0 e0)))
    (HE : Hid (∀ V, Rd V V.heap.size A bs → Calls Try.prog 23 #[.agg #[.int .i64 len, .slice A N c], .int .i64 p0] V fun e w' => e = .returned (.int .i64 e0) ∧ Below V.heap.size V w'))
    (HS1 : Hid (∀ A B c d V, Rd V V.heap.size A [] → Rd V V.heap.size B [] → Calls Try.prog 28 #[.agg #[.int .i64 0, .slice A 0 c], .agg #[.int .i64 0, .slice B 0 d]] V fun e w' => e = .returned (.bool true) ∧ Below V.heap.size V w'))
    (HS2 : Hid (∀ A B c d V, Rd V V.heap.size A [] → Rd V V.heap.size B [] → Calls Try.prog 28 #[.agg #[.int .i64 0, .slice A 0 c], .agg #[.int .i64 0, .slice B 0 d]] V fun e w' => e = .returned (.bool true) ∧ Below V.heap.size V w'))
     (hm : 1 ≤ m) (hm2 : m ≤ 1099511627776) (hl : m ≤ n) (hn : n ≤ 1099511627776) (h1 : n.tdiv m = q) (h2 : n / m = q) (h3 : n.tmod m = r) (h4 : n % m = r) (h5 : IntKind.u64.wrap q = q) (h6 : IntKind.u64.wrap r = r) (hq : 8128 ≤ q) (h0 : e0 ≠ 0) :
    Calls Try.prog 8 #[.int .u64 n, .int .u64 m, .agg #[.int .i64 len, .slice A N c], .int .i64 p0] w fun e w' => e = .returned (.bool true) ∧ Below w.heap.size w w' := by
  have HA := Lib.hid hA; clear hA
  have a1 : decide ((1 : Int) ≤ m) = true := by simp; omega
  have a2 : decide (m ≤ 1099511627776) = true := by simp; omega
  have hm0 : ¬ m = 0 := by omega
  have a3 : decide (n < m) = false := by simp; omega
  have a4 : decide (n ≤ 1099511627776) = true := by simp; omega
  have a5 : decide (q < 8128) = false := by simp; omega
  have t2 : (e0 == 0) = false := by simpa using h0
  clear h0
  go_enter Try.func8, Try.ntmps8
  go_wp2_with fail
  refine (HX.out _).mono ?_
  rintro e w1_ ⟨A1, c1, rfl, Rq, Bq⟩
  rw [World.size_alloc] at Bq
  have Sq : Below w.heap.size w w1_ := (one_below w _).trans (Bq.mono (by omega))
  have zb : w.heap.size < w1_.heap.size := by have := Bq.size; rw [World.size_alloc] at this; omega
  obtain ⟨pb, qb⟩ := box_at Bq
  replace HA : Hid (Rd w1_ w1_.heap.size A bs) := HA.out.on Sq
  have HB : Hid (Below w.heap.size w w1_) := Sq
  clear Bq Sq
  have RX := Lib.hid Rq; clear Rq
  go_wp2_with fail
  refine (HY.out _).mono ?_
  rintro e w2_ ⟨A2, c2, rfl, Rq, Bq⟩
  rw [World.size_alloc] at Bq
  have Sq : Below w1_.heap.size w1_ w2_ := (one_below w1_ _).trans (Bq.mono (by omega))
  have zx : w1_.heap.size < w2_.heap.size := by have := Bq.size; rw [World.size_alloc] at this; omega
  obtain ⟨px, qx⟩ := box_at Bq
  replace pb := (Sq.cell (p := ⟨w.heap.size, 0, none⟩) zb).trans pb
  replace qb := (Sq.cell (p := ⟨w.heap.size, 1, none⟩) zb).trans qb
  replace zb : w.heap.size < w2_.heap.size := Nat.lt_of_lt_of_le zb Sq.size
  replace HA : Hid (Rd w2_ w2_.heap.size A bs) := HA.out.on Sq
  replace RX : Hid (Rd w2_ w2_.heap.size A1 []) := RX.out.on Sq
  replace HB : Hid (Below w.heap.size w w2_) := HB.out.trans (Sq.mono HB.out.size)
  clear Bq Sq
  have RY := Lib.hid Rq; clear Rq
  go_wp2_with fail
  refine (HP.out _ (HA.out.on (one_below w2_ _))).mono ?_
  rintro e w3_ ⟨rfl, Bq⟩
  rw [World.size_alloc] at Bq
  have Sq : Below w2_.heap.size w2_ w3_ := (one_below w2_ _).trans (Bq.mono (by omega))
  have zy : w2_.heap.size < w3_.heap.size := by have := Bq.size; rw [World.size_alloc] at this; omega
  obtain ⟨py, qy⟩ := box_at Bq
  replace pb := (Sq.cell (p := ⟨w.heap.size, 0, none⟩) zb).trans pb
  replace qb := (Sq.cell (p := ⟨w.heap.size, 1, none⟩) zb).trans qb
  replace zb : w.heap.size < w3_.heap.size := Nat.lt_of_lt_of_le zb Sq.size
  replace px := (Sq.cell (p := ⟨w1_.heap.size, 0, none⟩) zx).trans px
  replace qx := (Sq.cell (p := ⟨w1_.heap.size, 1, none⟩) zx).trans qx
  replace zx : w1_.heap.size < w3_.heap.size := Nat.lt_of_lt_of_le zx Sq.size
  replace HA : Hid (Rd w3_ w3_.heap.size A bs) := HA.out.on Sq
  replace RX : Hid (Rd w3_ w3_.heap.size A1 []) := RX.out.on Sq
  replace RY : Hid (Rd w3_ w3_.heap.size A2 []) := RY.out.on Sq
  replace HB : Hid (Below w.heap.size w w3_) := HB.out.trans (Sq.mono HB.out.size)
  clear Bq Sq
  go_wp2_with fail
  refine (HQ.out _ HA.out).mono ?_
  rintro e w4_ ⟨rfl, Bq⟩
  have Sq : Below w3_.heap.size w3_ w4_ := Bq
  replace pb := (Sq.cell (p := ⟨w.heap.size, 0, none⟩) zb).trans pb
  replace qb := (Sq.cell (p := ⟨w.heap.size, 1, none⟩) zb).trans qb
  replace zb : w.heap.size < w4_.heap.size := Nat.lt_of_lt_of_le zb Sq.size
  replace px := (Sq.cell (p := ⟨w1_.heap.size, 0, none⟩) zx).trans px
  replace qx := (Sq.cell (p := ⟨w1_.heap.size, 1, none⟩) zx).trans qx
  replace zx : w1_.heap.size < w4_.heap.size := Nat.lt_of_lt_of_le zx Sq.size
  replace py := (Sq.cell (p := ⟨w2_.heap.size, 0, none⟩) zy).trans py
  replace qy := (Sq.cell (p := ⟨w2_.heap.size, 1, none⟩) zy).trans qy
  replace zy : w2_.heap.size < w4_.heap.size := Nat.lt_of_lt_of_le zy Sq.size
  replace HA : Hid (Rd w4_ w4_.heap.size A bs) := HA.out.on Sq
  replace RX : Hid (Rd w4_ w4_.heap.size A1 []) := RX.out.on Sq
  replace RY : Hid (Rd w4_ w4_.heap.size A2 []) := RY.out.on Sq
  replace HB : Hid (Below w.heap.size w w4_) := HB.out.trans (Sq.mono HB.out.size)
  clear Bq Sq
  go_wp2_with fail
  obtain ⟨w10, hw, T⟩ := b2_zero w4_
  rw [hw]
  clear hw
  have Sq := T.below
  replace pb := (Sq.cell (p := ⟨w.heap.size, 0, none⟩) zb).trans pb
  replace qb := (Sq.cell (p := ⟨w.heap.size, 1, none⟩) zb).trans qb
  replace zb : w.heap.size < w10.heap.size := Nat.lt_of_lt_of_le zb Sq.size
  replace px := (Sq.cell (p := ⟨w1_.heap.size, 0, none⟩) zx).trans px
  replace qx := (Sq.cell (p := ⟨w1_.heap.size, 1, none⟩) zx).trans qx
  replace zx : w1_.heap.size < w10.heap.size := Nat.lt_of_lt_of_le zx Sq.size
  replace py := (Sq.cell (p := ⟨w2_.heap.size, 0, none⟩) zy).trans py
  replace qy := (Sq.cell (p := ⟨w2_.heap.size, 1, none⟩) zy).trans qy
  replace zy : w2_.heap.size < w10.heap.size := Nat.lt_of_lt_of_le zy Sq.size
  replace HA : Hid (Rd w10 w10.heap.size A bs) := HA.out.on Sq
  replace RX : Hid (Rd w10 w10.heap.size A1 []) := RX.out.on Sq
  replace RY : Hid (Rd w10 w10.heap.size A2 []) := RY.out.on Sq
  replace HB : Hid (Below w.heap.size w w10) := HB.out.trans (Sq.mono HB.out.size)
  clear Sq
  obtain ⟨pg, qg, -, -⟩ := blk_cells T.x
  obtain ⟨ph, qh, -, -⟩ := blk_cells T.y
  have zh : w4_.heap.size + 1 < w10.heap.size := T.size
  have zg : w4_.heap.size < w10.heap.size := by omega
  have RG := Lib.hid T.rx
  have RH := Lib.hid T.ry
  clear T
  refine (HE.out _ HA.out).mono ?_
  rintro e w5_ ⟨rfl, Bq⟩
  have Sq : Below w10.heap.size w10 w5_ := Bq
  replace pb := (Sq.cell (p := ⟨w.heap.size, 0, none⟩) zb).trans pb
  replace qb := (Sq.cell (p := ⟨w.heap.size, 1, none⟩) zb).trans qb
  replace zb : w.heap.size < w5_.heap.size := Nat.lt_of_lt_of_le zb Sq.size
  replace px := (Sq.cell (p := ⟨w1_.heap.size, 0, none⟩) zx).trans px
  replace qx := (Sq.cell (p := ⟨w1_.heap.size, 1, none⟩) zx).trans qx
  replace zx : w1_.heap.size < w5_.heap.size := Nat.lt_of_lt_of_le zx Sq.size
  replace py := (Sq.cell (p := ⟨w2_.heap.size, 0, none⟩) zy).trans py
  replace qy := (Sq.cell (p := ⟨w2_.heap.size, 1, none⟩) zy).trans qy
  replace zy : w2_.heap.size < w5_.heap.size := Nat.lt_of_lt_of_le zy Sq.size
  replace pg := (Sq.cell (p := ⟨w4_.heap.size, 0, none⟩) zg).trans pg
  replace qg := (Sq.cell (p := ⟨w4_.heap.size, 1, none⟩) zg).trans qg
  replace zg : w4_.heap.size < w5_.heap.size := Nat.lt_of_lt_of_le zg Sq.size
  replace ph := (Sq.cell (p := ⟨(w4_.heap.size + 1), 0, none⟩) zh).trans ph
  replace qh := (Sq.cell (p := ⟨(w4_.heap.size + 1), 1, none⟩) zh).trans qh
  replace zh : (w4_.heap.size + 1) < w5_.heap.size := Nat.lt_of_lt_of_le zh Sq.size
  replace HA : Hid (Rd w5_ w5_.heap.size A bs) := HA.out.on Sq
  replace RX : Hid (Rd w5_ w5_.heap.size A1 []) := RX.out.on Sq
  replace RY : Hid (Rd w5_ w5_.heap.size A2 []) := RY.out.on Sq
  replace RG : Hid (Rd w5_ w5_.heap.size none []) := RG.out.on Sq
  replace RH : Hid (Rd w5_ w5_.heap.size none []) := RH.out.on Sq
  replace HB : Hid (Below w.heap.size w w5_) := HB.out.trans (Sq.mono HB.out.size)
  clear Bq Sq
  go_wp2_with fail
  refine (gbegun_true _).mono ?_
  rintro e w6_ ⟨rfl, Bq⟩
  have Sq : Below w5_.heap.size w5_ w6_ := Bq
  replace pb := (Sq.cell (p := ⟨w.heap.size, 0, none⟩) zb).trans pb
  replace qb := (Sq.cell (p := ⟨w.heap.size, 1, none⟩) zb).trans qb
  replace zb : w.heap.size < w6_.heap.size := Nat.lt_of_lt_of_le zb Sq.size
  replace px := (Sq.cell (p := ⟨w1_.heap.size, 0, none⟩) zx).trans px
  replace qx := (Sq.cell (p := ⟨w1_.heap.size, 1, none⟩) zx).trans qx
  replace zx : w1_.heap.size < w6_.heap.size := Nat.lt_of_lt_of_le zx Sq.size
  replace py := (Sq.cell (p := ⟨w2_.heap.size, 0, none⟩) zy).trans py
  replace qy := (Sq.cell (p := ⟨w2_.heap.size, 1, none⟩) zy).trans qy
  replace zy : w2_.heap.size < w6_.heap.size := Nat.lt_of_lt_of_le zy Sq.size
  replace pg := (Sq.cell (p := ⟨w4_.heap.size, 0, none⟩) zg).trans pg
  replace qg := (Sq.cell (p := ⟨w4_.heap.size, 1, none⟩) zg).trans qg
  replace zg : w4_.heap.size < w6_.heap.size := Nat.lt_of_lt_of_le zg Sq.size
  replace ph := (Sq.cell (p := ⟨(w4_.heap.size + 1), 0, none⟩) zh).trans ph
  replace qh := (Sq.cell (p := ⟨(w4_.heap.size + 1), 1, none⟩) zh).trans qh
  replace zh : (w4_.heap.size + 1) < w6_.heap.size := Nat.lt_of_lt_of_le zh Sq.size
  replace HA : Hid (Rd w6_ w6_.heap.size A bs) := HA.out.on Sq
  replace RX : Hid (Rd w6_ w6_.heap.size A1 []) := RX.out.on Sq
  replace RY : Hid (Rd w6_ w6_.heap.size A2 []) := RY.out.on Sq
  replace RG : Hid (Rd w6_ w6_.heap.size none []) := RG.out.on Sq
  replace RH : Hid (Rd w6_ w6_.heap.size none []) := RH.out.on Sq
  replace HB : Hid (Below w.heap.size w w6_) := HB.out.trans (Sq.mono HB.out.size)
  clear Bq Sq
  go_wp2_with fail
  refine (HS1.out A1 none c1 0 _ RX.out RG.out).mono ?_
  rintro e w7_ ⟨rfl, Bq⟩
  have Sq : Below w6_.heap.size w6_ w7_ := Bq
  replace pb := (Sq.cell (p := ⟨w.heap.size, 0, none⟩) zb).trans pb
  replace qb := (Sq.cell (p := ⟨w.heap.size, 1, none⟩) zb).trans qb
  replace zb : w.heap.size < w7_.heap.size := Nat.lt_of_lt_of_le zb Sq.size
  replace px := (Sq.cell (p := ⟨w1_.heap.size, 0, none⟩) zx).trans px
  replace qx := (Sq.cell (p := ⟨w1_.heap.size, 1, none⟩) zx).trans qx
  replace zx : w1_.heap.size < w7_.heap.size := Nat.lt_of_lt_of_le zx Sq.size
  replace py := (Sq.cell (p := ⟨w2_.heap.size, 0, none⟩) zy).trans py
  replace qy := (Sq.cell (p := ⟨w2_.heap.size, 1, none⟩) zy).trans qy
  replace zy : w2_.heap.size < w7_.heap.size := Nat.lt_of_lt_of_le zy Sq.size
  replace pg := (Sq.cell (p := ⟨w4_.heap.size, 0, none⟩) zg).trans pg
  replace qg := (Sq.cell (p := ⟨w4_.heap.size, 1, none⟩) zg).trans qg
  replace zg : w4_.heap.size < w7_.heap.size := Nat.lt_of_lt_of_le zg Sq.size
  replace ph := (Sq.cell (p := ⟨(w4_.heap.size + 1), 0, none⟩) zh).trans ph
  replace qh := (Sq.cell (p := ⟨(w4_.heap.size + 1), 1, none⟩) zh).trans qh
  replace zh : (w4_.heap.size + 1) < w7_.heap.size := Nat.lt_of_lt_of_le zh Sq.size
  replace HA : Hid (Rd w7_ w7_.heap.size A bs) := HA.out.on Sq
  replace RX : Hid (Rd w7_ w7_.heap.size A1 []) := RX.out.on Sq
  replace RY : Hid (Rd w7_ w7_.heap.size A2 []) := RY.out.on Sq
  replace RG : Hid (Rd w7_ w7_.heap.size none []) := RG.out.on Sq
  replace RH : Hid (Rd w7_ w7_.heap.size none []) := RH.out.on Sq
  replace HB : Hid (Below w.heap.size w w7_) := HB.out.trans (Sq.mono HB.out.size)
  clear Bq Sq
  go_wp2_with fail
  refine (HS2.out A2 none c2 0 _ RY.out RH.out).mono ?_
  rintro e w8_ ⟨rfl, Bq⟩
  have Sq : Below w7_.heap.size w7_ w8_ := Bq
  replace pb := (Sq.cell (p := ⟨w.heap.size, 0, none⟩) zb).trans pb
  replace qb := (Sq.cell (p := ⟨w.heap.size, 1, none⟩) zb).trans qb
  replace zb : w.heap.size < w8_.heap.size := Nat.lt_of_lt_of_le zb Sq.size
  replace px := (Sq.cell (p := ⟨w1_.heap.size, 0, none⟩) zx).trans px
  replace qx := (Sq.cell (p := ⟨w1_.heap.size, 1, none⟩) zx).trans qx
  replace zx : w1_.heap.size < w8_.heap.size := Nat.lt_of_lt_of_le zx Sq.size
  replace py := (Sq.cell (p := ⟨w2_.heap.size, 0, none⟩) zy).trans py
  replace qy := (Sq.cell (p := ⟨w2_.heap.size, 1, none⟩) zy).trans qy
  replace zy : w2_.heap.size < w8_.heap.size := Nat.lt_of_lt_of_le zy Sq.size
  replace pg := (Sq.cell (p := ⟨w4_.heap.size, 0, none⟩) zg).trans pg
  replace qg := (Sq.cell (p := ⟨w4_.heap.size, 1, none⟩) zg).trans qg
  replace zg : w4_.heap.size < w8_.heap.size := Nat.lt_of_lt_of_le zg Sq.size
  replace ph := (Sq.cell (p := ⟨(w4_.heap.size + 1), 0, none⟩) zh).trans ph
  replace qh := (Sq.cell (p := ⟨(w4_.heap.size + 1), 1, none⟩) zh).trans qh
  replace zh : (w4_.heap.size + 1) < w8_.heap.size := Nat.lt_of_lt_of_le zh Sq.size
  replace HA : Hid (Rd w8_ w8_.heap.size A bs) := HA.out.on Sq
  replace RX : Hid (Rd w8_ w8_.heap.size A1 []) := RX.out.on Sq
  replace RY : Hid (Rd w8_ w8_.heap.size A2 []) := RY.out.on Sq
  replace RG : Hid (Rd w8_ w8_.heap.size none []) := RG.out.on Sq
  replace RH : Hid (Rd w8_ w8_.heap.size none []) := RH.out.on Sq
  replace HB : Hid (Below w.heap.size w w8_) := HB.out.trans (Sq.mono HB.out.size)
  clear Bq Sq
  go_wp2
  go_ret
  exact ⟨rfl, HB.out⟩
set_option maxHeartbeats 4000000 in
theorem gtells_no_n2_hit (w : World) (n m q r len : Int) (A : Option Addr) (c N : Nat) (bs : List Nat) (p0 : Int) (lX lY : Int) (nX nY nG nU nL nB : Nat) (bX bY : List Nat) (lG lU lL lB : List Bool) (e0 : Int) (r1 r2 s1 s2 x0 : Nat) (g : Int) (hA : Rd w w.heap.size A bs)
    (HX : Hid (∀ V, Calls Try.prog 35 #[.int .u64 n, .int .u64 m] V (Gv V 0 0 [] 3)))
    (HY : Hid (∀ V, Calls Try.prog 36 #[.int .u64 n, .int .u64 m] V (Gv V 0 0 [] 3)))
    (HP : Hid (∀ V, Rd V V.heap.size A bs → Calls Try.prog 37 #[.agg #[.int .i64 len, .slice A N c], .int .i64 p0, .int .u64 m] V (ReadP V r1 r2 0)))
    (HQ : Hid (∀ V, Rd V V.heap.size A bs → Calls Try.prog 38 #[.agg #[.int .i64 len, .slice A N c], .int .i64 p0, .int .u64 m] V (ReadP V s1 s2 g)))
    (HE : Hid (∀ V, Rd V V.heap.size A bs → Calls Try.prog 23 #[.agg #[.int .i64 len, .slice A N c], .int .i64 p0] V fun e w' => e = .returned (.int .i64 0) ∧ Below V.heap.size V w'))
    (HS1 : Hid (∀ A B c d V, Rd V V.heap.size A [] → Rd V V.heap.size B [] → Calls Try.prog 28 #[.agg #[.int .i64 0, .slice A 0 c], .agg #[.int .i64 0, .slice B 0 d]] V fun e w' => e = .returned (.bool true) ∧ Below V.heap.size V w'))
    (HS2 : Hid (∀ A B c d V, Rd V V.heap.size A [] → Rd V V.heap.size B [] → Calls Try.prog 28 #[.agg #[.int .i64 0, .slice A 0 c], .agg #[.int .i64 0, .slice B 0 d]] V fun e w' => e = .returned (.bool true) ∧ Below V.heap.size V w'))
    (HBL : Hid (∀ V, Rd V V.heap.size A bs → Calls Try.prog 24 #[.agg #[.int .i64 len, .slice A N c]] V fun e w' => ∃ A c, e = .returned (.slice A nB c) ∧ RdV w' w'.heap.size A (ic lB) ∧ Below V.heap.size V w'))
    (HLR : Hid (∀ A c V, RdV V V.heap.size A (ic lB) → Calls Try.prog 41 #[.slice A nB c, .int .i64 p0, .int .u64 m] V fun e w' => e = .returned (.tuple #[.int .u64 (r1 : Int), .int .i64 (r2 : Int)]) ∧ Below V.heap.size V w'))
    (HGR : Hid (∀ A c V, RdV V V.heap.size A (ic lB) → Calls Try.prog 42 #[.slice A nB c, .int .i64 p0, .int .u64 m] V (ReadP V s1 s2 g)))
     (hm : 1 ≤ m) (hm2 : m ≤ 1099511627776) (hl : m ≤ n) (hn : n ≤ 1099511627776) (h1 : n.tdiv m = q) (h2 : n / m = q) (h3 : n.tmod m = r) (h4 : n % m = r) (h5 : IntKind.u64.wrap q = q) (h6 : IntKind.u64.wrap r = r) (hq : 8128 ≤ q) :
    Calls Try.prog 8 #[.int .u64 n, .int .u64 m, .agg #[.int .i64 len, .slice A N c], .int .i64 p0] w fun e w' => e = .returned (.bool true) ∧ Below w.heap.size w w' := by
  have HA := Lib.hid hA; clear hA
  have a1 : decide ((1 : Int) ≤ m) = true := by simp; omega
  have a2 : decide (m ≤ 1099511627776) = true := by simp; omega
  have hm0 : ¬ m = 0 := by omega
  have a3 : decide (n < m) = false := by simp; omega
  have a4 : decide (n ≤ 1099511627776) = true := by simp; omega
  have a5 : decide (q < 8128) = false := by simp; omega
  have t5 : decide ((r2 : Int) < 0) = false := by simp
  go_enter Try.func8, Try.ntmps8
  go_wp2_with fail
  refine (HX.out _).mono ?_
  rintro e w1_ ⟨A1, c1, rfl, Rq, Bq⟩
  rw [World.size_alloc] at Bq
  have Sq : Below w.heap.size w w1_ := (one_below w _).trans (Bq.mono (by omega))
  have zb : w.heap.size < w1_.heap.size := by have := Bq.size; rw [World.size_alloc] at this; omega
  obtain ⟨pb, qb⟩ := box_at Bq
  replace HA : Hid (Rd w1_ w1_.heap.size A bs) := HA.out.on Sq
  have HB : Hid (Below w.heap.size w w1_) := Sq
  clear Bq Sq
  have RX := Lib.hid Rq; clear Rq
  go_wp2_with fail
  refine (HY.out _).mono ?_
  rintro e w2_ ⟨A2, c2, rfl, Rq, Bq⟩
  rw [World.size_alloc] at Bq
  have Sq : Below w1_.heap.size w1_ w2_ := (one_below w1_ _).trans (Bq.mono (by omega))
  have zx : w1_.heap.size < w2_.heap.size := by have := Bq.size; rw [World.size_alloc] at this; omega
  obtain ⟨px, qx⟩ := box_at Bq
  replace pb := (Sq.cell (p := ⟨w.heap.size, 0, none⟩) zb).trans pb
  replace qb := (Sq.cell (p := ⟨w.heap.size, 1, none⟩) zb).trans qb
  replace zb : w.heap.size < w2_.heap.size := Nat.lt_of_lt_of_le zb Sq.size
  replace HA : Hid (Rd w2_ w2_.heap.size A bs) := HA.out.on Sq
  replace RX : Hid (Rd w2_ w2_.heap.size A1 []) := RX.out.on Sq
  replace HB : Hid (Below w.heap.size w w2_) := HB.out.trans (Sq.mono HB.out.size)
  clear Bq Sq
  have RY := Lib.hid Rq; clear Rq
  go_wp2_with fail
  refine (HP.out _ (HA.out.on (one_below w2_ _))).mono ?_
  rintro e w3_ ⟨rfl, Bq⟩
  rw [World.size_alloc] at Bq
  have Sq : Below w2_.heap.size w2_ w3_ := (one_below w2_ _).trans (Bq.mono (by omega))
  have zy : w2_.heap.size < w3_.heap.size := by have := Bq.size; rw [World.size_alloc] at this; omega
  obtain ⟨py, qy⟩ := box_at Bq
  replace pb := (Sq.cell (p := ⟨w.heap.size, 0, none⟩) zb).trans pb
  replace qb := (Sq.cell (p := ⟨w.heap.size, 1, none⟩) zb).trans qb
  replace zb : w.heap.size < w3_.heap.size := Nat.lt_of_lt_of_le zb Sq.size
  replace px := (Sq.cell (p := ⟨w1_.heap.size, 0, none⟩) zx).trans px
  replace qx := (Sq.cell (p := ⟨w1_.heap.size, 1, none⟩) zx).trans qx
  replace zx : w1_.heap.size < w3_.heap.size := Nat.lt_of_lt_of_le zx Sq.size
  replace HA : Hid (Rd w3_ w3_.heap.size A bs) := HA.out.on Sq
  replace RX : Hid (Rd w3_ w3_.heap.size A1 []) := RX.out.on Sq
  replace RY : Hid (Rd w3_ w3_.heap.size A2 []) := RY.out.on Sq
  replace HB : Hid (Below w.heap.size w w3_) := HB.out.trans (Sq.mono HB.out.size)
  clear Bq Sq
  go_wp2_with fail
  refine (HQ.out _ HA.out).mono ?_
  rintro e w4_ ⟨rfl, Bq⟩
  have Sq : Below w3_.heap.size w3_ w4_ := Bq
  replace pb := (Sq.cell (p := ⟨w.heap.size, 0, none⟩) zb).trans pb
  replace qb := (Sq.cell (p := ⟨w.heap.size, 1, none⟩) zb).trans qb
  replace zb : w.heap.size < w4_.heap.size := Nat.lt_of_lt_of_le zb Sq.size
  replace px := (Sq.cell (p := ⟨w1_.heap.size, 0, none⟩) zx).trans px
  replace qx := (Sq.cell (p := ⟨w1_.heap.size, 1, none⟩) zx).trans qx
  replace zx : w1_.heap.size < w4_.heap.size := Nat.lt_of_lt_of_le zx Sq.size
  replace py := (Sq.cell (p := ⟨w2_.heap.size, 0, none⟩) zy).trans py
  replace qy := (Sq.cell (p := ⟨w2_.heap.size, 1, none⟩) zy).trans qy
  replace zy : w2_.heap.size < w4_.heap.size := Nat.lt_of_lt_of_le zy Sq.size
  replace HA : Hid (Rd w4_ w4_.heap.size A bs) := HA.out.on Sq
  replace RX : Hid (Rd w4_ w4_.heap.size A1 []) := RX.out.on Sq
  replace RY : Hid (Rd w4_ w4_.heap.size A2 []) := RY.out.on Sq
  replace HB : Hid (Below w.heap.size w w4_) := HB.out.trans (Sq.mono HB.out.size)
  clear Bq Sq
  go_wp2_with fail
  obtain ⟨w10, hw, T⟩ := b2_zero w4_
  rw [hw]
  clear hw
  have Sq := T.below
  replace pb := (Sq.cell (p := ⟨w.heap.size, 0, none⟩) zb).trans pb
  replace qb := (Sq.cell (p := ⟨w.heap.size, 1, none⟩) zb).trans qb
  replace zb : w.heap.size < w10.heap.size := Nat.lt_of_lt_of_le zb Sq.size
  replace px := (Sq.cell (p := ⟨w1_.heap.size, 0, none⟩) zx).trans px
  replace qx := (Sq.cell (p := ⟨w1_.heap.size, 1, none⟩) zx).trans qx
  replace zx : w1_.heap.size < w10.heap.size := Nat.lt_of_lt_of_le zx Sq.size
  replace py := (Sq.cell (p := ⟨w2_.heap.size, 0, none⟩) zy).trans py
  replace qy := (Sq.cell (p := ⟨w2_.heap.size, 1, none⟩) zy).trans qy
  replace zy : w2_.heap.size < w10.heap.size := Nat.lt_of_lt_of_le zy Sq.size
  replace HA : Hid (Rd w10 w10.heap.size A bs) := HA.out.on Sq
  replace RX : Hid (Rd w10 w10.heap.size A1 []) := RX.out.on Sq
  replace RY : Hid (Rd w10 w10.heap.size A2 []) := RY.out.on Sq
  replace HB : Hid (Below w.heap.size w w10) := HB.out.trans (Sq.mono HB.out.size)
  clear Sq
  obtain ⟨pg, qg, -, -⟩ := blk_cells T.x
  obtain ⟨ph, qh, -, -⟩ := blk_cells T.y
  have zh : w4_.heap.size + 1 < w10.heap.size := T.size
  have zg : w4_.heap.size < w10.heap.size := by omega
  have RG := Lib.hid T.rx
  have RH := Lib.hid T.ry
  clear T
  refine (HE.out _ HA.out).mono ?_
  rintro e w5_ ⟨rfl, Bq⟩
  have Sq : Below w10.heap.size w10 w5_ := Bq
  replace pb := (Sq.cell (p := ⟨w.heap.size, 0, none⟩) zb).trans pb
  replace qb := (Sq.cell (p := ⟨w.heap.size, 1, none⟩) zb).trans qb
  replace zb : w.heap.size < w5_.heap.size := Nat.lt_of_lt_of_le zb Sq.size
  replace px := (Sq.cell (p := ⟨w1_.heap.size, 0, none⟩) zx).trans px
  replace qx := (Sq.cell (p := ⟨w1_.heap.size, 1, none⟩) zx).trans qx
  replace zx : w1_.heap.size < w5_.heap.size := Nat.lt_of_lt_of_le zx Sq.size
  replace py := (Sq.cell (p := ⟨w2_.heap.size, 0, none⟩) zy).trans py
  replace qy := (Sq.cell (p := ⟨w2_.heap.size, 1, none⟩) zy).trans qy
  replace zy : w2_.heap.size < w5_.heap.size := Nat.lt_of_lt_of_le zy Sq.size
  replace pg := (Sq.cell (p := ⟨w4_.heap.size, 0, none⟩) zg).trans pg
  replace qg := (Sq.cell (p := ⟨w4_.heap.size, 1, none⟩) zg).trans qg
  replace zg : w4_.heap.size < w5_.heap.size := Nat.lt_of_lt_of_le zg Sq.size
  replace ph := (Sq.cell (p := ⟨(w4_.heap.size + 1), 0, none⟩) zh).trans ph
  replace qh := (Sq.cell (p := ⟨(w4_.heap.size + 1), 1, none⟩) zh).trans qh
  replace zh : (w4_.heap.size + 1) < w5_.heap.size := Nat.lt_of_lt_of_le zh Sq.size
  replace HA : Hid (Rd w5_ w5_.heap.size A bs) := HA.out.on Sq
  replace RX : Hid (Rd w5_ w5_.heap.size A1 []) := RX.out.on Sq
  replace RY : Hid (Rd w5_ w5_.heap.size A2 []) := RY.out.on Sq
  replace RG : Hid (Rd w5_ w5_.heap.size none []) := RG.out.on Sq
  replace RH : Hid (Rd w5_ w5_.heap.size none []) := RH.out.on Sq
  replace HB : Hid (Below w.heap.size w w5_) := HB.out.trans (Sq.mono HB.out.size)
  clear Bq Sq
  go_wp2_with fail
  refine (HBL.out _ HA.out).mono ?_
  rintro e w6_ ⟨A9, c9, rfl, Rq, Bq⟩
  have Sq : Below w5_.heap.size w5_ w6_ := Bq
  replace pb := (Sq.cell (p := ⟨w.heap.size, 0, none⟩) zb).trans pb
  replace qb := (Sq.cell (p := ⟨w.heap.size, 1, none⟩) zb).trans qb
  replace zb : w.heap.size < w6_.heap.size := Nat.lt_of_lt_of_le zb Sq.size
  replace px := (Sq.cell (p := ⟨w1_.heap.size, 0, none⟩) zx).trans px
  replace qx := (Sq.cell (p := ⟨w1_.heap.size, 1, none⟩) zx).trans qx
  replace zx : w1_.heap.size < w6_.heap.size := Nat.lt_of_lt_of_le zx Sq.size
  replace py := (Sq.cell (p := ⟨w2_.heap.size, 0, none⟩) zy).trans py
  replace qy := (Sq.cell (p := ⟨w2_.heap.size, 1, none⟩) zy).trans qy
  replace zy : w2_.heap.size < w6_.heap.size := Nat.lt_of_lt_of_le zy Sq.size
  replace pg := (Sq.cell (p := ⟨w4_.heap.size, 0, none⟩) zg).trans pg
  replace qg := (Sq.cell (p := ⟨w4_.heap.size, 1, none⟩) zg).trans qg
  replace zg : w4_.heap.size < w6_.heap.size := Nat.lt_of_lt_of_le zg Sq.size
  replace ph := (Sq.cell (p := ⟨(w4_.heap.size + 1), 0, none⟩) zh).trans ph
  replace qh := (Sq.cell (p := ⟨(w4_.heap.size + 1), 1, none⟩) zh).trans qh
  replace zh : (w4_.heap.size + 1) < w6_.heap.size := Nat.lt_of_lt_of_le zh Sq.size
  replace HA : Hid (Rd w6_ w6_.heap.size A bs) := HA.out.on Sq
  replace RX : Hid (Rd w6_ w6_.heap.size A1 []) := RX.out.on Sq
  replace RY : Hid (Rd w6_ w6_.heap.size A2 []) := RY.out.on Sq
  replace RG : Hid (Rd w6_ w6_.heap.size none []) := RG.out.on Sq
  replace RH : Hid (Rd w6_ w6_.heap.size none []) := RH.out.on Sq
  replace HB : Hid (Below w.heap.size w w6_) := HB.out.trans (Sq.mono HB.out.size)
  clear Bq Sq
  have RB := Lib.hid Rq; clear Rq
  go_wp2_with fail
  refine (HLR.out A9 c9 _ RB.out).mono ?_
  rintro e w7_ ⟨rfl, Bq⟩
  have Sq : Below w6_.heap.size w6_ w7_ := Bq
  replace pb := (Sq.cell (p := ⟨w.heap.size, 0, none⟩) zb).trans pb
  replace qb := (Sq.cell (p := ⟨w.heap.size, 1, none⟩) zb).trans qb
  replace zb : w.heap.size < w7_.heap.size := Nat.lt_of_lt_of_le zb Sq.size
  replace px := (Sq.cell (p := ⟨w1_.heap.size, 0, none⟩) zx).trans px
  replace qx := (Sq.cell (p := ⟨w1_.heap.size, 1, none⟩) zx).trans qx
  replace zx : w1_.heap.size < w7_.heap.size := Nat.lt_of_lt_of_le zx Sq.size
  replace py := (Sq.cell (p := ⟨w2_.heap.size, 0, none⟩) zy).trans py
  replace qy := (Sq.cell (p := ⟨w2_.heap.size, 1, none⟩) zy).trans qy
  replace zy : w2_.heap.size < w7_.heap.size := Nat.lt_of_lt_of_le zy Sq.size
  replace pg := (Sq.cell (p := ⟨w4_.heap.size, 0, none⟩) zg).trans pg
  replace qg := (Sq.cell (p := ⟨w4_.heap.size, 1, none⟩) zg).trans qg
  replace zg : w4_.heap.size < w7_.heap.size := Nat.lt_of_lt_of_le zg Sq.size
  replace ph := (Sq.cell (p := ⟨(w4_.heap.size + 1), 0, none⟩) zh).trans ph
  replace qh := (Sq.cell (p := ⟨(w4_.heap.size + 1), 1, none⟩) zh).trans qh
  replace zh : (w4_.heap.size + 1) < w7_.heap.size := Nat.lt_of_lt_of_le zh Sq.size
  replace HA : Hid (Rd w7_ w7_.heap.size A bs) := HA.out.on Sq
  replace RX : Hid (Rd w7_ w7_.heap.size A1 []) := RX.out.on Sq
  replace RY : Hid (Rd w7_ w7_.heap.size A2 []) := RY.out.on Sq
  replace RG : Hid (Rd w7_ w7_.heap.size none []) := RG.out.on Sq
  replace RH : Hid (Rd w7_ w7_.heap.size none []) := RH.out.on Sq
  replace RB : Hid (RdV w7_ w7_.heap.size A9 (ic lB)) := RB.out.on Sq
  replace HB : Hid (Below w.heap.size w w7_) := HB.out.trans (Sq.mono HB.out.size)
  clear Bq Sq
  go_wp2_with fail
  refine (HGR.out A9 c9 _ RB.out).mono ?_
  rintro e w8_ ⟨rfl, Bq⟩
  have Sq : Below w7_.heap.size w7_ w8_ := Bq
  replace pb := (Sq.cell (p := ⟨w.heap.size, 0, none⟩) zb).trans pb
  replace qb := (Sq.cell (p := ⟨w.heap.size, 1, none⟩) zb).trans qb
  replace zb : w.heap.size < w8_.heap.size := Nat.lt_of_lt_of_le zb Sq.size
  replace px := (Sq.cell (p := ⟨w1_.heap.size, 0, none⟩) zx).trans px
  replace qx := (Sq.cell (p := ⟨w1_.heap.size, 1, none⟩) zx).trans qx
  replace zx : w1_.heap.size < w8_.heap.size := Nat.lt_of_lt_of_le zx Sq.size
  replace py := (Sq.cell (p := ⟨w2_.heap.size, 0, none⟩) zy).trans py
  replace qy := (Sq.cell (p := ⟨w2_.heap.size, 1, none⟩) zy).trans qy
  replace zy : w2_.heap.size < w8_.heap.size := Nat.lt_of_lt_of_le zy Sq.size
  replace pg := (Sq.cell (p := ⟨w4_.heap.size, 0, none⟩) zg).trans pg
  replace qg := (Sq.cell (p := ⟨w4_.heap.size, 1, none⟩) zg).trans qg
  replace zg : w4_.heap.size < w8_.heap.size := Nat.lt_of_lt_of_le zg Sq.size
  replace ph := (Sq.cell (p := ⟨(w4_.heap.size + 1), 0, none⟩) zh).trans ph
  replace qh := (Sq.cell (p := ⟨(w4_.heap.size + 1), 1, none⟩) zh).trans qh
  replace zh : (w4_.heap.size + 1) < w8_.heap.size := Nat.lt_of_lt_of_le zh Sq.size
  replace HA : Hid (Rd w8_ w8_.heap.size A bs) := HA.out.on Sq
  replace RX : Hid (Rd w8_ w8_.heap.size A1 []) := RX.out.on Sq
  replace RY : Hid (Rd w8_ w8_.heap.size A2 []) := RY.out.on Sq
  replace RG : Hid (Rd w8_ w8_.heap.size none []) := RG.out.on Sq
  replace RH : Hid (Rd w8_ w8_.heap.size none []) := RH.out.on Sq
  replace RB : Hid (RdV w8_ w8_.heap.size A9 (ic lB)) := RB.out.on Sq
  replace HB : Hid (Below w.heap.size w w8_) := HB.out.trans (Sq.mono HB.out.size)
  clear Bq Sq
  go_wp2_with fail
  refine (gbegun_true _).mono ?_
  rintro e w9_ ⟨rfl, Bq⟩
  have Sq : Below w8_.heap.size w8_ w9_ := Bq
  replace pb := (Sq.cell (p := ⟨w.heap.size, 0, none⟩) zb).trans pb
  replace qb := (Sq.cell (p := ⟨w.heap.size, 1, none⟩) zb).trans qb
  replace zb : w.heap.size < w9_.heap.size := Nat.lt_of_lt_of_le zb Sq.size
  replace px := (Sq.cell (p := ⟨w1_.heap.size, 0, none⟩) zx).trans px
  replace qx := (Sq.cell (p := ⟨w1_.heap.size, 1, none⟩) zx).trans qx
  replace zx : w1_.heap.size < w9_.heap.size := Nat.lt_of_lt_of_le zx Sq.size
  replace py := (Sq.cell (p := ⟨w2_.heap.size, 0, none⟩) zy).trans py
  replace qy := (Sq.cell (p := ⟨w2_.heap.size, 1, none⟩) zy).trans qy
  replace zy : w2_.heap.size < w9_.heap.size := Nat.lt_of_lt_of_le zy Sq.size
  replace pg := (Sq.cell (p := ⟨w4_.heap.size, 0, none⟩) zg).trans pg
  replace qg := (Sq.cell (p := ⟨w4_.heap.size, 1, none⟩) zg).trans qg
  replace zg : w4_.heap.size < w9_.heap.size := Nat.lt_of_lt_of_le zg Sq.size
  replace ph := (Sq.cell (p := ⟨(w4_.heap.size + 1), 0, none⟩) zh).trans ph
  replace qh := (Sq.cell (p := ⟨(w4_.heap.size + 1), 1, none⟩) zh).trans qh
  replace zh : (w4_.heap.size + 1) < w9_.heap.size := Nat.lt_of_lt_of_le zh Sq.size
  replace HA : Hid (Rd w9_ w9_.heap.size A bs) := HA.out.on Sq
  replace RX : Hid (Rd w9_ w9_.heap.size A1 []) := RX.out.on Sq
  replace RY : Hid (Rd w9_ w9_.heap.size A2 []) := RY.out.on Sq
  replace RG : Hid (Rd w9_ w9_.heap.size none []) := RG.out.on Sq
  replace RH : Hid (Rd w9_ w9_.heap.size none []) := RH.out.on Sq
  replace RB : Hid (RdV w9_ w9_.heap.size A9 (ic lB)) := RB.out.on Sq
  replace HB : Hid (Below w.heap.size w w9_) := HB.out.trans (Sq.mono HB.out.size)
  clear Bq Sq
  go_wp2_with fail
  refine (HS1.out A1 none c1 0 _ RX.out RG.out).mono ?_
  rintro e w10_ ⟨rfl, Bq⟩
  have Sq : Below w9_.heap.size w9_ w10_ := Bq
  replace pb := (Sq.cell (p := ⟨w.heap.size, 0, none⟩) zb).trans pb
  replace qb := (Sq.cell (p := ⟨w.heap.size, 1, none⟩) zb).trans qb
  replace zb : w.heap.size < w10_.heap.size := Nat.lt_of_lt_of_le zb Sq.size
  replace px := (Sq.cell (p := ⟨w1_.heap.size, 0, none⟩) zx).trans px
  replace qx := (Sq.cell (p := ⟨w1_.heap.size, 1, none⟩) zx).trans qx
  replace zx : w1_.heap.size < w10_.heap.size := Nat.lt_of_lt_of_le zx Sq.size
  replace py := (Sq.cell (p := ⟨w2_.heap.size, 0, none⟩) zy).trans py
  replace qy := (Sq.cell (p := ⟨w2_.heap.size, 1, none⟩) zy).trans qy
  replace zy : w2_.heap.size < w10_.heap.size := Nat.lt_of_lt_of_le zy Sq.size
  replace pg := (Sq.cell (p := ⟨w4_.heap.size, 0, none⟩) zg).trans pg
  replace qg := (Sq.cell (p := ⟨w4_.heap.size, 1, none⟩) zg).trans qg
  replace zg : w4_.heap.size < w10_.heap.size := Nat.lt_of_lt_of_le zg Sq.size
  replace ph := (Sq.cell (p := ⟨(w4_.heap.size + 1), 0, none⟩) zh).trans ph
  replace qh := (Sq.cell (p := ⟨(w4_.heap.size + 1), 1, none⟩) zh).trans qh
  replace zh : (w4_.heap.size + 1) < w10_.heap.size := Nat.lt_of_lt_of_le zh Sq.size
  replace HA : Hid (Rd w10_ w10_.heap.size A bs) := HA.out.on Sq
  replace RX : Hid (Rd w10_ w10_.heap.size A1 []) := RX.out.on Sq
  replace RY : Hid (Rd w10_ w10_.heap.size A2 []) := RY.out.on Sq
  replace RG : Hid (Rd w10_ w10_.heap.size none []) := RG.out.on Sq
  replace RH : Hid (Rd w10_ w10_.heap.size none []) := RH.out.on Sq
  replace RB : Hid (RdV w10_ w10_.heap.size A9 (ic lB)) := RB.out.on Sq
  replace HB : Hid (Below w.heap.size w w10_) := HB.out.trans (Sq.mono HB.out.size)
  clear Bq Sq
  go_wp2_with fail
  refine (HS2.out A2 none c2 0 _ RY.out RH.out).mono ?_
  rintro e w11_ ⟨rfl, Bq⟩
  have Sq : Below w10_.heap.size w10_ w11_ := Bq
  replace pb := (Sq.cell (p := ⟨w.heap.size, 0, none⟩) zb).trans pb
  replace qb := (Sq.cell (p := ⟨w.heap.size, 1, none⟩) zb).trans qb
  replace zb : w.heap.size < w11_.heap.size := Nat.lt_of_lt_of_le zb Sq.size
  replace px := (Sq.cell (p := ⟨w1_.heap.size, 0, none⟩) zx).trans px
  replace qx := (Sq.cell (p := ⟨w1_.heap.size, 1, none⟩) zx).trans qx
  replace zx : w1_.heap.size < w11_.heap.size := Nat.lt_of_lt_of_le zx Sq.size
  replace py := (Sq.cell (p := ⟨w2_.heap.size, 0, none⟩) zy).trans py
  replace qy := (Sq.cell (p := ⟨w2_.heap.size, 1, none⟩) zy).trans qy
  replace zy : w2_.heap.size < w11_.heap.size := Nat.lt_of_lt_of_le zy Sq.size
  replace pg := (Sq.cell (p := ⟨w4_.heap.size, 0, none⟩) zg).trans pg
  replace qg := (Sq.cell (p := ⟨w4_.heap.size, 1, none⟩) zg).trans qg
  replace zg : w4_.heap.size < w11_.heap.size := Nat.lt_of_lt_of_le zg Sq.size
  replace ph := (Sq.cell (p := ⟨(w4_.heap.size + 1), 0, none⟩) zh).trans ph
  replace qh := (Sq.cell (p := ⟨(w4_.heap.size + 1), 1, none⟩) zh).trans qh
  replace zh : (w4_.heap.size + 1) < w11_.heap.size := Nat.lt_of_lt_of_le zh Sq.size
  replace HA : Hid (Rd w11_ w11_.heap.size A bs) := HA.out.on Sq
  replace RX : Hid (Rd w11_ w11_.heap.size A1 []) := RX.out.on Sq
  replace RY : Hid (Rd w11_ w11_.heap.size A2 []) := RY.out.on Sq
  replace RG : Hid (Rd w11_ w11_.heap.size none []) := RG.out.on Sq
  replace RH : Hid (Rd w11_ w11_.heap.size none []) := RH.out.on Sq
  replace RB : Hid (RdV w11_ w11_.heap.size A9 (ic lB)) := RB.out.on Sq
  replace HB : Hid (Below w.heap.size w w11_) := HB.out.trans (Sq.mono HB.out.size)
  clear Bq Sq
  go_wp2
  go_ret
  exact ⟨rfl, HB.out⟩
set_option maxHeartbeats 4000000 in
theorem gtells_no_n2_short (w : World) (n m q r len : Int) (A : Option Addr) (c N : Nat) (bs : List Nat) (p0 : Int) (lX lY : Int) (nX nY nG nU nL nB : Nat) (bX bY : List Nat) (lG lU lL lB : List Bool) (e0 : Int) (r1 r2 s1 s2 x0 : Nat) (g : Int) (hA : Rd w w.heap.size A bs)
    (HX : Hid (∀ V, Calls Try.prog 35 #[.int .u64 n, .int .u64 m] V (Gv V 0 0 [] 3)))
    (HY : Hid (∀ V, Calls Try.prog 36 #[.int .u64 n, .int .u64 m] V (Gv V 0 0 [] 3)))
    (HP : Hid (∀ V, Rd V V.heap.size A bs → Calls Try.prog 37 #[.agg #[.int .i64 len, .slice A N c], .int .i64 p0, .int .u64 m] V (ReadP V 0 0 7)))
    (HQ : Hid (∀ V, Rd V V.heap.size A bs → Calls Try.prog 38 #[.agg #[.int .i64 len, .slice A N c], .int .i64 p0, .int .u64 m] V (ReadP V s1 s2 g)))
    (HE : Hid (∀ V, Rd V V.heap.size A bs → Calls Try.prog 23 #[.agg #[.int .i64 len, .slice A N c], .int .i64 p0] V fun e w' => e = .returned (.int .i64 0) ∧ Below V.heap.size V w'))
    (HS1 : Hid (∀ A B c d V, Rd V V.heap.size A [] → Rd V V.heap.size B [] → Calls Try.prog 28 #[.agg #[.int .i64 0, .slice A 0 c], .agg #[.int .i64 0, .slice B 0 d]] V fun e w' => e = .returned (.bool true) ∧ Below V.heap.size V w'))
    (HS2 : Hid (∀ A B c d V, Rd V V.heap.size A [] → Rd V V.heap.size B [] → Calls Try.prog 28 #[.agg #[.int .i64 0, .slice A 0 c], .agg #[.int .i64 0, .slice B 0 d]] V fun e w' => e = .returned (.bool true) ∧ Below V.heap.size V w'))
    (HBL : Hid (∀ V, Rd V V.heap.size A bs → Calls Try.prog 24 #[.agg #[.int .i64 len, .slice A N c]] V fun e w' => ∃ A c, e = .returned (.slice A nB c) ∧ RdV w' w'.heap.size A (ic lB) ∧ Below V.heap.size V w'))
    (HLR : Hid (∀ A c V, RdV V V.heap.size A (ic lB) → Calls Try.prog 41 #[.slice A nB c, .int .i64 p0, .int .u64 m] V fun e w' => e = .returned (.tuple #[.int .u64 (x0 : Int), .int .i64 (-1)]) ∧ Below V.heap.size V w'))
    (HGR : Hid (∀ A c V, RdV V V.heap.size A (ic lB) → Calls Try.prog 42 #[.slice A nB c, .int .i64 p0, .int .u64 m] V (ReadP V s1 s2 g)))
     (hm : 1 ≤ m) (hm2 : m ≤ 1099511627776) (hl : m ≤ n) (hn : n ≤ 1099511627776) (h1 : n.tdiv m = q) (h2 : n / m = q) (h3 : n.tmod m = r) (h4 : n % m = r) (h5 : IntKind.u64.wrap q = q) (h6 : IntKind.u64.wrap r = r) (hq : 8128 ≤ q) :
    Calls Try.prog 8 #[.int .u64 n, .int .u64 m, .agg #[.int .i64 len, .slice A N c], .int .i64 p0] w fun e w' => e = .returned (.bool true) ∧ Below w.heap.size w w' := by
  have HA := Lib.hid hA; clear hA
  have a1 : decide ((1 : Int) ≤ m) = true := by simp; omega
  have a2 : decide (m ≤ 1099511627776) = true := by simp; omega
  have hm0 : ¬ m = 0 := by omega
  have a3 : decide (n < m) = false := by simp; omega
  have a4 : decide (n ≤ 1099511627776) = true := by simp; omega
  have a5 : decide (q < 8128) = false := by simp; omega
  go_enter Try.func8, Try.ntmps8
  go_wp2_with fail
  refine (HX.out _).mono ?_
  rintro e w1_ ⟨A1, c1, rfl, Rq, Bq⟩
  rw [World.size_alloc] at Bq
  have Sq : Below w.heap.size w w1_ := (one_below w _).trans (Bq.mono (by omega))
  have zb : w.heap.size < w1_.heap.size := by have := Bq.size; rw [World.size_alloc] at this; omega
  obtain ⟨pb, qb⟩ := box_at Bq
  replace HA : Hid (Rd w1_ w1_.heap.size A bs) := HA.out.on Sq
  have HB : Hid (Below w.heap.size w w1_) := Sq
  clear Bq Sq
  have RX := Lib.hid Rq; clear Rq
  go_wp2_with fail
  refine (HY.out _).mono ?_
  rintro e w2_ ⟨A2, c2, rfl, Rq, Bq⟩
  rw [World.size_alloc] at Bq
  have Sq : Below w1_.heap.size w1_ w2_ := (one_below w1_ _).trans (Bq.mono (by omega))
  have zx : w1_.heap.size < w2_.heap.size := by have := Bq.size; rw [World.size_alloc] at this; omega
  obtain ⟨px, qx⟩ := box_at Bq
  replace pb := (Sq.cell (p := ⟨w.heap.size, 0, none⟩) zb).trans pb
  replace qb := (Sq.cell (p := ⟨w.heap.size, 1, none⟩) zb).trans qb
  replace zb : w.heap.size < w2_.heap.size := Nat.lt_of_lt_of_le zb Sq.size
  replace HA : Hid (Rd w2_ w2_.heap.size A bs) := HA.out.on Sq
  replace RX : Hid (Rd w2_ w2_.heap.size A1 []) := RX.out.on Sq
  replace HB : Hid (Below w.heap.size w w2_) := HB.out.trans (Sq.mono HB.out.size)
  clear Bq Sq
  have RY := Lib.hid Rq; clear Rq
  go_wp2_with fail
  refine (HP.out _ (HA.out.on (one_below w2_ _))).mono ?_
  rintro e w3_ ⟨rfl, Bq⟩
  rw [World.size_alloc] at Bq
  have Sq : Below w2_.heap.size w2_ w3_ := (one_below w2_ _).trans (Bq.mono (by omega))
  have zy : w2_.heap.size < w3_.heap.size := by have := Bq.size; rw [World.size_alloc] at this; omega
  obtain ⟨py, qy⟩ := box_at Bq
  replace pb := (Sq.cell (p := ⟨w.heap.size, 0, none⟩) zb).trans pb
  replace qb := (Sq.cell (p := ⟨w.heap.size, 1, none⟩) zb).trans qb
  replace zb : w.heap.size < w3_.heap.size := Nat.lt_of_lt_of_le zb Sq.size
  replace px := (Sq.cell (p := ⟨w1_.heap.size, 0, none⟩) zx).trans px
  replace qx := (Sq.cell (p := ⟨w1_.heap.size, 1, none⟩) zx).trans qx
  replace zx : w1_.heap.size < w3_.heap.size := Nat.lt_of_lt_of_le zx Sq.size
  replace HA : Hid (Rd w3_ w3_.heap.size A bs) := HA.out.on Sq
  replace RX : Hid (Rd w3_ w3_.heap.size A1 []) := RX.out.on Sq
  replace RY : Hid (Rd w3_ w3_.heap.size A2 []) := RY.out.on Sq
  replace HB : Hid (Below w.heap.size w w3_) := HB.out.trans (Sq.mono HB.out.size)
  clear Bq Sq
  go_wp2_with fail
  refine (HQ.out _ HA.out).mono ?_
  rintro e w4_ ⟨rfl, Bq⟩
  have Sq : Below w3_.heap.size w3_ w4_ := Bq
  replace pb := (Sq.cell (p := ⟨w.heap.size, 0, none⟩) zb).trans pb
  replace qb := (Sq.cell (p := ⟨w.heap.size, 1, none⟩) zb).trans qb
  replace zb : w.heap.size < w4_.heap.size := Nat.lt_of_lt_of_le zb Sq.size
  replace px := (Sq.cell (p := ⟨w1_.heap.size, 0, none⟩) zx).trans px
  replace qx := (Sq.cell (p := ⟨w1_.heap.size, 1, none⟩) zx).trans qx
  replace zx : w1_.heap.size < w4_.heap.size := Nat.lt_of_lt_of_le zx Sq.size
  replace py := (Sq.cell (p := ⟨w2_.heap.size, 0, none⟩) zy).trans py
  replace qy := (Sq.cell (p := ⟨w2_.heap.size, 1, none⟩) zy).trans qy
  replace zy : w2_.heap.size < w4_.heap.size := Nat.lt_of_lt_of_le zy Sq.size
  replace HA : Hid (Rd w4_ w4_.heap.size A bs) := HA.out.on Sq
  replace RX : Hid (Rd w4_ w4_.heap.size A1 []) := RX.out.on Sq
  replace RY : Hid (Rd w4_ w4_.heap.size A2 []) := RY.out.on Sq
  replace HB : Hid (Below w.heap.size w w4_) := HB.out.trans (Sq.mono HB.out.size)
  clear Bq Sq
  go_wp2_with fail
  obtain ⟨w10, hw, T⟩ := b2_zero w4_
  rw [hw]
  clear hw
  have Sq := T.below
  replace pb := (Sq.cell (p := ⟨w.heap.size, 0, none⟩) zb).trans pb
  replace qb := (Sq.cell (p := ⟨w.heap.size, 1, none⟩) zb).trans qb
  replace zb : w.heap.size < w10.heap.size := Nat.lt_of_lt_of_le zb Sq.size
  replace px := (Sq.cell (p := ⟨w1_.heap.size, 0, none⟩) zx).trans px
  replace qx := (Sq.cell (p := ⟨w1_.heap.size, 1, none⟩) zx).trans qx
  replace zx : w1_.heap.size < w10.heap.size := Nat.lt_of_lt_of_le zx Sq.size
  replace py := (Sq.cell (p := ⟨w2_.heap.size, 0, none⟩) zy).trans py
  replace qy := (Sq.cell (p := ⟨w2_.heap.size, 1, none⟩) zy).trans qy
  replace zy : w2_.heap.size < w10.heap.size := Nat.lt_of_lt_of_le zy Sq.size
  replace HA : Hid (Rd w10 w10.heap.size A bs) := HA.out.on Sq
  replace RX : Hid (Rd w10 w10.heap.size A1 []) := RX.out.on Sq
  replace RY : Hid (Rd w10 w10.heap.size A2 []) := RY.out.on Sq
  replace HB : Hid (Below w.heap.size w w10) := HB.out.trans (Sq.mono HB.out.size)
  clear Sq
  obtain ⟨pg, qg, -, -⟩ := blk_cells T.x
  obtain ⟨ph, qh, -, -⟩ := blk_cells T.y
  have zh : w4_.heap.size + 1 < w10.heap.size := T.size
  have zg : w4_.heap.size < w10.heap.size := by omega
  have RG := Lib.hid T.rx
  have RH := Lib.hid T.ry
  clear T
  refine (HE.out _ HA.out).mono ?_
  rintro e w5_ ⟨rfl, Bq⟩
  have Sq : Below w10.heap.size w10 w5_ := Bq
  replace pb := (Sq.cell (p := ⟨w.heap.size, 0, none⟩) zb).trans pb
  replace qb := (Sq.cell (p := ⟨w.heap.size, 1, none⟩) zb).trans qb
  replace zb : w.heap.size < w5_.heap.size := Nat.lt_of_lt_of_le zb Sq.size
  replace px := (Sq.cell (p := ⟨w1_.heap.size, 0, none⟩) zx).trans px
  replace qx := (Sq.cell (p := ⟨w1_.heap.size, 1, none⟩) zx).trans qx
  replace zx : w1_.heap.size < w5_.heap.size := Nat.lt_of_lt_of_le zx Sq.size
  replace py := (Sq.cell (p := ⟨w2_.heap.size, 0, none⟩) zy).trans py
  replace qy := (Sq.cell (p := ⟨w2_.heap.size, 1, none⟩) zy).trans qy
  replace zy : w2_.heap.size < w5_.heap.size := Nat.lt_of_lt_of_le zy Sq.size
  replace pg := (Sq.cell (p := ⟨w4_.heap.size, 0, none⟩) zg).trans pg
  replace qg := (Sq.cell (p := ⟨w4_.heap.size, 1, none⟩) zg).trans qg
  replace zg : w4_.heap.size < w5_.heap.size := Nat.lt_of_lt_of_le zg Sq.size
  replace ph := (Sq.cell (p := ⟨(w4_.heap.size + 1), 0, none⟩) zh).trans ph
  replace qh := (Sq.cell (p := ⟨(w4_.heap.size + 1), 1, none⟩) zh).trans qh
  replace zh : (w4_.heap.size + 1) < w5_.heap.size := Nat.lt_of_lt_of_le zh Sq.size
  replace HA : Hid (Rd w5_ w5_.heap.size A bs) := HA.out.on Sq
  replace RX : Hid (Rd w5_ w5_.heap.size A1 []) := RX.out.on Sq
  replace RY : Hid (Rd w5_ w5_.heap.size A2 []) := RY.out.on Sq
  replace RG : Hid (Rd w5_ w5_.heap.size none []) := RG.out.on Sq
  replace RH : Hid (Rd w5_ w5_.heap.size none []) := RH.out.on Sq
  replace HB : Hid (Below w.heap.size w w5_) := HB.out.trans (Sq.mono HB.out.size)
  clear Bq Sq
  go_wp2_with fail
  refine (HBL.out _ HA.out).mono ?_
  rintro e w6_ ⟨A9, c9, rfl, Rq, Bq⟩
  have Sq : Below w5_.heap.size w5_ w6_ := Bq
  replace pb := (Sq.cell (p := ⟨w.heap.size, 0, none⟩) zb).trans pb
  replace qb := (Sq.cell (p := ⟨w.heap.size, 1, none⟩) zb).trans qb
  replace zb : w.heap.size < w6_.heap.size := Nat.lt_of_lt_of_le zb Sq.size
  replace px := (Sq.cell (p := ⟨w1_.heap.size, 0, none⟩) zx).trans px
  replace qx := (Sq.cell (p := ⟨w1_.heap.size, 1, none⟩) zx).trans qx
  replace zx : w1_.heap.size < w6_.heap.size := Nat.lt_of_lt_of_le zx Sq.size
  replace py := (Sq.cell (p := ⟨w2_.heap.size, 0, none⟩) zy).trans py
  replace qy := (Sq.cell (p := ⟨w2_.heap.size, 1, none⟩) zy).trans qy
  replace zy : w2_.heap.size < w6_.heap.size := Nat.lt_of_lt_of_le zy Sq.size
  replace pg := (Sq.cell (p := ⟨w4_.heap.size, 0, none⟩) zg).trans pg
  replace qg := (Sq.cell (p := ⟨w4_.heap.size, 1, none⟩) zg).trans qg
  replace zg : w4_.heap.size < w6_.heap.size := Nat.lt_of_lt_of_le zg Sq.size
  replace ph := (Sq.cell (p := ⟨(w4_.heap.size + 1), 0, none⟩) zh).trans ph
  replace qh := (Sq.cell (p := ⟨(w4_.heap.size + 1), 1, none⟩) zh).trans qh
  replace zh : (w4_.heap.size + 1) < w6_.heap.size := Nat.lt_of_lt_of_le zh Sq.size
  replace HA : Hid (Rd w6_ w6_.heap.size A bs) := HA.out.on Sq
  replace RX : Hid (Rd w6_ w6_.heap.size A1 []) := RX.out.on Sq
  replace RY : Hid (Rd w6_ w6_.heap.size A2 []) := RY.out.on Sq
  replace RG : Hid (Rd w6_ w6_.heap.size none []) := RG.out.on Sq
  replace RH : Hid (Rd w6_ w6_.heap.size none []) := RH.out.on Sq
  replace HB : Hid (Below w.heap.size w w6_) := HB.out.trans (Sq.mono HB.out.size)
  clear Bq Sq
  have RB := Lib.hid Rq; clear Rq
  go_wp2_with fail
  refine (HLR.out A9 c9 _ RB.out).mono ?_
  rintro e w7_ ⟨rfl, Bq⟩
  have Sq : Below w6_.heap.size w6_ w7_ := Bq
  replace pb := (Sq.cell (p := ⟨w.heap.size, 0, none⟩) zb).trans pb
  replace qb := (Sq.cell (p := ⟨w.heap.size, 1, none⟩) zb).trans qb
  replace zb : w.heap.size < w7_.heap.size := Nat.lt_of_lt_of_le zb Sq.size
  replace px := (Sq.cell (p := ⟨w1_.heap.size, 0, none⟩) zx).trans px
  replace qx := (Sq.cell (p := ⟨w1_.heap.size, 1, none⟩) zx).trans qx
  replace zx : w1_.heap.size < w7_.heap.size := Nat.lt_of_lt_of_le zx Sq.size
  replace py := (Sq.cell (p := ⟨w2_.heap.size, 0, none⟩) zy).trans py
  replace qy := (Sq.cell (p := ⟨w2_.heap.size, 1, none⟩) zy).trans qy
  replace zy : w2_.heap.size < w7_.heap.size := Nat.lt_of_lt_of_le zy Sq.size
  replace pg := (Sq.cell (p := ⟨w4_.heap.size, 0, none⟩) zg).trans pg
  replace qg := (Sq.cell (p := ⟨w4_.heap.size, 1, none⟩) zg).trans qg
  replace zg : w4_.heap.size < w7_.heap.size := Nat.lt_of_lt_of_le zg Sq.size
  replace ph := (Sq.cell (p := ⟨(w4_.heap.size + 1), 0, none⟩) zh).trans ph
  replace qh := (Sq.cell (p := ⟨(w4_.heap.size + 1), 1, none⟩) zh).trans qh
  replace zh : (w4_.heap.size + 1) < w7_.heap.size := Nat.lt_of_lt_of_le zh Sq.size
  replace HA : Hid (Rd w7_ w7_.heap.size A bs) := HA.out.on Sq
  replace RX : Hid (Rd w7_ w7_.heap.size A1 []) := RX.out.on Sq
  replace RY : Hid (Rd w7_ w7_.heap.size A2 []) := RY.out.on Sq
  replace RG : Hid (Rd w7_ w7_.heap.size none []) := RG.out.on Sq
  replace RH : Hid (Rd w7_ w7_.heap.size none []) := RH.out.on Sq
  replace RB : Hid (RdV w7_ w7_.heap.size A9 (ic lB)) := RB.out.on Sq
  replace HB : Hid (Below w.heap.size w w7_) := HB.out.trans (Sq.mono HB.out.size)
  clear Bq Sq
  go_wp2_with fail
  refine (HGR.out A9 c9 _ RB.out).mono ?_
  rintro e w8_ ⟨rfl, Bq⟩
  have Sq : Below w7_.heap.size w7_ w8_ := Bq
  replace pb := (Sq.cell (p := ⟨w.heap.size, 0, none⟩) zb).trans pb
  replace qb := (Sq.cell (p := ⟨w.heap.size, 1, none⟩) zb).trans qb
  replace zb : w.heap.size < w8_.heap.size := Nat.lt_of_lt_of_le zb Sq.size
  replace px := (Sq.cell (p := ⟨w1_.heap.size, 0, none⟩) zx).trans px
  replace qx := (Sq.cell (p := ⟨w1_.heap.size, 1, none⟩) zx).trans qx
  replace zx : w1_.heap.size < w8_.heap.size := Nat.lt_of_lt_of_le zx Sq.size
  replace py := (Sq.cell (p := ⟨w2_.heap.size, 0, none⟩) zy).trans py
  replace qy := (Sq.cell (p := ⟨w2_.heap.size, 1, none⟩) zy).trans qy
  replace zy : w2_.heap.size < w8_.heap.size := Nat.lt_of_lt_of_le zy Sq.size
  replace pg := (Sq.cell (p := ⟨w4_.heap.size, 0, none⟩) zg).trans pg
  replace qg := (Sq.cell (p := ⟨w4_.heap.size, 1, none⟩) zg).trans qg
  replace zg : w4_.heap.size < w8_.heap.size := Nat.lt_of_lt_of_le zg Sq.size
  replace ph := (Sq.cell (p := ⟨(w4_.heap.size + 1), 0, none⟩) zh).trans ph
  replace qh := (Sq.cell (p := ⟨(w4_.heap.size + 1), 1, none⟩) zh).trans qh
  replace zh : (w4_.heap.size + 1) < w8_.heap.size := Nat.lt_of_lt_of_le zh Sq.size
  replace HA : Hid (Rd w8_ w8_.heap.size A bs) := HA.out.on Sq
  replace RX : Hid (Rd w8_ w8_.heap.size A1 []) := RX.out.on Sq
  replace RY : Hid (Rd w8_ w8_.heap.size A2 []) := RY.out.on Sq
  replace RG : Hid (Rd w8_ w8_.heap.size none []) := RG.out.on Sq
  replace RH : Hid (Rd w8_ w8_.heap.size none []) := RH.out.on Sq
  replace RB : Hid (RdV w8_ w8_.heap.size A9 (ic lB)) := RB.out.on Sq
  replace HB : Hid (Below w.heap.size w w8_) := HB.out.trans (Sq.mono HB.out.size)
  clear Bq Sq
  go_wp2_with fail
  refine (gbegun_true _).mono ?_
  rintro e w9_ ⟨rfl, Bq⟩
  have Sq : Below w8_.heap.size w8_ w9_ := Bq
  replace pb := (Sq.cell (p := ⟨w.heap.size, 0, none⟩) zb).trans pb
  replace qb := (Sq.cell (p := ⟨w.heap.size, 1, none⟩) zb).trans qb
  replace zb : w.heap.size < w9_.heap.size := Nat.lt_of_lt_of_le zb Sq.size
  replace px := (Sq.cell (p := ⟨w1_.heap.size, 0, none⟩) zx).trans px
  replace qx := (Sq.cell (p := ⟨w1_.heap.size, 1, none⟩) zx).trans qx
  replace zx : w1_.heap.size < w9_.heap.size := Nat.lt_of_lt_of_le zx Sq.size
  replace py := (Sq.cell (p := ⟨w2_.heap.size, 0, none⟩) zy).trans py
  replace qy := (Sq.cell (p := ⟨w2_.heap.size, 1, none⟩) zy).trans qy
  replace zy : w2_.heap.size < w9_.heap.size := Nat.lt_of_lt_of_le zy Sq.size
  replace pg := (Sq.cell (p := ⟨w4_.heap.size, 0, none⟩) zg).trans pg
  replace qg := (Sq.cell (p := ⟨w4_.heap.size, 1, none⟩) zg).trans qg
  replace zg : w4_.heap.size < w9_.heap.size := Nat.lt_of_lt_of_le zg Sq.size
  replace ph := (Sq.cell (p := ⟨(w4_.heap.size + 1), 0, none⟩) zh).trans ph
  replace qh := (Sq.cell (p := ⟨(w4_.heap.size + 1), 1, none⟩) zh).trans qh
  replace zh : (w4_.heap.size + 1) < w9_.heap.size := Nat.lt_of_lt_of_le zh Sq.size
  replace HA : Hid (Rd w9_ w9_.heap.size A bs) := HA.out.on Sq
  replace RX : Hid (Rd w9_ w9_.heap.size A1 []) := RX.out.on Sq
  replace RY : Hid (Rd w9_ w9_.heap.size A2 []) := RY.out.on Sq
  replace RG : Hid (Rd w9_ w9_.heap.size none []) := RG.out.on Sq
  replace RH : Hid (Rd w9_ w9_.heap.size none []) := RH.out.on Sq
  replace RB : Hid (RdV w9_ w9_.heap.size A9 (ic lB)) := RB.out.on Sq
  replace HB : Hid (Below w.heap.size w w9_) := HB.out.trans (Sq.mono HB.out.size)
  clear Bq Sq
  go_wp2_with fail
  refine (HS1.out A1 none c1 0 _ RX.out RG.out).mono ?_
  rintro e w10_ ⟨rfl, Bq⟩
  have Sq : Below w9_.heap.size w9_ w10_ := Bq
  replace pb := (Sq.cell (p := ⟨w.heap.size, 0, none⟩) zb).trans pb
  replace qb := (Sq.cell (p := ⟨w.heap.size, 1, none⟩) zb).trans qb
  replace zb : w.heap.size < w10_.heap.size := Nat.lt_of_lt_of_le zb Sq.size
  replace px := (Sq.cell (p := ⟨w1_.heap.size, 0, none⟩) zx).trans px
  replace qx := (Sq.cell (p := ⟨w1_.heap.size, 1, none⟩) zx).trans qx
  replace zx : w1_.heap.size < w10_.heap.size := Nat.lt_of_lt_of_le zx Sq.size
  replace py := (Sq.cell (p := ⟨w2_.heap.size, 0, none⟩) zy).trans py
  replace qy := (Sq.cell (p := ⟨w2_.heap.size, 1, none⟩) zy).trans qy
  replace zy : w2_.heap.size < w10_.heap.size := Nat.lt_of_lt_of_le zy Sq.size
  replace pg := (Sq.cell (p := ⟨w4_.heap.size, 0, none⟩) zg).trans pg
  replace qg := (Sq.cell (p := ⟨w4_.heap.size, 1, none⟩) zg).trans qg
  replace zg : w4_.heap.size < w10_.heap.size := Nat.lt_of_lt_of_le zg Sq.size
  replace ph := (Sq.cell (p := ⟨(w4_.heap.size + 1), 0, none⟩) zh).trans ph
  replace qh := (Sq.cell (p := ⟨(w4_.heap.size + 1), 1, none⟩) zh).trans qh
  replace zh : (w4_.heap.size + 1) < w10_.heap.size := Nat.lt_of_lt_of_le zh Sq.size
  replace HA : Hid (Rd w10_ w10_.heap.size A bs) := HA.out.on Sq
  replace RX : Hid (Rd w10_ w10_.heap.size A1 []) := RX.out.on Sq
  replace RY : Hid (Rd w10_ w10_.heap.size A2 []) := RY.out.on Sq
  replace RG : Hid (Rd w10_ w10_.heap.size none []) := RG.out.on Sq
  replace RH : Hid (Rd w10_ w10_.heap.size none []) := RH.out.on Sq
  replace RB : Hid (RdV w10_ w10_.heap.size A9 (ic lB)) := RB.out.on Sq
  replace HB : Hid (Below w.heap.size w w10_) := HB.out.trans (Sq.mono HB.out.size)
  clear Bq Sq
  go_wp2_with fail
  refine (HS2.out A2 none c2 0 _ RY.out RH.out).mono ?_
  rintro e w11_ ⟨rfl, Bq⟩
  have Sq : Below w10_.heap.size w10_ w11_ := Bq
  replace pb := (Sq.cell (p := ⟨w.heap.size, 0, none⟩) zb).trans pb
  replace qb := (Sq.cell (p := ⟨w.heap.size, 1, none⟩) zb).trans qb
  replace zb : w.heap.size < w11_.heap.size := Nat.lt_of_lt_of_le zb Sq.size
  replace px := (Sq.cell (p := ⟨w1_.heap.size, 0, none⟩) zx).trans px
  replace qx := (Sq.cell (p := ⟨w1_.heap.size, 1, none⟩) zx).trans qx
  replace zx : w1_.heap.size < w11_.heap.size := Nat.lt_of_lt_of_le zx Sq.size
  replace py := (Sq.cell (p := ⟨w2_.heap.size, 0, none⟩) zy).trans py
  replace qy := (Sq.cell (p := ⟨w2_.heap.size, 1, none⟩) zy).trans qy
  replace zy : w2_.heap.size < w11_.heap.size := Nat.lt_of_lt_of_le zy Sq.size
  replace pg := (Sq.cell (p := ⟨w4_.heap.size, 0, none⟩) zg).trans pg
  replace qg := (Sq.cell (p := ⟨w4_.heap.size, 1, none⟩) zg).trans qg
  replace zg : w4_.heap.size < w11_.heap.size := Nat.lt_of_lt_of_le zg Sq.size
  replace ph := (Sq.cell (p := ⟨(w4_.heap.size + 1), 0, none⟩) zh).trans ph
  replace qh := (Sq.cell (p := ⟨(w4_.heap.size + 1), 1, none⟩) zh).trans qh
  replace zh : (w4_.heap.size + 1) < w11_.heap.size := Nat.lt_of_lt_of_le zh Sq.size
  replace HA : Hid (Rd w11_ w11_.heap.size A bs) := HA.out.on Sq
  replace RX : Hid (Rd w11_ w11_.heap.size A1 []) := RX.out.on Sq
  replace RY : Hid (Rd w11_ w11_.heap.size A2 []) := RY.out.on Sq
  replace RG : Hid (Rd w11_ w11_.heap.size none []) := RG.out.on Sq
  replace RH : Hid (Rd w11_ w11_.heap.size none []) := RH.out.on Sq
  replace RB : Hid (RdV w11_ w11_.heap.size A9 (ic lB)) := RB.out.on Sq
  replace HB : Hid (Below w.heap.size w w11_) := HB.out.trans (Sq.mono HB.out.size)
  clear Bq Sq
  go_wp2
  go_ret
  exact ⟨rfl, HB.out⟩
end
end Go.Proofs.Ytcacbekdghlncaa
