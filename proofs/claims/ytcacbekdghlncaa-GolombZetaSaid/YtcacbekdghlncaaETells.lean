/- The law EliasTells: for whatever number, bits and position it returns true, in letters. -/
import Derived.Test.YtcacbekdghlncaaEBegun
import Derived.Test.YtcacbekdghlncaaRefE
import Derived.Test.YtcacbekdghlncaaRefPack
import Derived.Test.YtcacbekdghlncaaOpen
import Derived.Deep.RegionHeld3
namespace Go.Proofs.Ytcacbekdghlncaa
set_option maxRecDepth 100000
set_option linter.unusedVariables false
open Go.RowKit

/-- What is behind two places for bits: what they hold, and that all below is as it was. -/
structure Two (V w : World) (lX lY : Int) (nX nY : Nat) (A B : Option Addr) (c d : Nat) (bX bY : List Nat) : Prop where
  rx : Rd w w.heap.size A bX
  ry : Rd w w.heap.size B bY
  below : Below V.heap.size V w
  x0 : w.cell? ⟨V.heap.size, 0, none⟩ = some (.int .i64 lX)
  x1 : w.cell? ⟨V.heap.size, 1, none⟩ = some (.slice A nX c)
  y0 : w.cell? ⟨V.heap.size + 1, 0, none⟩ = some (.int .i64 lY)
  y1 : w.cell? ⟨V.heap.size + 1, 1, none⟩ = some (.slice B nY d)
  size : V.heap.size + 1 < w.heap.size
theorem two_zero (V : World) : ∃ w10, (V.alloc (.cells #[.int .i64 0, .slice none 0 0] 25)).alloc (.cells #[.int .i64 0, .slice none 0 0] 25) = w10 ∧ Two V w10 0 0 0 0 none none 0 0 [] [] := by
  have hx : ((V.alloc (.cells #[.int .i64 0, .slice none 0 0] 25)).alloc (.cells #[.int .i64 0, .slice none 0 0] 25)).heap[V.heap.size]? = some (.cells #[.int .i64 0, .slice none 0 0] 25 (0, 0)) := (Below.heap_alloc _ _ _ (by simp)).trans (World.alloc_heap_new V _)
  have hy : ((V.alloc (.cells #[.int .i64 0, .slice none 0 0] 25)).alloc (.cells #[.int .i64 0, .slice none 0 0] 25)).heap[V.heap.size + 1]? = some (.cells #[.int .i64 0, .slice none 0 0] 25 (0, 0)) := by have := World.alloc_heap_new (V.alloc (.cells #[.int .i64 0, .slice none 0 0] 25)) (.cells #[.int .i64 0, .slice none 0 0] 25); rwa [World.size_alloc] at this
  exact ⟨_, rfl, Rd.nil _ _ _, Rd.nil _ _ _, up2 V _ _, (blk_cells hx).1, (blk_cells hx).2.1, (blk_cells hy).1, (blk_cells hy).2.1, by rw [World.size_alloc, World.size_alloc]; omega⟩
theorem two_store {V w9 : World} (B9 : Below ((V.alloc (.cells #[.int .i64 0, .slice none 0 0] 25)).alloc (.cells #[.int .i64 0, .slice none 0 0] 25)).heap.size ((V.alloc (.cells #[.int .i64 0, .slice none 0 0] 25)).alloc (.cells #[.int .i64 0, .slice none 0 0] 25)) w9) (lX lY : Int) (nX nY : Nat) (A B : Option Addr) (c d : Nat) (bX bY : List Nat) (RX : Rd w9 w9.heap.size A bX) (RY : Rd w9 w9.heap.size B bY) :
    ((w9.cell? ⟨V.heap.size, 0, none⟩ = some (.int .i64 0) ∧ w9.cell? ⟨V.heap.size, 1, none⟩ = some (.slice none 0 0) ∧ w9.frozen? ⟨V.heap.size, 0, none⟩ = false ∧ w9.frozen? ⟨V.heap.size, 1, none⟩ = false) ∧
      (w9.cell? ⟨V.heap.size + 1, 0, none⟩ = some (.int .i64 0) ∧ w9.cell? ⟨V.heap.size + 1, 1, none⟩ = some (.slice none 0 0) ∧ w9.frozen? ⟨V.heap.size + 1, 0, none⟩ = false ∧ w9.frozen? ⟨V.heap.size + 1, 1, none⟩ = false)) ∧
    Hid (∃ w10, (((w9.setCell ⟨V.heap.size, 0, none⟩ (.int .i64 lX)).setCell ⟨V.heap.size, 1, none⟩ (.slice A nX c)).setCell ⟨V.heap.size + 1, 0, none⟩ (.int .i64 lY)).setCell ⟨V.heap.size + 1, 1, none⟩ (.slice B nY d) = w10 ∧ Two V w10 lX lY nX nY A B c d bX bY) := by
  have hs : ((V.alloc (.cells #[.int .i64 0, .slice none 0 0] 25)).alloc (.cells #[.int .i64 0, .slice none 0 0] 25)).heap.size = V.heap.size + 2 := by rw [World.size_alloc, World.size_alloc]
  have h9 := B9.size
  rw [hs] at B9 h9
  have hx : w9.heap[V.heap.size]? = some (.cells #[.int .i64 0, .slice none 0 0] 25 (0, 0)) := (B9.block _ (by omega)).trans ((Below.heap_alloc _ _ _ (by simp)).trans (World.alloc_heap_new V _))
  have hy : w9.heap[V.heap.size + 1]? = some (.cells #[.int .i64 0, .slice none 0 0] 25 (0, 0)) := (B9.block _ (by omega)).trans (by have := World.alloc_heap_new (V.alloc (.cells #[.int .i64 0, .slice none 0 0] 25)) (.cells #[.int .i64 0, .slice none 0 0] 25); rwa [World.size_alloc] at this)
  refine ⟨⟨blk_cells hx, blk_cells hy⟩, _, rfl, ?_⟩
  have x1 : (w9.setCell ⟨V.heap.size, 0, none⟩ (.int .i64 lX)).heap[V.heap.size]? = some (.cells #[.int .i64 lX, .slice none 0 0] 25 (0, 0)) := by
    rw [heap_set_same _ _ _ _ 25 _ hx]; simp
  have x2 : ((w9.setCell ⟨V.heap.size, 0, none⟩ (.int .i64 lX)).setCell ⟨V.heap.size, 1, none⟩ (.slice A nX c)).heap[V.heap.size]? = some (.cells #[.int .i64 lX, .slice A nX c] 25 (0, 0)) := by
    rw [heap_set_same _ _ _ _ 25 _ x1]; simp
  have y1 : ((w9.setCell ⟨V.heap.size, 0, none⟩ (.int .i64 lX)).setCell ⟨V.heap.size, 1, none⟩ (.slice A nX c)).heap[V.heap.size + 1]? = some (.cells #[.int .i64 0, .slice none 0 0] 25 (0, 0)) :=
    (Below.heap_setCell _ _ _ _ (by simp)).trans ((Below.heap_setCell _ _ _ _ (by simp)).trans hy)
  generalize hw : (w9.setCell ⟨V.heap.size, 0, none⟩ (.int .i64 lX)).setCell ⟨V.heap.size, 1, none⟩ (.slice A nX c) = u at *
  have y2 : (u.setCell ⟨V.heap.size + 1, 0, none⟩ (.int .i64 lY)).heap[V.heap.size + 1]? = some (.cells #[.int .i64 lY, .slice none 0 0] 25 (0, 0)) := by
    rw [heap_set_same _ _ _ _ 25 _ y1]; simp
  have y3 : ((u.setCell ⟨V.heap.size + 1, 0, none⟩ (.int .i64 lY)).setCell ⟨V.heap.size + 1, 1, none⟩ (.slice B nY d)).heap[V.heap.size + 1]? = some (.cells #[.int .i64 lY, .slice B nY d] 25 (0, 0)) := by
    rw [heap_set_same _ _ _ _ 25 _ y2]; simp
  have x3 : ((u.setCell ⟨V.heap.size + 1, 0, none⟩ (.int .i64 lY)).setCell ⟨V.heap.size + 1, 1, none⟩ (.slice B nY d)).heap[V.heap.size]? = some (.cells #[.int .i64 lX, .slice A nX c] 25 (0, 0)) :=
    (Below.heap_setCell _ _ _ _ (by simp)).trans ((Below.heap_setCell _ _ _ _ (by simp)).trans x2)
  have su : u.heap.size = w9.heap.size := by rw [← hw]; simp [World.setCell]
  have ss : ((u.setCell ⟨V.heap.size + 1, 0, none⟩ (.int .i64 lY)).setCell ⟨V.heap.size + 1, 1, none⟩ (.slice B nY d)).heap.size = w9.heap.size := by simp [World.setCell]; exact su
  have rd : ∀ {C : Option Addr} {bs : List Nat}, Rd w9 w9.heap.size C bs → Rd ((u.setCell ⟨V.heap.size + 1, 0, none⟩ (.int .i64 lY)).setCell ⟨V.heap.size + 1, 1, none⟩ (.slice B nY d)) w9.heap.size C bs := by
    intro C bs h
    have r1 := h.setK (i := 0) (.int .i64 lX) hx
    have r2 := r1.setK (i := 1) (.slice A nX c) x1
    rw [hw] at r2
    have r3 := r2.setK (i := 0) (.int .i64 lY) y1
    exact r3.setK (i := 1) (.slice B nY d) y2
  refine ⟨by rw [ss]; exact rd RX, by rw [ss]; exact rd RY, ?_, (blk_cells x3).1, (blk_cells x3).2.1, (blk_cells y3).1, (blk_cells y3).2.1, by rw [ss]; omega⟩
  have b9 : Below V.heap.size V w9 := (up2 V _ _).trans (B9.mono (by omega))
  have bu : Below V.heap.size V u := by rw [← hw]; exact (b9.setCell (p := ⟨V.heap.size, 0, none⟩) (Nat.le_refl _) _).setCell (p := ⟨V.heap.size, 1, none⟩) (Nat.le_refl _) _
  exact (bu.setCell (p := ⟨V.heap.size + 1, 0, none⟩) (Nat.le_succ _) _).setCell (p := ⟨V.heap.size + 1, 1, none⟩) (Nat.le_succ _) _

set_option maxHeartbeats 4000000 in
theorem etells_bb (w : World) (n : Int) (len : Int) (A : Option Addr) (c N : Nat) (bs : List Nat) (p0 : Int) (hA : Rd w w.heap.size A bs) (e0 : Int) (h0 : e0 ≠ 0) (hn : 1099511627776 < n)
    (HX : Hid (∀ V, Calls Try.prog 15 #[.int .u64 n] V (Gv V 0 0 [] 3)))
    (HY : Hid (∀ V, Calls Try.prog 16 #[.int .u64 n] V (Gv V 0 0 [] 3)))
    (HP : Hid (∀ V, Rd V V.heap.size A bs → Calls Try.prog 17 #[.agg #[.int .i64 len, .slice A N c], .int .i64 p0] V (ReadP V 0 0 e0)))
    (HQ : Hid (∀ V, Rd V V.heap.size A bs → Calls Try.prog 18 #[.agg #[.int .i64 len, .slice A N c], .int .i64 p0] V (ReadP V 0 0 e0)))
    (HL : Hid (∀ V, Calls Try.prog 19 #[.int .u64 n] V fun e w' => e = .returned (.tuple #[.int .i64 0, .int .i64 0, .int .i64 3]) ∧ Below V.heap.size V w'))
    (HE : Hid (∀ V, Rd V V.heap.size A bs → Calls Try.prog 23 #[.agg #[.int .i64 len, .slice A N c], .int .i64 p0] V fun e w' => e = .returned (.int .i64 e0) ∧ Below V.heap.size V w'))
    (HSX : Hid (∀ A B c d V, Rd V V.heap.size A [] → Rd V V.heap.size B [] → Calls Try.prog 28 #[.agg #[.int .i64 0, .slice A 0 c], .agg #[.int .i64 0, .slice B 0 d]] V fun e w' => e = .returned (.bool true) ∧ Below V.heap.size V w'))
    (HSY : Hid (∀ A B c d V, Rd V V.heap.size A [] → Rd V V.heap.size B [] → Calls Try.prog 28 #[.agg #[.int .i64 0, .slice A 0 c], .agg #[.int .i64 0, .slice B 0 d]] V fun e w' => e = .returned (.bool true) ∧ Below V.heap.size V w')) :
    Calls Try.prog 3 #[.int .u64 n, .agg #[.int .i64 len, .slice A N c], .int .i64 p0] w fun e w' => e = .returned (.bool true) ∧ Below w.heap.size w w' := by
  have HA := Lib.hid hA; clear hA
  have t1 : decide ((1099511627776 : Int) < n) = true := by simp; omega
  have t2 : (e0 == 0) = false := by simpa using h0
  clear h0
  go_enter Try.func3, Try.ntmps3
  go_wp2_with fail
  refine (HX.out _).mono ?_
  rintro e w1_ ⟨A1, c1, rfl, Rq, Bq⟩
  rw [World.size_alloc] at Bq
  have Sq : Below w.heap.size w w1_ := (one_below w _).trans (Bq.mono (by omega))
  have zb : w.heap.size < w1_.heap.size := by have := Bq.size; rw [World.size_alloc] at this; omega
  obtain ⟨pb, qb⟩ := box_at Bq
  replace HA : Hid (Rd w1_ w1_.heap.size A bs) := HA.out.on Sq
  have HB : Hid (Below w.heap.size w w1_) := Sq
  clear Bq Sq
  have RX := Lib.hid Rq; clear Rq
  go_wp2_with fail
  refine (HY.out _).mono ?_
  rintro e w2_ ⟨A2, c2, rfl, Rq, Bq⟩
  rw [World.size_alloc] at Bq
  have Sq : Below w1_.heap.size w1_ w2_ := (one_below w1_ _).trans (Bq.mono (by omega))
  have zx : w1_.heap.size < w2_.heap.size := by have := Bq.size; rw [World.size_alloc] at this; omega
  obtain ⟨px, qx⟩ := box_at Bq
  replace pb := (Sq.cell (p := ⟨w.heap.size, 0, none⟩) zb).trans pb
  replace qb := (Sq.cell (p := ⟨w.heap.size, 1, none⟩) zb).trans qb
  replace zb : w.heap.size < w2_.heap.size := Nat.lt_of_lt_of_le zb Sq.size
  replace HA : Hid (Rd w2_ w2_.heap.size A bs) := HA.out.on Sq
  replace RX : Hid (Rd w2_ w2_.heap.size A1 []) := RX.out.on Sq
  replace HB : Hid (Below w.heap.size w w2_) := HB.out.trans (Sq.mono HB.out.size)
  clear Bq Sq
  have RY := Lib.hid Rq; clear Rq
  go_wp2_with fail
  refine (HP.out _ (HA.out.on (one_below w2_ _))).mono ?_
  rintro e w3_ ⟨rfl, Bq⟩
  rw [World.size_alloc] at Bq
  have Sq : Below w2_.heap.size w2_ w3_ := (one_below w2_ _).trans (Bq.mono (by omega))
  have zy : w2_.heap.size < w3_.heap.size := by have := Bq.size; rw [World.size_alloc] at this; omega
  obtain ⟨py, qy⟩ := box_at Bq
  replace pb := (Sq.cell (p := ⟨w.heap.size, 0, none⟩) zb).trans pb
  replace qb := (Sq.cell (p := ⟨w.heap.size, 1, none⟩) zb).trans qb
  replace zb : w.heap.size < w3_.heap.size := Nat.lt_of_lt_of_le zb Sq.size
  replace px := (Sq.cell (p := ⟨w1_.heap.size, 0, none⟩) zx).trans px
  replace qx := (Sq.cell (p := ⟨w1_.heap.size, 1, none⟩) zx).trans qx
  replace zx : w1_.heap.size < w3_.heap.size := Nat.lt_of_lt_of_le zx Sq.size
  replace HA : Hid (Rd w3_ w3_.heap.size A bs) := HA.out.on Sq
  replace RX : Hid (Rd w3_ w3_.heap.size A1 []) := RX.out.on Sq
  replace RY : Hid (Rd w3_ w3_.heap.size A2 []) := RY.out.on Sq
  replace HB : Hid (Below w.heap.size w w3_) := HB.out.trans (Sq.mono HB.out.size)
  clear Bq Sq
  go_wp2_with fail
  refine (HQ.out _ HA.out).mono ?_
  rintro e w4_ ⟨rfl, Bq⟩
  have Sq : Below w3_.heap.size w3_ w4_ := Bq
  replace pb := (Sq.cell (p := ⟨w.heap.size, 0, none⟩) zb).trans pb
  replace qb := (Sq.cell (p := ⟨w.heap.size, 1, none⟩) zb).trans qb
  replace zb : w.heap.size < w4_.heap.size := Nat.lt_of_lt_of_le zb Sq.size
  replace px := (Sq.cell (p := ⟨w1_.heap.size, 0, none⟩) zx).trans px
  replace qx := (Sq.cell (p := ⟨w1_.heap.size, 1, none⟩) zx).trans qx
  replace zx : w1_.heap.size < w4_.heap.size := Nat.lt_of_lt_of_le zx Sq.size
  replace py := (Sq.cell (p := ⟨w2_.heap.size, 0, none⟩) zy).trans py
  replace qy := (Sq.cell (p := ⟨w2_.heap.size, 1, none⟩) zy).trans qy
  replace zy : w2_.heap.size < w4_.heap.size := Nat.lt_of_lt_of_le zy Sq.size
  replace HA : Hid (Rd w4_ w4_.heap.size A bs) := HA.out.on Sq
  replace RX : Hid (Rd w4_ w4_.heap.size A1 []) := RX.out.on Sq
  replace RY : Hid (Rd w4_ w4_.heap.size A2 []) := RY.out.on Sq
  replace HB : Hid (Below w.heap.size w w4_) := HB.out.trans (Sq.mono HB.out.size)
  clear Bq Sq
  go_wp2_with fail
  refine (HL.out _).mono ?_
  rintro e w5_ ⟨rfl, Bq⟩
  have Sq : Below w4_.heap.size w4_ w5_ := Bq
  replace pb := (Sq.cell (p := ⟨w.heap.size, 0, none⟩) zb).trans pb
  replace qb := (Sq.cell (p := ⟨w.heap.size, 1, none⟩) zb).trans qb
  replace zb : w.heap.size < w5_.heap.size := Nat.lt_of_lt_of_le zb Sq.size
  replace px := (Sq.cell (p := ⟨w1_.heap.size, 0, none⟩) zx).trans px
  replace qx := (Sq.cell (p := ⟨w1_.heap.size, 1, none⟩) zx).trans qx
  replace zx : w1_.heap.size < w5_.heap.size := Nat.lt_of_lt_of_le zx Sq.size
  replace py := (Sq.cell (p := ⟨w2_.heap.size, 0, none⟩) zy).trans py
  replace qy := (Sq.cell (p := ⟨w2_.heap.size, 1, none⟩) zy).trans qy
  replace zy : w2_.heap.size < w5_.heap.size := Nat.lt_of_lt_of_le zy Sq.size
  replace HA : Hid (Rd w5_ w5_.heap.size A bs) := HA.out.on Sq
  replace RX : Hid (Rd w5_ w5_.heap.size A1 []) := RX.out.on Sq
  replace RY : Hid (Rd w5_ w5_.heap.size A2 []) := RY.out.on Sq
  replace HB : Hid (Below w.heap.size w w5_) := HB.out.trans (Sq.mono HB.out.size)
  clear Bq Sq
  go_wp2_with fail
  obtain ⟨w10, hw, T⟩ := two_zero w5_
  rw [hw]
  clear hw
  have Sq := T.below
  replace pb := (Sq.cell (p := ⟨w.heap.size, 0, none⟩) zb).trans pb
  replace qb := (Sq.cell (p := ⟨w.heap.size, 1, none⟩) zb).trans qb
  replace zb : w.heap.size < w10.heap.size := Nat.lt_of_lt_of_le zb Sq.size
  replace px := (Sq.cell (p := ⟨w1_.heap.size, 0, none⟩) zx).trans px
  replace qx := (Sq.cell (p := ⟨w1_.heap.size, 1, none⟩) zx).trans qx
  replace zx : w1_.heap.size < w10.heap.size := Nat.lt_of_lt_of_le zx Sq.size
  replace py := (Sq.cell (p := ⟨w2_.heap.size, 0, none⟩) zy).trans py
  replace qy := (Sq.cell (p := ⟨w2_.heap.size, 1, none⟩) zy).trans qy
  replace zy : w2_.heap.size < w10.heap.size := Nat.lt_of_lt_of_le zy Sq.size
  replace HA : Hid (Rd w10 w10.heap.size A bs) := HA.out.on Sq
  replace RX : Hid (Rd w10 w10.heap.size A1 []) := RX.out.on Sq
  replace RY : Hid (Rd w10 w10.heap.size A2 []) := RY.out.on Sq
  replace HB : Hid (Below w.heap.size w w10) := HB.out.trans (Sq.mono HB.out.size)
  clear Sq
  have pg := T.x0
  have qg := T.x1
  have zg : w5_.heap.size < w10.heap.size := Nat.lt_of_succ_lt T.size
  have pd := T.y0
  have qd := T.y1
  have zd : w5_.heap.size + 1 < w10.heap.size := T.size
  have RG := Lib.hid T.rx
  have RD := Lib.hid T.ry
  clear T
  have HK : Hid (∀ w' : World, Below w10.heap.size w10 w' → w'.cell? ⟨w.heap.size, 0, none⟩ = some (.int .i64 len) ∧ w'.cell? ⟨w.heap.size, 1, none⟩ = some (.slice A N c)) := fun w' h => ⟨(h.cell (p := ⟨w.heap.size, 0, none⟩) zb).trans pb, (h.cell (p := ⟨w.heap.size, 1, none⟩) zb).trans qb⟩
  go_region_held3 (fun w' => w'.cell? ⟨w.heap.size, 0, none⟩ = some (.int .i64 len) ∧ w'.cell? ⟨w.heap.size, 1, none⟩ = some (.slice A N c))
    ((refine HK.out _ ?_; first | exact hk12.out | exact hk11.out | exact (Below.refl _ _).drew))
    (first
      | (go_at_call 23; have hx := hk11.out; refine (HE.out w11 (HA.out.on hx)).mono ?_; rintro e w12 ⟨rfl, B12⟩; have hk12 : Hid (Below w10.heap.size w10 w12) := hx.trans (B12.mono hx.size); clear B12 hx)
      | (go_at_call 23; refine (HE.out w10.drew HA.out).mono ?_; rintro e w11 ⟨rfl, B11⟩; have hk11 : Hid (Below w10.heap.size w10 w11) := ((Below.refl _ w10).drew).trans B11; clear B11))
  have Sq := hk12.out
  replace pb := (Sq.cell (p := ⟨w.heap.size, 0, none⟩) zb).trans pb
  replace qb := (Sq.cell (p := ⟨w.heap.size, 1, none⟩) zb).trans qb
  replace zb : w.heap.size < w12.heap.size := Nat.lt_of_lt_of_le zb Sq.size
  replace px := (Sq.cell (p := ⟨w1_.heap.size, 0, none⟩) zx).trans px
  replace qx := (Sq.cell (p := ⟨w1_.heap.size, 1, none⟩) zx).trans qx
  replace zx : w1_.heap.size < w12.heap.size := Nat.lt_of_lt_of_le zx Sq.size
  replace py := (Sq.cell (p := ⟨w2_.heap.size, 0, none⟩) zy).trans py
  replace qy := (Sq.cell (p := ⟨w2_.heap.size, 1, none⟩) zy).trans qy
  replace zy : w2_.heap.size < w12.heap.size := Nat.lt_of_lt_of_le zy Sq.size
  replace pg := (Sq.cell (p := ⟨w5_.heap.size, 0, none⟩) zg).trans pg
  replace qg := (Sq.cell (p := ⟨w5_.heap.size, 1, none⟩) zg).trans qg
  replace zg : w5_.heap.size < w12.heap.size := Nat.lt_of_lt_of_le zg Sq.size
  replace pd := (Sq.cell (p := ⟨(w5_.heap.size + 1), 0, none⟩) zd).trans pd
  replace qd := (Sq.cell (p := ⟨(w5_.heap.size + 1), 1, none⟩) zd).trans qd
  replace zd : (w5_.heap.size + 1) < w12.heap.size := Nat.lt_of_lt_of_le zd Sq.size
  replace HA : Hid (Rd w12 w12.heap.size A bs) := HA.out.on Sq
  replace RX : Hid (Rd w12 w12.heap.size A1 []) := RX.out.on Sq
  replace RY : Hid (Rd w12 w12.heap.size A2 []) := RY.out.on Sq
  replace RG : Hid (Rd w12 w12.heap.size none []) := RG.out.on Sq
  replace RD : Hid (Rd w12 w12.heap.size none []) := RD.out.on Sq
  replace HB : Hid (Below w.heap.size w w12) := HB.out.trans (Sq.mono HB.out.size)
  clear Sq HK hk11 hk12
  go_wp2_with fail
  refine (ebegun_true _).mono ?_
  rintro e w6_ ⟨rfl, Bq⟩
  have Sq : Below w12.heap.size w12 w6_ := Bq
  replace pb := (Sq.cell (p := ⟨w.heap.size, 0, none⟩) zb).trans pb
  replace qb := (Sq.cell (p := ⟨w.heap.size, 1, none⟩) zb).trans qb
  replace zb : w.heap.size < w6_.heap.size := Nat.lt_of_lt_of_le zb Sq.size
  replace px := (Sq.cell (p := ⟨w1_.heap.size, 0, none⟩) zx).trans px
  replace qx := (Sq.cell (p := ⟨w1_.heap.size, 1, none⟩) zx).trans qx
  replace zx : w1_.heap.size < w6_.heap.size := Nat.lt_of_lt_of_le zx Sq.size
  replace py := (Sq.cell (p := ⟨w2_.heap.size, 0, none⟩) zy).trans py
  replace qy := (Sq.cell (p := ⟨w2_.heap.size, 1, none⟩) zy).trans qy
  replace zy : w2_.heap.size < w6_.heap.size := Nat.lt_of_lt_of_le zy Sq.size
  replace pg := (Sq.cell (p := ⟨w5_.heap.size, 0, none⟩) zg).trans pg
  replace qg := (Sq.cell (p := ⟨w5_.heap.size, 1, none⟩) zg).trans qg
  replace zg : w5_.heap.size < w6_.heap.size := Nat.lt_of_lt_of_le zg Sq.size
  replace pd := (Sq.cell (p := ⟨(w5_.heap.size + 1), 0, none⟩) zd).trans pd
  replace qd := (Sq.cell (p := ⟨(w5_.heap.size + 1), 1, none⟩) zd).trans qd
  replace zd : (w5_.heap.size + 1) < w6_.heap.size := Nat.lt_of_lt_of_le zd Sq.size
  replace HA : Hid (Rd w6_ w6_.heap.size A bs) := HA.out.on Sq
  replace RX : Hid (Rd w6_ w6_.heap.size A1 []) := RX.out.on Sq
  replace RY : Hid (Rd w6_ w6_.heap.size A2 []) := RY.out.on Sq
  replace RG : Hid (Rd w6_ w6_.heap.size none []) := RG.out.on Sq
  replace RD : Hid (Rd w6_ w6_.heap.size none []) := RD.out.on Sq
  replace HB : Hid (Below w.heap.size w w6_) := HB.out.trans (Sq.mono HB.out.size)
  clear Bq Sq
  go_wp2_with fail
  refine (HSX.out A1 none c1 0 _ RX.out RG.out).mono ?_
  rintro e w7_ ⟨rfl, Bq⟩
  have Sq : Below w6_.heap.size w6_ w7_ := Bq
  replace pb := (Sq.cell (p := ⟨w.heap.size, 0, none⟩) zb).trans pb
  replace qb := (Sq.cell (p := ⟨w.heap.size, 1, none⟩) zb).trans qb
  replace zb : w.heap.size < w7_.heap.size := Nat.lt_of_lt_of_le zb Sq.size
  replace px := (Sq.cell (p := ⟨w1_.heap.size, 0, none⟩) zx).trans px
  replace qx := (Sq.cell (p := ⟨w1_.heap.size, 1, none⟩) zx).trans qx
  replace zx : w1_.heap.size < w7_.heap.size := Nat.lt_of_lt_of_le zx Sq.size
  replace py := (Sq.cell (p := ⟨w2_.heap.size, 0, none⟩) zy).trans py
  replace qy := (Sq.cell (p := ⟨w2_.heap.size, 1, none⟩) zy).trans qy
  replace zy : w2_.heap.size < w7_.heap.size := Nat.lt_of_lt_of_le zy Sq.size
  replace pg := (Sq.cell (p := ⟨w5_.heap.size, 0, none⟩) zg).trans pg
  replace qg := (Sq.cell (p := ⟨w5_.heap.size, 1, none⟩) zg).trans qg
  replace zg : w5_.heap.size < w7_.heap.size := Nat.lt_of_lt_of_le zg Sq.size
  replace pd := (Sq.cell (p := ⟨(w5_.heap.size + 1), 0, none⟩) zd).trans pd
  replace qd := (Sq.cell (p := ⟨(w5_.heap.size + 1), 1, none⟩) zd).trans qd
  replace zd : (w5_.heap.size + 1) < w7_.heap.size := Nat.lt_of_lt_of_le zd Sq.size
  replace HA : Hid (Rd w7_ w7_.heap.size A bs) := HA.out.on Sq
  replace RX : Hid (Rd w7_ w7_.heap.size A1 []) := RX.out.on Sq
  replace RY : Hid (Rd w7_ w7_.heap.size A2 []) := RY.out.on Sq
  replace RG : Hid (Rd w7_ w7_.heap.size none []) := RG.out.on Sq
  replace RD : Hid (Rd w7_ w7_.heap.size none []) := RD.out.on Sq
  replace HB : Hid (Below w.heap.size w w7_) := HB.out.trans (Sq.mono HB.out.size)
  clear Bq Sq
  go_wp2_with fail
  refine (HSY.out A2 none c2 0 _ RY.out RD.out).mono ?_
  rintro e w8_ ⟨rfl, Bq⟩
  have Sq : Below w7_.heap.size w7_ w8_ := Bq
  replace pb := (Sq.cell (p := ⟨w.heap.size, 0, none⟩) zb).trans pb
  replace qb := (Sq.cell (p := ⟨w.heap.size, 1, none⟩) zb).trans qb
  replace zb : w.heap.size < w8_.heap.size := Nat.lt_of_lt_of_le zb Sq.size
  replace px := (Sq.cell (p := ⟨w1_.heap.size, 0, none⟩) zx).trans px
  replace qx := (Sq.cell (p := ⟨w1_.heap.size, 1, none⟩) zx).trans qx
  replace zx : w1_.heap.size < w8_.heap.size := Nat.lt_of_lt_of_le zx Sq.size
  replace py := (Sq.cell (p := ⟨w2_.heap.size, 0, none⟩) zy).trans py
  replace qy := (Sq.cell (p := ⟨w2_.heap.size, 1, none⟩) zy).trans qy
  replace zy : w2_.heap.size < w8_.heap.size := Nat.lt_of_lt_of_le zy Sq.size
  replace pg := (Sq.cell (p := ⟨w5_.heap.size, 0, none⟩) zg).trans pg
  replace qg := (Sq.cell (p := ⟨w5_.heap.size, 1, none⟩) zg).trans qg
  replace zg : w5_.heap.size < w8_.heap.size := Nat.lt_of_lt_of_le zg Sq.size
  replace pd := (Sq.cell (p := ⟨(w5_.heap.size + 1), 0, none⟩) zd).trans pd
  replace qd := (Sq.cell (p := ⟨(w5_.heap.size + 1), 1, none⟩) zd).trans qd
  replace zd : (w5_.heap.size + 1) < w8_.heap.size := Nat.lt_of_lt_of_le zd Sq.size
  replace HA : Hid (Rd w8_ w8_.heap.size A bs) := HA.out.on Sq
  replace RX : Hid (Rd w8_ w8_.heap.size A1 []) := RX.out.on Sq
  replace RY : Hid (Rd w8_ w8_.heap.size A2 []) := RY.out.on Sq
  replace RG : Hid (Rd w8_ w8_.heap.size none []) := RG.out.on Sq
  replace RD : Hid (Rd w8_ w8_.heap.size none []) := RD.out.on Sq
  replace HB : Hid (Below w.heap.size w w8_) := HB.out.trans (Sq.mono HB.out.size)
  clear Bq Sq
  go_wp2
  go_ret
  exact ⟨rfl, HB.out⟩
set_option maxHeartbeats 4000000 in
theorem etells_bo (w : World) (n : Int) (len : Int) (A : Option Addr) (c N : Nat) (bs : List Nat) (p0 : Int) (hA : Rd w w.heap.size A bs) (r1 r2 s1 s2 nB : Nat) (g h : Int) (lB : List Bool) (hn : 1099511627776 < n)
    (HX : Hid (∀ V, Calls Try.prog 15 #[.int .u64 n] V (Gv V 0 0 [] 3)))
    (HY : Hid (∀ V, Calls Try.prog 16 #[.int .u64 n] V (Gv V 0 0 [] 3)))
    (HP : Hid (∀ V, Rd V V.heap.size A bs → Calls Try.prog 17 #[.agg #[.int .i64 len, .slice A N c], .int .i64 p0] V (ReadP V r1 r2 g)))
    (HQ : Hid (∀ V, Rd V V.heap.size A bs → Calls Try.prog 18 #[.agg #[.int .i64 len, .slice A N c], .int .i64 p0] V (ReadP V s1 s2 h)))
    (HL : Hid (∀ V, Calls Try.prog 19 #[.int .u64 n] V fun e w' => e = .returned (.tuple #[.int .i64 0, .int .i64 0, .int .i64 3]) ∧ Below V.heap.size V w'))
    (HE : Hid (∀ V, Rd V V.heap.size A bs → Calls Try.prog 23 #[.agg #[.int .i64 len, .slice A N c], .int .i64 p0] V fun e w' => e = .returned (.int .i64 0) ∧ Below V.heap.size V w'))
    (HSX : Hid (∀ A B c d V, Rd V V.heap.size A [] → Rd V V.heap.size B [] → Calls Try.prog 28 #[.agg #[.int .i64 0, .slice A 0 c], .agg #[.int .i64 0, .slice B 0 d]] V fun e w' => e = .returned (.bool true) ∧ Below V.heap.size V w'))
    (HSY : Hid (∀ A B c d V, Rd V V.heap.size A [] → Rd V V.heap.size B [] → Calls Try.prog 28 #[.agg #[.int .i64 0, .slice A 0 c], .agg #[.int .i64 0, .slice B 0 d]] V fun e w' => e = .returned (.bool true) ∧ Below V.heap.size V w'))
    (HBL : Hid (∀ V, Rd V V.heap.size A bs → Calls Try.prog 24 #[.agg #[.int .i64 len, .slice A N c]] V fun e w' => ∃ A c, e = .returned (.slice A nB c) ∧ RdV w' w'.heap.size A (ic lB) ∧ Below V.heap.size V w' ∧ (A = none → c = 0) ∧ nB ≤ c))
    (HGR : Hid (∀ A c V, RdV V V.heap.size A (ic lB) → (A = none → c = 0) → nB ≤ c → Calls Try.prog 25 #[.slice A nB c, .int .i64 p0] V (ReadP V r1 r2 g)))
    (HDR : Hid (∀ A c V, RdV V V.heap.size A (ic lB) → (A = none → c = 0) → nB ≤ c → Calls Try.prog 26 #[.slice A nB c, .int .i64 p0] V (ReadP V s1 s2 h))) :
    Calls Try.prog 3 #[.int .u64 n, .agg #[.int .i64 len, .slice A N c], .int .i64 p0] w fun e w' => e = .returned (.bool true) ∧ Below w.heap.size w w' := by
  have HA := Lib.hid hA; clear hA
  have t1 : decide ((1099511627776 : Int) < n) = true := by simp; omega
  go_enter Try.func3, Try.ntmps3
  go_wp2_with fail
  refine (HX.out _).mono ?_
  rintro e w1_ ⟨A1, c1, rfl, Rq, Bq⟩
  rw [World.size_alloc] at Bq
  have Sq : Below w.heap.size w w1_ := (one_below w _).trans (Bq.mono (by omega))
  have zb : w.heap.size < w1_.heap.size := by have := Bq.size; rw [World.size_alloc] at this; omega
  obtain ⟨pb, qb⟩ := box_at Bq
  replace HA : Hid (Rd w1_ w1_.heap.size A bs) := HA.out.on Sq
  have HB : Hid (Below w.heap.size w w1_) := Sq
  clear Bq Sq
  have RX := Lib.hid Rq; clear Rq
  go_wp2_with fail
  refine (HY.out _).mono ?_
  rintro e w2_ ⟨A2, c2, rfl, Rq, Bq⟩
  rw [World.size_alloc] at Bq
  have Sq : Below w1_.heap.size w1_ w2_ := (one_below w1_ _).trans (Bq.mono (by omega))
  have zx : w1_.heap.size < w2_.heap.size := by have := Bq.size; rw [World.size_alloc] at this; omega
  obtain ⟨px, qx⟩ := box_at Bq
  replace pb := (Sq.cell (p := ⟨w.heap.size, 0, none⟩) zb).trans pb
  replace qb := (Sq.cell (p := ⟨w.heap.size, 1, none⟩) zb).trans qb
  replace zb : w.heap.size < w2_.heap.size := Nat.lt_of_lt_of_le zb Sq.size
  replace HA : Hid (Rd w2_ w2_.heap.size A bs) := HA.out.on Sq
  replace RX : Hid (Rd w2_ w2_.heap.size A1 []) := RX.out.on Sq
  replace HB : Hid (Below w.heap.size w w2_) := HB.out.trans (Sq.mono HB.out.size)
  clear Bq Sq
  have RY := Lib.hid Rq; clear Rq
  go_wp2_with fail
  refine (HP.out _ (HA.out.on (one_below w2_ _))).mono ?_
  rintro e w3_ ⟨rfl, Bq⟩
  rw [World.size_alloc] at Bq
  have Sq : Below w2_.heap.size w2_ w3_ := (one_below w2_ _).trans (Bq.mono (by omega))
  have zy : w2_.heap.size < w3_.heap.size := by have := Bq.size; rw [World.size_alloc] at this; omega
  obtain ⟨py, qy⟩ := box_at Bq
  replace pb := (Sq.cell (p := ⟨w.heap.size, 0, none⟩) zb).trans pb
  replace qb := (Sq.cell (p := ⟨w.heap.size, 1, none⟩) zb).trans qb
  replace zb : w.heap.size < w3_.heap.size := Nat.lt_of_lt_of_le zb Sq.size
  replace px := (Sq.cell (p := ⟨w1_.heap.size, 0, none⟩) zx).trans px
  replace qx := (Sq.cell (p := ⟨w1_.heap.size, 1, none⟩) zx).trans qx
  replace zx : w1_.heap.size < w3_.heap.size := Nat.lt_of_lt_of_le zx Sq.size
  replace HA : Hid (Rd w3_ w3_.heap.size A bs) := HA.out.on Sq
  replace RX : Hid (Rd w3_ w3_.heap.size A1 []) := RX.out.on Sq
  replace RY : Hid (Rd w3_ w3_.heap.size A2 []) := RY.out.on Sq
  replace HB : Hid (Below w.heap.size w w3_) := HB.out.trans (Sq.mono HB.out.size)
  clear Bq Sq
  go_wp2_with fail
  refine (HQ.out _ HA.out).mono ?_
  rintro e w4_ ⟨rfl, Bq⟩
  have Sq : Below w3_.heap.size w3_ w4_ := Bq
  replace pb := (Sq.cell (p := ⟨w.heap.size, 0, none⟩) zb).trans pb
  replace qb := (Sq.cell (p := ⟨w.heap.size, 1, none⟩) zb).trans qb
  replace zb : w.heap.size < w4_.heap.size := Nat.lt_of_lt_of_le zb Sq.size
  replace px := (Sq.cell (p := ⟨w1_.heap.size, 0, none⟩) zx).trans px
  replace qx := (Sq.cell (p := ⟨w1_.heap.size, 1, none⟩) zx).trans qx
  replace zx : w1_.heap.size < w4_.heap.size := Nat.lt_of_lt_of_le zx Sq.size
  replace py := (Sq.cell (p := ⟨w2_.heap.size, 0, none⟩) zy).trans py
  replace qy := (Sq.cell (p := ⟨w2_.heap.size, 1, none⟩) zy).trans qy
  replace zy : w2_.heap.size < w4_.heap.size := Nat.lt_of_lt_of_le zy Sq.size
  replace HA : Hid (Rd w4_ w4_.heap.size A bs) := HA.out.on Sq
  replace RX : Hid (Rd w4_ w4_.heap.size A1 []) := RX.out.on Sq
  replace RY : Hid (Rd w4_ w4_.heap.size A2 []) := RY.out.on Sq
  replace HB : Hid (Below w.heap.size w w4_) := HB.out.trans (Sq.mono HB.out.size)
  clear Bq Sq
  go_wp2_with fail
  refine (HL.out _).mono ?_
  rintro e w5_ ⟨rfl, Bq⟩
  have Sq : Below w4_.heap.size w4_ w5_ := Bq
  replace pb := (Sq.cell (p := ⟨w.heap.size, 0, none⟩) zb).trans pb
  replace qb := (Sq.cell (p := ⟨w.heap.size, 1, none⟩) zb).trans qb
  replace zb : w.heap.size < w5_.heap.size := Nat.lt_of_lt_of_le zb Sq.size
  replace px := (Sq.cell (p := ⟨w1_.heap.size, 0, none⟩) zx).trans px
  replace qx := (Sq.cell (p := ⟨w1_.heap.size, 1, none⟩) zx).trans qx
  replace zx : w1_.heap.size < w5_.heap.size := Nat.lt_of_lt_of_le zx Sq.size
  replace py := (Sq.cell (p := ⟨w2_.heap.size, 0, none⟩) zy).trans py
  replace qy := (Sq.cell (p := ⟨w2_.heap.size, 1, none⟩) zy).trans qy
  replace zy : w2_.heap.size < w5_.heap.size := Nat.lt_of_lt_of_le zy Sq.size
  replace HA : Hid (Rd w5_ w5_.heap.size A bs) := HA.out.on Sq
  replace RX : Hid (Rd w5_ w5_.heap.size A1 []) := RX.out.on Sq
  replace RY : Hid (Rd w5_ w5_.heap.size A2 []) := RY.out.on Sq
  replace HB : Hid (Below w.heap.size w w5_) := HB.out.trans (Sq.mono HB.out.size)
  clear Bq Sq
  go_wp2_with fail
  obtain ⟨w10, hw, T⟩ := two_zero w5_
  rw [hw]
  clear hw
  have Sq := T.below
  replace pb := (Sq.cell (p := ⟨w.heap.size, 0, none⟩) zb).trans pb
  replace qb := (Sq.cell (p := ⟨w.heap.size, 1, none⟩) zb).trans qb
  replace zb : w.heap.size < w10.heap.size := Nat.lt_of_lt_of_le zb Sq.size
  replace px := (Sq.cell (p := ⟨w1_.heap.size, 0, none⟩) zx).trans px
  replace qx := (Sq.cell (p := ⟨w1_.heap.size, 1, none⟩) zx).trans qx
  replace zx : w1_.heap.size < w10.heap.size := Nat.lt_of_lt_of_le zx Sq.size
  replace py := (Sq.cell (p := ⟨w2_.heap.size, 0, none⟩) zy).trans py
  replace qy := (Sq.cell (p := ⟨w2_.heap.size, 1, none⟩) zy).trans qy
  replace zy : w2_.heap.size < w10.heap.size := Nat.lt_of_lt_of_le zy Sq.size
  replace HA : Hid (Rd w10 w10.heap.size A bs) := HA.out.on Sq
  replace RX : Hid (Rd w10 w10.heap.size A1 []) := RX.out.on Sq
  replace RY : Hid (Rd w10 w10.heap.size A2 []) := RY.out.on Sq
  replace HB : Hid (Below w.heap.size w w10) := HB.out.trans (Sq.mono HB.out.size)
  clear Sq
  have pg := T.x0
  have qg := T.x1
  have zg : w5_.heap.size < w10.heap.size := Nat.lt_of_succ_lt T.size
  have pd := T.y0
  have qd := T.y1
  have zd : w5_.heap.size + 1 < w10.heap.size := T.size
  have RG := Lib.hid T.rx
  have RD := Lib.hid T.ry
  clear T
  have HK : Hid (∀ w' : World, Below w10.heap.size w10 w' → w'.cell? ⟨w.heap.size, 0, none⟩ = some (.int .i64 len) ∧ w'.cell? ⟨w.heap.size, 1, none⟩ = some (.slice A N c)) := fun w' h => ⟨(h.cell (p := ⟨w.heap.size, 0, none⟩) zb).trans pb, (h.cell (p := ⟨w.heap.size, 1, none⟩) zb).trans qb⟩
  go_region_held3 (fun w' => w'.cell? ⟨w.heap.size, 0, none⟩ = some (.int .i64 len) ∧ w'.cell? ⟨w.heap.size, 1, none⟩ = some (.slice A N c))
    ((refine HK.out _ ?_; first | exact hk12.out | exact hk11.out | exact (Below.refl _ _).drew))
    (first
      | (go_at_call 23; have hx := hk11.out; refine (HE.out w11 (HA.out.on hx)).mono ?_; rintro e w12 ⟨rfl, B12⟩; have hk12 : Hid (Below w10.heap.size w10 w12) := hx.trans (B12.mono hx.size); clear B12 hx)
      | (go_at_call 23; refine (HE.out w10.drew HA.out).mono ?_; rintro e w11 ⟨rfl, B11⟩; have hk11 : Hid (Below w10.heap.size w10 w11) := ((Below.refl _ w10).drew).trans B11; clear B11))
  have Sq := hk12.out
  replace pb := (Sq.cell (p := ⟨w.heap.size, 0, none⟩) zb).trans pb
  replace qb := (Sq.cell (p := ⟨w.heap.size, 1, none⟩) zb).trans qb
  replace zb : w.heap.size < w12.heap.size := Nat.lt_of_lt_of_le zb Sq.size
  replace px := (Sq.cell (p := ⟨w1_.heap.size, 0, none⟩) zx).trans px
  replace qx := (Sq.cell (p := ⟨w1_.heap.size, 1, none⟩) zx).trans qx
  replace zx : w1_.heap.size < w12.heap.size := Nat.lt_of_lt_of_le zx Sq.size
  replace py := (Sq.cell (p := ⟨w2_.heap.size, 0, none⟩) zy).trans py
  replace qy := (Sq.cell (p := ⟨w2_.heap.size, 1, none⟩) zy).trans qy
  replace zy : w2_.heap.size < w12.heap.size := Nat.lt_of_lt_of_le zy Sq.size
  replace pg := (Sq.cell (p := ⟨w5_.heap.size, 0, none⟩) zg).trans pg
  replace qg := (Sq.cell (p := ⟨w5_.heap.size, 1, none⟩) zg).trans qg
  replace zg : w5_.heap.size < w12.heap.size := Nat.lt_of_lt_of_le zg Sq.size
  replace pd := (Sq.cell (p := ⟨(w5_.heap.size + 1), 0, none⟩) zd).trans pd
  replace qd := (Sq.cell (p := ⟨(w5_.heap.size + 1), 1, none⟩) zd).trans qd
  replace zd : (w5_.heap.size + 1) < w12.heap.size := Nat.lt_of_lt_of_le zd Sq.size
  replace HA : Hid (Rd w12 w12.heap.size A bs) := HA.out.on Sq
  replace RX : Hid (Rd w12 w12.heap.size A1 []) := RX.out.on Sq
  replace RY : Hid (Rd w12 w12.heap.size A2 []) := RY.out.on Sq
  replace RG : Hid (Rd w12 w12.heap.size none []) := RG.out.on Sq
  replace RD : Hid (Rd w12 w12.heap.size none []) := RD.out.on Sq
  replace HB : Hid (Below w.heap.size w w12) := HB.out.trans (Sq.mono HB.out.size)
  clear Sq HK hk11 hk12
  go_wp2_with fail
  refine (HBL.out _ HA.out).mono ?_
  rintro e w6_ ⟨A9, c9, rfl, Rq, Bq, hn9, hc9⟩
  have Sq : Below w12.heap.size w12 w6_ := Bq
  replace pb := (Sq.cell (p := ⟨w.heap.size, 0, none⟩) zb).trans pb
  replace qb := (Sq.cell (p := ⟨w.heap.size, 1, none⟩) zb).trans qb
  replace zb : w.heap.size < w6_.heap.size := Nat.lt_of_lt_of_le zb Sq.size
  replace px := (Sq.cell (p := ⟨w1_.heap.size, 0, none⟩) zx).trans px
  replace qx := (Sq.cell (p := ⟨w1_.heap.size, 1, none⟩) zx).trans qx
  replace zx : w1_.heap.size < w6_.heap.size := Nat.lt_of_lt_of_le zx Sq.size
  replace py := (Sq.cell (p := ⟨w2_.heap.size, 0, none⟩) zy).trans py
  replace qy := (Sq.cell (p := ⟨w2_.heap.size, 1, none⟩) zy).trans qy
  replace zy : w2_.heap.size < w6_.heap.size := Nat.lt_of_lt_of_le zy Sq.size
  replace pg := (Sq.cell (p := ⟨w5_.heap.size, 0, none⟩) zg).trans pg
  replace qg := (Sq.cell (p := ⟨w5_.heap.size, 1, none⟩) zg).trans qg
  replace zg : w5_.heap.size < w6_.heap.size := Nat.lt_of_lt_of_le zg Sq.size
  replace pd := (Sq.cell (p := ⟨(w5_.heap.size + 1), 0, none⟩) zd).trans pd
  replace qd := (Sq.cell (p := ⟨(w5_.heap.size + 1), 1, none⟩) zd).trans qd
  replace zd : (w5_.heap.size + 1) < w6_.heap.size := Nat.lt_of_lt_of_le zd Sq.size
  replace HA : Hid (Rd w6_ w6_.heap.size A bs) := HA.out.on Sq
  replace RX : Hid (Rd w6_ w6_.heap.size A1 []) := RX.out.on Sq
  replace RY : Hid (Rd w6_ w6_.heap.size A2 []) := RY.out.on Sq
  replace RG : Hid (Rd w6_ w6_.heap.size none []) := RG.out.on Sq
  replace RD : Hid (Rd w6_ w6_.heap.size none []) := RD.out.on Sq
  replace HB : Hid (Below w.heap.size w w6_) := HB.out.trans (Sq.mono HB.out.size)
  clear Bq Sq
  have RB := Lib.hid Rq; clear Rq
  have HN9 := Lib.hid hn9; have HC9 := Lib.hid hc9; clear hn9 hc9
  go_wp2_with fail
  refine (HGR.out A9 c9 _ RB.out HN9.out HC9.out).mono ?_
  rintro e w7_ ⟨rfl, Bq⟩
  have Sq : Below w6_.heap.size w6_ w7_ := Bq
  replace pb := (Sq.cell (p := ⟨w.heap.size, 0, none⟩) zb).trans pb
  replace qb := (Sq.cell (p := ⟨w.heap.size, 1, none⟩) zb).trans qb
  replace zb : w.heap.size < w7_.heap.size := Nat.lt_of_lt_of_le zb Sq.size
  replace px := (Sq.cell (p := ⟨w1_.heap.size, 0, none⟩) zx).trans px
  replace qx := (Sq.cell (p := ⟨w1_.heap.size, 1, none⟩) zx).trans qx
  replace zx : w1_.heap.size < w7_.heap.size := Nat.lt_of_lt_of_le zx Sq.size
  replace py := (Sq.cell (p := ⟨w2_.heap.size, 0, none⟩) zy).trans py
  replace qy := (Sq.cell (p := ⟨w2_.heap.size, 1, none⟩) zy).trans qy
  replace zy : w2_.heap.size < w7_.heap.size := Nat.lt_of_lt_of_le zy Sq.size
  replace pg := (Sq.cell (p := ⟨w5_.heap.size, 0, none⟩) zg).trans pg
  replace qg := (Sq.cell (p := ⟨w5_.heap.size, 1, none⟩) zg).trans qg
  replace zg : w5_.heap.size < w7_.heap.size := Nat.lt_of_lt_of_le zg Sq.size
  replace pd := (Sq.cell (p := ⟨(w5_.heap.size + 1), 0, none⟩) zd).trans pd
  replace qd := (Sq.cell (p := ⟨(w5_.heap.size + 1), 1, none⟩) zd).trans qd
  replace zd : (w5_.heap.size + 1) < w7_.heap.size := Nat.lt_of_lt_of_le zd Sq.size
  replace HA : Hid (Rd w7_ w7_.heap.size A bs) := HA.out.on Sq
  replace RX : Hid (Rd w7_ w7_.heap.size A1 []) := RX.out.on Sq
  replace RY : Hid (Rd w7_ w7_.heap.size A2 []) := RY.out.on Sq
  replace RG : Hid (Rd w7_ w7_.heap.size none []) := RG.out.on Sq
  replace RD : Hid (Rd w7_ w7_.heap.size none []) := RD.out.on Sq
  replace RB : Hid (RdV w7_ w7_.heap.size A9 (ic lB)) := RB.out.on Sq
  replace HB : Hid (Below w.heap.size w w7_) := HB.out.trans (Sq.mono HB.out.size)
  clear Bq Sq
  go_wp2_with fail
  refine (HDR.out A9 c9 _ RB.out HN9.out HC9.out).mono ?_
  rintro e w8_ ⟨rfl, Bq⟩
  have Sq : Below w7_.heap.size w7_ w8_ := Bq
  replace pb := (Sq.cell (p := ⟨w.heap.size, 0, none⟩) zb).trans pb
  replace qb := (Sq.cell (p := ⟨w.heap.size, 1, none⟩) zb).trans qb
  replace zb : w.heap.size < w8_.heap.size := Nat.lt_of_lt_of_le zb Sq.size
  replace px := (Sq.cell (p := ⟨w1_.heap.size, 0, none⟩) zx).trans px
  replace qx := (Sq.cell (p := ⟨w1_.heap.size, 1, none⟩) zx).trans qx
  replace zx : w1_.heap.size < w8_.heap.size := Nat.lt_of_lt_of_le zx Sq.size
  replace py := (Sq.cell (p := ⟨w2_.heap.size, 0, none⟩) zy).trans py
  replace qy := (Sq.cell (p := ⟨w2_.heap.size, 1, none⟩) zy).trans qy
  replace zy : w2_.heap.size < w8_.heap.size := Nat.lt_of_lt_of_le zy Sq.size
  replace pg := (Sq.cell (p := ⟨w5_.heap.size, 0, none⟩) zg).trans pg
  replace qg := (Sq.cell (p := ⟨w5_.heap.size, 1, none⟩) zg).trans qg
  replace zg : w5_.heap.size < w8_.heap.size := Nat.lt_of_lt_of_le zg Sq.size
  replace pd := (Sq.cell (p := ⟨(w5_.heap.size + 1), 0, none⟩) zd).trans pd
  replace qd := (Sq.cell (p := ⟨(w5_.heap.size + 1), 1, none⟩) zd).trans qd
  replace zd : (w5_.heap.size + 1) < w8_.heap.size := Nat.lt_of_lt_of_le zd Sq.size
  replace HA : Hid (Rd w8_ w8_.heap.size A bs) := HA.out.on Sq
  replace RX : Hid (Rd w8_ w8_.heap.size A1 []) := RX.out.on Sq
  replace RY : Hid (Rd w8_ w8_.heap.size A2 []) := RY.out.on Sq
  replace RG : Hid (Rd w8_ w8_.heap.size none []) := RG.out.on Sq
  replace RD : Hid (Rd w8_ w8_.heap.size none []) := RD.out.on Sq
  replace RB : Hid (RdV w8_ w8_.heap.size A9 (ic lB)) := RB.out.on Sq
  replace HB : Hid (Below w.heap.size w w8_) := HB.out.trans (Sq.mono HB.out.size)
  clear Bq Sq
  go_wp2_with fail
  refine (ebegun_true _).mono ?_
  rintro e w9_ ⟨rfl, Bq⟩
  have Sq : Below w8_.heap.size w8_ w9_ := Bq
  replace pb := (Sq.cell (p := ⟨w.heap.size, 0, none⟩) zb).trans pb
  replace qb := (Sq.cell (p := ⟨w.heap.size, 1, none⟩) zb).trans qb
  replace zb : w.heap.size < w9_.heap.size := Nat.lt_of_lt_of_le zb Sq.size
  replace px := (Sq.cell (p := ⟨w1_.heap.size, 0, none⟩) zx).trans px
  replace qx := (Sq.cell (p := ⟨w1_.heap.size, 1, none⟩) zx).trans qx
  replace zx : w1_.heap.size < w9_.heap.size := Nat.lt_of_lt_of_le zx Sq.size
  replace py := (Sq.cell (p := ⟨w2_.heap.size, 0, none⟩) zy).trans py
  replace qy := (Sq.cell (p := ⟨w2_.heap.size, 1, none⟩) zy).trans qy
  replace zy : w2_.heap.size < w9_.heap.size := Nat.lt_of_lt_of_le zy Sq.size
  replace pg := (Sq.cell (p := ⟨w5_.heap.size, 0, none⟩) zg).trans pg
  replace qg := (Sq.cell (p := ⟨w5_.heap.size, 1, none⟩) zg).trans qg
  replace zg : w5_.heap.size < w9_.heap.size := Nat.lt_of_lt_of_le zg Sq.size
  replace pd := (Sq.cell (p := ⟨(w5_.heap.size + 1), 0, none⟩) zd).trans pd
  replace qd := (Sq.cell (p := ⟨(w5_.heap.size + 1), 1, none⟩) zd).trans qd
  replace zd : (w5_.heap.size + 1) < w9_.heap.size := Nat.lt_of_lt_of_le zd Sq.size
  replace HA : Hid (Rd w9_ w9_.heap.size A bs) := HA.out.on Sq
  replace RX : Hid (Rd w9_ w9_.heap.size A1 []) := RX.out.on Sq
  replace RY : Hid (Rd w9_ w9_.heap.size A2 []) := RY.out.on Sq
  replace RG : Hid (Rd w9_ w9_.heap.size none []) := RG.out.on Sq
  replace RD : Hid (Rd w9_ w9_.heap.size none []) := RD.out.on Sq
  replace RB : Hid (RdV w9_ w9_.heap.size A9 (ic lB)) := RB.out.on Sq
  replace HB : Hid (Below w.heap.size w w9_) := HB.out.trans (Sq.mono HB.out.size)
  clear Bq Sq
  go_wp2_with fail
  refine (HSX.out A1 none c1 0 _ RX.out RG.out).mono ?_
  rintro e w10_ ⟨rfl, Bq⟩
  have Sq : Below w9_.heap.size w9_ w10_ := Bq
  replace pb := (Sq.cell (p := ⟨w.heap.size, 0, none⟩) zb).trans pb
  replace qb := (Sq.cell (p := ⟨w.heap.size, 1, none⟩) zb).trans qb
  replace zb : w.heap.size < w10_.heap.size := Nat.lt_of_lt_of_le zb Sq.size
  replace px := (Sq.cell (p := ⟨w1_.heap.size, 0, none⟩) zx).trans px
  replace qx := (Sq.cell (p := ⟨w1_.heap.size, 1, none⟩) zx).trans qx
  replace zx : w1_.heap.size < w10_.heap.size := Nat.lt_of_lt_of_le zx Sq.size
  replace py := (Sq.cell (p := ⟨w2_.heap.size, 0, none⟩) zy).trans py
  replace qy := (Sq.cell (p := ⟨w2_.heap.size, 1, none⟩) zy).trans qy
  replace zy : w2_.heap.size < w10_.heap.size := Nat.lt_of_lt_of_le zy Sq.size
  replace pg := (Sq.cell (p := ⟨w5_.heap.size, 0, none⟩) zg).trans pg
  replace qg := (Sq.cell (p := ⟨w5_.heap.size, 1, none⟩) zg).trans qg
  replace zg : w5_.heap.size < w10_.heap.size := Nat.lt_of_lt_of_le zg Sq.size
  replace pd := (Sq.cell (p := ⟨(w5_.heap.size + 1), 0, none⟩) zd).trans pd
  replace qd := (Sq.cell (p := ⟨(w5_.heap.size + 1), 1, none⟩) zd).trans qd
  replace zd : (w5_.heap.size + 1) < w10_.heap.size := Nat.lt_of_lt_of_le zd Sq.size
  replace HA : Hid (Rd w10_ w10_.heap.size A bs) := HA.out.on Sq
  replace RX : Hid (Rd w10_ w10_.heap.size A1 []) := RX.out.on Sq
  replace RY : Hid (Rd w10_ w10_.heap.size A2 []) := RY.out.on Sq
  replace RG : Hid (Rd w10_ w10_.heap.size none []) := RG.out.on Sq
  replace RD : Hid (Rd w10_ w10_.heap.size none []) := RD.out.on Sq
  replace RB : Hid (RdV w10_ w10_.heap.size A9 (ic lB)) := RB.out.on Sq
  replace HB : Hid (Below w.heap.size w w10_) := HB.out.trans (Sq.mono HB.out.size)
  clear Bq Sq
  go_wp2_with fail
  refine (HSY.out A2 none c2 0 _ RY.out RD.out).mono ?_
  rintro e w11_ ⟨rfl, Bq⟩
  have Sq : Below w10_.heap.size w10_ w11_ := Bq
  replace pb := (Sq.cell (p := ⟨w.heap.size, 0, none⟩) zb).trans pb
  replace qb := (Sq.cell (p := ⟨w.heap.size, 1, none⟩) zb).trans qb
  replace zb : w.heap.size < w11_.heap.size := Nat.lt_of_lt_of_le zb Sq.size
  replace px := (Sq.cell (p := ⟨w1_.heap.size, 0, none⟩) zx).trans px
  replace qx := (Sq.cell (p := ⟨w1_.heap.size, 1, none⟩) zx).trans qx
  replace zx : w1_.heap.size < w11_.heap.size := Nat.lt_of_lt_of_le zx Sq.size
  replace py := (Sq.cell (p := ⟨w2_.heap.size, 0, none⟩) zy).trans py
  replace qy := (Sq.cell (p := ⟨w2_.heap.size, 1, none⟩) zy).trans qy
  replace zy : w2_.heap.size < w11_.heap.size := Nat.lt_of_lt_of_le zy Sq.size
  replace pg := (Sq.cell (p := ⟨w5_.heap.size, 0, none⟩) zg).trans pg
  replace qg := (Sq.cell (p := ⟨w5_.heap.size, 1, none⟩) zg).trans qg
  replace zg : w5_.heap.size < w11_.heap.size := Nat.lt_of_lt_of_le zg Sq.size
  replace pd := (Sq.cell (p := ⟨(w5_.heap.size + 1), 0, none⟩) zd).trans pd
  replace qd := (Sq.cell (p := ⟨(w5_.heap.size + 1), 1, none⟩) zd).trans qd
  replace zd : (w5_.heap.size + 1) < w11_.heap.size := Nat.lt_of_lt_of_le zd Sq.size
  replace HA : Hid (Rd w11_ w11_.heap.size A bs) := HA.out.on Sq
  replace RX : Hid (Rd w11_ w11_.heap.size A1 []) := RX.out.on Sq
  replace RY : Hid (Rd w11_ w11_.heap.size A2 []) := RY.out.on Sq
  replace RG : Hid (Rd w11_ w11_.heap.size none []) := RG.out.on Sq
  replace RD : Hid (Rd w11_ w11_.heap.size none []) := RD.out.on Sq
  replace RB : Hid (RdV w11_ w11_.heap.size A9 (ic lB)) := RB.out.on Sq
  replace HB : Hid (Below w.heap.size w w11_) := HB.out.trans (Sq.mono HB.out.size)
  clear Bq Sq
  go_wp2
  go_ret
  exact ⟨rfl, HB.out⟩
set_option maxHeartbeats 4000000 in
theorem etells_ob (w : World) (n : Int) (len : Int) (A : Option Addr) (c N : Nat) (bs : List Nat) (p0 : Int) (hA : Rd w w.heap.size A bs) (lX lY : Int) (nX nY nG nD : Nat) (bX bY : List Nat) (lG lD : List Bool) (e0 : Int) (h0 : e0 ≠ 0) (hn : n ≤ 1099511627776)
    (HX : Hid (∀ V, Calls Try.prog 15 #[.int .u64 n] V (Gv V lX nX bX 0)))
    (HY : Hid (∀ V, Calls Try.prog 16 #[.int .u64 n] V (Gv V lY nY bY 0)))
    (HP : Hid (∀ V, Rd V V.heap.size A bs → Calls Try.prog 17 #[.agg #[.int .i64 len, .slice A N c], .int .i64 p0] V (ReadP V 0 0 e0)))
    (HQ : Hid (∀ V, Rd V V.heap.size A bs → Calls Try.prog 18 #[.agg #[.int .i64 len, .slice A N c], .int .i64 p0] V (ReadP V 0 0 e0)))
    (HL : Hid (∀ V, Calls Try.prog 19 #[.int .u64 n] V fun e w' => e = .returned (.tuple #[.int .i64 lX, .int .i64 lY, .int .i64 0]) ∧ Below V.heap.size V w'))
    (HE : Hid (∀ V, Rd V V.heap.size A bs → Calls Try.prog 23 #[.agg #[.int .i64 len, .slice A N c], .int .i64 p0] V fun e w' => e = .returned (.int .i64 e0) ∧ Below V.heap.size V w'))
    (HGL : Hid (∀ V, Calls Try.prog 21 #[.int .u64 n] V fun e w' => ∃ A c, e = .returned (.slice A nG c) ∧ RdV w' w'.heap.size A (ic lG) ∧ Below V.heap.size V w'))
    (HPG : Hid (∀ A c V, RdV V V.heap.size A (ic lG) → Calls Try.prog 20 #[.slice A nG c] V fun e w' => ∃ A c, e = .returned (.agg #[.int .i64 lX, .slice A nX c]) ∧ Rd w' w'.heap.size A bX ∧ Below V.heap.size V w'))
    (HDL : Hid (∀ V, Calls Try.prog 22 #[.int .u64 n] V fun e w' => ∃ A c, e = .returned (.slice A nD c) ∧ RdV w' w'.heap.size A (ic lD) ∧ Below V.heap.size V w'))
    (HPD : Hid (∀ A c V, RdV V V.heap.size A (ic lD) → Calls Try.prog 20 #[.slice A nD c] V fun e w' => ∃ A c, e = .returned (.agg #[.int .i64 lY, .slice A nY c]) ∧ Rd w' w'.heap.size A bY ∧ Below V.heap.size V w'))
    (HSX : Hid (∀ A B c d V, Rd V V.heap.size A bX → Rd V V.heap.size B bX → Calls Try.prog 28 #[.agg #[.int .i64 lX, .slice A nX c], .agg #[.int .i64 lX, .slice B nX d]] V fun e w' => e = .returned (.bool true) ∧ Below V.heap.size V w'))
    (HSY : Hid (∀ A B c d V, Rd V V.heap.size A bY → Rd V V.heap.size B bY → Calls Try.prog 28 #[.agg #[.int .i64 lY, .slice A nY c], .agg #[.int .i64 lY, .slice B nY d]] V fun e w' => e = .returned (.bool true) ∧ Below V.heap.size V w')) :
    Calls Try.prog 3 #[.int .u64 n, .agg #[.int .i64 len, .slice A N c], .int .i64 p0] w fun e w' => e = .returned (.bool true) ∧ Below w.heap.size w w' := by
  have HA := Lib.hid hA; clear hA
  have t1 : decide ((1099511627776 : Int) < n) = false := by simp; omega
  have t2 : (e0 == 0) = false := by simpa using h0
  clear h0
  go_enter Try.func3, Try.ntmps3
  go_wp2_with fail
  refine (HX.out _).mono ?_
  rintro e w1_ ⟨A1, c1, rfl, Rq, Bq⟩
  rw [World.size_alloc] at Bq
  have Sq : Below w.heap.size w w1_ := (one_below w _).trans (Bq.mono (by omega))
  have zb : w.heap.size < w1_.heap.size := by have := Bq.size; rw [World.size_alloc] at this; omega
  obtain ⟨pb, qb⟩ := box_at Bq
  replace HA : Hid (Rd w1_ w1_.heap.size A bs) := HA.out.on Sq
  have HB : Hid (Below w.heap.size w w1_) := Sq
  clear Bq Sq
  have RX := Lib.hid Rq; clear Rq
  go_wp2_with fail
  refine (HY.out _).mono ?_
  rintro e w2_ ⟨A2, c2, rfl, Rq, Bq⟩
  rw [World.size_alloc] at Bq
  have Sq : Below w1_.heap.size w1_ w2_ := (one_below w1_ _).trans (Bq.mono (by omega))
  have zx : w1_.heap.size < w2_.heap.size := by have := Bq.size; rw [World.size_alloc] at this; omega
  obtain ⟨px, qx⟩ := box_at Bq
  replace pb := (Sq.cell (p := ⟨w.heap.size, 0, none⟩) zb).trans pb
  replace qb := (Sq.cell (p := ⟨w.heap.size, 1, none⟩) zb).trans qb
  replace zb : w.heap.size < w2_.heap.size := Nat.lt_of_lt_of_le zb Sq.size
  replace HA : Hid (Rd w2_ w2_.heap.size A bs) := HA.out.on Sq
  replace RX : Hid (Rd w2_ w2_.heap.size A1 bX) := RX.out.on Sq
  replace HB : Hid (Below w.heap.size w w2_) := HB.out.trans (Sq.mono HB.out.size)
  clear Bq Sq
  have RY := Lib.hid Rq; clear Rq
  go_wp2_with fail
  refine (HP.out _ (HA.out.on (one_below w2_ _))).mono ?_
  rintro e w3_ ⟨rfl, Bq⟩
  rw [World.size_alloc] at Bq
  have Sq : Below w2_.heap.size w2_ w3_ := (one_below w2_ _).trans (Bq.mono (by omega))
  have zy : w2_.heap.size < w3_.heap.size := by have := Bq.size; rw [World.size_alloc] at this; omega
  obtain ⟨py, qy⟩ := box_at Bq
  replace pb := (Sq.cell (p := ⟨w.heap.size, 0, none⟩) zb).trans pb
  replace qb := (Sq.cell (p := ⟨w.heap.size, 1, none⟩) zb).trans qb
  replace zb : w.heap.size < w3_.heap.size := Nat.lt_of_lt_of_le zb Sq.size
  replace px := (Sq.cell (p := ⟨w1_.heap.size, 0, none⟩) zx).trans px
  replace qx := (Sq.cell (p := ⟨w1_.heap.size, 1, none⟩) zx).trans qx
  replace zx : w1_.heap.size < w3_.heap.size := Nat.lt_of_lt_of_le zx Sq.size
  replace HA : Hid (Rd w3_ w3_.heap.size A bs) := HA.out.on Sq
  replace RX : Hid (Rd w3_ w3_.heap.size A1 bX) := RX.out.on Sq
  replace RY : Hid (Rd w3_ w3_.heap.size A2 bY) := RY.out.on Sq
  replace HB : Hid (Below w.heap.size w w3_) := HB.out.trans (Sq.mono HB.out.size)
  clear Bq Sq
  go_wp2_with fail
  refine (HQ.out _ HA.out).mono ?_
  rintro e w4_ ⟨rfl, Bq⟩
  have Sq : Below w3_.heap.size w3_ w4_ := Bq
  replace pb := (Sq.cell (p := ⟨w.heap.size, 0, none⟩) zb).trans pb
  replace qb := (Sq.cell (p := ⟨w.heap.size, 1, none⟩) zb).trans qb
  replace zb : w.heap.size < w4_.heap.size := Nat.lt_of_lt_of_le zb Sq.size
  replace px := (Sq.cell (p := ⟨w1_.heap.size, 0, none⟩) zx).trans px
  replace qx := (Sq.cell (p := ⟨w1_.heap.size, 1, none⟩) zx).trans qx
  replace zx : w1_.heap.size < w4_.heap.size := Nat.lt_of_lt_of_le zx Sq.size
  replace py := (Sq.cell (p := ⟨w2_.heap.size, 0, none⟩) zy).trans py
  replace qy := (Sq.cell (p := ⟨w2_.heap.size, 1, none⟩) zy).trans qy
  replace zy : w2_.heap.size < w4_.heap.size := Nat.lt_of_lt_of_le zy Sq.size
  replace HA : Hid (Rd w4_ w4_.heap.size A bs) := HA.out.on Sq
  replace RX : Hid (Rd w4_ w4_.heap.size A1 bX) := RX.out.on Sq
  replace RY : Hid (Rd w4_ w4_.heap.size A2 bY) := RY.out.on Sq
  replace HB : Hid (Below w.heap.size w w4_) := HB.out.trans (Sq.mono HB.out.size)
  clear Bq Sq
  go_wp2_with fail
  refine (HL.out _).mono ?_
  rintro e w5_ ⟨rfl, Bq⟩
  have Sq : Below w4_.heap.size w4_ w5_ := Bq
  replace pb := (Sq.cell (p := ⟨w.heap.size, 0, none⟩) zb).trans pb
  replace qb := (Sq.cell (p := ⟨w.heap.size, 1, none⟩) zb).trans qb
  replace zb : w.heap.size < w5_.heap.size := Nat.lt_of_lt_of_le zb Sq.size
  replace px := (Sq.cell (p := ⟨w1_.heap.size, 0, none⟩) zx).trans px
  replace qx := (Sq.cell (p := ⟨w1_.heap.size, 1, none⟩) zx).trans qx
  replace zx : w1_.heap.size < w5_.heap.size := Nat.lt_of_lt_of_le zx Sq.size
  replace py := (Sq.cell (p := ⟨w2_.heap.size, 0, none⟩) zy).trans py
  replace qy := (Sq.cell (p := ⟨w2_.heap.size, 1, none⟩) zy).trans qy
  replace zy : w2_.heap.size < w5_.heap.size := Nat.lt_of_lt_of_le zy Sq.size
  replace HA : Hid (Rd w5_ w5_.heap.size A bs) := HA.out.on Sq
  replace RX : Hid (Rd w5_ w5_.heap.size A1 bX) := RX.out.on Sq
  replace RY : Hid (Rd w5_ w5_.heap.size A2 bY) := RY.out.on Sq
  replace HB : Hid (Below w.heap.size w w5_) := HB.out.trans (Sq.mono HB.out.size)
  clear Bq Sq
  go_wp2_with fail
  refine (HGL.out _).mono ?_
  rintro e w6 ⟨A5, c5, rfl, R5, B5⟩
  have H5 := Lib.hid R5; have K5 := Lib.hid B5; clear R5 B5
  go_wp2_with fail
  refine (HPG.out A5 c5 _ H5.out).mono ?_
  rintro e w7 ⟨A6, c6, rfl, R6, B6⟩
  have H6 := Lib.hid R6; have K6 := Lib.hid (K5.out.trans (B6.mono K5.out.size)); clear R6 B6 H5 K5
  go_wp2_with fail
  refine (HDL.out _).mono ?_
  rintro e w8 ⟨A7, c7, rfl, R7, B7⟩
  have H7 := Lib.hid R7; have H6b := Lib.hid (H6.out.on B7); have K7 := Lib.hid (K6.out.trans (B7.mono K6.out.size)); clear R7 B7 H6 K6
  go_wp2_with fail
  refine (HPD.out A7 c7 _ H7.out).mono ?_
  rintro e w9 ⟨A8, c8, rfl, R8, B8⟩
  have K8 := K7.out.trans (B8.mono K7.out.size)
  obtain ⟨⟨⟨d0, d1, g0, g1⟩, ⟨d2, d3, g2, g3⟩⟩, HT⟩ := two_store K8 lX lY nX nY A6 A8 c6 c8 bX bY (H6b.out.on B8) R8
  clear R8 B8 K8 H7 H6b K7
  go_wp2_with fail
  obtain ⟨w10, hw, T⟩ := HT.out
  rw [hw]
  clear hw HT d0 d1 d2 d3 g0 g1 g2 g3
  have Sq := T.below
  replace pb := (Sq.cell (p := ⟨w.heap.size, 0, none⟩) zb).trans pb
  replace qb := (Sq.cell (p := ⟨w.heap.size, 1, none⟩) zb).trans qb
  replace zb : w.heap.size < w10.heap.size := Nat.lt_of_lt_of_le zb Sq.size
  replace px := (Sq.cell (p := ⟨w1_.heap.size, 0, none⟩) zx).trans px
  replace qx := (Sq.cell (p := ⟨w1_.heap.size, 1, none⟩) zx).trans qx
  replace zx : w1_.heap.size < w10.heap.size := Nat.lt_of_lt_of_le zx Sq.size
  replace py := (Sq.cell (p := ⟨w2_.heap.size, 0, none⟩) zy).trans py
  replace qy := (Sq.cell (p := ⟨w2_.heap.size, 1, none⟩) zy).trans qy
  replace zy : w2_.heap.size < w10.heap.size := Nat.lt_of_lt_of_le zy Sq.size
  replace HA : Hid (Rd w10 w10.heap.size A bs) := HA.out.on Sq
  replace RX : Hid (Rd w10 w10.heap.size A1 bX) := RX.out.on Sq
  replace RY : Hid (Rd w10 w10.heap.size A2 bY) := RY.out.on Sq
  replace HB : Hid (Below w.heap.size w w10) := HB.out.trans (Sq.mono HB.out.size)
  clear Sq
  have pg := T.x0
  have qg := T.x1
  have zg : w5_.heap.size < w10.heap.size := Nat.lt_of_succ_lt T.size
  have pd := T.y0
  have qd := T.y1
  have zd : w5_.heap.size + 1 < w10.heap.size := T.size
  have RG := Lib.hid T.rx
  have RD := Lib.hid T.ry
  clear T
  have HK : Hid (∀ w' : World, Below w10.heap.size w10 w' → w'.cell? ⟨w.heap.size, 0, none⟩ = some (.int .i64 len) ∧ w'.cell? ⟨w.heap.size, 1, none⟩ = some (.slice A N c)) := fun w' h => ⟨(h.cell (p := ⟨w.heap.size, 0, none⟩) zb).trans pb, (h.cell (p := ⟨w.heap.size, 1, none⟩) zb).trans qb⟩
  go_region_held3 (fun w' => w'.cell? ⟨w.heap.size, 0, none⟩ = some (.int .i64 len) ∧ w'.cell? ⟨w.heap.size, 1, none⟩ = some (.slice A N c))
    ((refine HK.out _ ?_; first | exact hk12.out | exact hk11.out | exact (Below.refl _ _).drew))
    (first
      | (go_at_call 23; have hx := hk11.out; refine (HE.out w11 (HA.out.on hx)).mono ?_; rintro e w12 ⟨rfl, B12⟩; have hk12 : Hid (Below w10.heap.size w10 w12) := hx.trans (B12.mono hx.size); clear B12 hx)
      | (go_at_call 23; refine (HE.out w10.drew HA.out).mono ?_; rintro e w11 ⟨rfl, B11⟩; have hk11 : Hid (Below w10.heap.size w10 w11) := ((Below.refl _ w10).drew).trans B11; clear B11))
  have Sq := hk12.out
  replace pb := (Sq.cell (p := ⟨w.heap.size, 0, none⟩) zb).trans pb
  replace qb := (Sq.cell (p := ⟨w.heap.size, 1, none⟩) zb).trans qb
  replace zb : w.heap.size < w12.heap.size := Nat.lt_of_lt_of_le zb Sq.size
  replace px := (Sq.cell (p := ⟨w1_.heap.size, 0, none⟩) zx).trans px
  replace qx := (Sq.cell (p := ⟨w1_.heap.size, 1, none⟩) zx).trans qx
  replace zx : w1_.heap.size < w12.heap.size := Nat.lt_of_lt_of_le zx Sq.size
  replace py := (Sq.cell (p := ⟨w2_.heap.size, 0, none⟩) zy).trans py
  replace qy := (Sq.cell (p := ⟨w2_.heap.size, 1, none⟩) zy).trans qy
  replace zy : w2_.heap.size < w12.heap.size := Nat.lt_of_lt_of_le zy Sq.size
  replace pg := (Sq.cell (p := ⟨w5_.heap.size, 0, none⟩) zg).trans pg
  replace qg := (Sq.cell (p := ⟨w5_.heap.size, 1, none⟩) zg).trans qg
  replace zg : w5_.heap.size < w12.heap.size := Nat.lt_of_lt_of_le zg Sq.size
  replace pd := (Sq.cell (p := ⟨(w5_.heap.size + 1), 0, none⟩) zd).trans pd
  replace qd := (Sq.cell (p := ⟨(w5_.heap.size + 1), 1, none⟩) zd).trans qd
  replace zd : (w5_.heap.size + 1) < w12.heap.size := Nat.lt_of_lt_of_le zd Sq.size
  replace HA : Hid (Rd w12 w12.heap.size A bs) := HA.out.on Sq
  replace RX : Hid (Rd w12 w12.heap.size A1 bX) := RX.out.on Sq
  replace RY : Hid (Rd w12 w12.heap.size A2 bY) := RY.out.on Sq
  replace RG : Hid (Rd w12 w12.heap.size A6 bX) := RG.out.on Sq
  replace RD : Hid (Rd w12 w12.heap.size A8 bY) := RD.out.on Sq
  replace HB : Hid (Below w.heap.size w w12) := HB.out.trans (Sq.mono HB.out.size)
  clear Sq HK hk11 hk12
  go_wp2_with fail
  refine (ebegun_true _).mono ?_
  rintro e w6_ ⟨rfl, Bq⟩
  have Sq : Below w12.heap.size w12 w6_ := Bq
  replace pb := (Sq.cell (p := ⟨w.heap.size, 0, none⟩) zb).trans pb
  replace qb := (Sq.cell (p := ⟨w.heap.size, 1, none⟩) zb).trans qb
  replace zb : w.heap.size < w6_.heap.size := Nat.lt_of_lt_of_le zb Sq.size
  replace px := (Sq.cell (p := ⟨w1_.heap.size, 0, none⟩) zx).trans px
  replace qx := (Sq.cell (p := ⟨w1_.heap.size, 1, none⟩) zx).trans qx
  replace zx : w1_.heap.size < w6_.heap.size := Nat.lt_of_lt_of_le zx Sq.size
  replace py := (Sq.cell (p := ⟨w2_.heap.size, 0, none⟩) zy).trans py
  replace qy := (Sq.cell (p := ⟨w2_.heap.size, 1, none⟩) zy).trans qy
  replace zy : w2_.heap.size < w6_.heap.size := Nat.lt_of_lt_of_le zy Sq.size
  replace pg := (Sq.cell (p := ⟨w5_.heap.size, 0, none⟩) zg).trans pg
  replace qg := (Sq.cell (p := ⟨w5_.heap.size, 1, none⟩) zg).trans qg
  replace zg : w5_.heap.size < w6_.heap.size := Nat.lt_of_lt_of_le zg Sq.size
  replace pd := (Sq.cell (p := ⟨(w5_.heap.size + 1), 0, none⟩) zd).trans pd
  replace qd := (Sq.cell (p := ⟨(w5_.heap.size + 1), 1, none⟩) zd).trans qd
  replace zd : (w5_.heap.size + 1) < w6_.heap.size := Nat.lt_of_lt_of_le zd Sq.size
  replace HA : Hid (Rd w6_ w6_.heap.size A bs) := HA.out.on Sq
  replace RX : Hid (Rd w6_ w6_.heap.size A1 bX) := RX.out.on Sq
  replace RY : Hid (Rd w6_ w6_.heap.size A2 bY) := RY.out.on Sq
  replace RG : Hid (Rd w6_ w6_.heap.size A6 bX) := RG.out.on Sq
  replace RD : Hid (Rd w6_ w6_.heap.size A8 bY) := RD.out.on Sq
  replace HB : Hid (Below w.heap.size w w6_) := HB.out.trans (Sq.mono HB.out.size)
  clear Bq Sq
  go_wp2_with fail
  refine (HSX.out A1 A6 c1 c6 _ RX.out RG.out).mono ?_
  rintro e w7_ ⟨rfl, Bq⟩
  have Sq : Below w6_.heap.size w6_ w7_ := Bq
  replace pb := (Sq.cell (p := ⟨w.heap.size, 0, none⟩) zb).trans pb
  replace qb := (Sq.cell (p := ⟨w.heap.size, 1, none⟩) zb).trans qb
  replace zb : w.heap.size < w7_.heap.size := Nat.lt_of_lt_of_le zb Sq.size
  replace px := (Sq.cell (p := ⟨w1_.heap.size, 0, none⟩) zx).trans px
  replace qx := (Sq.cell (p := ⟨w1_.heap.size, 1, none⟩) zx).trans qx
  replace zx : w1_.heap.size < w7_.heap.size := Nat.lt_of_lt_of_le zx Sq.size
  replace py := (Sq.cell (p := ⟨w2_.heap.size, 0, none⟩) zy).trans py
  replace qy := (Sq.cell (p := ⟨w2_.heap.size, 1, none⟩) zy).trans qy
  replace zy : w2_.heap.size < w7_.heap.size := Nat.lt_of_lt_of_le zy Sq.size
  replace pg := (Sq.cell (p := ⟨w5_.heap.size, 0, none⟩) zg).trans pg
  replace qg := (Sq.cell (p := ⟨w5_.heap.size, 1, none⟩) zg).trans qg
  replace zg : w5_.heap.size < w7_.heap.size := Nat.lt_of_lt_of_le zg Sq.size
  replace pd := (Sq.cell (p := ⟨(w5_.heap.size + 1), 0, none⟩) zd).trans pd
  replace qd := (Sq.cell (p := ⟨(w5_.heap.size + 1), 1, none⟩) zd).trans qd
  replace zd : (w5_.heap.size + 1) < w7_.heap.size := Nat.lt_of_lt_of_le zd Sq.size
  replace HA : Hid (Rd w7_ w7_.heap.size A bs) := HA.out.on Sq
  replace RX : Hid (Rd w7_ w7_.heap.size A1 bX) := RX.out.on Sq
  replace RY : Hid (Rd w7_ w7_.heap.size A2 bY) := RY.out.on Sq
  replace RG : Hid (Rd w7_ w7_.heap.size A6 bX) := RG.out.on Sq
  replace RD : Hid (Rd w7_ w7_.heap.size A8 bY) := RD.out.on Sq
  replace HB : Hid (Below w.heap.size w w7_) := HB.out.trans (Sq.mono HB.out.size)
  clear Bq Sq
  go_wp2_with fail
  refine (HSY.out A2 A8 c2 c8 _ RY.out RD.out).mono ?_
  rintro e w8_ ⟨rfl, Bq⟩
  have Sq : Below w7_.heap.size w7_ w8_ := Bq
  replace pb := (Sq.cell (p := ⟨w.heap.size, 0, none⟩) zb).trans pb
  replace qb := (Sq.cell (p := ⟨w.heap.size, 1, none⟩) zb).trans qb
  replace zb : w.heap.size < w8_.heap.size := Nat.lt_of_lt_of_le zb Sq.size
  replace px := (Sq.cell (p := ⟨w1_.heap.size, 0, none⟩) zx).trans px
  replace qx := (Sq.cell (p := ⟨w1_.heap.size, 1, none⟩) zx).trans qx
  replace zx : w1_.heap.size < w8_.heap.size := Nat.lt_of_lt_of_le zx Sq.size
  replace py := (Sq.cell (p := ⟨w2_.heap.size, 0, none⟩) zy).trans py
  replace qy := (Sq.cell (p := ⟨w2_.heap.size, 1, none⟩) zy).trans qy
  replace zy : w2_.heap.size < w8_.heap.size := Nat.lt_of_lt_of_le zy Sq.size
  replace pg := (Sq.cell (p := ⟨w5_.heap.size, 0, none⟩) zg).trans pg
  replace qg := (Sq.cell (p := ⟨w5_.heap.size, 1, none⟩) zg).trans qg
  replace zg : w5_.heap.size < w8_.heap.size := Nat.lt_of_lt_of_le zg Sq.size
  replace pd := (Sq.cell (p := ⟨(w5_.heap.size + 1), 0, none⟩) zd).trans pd
  replace qd := (Sq.cell (p := ⟨(w5_.heap.size + 1), 1, none⟩) zd).trans qd
  replace zd : (w5_.heap.size + 1) < w8_.heap.size := Nat.lt_of_lt_of_le zd Sq.size
  replace HA : Hid (Rd w8_ w8_.heap.size A bs) := HA.out.on Sq
  replace RX : Hid (Rd w8_ w8_.heap.size A1 bX) := RX.out.on Sq
  replace RY : Hid (Rd w8_ w8_.heap.size A2 bY) := RY.out.on Sq
  replace RG : Hid (Rd w8_ w8_.heap.size A6 bX) := RG.out.on Sq
  replace RD : Hid (Rd w8_ w8_.heap.size A8 bY) := RD.out.on Sq
  replace HB : Hid (Below w.heap.size w w8_) := HB.out.trans (Sq.mono HB.out.size)
  clear Bq Sq
  go_wp2
  go_ret
  exact ⟨rfl, HB.out⟩
set_option maxHeartbeats 4000000 in
theorem etells_oo (w : World) (n : Int) (len : Int) (A : Option Addr) (c N : Nat) (bs : List Nat) (p0 : Int) (hA : Rd w w.heap.size A bs) (lX lY : Int) (nX nY nG nD : Nat) (bX bY : List Nat) (lG lD : List Bool) (r1 r2 s1 s2 nB : Nat) (g h : Int) (lB : List Bool) (hn : n ≤ 1099511627776)
    (HX : Hid (∀ V, Calls Try.prog 15 #[.int .u64 n] V (Gv V lX nX bX 0)))
    (HY : Hid (∀ V, Calls Try.prog 16 #[.int .u64 n] V (Gv V lY nY bY 0)))
    (HP : Hid (∀ V, Rd V V.heap.size A bs → Calls Try.prog 17 #[.agg #[.int .i64 len, .slice A N c], .int .i64 p0] V (ReadP V r1 r2 g)))
    (HQ : Hid (∀ V, Rd V V.heap.size A bs → Calls Try.prog 18 #[.agg #[.int .i64 len, .slice A N c], .int .i64 p0] V (ReadP V s1 s2 h)))
    (HL : Hid (∀ V, Calls Try.prog 19 #[.int .u64 n] V fun e w' => e = .returned (.tuple #[.int .i64 lX, .int .i64 lY, .int .i64 0]) ∧ Below V.heap.size V w'))
    (HE : Hid (∀ V, Rd V V.heap.size A bs → Calls Try.prog 23 #[.agg #[.int .i64 len, .slice A N c], .int .i64 p0] V fun e w' => e = .returned (.int .i64 0) ∧ Below V.heap.size V w'))
    (HGL : Hid (∀ V, Calls Try.prog 21 #[.int .u64 n] V fun e w' => ∃ A c, e = .returned (.slice A nG c) ∧ RdV w' w'.heap.size A (ic lG) ∧ Below V.heap.size V w'))
    (HPG : Hid (∀ A c V, RdV V V.heap.size A (ic lG) → Calls Try.prog 20 #[.slice A nG c] V fun e w' => ∃ A c, e = .returned (.agg #[.int .i64 lX, .slice A nX c]) ∧ Rd w' w'.heap.size A bX ∧ Below V.heap.size V w'))
    (HDL : Hid (∀ V, Calls Try.prog 22 #[.int .u64 n] V fun e w' => ∃ A c, e = .returned (.slice A nD c) ∧ RdV w' w'.heap.size A (ic lD) ∧ Below V.heap.size V w'))
    (HPD : Hid (∀ A c V, RdV V V.heap.size A (ic lD) → Calls Try.prog 20 #[.slice A nD c] V fun e w' => ∃ A c, e = .returned (.agg #[.int .i64 lY, .slice A nY c]) ∧ Rd w' w'.heap.size A bY ∧ Below V.heap.size V w'))
    (HSX : Hid (∀ A B c d V, Rd V V.heap.size A bX → Rd V V.heap.size B bX → Calls Try.prog 28 #[.agg #[.int .i64 lX, .slice A nX c], .agg #[.int .i64 lX, .slice B nX d]] V fun e w' => e = .returned (.bool true) ∧ Below V.heap.size V w'))
    (HSY : Hid (∀ A B c d V, Rd V V.heap.size A bY → Rd V V.heap.size B bY → Calls Try.prog 28 #[.agg #[.int .i64 lY, .slice A nY c], .agg #[.int .i64 lY, .slice B nY d]] V fun e w' => e = .returned (.bool true) ∧ Below V.heap.size V w'))
    (HBL : Hid (∀ V, Rd V V.heap.size A bs → Calls Try.prog 24 #[.agg #[.int .i64 len, .slice A N c]] V fun e w' => ∃ A c, e = .returned (.slice A nB c) ∧ RdV w' w'.heap.size A (ic lB) ∧ Below V.heap.size V w' ∧ (A = none → c = 0) ∧ nB ≤ c))
    (HGR : Hid (∀ A c V, RdV V V.heap.size A (ic lB) → (A = none → c = 0) → nB ≤ c → Calls Try.prog 25 #[.slice A nB c, .int .i64 p0] V (ReadP V r1 r2 g)))
    (HDR : Hid (∀ A c V, RdV V V.heap.size A (ic lB) → (A = none → c = 0) → nB ≤ c → Calls Try.prog 26 #[.slice A nB c, .int .i64 p0] V (ReadP V s1 s2 h))) :
    Calls Try.prog 3 #[.int .u64 n, .agg #[.int .i64 len, .slice A N c], .int .i64 p0] w fun e w' => e = .returned (.bool true) ∧ Below w.heap.size w w' := by
  have HA := Lib.hid hA; clear hA
  have t1 : decide ((1099511627776 : Int) < n) = false := by simp; omega
  go_enter Try.func3, Try.ntmps3
  go_wp2_with fail
  refine (HX.out _).mono ?_
  rintro e w1_ ⟨A1, c1, rfl, Rq, Bq⟩
  rw [World.size_alloc] at Bq
  have Sq : Below w.heap.size w w1_ := (one_below w _).trans (Bq.mono (by omega))
  have zb : w.heap.size < w1_.heap.size := by have := Bq.size; rw [World.size_alloc] at this; omega
  obtain ⟨pb, qb⟩ := box_at Bq
  replace HA : Hid (Rd w1_ w1_.heap.size A bs) := HA.out.on Sq
  have HB : Hid (Below w.heap.size w w1_) := Sq
  clear Bq Sq
  have RX := Lib.hid Rq; clear Rq
  go_wp2_with fail
  refine (HY.out _).mono ?_
  rintro e w2_ ⟨A2, c2, rfl, Rq, Bq⟩
  rw [World.size_alloc] at Bq
  have Sq : Below w1_.heap.size w1_ w2_ := (one_below w1_ _).trans (Bq.mono (by omega))
  have zx : w1_.heap.size < w2_.heap.size := by have := Bq.size; rw [World.size_alloc] at this; omega
  obtain ⟨px, qx⟩ := box_at Bq
  replace pb := (Sq.cell (p := ⟨w.heap.size, 0, none⟩) zb).trans pb
  replace qb := (Sq.cell (p := ⟨w.heap.size, 1, none⟩) zb).trans qb
  replace zb : w.heap.size < w2_.heap.size := Nat.lt_of_lt_of_le zb Sq.size
  replace HA : Hid (Rd w2_ w2_.heap.size A bs) := HA.out.on Sq
  replace RX : Hid (Rd w2_ w2_.heap.size A1 bX) := RX.out.on Sq
  replace HB : Hid (Below w.heap.size w w2_) := HB.out.trans (Sq.mono HB.out.size)
  clear Bq Sq
  have RY := Lib.hid Rq; clear Rq
  go_wp2_with fail
  refine (HP.out _ (HA.out.on (one_below w2_ _))).mono ?_
  rintro e w3_ ⟨rfl, Bq⟩
  rw [World.size_alloc] at Bq
  have Sq : Below w2_.heap.size w2_ w3_ := (one_below w2_ _).trans (Bq.mono (by omega))
  have zy : w2_.heap.size < w3_.heap.size := by have := Bq.size; rw [World.size_alloc] at this; omega
  obtain ⟨py, qy⟩ := box_at Bq
  replace pb := (Sq.cell (p := ⟨w.heap.size, 0, none⟩) zb).trans pb
  replace qb := (Sq.cell (p := ⟨w.heap.size, 1, none⟩) zb).trans qb
  replace zb : w.heap.size < w3_.heap.size := Nat.lt_of_lt_of_le zb Sq.size
  replace px := (Sq.cell (p := ⟨w1_.heap.size, 0, none⟩) zx).trans px
  replace qx := (Sq.cell (p := ⟨w1_.heap.size, 1, none⟩) zx).trans qx
  replace zx : w1_.heap.size < w3_.heap.size := Nat.lt_of_lt_of_le zx Sq.size
  replace HA : Hid (Rd w3_ w3_.heap.size A bs) := HA.out.on Sq
  replace RX : Hid (Rd w3_ w3_.heap.size A1 bX) := RX.out.on Sq
  replace RY : Hid (Rd w3_ w3_.heap.size A2 bY) := RY.out.on Sq
  replace HB : Hid (Below w.heap.size w w3_) := HB.out.trans (Sq.mono HB.out.size)
  clear Bq Sq
  go_wp2_with fail
  refine (HQ.out _ HA.out).mono ?_
  rintro e w4_ ⟨rfl, Bq⟩
  have Sq : Below w3_.heap.size w3_ w4_ := Bq
  replace pb := (Sq.cell (p := ⟨w.heap.size, 0, none⟩) zb).trans pb
  replace qb := (Sq.cell (p := ⟨w.heap.size, 1, none⟩) zb).trans qb
  replace zb : w.heap.size < w4_.heap.size := Nat.lt_of_lt_of_le zb Sq.size
  replace px := (Sq.cell (p := ⟨w1_.heap.size, 0, none⟩) zx).trans px
  replace qx := (Sq.cell (p := ⟨w1_.heap.size, 1, none⟩) zx).trans qx
  replace zx : w1_.heap.size < w4_.heap.size := Nat.lt_of_lt_of_le zx Sq.size
  replace py := (Sq.cell (p := ⟨w2_.heap.size, 0, none⟩) zy).trans py
  replace qy := (Sq.cell (p := ⟨w2_.heap.size, 1, none⟩) zy).trans qy
  replace zy : w2_.heap.size < w4_.heap.size := Nat.lt_of_lt_of_le zy Sq.size
  replace HA : Hid (Rd w4_ w4_.heap.size A bs) := HA.out.on Sq
  replace RX : Hid (Rd w4_ w4_.heap.size A1 bX) := RX.out.on Sq
  replace RY : Hid (Rd w4_ w4_.heap.size A2 bY) := RY.out.on Sq
  replace HB : Hid (Below w.heap.size w w4_) := HB.out.trans (Sq.mono HB.out.size)
  clear Bq Sq
  go_wp2_with fail
  refine (HL.out _).mono ?_
  rintro e w5_ ⟨rfl, Bq⟩
  have Sq : Below w4_.heap.size w4_ w5_ := Bq
  replace pb := (Sq.cell (p := ⟨w.heap.size, 0, none⟩) zb).trans pb
  replace qb := (Sq.cell (p := ⟨w.heap.size, 1, none⟩) zb).trans qb
  replace zb : w.heap.size < w5_.heap.size := Nat.lt_of_lt_of_le zb Sq.size
  replace px := (Sq.cell (p := ⟨w1_.heap.size, 0, none⟩) zx).trans px
  replace qx := (Sq.cell (p := ⟨w1_.heap.size, 1, none⟩) zx).trans qx
  replace zx : w1_.heap.size < w5_.heap.size := Nat.lt_of_lt_of_le zx Sq.size
  replace py := (Sq.cell (p := ⟨w2_.heap.size, 0, none⟩) zy).trans py
  replace qy := (Sq.cell (p := ⟨w2_.heap.size, 1, none⟩) zy).trans qy
  replace zy : w2_.heap.size < w5_.heap.size := Nat.lt_of_lt_of_le zy Sq.size
  replace HA : Hid (Rd w5_ w5_.heap.size A bs) := HA.out.on Sq
  replace RX : Hid (Rd w5_ w5_.heap.size A1 bX) := RX.out.on Sq
  replace RY : Hid (Rd w5_ w5_.heap.size A2 bY) := RY.out.on Sq
  replace HB : Hid (Below w.heap.size w w5_) := HB.out.trans (Sq.mono HB.out.size)
  clear Bq Sq
  go_wp2_with fail
  refine (HGL.out _).mono ?_
  rintro e w6 ⟨A5, c5, rfl, R5, B5⟩
  have H5 := Lib.hid R5; have K5 := Lib.hid B5; clear R5 B5
  go_wp2_with fail
  refine (HPG.out A5 c5 _ H5.out).mono ?_
  rintro e w7 ⟨A6, c6, rfl, R6, B6⟩
  have H6 := Lib.hid R6; have K6 := Lib.hid (K5.out.trans (B6.mono K5.out.size)); clear R6 B6 H5 K5
  go_wp2_with fail
  refine (HDL.out _).mono ?_
  rintro e w8 ⟨A7, c7, rfl, R7, B7⟩
  have H7 := Lib.hid R7; have H6b := Lib.hid (H6.out.on B7); have K7 := Lib.hid (K6.out.trans (B7.mono K6.out.size)); clear R7 B7 H6 K6
  go_wp2_with fail
  refine (HPD.out A7 c7 _ H7.out).mono ?_
  rintro e w9 ⟨A8, c8, rfl, R8, B8⟩
  have K8 := K7.out.trans (B8.mono K7.out.size)
  obtain ⟨⟨⟨d0, d1, g0, g1⟩, ⟨d2, d3, g2, g3⟩⟩, HT⟩ := two_store K8 lX lY nX nY A6 A8 c6 c8 bX bY (H6b.out.on B8) R8
  clear R8 B8 K8 H7 H6b K7
  go_wp2_with fail
  obtain ⟨w10, hw, T⟩ := HT.out
  rw [hw]
  clear hw HT d0 d1 d2 d3 g0 g1 g2 g3
  have Sq := T.below
  replace pb := (Sq.cell (p := ⟨w.heap.size, 0, none⟩) zb).trans pb
  replace qb := (Sq.cell (p := ⟨w.heap.size, 1, none⟩) zb).trans qb
  replace zb : w.heap.size < w10.heap.size := Nat.lt_of_lt_of_le zb Sq.size
  replace px := (Sq.cell (p := ⟨w1_.heap.size, 0, none⟩) zx).trans px
  replace qx := (Sq.cell (p := ⟨w1_.heap.size, 1, none⟩) zx).trans qx
  replace zx : w1_.heap.size < w10.heap.size := Nat.lt_of_lt_of_le zx Sq.size
  replace py := (Sq.cell (p := ⟨w2_.heap.size, 0, none⟩) zy).trans py
  replace qy := (Sq.cell (p := ⟨w2_.heap.size, 1, none⟩) zy).trans qy
  replace zy : w2_.heap.size < w10.heap.size := Nat.lt_of_lt_of_le zy Sq.size
  replace HA : Hid (Rd w10 w10.heap.size A bs) := HA.out.on Sq
  replace RX : Hid (Rd w10 w10.heap.size A1 bX) := RX.out.on Sq
  replace RY : Hid (Rd w10 w10.heap.size A2 bY) := RY.out.on Sq
  replace HB : Hid (Below w.heap.size w w10) := HB.out.trans (Sq.mono HB.out.size)
  clear Sq
  have pg := T.x0
  have qg := T.x1
  have zg : w5_.heap.size < w10.heap.size := Nat.lt_of_succ_lt T.size
  have pd := T.y0
  have qd := T.y1
  have zd : w5_.heap.size + 1 < w10.heap.size := T.size
  have RG := Lib.hid T.rx
  have RD := Lib.hid T.ry
  clear T
  have HK : Hid (∀ w' : World, Below w10.heap.size w10 w' → w'.cell? ⟨w.heap.size, 0, none⟩ = some (.int .i64 len) ∧ w'.cell? ⟨w.heap.size, 1, none⟩ = some (.slice A N c)) := fun w' h => ⟨(h.cell (p := ⟨w.heap.size, 0, none⟩) zb).trans pb, (h.cell (p := ⟨w.heap.size, 1, none⟩) zb).trans qb⟩
  go_region_held3 (fun w' => w'.cell? ⟨w.heap.size, 0, none⟩ = some (.int .i64 len) ∧ w'.cell? ⟨w.heap.size, 1, none⟩ = some (.slice A N c))
    ((refine HK.out _ ?_; first | exact hk12.out | exact hk11.out | exact (Below.refl _ _).drew))
    (first
      | (go_at_call 23; have hx := hk11.out; refine (HE.out w11 (HA.out.on hx)).mono ?_; rintro e w12 ⟨rfl, B12⟩; have hk12 : Hid (Below w10.heap.size w10 w12) := hx.trans (B12.mono hx.size); clear B12 hx)
      | (go_at_call 23; refine (HE.out w10.drew HA.out).mono ?_; rintro e w11 ⟨rfl, B11⟩; have hk11 : Hid (Below w10.heap.size w10 w11) := ((Below.refl _ w10).drew).trans B11; clear B11))
  have Sq := hk12.out
  replace pb := (Sq.cell (p := ⟨w.heap.size, 0, none⟩) zb).trans pb
  replace qb := (Sq.cell (p := ⟨w.heap.size, 1, none⟩) zb).trans qb
  replace zb : w.heap.size < w12.heap.size := Nat.lt_of_lt_of_le zb Sq.size
  replace px := (Sq.cell (p := ⟨w1_.heap.size, 0, none⟩) zx).trans px
  replace qx := (Sq.cell (p := ⟨w1_.heap.size, 1, none⟩) zx).trans qx
  replace zx : w1_.heap.size < w12.heap.size := Nat.lt_of_lt_of_le zx Sq.size
  replace py := (Sq.cell (p := ⟨w2_.heap.size, 0, none⟩) zy).trans py
  replace qy := (Sq.cell (p := ⟨w2_.heap.size, 1, none⟩) zy).trans qy
  replace zy : w2_.heap.size < w12.heap.size := Nat.lt_of_lt_of_le zy Sq.size
  replace pg := (Sq.cell (p := ⟨w5_.heap.size, 0, none⟩) zg).trans pg
  replace qg := (Sq.cell (p := ⟨w5_.heap.size, 1, none⟩) zg).trans qg
  replace zg : w5_.heap.size < w12.heap.size := Nat.lt_of_lt_of_le zg Sq.size
  replace pd := (Sq.cell (p := ⟨(w5_.heap.size + 1), 0, none⟩) zd).trans pd
  replace qd := (Sq.cell (p := ⟨(w5_.heap.size + 1), 1, none⟩) zd).trans qd
  replace zd : (w5_.heap.size + 1) < w12.heap.size := Nat.lt_of_lt_of_le zd Sq.size
  replace HA : Hid (Rd w12 w12.heap.size A bs) := HA.out.on Sq
  replace RX : Hid (Rd w12 w12.heap.size A1 bX) := RX.out.on Sq
  replace RY : Hid (Rd w12 w12.heap.size A2 bY) := RY.out.on Sq
  replace RG : Hid (Rd w12 w12.heap.size A6 bX) := RG.out.on Sq
  replace RD : Hid (Rd w12 w12.heap.size A8 bY) := RD.out.on Sq
  replace HB : Hid (Below w.heap.size w w12) := HB.out.trans (Sq.mono HB.out.size)
  clear Sq HK hk11 hk12
  go_wp2_with fail
  refine (HBL.out _ HA.out).mono ?_
  rintro e w6_ ⟨A9, c9, rfl, Rq, Bq, hn9, hc9⟩
  have Sq : Below w12.heap.size w12 w6_ := Bq
  replace pb := (Sq.cell (p := ⟨w.heap.size, 0, none⟩) zb).trans pb
  replace qb := (Sq.cell (p := ⟨w.heap.size, 1, none⟩) zb).trans qb
  replace zb : w.heap.size < w6_.heap.size := Nat.lt_of_lt_of_le zb Sq.size
  replace px := (Sq.cell (p := ⟨w1_.heap.size, 0, none⟩) zx).trans px
  replace qx := (Sq.cell (p := ⟨w1_.heap.size, 1, none⟩) zx).trans qx
  replace zx : w1_.heap.size < w6_.heap.size := Nat.lt_of_lt_of_le zx Sq.size
  replace py := (Sq.cell (p := ⟨w2_.heap.size, 0, none⟩) zy).trans py
  replace qy := (Sq.cell (p := ⟨w2_.heap.size, 1, none⟩) zy).trans qy
  replace zy : w2_.heap.size < w6_.heap.size := Nat.lt_of_lt_of_le zy Sq.size
  replace pg := (Sq.cell (p := ⟨w5_.heap.size, 0, none⟩) zg).trans pg
  replace qg := (Sq.cell (p := ⟨w5_.heap.size, 1, none⟩) zg).trans qg
  replace zg : w5_.heap.size < w6_.heap.size := Nat.lt_of_lt_of_le zg Sq.size
  replace pd := (Sq.cell (p := ⟨(w5_.heap.size + 1), 0, none⟩) zd).trans pd
  replace qd := (Sq.cell (p := ⟨(w5_.heap.size + 1), 1, none⟩) zd).trans qd
  replace zd : (w5_.heap.size + 1) < w6_.heap.size := Nat.lt_of_lt_of_le zd Sq.size
  replace HA : Hid (Rd w6_ w6_.heap.size A bs) := HA.out.on Sq
  replace RX : Hid (Rd w6_ w6_.heap.size A1 bX) := RX.out.on Sq
  replace RY : Hid (Rd w6_ w6_.heap.size A2 bY) := RY.out.on Sq
  replace RG : Hid (Rd w6_ w6_.heap.size A6 bX) := RG.out.on Sq
  replace RD : Hid (Rd w6_ w6_.heap.size A8 bY) := RD.out.on Sq
  replace HB : Hid (Below w.heap.size w w6_) := HB.out.trans (Sq.mono HB.out.size)
  clear Bq Sq
  have RB := Lib.hid Rq; clear Rq
  have HN9 := Lib.hid hn9; have HC9 := Lib.hid hc9; clear hn9 hc9
  go_wp2_with fail
  refine (HGR.out A9 c9 _ RB.out HN9.out HC9.out).mono ?_
  rintro e w7_ ⟨rfl, Bq⟩
  have Sq : Below w6_.heap.size w6_ w7_ := Bq
  replace pb := (Sq.cell (p := ⟨w.heap.size, 0, none⟩) zb).trans pb
  replace qb := (Sq.cell (p := ⟨w.heap.size, 1, none⟩) zb).trans qb
  replace zb : w.heap.size < w7_.heap.size := Nat.lt_of_lt_of_le zb Sq.size
  replace px := (Sq.cell (p := ⟨w1_.heap.size, 0, none⟩) zx).trans px
  replace qx := (Sq.cell (p := ⟨w1_.heap.size, 1, none⟩) zx).trans qx
  replace zx : w1_.heap.size < w7_.heap.size := Nat.lt_of_lt_of_le zx Sq.size
  replace py := (Sq.cell (p := ⟨w2_.heap.size, 0, none⟩) zy).trans py
  replace qy := (Sq.cell (p := ⟨w2_.heap.size, 1, none⟩) zy).trans qy
  replace zy : w2_.heap.size < w7_.heap.size := Nat.lt_of_lt_of_le zy Sq.size
  replace pg := (Sq.cell (p := ⟨w5_.heap.size, 0, none⟩) zg).trans pg
  replace qg := (Sq.cell (p := ⟨w5_.heap.size, 1, none⟩) zg).trans qg
  replace zg : w5_.heap.size < w7_.heap.size := Nat.lt_of_lt_of_le zg Sq.size
  replace pd := (Sq.cell (p := ⟨(w5_.heap.size + 1), 0, none⟩) zd).trans pd
  replace qd := (Sq.cell (p := ⟨(w5_.heap.size + 1), 1, none⟩) zd).trans qd
  replace zd : (w5_.heap.size + 1) < w7_.heap.size := Nat.lt_of_lt_of_le zd Sq.size
  replace HA : Hid (Rd w7_ w7_.heap.size A bs) := HA.out.on Sq
  replace RX : Hid (Rd w7_ w7_.heap.size A1 bX) := RX.out.on Sq
  replace RY : Hid (Rd w7_ w7_.heap.size A2 bY) := RY.out.on Sq
  replace RG : Hid (Rd w7_ w7_.heap.size A6 bX) := RG.out.on Sq
  replace RD : Hid (Rd w7_ w7_.heap.size A8 bY) := RD.out.on Sq
  replace RB : Hid (RdV w7_ w7_.heap.size A9 (ic lB)) := RB.out.on Sq
  replace HB : Hid (Below w.heap.size w w7_) := HB.out.trans (Sq.mono HB.out.size)
  clear Bq Sq
  go_wp2_with fail
  refine (HDR.out A9 c9 _ RB.out HN9.out HC9.out).mono ?_
  rintro e w8_ ⟨rfl, Bq⟩
  have Sq : Below w7_.heap.size w7_ w8_ := Bq
  replace pb := (Sq.cell (p := ⟨w.heap.size, 0, none⟩) zb).trans pb
  replace qb := (Sq.cell (p := ⟨w.heap.size, 1, none⟩) zb).trans qb
  replace zb : w.heap.size < w8_.heap.size := Nat.lt_of_lt_of_le zb Sq.size
  replace px := (Sq.cell (p := ⟨w1_.heap.size, 0, none⟩) zx).trans px
  replace qx := (Sq.cell (p := ⟨w1_.heap.size, 1, none⟩) zx).trans qx
  replace zx : w1_.heap.size < w8_.heap.size := Nat.lt_of_lt_of_le zx Sq.size
  replace py := (Sq.cell (p := ⟨w2_.heap.size, 0, none⟩) zy).trans py
  replace qy := (Sq.cell (p := ⟨w2_.heap.size, 1, none⟩) zy).trans qy
  replace zy : w2_.heap.size < w8_.heap.size := Nat.lt_of_lt_of_le zy Sq.size
  replace pg := (Sq.cell (p := ⟨w5_.heap.size, 0, none⟩) zg).trans pg
  replace qg := (Sq.cell (p := ⟨w5_.heap.size, 1, none⟩) zg).trans qg
  replace zg : w5_.heap.size < w8_.heap.size := Nat.lt_of_lt_of_le zg Sq.size
  replace pd := (Sq.cell (p := ⟨(w5_.heap.size + 1), 0, none⟩) zd).trans pd
  replace qd := (Sq.cell (p := ⟨(w5_.heap.size + 1), 1, none⟩) zd).trans qd
  replace zd : (w5_.heap.size + 1) < w8_.heap.size := Nat.lt_of_lt_of_le zd Sq.size
  replace HA : Hid (Rd w8_ w8_.heap.size A bs) := HA.out.on Sq
  replace RX : Hid (Rd w8_ w8_.heap.size A1 bX) := RX.out.on Sq
  replace RY : Hid (Rd w8_ w8_.heap.size A2 bY) := RY.out.on Sq
  replace RG : Hid (Rd w8_ w8_.heap.size A6 bX) := RG.out.on Sq
  replace RD : Hid (Rd w8_ w8_.heap.size A8 bY) := RD.out.on Sq
  replace RB : Hid (RdV w8_ w8_.heap.size A9 (ic lB)) := RB.out.on Sq
  replace HB : Hid (Below w.heap.size w w8_) := HB.out.trans (Sq.mono HB.out.size)
  clear Bq Sq
  go_wp2_with fail
  refine (ebegun_true _).mono ?_
  rintro e w9_ ⟨rfl, Bq⟩
  have Sq : Below w8_.heap.size w8_ w9_ := Bq
  replace pb := (Sq.cell (p := ⟨w.heap.size, 0, none⟩) zb).trans pb
  replace qb := (Sq.cell (p := ⟨w.heap.size, 1, none⟩) zb).trans qb
  replace zb : w.heap.size < w9_.heap.size := Nat.lt_of_lt_of_le zb Sq.size
  replace px := (Sq.cell (p := ⟨w1_.heap.size, 0, none⟩) zx).trans px
  replace qx := (Sq.cell (p := ⟨w1_.heap.size, 1, none⟩) zx).trans qx
  replace zx : w1_.heap.size < w9_.heap.size := Nat.lt_of_lt_of_le zx Sq.size
  replace py := (Sq.cell (p := ⟨w2_.heap.size, 0, none⟩) zy).trans py
  replace qy := (Sq.cell (p := ⟨w2_.heap.size, 1, none⟩) zy).trans qy
  replace zy : w2_.heap.size < w9_.heap.size := Nat.lt_of_lt_of_le zy Sq.size
  replace pg := (Sq.cell (p := ⟨w5_.heap.size, 0, none⟩) zg).trans pg
  replace qg := (Sq.cell (p := ⟨w5_.heap.size, 1, none⟩) zg).trans qg
  replace zg : w5_.heap.size < w9_.heap.size := Nat.lt_of_lt_of_le zg Sq.size
  replace pd := (Sq.cell (p := ⟨(w5_.heap.size + 1), 0, none⟩) zd).trans pd
  replace qd := (Sq.cell (p := ⟨(w5_.heap.size + 1), 1, none⟩) zd).trans qd
  replace zd : (w5_.heap.size + 1) < w9_.heap.size := Nat.lt_of_lt_of_le zd Sq.size
  replace HA : Hid (Rd w9_ w9_.heap.size A bs) := HA.out.on Sq
  replace RX : Hid (Rd w9_ w9_.heap.size A1 bX) := RX.out.on Sq
  replace RY : Hid (Rd w9_ w9_.heap.size A2 bY) := RY.out.on Sq
  replace RG : Hid (Rd w9_ w9_.heap.size A6 bX) := RG.out.on Sq
  replace RD : Hid (Rd w9_ w9_.heap.size A8 bY) := RD.out.on Sq
  replace RB : Hid (RdV w9_ w9_.heap.size A9 (ic lB)) := RB.out.on Sq
  replace HB : Hid (Below w.heap.size w w9_) := HB.out.trans (Sq.mono HB.out.size)
  clear Bq Sq
  go_wp2_with fail
  refine (HSX.out A1 A6 c1 c6 _ RX.out RG.out).mono ?_
  rintro e w10_ ⟨rfl, Bq⟩
  have Sq : Below w9_.heap.size w9_ w10_ := Bq
  replace pb := (Sq.cell (p := ⟨w.heap.size, 0, none⟩) zb).trans pb
  replace qb := (Sq.cell (p := ⟨w.heap.size, 1, none⟩) zb).trans qb
  replace zb : w.heap.size < w10_.heap.size := Nat.lt_of_lt_of_le zb Sq.size
  replace px := (Sq.cell (p := ⟨w1_.heap.size, 0, none⟩) zx).trans px
  replace qx := (Sq.cell (p := ⟨w1_.heap.size, 1, none⟩) zx).trans qx
  replace zx : w1_.heap.size < w10_.heap.size := Nat.lt_of_lt_of_le zx Sq.size
  replace py := (Sq.cell (p := ⟨w2_.heap.size, 0, none⟩) zy).trans py
  replace qy := (Sq.cell (p := ⟨w2_.heap.size, 1, none⟩) zy).trans qy
  replace zy : w2_.heap.size < w10_.heap.size := Nat.lt_of_lt_of_le zy Sq.size
  replace pg := (Sq.cell (p := ⟨w5_.heap.size, 0, none⟩) zg).trans pg
  replace qg := (Sq.cell (p := ⟨w5_.heap.size, 1, none⟩) zg).trans qg
  replace zg : w5_.heap.size < w10_.heap.size := Nat.lt_of_lt_of_le zg Sq.size
  replace pd := (Sq.cell (p := ⟨(w5_.heap.size + 1), 0, none⟩) zd).trans pd
  replace qd := (Sq.cell (p := ⟨(w5_.heap.size + 1), 1, none⟩) zd).trans qd
  replace zd : (w5_.heap.size + 1) < w10_.heap.size := Nat.lt_of_lt_of_le zd Sq.size
  replace HA : Hid (Rd w10_ w10_.heap.size A bs) := HA.out.on Sq
  replace RX : Hid (Rd w10_ w10_.heap.size A1 bX) := RX.out.on Sq
  replace RY : Hid (Rd w10_ w10_.heap.size A2 bY) := RY.out.on Sq
  replace RG : Hid (Rd w10_ w10_.heap.size A6 bX) := RG.out.on Sq
  replace RD : Hid (Rd w10_ w10_.heap.size A8 bY) := RD.out.on Sq
  replace RB : Hid (RdV w10_ w10_.heap.size A9 (ic lB)) := RB.out.on Sq
  replace HB : Hid (Below w.heap.size w w10_) := HB.out.trans (Sq.mono HB.out.size)
  clear Bq Sq
  go_wp2_with fail
  refine (HSY.out A2 A8 c2 c8 _ RY.out RD.out).mono ?_
  rintro e w11_ ⟨rfl, Bq⟩
  have Sq : Below w10_.heap.size w10_ w11_ := Bq
  replace pb := (Sq.cell (p := ⟨w.heap.size, 0, none⟩) zb).trans pb
  replace qb := (Sq.cell (p := ⟨w.heap.size, 1, none⟩) zb).trans qb
  replace zb : w.heap.size < w11_.heap.size := Nat.lt_of_lt_of_le zb Sq.size
  replace px := (Sq.cell (p := ⟨w1_.heap.size, 0, none⟩) zx).trans px
  replace qx := (Sq.cell (p := ⟨w1_.heap.size, 1, none⟩) zx).trans qx
  replace zx : w1_.heap.size < w11_.heap.size := Nat.lt_of_lt_of_le zx Sq.size
  replace py := (Sq.cell (p := ⟨w2_.heap.size, 0, none⟩) zy).trans py
  replace qy := (Sq.cell (p := ⟨w2_.heap.size, 1, none⟩) zy).trans qy
  replace zy : w2_.heap.size < w11_.heap.size := Nat.lt_of_lt_of_le zy Sq.size
  replace pg := (Sq.cell (p := ⟨w5_.heap.size, 0, none⟩) zg).trans pg
  replace qg := (Sq.cell (p := ⟨w5_.heap.size, 1, none⟩) zg).trans qg
  replace zg : w5_.heap.size < w11_.heap.size := Nat.lt_of_lt_of_le zg Sq.size
  replace pd := (Sq.cell (p := ⟨(w5_.heap.size + 1), 0, none⟩) zd).trans pd
  replace qd := (Sq.cell (p := ⟨(w5_.heap.size + 1), 1, none⟩) zd).trans qd
  replace zd : (w5_.heap.size + 1) < w11_.heap.size := Nat.lt_of_lt_of_le zd Sq.size
  replace HA : Hid (Rd w11_ w11_.heap.size A bs) := HA.out.on Sq
  replace RX : Hid (Rd w11_ w11_.heap.size A1 bX) := RX.out.on Sq
  replace RY : Hid (Rd w11_ w11_.heap.size A2 bY) := RY.out.on Sq
  replace RG : Hid (Rd w11_ w11_.heap.size A6 bX) := RG.out.on Sq
  replace RD : Hid (Rd w11_ w11_.heap.size A8 bY) := RD.out.on Sq
  replace RB : Hid (RdV w11_ w11_.heap.size A9 (ic lB)) := RB.out.on Sq
  replace HB : Hid (Below w.heap.size w w11_) := HB.out.trans (Sq.mono HB.out.size)
  clear Bq Sq
  go_wp2
  go_ret
  exact ⟨rfl, HB.out⟩
end Go.Proofs.Ytcacbekdghlncaa
