/- The law GolombZeta: for whatever number, k, bits and position it returns true, in letters. -/
import Derived.Test.YtcacbekdghlncaaGBegun
import Derived.Test.YtcacbekdghlncaaZRef
import Derived.Test.YtcacbekdghlncaaRefPack
import Derived.Test.YtcacbekdghlncaaOpen
namespace Go.Proofs.Ytcacbekdghlncaa

section
set_option maxRecDepth 100000
set_option linter.unusedVariables false
open Go.RowKit

/-- What is behind a place for bits: what it holds, and that all below is as it was. -/
structure One (V w : World) (lX : Int) (nX : Nat) (A : Option Addr) (c : Nat) (bX : List Nat) : Prop where
  rx : Rd w w.heap.size A bX
  below : Below V.heap.size V w
  x0 : w.cell? ⟨V.heap.size, 0, none⟩ = some (.int .i64 lX)
  x1 : w.cell? ⟨V.heap.size, 1, none⟩ = some (.slice A nX c)
  size : V.heap.size < w.heap.size
theorem one_zero (V : World) : ∃ w10, V.alloc (.cells #[.int .i64 0, .slice none 0 0] 25) = w10 ∧ One V w10 0 0 none 0 [] :=
  ⟨_, rfl, Rd.nil _ _ _, one_below V _, (blk_cells (World.alloc_heap_new V _)).1, (blk_cells (World.alloc_heap_new V _)).2.1, by rw [World.size_alloc]; omega⟩
theorem one_store {V w9 : World} (B9 : Below (V.alloc (.cells #[.int .i64 0, .slice none 0 0] 25)).heap.size (V.alloc (.cells #[.int .i64 0, .slice none 0 0] 25)) w9) (lX : Int) (nX : Nat) (A : Option Addr) (c : Nat) (bX : List Nat) (RX : Rd w9 w9.heap.size A bX) :
    (w9.cell? ⟨V.heap.size, 0, none⟩ = some (.int .i64 0) ∧ w9.cell? ⟨V.heap.size, 1, none⟩ = some (.slice none 0 0) ∧ w9.frozen? ⟨V.heap.size, 0, none⟩ = false ∧ w9.frozen? ⟨V.heap.size, 1, none⟩ = false) ∧
    Hid (∃ w10, (w9.setCell ⟨V.heap.size, 0, none⟩ (.int .i64 lX)).setCell ⟨V.heap.size, 1, none⟩ (.slice A nX c) = w10 ∧ One V w10 lX nX A c bX) := by
  obtain ⟨hx, hb, hz⟩ := res_at B9
  refine ⟨blk_cells hx, _, rfl, ?_⟩
  have x1 : (w9.setCell ⟨V.heap.size, 0, none⟩ (.int .i64 lX)).heap[V.heap.size]? = some (.cells #[.int .i64 lX, .slice none 0 0] 25 (0, 0)) := by
    rw [heap_set_same _ _ _ _ 25 _ hx]; simp
  have x2 : ((w9.setCell ⟨V.heap.size, 0, none⟩ (.int .i64 lX)).setCell ⟨V.heap.size, 1, none⟩ (.slice A nX c)).heap[V.heap.size]? = some (.cells #[.int .i64 lX, .slice A nX c] 25 (0, 0)) := by
    rw [heap_set_same _ _ _ _ 25 _ x1]; simp
  have ss : ((w9.setCell ⟨V.heap.size, 0, none⟩ (.int .i64 lX)).setCell ⟨V.heap.size, 1, none⟩ (.slice A nX c)).heap.size = w9.heap.size := by simp [World.setCell]
  have r1 := RX.setK (i := 0) (.int .i64 lX) hx
  have r2 := r1.setK (i := 1) (.slice A nX c) x1
  exact ⟨by rw [ss]; exact r2, (hb.setCell (p := ⟨V.heap.size, 0, none⟩) (Nat.le_refl _) _).setCell (p := ⟨V.heap.size, 1, none⟩) (Nat.le_refl _) _, (blk_cells x2).1, (blk_cells x2).2.1, by rw [ss]; exact hz⟩

set_option maxHeartbeats 1000000 in
theorem gzeta_oob (w : World) (n k : Int) (len : Int) (A : Option Addr) (c N : Nat) (bs : List Nat) (p0 : Int) (hA : Rd w w.heap.size A bs) (lX : Int) (nX nG : Nat) (bX : List Nat) (lG : List Bool) (e0 : Int) (h0 : e0 ≠ 0) (hk1 : 1 ≤ k) (hk2 : k ≤ 16) (hn : n ≤ 1099511627776)
    (HX : Hid (∀ V, Calls Try.prog 44 #[.int .u64 n, .int .i64 k] V (Gv V lX nX bX 0)))
    (HP : Hid (∀ V, Rd V V.heap.size A bs → Calls Try.prog 45 #[.agg #[.int .i64 len, .slice A N c], .int .i64 p0, .int .i64 k] V (ReadP V 0 0 e0)))
    (HE : Hid (∀ V, Rd V V.heap.size A bs → Calls Try.prog 23 #[.agg #[.int .i64 len, .slice A N c], .int .i64 p0] V fun e w' => e = .returned (.int .i64 e0) ∧ Below V.heap.size V w'))
    (HZL : Hid (∀ V, Calls Try.prog 46 #[.int .u64 n, .int .i64 k] V fun e w' => ∃ A c, e = .returned (.slice A nG c) ∧ RdV w' w'.heap.size A (ic lG) ∧ Below V.heap.size V w'))
    (HPK : Hid (∀ A c V, RdV V V.heap.size A (ic lG) → Calls Try.prog 20 #[.slice A nG c] V fun e w' => ∃ A c, e = .returned (.agg #[.int .i64 lX, .slice A nX c]) ∧ Rd w' w'.heap.size A bX ∧ Below V.heap.size V w'))
    (HS : Hid (∀ A B c d V, Rd V V.heap.size A bX → Rd V V.heap.size B bX → Calls Try.prog 28 #[.agg #[.int .i64 lX, .slice A nX c], .agg #[.int .i64 lX, .slice B nX d]] V fun e w' => e = .returned (.bool true) ∧ Below V.heap.size V w')) :
    Calls Try.prog 9 #[.int .u64 n, .int .i64 k, .agg #[.int .i64 len, .slice A N c], .int .i64 p0] w fun e w' => e = .returned (.bool true) ∧ Below w.heap.size w w' := by
  have HA := Lib.hid hA; clear hA
  have a1 : decide ((1 : Int) ≤ k) = true := by simp; omega
  have a2 : decide (k ≤ 16) = true := by simp; omega
  have a3 : decide (n ≤ 1099511627776) = true := by simp; omega
  have t2 : (e0 == 0) = false := by simpa using h0
  clear h0
  go_enter Try.func9, Try.ntmps9
  go_wp2_with fail
  refine (HX.out _).mono ?_
  rintro e w1_ ⟨A1, c1, rfl, Rq, Bq⟩
  rw [World.size_alloc] at Bq
  have Sq : Below w.heap.size w w1_ := (one_below w _).trans (Bq.mono (by omega))
  have zb : w.heap.size < w1_.heap.size := by have := Bq.size; rw [World.size_alloc] at this; omega
  obtain ⟨pb, qb⟩ := box_at Bq
  replace HA : Hid (Rd w1_ w1_.heap.size A bs) := HA.out.on Sq
  have HB : Hid (Below w.heap.size w w1_) := Sq
  clear Bq Sq
  have RX := Lib.hid Rq; clear Rq
  go_wp2_with fail
  refine (HP.out _ (HA.out.on (one_below w1_ _))).mono ?_
  rintro e w2_ ⟨rfl, Bq⟩
  rw [World.size_alloc] at Bq
  have Sq : Below w1_.heap.size w1_ w2_ := (one_below w1_ _).trans (Bq.mono (by omega))
  have zx : w1_.heap.size < w2_.heap.size := by have := Bq.size; rw [World.size_alloc] at this; omega
  obtain ⟨px, qx⟩ := box_at Bq
  replace pb := (Sq.cell (p := ⟨w.heap.size, 0, none⟩) zb).trans pb
  replace qb := (Sq.cell (p := ⟨w.heap.size, 1, none⟩) zb).trans qb
  replace zb : w.heap.size < w2_.heap.size := Nat.lt_of_lt_of_le zb Sq.size
  replace HA : Hid (Rd w2_ w2_.heap.size A bs) := HA.out.on Sq
  replace RX : Hid (Rd w2_ w2_.heap.size A1 bX) := RX.out.on Sq
  replace HB : Hid (Below w.heap.size w w2_) := HB.out.trans (Sq.mono HB.out.size)
  clear Bq Sq
  go_wp2_with fail
  refine (HZL.out _).mono ?_
  rintro e w6 ⟨A5, c5, rfl, R5, B5⟩
  have H5 := Lib.hid R5; have K5 := Lib.hid B5; clear R5 B5
  go_wp2_with fail
  refine (HPK.out A5 c5 _ H5.out).mono ?_
  rintro e w9 ⟨A6, c6, rfl, R6, B6⟩
  obtain ⟨⟨d0, d1, g0, g1⟩, HT⟩ := one_store (K5.out.trans (B6.mono K5.out.size)) lX nX A6 c6 bX R6
  clear R6 B6 H5 K5
  obtain ⟨w10, hw, T⟩ := HT.out
  clear HT
  have Sq := T.below
  replace pb := (Sq.cell (p := ⟨w.heap.size, 0, none⟩) zb).trans pb
  replace qb := (Sq.cell (p := ⟨w.heap.size, 1, none⟩) zb).trans qb
  replace zb : w.heap.size < w10.heap.size := Nat.lt_of_lt_of_le zb Sq.size
  replace px := (Sq.cell (p := ⟨w1_.heap.size, 0, none⟩) zx).trans px
  replace qx := (Sq.cell (p := ⟨w1_.heap.size, 1, none⟩) zx).trans qx
  replace zx : w1_.heap.size < w10.heap.size := Nat.lt_of_lt_of_le zx Sq.size
  replace HA : Hid (Rd w10 w10.heap.size A bs) := HA.out.on Sq
  replace RX : Hid (Rd w10 w10.heap.size A1 bX) := RX.out.on Sq
  replace HB : Hid (Below w.heap.size w w10) := HB.out.trans (Sq.mono HB.out.size)
  clear Sq
  have pg := T.x0
  have qg := T.x1
  have zg : w2_.heap.size < w10.heap.size := T.size
  have RG := Lib.hid T.rx
  clear T
  go_wp2_with fail
  refine (HE.out _ HA.out).mono ?_
  rintro e w3_ ⟨rfl, Bq⟩
  have Sq : Below w10.heap.size w10 w3_ := Bq
  replace pb := (Sq.cell (p := ⟨w.heap.size, 0, none⟩) zb).trans pb
  replace qb := (Sq.cell (p := ⟨w.heap.size, 1, none⟩) zb).trans qb
  replace zb : w.heap.size < w3_.heap.size := Nat.lt_of_lt_of_le zb Sq.size
  replace px := (Sq.cell (p := ⟨w1_.heap.size, 0, none⟩) zx).trans px
  replace qx := (Sq.cell (p := ⟨w1_.heap.size, 1, none⟩) zx).trans qx
  replace zx : w1_.heap.size < w3_.heap.size := Nat.lt_of_lt_of_le zx Sq.size
  replace pg := (Sq.cell (p := ⟨w2_.heap.size, 0, none⟩) zg).trans pg
  replace qg := (Sq.cell (p := ⟨w2_.heap.size, 1, none⟩) zg).trans qg
  replace zg : w2_.heap.size < w3_.heap.size := Nat.lt_of_lt_of_le zg Sq.size
  replace HA : Hid (Rd w3_ w3_.heap.size A bs) := HA.out.on Sq
  replace RX : Hid (Rd w3_ w3_.heap.size A1 bX) := RX.out.on Sq
  replace RG : Hid (Rd w3_ w3_.heap.size A6 bX) := RG.out.on Sq
  replace HB : Hid (Below w.heap.size w w3_) := HB.out.trans (Sq.mono HB.out.size)
  clear Bq Sq
  clear hw d0 d1 g0 g1
  go_wp2_with fail
  refine (gbegun_true _).mono ?_
  rintro e w4_ ⟨rfl, Bq⟩
  have Sq : Below w3_.heap.size w3_ w4_ := Bq
  replace pb := (Sq.cell (p := ⟨w.heap.size, 0, none⟩) zb).trans pb
  replace qb := (Sq.cell (p := ⟨w.heap.size, 1, none⟩) zb).trans qb
  replace zb : w.heap.size < w4_.heap.size := Nat.lt_of_lt_of_le zb Sq.size
  replace px := (Sq.cell (p := ⟨w1_.heap.size, 0, none⟩) zx).trans px
  replace qx := (Sq.cell (p := ⟨w1_.heap.size, 1, none⟩) zx).trans qx
  replace zx : w1_.heap.size < w4_.heap.size := Nat.lt_of_lt_of_le zx Sq.size
  replace pg := (Sq.cell (p := ⟨w2_.heap.size, 0, none⟩) zg).trans pg
  replace qg := (Sq.cell (p := ⟨w2_.heap.size, 1, none⟩) zg).trans qg
  replace zg : w2_.heap.size < w4_.heap.size := Nat.lt_of_lt_of_le zg Sq.size
  replace HA : Hid (Rd w4_ w4_.heap.size A bs) := HA.out.on Sq
  replace RX : Hid (Rd w4_ w4_.heap.size A1 bX) := RX.out.on Sq
  replace RG : Hid (Rd w4_ w4_.heap.size A6 bX) := RG.out.on Sq
  replace HB : Hid (Below w.heap.size w w4_) := HB.out.trans (Sq.mono HB.out.size)
  clear Bq Sq
  go_wp2_with fail
  refine (HS.out A1 A6 c1 c6 _ RX.out RG.out).mono ?_
  rintro e w5_ ⟨rfl, Bq⟩
  have Sq : Below w4_.heap.size w4_ w5_ := Bq
  replace pb := (Sq.cell (p := ⟨w.heap.size, 0, none⟩) zb).trans pb
  replace qb := (Sq.cell (p := ⟨w.heap.size, 1, none⟩) zb).trans qb
  replace zb : w.heap.size < w5_.heap.size := Nat.lt_of_lt_of_le zb Sq.size
  replace px := (Sq.cell (p := ⟨w1_.heap.size, 0, none⟩) zx).trans px
  replace qx := (Sq.cell (p := ⟨w1_.heap.size, 1, none⟩) zx).trans qx
  replace zx : w1_.heap.size < w5_.heap.size := Nat.lt_of_lt_of_le zx Sq.size
  replace pg := (Sq.cell (p := ⟨w2_.heap.size, 0, none⟩) zg).trans pg
  replace qg := (Sq.cell (p := ⟨w2_.heap.size, 1, none⟩) zg).trans qg
  replace zg : w2_.heap.size < w5_.heap.size := Nat.lt_of_lt_of_le zg Sq.size
  replace HA : Hid (Rd w5_ w5_.heap.size A bs) := HA.out.on Sq
  replace RX : Hid (Rd w5_ w5_.heap.size A1 bX) := RX.out.on Sq
  replace RG : Hid (Rd w5_ w5_.heap.size A6 bX) := RG.out.on Sq
  replace HB : Hid (Below w.heap.size w w5_) := HB.out.trans (Sq.mono HB.out.size)
  clear Bq Sq
  go_wp2
  go_ret
  exact ⟨rfl, HB.out⟩
set_option maxHeartbeats 1000000 in
theorem gzeta_ooo (w : World) (n k : Int) (len : Int) (A : Option Addr) (c N : Nat) (bs : List Nat) (p0 : Int) (hA : Rd w w.heap.size A bs) (lX : Int) (nX nG : Nat) (bX : List Nat) (lG : List Bool) (r1 r2 nB : Nat) (g : Int) (lB : List Bool) (hk1 : 1 ≤ k) (hk2 : k ≤ 16) (hn : n ≤ 1099511627776)
    (HX : Hid (∀ V, Calls Try.prog 44 #[.int .u64 n, .int .i64 k] V (Gv V lX nX bX 0)))
    (HP : Hid (∀ V, Rd V V.heap.size A bs → Calls Try.prog 45 #[.agg #[.int .i64 len, .slice A N c], .int .i64 p0, .int .i64 k] V (ReadP V r1 r2 g)))
    (HE : Hid (∀ V, Rd V V.heap.size A bs → Calls Try.prog 23 #[.agg #[.int .i64 len, .slice A N c], .int .i64 p0] V fun e w' => e = .returned (.int .i64 0) ∧ Below V.heap.size V w'))
    (HZL : Hid (∀ V, Calls Try.prog 46 #[.int .u64 n, .int .i64 k] V fun e w' => ∃ A c, e = .returned (.slice A nG c) ∧ RdV w' w'.heap.size A (ic lG) ∧ Below V.heap.size V w'))
    (HPK : Hid (∀ A c V, RdV V V.heap.size A (ic lG) → Calls Try.prog 20 #[.slice A nG c] V fun e w' => ∃ A c, e = .returned (.agg #[.int .i64 lX, .slice A nX c]) ∧ Rd w' w'.heap.size A bX ∧ Below V.heap.size V w'))
    (HS : Hid (∀ A B c d V, Rd V V.heap.size A bX → Rd V V.heap.size B bX → Calls Try.prog 28 #[.agg #[.int .i64 lX, .slice A nX c], .agg #[.int .i64 lX, .slice B nX d]] V fun e w' => e = .returned (.bool true) ∧ Below V.heap.size V w'))
    (HBL : Hid (∀ V, Rd V V.heap.size A bs → Calls Try.prog 24 #[.agg #[.int .i64 len, .slice A N c]] V fun e w' => ∃ A c, e = .returned (.slice A nB c) ∧ RdV w' w'.heap.size A (ic lB) ∧ Below V.heap.size V w'))
    (HZR : Hid (∀ A c V, RdV V V.heap.size A (ic lB) → Calls Try.prog 47 #[.slice A nB c, .int .i64 p0, .int .i64 k] V (ReadP V r1 r2 g))) :
    Calls Try.prog 9 #[.int .u64 n, .int .i64 k, .agg #[.int .i64 len, .slice A N c], .int .i64 p0] w fun e w' => e = .returned (.bool true) ∧ Below w.heap.size w w' := by
  have HA := Lib.hid hA; clear hA
  have a1 : decide ((1 : Int) ≤ k) = true := by simp; omega
  have a2 : decide (k ≤ 16) = true := by simp; omega
  have a3 : decide (n ≤ 1099511627776) = true := by simp; omega
  go_enter Try.func9, Try.ntmps9
  go_wp2_with fail
  refine (HX.out _).mono ?_
  rintro e w1_ ⟨A1, c1, rfl, Rq, Bq⟩
  rw [World.size_alloc] at Bq
  have Sq : Below w.heap.size w w1_ := (one_below w _).trans (Bq.mono (by omega))
  have zb : w.heap.size < w1_.heap.size := by have := Bq.size; rw [World.size_alloc] at this; omega
  obtain ⟨pb, qb⟩ := box_at Bq
  replace HA : Hid (Rd w1_ w1_.heap.size A bs) := HA.out.on Sq
  have HB : Hid (Below w.heap.size w w1_) := Sq
  clear Bq Sq
  have RX := Lib.hid Rq; clear Rq
  go_wp2_with fail
  refine (HP.out _ (HA.out.on (one_below w1_ _))).mono ?_
  rintro e w2_ ⟨rfl, Bq⟩
  rw [World.size_alloc] at Bq
  have Sq : Below w1_.heap.size w1_ w2_ := (one_below w1_ _).trans (Bq.mono (by omega))
  have zx : w1_.heap.size < w2_.heap.size := by have := Bq.size; rw [World.size_alloc] at this; omega
  obtain ⟨px, qx⟩ := box_at Bq
  replace pb := (Sq.cell (p := ⟨w.heap.size, 0, none⟩) zb).trans pb
  replace qb := (Sq.cell (p := ⟨w.heap.size, 1, none⟩) zb).trans qb
  replace zb : w.heap.size < w2_.heap.size := Nat.lt_of_lt_of_le zb Sq.size
  replace HA : Hid (Rd w2_ w2_.heap.size A bs) := HA.out.on Sq
  replace RX : Hid (Rd w2_ w2_.heap.size A1 bX) := RX.out.on Sq
  replace HB : Hid (Below w.heap.size w w2_) := HB.out.trans (Sq.mono HB.out.size)
  clear Bq Sq
  go_wp2_with fail
  refine (HZL.out _).mono ?_
  rintro e w6 ⟨A5, c5, rfl, R5, B5⟩
  have H5 := Lib.hid R5; have K5 := Lib.hid B5; clear R5 B5
  go_wp2_with fail
  refine (HPK.out A5 c5 _ H5.out).mono ?_
  rintro e w9 ⟨A6, c6, rfl, R6, B6⟩
  obtain ⟨⟨d0, d1, g0, g1⟩, HT⟩ := one_store (K5.out.trans (B6.mono K5.out.size)) lX nX A6 c6 bX R6
  clear R6 B6 H5 K5
  obtain ⟨w10, hw, T⟩ := HT.out
  clear HT
  have Sq := T.below
  replace pb := (Sq.cell (p := ⟨w.heap.size, 0, none⟩) zb).trans pb
  replace qb := (Sq.cell (p := ⟨w.heap.size, 1, none⟩) zb).trans qb
  replace zb : w.heap.size < w10.heap.size := Nat.lt_of_lt_of_le zb Sq.size
  replace px := (Sq.cell (p := ⟨w1_.heap.size, 0, none⟩) zx).trans px
  replace qx := (Sq.cell (p := ⟨w1_.heap.size, 1, none⟩) zx).trans qx
  replace zx : w1_.heap.size < w10.heap.size := Nat.lt_of_lt_of_le zx Sq.size
  replace HA : Hid (Rd w10 w10.heap.size A bs) := HA.out.on Sq
  replace RX : Hid (Rd w10 w10.heap.size A1 bX) := RX.out.on Sq
  replace HB : Hid (Below w.heap.size w w10) := HB.out.trans (Sq.mono HB.out.size)
  clear Sq
  have pg := T.x0
  have qg := T.x1
  have zg : w2_.heap.size < w10.heap.size := T.size
  have RG := Lib.hid T.rx
  clear T
  go_wp2_with fail
  refine (HE.out _ HA.out).mono ?_
  rintro e w3_ ⟨rfl, Bq⟩
  have Sq : Below w10.heap.size w10 w3_ := Bq
  replace pb := (Sq.cell (p := ⟨w.heap.size, 0, none⟩) zb).trans pb
  replace qb := (Sq.cell (p := ⟨w.heap.size, 1, none⟩) zb).trans qb
  replace zb : w.heap.size < w3_.heap.size := Nat.lt_of_lt_of_le zb Sq.size
  replace px := (Sq.cell (p := ⟨w1_.heap.size, 0, none⟩) zx).trans px
  replace qx := (Sq.cell (p := ⟨w1_.heap.size, 1, none⟩) zx).trans qx
  replace zx : w1_.heap.size < w3_.heap.size := Nat.lt_of_lt_of_le zx Sq.size
  replace pg := (Sq.cell (p := ⟨w2_.heap.size, 0, none⟩) zg).trans pg
  replace qg := (Sq.cell (p := ⟨w2_.heap.size, 1, none⟩) zg).trans qg
  replace zg : w2_.heap.size < w3_.heap.size := Nat.lt_of_lt_of_le zg Sq.size
  replace HA : Hid (Rd w3_ w3_.heap.size A bs) := HA.out.on Sq
  replace RX : Hid (Rd w3_ w3_.heap.size A1 bX) := RX.out.on Sq
  replace RG : Hid (Rd w3_ w3_.heap.size A6 bX) := RG.out.on Sq
  replace HB : Hid (Below w.heap.size w w3_) := HB.out.trans (Sq.mono HB.out.size)
  clear Bq Sq
  clear hw d0 d1 g0 g1
  go_wp2_with fail
  refine (HBL.out _ HA.out).mono ?_
  rintro e w4_ ⟨A9, c9, rfl, Rq, Bq⟩
  have Sq : Below w3_.heap.size w3_ w4_ := Bq
  replace pb := (Sq.cell (p := ⟨w.heap.size, 0, none⟩) zb).trans pb
  replace qb := (Sq.cell (p := ⟨w.heap.size, 1, none⟩) zb).trans qb
  replace zb : w.heap.size < w4_.heap.size := Nat.lt_of_lt_of_le zb Sq.size
  replace px := (Sq.cell (p := ⟨w1_.heap.size, 0, none⟩) zx).trans px
  replace qx := (Sq.cell (p := ⟨w1_.heap.size, 1, none⟩) zx).trans qx
  replace zx : w1_.heap.size < w4_.heap.size := Nat.lt_of_lt_of_le zx Sq.size
  replace pg := (Sq.cell (p := ⟨w2_.heap.size, 0, none⟩) zg).trans pg
  replace qg := (Sq.cell (p := ⟨w2_.heap.size, 1, none⟩) zg).trans qg
  replace zg : w2_.heap.size < w4_.heap.size := Nat.lt_of_lt_of_le zg Sq.size
  replace HA : Hid (Rd w4_ w4_.heap.size A bs) := HA.out.on Sq
  replace RX : Hid (Rd w4_ w4_.heap.size A1 bX) := RX.out.on Sq
  replace RG : Hid (Rd w4_ w4_.heap.size A6 bX) := RG.out.on Sq
  replace HB : Hid (Below w.heap.size w w4_) := HB.out.trans (Sq.mono HB.out.size)
  clear Bq Sq
  have RB := Lib.hid Rq; clear Rq
  go_wp2_with fail
  refine (HZR.out A9 c9 _ RB.out).mono ?_
  rintro e w5_ ⟨rfl, Bq⟩
  have Sq : Below w4_.heap.size w4_ w5_ := Bq
  replace pb := (Sq.cell (p := ⟨w.heap.size, 0, none⟩) zb).trans pb
  replace qb := (Sq.cell (p := ⟨w.heap.size, 1, none⟩) zb).trans qb
  replace zb : w.heap.size < w5_.heap.size := Nat.lt_of_lt_of_le zb Sq.size
  replace px := (Sq.cell (p := ⟨w1_.heap.size, 0, none⟩) zx).trans px
  replace qx := (Sq.cell (p := ⟨w1_.heap.size, 1, none⟩) zx).trans qx
  replace zx : w1_.heap.size < w5_.heap.size := Nat.lt_of_lt_of_le zx Sq.size
  replace pg := (Sq.cell (p := ⟨w2_.heap.size, 0, none⟩) zg).trans pg
  replace qg := (Sq.cell (p := ⟨w2_.heap.size, 1, none⟩) zg).trans qg
  replace zg : w2_.heap.size < w5_.heap.size := Nat.lt_of_lt_of_le zg Sq.size
  replace HA : Hid (Rd w5_ w5_.heap.size A bs) := HA.out.on Sq
  replace RX : Hid (Rd w5_ w5_.heap.size A1 bX) := RX.out.on Sq
  replace RG : Hid (Rd w5_ w5_.heap.size A6 bX) := RG.out.on Sq
  replace RB : Hid (RdV w5_ w5_.heap.size A9 (ic lB)) := RB.out.on Sq
  replace HB : Hid (Below w.heap.size w w5_) := HB.out.trans (Sq.mono HB.out.size)
  clear Bq Sq
  go_wp2_with fail
  refine (gbegun_true _).mono ?_
  rintro e w6_ ⟨rfl, Bq⟩
  have Sq : Below w5_.heap.size w5_ w6_ := Bq
  replace pb := (Sq.cell (p := ⟨w.heap.size, 0, none⟩) zb).trans pb
  replace qb := (Sq.cell (p := ⟨w.heap.size, 1, none⟩) zb).trans qb
  replace zb : w.heap.size < w6_.heap.size := Nat.lt_of_lt_of_le zb Sq.size
  replace px := (Sq.cell (p := ⟨w1_.heap.size, 0, none⟩) zx).trans px
  replace qx := (Sq.cell (p := ⟨w1_.heap.size, 1, none⟩) zx).trans qx
  replace zx : w1_.heap.size < w6_.heap.size := Nat.lt_of_lt_of_le zx Sq.size
  replace pg := (Sq.cell (p := ⟨w2_.heap.size, 0, none⟩) zg).trans pg
  replace qg := (Sq.cell (p := ⟨w2_.heap.size, 1, none⟩) zg).trans qg
  replace zg : w2_.heap.size < w6_.heap.size := Nat.lt_of_lt_of_le zg Sq.size
  replace HA : Hid (Rd w6_ w6_.heap.size A bs) := HA.out.on Sq
  replace RX : Hid (Rd w6_ w6_.heap.size A1 bX) := RX.out.on Sq
  replace RG : Hid (Rd w6_ w6_.heap.size A6 bX) := RG.out.on Sq
  replace RB : Hid (RdV w6_ w6_.heap.size A9 (ic lB)) := RB.out.on Sq
  replace HB : Hid (Below w.heap.size w w6_) := HB.out.trans (Sq.mono HB.out.size)
  clear Bq Sq
  go_wp2_with fail
  refine (HS.out A1 A6 c1 c6 _ RX.out RG.out).mono ?_
  rintro e w7_ ⟨rfl, Bq⟩
  have Sq : Below w6_.heap.size w6_ w7_ := Bq
  replace pb := (Sq.cell (p := ⟨w.heap.size, 0, none⟩) zb).trans pb
  replace qb := (Sq.cell (p := ⟨w.heap.size, 1, none⟩) zb).trans qb
  replace zb : w.heap.size < w7_.heap.size := Nat.lt_of_lt_of_le zb Sq.size
  replace px := (Sq.cell (p := ⟨w1_.heap.size, 0, none⟩) zx).trans px
  replace qx := (Sq.cell (p := ⟨w1_.heap.size, 1, none⟩) zx).trans qx
  replace zx : w1_.heap.size < w7_.heap.size := Nat.lt_of_lt_of_le zx Sq.size
  replace pg := (Sq.cell (p := ⟨w2_.heap.size, 0, none⟩) zg).trans pg
  replace qg := (Sq.cell (p := ⟨w2_.heap.size, 1, none⟩) zg).trans qg
  replace zg : w2_.heap.size < w7_.heap.size := Nat.lt_of_lt_of_le zg Sq.size
  replace HA : Hid (Rd w7_ w7_.heap.size A bs) := HA.out.on Sq
  replace RX : Hid (Rd w7_ w7_.heap.size A1 bX) := RX.out.on Sq
  replace RG : Hid (Rd w7_ w7_.heap.size A6 bX) := RG.out.on Sq
  replace RB : Hid (RdV w7_ w7_.heap.size A9 (ic lB)) := RB.out.on Sq
  replace HB : Hid (Below w.heap.size w w7_) := HB.out.trans (Sq.mono HB.out.size)
  clear Bq Sq
  go_wp2
  go_ret
  exact ⟨rfl, HB.out⟩
set_option maxHeartbeats 1000000 in
theorem gzeta_obb (w : World) (n k : Int) (len : Int) (A : Option Addr) (c N : Nat) (bs : List Nat) (p0 : Int) (hA : Rd w w.heap.size A bs) (e0 : Int) (h0 : e0 ≠ 0) (hk1 : 1 ≤ k) (hk2 : k ≤ 16) (hn : 1099511627776 < n)
    (HX : Hid (∀ V, Calls Try.prog 44 #[.int .u64 n, .int .i64 k] V (Gv V 0 0 [] 3)))
    (HP : Hid (∀ V, Rd V V.heap.size A bs → Calls Try.prog 45 #[.agg #[.int .i64 len, .slice A N c], .int .i64 p0, .int .i64 k] V (ReadP V 0 0 e0)))
    (HE : Hid (∀ V, Rd V V.heap.size A bs → Calls Try.prog 23 #[.agg #[.int .i64 len, .slice A N c], .int .i64 p0] V fun e w' => e = .returned (.int .i64 e0) ∧ Below V.heap.size V w'))
    (HS : Hid (∀ A B c d V, Rd V V.heap.size A [] → Rd V V.heap.size B [] → Calls Try.prog 28 #[.agg #[.int .i64 0, .slice A 0 c], .agg #[.int .i64 0, .slice B 0 d]] V fun e w' => e = .returned (.bool true) ∧ Below V.heap.size V w')) :
    Calls Try.prog 9 #[.int .u64 n, .int .i64 k, .agg #[.int .i64 len, .slice A N c], .int .i64 p0] w fun e w' => e = .returned (.bool true) ∧ Below w.heap.size w w' := by
  have HA := Lib.hid hA; clear hA
  have a1 : decide ((1 : Int) ≤ k) = true := by simp; omega
  have a2 : decide (k ≤ 16) = true := by simp; omega
  have a3 : decide (n ≤ 1099511627776) = false := by simp; omega
  have t2 : (e0 == 0) = false := by simpa using h0
  clear h0
  go_enter Try.func9, Try.ntmps9
  go_wp2_with fail
  refine (HX.out _).mono ?_
  rintro e w1_ ⟨A1, c1, rfl, Rq, Bq⟩
  rw [World.size_alloc] at Bq
  have Sq : Below w.heap.size w w1_ := (one_below w _).trans (Bq.mono (by omega))
  have zb : w.heap.size < w1_.heap.size := by have := Bq.size; rw [World.size_alloc] at this; omega
  obtain ⟨pb, qb⟩ := box_at Bq
  replace HA : Hid (Rd w1_ w1_.heap.size A bs) := HA.out.on Sq
  have HB : Hid (Below w.heap.size w w1_) := Sq
  clear Bq Sq
  have RX := Lib.hid Rq; clear Rq
  go_wp2_with fail
  refine (HP.out _ (HA.out.on (one_below w1_ _))).mono ?_
  rintro e w2_ ⟨rfl, Bq⟩
  rw [World.size_alloc] at Bq
  have Sq : Below w1_.heap.size w1_ w2_ := (one_below w1_ _).trans (Bq.mono (by omega))
  have zx : w1_.heap.size < w2_.heap.size := by have := Bq.size; rw [World.size_alloc] at this; omega
  obtain ⟨px, qx⟩ := box_at Bq
  replace pb := (Sq.cell (p := ⟨w.heap.size, 0, none⟩) zb).trans pb
  replace qb := (Sq.cell (p := ⟨w.heap.size, 1, none⟩) zb).trans qb
  replace zb : w.heap.size < w2_.heap.size := Nat.lt_of_lt_of_le zb Sq.size
  replace HA : Hid (Rd w2_ w2_.heap.size A bs) := HA.out.on Sq
  replace RX : Hid (Rd w2_ w2_.heap.size A1 []) := RX.out.on Sq
  replace HB : Hid (Below w.heap.size w w2_) := HB.out.trans (Sq.mono HB.out.size)
  clear Bq Sq
  go_wp2_with fail
  obtain ⟨w10, hw, T⟩ := one_zero w2_
  rw [hw]
  clear hw
  have Sq := T.below
  replace pb := (Sq.cell (p := ⟨w.heap.size, 0, none⟩) zb).trans pb
  replace qb := (Sq.cell (p := ⟨w.heap.size, 1, none⟩) zb).trans qb
  replace zb : w.heap.size < w10.heap.size := Nat.lt_of_lt_of_le zb Sq.size
  replace px := (Sq.cell (p := ⟨w1_.heap.size, 0, none⟩) zx).trans px
  replace qx := (Sq.cell (p := ⟨w1_.heap.size, 1, none⟩) zx).trans qx
  replace zx : w1_.heap.size < w10.heap.size := Nat.lt_of_lt_of_le zx Sq.size
  replace HA : Hid (Rd w10 w10.heap.size A bs) := HA.out.on Sq
  replace RX : Hid (Rd w10 w10.heap.size A1 []) := RX.out.on Sq
  replace HB : Hid (Below w.heap.size w w10) := HB.out.trans (Sq.mono HB.out.size)
  clear Sq
  have pg := T.x0
  have qg := T.x1
  have zg : w2_.heap.size < w10.heap.size := T.size
  have RG := Lib.hid T.rx
  clear T
  refine (HE.out _ HA.out).mono ?_
  rintro e w3_ ⟨rfl, Bq⟩
  have Sq : Below w10.heap.size w10 w3_ := Bq
  replace pb := (Sq.cell (p := ⟨w.heap.size, 0, none⟩) zb).trans pb
  replace qb := (Sq.cell (p := ⟨w.heap.size, 1, none⟩) zb).trans qb
  replace zb : w.heap.size < w3_.heap.size := Nat.lt_of_lt_of_le zb Sq.size
  replace px := (Sq.cell (p := ⟨w1_.heap.size, 0, none⟩) zx).trans px
  replace qx := (Sq.cell (p := ⟨w1_.heap.size, 1, none⟩) zx).trans qx
  replace zx : w1_.heap.size < w3_.heap.size := Nat.lt_of_lt_of_le zx Sq.size
  replace pg := (Sq.cell (p := ⟨w2_.heap.size, 0, none⟩) zg).trans pg
  replace qg := (Sq.cell (p := ⟨w2_.heap.size, 1, none⟩) zg).trans qg
  replace zg : w2_.heap.size < w3_.heap.size := Nat.lt_of_lt_of_le zg Sq.size
  replace HA : Hid (Rd w3_ w3_.heap.size A bs) := HA.out.on Sq
  replace RX : Hid (Rd w3_ w3_.heap.size A1 []) := RX.out.on Sq
  replace RG : Hid (Rd w3_ w3_.heap.size none []) := RG.out.on Sq
  replace HB : Hid (Below w.heap.size w w3_) := HB.out.trans (Sq.mono HB.out.size)
  clear Bq Sq
  go_wp2_with fail
  refine (gbegun_true _).mono ?_
  rintro e w4_ ⟨rfl, Bq⟩
  have Sq : Below w3_.heap.size w3_ w4_ := Bq
  replace pb := (Sq.cell (p := ⟨w.heap.size, 0, none⟩) zb).trans pb
  replace qb := (Sq.cell (p := ⟨w.heap.size, 1, none⟩) zb).trans qb
  replace zb : w.heap.size < w4_.heap.size := Nat.lt_of_lt_of_le zb Sq.size
  replace px := (Sq.cell (p := ⟨w1_.heap.size, 0, none⟩) zx).trans px
  replace qx := (Sq.cell (p := ⟨w1_.heap.size, 1, none⟩) zx).trans qx
  replace zx : w1_.heap.size < w4_.heap.size := Nat.lt_of_lt_of_le zx Sq.size
  replace pg := (Sq.cell (p := ⟨w2_.heap.size, 0, none⟩) zg).trans pg
  replace qg := (Sq.cell (p := ⟨w2_.heap.size, 1, none⟩) zg).trans qg
  replace zg : w2_.heap.size < w4_.heap.size := Nat.lt_of_lt_of_le zg Sq.size
  replace HA : Hid (Rd w4_ w4_.heap.size A bs) := HA.out.on Sq
  replace RX : Hid (Rd w4_ w4_.heap.size A1 []) := RX.out.on Sq
  replace RG : Hid (Rd w4_ w4_.heap.size none []) := RG.out.on Sq
  replace HB : Hid (Below w.heap.size w w4_) := HB.out.trans (Sq.mono HB.out.size)
  clear Bq Sq
  go_wp2_with fail
  refine (HS.out A1 none c1 0 _ RX.out RG.out).mono ?_
  rintro e w5_ ⟨rfl, Bq⟩
  have Sq : Below w4_.heap.size w4_ w5_ := Bq
  replace pb := (Sq.cell (p := ⟨w.heap.size, 0, none⟩) zb).trans pb
  replace qb := (Sq.cell (p := ⟨w.heap.size, 1, none⟩) zb).trans qb
  replace zb : w.heap.size < w5_.heap.size := Nat.lt_of_lt_of_le zb Sq.size
  replace px := (Sq.cell (p := ⟨w1_.heap.size, 0, none⟩) zx).trans px
  replace qx := (Sq.cell (p := ⟨w1_.heap.size, 1, none⟩) zx).trans qx
  replace zx : w1_.heap.size < w5_.heap.size := Nat.lt_of_lt_of_le zx Sq.size
  replace pg := (Sq.cell (p := ⟨w2_.heap.size, 0, none⟩) zg).trans pg
  replace qg := (Sq.cell (p := ⟨w2_.heap.size, 1, none⟩) zg).trans qg
  replace zg : w2_.heap.size < w5_.heap.size := Nat.lt_of_lt_of_le zg Sq.size
  replace HA : Hid (Rd w5_ w5_.heap.size A bs) := HA.out.on Sq
  replace RX : Hid (Rd w5_ w5_.heap.size A1 []) := RX.out.on Sq
  replace RG : Hid (Rd w5_ w5_.heap.size none []) := RG.out.on Sq
  replace HB : Hid (Below w.heap.size w w5_) := HB.out.trans (Sq.mono HB.out.size)
  clear Bq Sq
  go_wp2
  go_ret
  exact ⟨rfl, HB.out⟩
set_option maxHeartbeats 1000000 in
theorem gzeta_obo (w : World) (n k : Int) (len : Int) (A : Option Addr) (c N : Nat) (bs : List Nat) (p0 : Int) (hA : Rd w w.heap.size A bs) (r1 r2 nB : Nat) (g : Int) (lB : List Bool) (hk1 : 1 ≤ k) (hk2 : k ≤ 16) (hn : 1099511627776 < n)
    (HX : Hid (∀ V, Calls Try.prog 44 #[.int .u64 n, .int .i64 k] V (Gv V 0 0 [] 3)))
    (HP : Hid (∀ V, Rd V V.heap.size A bs → Calls Try.prog 45 #[.agg #[.int .i64 len, .slice A N c], .int .i64 p0, .int .i64 k] V (ReadP V r1 r2 g)))
    (HE : Hid (∀ V, Rd V V.heap.size A bs → Calls Try.prog 23 #[.agg #[.int .i64 len, .slice A N c], .int .i64 p0] V fun e w' => e = .returned (.int .i64 0) ∧ Below V.heap.size V w'))
    (HS : Hid (∀ A B c d V, Rd V V.heap.size A [] → Rd V V.heap.size B [] → Calls Try.prog 28 #[.agg #[.int .i64 0, .slice A 0 c], .agg #[.int .i64 0, .slice B 0 d]] V fun e w' => e = .returned (.bool true) ∧ Below V.heap.size V w'))
    (HBL : Hid (∀ V, Rd V V.heap.size A bs → Calls Try.prog 24 #[.agg #[.int .i64 len, .slice A N c]] V fun e w' => ∃ A c, e = .returned (.slice A nB c) ∧ RdV w' w'.heap.size A (ic lB) ∧ Below V.heap.size V w'))
    (HZR : Hid (∀ A c V, RdV V V.heap.size A (ic lB) → Calls Try.prog 47 #[.slice A nB c, .int .i64 p0, .int .i64 k] V (ReadP V r1 r2 g))) :
    Calls Try.prog 9 #[.int .u64 n, .int .i64 k, .agg #[.int .i64 len, .slice A N c], .int .i64 p0] w fun e w' => e = .returned (.bool true) ∧ Below w.heap.size w w' := by
  have HA := Lib.hid hA; clear hA
  have a1 : decide ((1 : Int) ≤ k) = true := by simp; omega
  have a2 : decide (k ≤ 16) = true := by simp; omega
  have a3 : decide (n ≤ 1099511627776) = false := by simp; omega
  go_enter Try.func9, Try.ntmps9
  go_wp2_with fail
  refine (HX.out _).mono ?_
  rintro e w1_ ⟨A1, c1, rfl, Rq, Bq⟩
  rw [World.size_alloc] at Bq
  have Sq : Below w.heap.size w w1_ := (one_below w _).trans (Bq.mono (by omega))
  have zb : w.heap.size < w1_.heap.size := by have := Bq.size; rw [World.size_alloc] at this; omega
  obtain ⟨pb, qb⟩ := box_at Bq
  replace HA : Hid (Rd w1_ w1_.heap.size A bs) := HA.out.on Sq
  have HB : Hid (Below w.heap.size w w1_) := Sq
  clear Bq Sq
  have RX := Lib.hid Rq; clear Rq
  go_wp2_with fail
  refine (HP.out _ (HA.out.on (one_below w1_ _))).mono ?_
  rintro e w2_ ⟨rfl, Bq⟩
  rw [World.size_alloc] at Bq
  have Sq : Below w1_.heap.size w1_ w2_ := (one_below w1_ _).trans (Bq.mono (by omega))
  have zx : w1_.heap.size < w2_.heap.size := by have := Bq.size; rw [World.size_alloc] at this; omega
  obtain ⟨px, qx⟩ := box_at Bq
  replace pb := (Sq.cell (p := ⟨w.heap.size, 0, none⟩) zb).trans pb
  replace qb := (Sq.cell (p := ⟨w.heap.size, 1, none⟩) zb).trans qb
  replace zb : w.heap.size < w2_.heap.size := Nat.lt_of_lt_of_le zb Sq.size
  replace HA : Hid (Rd w2_ w2_.heap.size A bs) := HA.out.on Sq
  replace RX : Hid (Rd w2_ w2_.heap.size A1 []) := RX.out.on Sq
  replace HB : Hid (Below w.heap.size w w2_) := HB.out.trans (Sq.mono HB.out.size)
  clear Bq Sq
  go_wp2_with fail
  obtain ⟨w10, hw, T⟩ := one_zero w2_
  rw [hw]
  clear hw
  have Sq := T.below
  replace pb := (Sq.cell (p := ⟨w.heap.size, 0, none⟩) zb).trans pb
  replace qb := (Sq.cell (p := ⟨w.heap.size, 1, none⟩) zb).trans qb
  replace zb : w.heap.size < w10.heap.size := Nat.lt_of_lt_of_le zb Sq.size
  replace px := (Sq.cell (p := ⟨w1_.heap.size, 0, none⟩) zx).trans px
  replace qx := (Sq.cell (p := ⟨w1_.heap.size, 1, none⟩) zx).trans qx
  replace zx : w1_.heap.size < w10.heap.size := Nat.lt_of_lt_of_le zx Sq.size
  replace HA : Hid (Rd w10 w10.heap.size A bs) := HA.out.on Sq
  replace RX : Hid (Rd w10 w10.heap.size A1 []) := RX.out.on Sq
  replace HB : Hid (Below w.heap.size w w10) := HB.out.trans (Sq.mono HB.out.size)
  clear Sq
  have pg := T.x0
  have qg := T.x1
  have zg : w2_.heap.size < w10.heap.size := T.size
  have RG := Lib.hid T.rx
  clear T
  refine (HE.out _ HA.out).mono ?_
  rintro e w3_ ⟨rfl, Bq⟩
  have Sq : Below w10.heap.size w10 w3_ := Bq
  replace pb := (Sq.cell (p := ⟨w.heap.size, 0, none⟩) zb).trans pb
  replace qb := (Sq.cell (p := ⟨w.heap.size, 1, none⟩) zb).trans qb
  replace zb : w.heap.size < w3_.heap.size := Nat.lt_of_lt_of_le zb Sq.size
  replace px := (Sq.cell (p := ⟨w1_.heap.size, 0, none⟩) zx).trans px
  replace qx := (Sq.cell (p := ⟨w1_.heap.size, 1, none⟩) zx).trans qx
  replace zx : w1_.heap.size < w3_.heap.size := Nat.lt_of_lt_of_le zx Sq.size
  replace pg := (Sq.cell (p := ⟨w2_.heap.size, 0, none⟩) zg).trans pg
  replace qg := (Sq.cell (p := ⟨w2_.heap.size, 1, none⟩) zg).trans qg
  replace zg : w2_.heap.size < w3_.heap.size := Nat.lt_of_lt_of_le zg Sq.size
  replace HA : Hid (Rd w3_ w3_.heap.size A bs) := HA.out.on Sq
  replace RX : Hid (Rd w3_ w3_.heap.size A1 []) := RX.out.on Sq
  replace RG : Hid (Rd w3_ w3_.heap.size none []) := RG.out.on Sq
  replace HB : Hid (Below w.heap.size w w3_) := HB.out.trans (Sq.mono HB.out.size)
  clear Bq Sq
  go_wp2_with fail
  refine (HBL.out _ HA.out).mono ?_
  rintro e w4_ ⟨A9, c9, rfl, Rq, Bq⟩
  have Sq : Below w3_.heap.size w3_ w4_ := Bq
  replace pb := (Sq.cell (p := ⟨w.heap.size, 0, none⟩) zb).trans pb
  replace qb := (Sq.cell (p := ⟨w.heap.size, 1, none⟩) zb).trans qb
  replace zb : w.heap.size < w4_.heap.size := Nat.lt_of_lt_of_le zb Sq.size
  replace px := (Sq.cell (p := ⟨w1_.heap.size, 0, none⟩) zx).trans px
  replace qx := (Sq.cell (p := ⟨w1_.heap.size, 1, none⟩) zx).trans qx
  replace zx : w1_.heap.size < w4_.heap.size := Nat.lt_of_lt_of_le zx Sq.size
  replace pg := (Sq.cell (p := ⟨w2_.heap.size, 0, none⟩) zg).trans pg
  replace qg := (Sq.cell (p := ⟨w2_.heap.size, 1, none⟩) zg).trans qg
  replace zg : w2_.heap.size < w4_.heap.size := Nat.lt_of_lt_of_le zg Sq.size
  replace HA : Hid (Rd w4_ w4_.heap.size A bs) := HA.out.on Sq
  replace RX : Hid (Rd w4_ w4_.heap.size A1 []) := RX.out.on Sq
  replace RG : Hid (Rd w4_ w4_.heap.size none []) := RG.out.on Sq
  replace HB : Hid (Below w.heap.size w w4_) := HB.out.trans (Sq.mono HB.out.size)
  clear Bq Sq
  have RB := Lib.hid Rq; clear Rq
  go_wp2_with fail
  refine (HZR.out A9 c9 _ RB.out).mono ?_
  rintro e w5_ ⟨rfl, Bq⟩
  have Sq : Below w4_.heap.size w4_ w5_ := Bq
  replace pb := (Sq.cell (p := ⟨w.heap.size, 0, none⟩) zb).trans pb
  replace qb := (Sq.cell (p := ⟨w.heap.size, 1, none⟩) zb).trans qb
  replace zb : w.heap.size < w5_.heap.size := Nat.lt_of_lt_of_le zb Sq.size
  replace px := (Sq.cell (p := ⟨w1_.heap.size, 0, none⟩) zx).trans px
  replace qx := (Sq.cell (p := ⟨w1_.heap.size, 1, none⟩) zx).trans qx
  replace zx : w1_.heap.size < w5_.heap.size := Nat.lt_of_lt_of_le zx Sq.size
  replace pg := (Sq.cell (p := ⟨w2_.heap.size, 0, none⟩) zg).trans pg
  replace qg := (Sq.cell (p := ⟨w2_.heap.size, 1, none⟩) zg).trans qg
  replace zg : w2_.heap.size < w5_.heap.size := Nat.lt_of_lt_of_le zg Sq.size
  replace HA : Hid (Rd w5_ w5_.heap.size A bs) := HA.out.on Sq
  replace RX : Hid (Rd w5_ w5_.heap.size A1 []) := RX.out.on Sq
  replace RG : Hid (Rd w5_ w5_.heap.size none []) := RG.out.on Sq
  replace RB : Hid (RdV w5_ w5_.heap.size A9 (ic lB)) := RB.out.on Sq
  replace HB : Hid (Below w.heap.size w w5_) := HB.out.trans (Sq.mono HB.out.size)
  clear Bq Sq
  go_wp2_with fail
  refine (gbegun_true _).mono ?_
  rintro e w6_ ⟨rfl, Bq⟩
  have Sq : Below w5_.heap.size w5_ w6_ := Bq
  replace pb := (Sq.cell (p := ⟨w.heap.size, 0, none⟩) zb).trans pb
  replace qb := (Sq.cell (p := ⟨w.heap.size, 1, none⟩) zb).trans qb
  replace zb : w.heap.size < w6_.heap.size := Nat.lt_of_lt_of_le zb Sq.size
  replace px := (Sq.cell (p := ⟨w1_.heap.size, 0, none⟩) zx).trans px
  replace qx := (Sq.cell (p := ⟨w1_.heap.size, 1, none⟩) zx).trans qx
  replace zx : w1_.heap.size < w6_.heap.size := Nat.lt_of_lt_of_le zx Sq.size
  replace pg := (Sq.cell (p := ⟨w2_.heap.size, 0, none⟩) zg).trans pg
  replace qg := (Sq.cell (p := ⟨w2_.heap.size, 1, none⟩) zg).trans qg
  replace zg : w2_.heap.size < w6_.heap.size := Nat.lt_of_lt_of_le zg Sq.size
  replace HA : Hid (Rd w6_ w6_.heap.size A bs) := HA.out.on Sq
  replace RX : Hid (Rd w6_ w6_.heap.size A1 []) := RX.out.on Sq
  replace RG : Hid (Rd w6_ w6_.heap.size none []) := RG.out.on Sq
  replace RB : Hid (RdV w6_ w6_.heap.size A9 (ic lB)) := RB.out.on Sq
  replace HB : Hid (Below w.heap.size w w6_) := HB.out.trans (Sq.mono HB.out.size)
  clear Bq Sq
  go_wp2_with fail
  refine (HS.out A1 none c1 0 _ RX.out RG.out).mono ?_
  rintro e w7_ ⟨rfl, Bq⟩
  have Sq : Below w6_.heap.size w6_ w7_ := Bq
  replace pb := (Sq.cell (p := ⟨w.heap.size, 0, none⟩) zb).trans pb
  replace qb := (Sq.cell (p := ⟨w.heap.size, 1, none⟩) zb).trans qb
  replace zb : w.heap.size < w7_.heap.size := Nat.lt_of_lt_of_le zb Sq.size
  replace px := (Sq.cell (p := ⟨w1_.heap.size, 0, none⟩) zx).trans px
  replace qx := (Sq.cell (p := ⟨w1_.heap.size, 1, none⟩) zx).trans qx
  replace zx : w1_.heap.size < w7_.heap.size := Nat.lt_of_lt_of_le zx Sq.size
  replace pg := (Sq.cell (p := ⟨w2_.heap.size, 0, none⟩) zg).trans pg
  replace qg := (Sq.cell (p := ⟨w2_.heap.size, 1, none⟩) zg).trans qg
  replace zg : w2_.heap.size < w7_.heap.size := Nat.lt_of_lt_of_le zg Sq.size
  replace HA : Hid (Rd w7_ w7_.heap.size A bs) := HA.out.on Sq
  replace RX : Hid (Rd w7_ w7_.heap.size A1 []) := RX.out.on Sq
  replace RG : Hid (Rd w7_ w7_.heap.size none []) := RG.out.on Sq
  replace RB : Hid (RdV w7_ w7_.heap.size A9 (ic lB)) := RB.out.on Sq
  replace HB : Hid (Below w.heap.size w w7_) := HB.out.trans (Sq.mono HB.out.size)
  clear Bq Sq
  go_wp2
  go_ret
  exact ⟨rfl, HB.out⟩
set_option maxHeartbeats 1000000 in
theorem gzeta_lb (w : World) (n k : Int) (len : Int) (A : Option Addr) (c N : Nat) (bs : List Nat) (p0 : Int) (hA : Rd w w.heap.size A bs) (e0 : Int) (h0 : e0 ≠ 0) (hk1 : k < 1)
    (HX : Hid (∀ V, Calls Try.prog 44 #[.int .u64 n, .int .i64 k] V (Gv V 0 0 [] 3)))
    (HP : Hid (∀ V, Rd V V.heap.size A bs → Calls Try.prog 45 #[.agg #[.int .i64 len, .slice A N c], .int .i64 p0, .int .i64 k] V (ReadP V 0 0 e0)))
    (HE : Hid (∀ V, Rd V V.heap.size A bs → Calls Try.prog 23 #[.agg #[.int .i64 len, .slice A N c], .int .i64 p0] V fun e w' => e = .returned (.int .i64 e0) ∧ Below V.heap.size V w'))
    (HS : Hid (∀ A B c d V, Rd V V.heap.size A [] → Rd V V.heap.size B [] → Calls Try.prog 28 #[.agg #[.int .i64 0, .slice A 0 c], .agg #[.int .i64 0, .slice B 0 d]] V fun e w' => e = .returned (.bool true) ∧ Below V.heap.size V w')) :
    Calls Try.prog 9 #[.int .u64 n, .int .i64 k, .agg #[.int .i64 len, .slice A N c], .int .i64 p0] w fun e w' => e = .returned (.bool true) ∧ Below w.heap.size w w' := by
  have HA := Lib.hid hA; clear hA
  have a1 : decide ((1 : Int) ≤ k) = false := by simp; omega
  have t2 : (e0 == 0) = false := by simpa using h0
  clear h0
  go_enter Try.func9, Try.ntmps9
  go_wp2_with fail
  refine (HX.out _).mono ?_
  rintro e w1_ ⟨A1, c1, rfl, Rq, Bq⟩
  rw [World.size_alloc] at Bq
  have Sq : Below w.heap.size w w1_ := (one_below w _).trans (Bq.mono (by omega))
  have zb : w.heap.size < w1_.heap.size := by have := Bq.size; rw [World.size_alloc] at this; omega
  obtain ⟨pb, qb⟩ := box_at Bq
  replace HA : Hid (Rd w1_ w1_.heap.size A bs) := HA.out.on Sq
  have HB : Hid (Below w.heap.size w w1_) := Sq
  clear Bq Sq
  have RX := Lib.hid Rq; clear Rq
  go_wp2_with fail
  refine (HP.out _ (HA.out.on (one_below w1_ _))).mono ?_
  rintro e w2_ ⟨rfl, Bq⟩
  rw [World.size_alloc] at Bq
  have Sq : Below w1_.heap.size w1_ w2_ := (one_below w1_ _).trans (Bq.mono (by omega))
  have zx : w1_.heap.size < w2_.heap.size := by have := Bq.size; rw [World.size_alloc] at this; omega
  obtain ⟨px, qx⟩ := box_at Bq
  replace pb := (Sq.cell (p := ⟨w.heap.size, 0, none⟩) zb).trans pb
  replace qb := (Sq.cell (p := ⟨w.heap.size, 1, none⟩) zb).trans qb
  replace zb : w.heap.size < w2_.heap.size := Nat.lt_of_lt_of_le zb Sq.size
  replace HA : Hid (Rd w2_ w2_.heap.size A bs) := HA.out.on Sq
  replace RX : Hid (Rd w2_ w2_.heap.size A1 []) := RX.out.on Sq
  replace HB : Hid (Below w.heap.size w w2_) := HB.out.trans (Sq.mono HB.out.size)
  clear Bq Sq
  go_wp2_with fail
  obtain ⟨w10, hw, T⟩ := one_zero w2_
  rw [hw]
  clear hw
  have Sq := T.below
  replace pb := (Sq.cell (p := ⟨w.heap.size, 0, none⟩) zb).trans pb
  replace qb := (Sq.cell (p := ⟨w.heap.size, 1, none⟩) zb).trans qb
  replace zb : w.heap.size < w10.heap.size := Nat.lt_of_lt_of_le zb Sq.size
  replace px := (Sq.cell (p := ⟨w1_.heap.size, 0, none⟩) zx).trans px
  replace qx := (Sq.cell (p := ⟨w1_.heap.size, 1, none⟩) zx).trans qx
  replace zx : w1_.heap.size < w10.heap.size := Nat.lt_of_lt_of_le zx Sq.size
  replace HA : Hid (Rd w10 w10.heap.size A bs) := HA.out.on Sq
  replace RX : Hid (Rd w10 w10.heap.size A1 []) := RX.out.on Sq
  replace HB : Hid (Below w.heap.size w w10) := HB.out.trans (Sq.mono HB.out.size)
  clear Sq
  have pg := T.x0
  have qg := T.x1
  have zg : w2_.heap.size < w10.heap.size := T.size
  have RG := Lib.hid T.rx
  clear T
  refine (HE.out _ HA.out).mono ?_
  rintro e w3_ ⟨rfl, Bq⟩
  have Sq : Below w10.heap.size w10 w3_ := Bq
  replace pb := (Sq.cell (p := ⟨w.heap.size, 0, none⟩) zb).trans pb
  replace qb := (Sq.cell (p := ⟨w.heap.size, 1, none⟩) zb).trans qb
  replace zb : w.heap.size < w3_.heap.size := Nat.lt_of_lt_of_le zb Sq.size
  replace px := (Sq.cell (p := ⟨w1_.heap.size, 0, none⟩) zx).trans px
  replace qx := (Sq.cell (p := ⟨w1_.heap.size, 1, none⟩) zx).trans qx
  replace zx : w1_.heap.size < w3_.heap.size := Nat.lt_of_lt_of_le zx Sq.size
  replace pg := (Sq.cell (p := ⟨w2_.heap.size, 0, none⟩) zg).trans pg
  replace qg := (Sq.cell (p := ⟨w2_.heap.size, 1, none⟩) zg).trans qg
  replace zg : w2_.heap.size < w3_.heap.size := Nat.lt_of_lt_of_le zg Sq.size
  replace HA : Hid (Rd w3_ w3_.heap.size A bs) := HA.out.on Sq
  replace RX : Hid (Rd w3_ w3_.heap.size A1 []) := RX.out.on Sq
  replace RG : Hid (Rd w3_ w3_.heap.size none []) := RG.out.on Sq
  replace HB : Hid (Below w.heap.size w w3_) := HB.out.trans (Sq.mono HB.out.size)
  clear Bq Sq
  go_wp2_with fail
  refine (gbegun_true _).mono ?_
  rintro e w4_ ⟨rfl, Bq⟩
  have Sq : Below w3_.heap.size w3_ w4_ := Bq
  replace pb := (Sq.cell (p := ⟨w.heap.size, 0, none⟩) zb).trans pb
  replace qb := (Sq.cell (p := ⟨w.heap.size, 1, none⟩) zb).trans qb
  replace zb : w.heap.size < w4_.heap.size := Nat.lt_of_lt_of_le zb Sq.size
  replace px := (Sq.cell (p := ⟨w1_.heap.size, 0, none⟩) zx).trans px
  replace qx := (Sq.cell (p := ⟨w1_.heap.size, 1, none⟩) zx).trans qx
  replace zx : w1_.heap.size < w4_.heap.size := Nat.lt_of_lt_of_le zx Sq.size
  replace pg := (Sq.cell (p := ⟨w2_.heap.size, 0, none⟩) zg).trans pg
  replace qg := (Sq.cell (p := ⟨w2_.heap.size, 1, none⟩) zg).trans qg
  replace zg : w2_.heap.size < w4_.heap.size := Nat.lt_of_lt_of_le zg Sq.size
  replace HA : Hid (Rd w4_ w4_.heap.size A bs) := HA.out.on Sq
  replace RX : Hid (Rd w4_ w4_.heap.size A1 []) := RX.out.on Sq
  replace RG : Hid (Rd w4_ w4_.heap.size none []) := RG.out.on Sq
  replace HB : Hid (Below w.heap.size w w4_) := HB.out.trans (Sq.mono HB.out.size)
  clear Bq Sq
  go_wp2_with fail
  refine (HS.out A1 none c1 0 _ RX.out RG.out).mono ?_
  rintro e w5_ ⟨rfl, Bq⟩
  have Sq : Below w4_.heap.size w4_ w5_ := Bq
  replace pb := (Sq.cell (p := ⟨w.heap.size, 0, none⟩) zb).trans pb
  replace qb := (Sq.cell (p := ⟨w.heap.size, 1, none⟩) zb).trans qb
  replace zb : w.heap.size < w5_.heap.size := Nat.lt_of_lt_of_le zb Sq.size
  replace px := (Sq.cell (p := ⟨w1_.heap.size, 0, none⟩) zx).trans px
  replace qx := (Sq.cell (p := ⟨w1_.heap.size, 1, none⟩) zx).trans qx
  replace zx : w1_.heap.size < w5_.heap.size := Nat.lt_of_lt_of_le zx Sq.size
  replace pg := (Sq.cell (p := ⟨w2_.heap.size, 0, none⟩) zg).trans pg
  replace qg := (Sq.cell (p := ⟨w2_.heap.size, 1, none⟩) zg).trans qg
  replace zg : w2_.heap.size < w5_.heap.size := Nat.lt_of_lt_of_le zg Sq.size
  replace HA : Hid (Rd w5_ w5_.heap.size A bs) := HA.out.on Sq
  replace RX : Hid (Rd w5_ w5_.heap.size A1 []) := RX.out.on Sq
  replace RG : Hid (Rd w5_ w5_.heap.size none []) := RG.out.on Sq
  replace HB : Hid (Below w.heap.size w w5_) := HB.out.trans (Sq.mono HB.out.size)
  clear Bq Sq
  go_wp2
  go_ret
  exact ⟨rfl, HB.out⟩
set_option maxHeartbeats 1000000 in
theorem gzeta_lo (w : World) (n k : Int) (len : Int) (A : Option Addr) (c N : Nat) (bs : List Nat) (p0 : Int) (hA : Rd w w.heap.size A bs) (hk1 : k < 1)
    (HX : Hid (∀ V, Calls Try.prog 44 #[.int .u64 n, .int .i64 k] V (Gv V 0 0 [] 3)))
    (HP : Hid (∀ V, Rd V V.heap.size A bs → Calls Try.prog 45 #[.agg #[.int .i64 len, .slice A N c], .int .i64 p0, .int .i64 k] V (ReadP V 0 0 3)))
    (HE : Hid (∀ V, Rd V V.heap.size A bs → Calls Try.prog 23 #[.agg #[.int .i64 len, .slice A N c], .int .i64 p0] V fun e w' => e = .returned (.int .i64 0) ∧ Below V.heap.size V w'))
    (HS : Hid (∀ A B c d V, Rd V V.heap.size A [] → Rd V V.heap.size B [] → Calls Try.prog 28 #[.agg #[.int .i64 0, .slice A 0 c], .agg #[.int .i64 0, .slice B 0 d]] V fun e w' => e = .returned (.bool true) ∧ Below V.heap.size V w')) :
    Calls Try.prog 9 #[.int .u64 n, .int .i64 k, .agg #[.int .i64 len, .slice A N c], .int .i64 p0] w fun e w' => e = .returned (.bool true) ∧ Below w.heap.size w w' := by
  have HA := Lib.hid hA; clear hA
  have a1 : decide ((1 : Int) ≤ k) = false := by simp; omega
  go_enter Try.func9, Try.ntmps9
  go_wp2_with fail
  refine (HX.out _).mono ?_
  rintro e w1_ ⟨A1, c1, rfl, Rq, Bq⟩
  rw [World.size_alloc] at Bq
  have Sq : Below w.heap.size w w1_ := (one_below w _).trans (Bq.mono (by omega))
  have zb : w.heap.size < w1_.heap.size := by have := Bq.size; rw [World.size_alloc] at this; omega
  obtain ⟨pb, qb⟩ := box_at Bq
  replace HA : Hid (Rd w1_ w1_.heap.size A bs) := HA.out.on Sq
  have HB : Hid (Below w.heap.size w w1_) := Sq
  clear Bq Sq
  have RX := Lib.hid Rq; clear Rq
  go_wp2_with fail
  refine (HP.out _ (HA.out.on (one_below w1_ _))).mono ?_
  rintro e w2_ ⟨rfl, Bq⟩
  rw [World.size_alloc] at Bq
  have Sq : Below w1_.heap.size w1_ w2_ := (one_below w1_ _).trans (Bq.mono (by omega))
  have zx : w1_.heap.size < w2_.heap.size := by have := Bq.size; rw [World.size_alloc] at this; omega
  obtain ⟨px, qx⟩ := box_at Bq
  replace pb := (Sq.cell (p := ⟨w.heap.size, 0, none⟩) zb).trans pb
  replace qb := (Sq.cell (p := ⟨w.heap.size, 1, none⟩) zb).trans qb
  replace zb : w.heap.size < w2_.heap.size := Nat.lt_of_lt_of_le zb Sq.size
  replace HA : Hid (Rd w2_ w2_.heap.size A bs) := HA.out.on Sq
  replace RX : Hid (Rd w2_ w2_.heap.size A1 []) := RX.out.on Sq
  replace HB : Hid (Below w.heap.size w w2_) := HB.out.trans (Sq.mono HB.out.size)
  clear Bq Sq
  go_wp2_with fail
  obtain ⟨w10, hw, T⟩ := one_zero w2_
  rw [hw]
  clear hw
  have Sq := T.below
  replace pb := (Sq.cell (p := ⟨w.heap.size, 0, none⟩) zb).trans pb
  replace qb := (Sq.cell (p := ⟨w.heap.size, 1, none⟩) zb).trans qb
  replace zb : w.heap.size < w10.heap.size := Nat.lt_of_lt_of_le zb Sq.size
  replace px := (Sq.cell (p := ⟨w1_.heap.size, 0, none⟩) zx).trans px
  replace qx := (Sq.cell (p := ⟨w1_.heap.size, 1, none⟩) zx).trans qx
  replace zx : w1_.heap.size < w10.heap.size := Nat.lt_of_lt_of_le zx Sq.size
  replace HA : Hid (Rd w10 w10.heap.size A bs) := HA.out.on Sq
  replace RX : Hid (Rd w10 w10.heap.size A1 []) := RX.out.on Sq
  replace HB : Hid (Below w.heap.size w w10) := HB.out.trans (Sq.mono HB.out.size)
  clear Sq
  have pg := T.x0
  have qg := T.x1
  have zg : w2_.heap.size < w10.heap.size := T.size
  have RG := Lib.hid T.rx
  clear T
  refine (HE.out _ HA.out).mono ?_
  rintro e w3_ ⟨rfl, Bq⟩
  have Sq : Below w10.heap.size w10 w3_ := Bq
  replace pb := (Sq.cell (p := ⟨w.heap.size, 0, none⟩) zb).trans pb
  replace qb := (Sq.cell (p := ⟨w.heap.size, 1, none⟩) zb).trans qb
  replace zb : w.heap.size < w3_.heap.size := Nat.lt_of_lt_of_le zb Sq.size
  replace px := (Sq.cell (p := ⟨w1_.heap.size, 0, none⟩) zx).trans px
  replace qx := (Sq.cell (p := ⟨w1_.heap.size, 1, none⟩) zx).trans qx
  replace zx : w1_.heap.size < w3_.heap.size := Nat.lt_of_lt_of_le zx Sq.size
  replace pg := (Sq.cell (p := ⟨w2_.heap.size, 0, none⟩) zg).trans pg
  replace qg := (Sq.cell (p := ⟨w2_.heap.size, 1, none⟩) zg).trans qg
  replace zg : w2_.heap.size < w3_.heap.size := Nat.lt_of_lt_of_le zg Sq.size
  replace HA : Hid (Rd w3_ w3_.heap.size A bs) := HA.out.on Sq
  replace RX : Hid (Rd w3_ w3_.heap.size A1 []) := RX.out.on Sq
  replace RG : Hid (Rd w3_ w3_.heap.size none []) := RG.out.on Sq
  replace HB : Hid (Below w.heap.size w w3_) := HB.out.trans (Sq.mono HB.out.size)
  clear Bq Sq
  go_wp2_with fail
  refine (gbegun_true _).mono ?_
  rintro e w4_ ⟨rfl, Bq⟩
  have Sq : Below w3_.heap.size w3_ w4_ := Bq
  replace pb := (Sq.cell (p := ⟨w.heap.size, 0, none⟩) zb).trans pb
  replace qb := (Sq.cell (p := ⟨w.heap.size, 1, none⟩) zb).trans qb
  replace zb : w.heap.size < w4_.heap.size := Nat.lt_of_lt_of_le zb Sq.size
  replace px := (Sq.cell (p := ⟨w1_.heap.size, 0, none⟩) zx).trans px
  replace qx := (Sq.cell (p := ⟨w1_.heap.size, 1, none⟩) zx).trans qx
  replace zx : w1_.heap.size < w4_.heap.size := Nat.lt_of_lt_of_le zx Sq.size
  replace pg := (Sq.cell (p := ⟨w2_.heap.size, 0, none⟩) zg).trans pg
  replace qg := (Sq.cell (p := ⟨w2_.heap.size, 1, none⟩) zg).trans qg
  replace zg : w2_.heap.size < w4_.heap.size := Nat.lt_of_lt_of_le zg Sq.size
  replace HA : Hid (Rd w4_ w4_.heap.size A bs) := HA.out.on Sq
  replace RX : Hid (Rd w4_ w4_.heap.size A1 []) := RX.out.on Sq
  replace RG : Hid (Rd w4_ w4_.heap.size none []) := RG.out.on Sq
  replace HB : Hid (Below w.heap.size w w4_) := HB.out.trans (Sq.mono HB.out.size)
  clear Bq Sq
  go_wp2_with fail
  refine (HS.out A1 none c1 0 _ RX.out RG.out).mono ?_
  rintro e w5_ ⟨rfl, Bq⟩
  have Sq : Below w4_.heap.size w4_ w5_ := Bq
  replace pb := (Sq.cell (p := ⟨w.heap.size, 0, none⟩) zb).trans pb
  replace qb := (Sq.cell (p := ⟨w.heap.size, 1, none⟩) zb).trans qb
  replace zb : w.heap.size < w5_.heap.size := Nat.lt_of_lt_of_le zb Sq.size
  replace px := (Sq.cell (p := ⟨w1_.heap.size, 0, none⟩) zx).trans px
  replace qx := (Sq.cell (p := ⟨w1_.heap.size, 1, none⟩) zx).trans qx
  replace zx : w1_.heap.size < w5_.heap.size := Nat.lt_of_lt_of_le zx Sq.size
  replace pg := (Sq.cell (p := ⟨w2_.heap.size, 0, none⟩) zg).trans pg
  replace qg := (Sq.cell (p := ⟨w2_.heap.size, 1, none⟩) zg).trans qg
  replace zg : w2_.heap.size < w5_.heap.size := Nat.lt_of_lt_of_le zg Sq.size
  replace HA : Hid (Rd w5_ w5_.heap.size A bs) := HA.out.on Sq
  replace RX : Hid (Rd w5_ w5_.heap.size A1 []) := RX.out.on Sq
  replace RG : Hid (Rd w5_ w5_.heap.size none []) := RG.out.on Sq
  replace HB : Hid (Below w.heap.size w w5_) := HB.out.trans (Sq.mono HB.out.size)
  clear Bq Sq
  go_wp2
  go_ret
  exact ⟨rfl, HB.out⟩
set_option maxHeartbeats 1000000 in
theorem gzeta_hb (w : World) (n k : Int) (len : Int) (A : Option Addr) (c N : Nat) (bs : List Nat) (p0 : Int) (hA : Rd w w.heap.size A bs) (e0 : Int) (h0 : e0 ≠ 0) (hk1 : 16 < k)
    (HX : Hid (∀ V, Calls Try.prog 44 #[.int .u64 n, .int .i64 k] V (Gv V 0 0 [] 3)))
    (HP : Hid (∀ V, Rd V V.heap.size A bs → Calls Try.prog 45 #[.agg #[.int .i64 len, .slice A N c], .int .i64 p0, .int .i64 k] V (ReadP V 0 0 e0)))
    (HE : Hid (∀ V, Rd V V.heap.size A bs → Calls Try.prog 23 #[.agg #[.int .i64 len, .slice A N c], .int .i64 p0] V fun e w' => e = .returned (.int .i64 e0) ∧ Below V.heap.size V w'))
    (HS : Hid (∀ A B c d V, Rd V V.heap.size A [] → Rd V V.heap.size B [] → Calls Try.prog 28 #[.agg #[.int .i64 0, .slice A 0 c], .agg #[.int .i64 0, .slice B 0 d]] V fun e w' => e = .returned (.bool true) ∧ Below V.heap.size V w')) :
    Calls Try.prog 9 #[.int .u64 n, .int .i64 k, .agg #[.int .i64 len, .slice A N c], .int .i64 p0] w fun e w' => e = .returned (.bool true) ∧ Below w.heap.size w w' := by
  have HA := Lib.hid hA; clear hA
  have a1 : decide ((1 : Int) ≤ k) = true := by simp; omega
  have a2 : decide (k ≤ 16) = false := by simp; omega
  have t2 : (e0 == 0) = false := by simpa using h0
  clear h0
  go_enter Try.func9, Try.ntmps9
  go_wp2_with fail
  refine (HX.out _).mono ?_
  rintro e w1_ ⟨A1, c1, rfl, Rq, Bq⟩
  rw [World.size_alloc] at Bq
  have Sq : Below w.heap.size w w1_ := (one_below w _).trans (Bq.mono (by omega))
  have zb : w.heap.size < w1_.heap.size := by have := Bq.size; rw [World.size_alloc] at this; omega
  obtain ⟨pb, qb⟩ := box_at Bq
  replace HA : Hid (Rd w1_ w1_.heap.size A bs) := HA.out.on Sq
  have HB : Hid (Below w.heap.size w w1_) := Sq
  clear Bq Sq
  have RX := Lib.hid Rq; clear Rq
  go_wp2_with fail
  refine (HP.out _ (HA.out.on (one_below w1_ _))).mono ?_
  rintro e w2_ ⟨rfl, Bq⟩
  rw [World.size_alloc] at Bq
  have Sq : Below w1_.heap.size w1_ w2_ := (one_below w1_ _).trans (Bq.mono (by omega))
  have zx : w1_.heap.size < w2_.heap.size := by have := Bq.size; rw [World.size_alloc] at this; omega
  obtain ⟨px, qx⟩ := box_at Bq
  replace pb := (Sq.cell (p := ⟨w.heap.size, 0, none⟩) zb).trans pb
  replace qb := (Sq.cell (p := ⟨w.heap.size, 1, none⟩) zb).trans qb
  replace zb : w.heap.size < w2_.heap.size := Nat.lt_of_lt_of_le zb Sq.size
  replace HA : Hid (Rd w2_ w2_.heap.size A bs) := HA.out.on Sq
  replace RX : Hid (Rd w2_ w2_.heap.size A1 []) := RX.out.on Sq
  replace HB : Hid (Below w.heap.size w w2_) := HB.out.trans (Sq.mono HB.out.size)
  clear Bq Sq
  go_wp2_with fail
  obtain ⟨w10, hw, T⟩ := one_zero w2_
  rw [hw]
  clear hw
  have Sq := T.below
  replace pb := (Sq.cell (p := ⟨w.heap.size, 0, none⟩) zb).trans pb
  replace qb := (Sq.cell (p := ⟨w.heap.size, 1, none⟩) zb).trans qb
  replace zb : w.heap.size < w10.heap.size := Nat.lt_of_lt_of_le zb Sq.size
  replace px := (Sq.cell (p := ⟨w1_.heap.size, 0, none⟩) zx).trans px
  replace qx := (Sq.cell (p := ⟨w1_.heap.size, 1, none⟩) zx).trans qx
  replace zx : w1_.heap.size < w10.heap.size := Nat.lt_of_lt_of_le zx Sq.size
  replace HA : Hid (Rd w10 w10.heap.size A bs) := HA.out.on Sq
  replace RX : Hid (Rd w10 w10.heap.size A1 []) := RX.out.on Sq
  replace HB : Hid (Below w.heap.size w w10) := HB.out.trans (Sq.mono HB.out.size)
  clear Sq
  have pg := T.x0
  have qg := T.x1
  have zg : w2_.heap.size < w10.heap.size := T.size
  have RG := Lib.hid T.rx
  clear T
  refine (HE.out _ HA.out).mono ?_
  rintro e w3_ ⟨rfl, Bq⟩
  have Sq : Below w10.heap.size w10 w3_ := Bq
  replace pb := (Sq.cell (p := ⟨w.heap.size, 0, none⟩) zb).trans pb
  replace qb := (Sq.cell (p := ⟨w.heap.size, 1, none⟩) zb).trans qb
  replace zb : w.heap.size < w3_.heap.size := Nat.lt_of_lt_of_le zb Sq.size
  replace px := (Sq.cell (p := ⟨w1_.heap.size, 0, none⟩) zx).trans px
  replace qx := (Sq.cell (p := ⟨w1_.heap.size, 1, none⟩) zx).trans qx
  replace zx : w1_.heap.size < w3_.heap.size := Nat.lt_of_lt_of_le zx Sq.size
  replace pg := (Sq.cell (p := ⟨w2_.heap.size, 0, none⟩) zg).trans pg
  replace qg := (Sq.cell (p := ⟨w2_.heap.size, 1, none⟩) zg).trans qg
  replace zg : w2_.heap.size < w3_.heap.size := Nat.lt_of_lt_of_le zg Sq.size
  replace HA : Hid (Rd w3_ w3_.heap.size A bs) := HA.out.on Sq
  replace RX : Hid (Rd w3_ w3_.heap.size A1 []) := RX.out.on Sq
  replace RG : Hid (Rd w3_ w3_.heap.size none []) := RG.out.on Sq
  replace HB : Hid (Below w.heap.size w w3_) := HB.out.trans (Sq.mono HB.out.size)
  clear Bq Sq
  go_wp2_with fail
  refine (gbegun_true _).mono ?_
  rintro e w4_ ⟨rfl, Bq⟩
  have Sq : Below w3_.heap.size w3_ w4_ := Bq
  replace pb := (Sq.cell (p := ⟨w.heap.size, 0, none⟩) zb).trans pb
  replace qb := (Sq.cell (p := ⟨w.heap.size, 1, none⟩) zb).trans qb
  replace zb : w.heap.size < w4_.heap.size := Nat.lt_of_lt_of_le zb Sq.size
  replace px := (Sq.cell (p := ⟨w1_.heap.size, 0, none⟩) zx).trans px
  replace qx := (Sq.cell (p := ⟨w1_.heap.size, 1, none⟩) zx).trans qx
  replace zx : w1_.heap.size < w4_.heap.size := Nat.lt_of_lt_of_le zx Sq.size
  replace pg := (Sq.cell (p := ⟨w2_.heap.size, 0, none⟩) zg).trans pg
  replace qg := (Sq.cell (p := ⟨w2_.heap.size, 1, none⟩) zg).trans qg
  replace zg : w2_.heap.size < w4_.heap.size := Nat.lt_of_lt_of_le zg Sq.size
  replace HA : Hid (Rd w4_ w4_.heap.size A bs) := HA.out.on Sq
  replace RX : Hid (Rd w4_ w4_.heap.size A1 []) := RX.out.on Sq
  replace RG : Hid (Rd w4_ w4_.heap.size none []) := RG.out.on Sq
  replace HB : Hid (Below w.heap.size w w4_) := HB.out.trans (Sq.mono HB.out.size)
  clear Bq Sq
  go_wp2_with fail
  refine (HS.out A1 none c1 0 _ RX.out RG.out).mono ?_
  rintro e w5_ ⟨rfl, Bq⟩
  have Sq : Below w4_.heap.size w4_ w5_ := Bq
  replace pb := (Sq.cell (p := ⟨w.heap.size, 0, none⟩) zb).trans pb
  replace qb := (Sq.cell (p := ⟨w.heap.size, 1, none⟩) zb).trans qb
  replace zb : w.heap.size < w5_.heap.size := Nat.lt_of_lt_of_le zb Sq.size
  replace px := (Sq.cell (p := ⟨w1_.heap.size, 0, none⟩) zx).trans px
  replace qx := (Sq.cell (p := ⟨w1_.heap.size, 1, none⟩) zx).trans qx
  replace zx : w1_.heap.size < w5_.heap.size := Nat.lt_of_lt_of_le zx Sq.size
  replace pg := (Sq.cell (p := ⟨w2_.heap.size, 0, none⟩) zg).trans pg
  replace qg := (Sq.cell (p := ⟨w2_.heap.size, 1, none⟩) zg).trans qg
  replace zg : w2_.heap.size < w5_.heap.size := Nat.lt_of_lt_of_le zg Sq.size
  replace HA : Hid (Rd w5_ w5_.heap.size A bs) := HA.out.on Sq
  replace RX : Hid (Rd w5_ w5_.heap.size A1 []) := RX.out.on Sq
  replace RG : Hid (Rd w5_ w5_.heap.size none []) := RG.out.on Sq
  replace HB : Hid (Below w.heap.size w w5_) := HB.out.trans (Sq.mono HB.out.size)
  clear Bq Sq
  go_wp2
  go_ret
  exact ⟨rfl, HB.out⟩
set_option maxHeartbeats 1000000 in
theorem gzeta_ho (w : World) (n k : Int) (len : Int) (A : Option Addr) (c N : Nat) (bs : List Nat) (p0 : Int) (hA : Rd w w.heap.size A bs) (hk1 : 16 < k)
    (HX : Hid (∀ V, Calls Try.prog 44 #[.int .u64 n, .int .i64 k] V (Gv V 0 0 [] 3)))
    (HP : Hid (∀ V, Rd V V.heap.size A bs → Calls Try.prog 45 #[.agg #[.int .i64 len, .slice A N c], .int .i64 p0, .int .i64 k] V (ReadP V 0 0 3)))
    (HE : Hid (∀ V, Rd V V.heap.size A bs → Calls Try.prog 23 #[.agg #[.int .i64 len, .slice A N c], .int .i64 p0] V fun e w' => e = .returned (.int .i64 0) ∧ Below V.heap.size V w'))
    (HS : Hid (∀ A B c d V, Rd V V.heap.size A [] → Rd V V.heap.size B [] → Calls Try.prog 28 #[.agg #[.int .i64 0, .slice A 0 c], .agg #[.int .i64 0, .slice B 0 d]] V fun e w' => e = .returned (.bool true) ∧ Below V.heap.size V w')) :
    Calls Try.prog 9 #[.int .u64 n, .int .i64 k, .agg #[.int .i64 len, .slice A N c], .int .i64 p0] w fun e w' => e = .returned (.bool true) ∧ Below w.heap.size w w' := by
  have HA := Lib.hid hA; clear hA
  have a1 : decide ((1 : Int) ≤ k) = true := by simp; omega
  have a2 : decide (k ≤ 16) = false := by simp; omega
  go_enter Try.func9, Try.ntmps9
  go_wp2_with fail
  refine (HX.out _).mono ?_
  rintro e w1_ ⟨A1, c1, rfl, Rq, Bq⟩
  rw [World.size_alloc] at Bq
  have Sq : Below w.heap.size w w1_ := (one_below w _).trans (Bq.mono (by omega))
  have zb : w.heap.size < w1_.heap.size := by have := Bq.size; rw [World.size_alloc] at this; omega
  obtain ⟨pb, qb⟩ := box_at Bq
  replace HA : Hid (Rd w1_ w1_.heap.size A bs) := HA.out.on Sq
  have HB : Hid (Below w.heap.size w w1_) := Sq
  clear Bq Sq
  have RX := Lib.hid Rq; clear Rq
  go_wp2_with fail
  refine (HP.out _ (HA.out.on (one_below w1_ _))).mono ?_
  rintro e w2_ ⟨rfl, Bq⟩
  rw [World.size_alloc] at Bq
  have Sq : Below w1_.heap.size w1_ w2_ := (one_below w1_ _).trans (Bq.mono (by omega))
  have zx : w1_.heap.size < w2_.heap.size := by have := Bq.size; rw [World.size_alloc] at this; omega
  obtain ⟨px, qx⟩ := box_at Bq
  replace pb := (Sq.cell (p := ⟨w.heap.size, 0, none⟩) zb).trans pb
  replace qb := (Sq.cell (p := ⟨w.heap.size, 1, none⟩) zb).trans qb
  replace zb : w.heap.size < w2_.heap.size := Nat.lt_of_lt_of_le zb Sq.size
  replace HA : Hid (Rd w2_ w2_.heap.size A bs) := HA.out.on Sq
  replace RX : Hid (Rd w2_ w2_.heap.size A1 []) := RX.out.on Sq
  replace HB : Hid (Below w.heap.size w w2_) := HB.out.trans (Sq.mono HB.out.size)
  clear Bq Sq
  go_wp2_with fail
  obtain ⟨w10, hw, T⟩ := one_zero w2_
  rw [hw]
  clear hw
  have Sq := T.below
  replace pb := (Sq.cell (p := ⟨w.heap.size, 0, none⟩) zb).trans pb
  replace qb := (Sq.cell (p := ⟨w.heap.size, 1, none⟩) zb).trans qb
  replace zb : w.heap.size < w10.heap.size := Nat.lt_of_lt_of_le zb Sq.size
  replace px := (Sq.cell (p := ⟨w1_.heap.size, 0, none⟩) zx).trans px
  replace qx := (Sq.cell (p := ⟨w1_.heap.size, 1, none⟩) zx).trans qx
  replace zx : w1_.heap.size < w10.heap.size := Nat.lt_of_lt_of_le zx Sq.size
  replace HA : Hid (Rd w10 w10.heap.size A bs) := HA.out.on Sq
  replace RX : Hid (Rd w10 w10.heap.size A1 []) := RX.out.on Sq
  replace HB : Hid (Below w.heap.size w w10) := HB.out.trans (Sq.mono HB.out.size)
  clear Sq
  have pg := T.x0
  have qg := T.x1
  have zg : w2_.heap.size < w10.heap.size := T.size
  have RG := Lib.hid T.rx
  clear T
  refine (HE.out _ HA.out).mono ?_
  rintro e w3_ ⟨rfl, Bq⟩
  have Sq : Below w10.heap.size w10 w3_ := Bq
  replace pb := (Sq.cell (p := ⟨w.heap.size, 0, none⟩) zb).trans pb
  replace qb := (Sq.cell (p := ⟨w.heap.size, 1, none⟩) zb).trans qb
  replace zb : w.heap.size < w3_.heap.size := Nat.lt_of_lt_of_le zb Sq.size
  replace px := (Sq.cell (p := ⟨w1_.heap.size, 0, none⟩) zx).trans px
  replace qx := (Sq.cell (p := ⟨w1_.heap.size, 1, none⟩) zx).trans qx
  replace zx : w1_.heap.size < w3_.heap.size := Nat.lt_of_lt_of_le zx Sq.size
  replace pg := (Sq.cell (p := ⟨w2_.heap.size, 0, none⟩) zg).trans pg
  replace qg := (Sq.cell (p := ⟨w2_.heap.size, 1, none⟩) zg).trans qg
  replace zg : w2_.heap.size < w3_.heap.size := Nat.lt_of_lt_of_le zg Sq.size
  replace HA : Hid (Rd w3_ w3_.heap.size A bs) := HA.out.on Sq
  replace RX : Hid (Rd w3_ w3_.heap.size A1 []) := RX.out.on Sq
  replace RG : Hid (Rd w3_ w3_.heap.size none []) := RG.out.on Sq
  replace HB : Hid (Below w.heap.size w w3_) := HB.out.trans (Sq.mono HB.out.size)
  clear Bq Sq
  go_wp2_with fail
  refine (gbegun_true _).mono ?_
  rintro e w4_ ⟨rfl, Bq⟩
  have Sq : Below w3_.heap.size w3_ w4_ := Bq
  replace pb := (Sq.cell (p := ⟨w.heap.size, 0, none⟩) zb).trans pb
  replace qb := (Sq.cell (p := ⟨w.heap.size, 1, none⟩) zb).trans qb
  replace zb : w.heap.size < w4_.heap.size := Nat.lt_of_lt_of_le zb Sq.size
  replace px := (Sq.cell (p := ⟨w1_.heap.size, 0, none⟩) zx).trans px
  replace qx := (Sq.cell (p := ⟨w1_.heap.size, 1, none⟩) zx).trans qx
  replace zx : w1_.heap.size < w4_.heap.size := Nat.lt_of_lt_of_le zx Sq.size
  replace pg := (Sq.cell (p := ⟨w2_.heap.size, 0, none⟩) zg).trans pg
  replace qg := (Sq.cell (p := ⟨w2_.heap.size, 1, none⟩) zg).trans qg
  replace zg : w2_.heap.size < w4_.heap.size := Nat.lt_of_lt_of_le zg Sq.size
  replace HA : Hid (Rd w4_ w4_.heap.size A bs) := HA.out.on Sq
  replace RX : Hid (Rd w4_ w4_.heap.size A1 []) := RX.out.on Sq
  replace RG : Hid (Rd w4_ w4_.heap.size none []) := RG.out.on Sq
  replace HB : Hid (Below w.heap.size w w4_) := HB.out.trans (Sq.mono HB.out.size)
  clear Bq Sq
  go_wp2_with fail
  refine (HS.out A1 none c1 0 _ RX.out RG.out).mono ?_
  rintro e w5_ ⟨rfl, Bq⟩
  have Sq : Below w4_.heap.size w4_ w5_ := Bq
  replace pb := (Sq.cell (p := ⟨w.heap.size, 0, none⟩) zb).trans pb
  replace qb := (Sq.cell (p := ⟨w.heap.size, 1, none⟩) zb).trans qb
  replace zb : w.heap.size < w5_.heap.size := Nat.lt_of_lt_of_le zb Sq.size
  replace px := (Sq.cell (p := ⟨w1_.heap.size, 0, none⟩) zx).trans px
  replace qx := (Sq.cell (p := ⟨w1_.heap.size, 1, none⟩) zx).trans qx
  replace zx : w1_.heap.size < w5_.heap.size := Nat.lt_of_lt_of_le zx Sq.size
  replace pg := (Sq.cell (p := ⟨w2_.heap.size, 0, none⟩) zg).trans pg
  replace qg := (Sq.cell (p := ⟨w2_.heap.size, 1, none⟩) zg).trans qg
  replace zg : w2_.heap.size < w5_.heap.size := Nat.lt_of_lt_of_le zg Sq.size
  replace HA : Hid (Rd w5_ w5_.heap.size A bs) := HA.out.on Sq
  replace RX : Hid (Rd w5_ w5_.heap.size A1 []) := RX.out.on Sq
  replace RG : Hid (Rd w5_ w5_.heap.size none []) := RG.out.on Sq
  replace HB : Hid (Below w.heap.size w w5_) := HB.out.trans (Sq.mono HB.out.size)
  clear Bq Sq
  go_wp2
  go_ret
  exact ⟨rfl, HB.out⟩
end
end Go.Proofs.Ytcacbekdghlncaa
