/- The law SuccShift: all further by as much, the node and the other list too, it is the same; for whatever is handed in. -/
import Derived.Test.YticdnodlapafoaaGreatJSSBegun
import Derived.Test.YticdnodlapafoaaGreatJS2
import Derived.Test.YticdnodlapafoaaGreatJS10
import Derived.Deep.RegionHeld3
namespace Go.Proofs.YticdnodlapafoaaGreat
set_option maxRecDepth 100000
set_option linter.unusedVariables false
open Go.RowKit Go.Shelf

set_option maxHeartbeats 4000000 in
theorem sshift_0 (a y : Int) (A1 A2 : Option Addr) (c1 c2 n m : Nat) (b s k : Int) (w : World) (lW : Int) (nW : Nat) (bW : List Nat) (e0 : Int) (h0 : e0 ≠ 0) (HX : Hid (∀ V, Below w.heap.size w V → Calls Tryz.prog 15 #[.int .i64 a, .slice A1 n c1, .slice A2 m c2, .agg #[.int .i64 b, .int .i64 s, .int .i64 k]] V (Gv V lW nW bW e0))) :
    Calls Tryz.prog 6 #[.int .i64 a, .slice A1 n c1, .slice A2 m c2, .agg #[.int .i64 b, .int .i64 s, .int .i64 k], .int .i64 y] w fun e w' => e = .returned (.bool true) ∧ Below w.heap.size w w' := by
  have t0 : (e0 != 0) = true := by simpa using h0
  clear h0
  go_enter Tryz.func6, Tryz.ntmps6
  go_wp2_with fail
  refine (HX.out _ (low2 w _ _)).mono ?_
  rintro e w1_ ⟨A5, c5, rfl, Rq, Bq⟩
  obtain ⟨Sq, Zq, X1_0, X1_1⟩ := al2 Bq
  have Hh : Hid (w1_.heap[w.heap.size]? = some (.cells #[.int .i64 b, .int .i64 s, .int .i64 k] 24 (0, 0))) := X1_0
  have zh : w.heap.size < w1_.heap.size := by omega
  have ph0 : w1_.cell? ⟨w.heap.size, 0, none⟩ = some (.int .i64 b) := (cell_at Hh.out _).trans rfl
  have ph1 : w1_.cell? ⟨w.heap.size, 1, none⟩ = some (.int .i64 s) := (cell_at Hh.out _).trans rfl
  have ph2 : w1_.cell? ⟨w.heap.size, 2, none⟩ = some (.int .i64 k) := (cell_at Hh.out _).trans rfl
  have Hy : Hid (w1_.heap[(w.heap.size + 1)]? = some (.cells #[.int .i64 y] 3 (0, 0))) := X1_1
  have zy : (w.heap.size + 1) < w1_.heap.size := by omega
  have py0 : w1_.cell? ⟨(w.heap.size + 1), 0, none⟩ = some (.int .i64 y) := (cell_at Hy.out _).trans rfl
  clear Zq X1_0 X1_1
  have HB : Hid (Below w.heap.size w w1_) := Sq
  clear Bq Sq
  have HR5 := Lib.hid Rq; clear Rq
  go_wp2_with fail
  refine (succbegun_true _).mono ?_
  rintro e w2_ ⟨rfl, Bq⟩
  obtain ⟨Sq, Zq, X2_0⟩ := al1 Bq
  have Hx : Hid (w2_.heap[w1_.heap.size]? = some (.cells #[.int .i64 lW, .slice A5 nW c5] 27 (0, 0))) := X2_0
  have zx : w1_.heap.size < w2_.heap.size := by omega
  have px0 : w2_.cell? ⟨w1_.heap.size, 0, none⟩ = some (.int .i64 lW) := (cell_at Hx.out _).trans rfl
  have px1 : w2_.cell? ⟨w1_.heap.size, 1, none⟩ = some (.slice A5 nW c5) := (cell_at Hx.out _).trans rfl
  clear Zq X2_0
  replace Hh : Hid (w2_.heap[w.heap.size]? = some (.cells #[.int .i64 b, .int .i64 s, .int .i64 k] 24 (0, 0))) := (Sq.block _ zh).trans Hh.out
  replace ph0 : w2_.cell? ⟨w.heap.size, 0, none⟩ = some (.int .i64 b) := (cell_at Hh.out _).trans rfl
  replace ph1 : w2_.cell? ⟨w.heap.size, 1, none⟩ = some (.int .i64 s) := (cell_at Hh.out _).trans rfl
  replace ph2 : w2_.cell? ⟨w.heap.size, 2, none⟩ = some (.int .i64 k) := (cell_at Hh.out _).trans rfl
  replace zh : w.heap.size < w2_.heap.size := Nat.lt_of_lt_of_le zh Sq.size
  replace Hy : Hid (w2_.heap[(w.heap.size + 1)]? = some (.cells #[.int .i64 y] 3 (0, 0))) := (Sq.block _ zy).trans Hy.out
  replace py0 : w2_.cell? ⟨(w.heap.size + 1), 0, none⟩ = some (.int .i64 y) := (cell_at Hy.out _).trans rfl
  replace zy : (w.heap.size + 1) < w2_.heap.size := Nat.lt_of_lt_of_le zy Sq.size
  replace HR5 : Hid (Rd w2_ w2_.heap.size A5 bW) := HR5.out.on Sq
  replace HB : Hid (Below w.heap.size w w2_) := HB.out.trans (Sq.mono HB.out.size)
  clear Bq Sq
  go_wp2
  go_ret
  exact ⟨rfl, HB.out⟩
set_option maxHeartbeats 4000000 in
theorem sshift_1 (a y : Int) (A1 A2 : Option Addr) (c1 c2 n m : Nat) (b s k : Int) (w : World) (lW : Int) (nW : Nat) (bW : List Nat) (h0 : y < -1048576) (HX : Hid (∀ V, Below w.heap.size w V → Calls Tryz.prog 15 #[.int .i64 a, .slice A1 n c1, .slice A2 m c2, .agg #[.int .i64 b, .int .i64 s, .int .i64 k]] V (Gv V lW nW bW 0))) :
    Calls Tryz.prog 6 #[.int .i64 a, .slice A1 n c1, .slice A2 m c2, .agg #[.int .i64 b, .int .i64 s, .int .i64 k], .int .i64 y] w fun e w' => e = .returned (.bool true) ∧ Below w.heap.size w w' := by
  have t0 : decide (y < -1048576) = true := by simpa using h0
  clear h0
  go_enter Tryz.func6, Tryz.ntmps6
  go_wp2_with fail
  refine (HX.out _ (low2 w _ _)).mono ?_
  rintro e w1_ ⟨A5, c5, rfl, Rq, Bq⟩
  obtain ⟨Sq, Zq, X1_0, X1_1⟩ := al2 Bq
  have Hh : Hid (w1_.heap[w.heap.size]? = some (.cells #[.int .i64 b, .int .i64 s, .int .i64 k] 24 (0, 0))) := X1_0
  have zh : w.heap.size < w1_.heap.size := by omega
  have ph0 : w1_.cell? ⟨w.heap.size, 0, none⟩ = some (.int .i64 b) := (cell_at Hh.out _).trans rfl
  have ph1 : w1_.cell? ⟨w.heap.size, 1, none⟩ = some (.int .i64 s) := (cell_at Hh.out _).trans rfl
  have ph2 : w1_.cell? ⟨w.heap.size, 2, none⟩ = some (.int .i64 k) := (cell_at Hh.out _).trans rfl
  have Hy : Hid (w1_.heap[(w.heap.size + 1)]? = some (.cells #[.int .i64 y] 3 (0, 0))) := X1_1
  have zy : (w.heap.size + 1) < w1_.heap.size := by omega
  have py0 : w1_.cell? ⟨(w.heap.size + 1), 0, none⟩ = some (.int .i64 y) := (cell_at Hy.out _).trans rfl
  clear Zq X1_0 X1_1
  have HB : Hid (Below w.heap.size w w1_) := Sq
  clear Bq Sq
  have HR5 := Lib.hid Rq; clear Rq
  go_wp2_with fail
  refine (succbegun_true _).mono ?_
  rintro e w2_ ⟨rfl, Bq⟩
  obtain ⟨Sq, Zq, X2_0⟩ := al1 Bq
  have Hx : Hid (w2_.heap[w1_.heap.size]? = some (.cells #[.int .i64 lW, .slice A5 nW c5] 27 (0, 0))) := X2_0
  have zx : w1_.heap.size < w2_.heap.size := by omega
  have px0 : w2_.cell? ⟨w1_.heap.size, 0, none⟩ = some (.int .i64 lW) := (cell_at Hx.out _).trans rfl
  have px1 : w2_.cell? ⟨w1_.heap.size, 1, none⟩ = some (.slice A5 nW c5) := (cell_at Hx.out _).trans rfl
  clear Zq X2_0
  replace Hh : Hid (w2_.heap[w.heap.size]? = some (.cells #[.int .i64 b, .int .i64 s, .int .i64 k] 24 (0, 0))) := (Sq.block _ zh).trans Hh.out
  replace ph0 : w2_.cell? ⟨w.heap.size, 0, none⟩ = some (.int .i64 b) := (cell_at Hh.out _).trans rfl
  replace ph1 : w2_.cell? ⟨w.heap.size, 1, none⟩ = some (.int .i64 s) := (cell_at Hh.out _).trans rfl
  replace ph2 : w2_.cell? ⟨w.heap.size, 2, none⟩ = some (.int .i64 k) := (cell_at Hh.out _).trans rfl
  replace zh : w.heap.size < w2_.heap.size := Nat.lt_of_lt_of_le zh Sq.size
  replace Hy : Hid (w2_.heap[(w.heap.size + 1)]? = some (.cells #[.int .i64 y] 3 (0, 0))) := (Sq.block _ zy).trans Hy.out
  replace py0 : w2_.cell? ⟨(w.heap.size + 1), 0, none⟩ = some (.int .i64 y) := (cell_at Hy.out _).trans rfl
  replace zy : (w.heap.size + 1) < w2_.heap.size := Nat.lt_of_lt_of_le zy Sq.size
  replace HR5 : Hid (Rd w2_ w2_.heap.size A5 bW) := HR5.out.on Sq
  replace HB : Hid (Below w.heap.size w w2_) := HB.out.trans (Sq.mono HB.out.size)
  clear Bq Sq
  go_wp2
  go_ret
  exact ⟨rfl, HB.out⟩
set_option maxHeartbeats 4000000 in
theorem sshift_2 (a y : Int) (A1 A2 : Option Addr) (c1 c2 n m : Nat) (b s k : Int) (w : World) (lW : Int) (nW : Nat) (bW : List Nat) (h0 : 1048576 < y) (HX : Hid (∀ V, Below w.heap.size w V → Calls Tryz.prog 15 #[.int .i64 a, .slice A1 n c1, .slice A2 m c2, .agg #[.int .i64 b, .int .i64 s, .int .i64 k]] V (Gv V lW nW bW 0))) :
    Calls Tryz.prog 6 #[.int .i64 a, .slice A1 n c1, .slice A2 m c2, .agg #[.int .i64 b, .int .i64 s, .int .i64 k], .int .i64 y] w fun e w' => e = .returned (.bool true) ∧ Below w.heap.size w w' := by
  have t0 : decide (y < -1048576) = false := by simp; omega
  have t1 : decide (1048576 < y) = true := by simpa using h0
  have t2 : decide (y > 1048576) = true := by simpa using h0
  clear h0
  go_enter Tryz.func6, Tryz.ntmps6
  go_wp2_with fail
  refine (HX.out _ (low2 w _ _)).mono ?_
  rintro e w1_ ⟨A5, c5, rfl, Rq, Bq⟩
  obtain ⟨Sq, Zq, X1_0, X1_1⟩ := al2 Bq
  have Hh : Hid (w1_.heap[w.heap.size]? = some (.cells #[.int .i64 b, .int .i64 s, .int .i64 k] 24 (0, 0))) := X1_0
  have zh : w.heap.size < w1_.heap.size := by omega
  have ph0 : w1_.cell? ⟨w.heap.size, 0, none⟩ = some (.int .i64 b) := (cell_at Hh.out _).trans rfl
  have ph1 : w1_.cell? ⟨w.heap.size, 1, none⟩ = some (.int .i64 s) := (cell_at Hh.out _).trans rfl
  have ph2 : w1_.cell? ⟨w.heap.size, 2, none⟩ = some (.int .i64 k) := (cell_at Hh.out _).trans rfl
  have Hy : Hid (w1_.heap[(w.heap.size + 1)]? = some (.cells #[.int .i64 y] 3 (0, 0))) := X1_1
  have zy : (w.heap.size + 1) < w1_.heap.size := by omega
  have py0 : w1_.cell? ⟨(w.heap.size + 1), 0, none⟩ = some (.int .i64 y) := (cell_at Hy.out _).trans rfl
  clear Zq X1_0 X1_1
  have HB : Hid (Below w.heap.size w w1_) := Sq
  clear Bq Sq
  have HR5 := Lib.hid Rq; clear Rq
  go_wp2_with fail
  refine (succbegun_true _).mono ?_
  rintro e w2_ ⟨rfl, Bq⟩
  obtain ⟨Sq, Zq, X2_0⟩ := al1 Bq
  have Hx : Hid (w2_.heap[w1_.heap.size]? = some (.cells #[.int .i64 lW, .slice A5 nW c5] 27 (0, 0))) := X2_0
  have zx : w1_.heap.size < w2_.heap.size := by omega
  have px0 : w2_.cell? ⟨w1_.heap.size, 0, none⟩ = some (.int .i64 lW) := (cell_at Hx.out _).trans rfl
  have px1 : w2_.cell? ⟨w1_.heap.size, 1, none⟩ = some (.slice A5 nW c5) := (cell_at Hx.out _).trans rfl
  clear Zq X2_0
  replace Hh : Hid (w2_.heap[w.heap.size]? = some (.cells #[.int .i64 b, .int .i64 s, .int .i64 k] 24 (0, 0))) := (Sq.block _ zh).trans Hh.out
  replace ph0 : w2_.cell? ⟨w.heap.size, 0, none⟩ = some (.int .i64 b) := (cell_at Hh.out _).trans rfl
  replace ph1 : w2_.cell? ⟨w.heap.size, 1, none⟩ = some (.int .i64 s) := (cell_at Hh.out _).trans rfl
  replace ph2 : w2_.cell? ⟨w.heap.size, 2, none⟩ = some (.int .i64 k) := (cell_at Hh.out _).trans rfl
  replace zh : w.heap.size < w2_.heap.size := Nat.lt_of_lt_of_le zh Sq.size
  replace Hy : Hid (w2_.heap[(w.heap.size + 1)]? = some (.cells #[.int .i64 y] 3 (0, 0))) := (Sq.block _ zy).trans Hy.out
  replace py0 : w2_.cell? ⟨(w.heap.size + 1), 0, none⟩ = some (.int .i64 y) := (cell_at Hy.out _).trans rfl
  replace zy : (w.heap.size + 1) < w2_.heap.size := Nat.lt_of_lt_of_le zy Sq.size
  replace HR5 : Hid (Rd w2_ w2_.heap.size A5 bW) := HR5.out.on Sq
  replace HB : Hid (Below w.heap.size w w2_) := HB.out.trans (Sq.mono HB.out.size)
  clear Bq Sq
  go_wp2
  go_ret
  exact ⟨rfl, HB.out⟩
theorem box_fresh {w2 V : World} {A : Option Addr} {bs : List Nat} (T : TypeId) (u v : Value) (hk : Below w2.heap.size w2 V) (hR : Rd V V.heap.size A bs) :
    ∃ WF, WF = V.alloc (.cells #[u, v] T) ∧ WF.heap[V.heap.size]? = some (.cells #[u, v] T (0, 0)) ∧ Rd WF WF.heap.size A bs ∧ Below w2.heap.size w2 WF :=
  ⟨_, rfl, World.alloc_heap_new _ _, hR.on ((Below.refl _ _).alloc (Nat.le_refl _) _), hk.alloc hk.size _⟩
theorem box_stored {w2 V : World} {blk : Nat} {A : Option Addr} {bs : List Nat} {T : TypeId} (u v : Value) (hz : V.heap[blk]? = some (.cells #[.int .i64 0, .slice none 0 0] T (0, 0))) (hk : Below w2.heap.size w2 V) (hl : w2.heap.size ≤ blk) (hR : Rd V V.heap.size A bs) (hu : ∃ a, u = .int .i64 a := by exact ⟨_, rfl⟩) :
    ∃ WF, WF = (V.setCell ⟨blk, 0, none⟩ u).setCell ⟨blk, 1, none⟩ v ∧ WF.heap[blk]? = some (.cells #[u, v] T (0, 0)) ∧ Rd WF WF.heap.size A bs ∧ Below w2.heap.size w2 WF := by
  obtain ⟨a, rfl⟩ := hu
  have h1 : (V.setCell ⟨blk, 0, none⟩ (.int .i64 a)).heap[blk]? = some (.cells #[.int .i64 a, .slice none 0 0] T (0, 0)) := by rw [heap_set_same _ _ _ _ _ _ hz]; rfl
  have h2 : ((V.setCell ⟨blk, 0, none⟩ (.int .i64 a)).setCell ⟨blk, 1, none⟩ v).heap[blk]? = some (.cells #[.int .i64 a, v] T (0, 0)) := by rw [heap_set_same _ _ _ _ _ _ h1]; rfl
  have r1 := hR.setK (i := 0) (.int .i64 a) hz
  have r2 := r1.setK (i := 1) v h1
  have hb := (hk.setCell (p := ⟨blk, 0, none⟩) hl (.int .i64 a)).setCell (p := ⟨blk, 1, none⟩) hl v
  refine ⟨_, rfl, h2, ?_, hb⟩
  exact r2.below (Below.refl _ _) (by simp)
set_option maxHeartbeats 8000000 in
theorem sshift_3 (a y : Int) (A1 A2 : Option Addr) (c1 c2 n m : Nat) (b s k : Int) (w : World) (lW : Int) (nW : Nat) (bW : List Nat) (h0 : -1048576 ≤ y) (h1 : y ≤ 1048576) (tb : (b == 0) = true) (a2 : Int) (u1 : IntKind.i64.wrap (a + y) = a2) (z1 z2 : List Int) (m2 : Nat) (lX : Int) (nX : Nat) (bX : List Nat) (eX : Int) (HX : Hid (∀ V, Below w.heap.size w V → Calls Tryz.prog 15 #[.int .i64 a, .slice A1 n c1, .slice A2 m c2, .agg #[.int .i64 b, .int .i64 s, .int .i64 k]] V (Gv V lW nW bW 0)))
    (HM1 : Hid (∀ V, V.heap[w.heap.size + 1]? = some (.cells #[.int .i64 y] 3 (0, 0)) → Below w.heap.size w V → Calls Tryz.prog 27 #[.slice A1 n c1, .pointer (some ⟨w.heap.size + 1, 0, none⟩)] V (MvP V n z1)))
    (HM2 : Hid (∀ V, V.heap[w.heap.size + 1]? = some (.cells #[.int .i64 y] 3 (0, 0)) → Below w.heap.size w V → Calls Tryz.prog 27 #[.slice none 0 0, .pointer (some ⟨w.heap.size + 1, 0, none⟩)] V (MvP V m2 z2)))
    (HW2 : Hid (∀ A c A' c' V, n ≤ c → RdV V V.heap.size A (zc z1) → RdV V V.heap.size A' (zc z2) → Calls Tryz.prog 15 #[.int .i64 a2, .slice A n c, .slice A' m2 c', .agg #[.int .i64 b, .int .i64 s, .int .i64 k]] V (Gv V lX nX bX eX)))
    (HS : eX = 3 ∨ eX = 0 ∧ Hid (∀ A B c d V, Rd V V.heap.size A bW → Rd V V.heap.size B bX → Calls Tryz.prog 22 #[.agg #[.int .i64 lW, .slice A nW c], .agg #[.int .i64 lX, .slice B nX d]] V fun e w' => e = .returned (.bool true) ∧ Below V.heap.size V w')) :
    Calls Tryz.prog 6 #[.int .i64 a, .slice A1 n c1, .slice A2 m c2, .agg #[.int .i64 b, .int .i64 s, .int .i64 k], .int .i64 y] w fun e w' => e = .returned (.bool true) ∧ Below w.heap.size w w' := by
  have t0 : decide (y < -1048576) = false := by simp; omega
  have t1 : decide (1048576 < y) = false := by simp; omega
  have t2 : decide (y > 1048576) = false := by simp; omega
  have tok1 : True := trivial
  have tok2 : True := trivial
  go_enter Tryz.func6, Tryz.ntmps6
  go_wp2_with fail
  refine (HX.out _ (low2 w _ _)).mono ?_
  rintro e w1_ ⟨A5, c5, rfl, Rq, Bq⟩
  obtain ⟨Sq, Zq, X1_0, X1_1⟩ := al2 Bq
  have Hh : Hid (w1_.heap[w.heap.size]? = some (.cells #[.int .i64 b, .int .i64 s, .int .i64 k] 24 (0, 0))) := X1_0
  have zh : w.heap.size < w1_.heap.size := by omega
  have ph0 : w1_.cell? ⟨w.heap.size, 0, none⟩ = some (.int .i64 b) := (cell_at Hh.out _).trans rfl
  have ph1 : w1_.cell? ⟨w.heap.size, 1, none⟩ = some (.int .i64 s) := (cell_at Hh.out _).trans rfl
  have ph2 : w1_.cell? ⟨w.heap.size, 2, none⟩ = some (.int .i64 k) := (cell_at Hh.out _).trans rfl
  have Hy : Hid (w1_.heap[(w.heap.size + 1)]? = some (.cells #[.int .i64 y] 3 (0, 0))) := X1_1
  have zy : (w.heap.size + 1) < w1_.heap.size := by omega
  have py0 : w1_.cell? ⟨(w.heap.size + 1), 0, none⟩ = some (.int .i64 y) := (cell_at Hy.out _).trans rfl
  clear Zq X1_0 X1_1
  have HB : Hid (Below w.heap.size w w1_) := Sq
  clear Bq Sq
  have HR5 := Lib.hid Rq; clear Rq
  go_wp2_with fail
  refine (succbegun_true _).mono ?_
  rintro e w2_ ⟨rfl, Bq⟩
  obtain ⟨Sq, Zq, X2_0⟩ := al1 Bq
  have Hx : Hid (w2_.heap[w1_.heap.size]? = some (.cells #[.int .i64 lW, .slice A5 nW c5] 27 (0, 0))) := X2_0
  have zx : w1_.heap.size < w2_.heap.size := by omega
  have px0 : w2_.cell? ⟨w1_.heap.size, 0, none⟩ = some (.int .i64 lW) := (cell_at Hx.out _).trans rfl
  have px1 : w2_.cell? ⟨w1_.heap.size, 1, none⟩ = some (.slice A5 nW c5) := (cell_at Hx.out _).trans rfl
  clear Zq X2_0
  replace Hh : Hid (w2_.heap[w.heap.size]? = some (.cells #[.int .i64 b, .int .i64 s, .int .i64 k] 24 (0, 0))) := (Sq.block _ zh).trans Hh.out
  replace ph0 : w2_.cell? ⟨w.heap.size, 0, none⟩ = some (.int .i64 b) := (cell_at Hh.out _).trans rfl
  replace ph1 : w2_.cell? ⟨w.heap.size, 1, none⟩ = some (.int .i64 s) := (cell_at Hh.out _).trans rfl
  replace ph2 : w2_.cell? ⟨w.heap.size, 2, none⟩ = some (.int .i64 k) := (cell_at Hh.out _).trans rfl
  replace zh : w.heap.size < w2_.heap.size := Nat.lt_of_lt_of_le zh Sq.size
  replace Hy : Hid (w2_.heap[(w.heap.size + 1)]? = some (.cells #[.int .i64 y] 3 (0, 0))) := (Sq.block _ zy).trans Hy.out
  replace py0 : w2_.cell? ⟨(w.heap.size + 1), 0, none⟩ = some (.int .i64 y) := (cell_at Hy.out _).trans rfl
  replace zy : (w.heap.size + 1) < w2_.heap.size := Nat.lt_of_lt_of_le zy Sq.size
  replace HR5 : Hid (Rd w2_ w2_.heap.size A5 bW) := HR5.out.on Sq
  replace HB : Hid (Below w.heap.size w w2_) := HB.out.trans (Sq.mono HB.out.size)
  clear Bq Sq
  have HK : Hid (∀ w' : World, Below w2_.heap.size w2_ w' → w'.cell? ⟨w.heap.size + 1, 0, none⟩ = some (.int .i64 y) ∧ w'.cell? ⟨w.heap.size, 0, none⟩ = some (.int .i64 b) ∧ w'.cell? ⟨w.heap.size, 1, none⟩ = some (.int .i64 s) ∧ w'.cell? ⟨w.heap.size, 2, none⟩ = some (.int .i64 k)) := fun w' h => ⟨(h.cell (p := ⟨w.heap.size + 1, 0, none⟩) zy).trans py0, (h.cell (p := ⟨w.heap.size, 0, none⟩) zh).trans ph0, (h.cell (p := ⟨w.heap.size, 1, none⟩) zh).trans ph1, (h.cell (p := ⟨w.heap.size, 2, none⟩) zh).trans ph2⟩
  have HM1' : Hid (∀ V, Below w2_.heap.size w2_ V → Calls Tryz.prog 27 #[.slice A1 n c1, .pointer (some ⟨w.heap.size + 1, 0, none⟩)] V (MvP V n z1)) := fun V hV => HM1.out V ((hV.block _ zy).trans Hy.out) (HB.out.trans (hV.mono HB.out.size))
  have HM2' : Hid (∀ V, Below w2_.heap.size w2_ V → Calls Tryz.prog 27 #[.slice none 0 0, .pointer (some ⟨w.heap.size + 1, 0, none⟩)] V (MvP V m2 z2)) := fun V hV => HM2.out V ((hV.block _ zy).trans Hy.out) (HB.out.trans (hV.mono HB.out.size))
  have HSt : Hid (∀ (V : World) (blk : Nat) (v v' : Value), Below w2_.heap.size w2_ V → w2_.heap.size ≤ blk → Below w2_.heap.size w2_ ((V.setCell ⟨blk, 0, none⟩ v).setCell ⟨blk, 1, none⟩ v')) := fun V blk v v' h hb => (h.setCell (p := ⟨blk, 0, none⟩) hb _).setCell (p := ⟨blk, 1, none⟩) hb _
  clear HM1 HM2 HX
  go_wp2_with fail
  go_region_held3 (fun w' => w'.cell? ⟨w.heap.size + 1, 0, none⟩ = some (.int .i64 y) ∧ w'.cell? ⟨w.heap.size, 0, none⟩ = some (.int .i64 b) ∧ w'.cell? ⟨w.heap.size, 1, none⟩ = some (.int .i64 s) ∧ w'.cell? ⟨w.heap.size, 2, none⟩ = some (.int .i64 k))
    ((refine HK.out _ ?_; first | exact hk3.out | exact hk3.out.alloc hk3.out.size _ | exact hk2.out | exact hk2.out.alloc hk2.out.size _ | exact hk1.out | exact hk1.out.alloc hk1.out.size _ | exact (Below.refl _ _).drew | exact ((Below.refl _ _).alloc (Nat.le_refl _) _).drew | exact ((Below.refl _ _).drew).alloc (Nat.le_refl _) _ | exact HSt.out _ _ _ _ hk3.out lt3.out | exact HSt.out _ _ _ _ (hk3.out.alloc hk3.out.size _) hk3.out.size))
    (first
      | (go_at_call 27; have _t := tok1; refine (HM1'.out _ (by first | exact (Below.refl _ _).drew | exact ((Below.refl _ _).alloc (Nat.le_refl _) _).drew | exact ((Below.refl _ _).drew).alloc (Nat.le_refl _) _)).mono ?_; clear tok1 _t; rintro e w5 ⟨A6, c6, rfl, hc6, hn6, r6, b6⟩; have hk1 : Hid (Below w2_.heap.size w2_ w5) := (by show Below _ _ _; first | exact ((Below.refl _ w2_).drew).trans b6 | exact (((Below.refl _ w2_).alloc (Nat.le_refl _) _).drew).trans (b6.mono (by simp))); have HR6 := Lib.hid r6; (first | (have hz1 : Hid (w5.heap[w2_.heap.size]? = some (.cells #[.int .i64 0, .slice none 0 0] 27 (0, 0))) := Lib.hid ((b6.block w2_.heap.size (by simp)).trans (World.alloc_heap_new w2_ _)); have lt5 : Hid (w2_.heap.size < w5.heap.size) := Lib.hid (by have := b6.size; simp at this; omega)) | skip); clear r6 b6)
      | (go_at_call 27; have _t := tok2; refine (HM2'.out _ (by first | exact hk1.out | exact hk1.out.alloc hk1.out.size _ | exact hk1.out.drew | exact (hk1.out.alloc hk1.out.size _).drew | exact hk1.out.drew.alloc hk1.out.size _)).mono ?_; clear tok2 _t; rintro e w6 ⟨A7, c7, rfl, hc7, hn7, r7, b7⟩; have hk2 : Hid (Below w2_.heap.size w2_ w6) := (by show Below _ _ _; first | exact hk1.out.trans (b7.mono hk1.out.size) | exact (hk1.out.alloc hk1.out.size _).trans (b7.mono (by have := hk1.out.size; simp; omega))); replace HR6 : Hid (RdV w6 w6.heap.size A6 (zc z1)) := Lib.hid (by first | exact HR6.out.on b7 | exact HR6.out.on (((Below.refl _ w5).alloc (Nat.le_refl _) _).trans (b7.mono (by simp)))); have HR7 := Lib.hid r7; (first | (have hl6 : Hid (w5.heap.size < w6.heap.size) := Lib.hid (by have := b7.size; simp at this; omega)) | (have hl6 : Hid (w5.heap.size ≤ w6.heap.size) := Lib.hid b7.size)); (first | (have hz2 : Hid (w6.heap[w2_.heap.size]? = some (.cells #[.int .i64 0, .slice none 0 0] 27 (0, 0))) := Lib.hid ((b7.block w2_.heap.size (lt5.out)).trans hz1.out)) | (have hz2 : Hid (w6.heap[w5.heap.size]? = some (.cells #[.int .i64 0, .slice none 0 0] 27 (0, 0))) := Lib.hid ((b7.block w5.heap.size (by simp)).trans (World.alloc_heap_new w5 _))) | skip); clear r7 b7)
      | (go_at_call 15; refine (HW2.out A6 c6 A7 c7 _ hc6 (by first | exact HR6.out | exact HR6.out.on ((Below.refl _ w6).alloc (Nat.le_refl _) _) | exact HR6.out.on (Below.refl _ w6).drew) (by first | exact HR7.out | exact HR7.out.on ((Below.refl _ w6).alloc (Nat.le_refl _) _) | exact HR7.out.on (Below.refl _ w6).drew)).mono ?_; rintro e w7 ⟨A8, c8, rfl, r8, b8⟩; have hk3 : Hid (Below w2_.heap.size w2_ w7) := (by show Below _ _ _; first | exact hk2.out.trans (b8.mono hk2.out.size) | exact (hk2.out.alloc hk2.out.size _).trans (b8.mono (by have := hk2.out.size; simp; omega))); have HR8 := Lib.hid r8; (first | (have hz3 : Hid (w7.heap[w2_.heap.size]? = some (.cells #[.int .i64 0, .slice none 0 0] 27 (0, 0))) := Lib.hid ((b8.block w2_.heap.size (by have := lt5.out; have := hl6.out; omega)).trans hz2.out); have lt3 : Hid (w2_.heap.size ≤ w2_.heap.size) := Lib.hid (Nat.le_refl _); have px0 : w7.cell? ⟨w2_.heap.size, 0, none⟩ = some (.int .i64 0) := (cell_at hz3.out _).trans rfl; have px1 : w7.cell? ⟨w2_.heap.size, 1, none⟩ = some (.slice none 0 0) := (cell_at hz3.out _).trans rfl; have f0 := frz_at hz3.out 0; have f1 := frz_at hz3.out 1) | (have hz3 : Hid (w7.heap[w5.heap.size]? = some (.cells #[.int .i64 0, .slice none 0 0] 27 (0, 0))) := Lib.hid ((b8.block w5.heap.size hl6.out).trans hz2.out); have lt3 : Hid (w2_.heap.size ≤ w5.heap.size) := Lib.hid (hk1.out.size); have px0 : w7.cell? ⟨w5.heap.size, 0, none⟩ = some (.int .i64 0) := (cell_at hz3.out _).trans rfl; have px1 : w7.cell? ⟨w5.heap.size, 1, none⟩ = some (.slice none 0 0) := (cell_at hz3.out _).trans rfl; have f0 := frz_at hz3.out 0; have f1 := frz_at hz3.out 1) | (have hz3 : Hid (w7.heap[w6.heap.size]? = some (.cells #[.int .i64 0, .slice none 0 0] 27 (0, 0))) := Lib.hid ((b8.block w6.heap.size (by simp)).trans (World.alloc_heap_new w6 _)); have lt3 : Hid (w2_.heap.size ≤ w6.heap.size) := Lib.hid (hk2.out.size); have px0 : w7.cell? ⟨w6.heap.size, 0, none⟩ = some (.int .i64 0) := (cell_at hz3.out _).trans rfl; have px1 : w7.cell? ⟨w6.heap.size, 1, none⟩ = some (.slice none 0 0) := (cell_at hz3.out _).trans rfl; have f0 := frz_at hz3.out 0; have f1 := frz_at hz3.out 1) | (have hz3 := Lib.hid (World.alloc_heap_new w7 (.cells #[.int .i64 0, .slice none 0 0] 27)); have px0 : (w7.alloc (.cells #[.int .i64 0, .slice none 0 0] 27)).cell? ⟨w7.heap.size, 0, none⟩ = some (.int .i64 0) := (cell_at hz3.out _).trans rfl; have px1 : (w7.alloc (.cells #[.int .i64 0, .slice none 0 0] 27)).cell? ⟨w7.heap.size, 1, none⟩ = some (.slice none 0 0) := (cell_at hz3.out _).trans rfl; have f0 := frz_at hz3.out 0; have f1 := frz_at hz3.out 1)); clear r8 b8))
  all_goals (
    first
      | (obtain ⟨WF, eF, hq, hr8, hbF⟩ := box_stored (.int .i64 lX) (.slice A8 nX c8) hz3.out hk3.out lt3.out HR8.out; rw [← eF])
      | (obtain ⟨WF, eF, hq, hr8, hbF⟩ := box_fresh 27 (.int .i64 lX) (.slice A8 nX c8) hk3.out HR8.out; rw [← eF])
    have HBF := Lib.hid (HB.out.trans (hbF.mono HB.out.size))
    have hx' := (hbF.block _ zx).trans Hx.out
    have HR5' := Lib.hid (HR5.out.on hbF)
    have HR8' := Lib.hid hr8
    have qw0 : WF.cell? ⟨w1_.heap.size, 0, none⟩ = some (.int .i64 lW) := (cell_at hx' _).trans rfl
    have qw1 : WF.cell? ⟨w1_.heap.size, 1, none⟩ = some (.slice A5 nW c5) := (cell_at hx' _).trans rfl
    have qx0 := (cell_at hq 0).trans rfl
    have qx1 := (cell_at hq 1).trans rfl
    clear HR8 hz3 hq hr8 hbF hx' eF
    rcases HS with rfl | ⟨rfl, HS⟩
    · go_wp2
      go_ret
      exact ⟨rfl, HBF.out⟩
    · go_wp2_with fail
      refine (HS.out A5 A8 c5 c8 _ HR5'.out HR8'.out).mono ?_
      rintro e w9 ⟨rfl, Bq⟩
      have HBG := Lib.hid (HBF.out.trans (Bq.mono HBF.out.size))
      clear Bq
      go_wp2
      go_ret
      exact ⟨rfl, HBG.out⟩)
set_option maxHeartbeats 8000000 in
theorem sshift_4 (a y : Int) (A1 A2 : Option Addr) (c1 c2 n m : Nat) (b s k : Int) (w : World) (lW : Int) (nW : Nat) (bW : List Nat) (h0 : -1048576 ≤ y) (h1 : y ≤ 1048576) (tb : (b == 0) = false) (a2 : Int) (u1 : IntKind.i64.wrap (a + y) = a2) (z1 z2 : List Int) (m2 : Nat) (lX : Int) (nX : Nat) (bX : List Nat) (eX : Int) (HX : Hid (∀ V, Below w.heap.size w V → Calls Tryz.prog 15 #[.int .i64 a, .slice A1 n c1, .slice A2 m c2, .agg #[.int .i64 b, .int .i64 s, .int .i64 k]] V (Gv V lW nW bW 0)))
    (HM1 : Hid (∀ V, V.heap[w.heap.size + 1]? = some (.cells #[.int .i64 y] 3 (0, 0)) → Below w.heap.size w V → Calls Tryz.prog 27 #[.slice A1 n c1, .pointer (some ⟨w.heap.size + 1, 0, none⟩)] V (MvP V n z1)))
    (HM2 : Hid (∀ V, V.heap[w.heap.size + 1]? = some (.cells #[.int .i64 y] 3 (0, 0)) → Below w.heap.size w V → Calls Tryz.prog 27 #[.slice A2 m c2, .pointer (some ⟨w.heap.size + 1, 0, none⟩)] V (MvP V m2 z2)))
    (HW2 : Hid (∀ A c A' c' V, n ≤ c → RdV V V.heap.size A (zc z1) → RdV V V.heap.size A' (zc z2) → Calls Tryz.prog 15 #[.int .i64 a2, .slice A n c, .slice A' m2 c', .agg #[.int .i64 b, .int .i64 s, .int .i64 k]] V (Gv V lX nX bX eX)))
    (HS : eX = 3 ∨ eX = 0 ∧ Hid (∀ A B c d V, Rd V V.heap.size A bW → Rd V V.heap.size B bX → Calls Tryz.prog 22 #[.agg #[.int .i64 lW, .slice A nW c], .agg #[.int .i64 lX, .slice B nX d]] V fun e w' => e = .returned (.bool true) ∧ Below V.heap.size V w')) :
    Calls Tryz.prog 6 #[.int .i64 a, .slice A1 n c1, .slice A2 m c2, .agg #[.int .i64 b, .int .i64 s, .int .i64 k], .int .i64 y] w fun e w' => e = .returned (.bool true) ∧ Below w.heap.size w w' := by
  have t0 : decide (y < -1048576) = false := by simp; omega
  have t1 : decide (1048576 < y) = false := by simp; omega
  have t2 : decide (y > 1048576) = false := by simp; omega
  have tok1 : True := trivial
  have tok2 : True := trivial
  go_enter Tryz.func6, Tryz.ntmps6
  go_wp2_with fail
  refine (HX.out _ (low2 w _ _)).mono ?_
  rintro e w1_ ⟨A5, c5, rfl, Rq, Bq⟩
  obtain ⟨Sq, Zq, X1_0, X1_1⟩ := al2 Bq
  have Hh : Hid (w1_.heap[w.heap.size]? = some (.cells #[.int .i64 b, .int .i64 s, .int .i64 k] 24 (0, 0))) := X1_0
  have zh : w.heap.size < w1_.heap.size := by omega
  have ph0 : w1_.cell? ⟨w.heap.size, 0, none⟩ = some (.int .i64 b) := (cell_at Hh.out _).trans rfl
  have ph1 : w1_.cell? ⟨w.heap.size, 1, none⟩ = some (.int .i64 s) := (cell_at Hh.out _).trans rfl
  have ph2 : w1_.cell? ⟨w.heap.size, 2, none⟩ = some (.int .i64 k) := (cell_at Hh.out _).trans rfl
  have Hy : Hid (w1_.heap[(w.heap.size + 1)]? = some (.cells #[.int .i64 y] 3 (0, 0))) := X1_1
  have zy : (w.heap.size + 1) < w1_.heap.size := by omega
  have py0 : w1_.cell? ⟨(w.heap.size + 1), 0, none⟩ = some (.int .i64 y) := (cell_at Hy.out _).trans rfl
  clear Zq X1_0 X1_1
  have HB : Hid (Below w.heap.size w w1_) := Sq
  clear Bq Sq
  have HR5 := Lib.hid Rq; clear Rq
  go_wp2_with fail
  refine (succbegun_true _).mono ?_
  rintro e w2_ ⟨rfl, Bq⟩
  obtain ⟨Sq, Zq, X2_0⟩ := al1 Bq
  have Hx : Hid (w2_.heap[w1_.heap.size]? = some (.cells #[.int .i64 lW, .slice A5 nW c5] 27 (0, 0))) := X2_0
  have zx : w1_.heap.size < w2_.heap.size := by omega
  have px0 : w2_.cell? ⟨w1_.heap.size, 0, none⟩ = some (.int .i64 lW) := (cell_at Hx.out _).trans rfl
  have px1 : w2_.cell? ⟨w1_.heap.size, 1, none⟩ = some (.slice A5 nW c5) := (cell_at Hx.out _).trans rfl
  clear Zq X2_0
  replace Hh : Hid (w2_.heap[w.heap.size]? = some (.cells #[.int .i64 b, .int .i64 s, .int .i64 k] 24 (0, 0))) := (Sq.block _ zh).trans Hh.out
  replace ph0 : w2_.cell? ⟨w.heap.size, 0, none⟩ = some (.int .i64 b) := (cell_at Hh.out _).trans rfl
  replace ph1 : w2_.cell? ⟨w.heap.size, 1, none⟩ = some (.int .i64 s) := (cell_at Hh.out _).trans rfl
  replace ph2 : w2_.cell? ⟨w.heap.size, 2, none⟩ = some (.int .i64 k) := (cell_at Hh.out _).trans rfl
  replace zh : w.heap.size < w2_.heap.size := Nat.lt_of_lt_of_le zh Sq.size
  replace Hy : Hid (w2_.heap[(w.heap.size + 1)]? = some (.cells #[.int .i64 y] 3 (0, 0))) := (Sq.block _ zy).trans Hy.out
  replace py0 : w2_.cell? ⟨(w.heap.size + 1), 0, none⟩ = some (.int .i64 y) := (cell_at Hy.out _).trans rfl
  replace zy : (w.heap.size + 1) < w2_.heap.size := Nat.lt_of_lt_of_le zy Sq.size
  replace HR5 : Hid (Rd w2_ w2_.heap.size A5 bW) := HR5.out.on Sq
  replace HB : Hid (Below w.heap.size w w2_) := HB.out.trans (Sq.mono HB.out.size)
  clear Bq Sq
  have HK : Hid (∀ w' : World, Below w2_.heap.size w2_ w' → w'.cell? ⟨w.heap.size + 1, 0, none⟩ = some (.int .i64 y) ∧ w'.cell? ⟨w.heap.size, 0, none⟩ = some (.int .i64 b) ∧ w'.cell? ⟨w.heap.size, 1, none⟩ = some (.int .i64 s) ∧ w'.cell? ⟨w.heap.size, 2, none⟩ = some (.int .i64 k)) := fun w' h => ⟨(h.cell (p := ⟨w.heap.size + 1, 0, none⟩) zy).trans py0, (h.cell (p := ⟨w.heap.size, 0, none⟩) zh).trans ph0, (h.cell (p := ⟨w.heap.size, 1, none⟩) zh).trans ph1, (h.cell (p := ⟨w.heap.size, 2, none⟩) zh).trans ph2⟩
  have HM1' : Hid (∀ V, Below w2_.heap.size w2_ V → Calls Tryz.prog 27 #[.slice A1 n c1, .pointer (some ⟨w.heap.size + 1, 0, none⟩)] V (MvP V n z1)) := fun V hV => HM1.out V ((hV.block _ zy).trans Hy.out) (HB.out.trans (hV.mono HB.out.size))
  have HM2' : Hid (∀ V, Below w2_.heap.size w2_ V → Calls Tryz.prog 27 #[.slice A2 m c2, .pointer (some ⟨w.heap.size + 1, 0, none⟩)] V (MvP V m2 z2)) := fun V hV => HM2.out V ((hV.block _ zy).trans Hy.out) (HB.out.trans (hV.mono HB.out.size))
  have HSt : Hid (∀ (V : World) (blk : Nat) (v v' : Value), Below w2_.heap.size w2_ V → w2_.heap.size ≤ blk → Below w2_.heap.size w2_ ((V.setCell ⟨blk, 0, none⟩ v).setCell ⟨blk, 1, none⟩ v')) := fun V blk v v' h hb => (h.setCell (p := ⟨blk, 0, none⟩) hb _).setCell (p := ⟨blk, 1, none⟩) hb _
  clear HM1 HM2 HX
  go_wp2_with fail
  go_region_held3 (fun w' => w'.cell? ⟨w.heap.size + 1, 0, none⟩ = some (.int .i64 y) ∧ w'.cell? ⟨w.heap.size, 0, none⟩ = some (.int .i64 b) ∧ w'.cell? ⟨w.heap.size, 1, none⟩ = some (.int .i64 s) ∧ w'.cell? ⟨w.heap.size, 2, none⟩ = some (.int .i64 k))
    ((refine HK.out _ ?_; first | exact hk3.out | exact hk3.out.alloc hk3.out.size _ | exact hk2.out | exact hk2.out.alloc hk2.out.size _ | exact hk1.out | exact hk1.out.alloc hk1.out.size _ | exact (Below.refl _ _).drew | exact ((Below.refl _ _).alloc (Nat.le_refl _) _).drew | exact ((Below.refl _ _).drew).alloc (Nat.le_refl _) _ | exact HSt.out _ _ _ _ hk3.out lt3.out | exact HSt.out _ _ _ _ (hk3.out.alloc hk3.out.size _) hk3.out.size))
    (first
      | (go_at_call 27; have _t := tok1; refine (HM1'.out _ (by first | exact (Below.refl _ _).drew | exact ((Below.refl _ _).alloc (Nat.le_refl _) _).drew | exact ((Below.refl _ _).drew).alloc (Nat.le_refl _) _)).mono ?_; clear tok1 _t; rintro e w5 ⟨A6, c6, rfl, hc6, hn6, r6, b6⟩; have hk1 : Hid (Below w2_.heap.size w2_ w5) := (by show Below _ _ _; first | exact ((Below.refl _ w2_).drew).trans b6 | exact (((Below.refl _ w2_).alloc (Nat.le_refl _) _).drew).trans (b6.mono (by simp))); have HR6 := Lib.hid r6; (first | (have hz1 : Hid (w5.heap[w2_.heap.size]? = some (.cells #[.int .i64 0, .slice none 0 0] 27 (0, 0))) := Lib.hid ((b6.block w2_.heap.size (by simp)).trans (World.alloc_heap_new w2_ _)); have lt5 : Hid (w2_.heap.size < w5.heap.size) := Lib.hid (by have := b6.size; simp at this; omega)) | skip); clear r6 b6)
      | (go_at_call 27; have _t := tok2; refine (HM2'.out _ (by first | exact hk1.out | exact hk1.out.alloc hk1.out.size _ | exact hk1.out.drew | exact (hk1.out.alloc hk1.out.size _).drew | exact hk1.out.drew.alloc hk1.out.size _)).mono ?_; clear tok2 _t; rintro e w6 ⟨A7, c7, rfl, hc7, hn7, r7, b7⟩; have hk2 : Hid (Below w2_.heap.size w2_ w6) := (by show Below _ _ _; first | exact hk1.out.trans (b7.mono hk1.out.size) | exact (hk1.out.alloc hk1.out.size _).trans (b7.mono (by have := hk1.out.size; simp; omega))); replace HR6 : Hid (RdV w6 w6.heap.size A6 (zc z1)) := Lib.hid (by first | exact HR6.out.on b7 | exact HR6.out.on (((Below.refl _ w5).alloc (Nat.le_refl _) _).trans (b7.mono (by simp)))); have HR7 := Lib.hid r7; (first | (have hl6 : Hid (w5.heap.size < w6.heap.size) := Lib.hid (by have := b7.size; simp at this; omega)) | (have hl6 : Hid (w5.heap.size ≤ w6.heap.size) := Lib.hid b7.size)); (first | (have hz2 : Hid (w6.heap[w2_.heap.size]? = some (.cells #[.int .i64 0, .slice none 0 0] 27 (0, 0))) := Lib.hid ((b7.block w2_.heap.size (lt5.out)).trans hz1.out)) | (have hz2 : Hid (w6.heap[w5.heap.size]? = some (.cells #[.int .i64 0, .slice none 0 0] 27 (0, 0))) := Lib.hid ((b7.block w5.heap.size (by simp)).trans (World.alloc_heap_new w5 _))) | skip); clear r7 b7)
      | (go_at_call 15; refine (HW2.out A6 c6 A7 c7 _ hc6 (by first | exact HR6.out | exact HR6.out.on ((Below.refl _ w6).alloc (Nat.le_refl _) _) | exact HR6.out.on (Below.refl _ w6).drew) (by first | exact HR7.out | exact HR7.out.on ((Below.refl _ w6).alloc (Nat.le_refl _) _) | exact HR7.out.on (Below.refl _ w6).drew)).mono ?_; rintro e w7 ⟨A8, c8, rfl, r8, b8⟩; have hk3 : Hid (Below w2_.heap.size w2_ w7) := (by show Below _ _ _; first | exact hk2.out.trans (b8.mono hk2.out.size) | exact (hk2.out.alloc hk2.out.size _).trans (b8.mono (by have := hk2.out.size; simp; omega))); have HR8 := Lib.hid r8; (first | (have hz3 : Hid (w7.heap[w2_.heap.size]? = some (.cells #[.int .i64 0, .slice none 0 0] 27 (0, 0))) := Lib.hid ((b8.block w2_.heap.size (by have := lt5.out; have := hl6.out; omega)).trans hz2.out); have lt3 : Hid (w2_.heap.size ≤ w2_.heap.size) := Lib.hid (Nat.le_refl _); have px0 : w7.cell? ⟨w2_.heap.size, 0, none⟩ = some (.int .i64 0) := (cell_at hz3.out _).trans rfl; have px1 : w7.cell? ⟨w2_.heap.size, 1, none⟩ = some (.slice none 0 0) := (cell_at hz3.out _).trans rfl; have f0 := frz_at hz3.out 0; have f1 := frz_at hz3.out 1) | (have hz3 : Hid (w7.heap[w5.heap.size]? = some (.cells #[.int .i64 0, .slice none 0 0] 27 (0, 0))) := Lib.hid ((b8.block w5.heap.size hl6.out).trans hz2.out); have lt3 : Hid (w2_.heap.size ≤ w5.heap.size) := Lib.hid (hk1.out.size); have px0 : w7.cell? ⟨w5.heap.size, 0, none⟩ = some (.int .i64 0) := (cell_at hz3.out _).trans rfl; have px1 : w7.cell? ⟨w5.heap.size, 1, none⟩ = some (.slice none 0 0) := (cell_at hz3.out _).trans rfl; have f0 := frz_at hz3.out 0; have f1 := frz_at hz3.out 1) | (have hz3 : Hid (w7.heap[w6.heap.size]? = some (.cells #[.int .i64 0, .slice none 0 0] 27 (0, 0))) := Lib.hid ((b8.block w6.heap.size (by simp)).trans (World.alloc_heap_new w6 _)); have lt3 : Hid (w2_.heap.size ≤ w6.heap.size) := Lib.hid (hk2.out.size); have px0 : w7.cell? ⟨w6.heap.size, 0, none⟩ = some (.int .i64 0) := (cell_at hz3.out _).trans rfl; have px1 : w7.cell? ⟨w6.heap.size, 1, none⟩ = some (.slice none 0 0) := (cell_at hz3.out _).trans rfl; have f0 := frz_at hz3.out 0; have f1 := frz_at hz3.out 1) | (have hz3 := Lib.hid (World.alloc_heap_new w7 (.cells #[.int .i64 0, .slice none 0 0] 27)); have px0 : (w7.alloc (.cells #[.int .i64 0, .slice none 0 0] 27)).cell? ⟨w7.heap.size, 0, none⟩ = some (.int .i64 0) := (cell_at hz3.out _).trans rfl; have px1 : (w7.alloc (.cells #[.int .i64 0, .slice none 0 0] 27)).cell? ⟨w7.heap.size, 1, none⟩ = some (.slice none 0 0) := (cell_at hz3.out _).trans rfl; have f0 := frz_at hz3.out 0; have f1 := frz_at hz3.out 1)); clear r8 b8))
  all_goals (
    first
      | (obtain ⟨WF, eF, hq, hr8, hbF⟩ := box_stored (.int .i64 lX) (.slice A8 nX c8) hz3.out hk3.out lt3.out HR8.out; rw [← eF])
      | (obtain ⟨WF, eF, hq, hr8, hbF⟩ := box_fresh 27 (.int .i64 lX) (.slice A8 nX c8) hk3.out HR8.out; rw [← eF])
    have HBF := Lib.hid (HB.out.trans (hbF.mono HB.out.size))
    have hx' := (hbF.block _ zx).trans Hx.out
    have HR5' := Lib.hid (HR5.out.on hbF)
    have HR8' := Lib.hid hr8
    have qw0 : WF.cell? ⟨w1_.heap.size, 0, none⟩ = some (.int .i64 lW) := (cell_at hx' _).trans rfl
    have qw1 : WF.cell? ⟨w1_.heap.size, 1, none⟩ = some (.slice A5 nW c5) := (cell_at hx' _).trans rfl
    have qx0 := (cell_at hq 0).trans rfl
    have qx1 := (cell_at hq 1).trans rfl
    clear HR8 hz3 hq hr8 hbF hx' eF
    rcases HS with rfl | ⟨rfl, HS⟩
    · go_wp2
      go_ret
      exact ⟨rfl, HBF.out⟩
    · go_wp2_with fail
      refine (HS.out A5 A8 c5 c8 _ HR5'.out HR8'.out).mono ?_
      rintro e w9 ⟨rfl, Bq⟩
      have HBG := Lib.hid (HBF.out.trans (Bq.mono HBF.out.size))
      clear Bq
      go_wp2
      go_ret
      exact ⟨rfl, HBG.out⟩)
theorem ns_bound {l : List Nat} (h : Rising l) : ∀ x ∈ ns l, 0 ≤ x ∧ x ≤ 1048576 := by
  intro x hx
  unfold ns at hx
  obtain ⟨z, hz, rfl⟩ := List.mem_map.1 hx
  have := ris_le l (-1) h.2 z hz
  omega
theorem succShift_law (a : Int) (A1 : Option Addr) (c1 : Nat) (xs : List Int) (A2 : Option Addr) (c2 : Nat) (ys : List Int) (b s k y : Int) (w : World) (ha : -9223372036854775808 ≤ a ∧ a ≤ 9223372036854775807) (cp1 : xs.length ≤ c1) (nl1 : A1 = none → c1 = 0) (by1 : ∀ x ∈ xs, -9223372036854775808 ≤ x ∧ x ≤ 9223372036854775807) (rd1 : RdV w w.heap.size A1 (zc xs)) (sz1 : xs.length ≤ 9223372036854775807) (cp2 : ys.length ≤ c2) (nl2 : A2 = none → c2 = 0) (by2 : ∀ x ∈ ys, -9223372036854775808 ≤ x ∧ x ≤ 9223372036854775807) (rd2 : RdV w w.heap.size A2 (zc ys)) (sz2 : ys.length ≤ 9223372036854775807) (hb : -9223372036854775808 ≤ b ∧ b ≤ 9223372036854775807) (hs : -9223372036854775808 ≤ s ∧ s ≤ 9223372036854775807) (hk : -9223372036854775808 ≤ k ∧ k ≤ 9223372036854775807) (hy : -9223372036854775808 ≤ y ∧ y ≤ 9223372036854775807) :
    Calls Tryz.prog 6 #[.int .i64 a, .slice A1 xs.length c1, .slice A2 ys.length c2, .agg #[.int .i64 b, .int .i64 s, .int .i64 k], .int .i64 y] w fun e w' => e = .returned (.bool true) ∧ Below w.heap.size w w' := by
  have HX0 : ∀ V, Below w.heap.size w V → Calls Tryz.prog 15 #[.int .i64 a, .slice A1 xs.length c1, .slice A2 ys.length c2, .agg #[.int .i64 b, .int .i64 s, .int .i64 k]] V (Gave V (swL a xs ys b s k) (swF a xs ys b s k)) := fun V hV => swrite_any a xs _ rfl sz1 ys _ rfl sz2 b s k A1 A2 c1 c2 cp1 V (rd1.on hV) (rd2.on hV)
  by_cases h0 : swF a xs ys b s k = 0
  · by_cases h1 : y < -1048576
    · rw [h0] at HX0
      exact sshift_1 a y A1 A2 c1 c2 _ _ b s k w _ _ _ h1 (Lib.hid HX0)
    by_cases h2 : 1048576 < y
    · rw [h0] at HX0
      exact sshift_2 a y A1 A2 c1 c2 _ _ b s k w _ _ _ h2 (Lib.hid HX0)
    have y1 : -1048576 ≤ y := by omega
    have y2 : y ≤ 1048576 := by omega
    obtain ⟨a', l, b', s', k', rfl, ha', rfl, hl, rfl, rfl, rfl, hb', hs', hk', hF, hlen, hL⟩ := swF_some _ _ _ _ _ _ h0
    have hFR : b' ≠ 0 → Rising (tn ys) := fun h => by obtain ⟨F, e, hR⟩ := hF h; rw [e, tn_ns]; exact hR
    have hFe : b' ≠ 0 → ys = ns (tn ys) := fun h => by obtain ⟨F, e, hR⟩ := hF h; rw [e, tn_ns]
    have nl : (ns l).length ≤ 300 := by rw [ns_length]; exact hl.1
    have HW : ∀ zs : List Int, zs.length ≤ 300 → (b' ≠ 0 → zs = (ns (tn ys)).map (· + y)) → ∃ L' E', (∀ A c A' c' V, (ns l).length ≤ c → RdV V V.heap.size A (zc ((ns l).map (· + y))) → RdV V V.heap.size A' (zc zs) → Calls Tryz.prog 15 #[.int .i64 ((a' : Int) + y), .slice A (ns l).length c, .slice A' zs.length c', .agg #[.int .i64 (b' : Int), .int .i64 (s' : Int), .int .i64 (k' : Int)]] V (Gave V L' E')) ∧ (E' = 3 ∨ E' = 0 ∧ L' = sbits a' b' s' k' l (tn ys)) := fun zs hz hz2 =>
      ⟨_, _, fun A c A' c' V hc h1 h2 => swrite_any ((a' : Int) + y) ((ns l).map (· + y)) _ (by simp) (by omega) zs _ rfl (by omega) b' s' k' A A' c c' hc V h1 h2, sw_shift a' l hl b' s' k' hb' hs' hk'.1 hk'.2 (tn ys) hFR y zs hz2 hlen⟩
    rw [h0, hL] at HX0
    have u1 : IntKind.i64.wrap ((a' : Int) + y) = (a' : Int) + y := IntWalk.i64_in _ (by omega)
    have SM : ∀ L', L' = sbits a' b' s' k' l (tn ys) → ∀ A B c d V, Rd V V.heap.size A (pack (sbits a' b' s' k' l (tn ys))) → Rd V V.heap.size B (pack L') → Calls Tryz.prog 22 #[.agg #[.int .i64 ((sbits a' b' s' k' l (tn ys)).length : Int), .slice A (pack (sbits a' b' s' k' l (tn ys))).length c], .agg #[.int .i64 (L'.length : Int), .slice B (pack L').length d]] V fun e w' => e = .returned (.bool true) ∧ Below V.heap.size V w' := fun L' e A B c d V h1 h2 => by subst e; exact same_l _ hlen A B c d V h1 h2
    have HM1 : ∀ V : World, V.heap[w.heap.size + 1]? = some (.cells #[.int .i64 y] 3 (0, 0)) → Below w.heap.size w V → Calls Tryz.prog 27 #[.slice A1 (ns l).length c1, .pointer (some ⟨w.heap.size + 1, 0, none⟩)] V (MvP V (ns l).length ((ns l).map (· + y))) := fun V hB hV => smove_any (ns l) _ rfl nl y y1 y2 (ns_bound hl) A1 c1 _ V hB (rd1.on hV)
    by_cases hb0 : b' = 0
    · obtain ⟨L', E', HW0, hE⟩ := HW [] (by decide) (fun h => absurd hb0 h)
      have tb : (((b' : Nat) : Int) == 0) = true := by simp [hb0]
      exact sshift_3 _ y A1 A2 c1 c2 _ _ _ _ _ w _ _ _ y1 y2 tb _ u1 _ [] 0 _ _ _ _ (Lib.hid HX0) (Lib.hid HM1) (Lib.hid fun V hB hV => smove_any [] 0 rfl (by decide) y y1 y2 (fun x hx => nomatch hx) none 0 _ V hB (.inl rfl)) (Lib.hid HW0) (hE.imp id fun h => ⟨h.1, Lib.hid (SM L' h.2)⟩)
    · have hle : (tn ys).length ≤ 300 := (hFR hb0).1
      have hlen2 : ys.length ≤ 300 := by rw [hFe hb0, ns_length]; exact hle
      obtain ⟨L', E', HW0, hE⟩ := HW (ys.map (· + y)) (by simpa using hlen2) (fun h => by rw [← hFe h])
      rw [List.length_map] at HW0
      have tb : (((b' : Nat) : Int) == 0) = false := by simp; omega
      exact sshift_4 _ y A1 A2 c1 c2 _ _ _ _ _ w _ _ _ y1 y2 tb _ u1 _ _ ys.length _ _ _ _ (Lib.hid HX0) (Lib.hid HM1) (Lib.hid fun V hB hV => smove_any ys _ rfl hlen2 y y1 y2 (by rw [hFe hb0]; exact ns_bound (hFR hb0)) A2 c2 _ V hB (rd2.on hV)) (Lib.hid HW0) (hE.imp id fun h => ⟨h.1, Lib.hid (SM L' h.2)⟩)
  · exact sshift_0 a y A1 A2 c1 c2 _ _ b s k w _ _ _ _ h0 (Lib.hid HX0)
end Go.Proofs.YticdnodlapafoaaGreat
