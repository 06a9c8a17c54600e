/- The law GolombTells: for whatever number, m, bits and position it returns true, in letters: the two places. -/
import Derived.Test.YtdjhcegkcjglcaaGBegun
import Derived.Test.YtdjhcegkcjglcaaRefG2
import Derived.Test.YtdjhcegkcjglcaaRefU
import Derived.Test.YtdjhcegkcjglcaaRefPack
import Derived.Test.YtdjhcegkcjglcaaOpen
import Derived.Deep.RegionHeld3
namespace Go.Proofs.Ytdjhcegkcjglcaa
set_option maxRecDepth 100000
set_option linter.unusedVariables false
open Go.RowKit

/-- What is behind two places for bits: what they hold, and that all below is as it was. -/
structure B2 (V w : World) (lX lY : Int) (nX nY : Nat) (A B : Option Addr) (c d : Nat) (bX bY : List Nat) : Prop where
  rx : Rd w w.heap.size A bX
  ry : Rd w w.heap.size B bY
  below : Below V.heap.size V w
  x : w.heap[V.heap.size]? = some (.cells #[.int .i64 lX, .slice A nX c] 25 (0, 0))
  y : w.heap[V.heap.size + 1]? = some (.cells #[.int .i64 lY, .slice B nY d] 25 (0, 0))
  size : V.heap.size + 1 < w.heap.size
theorem b2_zero (V : World) : ∃ w10, (V.alloc (.cells #[.int .i64 0, .slice none 0 0] 25)).alloc (.cells #[.int .i64 0, .slice none 0 0] 25) = w10 ∧ B2 V w10 0 0 0 0 none none 0 0 [] [] :=
  ⟨_, rfl, Rd.nil _ _ _, Rd.nil _ _ _, up2 V _ _, (Below.heap_alloc _ _ _ (by simp)).trans (World.alloc_heap_new V _),
    (by have := World.alloc_heap_new (V.alloc (.cells #[.int .i64 0, .slice none 0 0] 25)) (.cells #[.int .i64 0, .slice none 0 0] 25); rwa [World.size_alloc] at this), by rw [World.size_alloc, World.size_alloc]; omega⟩
theorem B2.on {V w w' : World} {lX lY : Int} {nX nY : Nat} {A B : Option Addr} {c d : Nat} {bX bY : List Nat} (h : B2 V w lX lY nX nY A B c d bX bY) (hb : Below w.heap.size w w') : B2 V w' lX lY nX nY A B c d bX bY :=
  ⟨h.rx.on hb, h.ry.on hb, h.below.trans (hb.mono h.below.size), (hb.block _ (by have := h.size; omega)).trans h.x, (hb.block _ h.size).trans h.y, Nat.lt_of_lt_of_le h.size hb.size⟩
theorem B2.setX {V w : World} {lX lY : Int} {nX nY : Nat} {A B : Option Addr} {c d : Nat} {bX bY : List Nat} (h : B2 V w lX lY nX nY A B c d bX bY) (l : Int) (n : Nat) (A' : Option Addr) (c' : Nat) (b' : List Nat) (R : Rd w w.heap.size A' b') :
    (w.cell? ⟨V.heap.size, 0, none⟩ = some (.int .i64 lX) ∧ w.cell? ⟨V.heap.size, 1, none⟩ = some (.slice A nX c) ∧ w.frozen? ⟨V.heap.size, 0, none⟩ = false ∧ w.frozen? ⟨V.heap.size, 1, none⟩ = false) ∧
    Hid (∃ w10, (w.setCell ⟨V.heap.size, 0, none⟩ (.int .i64 l)).setCell ⟨V.heap.size, 1, none⟩ (.slice A' n c') = w10 ∧ B2 V w10 l lY n nY A' B c' d b' bY) := by
  refine ⟨blk_cells h.x, _, rfl, ?_⟩
  have x1 : (w.setCell ⟨V.heap.size, 0, none⟩ (.int .i64 l)).heap[V.heap.size]? = some (.cells #[.int .i64 l, .slice A nX c] 25 (0, 0)) := by
    rw [heap_set_same _ _ _ _ 25 _ h.x]; simp
  have x2 : ((w.setCell ⟨V.heap.size, 0, none⟩ (.int .i64 l)).setCell ⟨V.heap.size, 1, none⟩ (.slice A' n c')).heap[V.heap.size]? = some (.cells #[.int .i64 l, .slice A' n c'] 25 (0, 0)) := by
    rw [heap_set_same _ _ _ _ 25 _ x1]; simp
  have ss : ((w.setCell ⟨V.heap.size, 0, none⟩ (.int .i64 l)).setCell ⟨V.heap.size, 1, none⟩ (.slice A' n c')).heap.size = w.heap.size := by simp [World.setCell]
  have rd : ∀ {C : Option Addr} {bs : List Nat}, Rd w w.heap.size C bs → Rd ((w.setCell ⟨V.heap.size, 0, none⟩ (.int .i64 l)).setCell ⟨V.heap.size, 1, none⟩ (.slice A' n c')) w.heap.size C bs := fun h' => (h'.setK (i := 0) (.int .i64 l) h.x).setK (i := 1) (.slice A' n c') x1
  exact ⟨by rw [ss]; exact rd R, by rw [ss]; exact rd h.ry, (h.below.setCell (p := ⟨V.heap.size, 0, none⟩) (Nat.le_refl _) _).setCell (p := ⟨V.heap.size, 1, none⟩) (Nat.le_refl _) _, x2,
    (Below.heap_setCell _ _ _ _ (by simp)).trans ((Below.heap_setCell _ _ _ _ (by simp)).trans h.y), by rw [ss]; exact h.size⟩
theorem B2.setY {V w : World} {lX lY : Int} {nX nY : Nat} {A B : Option Addr} {c d : Nat} {bX bY : List Nat} (h : B2 V w lX lY nX nY A B c d bX bY) (l : Int) (n : Nat) (A' : Option Addr) (c' : Nat) (b' : List Nat) (R : Rd w w.heap.size A' b') :
    (w.cell? ⟨V.heap.size + 1, 0, none⟩ = some (.int .i64 lY) ∧ w.cell? ⟨V.heap.size + 1, 1, none⟩ = some (.slice B nY d) ∧ w.frozen? ⟨V.heap.size + 1, 0, none⟩ = false ∧ w.frozen? ⟨V.heap.size + 1, 1, none⟩ = false) ∧
    Hid (∃ w10, (w.setCell ⟨V.heap.size + 1, 0, none⟩ (.int .i64 l)).setCell ⟨V.heap.size + 1, 1, none⟩ (.slice A' n c') = w10 ∧ B2 V w10 lX l nX n A A' c c' bX b') := by
  refine ⟨blk_cells h.y, _, rfl, ?_⟩
  have x1 : (w.setCell ⟨V.heap.size + 1, 0, none⟩ (.int .i64 l)).heap[V.heap.size + 1]? = some (.cells #[.int .i64 l, .slice B nY d] 25 (0, 0)) := by
    rw [heap_set_same _ _ _ _ 25 _ h.y]; simp
  have x2 : ((w.setCell ⟨V.heap.size + 1, 0, none⟩ (.int .i64 l)).setCell ⟨V.heap.size + 1, 1, none⟩ (.slice A' n c')).heap[V.heap.size + 1]? = some (.cells #[.int .i64 l, .slice A' n c'] 25 (0, 0)) := by
    rw [heap_set_same _ _ _ _ 25 _ x1]; simp
  have ss : ((w.setCell ⟨V.heap.size + 1, 0, none⟩ (.int .i64 l)).setCell ⟨V.heap.size + 1, 1, none⟩ (.slice A' n c')).heap.size = w.heap.size := by simp [World.setCell]
  have rd : ∀ {C : Option Addr} {bs : List Nat}, Rd w w.heap.size C bs → Rd ((w.setCell ⟨V.heap.size + 1, 0, none⟩ (.int .i64 l)).setCell ⟨V.heap.size + 1, 1, none⟩ (.slice A' n c')) w.heap.size C bs := fun h' => (h'.setK (i := 0) (.int .i64 l) h.y).setK (i := 1) (.slice A' n c') x1
  exact ⟨by rw [ss]; exact rd h.rx, by rw [ss]; exact rd R, (h.below.setCell (p := ⟨V.heap.size + 1, 0, none⟩) (Nat.le_succ _) _).setCell (p := ⟨V.heap.size + 1, 1, none⟩) (Nat.le_succ _) _,
    (Below.heap_setCell _ _ _ _ (by simp)).trans ((Below.heap_setCell _ _ _ _ (by simp)).trans h.x), x2, by rw [ss]; exact h.size⟩

end Go.Proofs.Ytdjhcegkcjglcaa
