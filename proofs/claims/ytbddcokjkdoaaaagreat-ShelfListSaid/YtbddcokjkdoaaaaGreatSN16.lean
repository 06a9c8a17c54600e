/- Texts of this proof, one behind the other; each fact names its conditions. -/
import Derived.Test.YtbddcokjkdoaaaaGreatSN15
import Derived.Test.YtbddcokjkdoaaaaGreatSN12
namespace Go.Proofs.YtbddcokjkdoaaaaGreat
set_option maxRecDepth 100000
set_option linter.unusedVariables false
open Go.RowKit Go.Shelf
theorem four_at (w : World) (o0 o1 o2 o3 : Obj) (V : World) (h : (((w.alloc o0).alloc o1).alloc o2).alloc o3 = V) :
    V.heap.size = w.heap.size + 4 ∧ Below w.heap.size w V := by
  subst h
  refine ⟨by simp, ((((Below.refl _ w).alloc (Nat.le_refl _) _).alloc (by simp) _).alloc (by simp; omega) _).alloc (by simp; omega) _⟩
theorem four_get (w : World) (c0 c1 c2 c3 : Array Value) (t0 t1 t2 t3 : TypeId) (V : World) (h : (((w.alloc (.cells c0 t0)).alloc (.cells c1 t1)).alloc (.cells c2 t2)).alloc (.cells c3 t3) = V) :
    V.heap[w.heap.size]? = some (.cells c0 t0 (0, 0)) ∧ V.heap[w.heap.size + 1]? = some (.cells c1 t1 (0, 0)) ∧ V.heap[w.heap.size + 2]? = some (.cells c2 t2 (0, 0)) ∧ V.heap[w.heap.size + 3]? = some (.cells c3 t3 (0, 0)) := by
  subst h
  have s1 := World.size_alloc w (.cells c0 t0)
  have s2 := World.size_alloc (w.alloc (.cells c0 t0)) (.cells c1 t1)
  have s3 := World.size_alloc ((w.alloc (.cells c0 t0)).alloc (.cells c1 t1)) (.cells c2 t2)
  rw [s1] at s2
  rw [s2] at s3
  have g0 := World.alloc_heap_new w (.cells c0 t0)
  have g1 := World.alloc_heap_new (w.alloc (.cells c0 t0)) (.cells c1 t1)
  have g2 := World.alloc_heap_new ((w.alloc (.cells c0 t0)).alloc (.cells c1 t1)) (.cells c2 t2)
  have g3 := World.alloc_heap_new (((w.alloc (.cells c0 t0)).alloc (.cells c1 t1)).alloc (.cells c2 t2)) (.cells c3 t3)
  have b1 := one_below (w.alloc (.cells c0 t0)) (.cells c1 t1)
  have b2 := one_below ((w.alloc (.cells c0 t0)).alloc (.cells c1 t1)) (.cells c2 t2)
  have b3 := one_below (((w.alloc (.cells c0 t0)).alloc (.cells c1 t1)).alloc (.cells c2 t2)) (.cells c3 t3)
  rw [s1] at g1 b1
  rw [s2] at g2 b2
  rw [s3] at g3 b3
  exact ⟨((b3.block _ (by omega)).trans ((b2.block _ (by omega)).trans (b1.block _ (by omega)))).trans g0, ((b3.block _ (by omega)).trans (b2.block _ (by omega))).trans g1, (b3.block _ (by omega)).trans g2, g3⟩
end Go.Proofs.YtbddcokjkdoaaaaGreat
