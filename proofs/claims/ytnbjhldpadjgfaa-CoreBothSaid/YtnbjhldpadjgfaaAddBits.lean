/- A part of a sequence of bits is added to a writer. -/
import Derived.Test.YtnbjhldpadjgfaaIter
namespace Go.Proofs.Ytnbjhldpadjgfaa
open Go.RowKit Go.Shelf

attribute [local go_sem] Oper.semAt_some

theorem fr_own {β : Type} (S : Nat → Prop) (w : World) (B : Nat) (hB : w.heap.size ≤ B) (hS : ∀ k, S k → k < B) : OwnFrom B (fun (_ : β) X => Fr S w X ∧ B ≤ X.heap.size) := by
  rintro s X Y row ⟨h, hz⟩ hgr hrow
  have hk : ∀ k, k < B → Y.heap[k]? = X.heap[k]? := fun k hk => hgr.block k (by omega) (fun e => by have := (hrow k e.symm).1; omega)
  refine ⟨⟨hgr.os.trans h.os, hgr.tape.trans h.tape, hgr.output.trans h.output, Nat.le_trans h.size hgr.size, fun k hs => (hk k (hS k hs)).trans (h.block k hs), fun k o ho hc => ?_⟩, Nat.le_trans hz hgr.size⟩
  have : k < w.heap.size := (Array.getElem?_eq_some_iff.1 ho).1
  exact (hk k (by omega)).trans (h.same k o ho hc)

theorem fr_put {S : Nat → Prop} {w X : World} {B D : Nat} {o o' : Obj} (h : Fr S w X) (hB : w.heap.size ≤ B) (hS : ∀ k, S k → k < B) (hD : B ≤ D) (_ : X.heap[D]? = some o) : Fr S w (X.putObj D o') :=
  ⟨h.os, h.tape, h.output, by rw [World.putObj_size]; exact h.size, fun k hs => (World.putObj_heap_other (by have := hS k hs; omega)).trans (h.block k hs), fun k p hp hc =>
    (World.putObj_heap_other (by have : k < w.heap.size := (Array.getElem?_eq_some_iff.1 hp).1; omega)).trans (h.same k p hp hc)⟩

/-- The blocks that a visit wants kept, and those of S0. -/
def visit (S0 : Nat → Prop) (s : Nat) (k : Nat) : Prop := S0 k ∨ k = s ∨ k = s + 2 ∨ k = s + 3 ∨ k = s + 4

/-- Five blocks, as addBits lays them. -/
theorem five (w : World) (a b c d e : Obj) : ((((((w.alloc a).alloc b).alloc c).alloc d).alloc e).heap.size = w.heap.size + 5) ∧
    (((((w.alloc a).alloc b).alloc c).alloc d).alloc e).heap[w.heap.size]? = some a ∧ (((((w.alloc a).alloc b).alloc c).alloc d).alloc e).heap[w.heap.size + 2]? = some c ∧
    (((((w.alloc a).alloc b).alloc c).alloc d).alloc e).heap[w.heap.size + 3]? = some d ∧ (((((w.alloc a).alloc b).alloc c).alloc d).alloc e).heap[w.heap.size + 4]? = some e := by
  have n0 := World.alloc_heap_new w a
  have n2 := World.alloc_heap_new ((w.alloc a).alloc b) c
  have n3 := World.alloc_heap_new (((w.alloc a).alloc b).alloc c) d
  have n4 := World.alloc_heap_new ((((w.alloc a).alloc b).alloc c).alloc d) e
  simp only [World.size_alloc] at n2 n3 n4
  refine ⟨by simp only [World.size_alloc], ?_, ?_, ?_, n4⟩
  · rw [Below.heap_alloc _ _ _ (by simp only [World.size_alloc]; omega), Below.heap_alloc _ _ _ (by simp only [World.size_alloc]; omega), Below.heap_alloc _ _ _ (by simp only [World.size_alloc]; omega), Below.heap_alloc _ _ _ (by simp only [World.size_alloc]; omega)]; exact n0
  · rw [Below.heap_alloc _ _ _ (by simp only [World.size_alloc]; omega), Below.heap_alloc _ _ _ (by simp only [World.size_alloc]; omega)]; exact n2
  · rw [Below.heap_alloc _ _ _ (by simp only [World.size_alloc]; omega)]; exact n3

theorem box_cell {w : World} {B : Nat} {t : TypeId} {v : Value} (h : w.heap[B]? = some (.cells #[v] t (0, 0))) : w.cell? ⟨B, 0, none⟩ = some v := by simp [World.cell?, h]

end Go.Proofs.Ytnbjhldpadjgfaa
