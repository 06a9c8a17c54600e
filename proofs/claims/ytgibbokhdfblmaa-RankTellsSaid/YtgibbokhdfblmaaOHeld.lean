/- Moves of a walk through a region that draws its order, operation by operation; each fact names its conditions. -/
import Derived.Test.YtgibbokhdfblmaaORank
import Derived.Deep.RegionHeld3
namespace Go.Proofs.Ytgibbokhdfblmaa
set_option maxRecDepth 100000
set_option linter.unusedVariables false
open Go.RowKit Go.Shelf

/-- Operations of a region that draws its order, one by one, by their numbers. -/
theorem of_drop {l : List Oper} {i : Nat} {oi : Oper} {rest : List Oper} (h : l.drop i = oi :: rest) : l.toArray[i]? = some oi := by
  rw [List.getElem?_toArray, ← List.head?_drop, h]; rfl
theorem held_val {P : Program} {md : Region.Mode} {l : List Oper} {Q : Exit → Act → World → Prop} {S : World → Prop} {i : Nat} {oi : Oper} {rest : List Oper} {fuel : Nat} {listed : Array Bool} {a : Act} {w : World} (hi : l.drop i = oi :: rest)
    (hs : Region.noSelect l.toArray = true) (hf : Region.free md l.toArray listed i = true) (hr : (Region.ready md l.toArray listed).contains i = true)
    (hQ : ∀ v c a w, Q (.panic c) (a.put oi.dst v) w → Q (.panic c) a w) (hS : S w) (hw : Region.wanted oi (yielded l.toArray a.tmps) = true)
    (h : ∃ v, (∀ w, S w → (execOp a.eval oi).run P w = .ok (.value v) w) ∧ wpAnyH P md l.toArray Q S fuel (listed.setIfInBounds i true) (a.put oi.dst v) w) : wpAnyH P md l.toArray Q S (fuel + 1) listed a w :=
  let ⟨v, h1, h2⟩ := h
  wpAnyH_take (of_drop hi) hs hf hr (hQ v) (.inl ⟨hw, h1⟩) hS h2
theorem held_skip {P : Program} {md : Region.Mode} {l : List Oper} {Q : Exit → Act → World → Prop} {S : World → Prop} {i : Nat} {oi : Oper} {rest : List Oper} {fuel : Nat} {listed : Array Bool} {a : Act} {w : World} (hi : l.drop i = oi :: rest)
    (hs : Region.noSelect l.toArray = true) (hf : Region.free md l.toArray listed i = true) (hr : (Region.ready md l.toArray listed).contains i = true)
    (hQ : ∀ v c a w, Q (.panic c) (a.put oi.dst v) w → Q (.panic c) a w) (hS : S w) (hw : Region.wanted oi (yielded l.toArray a.tmps) = false)
    (h : wpAnyH P md l.toArray Q S fuel (listed.setIfInBounds i true) (a.put oi.dst undef) w) : wpAnyH P md l.toArray Q S (fuel + 1) listed a w :=
  wpAnyH_take (of_drop hi) hs hf hr (hQ undef) (.inr ⟨hw, rfl⟩) hS h
theorem fiv (w : World) (a b c d e : Obj) : ((((((w.alloc a).alloc b).alloc c).alloc d).alloc e).heap.size = w.heap.size + 5) ∧
    (((((w.alloc a).alloc b).alloc c).alloc d).alloc e).heap[w.heap.size]? = some a ∧ (((((w.alloc a).alloc b).alloc c).alloc d).alloc e).heap[w.heap.size + 1]? = some b ∧
    (((((w.alloc a).alloc b).alloc c).alloc d).alloc e).heap[w.heap.size + 2]? = some c ∧ (((((w.alloc a).alloc b).alloc c).alloc d).alloc e).heap[w.heap.size + 3]? = some d ∧
    (((((w.alloc a).alloc b).alloc c).alloc d).alloc e).heap[w.heap.size + 4]? = some e := by
  obtain ⟨hz, h0, h1, h2, h3⟩ := four w a b c d
  generalize ((((w.alloc a).alloc b).alloc c).alloc d) = v at *
  have n4 := World.alloc_heap_new v e
  have low : ∀ k, k < v.heap.size → (v.alloc e).heap[k]? = v.heap[k]? := fun k hk => Below.heap_alloc _ _ _ hk
  refine ⟨by simp only [World.size_alloc]; omega, ?_, ?_, ?_, ?_, ?_⟩
  · rw [low _ (by omega)]; exact h0
  · rw [low _ (by omega)]; exact h1
  · rw [low _ (by omega)]; exact h2
  · rw [low _ (by omega)]; exact h3
  · rw [← hz]; exact n4
end Go.Proofs.Ytgibbokhdfblmaa
