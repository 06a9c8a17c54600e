/- Texts of this proof, one behind the other; each fact names its conditions. -/
import Derived.Test.YtbddcokjkdoaaaaGreatSN7
import Derived.Deep.MidRow
import Derived.Deep.Upon
namespace Go.Proofs.YtbddcokjkdoaaaaGreat
set_option linter.unusedVariables false
open Go.RowKit Go.Shelf
theorem setBlk (b : Nat) (t : TypeId) : ∀ (vs cs pre : List Value) (W : World), W.heap[b]? = some (.cells (pre ++ cs).toArray t (0, 0)) → vs.length = cs.length → (W.setCells b pre.length vs).heap[b]? = some (.cells (pre ++ vs).toArray t (0, 0))
  | [], [], pre, W, h, _ => h
  | v :: vs, c :: cs, pre, W, h, hl => by
    have h1 : (W.setCell ⟨b, pre.length, none⟩ v).heap[b]? = some (.cells ((pre ++ [v]) ++ cs).toArray t (0, 0)) := by
      simp only [World.setCell, Array.getElem?_modify, h]
      simp
    have h2 := setBlk b t vs cs (pre ++ [v]) _ h1 (by simpa using hl)
    rw [List.length_append] at h2
    have h3 : (W.setCells b pre.length (v :: vs)) = ((W.setCell ⟨b, pre.length, none⟩ v).setCells b (pre.length + 1) vs) := rfl
    rw [h3, show pre ++ v :: vs = (pre ++ [v]) ++ vs by simp]
    exact h2
  | [], _ :: _, _, _, _, hl => by simp at hl
  | _ :: _, [], _, _, _, hl => by simp at hl
theorem below_setAll {B : Nat} {a : World} (b : Nat) (hb : B ≤ b) : ∀ (vs : List Value) (o : Nat) (w : World), Below B a w → Below B a (w.setCells b o vs)
  | [], _, _, h => h
  | v :: vs, o, w, h => below_setAll b hb vs (o + 1) _ (h.setCell (p := ⟨b, o, none⟩) hb v)
theorem other_setAll (b : Nat) : ∀ (vs : List Value) (o : Nat) (w : World) (g : Nat), g ≠ b → (w.setCells b o vs).heap[g]? = w.heap[g]?
  | [], _, _, _, _ => rfl
  | v :: vs, o, w, g, h => (other_setAll b vs (o + 1) _ g h).trans (Below.heap_setCell w ⟨b, o, none⟩ v g h)
theorem size_setAll (b : Nat) : ∀ (vs : List Value) (o : Nat) (w : World), (w.setCells b o vs).heap.size = w.heap.size
  | [], _, _ => rfl
  | v :: vs, o, w => (size_setAll b vs (o + 1) _).trans (by simp [World.setCell])
theorem stored_all {W : World} {b : Nat} {t : TypeId} {cs : List Value} (vs : List Value) (h : W.heap[b]? = some (.cells cs.toArray t (0, 0))) (n : vs.length = cs.length) :
    (W.setCells b 0 vs).heap[b]? = some (.cells vs.toArray t (0, 0)) ∧ (∀ g, g ≠ b → (W.setCells b 0 vs).heap[g]? = W.heap[g]?) ∧ (W.setCells b 0 vs).heap.size = W.heap.size ∧ ∀ B, B ≤ b → Below B W (W.setCells b 0 vs) :=
  ⟨setBlk b t vs cs [] W h n, fun g hg => other_setAll b vs 0 W g hg, size_setAll b vs 0 W, fun B hB => below_setAll b hB vs 0 W (Below.refl _ _)⟩
theorem there_all {W : World} {b : Nat} {t : TypeId} {cs : List Value} {n : Nat} (h : W.heap[b]? = some (.cells cs.toArray t (0, 0))) (hn : cs.length = n) : W.there b 0 n := fun j hj => ⟨by rw [Nat.zero_add, cell_at h]; simp; omega, frz_at h _⟩
theorem range_all {W : World} {b : Nat} {t : TypeId} {cs : List Value} (h : W.heap[b]? = some (.cells cs.toArray t (0, 0))) : W.rangeAt b 0 cs := fun j v hv => by rw [Nat.zero_add, cell_at h]; simpa using hv
theorem wpList_build {P : Program} {ops : Array Oper} {rest : List Oper} {op : Oper} {a : Act} {w : World} {Q : Exit → Act → World → Prop} (hgd : op.guard = none) (ty : TypeId) (parts : Array (Nat × Operand)) (ho : op.op = .build ty parts)
    (vals : Array (Nat × Value)) (hv : parts.map (fun x => (x.1, a.eval x.2)) = vals) (v : Value) (hr : (Instr.build ty vals).run P w = .ok v w)
    (h : wpList P ops Q rest (a.put op.dst v) w) : wpList P ops Q (op :: rest) a w :=
  wpList_plain hgd fun _ hK => by
    have hv' : (parts.map fun (i, x) => (i, a.eval x)) = vals := hv
    unfold Oper.wp execOp
    simp only [ho, hv', Sem.run_bind, hr, Result.andThen_ok, Sem.run_pure]
    exact hK _ _ h
end Go.Proofs.YtbddcokjkdoaaaaGreat
