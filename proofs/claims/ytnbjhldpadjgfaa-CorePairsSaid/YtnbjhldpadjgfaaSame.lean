/- Two sequences of bits are held against each other, whatever they are. -/
import Derived.Test.YtnbjhldpadjgfaaPut
namespace Go.Proofs.Ytnbjhldpadjgfaa
open Go.RowKit

/-- At each round's head: so many bytes are alike. -/
def SameRel (w : World) (xs ys : List Nat) (p : Value) (wr : World) : Prop := ∃ i : Nat, i ≤ xs.length ∧ p = .int .i64 (i : Int) ∧ xs.take i = ys.take i ∧ Below w.heap.size w wr

theorem take_succ_same (xs ys : List Nat) (i : Nat) (h1 : i < xs.length) (h2 : i < ys.length) (h : xs.take i = ys.take i) (he : xs[i]?.getD 0 = ys[i]?.getD 0) : xs.take (i + 1) = ys.take (i + 1) := by
  rw [List.take_succ_eq_append_getElem h1, List.take_succ_eq_append_getElem h2, h]
  rw [List.getElem?_eq_getElem h1, List.getElem?_eq_getElem h2] at he
  simp only [Option.getD_some] at he
  rw [he]
theorem ne_of_at (xs ys : List Nat) (i : Nat) (he : xs[i]?.getD 0 ≠ ys[i]?.getD 0) : ¬ xs = ys := fun h => he (by rw [h])

end Go.Proofs.Ytnbjhldpadjgfaa
