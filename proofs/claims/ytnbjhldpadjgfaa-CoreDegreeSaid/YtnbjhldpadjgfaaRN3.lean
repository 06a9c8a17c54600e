/- How many numbers at the beginning of a list are one next to the other, as the program counts; and whether two next to each other are the same. -/
import Derived.Test.YtnbjhldpadjgfaaNGaps
import Derived.Test.YtnbjhldpadjgfaaRNPure
namespace Go.Proofs.Ytnbjhldpadjgfaa
set_option maxRecDepth 100000
set_option linter.unusedVariables false
open Go.RowKit Go.Shelf

theorem below_drewN {B : Nat} {w X : World} (h : Below B w X) (k : Nat) : Below B w (X.drewN k) := ⟨h.os, h.tape, h.output, h.size, h.block⟩
/-- At each round's head: the first k are one next to the other. -/
def ScRel (l : List Nat) (w : World) (p : Value) (wr : World) : Prop :=
  ∃ k : Nat, 1 ≤ k ∧ k ≤ l.length ∧ p = .int .i64 (k : Int) ∧ (∀ i, i < k → l[i]?.getD 0 = l[0]?.getD 0 + i) ∧ Below w.heap.size w wr
/-- At each round's head: none of the first i is the one behind. -/
def TwRel (l : List Nat) (w : World) (p : Value) (wr : World) : Prop :=
  ∃ i : Nat, 1 ≤ i ∧ p = .int .i64 (i : Int) ∧ (∀ j, j + 1 < i → j + 1 < l.length → l[j + 1]?.getD 0 ≠ l[j]?.getD 0) ∧ Below w.heap.size w wr
end Go.Proofs.Ytnbjhldpadjgfaa
