/- The document's own way to make bits of a list: PackBits, for whatever list of bits. -/
import Derived.Test.YtnbjhldpadjgfaaRefNumA
namespace Go.Proofs.Ytnbjhldpadjgfaa
set_option maxRecDepth 100000
set_option linter.unusedVariables false
open Go.RowKit

/-- k bits from position i on, as a number; 0 behind the end. -/
def pk (l : List Bool) (i : Nat) : Nat → Nat
  | 0 => 0
  | k + 1 => 2 * pk l i k + bt l (i + k)
theorem pk_lt (l : List Bool) (i k : Nat) : pk l i k < 2 ^ k := by
  induction k with
  | zero => simp [pk]
  | succ k ih => have := bt_le l (i + k); rw [pk, Nat.pow_succ]; omega
theorem pk_eight (l : List Bool) (j : Nat) : pk l (8 * j) 8 = byteAt l j := by
  unfold byteAt
  simp only [pk, Nat.add_zero]
  omega
theorem pack_take_succ (l : List Bool) (j : Nat) (h : 8 * j < l.length) : (pack l).take (j + 1) = (pack l).take j ++ [byteAt l j] := by
  have hj : j < (pack l).length := by rw [pack_length]; omega
  rw [List.take_succ_eq_append_getElem hj]
  have := pack_get l j
  rw [List.getElem?_eq_getElem hj] at this
  rw [← this]; rfl

def PKRel (l : List Bool) (i : Nat) (v p : Value) : Prop := ∃ k : Nat, k ≤ 8 ∧ p = .int .i64 (k : Int) ∧ v = .int .i64 (pk l i k : Int)

/-- Bits come back. -/
def PkP (w : World) (l : List Bool) (e : Ending) (w' : World) : Prop :=
  ∃ A c, e = .returned (.agg #[.int .i64 (l.length : Int), .slice A (pack l).length c]) ∧ Rd w' w'.heap.size A (pack l) ∧ Below w.heap.size w w'

end Go.Proofs.Ytnbjhldpadjgfaa
