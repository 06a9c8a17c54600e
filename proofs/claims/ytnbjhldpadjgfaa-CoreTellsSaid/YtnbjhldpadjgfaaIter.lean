/- The bits of a sequence are visited, from one position up to another one, whatever the visitor does that keeps the sequence. -/
import Derived.Test.YtnbjhldpadjgfaaSame
import Derived.RangeFuncNested
import Derived.RangeFuncBound
import Derived.RangeFuncCalls
import Derived.RangeFuncLeaves
import Derived.Shelf.Abstract
import Derived.Shelf.RegionOpen
import Derived.OwnWalkIn
import Derived.TacticsInMore
import Derived.LoopNIn
import Derived.LoopIn
namespace Go.Proofs.Ytnbjhldpadjgfaa
open Go.RowKit Go.Shelf

attribute [local go_sem] Oper.semAt_some

/-- What lies in the blocks of Q lies as it lay. -/
def KeepQ (Q : Nat → Prop) (W W' : World) : Prop := ∀ k, Q k → W'.heap[k]? = W.heap[k]?

theorem and_byte (l : List Bool) (i : Nat) : bits .and .u8 ((byteAt l (i / 8) : Int) / 2 ^ (7 - i % 8)) 1 = ((l[i]?.getD false).toNat : Int) := by
  have e : (byteAt l (i / 8) : Int) / 2 ^ (7 - i % 8) = ((byteAt l (i / 8) / 2 ^ (7 - i % 8) : Nat) : Int) := by simp
  have h1 : byteAt l (i / 8) / 2 ^ (7 - i % 8) ≤ byteAt l (i / 8) := Nat.div_le_self _ _
  have h2 := byteAt_lt l (i / 8)
  rw [e]
  have := u8_and_nat (byteAt l (i / 8) / 2 ^ (7 - i % 8)) 1 (by omega) (by omega)
  rw [show ((1 : Nat) : Int) = 1 from rfl] at this
  rw [this, Nat.and_one_is_mod, bit_of_byte]
  rfl

theorem take_bits (l : List Bool) (fr i : Nat) (hi : i < l.length) (hf : fr ≤ i) : (l.drop fr).take (i + 1 - fr) = (l.drop fr).take (i - fr) ++ [l[i]?.getD false] := by
  rw [show i + 1 - fr = i - fr + 1 from by omega, List.take_succ_eq_append_getElem (by rw [List.length_drop]; omega)]
  congr 1
  rw [List.getElem_drop, List.getElem?_eq_getElem hi]
  simp only [Option.getD_some, List.cons.injEq, and_true]
  congr 1
  omega

theorem keepQ_t {Q : Nat → Prop} {A B C : World} (h : KeepQ Q A B) (k : KeepQ Q B C) : KeepQ Q A C := fun i hi => (k i hi).trans (h i hi)
theorem keepQ_b {Q : Nat → Prop} {w : World} (hn : ∀ k, Q k → k < w.heap.size) (W : World) (l : Nat) (o o' : Obj) (hl : w.heap.size ≤ l) (_ : W.heap[l]? = some o) (_ : o.isCells = false) (_ : o.isWalk = false) : KeepQ Q W (W.putObj l o') :=
  fun k hk => World.putObj_heap_other (by have := hn k hk; omega)

end Go.Proofs.Ytnbjhldpadjgfaa
