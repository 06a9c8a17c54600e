/- The document's own way to make bits of a list: PackBits, for whatever list of bits. -/

import Derived.Test.YthbgjlebgcnfeaaRefNumA
namespace Go.Proofs.Ythbgjlebgcnfeaa
set_option maxRecDepth 100000
set_option linter.unusedVariables false
open Go.RowKit

/-- k bits from position i on, as a number; 0 behind the end. -/
def pk (l : List Bool) (i : Nat) : Nat → Nat
  | 0 => 0
  | k + 1 => 2 * pk l i k + bt l (i + k)
theorem pk_lt (l : List Bool) (i k : Nat) : pk l i k < 2 ^ k := by
  induction k with
  | zero => simp [pk]
  | succ k ih => have := bt_le l (i + k); rw [pk, Nat.pow_succ]; omega
theorem pk_eight (l : List Bool) (j : Nat) : pk l (8 * j) 8 = byteAt l j := by
  unfold byteAt
  simp only [pk, Nat.add_zero]
  omega
theorem pack_take_succ (l : List Bool) (j : Nat) (h : 8 * j < l.length) : (pack l).take (j + 1) = (pack l).take j ++ [byteAt l j] := by
  have hj : j < (pack l).length := by rw [pack_length]; omega
  rw [List.take_succ_eq_append_getElem hj]
  have := pack_get l j
  rw [List.getElem?_eq_getElem hj] at this
  rw [← this]; rfl

def PKRel (l : List Bool) (i : Nat) (v p : Value) : Prop := ∃ k : Nat, k ≤ 8 ∧ p = .int .i64 (k : Int) ∧ v = .int .i64 (pk l i k : Int)

/-- At each outer round's head: j bytes lie in a row of the call's own. -/
def PBRel (w w1 : World) (l : List Bool) (p : Value) (wr : World) : Prop :=
  ∃ j : Nat, 8 * j < l.length + 8 ∧ p = .int .i64 ((8 * j : Nat) : Int) ∧ ∃ v, wr.heap[w.heap.size + 1]? = some (.cells #[.int .i64 (l.length : Int), v] 56 (0, 0)) ∧ wr.ownsRow (w.heap.size + 2) 5 1 v ((pack l).take j).length (bc ((pack l).take j)) ∧ Below (w.heap.size + 1) w1 wr ∧ w1.heap.size ≤ wr.heap.size

/-- Bits come back. -/
def PkP (w : World) (l : List Bool) (e : Ending) (w' : World) : Prop :=
  ∃ A c, e = .returned (.agg #[.int .i64 (l.length : Int), .slice A (pack l).length c]) ∧ Rd w' w'.heap.size A (pack l) ∧ Below w.heap.size w w'

/-- One byte more: behind the append, and behind the store. -/
theorem pb_step {wr w3 w1 : World} {s k g' cap' ln : Nat} {Av : Option Addr} {cv : Nat} {xs ys : List Value} {tmp : Obj}
    (hblk : wr.heap[s + 1]? = some (.cells #[.int .i64 (ln : Int), .slice Av k cv] 56 (0, 0))) (hrow : wr.ownsRow (s + 2) 5 1 (.slice Av k cv) k xs) (hbel : Below (s + 1) w1 wr) (hz : s + 2 ≤ w1.heap.size) (hzz : w1.heap.size ≤ wr.heap.size)
    (hgrow : (wr.alloc tmp).grownBy w3 (Value.slice Av k cv).ownBlock) (hown' : w3.ownsRow (s + 2) 5 1 (.slice (some ⟨g', 0, none⟩) (k + 1) cap') (k + 1) ys) :
    (w3.cell? ⟨s + 1, 1, none⟩ = some (.slice Av k cv) ∧ w3.frozen? ⟨s + 1, 1, none⟩ = false) ∧
    Hid ((w3.setCell ⟨s + 1, 1, none⟩ (.slice (some ⟨g', 0, none⟩) (k + 1) cap')).heap[s + 1]? = some (.cells #[.int .i64 (ln : Int), .slice (some ⟨g', 0, none⟩) (k + 1) cap'] 56 (0, 0)) ∧
      (w3.setCell ⟨s + 1, 1, none⟩ (.slice (some ⟨g', 0, none⟩) (k + 1) cap')).ownsRow (s + 2) 5 1 (.slice (some ⟨g', 0, none⟩) (k + 1) cap') (k + 1) ys ∧
      Below (s + 1) w1 (w3.setCell ⟨s + 1, 1, none⟩ (.slice (some ⟨g', 0, none⟩) (k + 1) cap')) ∧ w1.heap.size ≤ (w3.setCell ⟨s + 1, 1, none⟩ (.slice (some ⟨g', 0, none⟩) (k + 1) cap')).heap.size) := by
  have hne : ∀ j, (Value.slice Av k cv).ownBlock = some j → s + 2 ≤ j := fun j hj => (hrow.lt j hj).1
  have h3 : w3.heap[s + 1]? = some (.cells #[.int .i64 (ln : Int), .slice Av k cv] 56 (0, 0)) :=
    (hgrow.block (s + 1) (by simp; omega) (fun e => by have := hne _ e.symm; omega)).trans ((Below.heap_alloc _ _ _ (by omega)).trans hblk)
  have hb3 : Below (s + 1) w1 w3 := (hbel.alloc (by omega) tmp).grown hgrow (by simp; omega) (fun j hj => by have := hne j hj; omega)
  obtain ⟨_, c1, _, f1⟩ := blk_cells h3
  have hg : s + 2 ≤ g' := (hown'.lt g' rfl).1
  refine ⟨⟨c1, f1⟩, ?_, ?_, hb3.setCell (p := ⟨s + 1, 1, none⟩) (Nat.le_refl _) _, by simpa [World.setCell] using hb3.size⟩
  · rw [heap_set_same _ _ _ _ 56 _ h3]; simp
  · refine hown'.kept (row := some (s + 1)) (grown_set _ _ _ _) (.inr ?_)
    simp [Value.ownBlock]; omega

end Go.Proofs.Ythbgjlebgcnfeaa
