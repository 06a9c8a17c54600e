/- The document's own lists of bits: BitList, for whatever bytes are enough. -/
import Derived.Test.YtnbjhldpadjgfaaUBase
namespace Go.Proofs.Ytnbjhldpadjgfaa
open Go.RowKit

/-- Cells of bits, as ints. -/
def ic (l : List Bool) : List Value := l.map fun b => Value.int .i64 (b.toNat : Int)
theorem ic_length (l : List Bool) : (ic l).length = l.length := by simp [ic]
theorem ic_append (a b : List Bool) : ic (a ++ b) = ic a ++ ic b := by simp [ic]
theorem ic_get (l : List Bool) (i : Nat) (h : i < l.length) : (ic l)[i]? = some (.int .i64 ((l[i]?.getD false).toNat : Int)) := by
  simp [ic, List.getElem?_map, List.getElem?_eq_getElem h]
theorem ic_one (l : List Bool) : ∀ u ∈ ic l, u.oneCell' = true := by
  intro u hu
  simp only [ic, List.mem_map] at hu
  obtain ⟨x, _, rfl⟩ := hu
  rfl

theorem info3 : (Try.prog.info? 3).map (fun i => (i.zero, i.size, i.bytes)) = some (some (.int .i64 0), 1, 8) := by kernel_rfl
theorem own_slice3 {w : World} {base : Nat} {v : Value} {n : Nat} {xs : List Value} (h : w.ownsRow base 3 1 v n xs) : ∃ A c, v = .slice A n c := by
  rcases h.2 with ⟨rfl, rfl⟩ | ⟨g, cap, cur, rfl, _⟩
  · exact ⟨none, 0, rfl⟩
  · exact ⟨_, cap, rfl⟩

theorem own_base {w : World} {base base' : Nat} {e : TypeId} {size n : Nat} {v : Value} {xs : List Value} (h : w.ownsRow base e size v n xs) (hb : base' ≤ base) : w.ownsRow base' e size v n xs := by
  refine ⟨h.1, ?_⟩
  rcases h.2 with h | ⟨g, cap, cur, h1, h2, h3⟩
  · exact .inl h
  · exact .inr ⟨g, cap, cur, h1, by omega, h3⟩

/-- The bit at a position, of bytes. -/
def bitAt (bs : List Nat) (i : Nat) : Bool := bs[i / 8]?.getD 0 / 2 ^ (7 - i % 8) % 2 == 1
theorem unpack_take_succ (n : Nat) (bs : List Nat) (i : Nat) (h : i < n) : (unpack n bs).take (i + 1) = (unpack n bs).take i ++ [bitAt bs i] := by
  rw [List.take_succ_eq_append_getElem (by rw [unpack_length]; exact h)]
  simp [unpack, bitAt]

/-- At each outer round's head: i bits are told, in a row of the call's own. -/
def BLRel (w1 : World) (m : Nat) (bs : List Nat) (v p : Value) (wr : World) : Prop :=
  ∃ i : Nat, i ≤ m ∧ p = .int .i64 (i : Int) ∧ wr.ownsRow w1.heap.size 3 1 v i (ic ((unpack m bs).take i)) ∧ Below w1.heap.size w1 wr

/-- At each inner round's head: the byte has been halved k times. -/
def HalfRel (x s : Nat) (v p : Value) : Prop := ∃ k : Nat, k ≤ s ∧ p = .int .i64 (k : Int) ∧ v = .int .i64 ((x / 2 ^ k : Nat) : Int)

/-- What comes back: a row of the call's own. -/
def Listed (w : World) (l : List Bool) (e : Ending) (w' : World) : Prop :=
  ∃ A c, e = .returned (.slice A l.length c) ∧ w'.ownsRow w.heap.size 3 1 (.slice A l.length c) l.length (ic l) ∧ Below w.heap.size w w'

end Go.Proofs.Ytnbjhldpadjgfaa
