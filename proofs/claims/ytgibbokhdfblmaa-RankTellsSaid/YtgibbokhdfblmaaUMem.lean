/- Words for lists of numbers in memory, for unary codes, and for a writer that keeps bits; no condition but those that each fact names. -/
import Derived.Test.YtgibbokhdfblmaaLists
namespace Go.Proofs.Ytgibbokhdfblmaa
open Go.RowKit

/-- A slice that reads as values, below a block. -/
def RdV (w : World) (B : Nat) (A : Option Addr) (vs : List Value) : Prop :=
  vs = [] ∨ ∃ b off, A = some ⟨b, off, none⟩ ∧ b < B ∧ ∀ i v, vs[i]? = some v → w.cell? ⟨b, off + i, none⟩ = some v
theorem RdV.keep {w w' : World} {B B' : Nat} {A : Option Addr} {vs : List Value} (h : RdV w B A vs) (hB : B ≤ B') (hk : ∀ k, k < B → w'.heap[k]? = w.heap[k]?) : RdV w' B' A vs := by
  rcases h with h | ⟨b, off, e, hb, hc⟩
  · exact .inl h
  · exact .inr ⟨b, off, e, by omega, fun i v hi => (World.cell?_of_block (w := w) (a := ⟨b, off + i, none⟩) (hk b hb)).trans (hc i v hi)⟩
theorem RdV.below {w w' : World} {B B' : Nat} {A : Option Addr} {vs : List Value} (h : RdV w B A vs) (hb : Below B w w') (hB : B ≤ B') : RdV w' B' A vs := h.keep hB hb.block
theorem RdV.on {w V : World} {A : Option Addr} {vs : List Value} (h : RdV w w.heap.size A vs) (hb : Below w.heap.size w V) : RdV V V.heap.size A vs := h.below hb hb.size
theorem RdV.at_ {w : World} {B : Nat} {A : Option Addr} {vs : List Value} (h : RdV w B A vs) {i : Nat} {v : Value} (hi : vs[i]? = some v) : ∃ b off, A = some ⟨b, off, none⟩ ∧ b < B ∧ w.cell? ⟨b, off + i, none⟩ = some v := by
  rcases h with h | ⟨b, off, e, hb, hc⟩
  · rw [h] at hi; simp at hi
  · exact ⟨b, off, e, hb, hc i v hi⟩

/-- Cells of numbers. -/
def nc (ns : List Nat) : List Value := ns.map fun (x : Nat) => Value.int .u64 (x : Int)
theorem nc_length (ns : List Nat) : (nc ns).length = ns.length := by simp [nc]
theorem nc_get (ns : List Nat) (i : Nat) (h : i < ns.length) : (nc ns)[i]? = some (.int .u64 ((ns[i]?.getD 0 : Nat) : Int)) := by
  simp [nc, List.getElem?_map, List.getElem?_eq_getElem h]
theorem nc_append (a b : List Nat) : nc (a ++ b) = nc a ++ nc b := by simp [nc]

/-- The unary code of a number, and of a list. -/
def uc (n : Nat) : List Bool := List.replicate n false ++ [true]
def ucs (ns : List Nat) : List Bool := ns.flatMap uc
theorem uc_length (n : Nat) : (uc n).length = n + 1 := by simp [uc]
theorem ucs_nil : ucs [] = [] := rfl
theorem ucs_append (a b : List Nat) : ucs (a ++ b) = ucs a ++ ucs b := by simp [ucs]
theorem ucs_snoc (a : List Nat) (n : Nat) : ucs (a ++ [n]) = ucs a ++ uc n := by rw [ucs_append]; simp [ucs]
theorem take_snoc (ns : List Nat) (i : Nat) (h : i < ns.length) : ns.take (i + 1) = ns.take i ++ [ns[i]?.getD 0] := by
  rw [List.take_succ_eq_append_getElem h, List.getElem?_eq_getElem h]; rfl
theorem ucs_take_le (ns : List Nat) (i : Nat) : (ucs (ns.take i)).length ≤ (ucs ns).length := by
  have e : ns = ns.take i ++ ns.drop i := (List.take_append_drop i ns).symm
  have h2 : (ucs ns).length = (ucs (ns.take i)).length + (ucs (ns.drop i)).length := by
    conv => lhs; rw [e]
    rw [ucs_append, List.length_append]
  omega

theorem nb_zeros (k : Nat) : nb 0 k = List.replicate k false := by
  apply List.ext_getElem
  · simp [nb]
  · intro i h1 h2; simp [nb]
theorem nb_one (z : Nat) : nb 1 (z + 1) = uc z := by
  rw [nb_snoc]
  have e : (1 : Nat) / 2 = 0 := rfl
  rw [e, nb_zeros]
  rfl

/-- What Many answers. -/
def manyE (ns : List Nat) : Int := if ns.any (fun n => decide (8192 ≤ n)) = true then 3 else if 8192 < (ucs ns).length then 8 else 0

/-- Block K holds bits that are right, in a writer of unary. -/
def UW (w : World) (K : Nat) (l : List Bool) : Prop :=
  ∃ A c, w.heap[K]? = some (.cells #[.int .i64 (l.length : Int), .slice A (pack l).length c] 87 (0, 0)) ∧ Rd w w.heap.size A (pack l)

theorem grown_trans {a b c : World} {row : Option Nat} (h : a.grownBy b row) (k : b.grownBy c row) : a.grownBy c row :=
  ⟨k.os.trans h.os, k.tape.trans h.tape, k.output.trans h.output, Nat.le_trans h.size k.size, fun i hi hr => (k.block i (Nat.lt_of_lt_of_le hi h.size) hr).trans (h.block i hi hr)⟩
theorem grown_of_below {w w' : World} (h : Below w.heap.size w w') (row : Option Nat) : w.grownBy w' row := ⟨h.os, h.tape, h.output, h.size, fun k hk _ => h.block k hk⟩
theorem grown_set (w : World) (K i : Nat) (u : Value) : w.grownBy (w.setCell ⟨K, i, none⟩ u) (some K) :=
  ⟨rfl, rfl, rfl, by simp [World.setCell], fun k _ hk => Below.heap_setCell _ _ _ _ (fun e => hk (by rw [e]))⟩

end Go.Proofs.Ytgibbokhdfblmaa
