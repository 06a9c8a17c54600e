/- Words for lists of numbers in memory; no condition but those that each fact names. (The part of the texts on unary codes that other chapters use, for seats without unary.) -/
import Derived.Test.YtnbjhldpadjgfaaLists
namespace Go.Proofs.Ytnbjhldpadjgfaa
open Go.RowKit Go.Shelf
set_option linter.unusedVariables false

/-- A slice that reads as values, below a block. -/
def RdV (w : World) (B : Nat) (A : Option Addr) (vs : List Value) : Prop :=
  vs = [] ∨ ∃ b off, A = some ⟨b, off, none⟩ ∧ b < B ∧ ∀ i v, vs[i]? = some v → w.cell? ⟨b, off + i, none⟩ = some v
theorem RdV.keep {w w' : World} {B B' : Nat} {A : Option Addr} {vs : List Value} (h : RdV w B A vs) (hB : B ≤ B') (hk : ∀ k, k < B → w'.heap[k]? = w.heap[k]?) : RdV w' B' A vs := by
  rcases h with h | ⟨b, off, e, hb, hc⟩
  · exact .inl h
  · exact .inr ⟨b, off, e, by omega, fun i v hi => (World.cell?_of_block (w := w) (a := ⟨b, off + i, none⟩) (hk b hb)).trans (hc i v hi)⟩
theorem RdV.below {w w' : World} {B B' : Nat} {A : Option Addr} {vs : List Value} (h : RdV w B A vs) (hb : Below B w w') (hB : B ≤ B') : RdV w' B' A vs := h.keep hB hb.block
theorem RdV.on {w V : World} {A : Option Addr} {vs : List Value} (h : RdV w w.heap.size A vs) (hb : Below w.heap.size w V) : RdV V V.heap.size A vs := h.below hb hb.size
theorem RdV.at_ {w : World} {B : Nat} {A : Option Addr} {vs : List Value} (h : RdV w B A vs) {i : Nat} {v : Value} (hi : vs[i]? = some v) : ∃ b off, A = some ⟨b, off, none⟩ ∧ b < B ∧ w.cell? ⟨b, off + i, none⟩ = some v := by
  rcases h with h | ⟨b, off, e, hb, hc⟩
  · rw [h] at hi; simp at hi
  · exact ⟨b, off, e, hb, hc i v hi⟩

/-- Cells of numbers. -/
def nc (ns : List Nat) : List Value := ns.map fun (x : Nat) => Value.int .u64 (x : Int)
theorem nc_length (ns : List Nat) : (nc ns).length = ns.length := by simp [nc]
theorem nc_get (ns : List Nat) (i : Nat) (h : i < ns.length) : (nc ns)[i]? = some (.int .u64 ((ns[i]?.getD 0 : Nat) : Int)) := by
  simp [nc, List.getElem?_map, List.getElem?_eq_getElem h]
theorem nc_append (a b : List Nat) : nc (a ++ b) = nc a ++ nc b := by simp [nc]

theorem take_snoc (ns : List Nat) (i : Nat) (h : i < ns.length) : ns.take (i + 1) = ns.take i ++ [ns[i]?.getD 0] := by
  rw [List.take_succ_eq_append_getElem h, List.getElem?_eq_getElem h]; rfl
theorem nb_zeros (k : Nat) : nb 0 k = List.replicate k false := by
  apply List.ext_getElem
  · simp [nb]
  · intro i h1 h2; simp [nb]
theorem grown_trans {a b c : World} {row : Option Nat} (h : a.grownBy b row) (k : b.grownBy c row) : a.grownBy c row :=
  ⟨k.os.trans h.os, k.tape.trans h.tape, k.output.trans h.output, Nat.le_trans h.size k.size, fun i hi hr => (k.block i (Nat.lt_of_lt_of_le hi h.size) hr).trans (h.block i hi hr)⟩
theorem grown_of_below {w w' : World} (h : Below w.heap.size w w') (row : Option Nat) : w.grownBy w' row := ⟨h.os, h.tape, h.output, h.size, fun k hk _ => h.block k hk⟩
theorem grown_set (w : World) (K i : Nat) (u : Value) : w.grownBy (w.setCell ⟨K, i, none⟩ u) (some K) :=
  ⟨rfl, rfl, rfl, by simp [World.setCell], fun k _ hk => Below.heap_setCell _ _ _ _ (fun e => hk (by rw [e]))⟩

theorem up2 (w : World) (o p : Obj) : Below w.heap.size w ((w.alloc o).alloc p) := ((Below.refl _ w).alloc (Nat.le_refl _) _).alloc (by simp) _

theorem own_slice25 {w : World} {base : Nat} {v : Value} {n : Nat} {xs : List Value} (h : w.ownsRow base 53 1 v n xs) : ∃ A c, v = .slice A n c := by
  rcases h.2 with ⟨rfl, rfl⟩ | ⟨g, cap, cur, rfl, _⟩
  · exact ⟨none, 0, rfl⟩
  · exact ⟨_, cap, rfl⟩

theorem info25 : (Try.prog.info? 53).map (fun i => (i.zero, i.size, i.bytes)) = some (some (.int .u64 0), 1, 8) := by kernel_rfl

theorem own_rdv {w : World} {base : Nat} {e : TypeId} {A : Option Addr} {n c : Nat} {vs : List Value} (h : w.ownsRow base e 1 (.slice A n c) n vs) : RdV w w.heap.size A vs := by
  rcases h.2 with ⟨_, h0⟩ | ⟨g, cap, cur, he, _, hg, _⟩
  · have := h.1
    rw [h0] at this
    exact .inl (List.eq_nil_of_length_eq_zero (by omega))
  · simp only [Value.slice.injEq] at he
    obtain ⟨rfl, _, _⟩ := he
    refine .inr ⟨g, 0, rfl, (Array.getElem?_eq_some_iff.1 hg).1, fun i v hi => ?_⟩
    have hh := h.cells (g := g) rfl i v hi
    have ha : (⟨g, 0, none⟩ : Addr).add i = ⟨g, 0 + i, none⟩ := by unfold Addr.add; split <;> simp_all
    rw [ha] at hh
    exact hh

theorem row_ne25 {w : World} {W : Nat} {t : TypeId} {cs : Array Value} {base : Nat} (hW : w.heap[W]? = some (.cells cs t (0, 0))) (ht : t ≠ 53) {v : Value} {n : Nat} {xs : List Value} (h : w.ownsRow base 53 1 v n xs) : ∀ g, v.ownBlock = some g → g ≠ W := by
  rintro g hg rfl
  rcases h.2 with ⟨rfl, _⟩ | ⟨g', cap, cur, rfl, _, hh, _⟩
  · simp [Value.ownBlock] at hg
  · have : g' = g := by simpa [Value.ownBlock] using hg
    subst this
    rw [hW] at hh
    simp at hh
    exact ht hh.2

theorem Rd.setK {w : World} {B K i : Nat} {A A' : Option Addr} {bs : List Nat} {a : Int} {n c : Nat} {t : TypeId} (u : Value) (h : Rd w B A bs) (hK : w.heap[K]? = some (.cells #[.int .i64 a, .slice A' n c] t (0, 0))) : Rd (w.setCell ⟨K, i, none⟩ u) B A bs := by
  rcases h with h | ⟨b, off, rfl, hb, hc⟩
  · exact .inl h
  · by_cases h0 : bs = []
    · exact .inl h0
    · have hl : 0 < bs.length := List.length_pos_iff.2 h0
      have hne : b ≠ K := by
        rintro rfl
        have h1 := hc 0 hl
        simp only [World.cell?, hK] at h1
        rcases (show off = 0 ∨ off = 1 ∨ 2 ≤ off by omega) with rfl | rfl | h2
        · simp at h1
        · simp at h1
        · rw [Array.getElem?_eq_none (by simp; omega)] at h1
          cases h1
      exact .inr ⟨b, off, rfl, hb, fun j hj => (World.cell?_setCell_other w _ ⟨b, off + j, none⟩ u (by intro e; exact hne (congrArg Addr.block e).symm)).trans (hc j hj)⟩
end Go.Proofs.Ytnbjhldpadjgfaa
