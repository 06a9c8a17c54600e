/- Words for memory: what a call keeps, and a writer that holds the bytes of a list of bits; no condition but those that each fact names. -/
import Derived.Test.YtgibbokhdfblmaaRows
import Derived.Test.YtgibbokhdfblmaaPure
import Derived.WalkKit
import Derived.WalkSpells
import Derived.RangeFuncBox
namespace Go.Proofs.Ytgibbokhdfblmaa
open Go.RowKit

/-- Cells of bytes. -/
def bc (bs : List Nat) : List Value := bs.map fun (x : Nat) => Value.int .u8 (x : Int)
theorem bc_length (bs : List Nat) : (bc bs).length = bs.length := by simp [bc]
theorem bc_append (a b : List Nat) : bc (a ++ b) = bc a ++ bc b := by simp [bc]
theorem bc_set (a : List Nat) (k x : Nat) : bc (a.set k x) = (bc a).set k (.int .u8 (x : Int)) := by simp [bc, List.map_set]
theorem bc_get (bs : List Nat) (k : Nat) (h : k < bs.length) : (bc bs)[k]? = some (.int .u8 ((bs[k]?.getD 0 : Nat) : Int)) := by
  simp [bc, List.getElem?_map, List.getElem?_eq_getElem h]

/-- A slice that reads as bytes, below a block. -/
def Rd (w : World) (B : Nat) (A : Option Addr) (bs : List Nat) : Prop :=
  bs = [] ∨ ∃ b off, A = some ⟨b, off, none⟩ ∧ b < B ∧ ∀ i, i < bs.length → w.cell? ⟨b, off + i, none⟩ = some (.int .u8 ((bs[i]?.getD 0 : Nat) : Int))
theorem Rd.keep {w w' : World} {B B' : Nat} {A : Option Addr} {bs : List Nat} (h : Rd w B A bs) (hB : B ≤ B') (hk : ∀ k, k < B → w'.heap[k]? = w.heap[k]?) : Rd w' B' A bs := by
  rcases h with h | ⟨b, off, e, hb, hc⟩
  · exact .inl h
  · exact .inr ⟨b, off, e, by omega, fun i hi => (World.cell?_of_block (w := w) (a := ⟨b, off + i, none⟩) (hk b hb)).trans (hc i hi)⟩
theorem Rd.below {w w' : World} {B B' : Nat} {A : Option Addr} {bs : List Nat} (h : Rd w B A bs) (hb : Below B w w') (hB : B ≤ B') : Rd w' B' A bs := h.keep hB hb.block
theorem Rd.nil (w : World) (B : Nat) (A : Option Addr) : Rd w B A [] := .inl rfl

/-- What lies in the blocks of S lies as it lay; so does whatever is no cells; the streams are as they were. -/
structure Fr (S : Nat → Prop) (w w' : World) : Prop where
  os : w'.os = w.os
  tape : w'.tape = w.tape
  output : w'.output = w.output
  size : w.heap.size ≤ w'.heap.size
  block : ∀ k, S k → w'.heap[k]? = w.heap[k]?
  same : ∀ (k : Nat) (o : Obj), w.heap[k]? = some o → o.isCells = false → w'.heap[k]? = some o
theorem Fr.refl (S : Nat → Prop) (w : World) : Fr S w w := ⟨rfl, rfl, rfl, Nat.le_refl _, fun _ _ => rfl, fun _ _ h _ => h⟩
theorem Fr.trans {S : Nat → Prop} {a b c : World} (h : Fr S a b) (k : Fr S b c) : Fr S a c :=
  ⟨k.os.trans h.os, k.tape.trans h.tape, k.output.trans h.output, Nat.le_trans h.size k.size, fun i hi => (k.block i hi).trans (h.block i hi), fun i o hi ho => k.same i o (h.same i o hi ho) ho⟩
theorem Fr.drew {S : Nat → Prop} {a w : World} (h : Fr S a w) : Fr S a w.drew := ⟨h.os, h.tape, h.output, h.size, h.block, h.same⟩
theorem Fr.setCell {S : Nat → Prop} {a w : World} (h : Fr S a w) {p : Addr} (hp : ¬ S p.block) (u : Value) : Fr S a (w.setCell p u) :=
  h.trans ⟨rfl, rfl, rfl, by simp [World.setCell], fun k hk => Below.heap_setCell _ _ _ _ (fun e => hp (e ▸ hk)), (KeepsOthers.setCell w p u).same⟩
theorem Fr.alloc {S : Nat → Prop} {a w : World} (h : Fr S a w) (hS : ∀ k, S k → k < w.heap.size) (o : Obj) : Fr S a (w.alloc o) :=
  h.trans ⟨rfl, rfl, rfl, by simp, fun k hk => Below.heap_alloc _ _ _ (hS k hk), (KeepsOthers.alloc w o).same⟩
theorem Fr.grown {S : Nat → Prop} {a w w' : World} {row : Option Nat} (h : Fr S a w) (hg : w.grownBy w' row) (hS : ∀ k, S k → k < w.heap.size) (hr : ∀ k, row = some k → ¬ S k)
    (hc : ∀ (j : Nat) (o : Obj), row = some j → w.heap[j]? = some o → o.isCells = true) : Fr S a w' :=
  h.trans ⟨hg.os, hg.tape, hg.output, hg.size, fun k hk => hg.block k (hS k hk) (fun e => hr k e.symm hk), (KeepsOthers.of_grownBy hg hc).same⟩
theorem Fr.below {w w' : World} {B : Nat} {S : Nat → Prop} (h : Fr S w w') (hB : ∀ k, k < B → S k) : Below B w w' := ⟨h.os, h.tape, h.output, h.size, fun k hk => h.block k (hB k hk)⟩
theorem Fr.others {S : Nat → Prop} {w w' : World} (h : Fr S w w') : KeepsOthers w w' := ⟨h.size, h.same⟩
theorem Fr.mono {S S' : Nat → Prop} {w w' : World} (h : Fr S w w') (hs : ∀ k, S' k → S k) : Fr S' w w' := ⟨h.os, h.tape, h.output, h.size, fun k hk => h.block k (hs k hk), h.same⟩

theorem own_cells {w : World} {base : Nat} {e : TypeId} {size n : Nat} {v : Value} {xs : List Value} (h : w.ownsRow base e size v n xs) :
    ∀ (j : Nat) (o : Obj), v.ownBlock = some j → w.heap[j]? = some o → o.isCells = true := by
  intro j o hj ho
  rcases h.2 with ⟨rfl, _⟩ | ⟨g, cap, cur, rfl, _, hg, _⟩
  · simp [Value.ownBlock] at hj
  · have : g = j := by simpa [Value.ownBlock] using hj
    subst this
    rw [hg] at ho
    cases ho
    rfl

/-- Block W holds a writer: how many bits, and a slice of its own with their bytes; neither lies in S. -/
def Wr (w : World) (S : Nat → Prop) (W : Nat) (l : List Bool) : Prop :=
  ∃ v, w.heap[W]? = some (.cells #[.int .i64 (l.length : Int), v] 100 (0, 0)) ∧ w.ownsRow 0 5 1 v (pack l).length (bc (pack l)) ∧ ¬ S W ∧ ∀ g, v.ownBlock = some g → ¬ S g

theorem row_ne {w : World} {W : Nat} {t : TypeId} {cs : Array Value} (hW : w.heap[W]? = some (.cells cs t (0, 0))) (ht : t ≠ 5) {v : Value} {n : Nat} {xs : List Value} (h : w.ownsRow 0 5 1 v n xs) : ∀ g, v.ownBlock = some g → g ≠ W := by
  rintro g hg rfl
  rcases h.2 with ⟨rfl, _⟩ | ⟨g', cap, cur, rfl, _, hh, _⟩
  · simp [Value.ownBlock] at hg
  · have : g' = g := by simpa [Value.ownBlock] using hg
    subst this
    rw [hW] at hh
    simp at hh
    exact ht hh.2

theorem heap_set_same (w : World) (g i : Nat) (u : Value) (t : TypeId) (cs : Array Value) (h : w.heap[g]? = some (.cells cs t (0, 0))) :
    (w.setCell ⟨g, i, none⟩ u).heap[g]? = some (.cells (cs.setIfInBounds i u) t (0, 0)) := by
  simp [World.setCell, Array.getElem?_modify, h]

/-- A byte is set, and the length: the writer holds a bit more. -/
theorem Wr.step {w : World} {S : Nat → Prop} {W g cap : Nat} {l : List Bool} {b : Bool} {x : Nat}
    (hW : w.heap[W]? = some (.cells #[.int .i64 (l.length : Int), .slice (some ⟨g, 0, none⟩) (l.length / 8 + 1) cap] 100 (0, 0)))
    (ho : w.ownsRow 0 5 1 (.slice (some ⟨g, 0, none⟩) (l.length / 8 + 1) cap) (pad l).length (bc (pad l))) (hS : ¬ S W) (hg : ¬ S g)
    (hx : x = byteAt l (l.length / 8) + b.toNat * 2 ^ (7 - l.length % 8)) :
    Wr ((w.setCell ⟨g, l.length / 8, none⟩ (.int .u8 (x : Int))).setCell ⟨W, 0, none⟩ (.int .i64 ((l.length : Int) + 1))) S W (l ++ [b]) := by
  have hne : g ≠ W := row_ne hW (by decide) ho g rfl
  refine ⟨.slice (some ⟨g, 0, none⟩) (l.length / 8 + 1) cap, ?_, ?_, hS, ?_⟩
  · rw [heap_set_same _ _ _ _ 100 _ ((Below.heap_setCell _ _ _ _ (fun e => hne e.symm)).trans hW)]
    simp
  · have hl : (pack (l ++ [b])).length = l.length / 8 + 1 := by rw [pack_snoc]; simp [pad_length]
    rw [hl]
    refine ⟨by rw [bc_length, hl]; omega, .inr ?_⟩
    rcases ho.2 with ⟨h, _⟩ | ⟨g', cap', cur, hv, _, hh, h1, h2, h3, h4⟩
    · cases h
    · simp only [Value.slice.injEq, Option.some.injEq, Addr.mk.injEq, and_true] at hv
      obtain ⟨rfl, hn, rfl⟩ := hv
      refine ⟨g, cap, cur.setIfInBounds (l.length / 8) (.int .u8 (x : Int)), rfl, Nat.zero_le _, ?_, ?_, h2, ?_, ?_⟩
      · rw [Below.heap_setCell _ _ _ _ hne]
        exact heap_set_same _ _ _ _ _ _ hh
      · rw [pad_length] at h1; exact h1
      · simpa using h3
      · rw [Array.toList_setIfInBounds, List.take_set, pack_snoc, bc_set, ← hx]
        rw [pad_length] at h4
        rw [h4]
  · intro g' e
    have : g = g' := by simpa [Value.ownBlock] using e
    subst this
    exact hg
end Go.Proofs.Ytgibbokhdfblmaa
