/- Words for memory: what a call keeps, slices that read as bytes, numbers or ints, rows of the call's own; no condition but those that each fact names. -/
import Derived.Test.YtjogccpnhcnedaaRows
import Derived.WalkKit
import Derived.WalkSpells
import Derived.RangeFuncBox
import Derived.WalkLawsBesides
import Derived.Deep.QuietTactic
import Derived.BigQuiet
import Derived.BigRegion
import Derived.Lib.Hide
import Derived.Deep.AppendLies
import Derived.IntWalk
import Derived.Deep.RegionLaw
import Derived.RangeFuncNested
import Derived.RangeFuncBound
import Derived.RangeFuncCalls
import Derived.RangeFuncLeaves
import Derived.Shelf.Abstract
import Derived.Shelf.RegionOpen
import Derived.OwnWalkIn
import Derived.TacticsInMore
import Derived.LoopNIn
import Derived.LoopIn
import Derived.Deep.RegionHeld3
import Derived.Laws.AppendOwnNone
import Derived.Lib.SmallJoins
import Derived.ProofKit
import Derived.OpenShut
import Derived.ShutString
import Derived.ChangeOld
namespace Go.Proofs.Ytjogccpnhcnedaa
set_option maxRecDepth 100000
set_option linter.unusedVariables false
open Go.RowKit Go.Shelf

/-- Cells of bytes. -/
def bc (bs : List Nat) : List Value := bs.map fun (x : Nat) => Value.int .u8 (x : Int)
theorem bc_length (bs : List Nat) : (bc bs).length = bs.length := by simp [bc]
theorem bc_append (a b : List Nat) : bc (a ++ b) = bc a ++ bc b := by simp [bc]
theorem bc_set (a : List Nat) (k x : Nat) : bc (a.set k x) = (bc a).set k (.int .u8 (x : Int)) := by simp [bc, List.map_set]
theorem bc_get (bs : List Nat) (k : Nat) (h : k < bs.length) : (bc bs)[k]? = some (.int .u8 ((bs[k]?.getD 0 : Nat) : Int)) := by
  simp [bc, List.getElem?_map, List.getElem?_eq_getElem h]
/-- A slice that reads as bytes, below a block. -/
def Rd (w : World) (B : Nat) (A : Option Addr) (bs : List Nat) : Prop :=
  bs = [] ∨ ∃ b off, A = some ⟨b, off, none⟩ ∧ b < B ∧ ∀ i, i < bs.length → w.cell? ⟨b, off + i, none⟩ = some (.int .u8 ((bs[i]?.getD 0 : Nat) : Int))
theorem Rd.keep {w w' : World} {B B' : Nat} {A : Option Addr} {bs : List Nat} (h : Rd w B A bs) (hB : B ≤ B') (hk : ∀ k, k < B → w'.heap[k]? = w.heap[k]?) : Rd w' B' A bs := by
  rcases h with h | ⟨b, off, e, hb, hc⟩
  · exact .inl h
  · exact .inr ⟨b, off, e, by omega, fun i hi => (World.cell?_of_block (w := w) (a := ⟨b, off + i, none⟩) (hk b hb)).trans (hc i hi)⟩
theorem Rd.below {w w' : World} {B B' : Nat} {A : Option Addr} {bs : List Nat} (h : Rd w B A bs) (hb : Below B w w') (hB : B ≤ B') : Rd w' B' A bs := h.keep hB hb.block
theorem Rd.nil (w : World) (B : Nat) (A : Option Addr) : Rd w B A [] := .inl rfl
/-- What lies in the blocks of S lies as it lay; so does whatever is no cells; the streams are as they were. -/
structure Fr (S : Nat → Prop) (w w' : World) : Prop where
  os : w'.os = w.os
  tape : w'.tape = w.tape
  output : w'.output = w.output
  size : w.heap.size ≤ w'.heap.size
  block : ∀ k, S k → w'.heap[k]? = w.heap[k]?
  same : ∀ (k : Nat) (o : Obj), w.heap[k]? = some o → o.isCells = false → w'.heap[k]? = some o
theorem Fr.refl (S : Nat → Prop) (w : World) : Fr S w w := ⟨rfl, rfl, rfl, Nat.le_refl _, fun _ _ => rfl, fun _ _ h _ => h⟩
theorem Fr.trans {S : Nat → Prop} {a b c : World} (h : Fr S a b) (k : Fr S b c) : Fr S a c :=
  ⟨k.os.trans h.os, k.tape.trans h.tape, k.output.trans h.output, Nat.le_trans h.size k.size, fun i hi => (k.block i hi).trans (h.block i hi), fun i o hi ho => k.same i o (h.same i o hi ho) ho⟩
theorem Fr.drew {S : Nat → Prop} {a w : World} (h : Fr S a w) : Fr S a w.drew := ⟨h.os, h.tape, h.output, h.size, h.block, h.same⟩
theorem Fr.setCell {S : Nat → Prop} {a w : World} (h : Fr S a w) {p : Addr} (hp : ¬ S p.block) (u : Value) : Fr S a (w.setCell p u) :=
  h.trans ⟨rfl, rfl, rfl, by simp [World.setCell], fun k hk => Below.heap_setCell _ _ _ _ (fun e => hp (e ▸ hk)), (KeepsOthers.setCell w p u).same⟩
theorem Fr.alloc {S : Nat → Prop} {a w : World} (h : Fr S a w) (hS : ∀ k, S k → k < w.heap.size) (o : Obj) : Fr S a (w.alloc o) :=
  h.trans ⟨rfl, rfl, rfl, by simp, fun k hk => Below.heap_alloc _ _ _ (hS k hk), (KeepsOthers.alloc w o).same⟩
theorem Fr.grown {S : Nat → Prop} {a w w' : World} {row : Option Nat} (h : Fr S a w) (hg : w.grownBy w' row) (hS : ∀ k, S k → k < w.heap.size) (hr : ∀ k, row = some k → ¬ S k)
    (hc : ∀ (j : Nat) (o : Obj), row = some j → w.heap[j]? = some o → o.isCells = true) : Fr S a w' :=
  h.trans ⟨hg.os, hg.tape, hg.output, hg.size, fun k hk => hg.block k (hS k hk) (fun e => hr k e.symm hk), (KeepsOthers.of_grownBy hg hc).same⟩
theorem Fr.below {w w' : World} {B : Nat} {S : Nat → Prop} (h : Fr S w w') (hB : ∀ k, k < B → S k) : Below B w w' := ⟨h.os, h.tape, h.output, h.size, fun k hk => h.block k (hB k hk)⟩
theorem Fr.others {S : Nat → Prop} {w w' : World} (h : Fr S w w') : KeepsOthers w w' := ⟨h.size, h.same⟩
theorem Fr.mono {S S' : Nat → Prop} {w w' : World} (h : Fr S w w') (hs : ∀ k, S' k → S k) : Fr S' w w' := ⟨h.os, h.tape, h.output, h.size, fun k hk => h.block k (hs k hk), h.same⟩
theorem own_cells {w : World} {base : Nat} {e : TypeId} {size n : Nat} {v : Value} {xs : List Value} (h : w.ownsRow base e size v n xs) :
    ∀ (j : Nat) (o : Obj), v.ownBlock = some j → w.heap[j]? = some o → o.isCells = true := by
  intro j o hj ho
  rcases h.2 with ⟨rfl, _⟩ | ⟨g, cap, cur, rfl, _, hg, _⟩
  · simp [Value.ownBlock] at hj
  · have : g = j := by simpa [Value.ownBlock] using hj
    subst this
    rw [hg] at ho
    cases ho
    rfl
theorem row_ne {w : World} {W : Nat} {t : TypeId} {cs : Array Value} (hW : w.heap[W]? = some (.cells cs t (0, 0))) (ht : t ≠ 5) {v : Value} {n : Nat} {xs : List Value} (h : w.ownsRow 0 5 1 v n xs) : ∀ g, v.ownBlock = some g → g ≠ W := by
  rintro g hg rfl
  rcases h.2 with ⟨rfl, _⟩ | ⟨g', cap, cur, rfl, _, hh, _⟩
  · simp [Value.ownBlock] at hg
  · have : g' = g := by simpa [Value.ownBlock] using hg
    subst this
    rw [hW] at hh
    simp at hh
    exact ht hh.2
theorem heap_set_same (w : World) (g i : Nat) (u : Value) (t : TypeId) (cs : Array Value) (h : w.heap[g]? = some (.cells cs t (0, 0))) :
    (w.setCell ⟨g, i, none⟩ u).heap[g]? = some (.cells (cs.setIfInBounds i u) t (0, 0)) := by
  simp [World.setCell, Array.getElem?_modify, h]
theorem bc_one (bs : List Nat) : ∀ u ∈ bc bs, u.oneCell' = true := by
  intro u hu
  simp only [bc, List.mem_map] at hu
  obtain ⟨x, _, rfl⟩ := hu
  rfl
theorem news_of {w W : World} {b off : Nat} {bs : List Nat} (hb : b < w.heap.size) (hk : ∀ k, k < w.heap.size → W.heap[k]? = w.heap[k]?)
    (hc : ∀ i, i < bs.length → w.cell? ⟨b, off + i, none⟩ = some (.int .u8 ((bs[i]?.getD 0 : Nat) : Int))) :
    ∀ j u, (bc bs)[j]? = some u → W.cell? ((⟨b, off, none⟩ : Addr).add j) = some u := by
  intro j u hu
  have hj : j < bs.length := by
    rcases Nat.lt_or_ge j bs.length with h | h
    · exact h
    · rw [List.getElem?_eq_none (by rw [bc_length]; exact h)] at hu; cases hu
  rw [bc_get bs j hj] at hu
  cases hu
  have ha : (⟨b, off, none⟩ : Addr).add j = ⟨b, off + j, none⟩ := by unfold Addr.add; split <;> simp_all
  rw [ha]
  exact (World.cell?_of_block (w := w) (a := ⟨b, off + j, none⟩) (hk b hb)).trans (hc j hj)
theorem old_cells {B : Nat} {W w1 : World} (h : Below B W w1) : (∀ b o, b < B → w1.cell? ⟨b, o, none⟩ = W.cell? ⟨b, o, none⟩) ∧ (∀ b o, b < B → w1.frozen? ⟨b, o, none⟩ = W.frozen? ⟨b, o, none⟩) :=
  ⟨fun b o hb => h.cell (p := ⟨b, o, none⟩) hb, fun b o hb => h.frozen (p := ⟨b, o, none⟩) hb⟩
/-- A row of the call's own reads as its bytes. -/
theorem own_rd {w : World} {base : Nat} {A : Option Addr} {n c : Nat} {bs : List Nat} (h : w.ownsRow base 5 1 (.slice A n c) n (bc bs)) : Rd w w.heap.size A bs := by
  rcases h.2 with ⟨e, h0⟩ | ⟨g, cap, cur, e, _, hg, _⟩
  · have := h.1
    rw [bc_length, h0] at this
    exact .inl (List.eq_nil_of_length_eq_zero (by omega))
  · simp only [Value.slice.injEq] at e
    obtain ⟨rfl, _, _⟩ := e
    refine .inr ⟨g, 0, rfl, (Array.getElem?_eq_some_iff.1 hg).1, fun i hi => ?_⟩
    have hh := h.cells (g := g) rfl i _ (bc_get bs i hi)
    have ha : (⟨g, 0, none⟩ : Addr).add i = ⟨g, 0 + i, none⟩ := by unfold Addr.add; split <;> simp_all
    rw [ha] at hh
    exact hh
theorem own_slice {w : World} {base : Nat} {v : Value} {n : Nat} {xs : List Value} (h : w.ownsRow base 5 1 v n xs) : ∃ A c, v = .slice A n c := by
  rcases h.2 with ⟨rfl, rfl⟩ | ⟨g, cap, cur, rfl, _⟩
  · exact ⟨none, 0, rfl⟩
  · exact ⟨_, cap, rfl⟩
theorem blk_cells {w : World} {W : Nat} {t : TypeId} {a v : Value} (hW : w.heap[W]? = some (.cells #[a, v] t (0, 0))) :
    w.cell? ⟨W, 0, none⟩ = some a ∧ w.cell? ⟨W, 1, none⟩ = some v ∧ w.frozen? ⟨W, 0, none⟩ = false ∧ w.frozen? ⟨W, 1, none⟩ = false := by
  simp [World.cell?, World.frozen?, hW]
theorem one_below (w : World) (o : Obj) : Below w.heap.size w (w.alloc o) := (Below.refl _ w).alloc (Nat.le_refl _) _
theorem box_own {β : Type} (B : Nat) (t : TypeId) (f : β → Value) : Own (fun (s : β) X => Boxed X B t (f s)) := by
  rintro s X Y row h hgr hrow
  refine h.kept hgr (fun e => ?_)
  obtain ⟨o, h1, h2⟩ := hrow B e.symm
  rw [show X.heap[B]? = _ from h] at h1; cases h1; cases h2
theorem four (w : World) (a b c d : Obj) : (((((w.alloc a).alloc b).alloc c).alloc d).heap.size = w.heap.size + 4) ∧
    ((((w.alloc a).alloc b).alloc c).alloc d).heap[w.heap.size]? = some a ∧ ((((w.alloc a).alloc b).alloc c).alloc d).heap[w.heap.size + 1]? = some b ∧
    ((((w.alloc a).alloc b).alloc c).alloc d).heap[w.heap.size + 2]? = some c ∧ ((((w.alloc a).alloc b).alloc c).alloc d).heap[w.heap.size + 3]? = some d := by
  have n0 := World.alloc_heap_new w a
  have n1 := World.alloc_heap_new (w.alloc a) b
  have n2 := World.alloc_heap_new ((w.alloc a).alloc b) c
  have n3 := World.alloc_heap_new (((w.alloc a).alloc b).alloc c) d
  simp only [World.size_alloc] at n1 n2 n3
  refine ⟨by simp only [World.size_alloc], ?_, ?_, ?_, n3⟩
  · rw [Below.heap_alloc _ _ _ (by simp only [World.size_alloc]; omega), Below.heap_alloc _ _ _ (by simp only [World.size_alloc]; omega), Below.heap_alloc _ _ _ (by simp only [World.size_alloc]; omega)]; exact n0
  · rw [Below.heap_alloc _ _ _ (by simp only [World.size_alloc]; omega), Below.heap_alloc _ _ _ (by simp only [World.size_alloc]; omega)]; exact n1
  · rw [Below.heap_alloc _ _ _ (by simp only [World.size_alloc]; omega)]; exact n2
theorem fr_own {β : Type} (S : Nat → Prop) (w : World) (B : Nat) (hB : w.heap.size ≤ B) (hS : ∀ k, S k → k < B) : OwnFrom B (fun (_ : β) X => Fr S w X ∧ B ≤ X.heap.size) := by
  rintro s X Y row ⟨h, hz⟩ hgr hrow
  have hk : ∀ k, k < B → Y.heap[k]? = X.heap[k]? := fun k hk => hgr.block k (by omega) (fun e => by have := (hrow k e.symm).1; omega)
  refine ⟨⟨hgr.os.trans h.os, hgr.tape.trans h.tape, hgr.output.trans h.output, Nat.le_trans h.size hgr.size, fun k hs => (hk k (hS k hs)).trans (h.block k hs), fun k o ho hc => ?_⟩, Nat.le_trans hz hgr.size⟩
  have : k < w.heap.size := (Array.getElem?_eq_some_iff.1 ho).1
  exact (hk k (by omega)).trans (h.same k o ho hc)
theorem fr_put {S : Nat → Prop} {w X : World} {B D : Nat} {o o' : Obj} (h : Fr S w X) (hB : w.heap.size ≤ B) (hS : ∀ k, S k → k < B) (hD : B ≤ D) (_ : X.heap[D]? = some o) : Fr S w (X.putObj D o') :=
  ⟨h.os, h.tape, h.output, by rw [World.putObj_size]; exact h.size, fun k hs => (World.putObj_heap_other (by have := hS k hs; omega)).trans (h.block k hs), fun k p hp hc =>
    (World.putObj_heap_other (by have : k < w.heap.size := (Array.getElem?_eq_some_iff.1 hp).1; omega)).trans (h.same k p hp hc)⟩
theorem box_cell {w : World} {B : Nat} {t : TypeId} {v : Value} (h : w.heap[B]? = some (.cells #[v] t (0, 0))) : w.cell? ⟨B, 0, none⟩ = some v := by simp [World.cell?, h]
/-- Five blocks, as addBits lays them. -/
theorem five (w : World) (a b c d e : Obj) : ((((((w.alloc a).alloc b).alloc c).alloc d).alloc e).heap.size = w.heap.size + 5) ∧
    (((((w.alloc a).alloc b).alloc c).alloc d).alloc e).heap[w.heap.size]? = some a ∧ (((((w.alloc a).alloc b).alloc c).alloc d).alloc e).heap[w.heap.size + 2]? = some c ∧
    (((((w.alloc a).alloc b).alloc c).alloc d).alloc e).heap[w.heap.size + 3]? = some d ∧ (((((w.alloc a).alloc b).alloc c).alloc d).alloc e).heap[w.heap.size + 4]? = some e := by
  have n0 := World.alloc_heap_new w a
  have n2 := World.alloc_heap_new ((w.alloc a).alloc b) c
  have n3 := World.alloc_heap_new (((w.alloc a).alloc b).alloc c) d
  have n4 := World.alloc_heap_new ((((w.alloc a).alloc b).alloc c).alloc d) e
  simp only [World.size_alloc] at n2 n3 n4
  refine ⟨by simp only [World.size_alloc], ?_, ?_, ?_, n4⟩
  · rw [Below.heap_alloc _ _ _ (by simp only [World.size_alloc]; omega), Below.heap_alloc _ _ _ (by simp only [World.size_alloc]; omega), Below.heap_alloc _ _ _ (by simp only [World.size_alloc]; omega), Below.heap_alloc _ _ _ (by simp only [World.size_alloc]; omega)]; exact n0
  · rw [Below.heap_alloc _ _ _ (by simp only [World.size_alloc]; omega), Below.heap_alloc _ _ _ (by simp only [World.size_alloc]; omega)]; exact n2
  · rw [Below.heap_alloc _ _ _ (by simp only [World.size_alloc]; omega)]; exact n3
theorem Rd.on {w V : World} {A : Option Addr} {bs : List Nat} (h : Rd w w.heap.size A bs) (hb : Below w.heap.size w V) : Rd V V.heap.size A bs := h.below hb hb.size
theorem lt256 {bs : List Nat} (h : bs.all (fun b => decide (b < 256)) = true) : ∀ b ∈ bs, b < 256 := by
  intro b hb
  have := List.all_eq_true.1 h b hb
  simpa using this
/-- A literal of bytes. -/
theorem rd_lit1 (w : World) (x : Nat) : Rd (w.alloc (.cells #[.int .u8 (x : Int)] 5)) (w.alloc (.cells #[.int .u8 (x : Int)] 5)).heap.size (some ⟨w.heap.size, 0, none⟩) [x] := by
  refine .inr ⟨w.heap.size, 0, rfl, by simp, fun i hi => ?_⟩
  have e := World.alloc_heap_new w (.cells #[.int .u8 (x : Int)] 5)
  have hi0 : i = 0 := by simp at hi; exact hi
  subst hi0
  exact box_cell e
theorem rd_lit2 (w : World) (x y : Nat) : Rd (w.alloc (.cells #[.int .u8 (x : Int), .int .u8 (y : Int)] 5)) (w.alloc (.cells #[.int .u8 (x : Int), .int .u8 (y : Int)] 5)).heap.size (some ⟨w.heap.size, 0, none⟩) [x, y] := by
  refine .inr ⟨w.heap.size, 0, rfl, by simp, fun i hi => ?_⟩
  have e := World.alloc_heap_new w (.cells #[.int .u8 (x : Int), .int .u8 (y : Int)] 5)
  have hi0 : i = 0 ∨ i = 1 := by simp at hi; omega
  rcases hi0 with rfl | rfl
  · exact (blk_cells e).1
  · exact (blk_cells e).2.1
attribute [local go_sem] Oper.semAt_some

/-- What lies in the blocks of Q lies as it lay. -/
def KeepQ (Q : Nat → Prop) (W W' : World) : Prop := ∀ k, Q k → W'.heap[k]? = W.heap[k]?
theorem keepQ_t {Q : Nat → Prop} {A B C : World} (h : KeepQ Q A B) (k : KeepQ Q B C) : KeepQ Q A C := fun i hi => (k i hi).trans (h i hi)
theorem keepQ_b {Q : Nat → Prop} {w : World} (hn : ∀ k, Q k → k < w.heap.size) (W : World) (l : Nat) (o o' : Obj) (hl : w.heap.size ≤ l) (_ : W.heap[l]? = some o) (_ : o.isCells = false) (_ : o.isWalk = false) : KeepQ Q W (W.putObj l o') :=
  fun k hk => World.putObj_heap_other (by have := hn k hk; omega)
/-- What a visit of the 1 bits wants kept. -/
def KeepS (Q : Nat → Prop) (W W' : World) : Prop := KeepQ Q W W' ∧ W.heap.size ≤ W'.heap.size
theorem keepS_t {Q : Nat → Prop} {A B C : World} (h : KeepS Q A B) (k : KeepS Q B C) : KeepS Q A C := ⟨keepQ_t h.1 k.1, Nat.le_trans h.2 k.2⟩
theorem keepS_b {Q : Nat → Prop} {w : World} (hn : ∀ k, Q k → k < w.heap.size) (W : World) (l : Nat) (o o' : Obj) (hl : w.heap.size ≤ l) (h : W.heap[l]? = some o) (h1 : o.isCells = false) (h2 : o.isWalk = false) : KeepS Q W (W.putObj l o') :=
  ⟨keepQ_b hn W l o o' hl h h1 h2, by simp⟩
/-- A slice that reads as values, below a block. -/
def RdV (w : World) (B : Nat) (A : Option Addr) (vs : List Value) : Prop :=
  vs = [] ∨ ∃ b off, A = some ⟨b, off, none⟩ ∧ b < B ∧ ∀ i v, vs[i]? = some v → w.cell? ⟨b, off + i, none⟩ = some v
theorem RdV.keep {w w' : World} {B B' : Nat} {A : Option Addr} {vs : List Value} (h : RdV w B A vs) (hB : B ≤ B') (hk : ∀ k, k < B → w'.heap[k]? = w.heap[k]?) : RdV w' B' A vs := by
  rcases h with h | ⟨b, off, e, hb, hc⟩
  · exact .inl h
  · exact .inr ⟨b, off, e, by omega, fun i v hi => (World.cell?_of_block (w := w) (a := ⟨b, off + i, none⟩) (hk b hb)).trans (hc i v hi)⟩
theorem RdV.below {w w' : World} {B B' : Nat} {A : Option Addr} {vs : List Value} (h : RdV w B A vs) (hb : Below B w w') (hB : B ≤ B') : RdV w' B' A vs := h.keep hB hb.block
theorem RdV.on {w V : World} {A : Option Addr} {vs : List Value} (h : RdV w w.heap.size A vs) (hb : Below w.heap.size w V) : RdV V V.heap.size A vs := h.below hb hb.size
theorem RdV.at_ {w : World} {B : Nat} {A : Option Addr} {vs : List Value} (h : RdV w B A vs) {i : Nat} {v : Value} (hi : vs[i]? = some v) : ∃ b off, A = some ⟨b, off, none⟩ ∧ b < B ∧ w.cell? ⟨b, off + i, none⟩ = some v := by
  rcases h with h | ⟨b, off, e, hb, hc⟩
  · rw [h] at hi; simp at hi
  · exact ⟨b, off, e, hb, hc i v hi⟩
/-- Cells of numbers. -/
def nc (ns : List Nat) : List Value := ns.map fun (x : Nat) => Value.int .u64 (x : Int)
theorem nc_length (ns : List Nat) : (nc ns).length = ns.length := by simp [nc]
theorem nc_get (ns : List Nat) (i : Nat) (h : i < ns.length) : (nc ns)[i]? = some (.int .u64 ((ns[i]?.getD 0 : Nat) : Int)) := by
  simp [nc, List.getElem?_map, List.getElem?_eq_getElem h]
theorem nc_append (a b : List Nat) : nc (a ++ b) = nc a ++ nc b := by simp [nc]
theorem take_snoc (ns : List Nat) (i : Nat) (h : i < ns.length) : ns.take (i + 1) = ns.take i ++ [ns[i]?.getD 0] := by
  rw [List.take_succ_eq_append_getElem h, List.getElem?_eq_getElem h]; rfl
theorem grown_trans {a b c : World} {row : Option Nat} (h : a.grownBy b row) (k : b.grownBy c row) : a.grownBy c row :=
  ⟨k.os.trans h.os, k.tape.trans h.tape, k.output.trans h.output, Nat.le_trans h.size k.size, fun i hi hr => (k.block i (Nat.lt_of_lt_of_le hi h.size) hr).trans (h.block i hi hr)⟩
theorem grown_of_below {w w' : World} (h : Below w.heap.size w w') (row : Option Nat) : w.grownBy w' row := ⟨h.os, h.tape, h.output, h.size, fun k hk _ => h.block k hk⟩
theorem grown_set (w : World) (K i : Nat) (u : Value) : w.grownBy (w.setCell ⟨K, i, none⟩ u) (some K) :=
  ⟨rfl, rfl, rfl, by simp [World.setCell], fun k _ hk => Below.heap_setCell _ _ _ _ (fun e => hk (by rw [e]))⟩
theorem up2 (w : World) (o p : Obj) : Below w.heap.size w ((w.alloc o).alloc p) := ((Below.refl _ w).alloc (Nat.le_refl _) _).alloc (by simp) _
/-- One number, in a slice of its own. -/
theorem rdv_lit1 (w : World) (n : Nat) : RdV (w.alloc (.cells #[.int .u64 (n : Int)] 22)) (w.alloc (.cells #[.int .u64 (n : Int)] 22)).heap.size (some ⟨w.heap.size, 0, none⟩) (nc [n]) := by
  refine .inr ⟨w.heap.size, 0, rfl, by simp, fun i v hi => ?_⟩
  have e := World.alloc_heap_new w (.cells #[.int .u64 (n : Int)] 22)
  rcases Nat.eq_zero_or_pos i with rfl | h
  · simp [nc] at hi
    subst hi
    exact box_cell e
  · rw [List.getElem?_eq_none (by rw [nc_length]; simp; omega)] at hi; cases hi
theorem rdv_lit2 (w : World) (a b : Nat) : RdV (w.alloc (.cells #[.int .u64 (a : Int), .int .u64 (b : Int)] 22)) (w.alloc (.cells #[.int .u64 (a : Int), .int .u64 (b : Int)] 22)).heap.size (some ⟨w.heap.size, 0, none⟩) (nc [a, b]) := by
  refine .inr ⟨w.heap.size, 0, rfl, by simp, fun i v hi => ?_⟩
  have e := World.alloc_heap_new w (.cells #[.int .u64 (a : Int), .int .u64 (b : Int)] 22)
  rcases (show i = 0 ∨ i = 1 ∨ 2 ≤ i by omega) with rfl | rfl | h
  · simp [nc] at hi; subst hi; exact (blk_cells e).1
  · simp [nc] at hi; subst hi; exact (blk_cells e).2.1
  · rw [List.getElem?_eq_none (by rw [nc_length]; simp; omega)] at hi; cases hi
theorem own_slice25 {w : World} {base : Nat} {v : Value} {n : Nat} {xs : List Value} (h : w.ownsRow base 22 1 v n xs) : ∃ A c, v = .slice A n c := by
  rcases h.2 with ⟨rfl, rfl⟩ | ⟨g, cap, cur, rfl, _⟩
  · exact ⟨none, 0, rfl⟩
  · exact ⟨_, cap, rfl⟩
theorem info25 : (Try.prog.info? 22).map (fun i => (i.zero, i.size, i.bytes)) = some (some (.int .u64 0), 1, 8) := by kernel_rfl
theorem own_rdv {w : World} {base : Nat} {e : TypeId} {A : Option Addr} {n c : Nat} {vs : List Value} (h : w.ownsRow base e 1 (.slice A n c) n vs) : RdV w w.heap.size A vs := by
  rcases h.2 with ⟨_, h0⟩ | ⟨g, cap, cur, he, _, hg, _⟩
  · have := h.1
    rw [h0] at this
    exact .inl (List.eq_nil_of_length_eq_zero (by omega))
  · simp only [Value.slice.injEq] at he
    obtain ⟨rfl, _, _⟩ := he
    refine .inr ⟨g, 0, rfl, (Array.getElem?_eq_some_iff.1 hg).1, fun i v hi => ?_⟩
    have hh := h.cells (g := g) rfl i v hi
    have ha : (⟨g, 0, none⟩ : Addr).add i = ⟨g, 0 + i, none⟩ := by unfold Addr.add; split <;> simp_all
    rw [ha] at hh
    exact hh
theorem row_ne25 {w : World} {W : Nat} {t : TypeId} {cs : Array Value} {base : Nat} (hW : w.heap[W]? = some (.cells cs t (0, 0))) (ht : t ≠ 22) {v : Value} {n : Nat} {xs : List Value} (h : w.ownsRow base 22 1 v n xs) : ∀ g, v.ownBlock = some g → g ≠ W := by
  rintro g hg rfl
  rcases h.2 with ⟨rfl, _⟩ | ⟨g', cap, cur, rfl, _, hh, _⟩
  · simp [Value.ownBlock] at hg
  · have : g' = g := by simpa [Value.ownBlock] using hg
    subst this
    rw [hW] at hh
    simp at hh
    exact ht hh.2
theorem own_base {w : World} {base base' : Nat} {e : TypeId} {size n : Nat} {v : Value} {xs : List Value} (h : w.ownsRow base e size v n xs) (hb : base' ≤ base) : w.ownsRow base' e size v n xs := by
  refine ⟨h.1, ?_⟩
  rcases h.2 with h | ⟨g, cap, cur, h1, h2, h3⟩
  · exact .inl h
  · exact .inr ⟨g, cap, cur, h1, by omega, h3⟩
theorem nc_one (ns : List Nat) : ∀ u ∈ nc ns, u.oneCell' = true := by
  intro u hu
  simp only [nc, List.mem_map] at hu
  obtain ⟨x, _, rfl⟩ := hu
  rfl
theorem own_cap {w : World} {base : Nat} {e : TypeId} {A : Option Addr} {n c : Nat} {xs : List Value} (h : w.ownsRow base e 1 (.slice A n c) n xs) : n ≤ c := by
  rcases h.2 with ⟨_, h0⟩ | ⟨g, cap, cur, he, _, hg, h1, h2, h3, h4⟩
  · omega
  · simp only [Value.slice.injEq] at he
    obtain ⟨_, _, rfl⟩ := he
    omega
theorem own_none {w : World} {base : Nat} {e : TypeId} {A : Option Addr} {n c size : Nat} {xs : List Value} (h : w.ownsRow base e size (.slice A n c) n xs) : A = none → c = 0 := by
  rintro rfl
  rcases h.2 with ⟨h, _⟩ | ⟨g, cap, cur, h, _⟩
  · cases h; rfl
  · cases h
end Go.Proofs.Ytjogccpnhcnedaa
