/- Texts of this proof, one behind the other; each fact names its conditions. -/
import Derived.Test.YtbddcokjkdoaaaaGreatRows
import Derived.WalkKit
import Derived.WalkSpells
import Derived.RangeFuncBox
import Derived.WalkLawsBesides
import Derived.Deep.QuietTactic
import Derived.BigQuiet
import Derived.BigRegion
import Derived.Lib.Hide
import Derived.Deep.AppendLies
import Derived.IntWalk
import Derived.Deep.RegionLaw
import Derived.RangeFuncNested
import Derived.RangeFuncBound
import Derived.RangeFuncCalls
import Derived.RangeFuncLeaves
import Derived.Shelf.Abstract
import Derived.Shelf.RegionOpen
import Derived.OwnWalkIn
import Derived.TacticsInMore
import Derived.LoopNIn
import Derived.LoopIn
namespace Go.Proofs.YtbddcokjkdoaaaaGreat
section
def bt (l : List Bool) (i : Nat) : Nat := (l[i]?.getD false).toNat
theorem bt_le (l : List Bool) (i : Nat) : bt l i ≤ 1 := by unfold bt; exact Bool.toNat_le _
theorem bt_beyond (l : List Bool) (i : Nat) (h : l.length ≤ i) : bt l i = 0 := by
  unfold bt; rw [List.getElem?_eq_none h]; rfl
theorem bt_left (l m : List Bool) (i : Nat) (h : i < l.length) : bt (l ++ m) i = bt l i := by
  unfold bt; rw [List.getElem?_append_left h]
theorem bt_right (l m : List Bool) (i : Nat) (h : l.length ≤ i) : bt (l ++ m) i = bt m (i - l.length) := by
  unfold bt; rw [List.getElem?_append_right h]
def byteAt (l : List Bool) (k : Nat) : Nat :=
  128 * bt l (8 * k) + 64 * bt l (8 * k + 1) + 32 * bt l (8 * k + 2) + 16 * bt l (8 * k + 3) + 8 * bt l (8 * k + 4) + 4 * bt l (8 * k + 5) + 2 * bt l (8 * k + 6) + bt l (8 * k + 7)
theorem byteAt_lt (l : List Bool) (k : Nat) : byteAt l k < 256 := by
  unfold byteAt
  have h0 := bt_le l (8 * k); have h1 := bt_le l (8 * k + 1); have h2 := bt_le l (8 * k + 2); have h3 := bt_le l (8 * k + 3)
  have h4 := bt_le l (8 * k + 4); have h5 := bt_le l (8 * k + 5); have h6 := bt_le l (8 * k + 6); have h7 := bt_le l (8 * k + 7)
  omega
theorem byteAt_beyond (l : List Bool) (k : Nat) (h : l.length ≤ 8 * k) : byteAt l k = 0 := by
  unfold byteAt
  rw [bt_beyond l _ (by omega), bt_beyond l _ (by omega), bt_beyond l _ (by omega), bt_beyond l _ (by omega), bt_beyond l _ (by omega), bt_beyond l _ (by omega), bt_beyond l _ (by omega), bt_beyond l _ (by omega)]
def pack (l : List Bool) : List Nat := (List.range ((l.length + 7) / 8)).map (byteAt l)
theorem pack_length (l : List Bool) : (pack l).length = (l.length + 7) / 8 := by simp [pack]
theorem pack_get (l : List Bool) (k : Nat) : (pack l)[k]?.getD 0 = byteAt l k := by
  unfold pack
  by_cases h : k < (l.length + 7) / 8
  · simp [List.getElem?_range h]
  · rw [List.getElem?_eq_none (by simp; omega)]
    rw [byteAt_beyond l k (by omega)]; rfl
theorem pack_lt (l : List Bool) : ∀ b ∈ pack l, b < 256 := by
  intro b hb
  simp only [pack, List.mem_map] at hb
  obtain ⟨k, _, rfl⟩ := hb
  exact byteAt_lt l k
theorem pack_nil : pack [] = [] := rfl
theorem bit_of_byte (l : List Bool) (i : Nat) : byteAt l (i / 8) / 2 ^ (7 - i % 8) % 2 = bt l i := by
  have h0 := bt_le l (8 * (i / 8)); have h1 := bt_le l (8 * (i / 8) + 1); have h2 := bt_le l (8 * (i / 8) + 2); have h3 := bt_le l (8 * (i / 8) + 3)
  have h4 := bt_le l (8 * (i / 8) + 4); have h5 := bt_le l (8 * (i / 8) + 5); have h6 := bt_le l (8 * (i / 8) + 6); have h7 := bt_le l (8 * (i / 8) + 7)
  have hi : i % 8 < 8 := Nat.mod_lt _ (by omega)
  have e : i = 8 * (i / 8) + i % 8 := by omega
  unfold byteAt
  generalize i / 8 = q at *
  generalize i % 8 = r at *
  subst e
  have hr : r = 0 ∨ r = 1 ∨ r = 2 ∨ r = 3 ∨ r = 4 ∨ r = 5 ∨ r = 6 ∨ r = 7 := by omega
  rcases hr with rfl | rfl | rfl | rfl | rfl | rfl | rfl | rfl <;> simp <;> omega
def pad (l : List Bool) : List Nat := if l.length % 8 = 0 then pack l ++ [0] else pack l
theorem pad_length (l : List Bool) : (pad l).length = l.length / 8 + 1 := by
  unfold pad; split <;> simp [pack_length] <;> omega
theorem pad_get (l : List Bool) (k : Nat) : (pad l)[k]?.getD 0 = byteAt l k := by
  unfold pad
  split
  · by_cases h : k < (pack l).length
    · rw [List.getElem?_append_left h, pack_get]
    · rw [List.getElem?_append_right (by omega)]
      rw [byteAt_beyond l k (by rw [pack_length] at h; omega)]
      rcases Nat.eq_zero_or_pos (k - (pack l).length) with h0 | h0
      · rw [h0]; rfl
      · rw [List.getElem?_eq_none (by simp; omega)]; rfl
  · exact pack_get l k
theorem byteAt_snoc (l : List Bool) (b : Bool) (k : Nat) :
    byteAt (l ++ [b]) k = if k = l.length / 8 then byteAt l k + b.toNat * 2 ^ (7 - l.length % 8) else byteAt l k := by
  have key : ∀ i, bt (l ++ [b]) i = bt l i + (if i = l.length then b.toNat else 0) := by
    intro i
    rcases Nat.lt_trichotomy i l.length with h | h | h
    · rw [bt_left l [b] i h, if_neg (by omega)]; rfl
    · subst h; rw [bt_right l [b] _ (Nat.le_refl _), bt_beyond l _ (Nat.le_refl _)]; simp [bt]
    · rw [bt_beyond _ _ (by simp; omega), bt_beyond l _ (by omega), if_neg (by omega)]
  unfold byteAt
  simp only [key]
  have hi : l.length % 8 < 8 := Nat.mod_lt _ (by omega)
  have e : l.length = 8 * (l.length / 8) + l.length % 8 := by omega
  generalize l.length / 8 = q at *
  generalize l.length % 8 = r at *
  rw [e]
  by_cases hk : k = q
  · subst hk
    rw [if_pos rfl]
    have hr : r = 0 ∨ r = 1 ∨ r = 2 ∨ r = 3 ∨ r = 4 ∨ r = 5 ∨ r = 6 ∨ r = 7 := by omega
    rcases hr with rfl | rfl | rfl | rfl | rfl | rfl | rfl | rfl <;> simp <;> omega
  · rw [if_neg hk]
    rw [if_neg (by omega), if_neg (by omega), if_neg (by omega), if_neg (by omega), if_neg (by omega), if_neg (by omega), if_neg (by omega), if_neg (by omega)]
    rfl
theorem list_ext_getD {a b : List Nat} (hl : a.length = b.length) (h : ∀ k : Nat, (a[k]?).getD 0 = (b[k]?).getD 0) : a = b := by
  apply List.ext_getElem hl
  intro i h1 h2
  have := h i
  rw [List.getElem?_eq_getElem h1, List.getElem?_eq_getElem h2] at this
  exact this
theorem pack_snoc (l : List Bool) (b : Bool) : pack (l ++ [b]) = (pad l).set (l.length / 8) (byteAt l (l.length / 8) + b.toNat * 2 ^ (7 - l.length % 8)) := by
  apply list_ext_getD
  · simp [pack_length, pad_length]; omega
  · intro k
    rw [pack_get, byteAt_snoc, List.getElem?_set]
    by_cases hk : k = l.length / 8
    · subst hk; rw [if_pos rfl, if_pos rfl, if_pos (by rw [pad_length]; omega)]; rfl
    · rw [if_neg hk, if_neg (fun e => hk e.symm), pad_get]
theorem byteAt_low (l : List Bool) : byteAt l (l.length / 8) % 2 ^ (8 - l.length % 8) = 0 := by
  have hz : ∀ j, l.length ≤ j → bt l j = 0 := fun j h => bt_beyond l j h
  have hi : l.length % 8 < 8 := Nat.mod_lt _ (by omega)
  have e : l.length = 8 * (l.length / 8) + l.length % 8 := by omega
  have h0 := bt_le l (8 * (l.length / 8)); have h1 := bt_le l (8 * (l.length / 8) + 1); have h2 := bt_le l (8 * (l.length / 8) + 2); have h3 := bt_le l (8 * (l.length / 8) + 3)
  have h4 := bt_le l (8 * (l.length / 8) + 4); have h5 := bt_le l (8 * (l.length / 8) + 5); have h6 := bt_le l (8 * (l.length / 8) + 6); have h7 := bt_le l (8 * (l.length / 8) + 7)
  unfold byteAt
  generalize l.length / 8 = q at *
  generalize l.length % 8 = r at *
  have z0 := hz (8 * q); have z1 := hz (8 * q + 1); have z2 := hz (8 * q + 2); have z3 := hz (8 * q + 3)
  have z4 := hz (8 * q + 4); have z5 := hz (8 * q + 5); have z6 := hz (8 * q + 6); have z7 := hz (8 * q + 7)
  clear hz
  rw [e] at z0 z1 z2 z3 z4 z5 z6 z7
  have hr : r = 0 ∨ r = 1 ∨ r = 2 ∨ r = 3 ∨ r = 4 ∨ r = 5 ∨ r = 6 ∨ r = 7 := by omega
  rcases hr with rfl | rfl | rfl | rfl | rfl | rfl | rfl | rfl <;> simp at z0 z1 z2 z3 z4 z5 z6 z7 ⊢ <;> omega
theorem lor_low : ∀ x : Fin 256, ∀ s : Fin 8, ∀ b : Bool, x.val % 2 ^ (s.val + 1) = 0 → x.val ||| (b.toNat * 2 ^ s.val) = x.val + b.toNat * 2 ^ s.val := by decide +kernel
end
section
open Go.RowKit
def bc (bs : List Nat) : List Value := bs.map fun (x : Nat) => Value.int .u8 (x : Int)
theorem bc_length (bs : List Nat) : (bc bs).length = bs.length := by simp [bc]
theorem bc_append (a b : List Nat) : bc (a ++ b) = bc a ++ bc b := by simp [bc]
theorem bc_set (a : List Nat) (k x : Nat) : bc (a.set k x) = (bc a).set k (.int .u8 (x : Int)) := by simp [bc, List.map_set]
theorem bc_get (bs : List Nat) (k : Nat) (h : k < bs.length) : (bc bs)[k]? = some (.int .u8 ((bs[k]?.getD 0 : Nat) : Int)) := by
  simp [bc, List.getElem?_map, List.getElem?_eq_getElem h]
def Rd (w : World) (B : Nat) (A : Option Addr) (bs : List Nat) : Prop :=
  bs = [] ∨ ∃ b off, A = some ⟨b, off, none⟩ ∧ b < B ∧ ∀ i, i < bs.length → w.cell? ⟨b, off + i, none⟩ = some (.int .u8 ((bs[i]?.getD 0 : Nat) : Int))
theorem Rd.keep {w w' : World} {B B' : Nat} {A : Option Addr} {bs : List Nat} (h : Rd w B A bs) (hB : B ≤ B') (hk : ∀ k, k < B → w'.heap[k]? = w.heap[k]?) : Rd w' B' A bs := by
  rcases h with h | ⟨b, off, e, hb, hc⟩
  · exact .inl h
  · exact .inr ⟨b, off, e, by omega, fun i hi => (World.cell?_of_block (w := w) (a := ⟨b, off + i, none⟩) (hk b hb)).trans (hc i hi)⟩
theorem Rd.below {w w' : World} {B B' : Nat} {A : Option Addr} {bs : List Nat} (h : Rd w B A bs) (hb : Below B w w') (hB : B ≤ B') : Rd w' B' A bs := h.keep hB hb.block
theorem Rd.nil (w : World) (B : Nat) (A : Option Addr) : Rd w B A [] := .inl rfl
structure Fr (S : Nat → Prop) (w w' : World) : Prop where
  os : w'.os = w.os
  tape : w'.tape = w.tape
  output : w'.output = w.output
  size : w.heap.size ≤ w'.heap.size
  block : ∀ k, S k → w'.heap[k]? = w.heap[k]?
  same : ∀ (k : Nat) (o : Obj), w.heap[k]? = some o → o.isCells = false → w'.heap[k]? = some o
theorem Fr.refl (S : Nat → Prop) (w : World) : Fr S w w := ⟨rfl, rfl, rfl, Nat.le_refl _, fun _ _ => rfl, fun _ _ h _ => h⟩
theorem Fr.trans {S : Nat → Prop} {a b c : World} (h : Fr S a b) (k : Fr S b c) : Fr S a c :=
  ⟨k.os.trans h.os, k.tape.trans h.tape, k.output.trans h.output, Nat.le_trans h.size k.size, fun i hi => (k.block i hi).trans (h.block i hi), fun i o hi ho => k.same i o (h.same i o hi ho) ho⟩
theorem Fr.drew {S : Nat → Prop} {a w : World} (h : Fr S a w) : Fr S a w.drew := ⟨h.os, h.tape, h.output, h.size, h.block, h.same⟩
theorem Fr.setCell {S : Nat → Prop} {a w : World} (h : Fr S a w) {p : Addr} (hp : ¬ S p.block) (u : Value) : Fr S a (w.setCell p u) :=
  h.trans ⟨rfl, rfl, rfl, by simp [World.setCell], fun k hk => Below.heap_setCell _ _ _ _ (fun e => hp (e ▸ hk)), (KeepsOthers.setCell w p u).same⟩
theorem Fr.alloc {S : Nat → Prop} {a w : World} (h : Fr S a w) (hS : ∀ k, S k → k < w.heap.size) (o : Obj) : Fr S a (w.alloc o) :=
  h.trans ⟨rfl, rfl, rfl, by simp, fun k hk => Below.heap_alloc _ _ _ (hS k hk), (KeepsOthers.alloc w o).same⟩
theorem Fr.grown {S : Nat → Prop} {a w w' : World} {row : Option Nat} (h : Fr S a w) (hg : w.grownBy w' row) (hS : ∀ k, S k → k < w.heap.size) (hr : ∀ k, row = some k → ¬ S k)
    (hc : ∀ (j : Nat) (o : Obj), row = some j → w.heap[j]? = some o → o.isCells = true) : Fr S a w' :=
  h.trans ⟨hg.os, hg.tape, hg.output, hg.size, fun k hk => hg.block k (hS k hk) (fun e => hr k e.symm hk), (KeepsOthers.of_grownBy hg hc).same⟩
theorem Fr.below {w w' : World} {B : Nat} {S : Nat → Prop} (h : Fr S w w') (hB : ∀ k, k < B → S k) : Below B w w' := ⟨h.os, h.tape, h.output, h.size, fun k hk => h.block k (hB k hk)⟩
theorem Fr.others {S : Nat → Prop} {w w' : World} (h : Fr S w w') : KeepsOthers w w' := ⟨h.size, h.same⟩
theorem Fr.mono {S S' : Nat → Prop} {w w' : World} (h : Fr S w w') (hs : ∀ k, S' k → S k) : Fr S' w w' := ⟨h.os, h.tape, h.output, h.size, fun k hk => h.block k (hs k hk), h.same⟩
theorem own_cells {w : World} {base : Nat} {e : TypeId} {size n : Nat} {v : Value} {xs : List Value} (h : w.ownsRow base e size v n xs) :
    ∀ (j : Nat) (o : Obj), v.ownBlock = some j → w.heap[j]? = some o → o.isCells = true := by
  intro j o hj ho
  rcases h.2 with ⟨rfl, _⟩ | ⟨g, cap, cur, rfl, _, hg, _⟩
  · simp [Value.ownBlock] at hj
  · have : g = j := by simpa [Value.ownBlock] using hj
    subst this
    rw [hg] at ho
    cases ho
    rfl
def Wr (w : World) (S : Nat → Prop) (W : Nat) (l : List Bool) : Prop :=
  ∃ v, w.heap[W]? = some (.cells #[.int .i64 (l.length : Int), v] 106 (0, 0)) ∧ w.ownsRow 0 5 1 v (pack l).length (bc (pack l)) ∧ ¬ S W ∧ ∀ g, v.ownBlock = some g → ¬ S g
theorem row_ne {w : World} {W : Nat} {t : TypeId} {cs : Array Value} (hW : w.heap[W]? = some (.cells cs t (0, 0))) (ht : t ≠ 5) {v : Value} {n : Nat} {xs : List Value} (h : w.ownsRow 0 5 1 v n xs) : ∀ g, v.ownBlock = some g → g ≠ W := by
  rintro g hg rfl
  rcases h.2 with ⟨rfl, _⟩ | ⟨g', cap, cur, rfl, _, hh, _⟩
  · simp [Value.ownBlock] at hg
  · have : g' = g := by simpa [Value.ownBlock] using hg
    subst this
    rw [hW] at hh
    simp at hh
    exact ht hh.2
theorem heap_set_same (w : World) (g i : Nat) (u : Value) (t : TypeId) (cs : Array Value) (h : w.heap[g]? = some (.cells cs t (0, 0))) :
    (w.setCell ⟨g, i, none⟩ u).heap[g]? = some (.cells (cs.setIfInBounds i u) t (0, 0)) := by
  simp [World.setCell, Array.getElem?_modify, h]
theorem Wr.step {w : World} {S : Nat → Prop} {W g cap : Nat} {l : List Bool} {b : Bool} {x : Nat}
    (hW : w.heap[W]? = some (.cells #[.int .i64 (l.length : Int), .slice (some ⟨g, 0, none⟩) (l.length / 8 + 1) cap] 106 (0, 0)))
    (ho : w.ownsRow 0 5 1 (.slice (some ⟨g, 0, none⟩) (l.length / 8 + 1) cap) (pad l).length (bc (pad l))) (hS : ¬ S W) (hg : ¬ S g)
    (hx : x = byteAt l (l.length / 8) + b.toNat * 2 ^ (7 - l.length % 8)) :
    Wr ((w.setCell ⟨g, l.length / 8, none⟩ (.int .u8 (x : Int))).setCell ⟨W, 0, none⟩ (.int .i64 ((l.length : Int) + 1))) S W (l ++ [b]) := by
  have hne : g ≠ W := row_ne hW (by decide) ho g rfl
  refine ⟨.slice (some ⟨g, 0, none⟩) (l.length / 8 + 1) cap, ?_, ?_, hS, ?_⟩
  · rw [heap_set_same _ _ _ _ 106 _ ((Below.heap_setCell _ _ _ _ (fun e => hne e.symm)).trans hW)]
    simp
  · have hl : (pack (l ++ [b])).length = l.length / 8 + 1 := by rw [pack_snoc]; simp [pad_length]
    rw [hl]
    refine ⟨by rw [bc_length, hl]; omega, .inr ?_⟩
    rcases ho.2 with ⟨h, _⟩ | ⟨g', cap', cur, hv, _, hh, h1, h2, h3, h4⟩
    · cases h
    · simp only [Value.slice.injEq, Option.some.injEq, Addr.mk.injEq, and_true] at hv
      obtain ⟨rfl, hn, rfl⟩ := hv
      refine ⟨g, cap, cur.setIfInBounds (l.length / 8) (.int .u8 (x : Int)), rfl, Nat.zero_le _, ?_, ?_, h2, ?_, ?_⟩
      · rw [Below.heap_setCell _ _ _ _ hne]
        exact heap_set_same _ _ _ _ _ _ hh
      · rw [pad_length] at h1; exact h1
      · simpa using h3
      · rw [Array.toList_setIfInBounds, List.take_set, pack_snoc, bc_set, ← hx]
        rw [pad_length] at h4
        rw [h4]
  · intro g' e
    have : g = g' := by simpa [Value.ownBlock] using e
    subst this
    exact hg
end
section
open Go.RowKit
theorem info5 : (Tryz.prog.info? 5).map (fun i => (i.zero, i.size, i.bytes)) = some (some (.int .u8 0), 1, 1) := by kernel_rfl
theorem wr_cells {w : World} {W : Nat} {a v : Value} (hW : w.heap[W]? = some (.cells #[a, v] 106 (0, 0))) :
    w.cell? ⟨W, 0, none⟩ = some a ∧ w.cell? ⟨W, 1, none⟩ = some v ∧ w.frozen? ⟨W, 0, none⟩ = false ∧ w.frozen? ⟨W, 1, none⟩ = false := by
  simp [World.cell?, World.frozen?, hW]
theorem or_byte (x s : Nat) (b : Bool) (hx : x < 256) (hs : s < 8) (hz : x % 2 ^ (s + 1) = 0) : x ||| (b.toNat * 2 ^ s) = x + b.toNat * 2 ^ s := lor_low ⟨x, hx⟩ ⟨s, hs⟩ b hz
theorem orv (x s bn : Nat) (hx : x < 256) (hs : s < 8) (hb : bn ≤ 1) (hor : x ||| bn * 2 ^ s = x + bn * 2 ^ s) :
    bits .or .u8 (x : Int) ((bn : Int) * 2 ^ s % 256) = ((x + bn * 2 ^ s : Nat) : Int) := by
  have h2 : bn * 2 ^ s < 256 := by
    have h3 : 2 ^ s ≤ 2 ^ 7 := Nat.pow_le_pow_right (by omega) (by omega)
    rcases Nat.le_one_iff_eq_zero_or_eq_one.1 hb with rfl | rfl <;> omega
  have e0 : ((bn : Int) * 2 ^ s) = ((bn * 2 ^ s : Nat) : Int) := by simp
  rw [e0, Int.emod_eq_of_lt (by omega) (by omega), u8_or_nat _ _ hx h2, hor]
set_option maxHeartbeats 1000000 in
theorem addBit_in (w : World) (S : Nat → Prop) (W g cap : Nat) (l : List Bool) (b : Bool) (hl : l.length < 8192) (hm : l.length % 8 ≠ 0)
    (hW : w.heap[W]? = some (.cells #[.int .i64 (l.length : Int), .slice (some ⟨g, 0, none⟩) (l.length / 8 + 1) cap] 106 (0, 0)))
    (ho : w.ownsRow 0 5 1 (.slice (some ⟨g, 0, none⟩) (l.length / 8 + 1) cap) (pad l).length (bc (pad l))) (hS : ¬ S W) (hg : ¬ S g) :
    Calls Tryz.prog 114 #[.pointer (some ⟨W, 0, none⟩), .int .u8 (b.toNat : Int)] w fun e w' => e = .returned (.tuple #[]) ∧ Wr w' S W (l ++ [b]) ∧ Fr S w w' := by
  have hst := @Wr.step w S W g cap l b _ hW ho hS hg rfl
  have hfr := ((Fr.refl S w).setCell (p := ⟨g, l.length / 8, none⟩) hg (.int .u8 ((byteAt l (l.length / 8) + b.toNat * 2 ^ (7 - l.length % 8) : Nat) : Int))).setCell (p := ⟨W, 0, none⟩) hS (.int .i64 ((l.length : Int) + 1))
  obtain ⟨c0, c1, f0, f1⟩ := wr_cells hW
  have hne : g ≠ W := row_ne hW (by decide) ho g rfl
  have hcb : w.cell? ⟨g, l.length / 8, none⟩ = some (.int .u8 (byteAt l (l.length / 8) : Int)) := by
    have := ho.cells (g := g) rfl (l.length / 8) _ (bc_get (pad l) (l.length / 8) (by rw [pad_length]; omega))
    rw [pad_get] at this
    have ha : (⟨g, 0, none⟩ : Addr).add (l.length / 8) = ⟨g, l.length / 8, none⟩ := by unfold Addr.add; split <;> simp_all
    rw [ha] at this
    exact this
  have hfb : w.frozen? ⟨g, l.length / 8, none⟩ = false := by
    rcases ho.2 with ⟨h, _⟩ | ⟨g', cap', cur, hv, _, hh, _⟩
    · cases h
    · simp only [Value.slice.injEq, Option.some.injEq, Addr.mk.injEq, and_true] at hv
      obtain ⟨rfl, _⟩ := hv
      simp [World.frozen?, hh]
  have hor := or_byte (byteAt l (l.length / 8)) (7 - l.length % 8) b (byteAt_lt _ _) (by omega) (by
    have := byteAt_low l
    rw [show 7 - l.length % 8 + 1 = 8 - l.length % 8 from by omega]; exact this)
  have hx := byteAt_lt l (l.length / 8)
  have hb : b.toNat ≤ 1 := Bool.toNat_le b
  generalize byteAt l (l.length / 8) = x at *
  generalize hbt : b.toNat = bn at *
  have HST := Lib.hid hst; clear hst
  have HFR := Lib.hid hfr; clear hfr
  have HOR := Lib.hid hor; clear hor hbt hW ho
  generalize l.length = n at *
  have hmb : ((n : Int) % 8 == 0) = false := by simp; omega
  have hi0 : (0 : Int) ≤ (n : Int) / 8 := by omega
  have hi1 : (n : Int) / 8 < (n / 8 + 1 : Nat) := by omega
  have hcn : ((n : Int) / 8).toNat = n / 8 := by omega
  clear hm
  go_enter Tryz.func114, Tryz.ntmps114
  go_wp2
  go_region
  go_wp2
  rw [orv x (7 - n % 8) bn hx (by omega) hb HOR.out]
  go_end0
  exact ⟨rfl, HST.out, HFR.out.drew⟩
theorem orv0 (n : Nat) (b : Bool) (hm : (n : Int) % 8 = 0) : bits .or .u8 0 ((b.toNat : Int) * 2 ^ (7 - n % 8) % 256) = ((0 + b.toNat * 2 ^ 7 : Nat) : Int) := by
  have h : n % 8 = 0 := by omega
  rw [h]
  exact orv 0 7 b.toNat (by omega) (by omega) (Bool.toNat_le b) (by simp)
theorem app_facts {w w1 : World} {S : Nat → Prop} (hSl : ∀ k, S k → k < w.heap.size) {W : Nat} {l : List Bool} {b : Bool} {A : Option Addr} {cap g' cap' : Nat} (hm : l.length % 8 = 0)
    (hW : w.heap[W]? = some (.cells #[.int .i64 (l.length : Int), .slice A (l.length / 8) cap] 106 (0, 0)))
    (ho : w.ownsRow 0 5 1 (.slice A (l.length / 8) cap) (l.length / 8) (bc (pack l))) (hS : ¬ S W) (hg : ∀ g, (Value.slice A (l.length / 8) cap).ownBlock = some g → ¬ S g)
    (hgr : (w.alloc (.cells #[.int .u8 0] 5)).grownBy w1 (Value.slice A (l.length / 8) cap).ownBlock) (hg' : ¬ S g')
    (ho' : w1.ownsRow 0 5 1 (.slice (some ⟨g', 0, none⟩) (l.length / 8 + 1) cap') (l.length / 8 + 1) (bc (pack l) ++ [.int .u8 0])) :
    (w1.cell? ⟨W, 0, none⟩ = some (.int .i64 (l.length : Int)) ∧ w1.cell? ⟨W, 1, none⟩ = some (.slice A (l.length / 8) cap) ∧ w1.frozen? ⟨W, 0, none⟩ = false ∧ w1.frozen? ⟨W, 1, none⟩ = false) ∧
    g' ≠ W ∧ w1.cell? ⟨g', l.length / 8, none⟩ = some (.int .u8 0) ∧ w1.frozen? ⟨g', l.length / 8, none⟩ = false ∧
    Hid (Wr (((w1.setCell ⟨W, 1, none⟩ (.slice (some ⟨g', 0, none⟩) (l.length / 8 + 1) cap')).setCell ⟨g', l.length / 8, none⟩ (.int .u8 ((0 + b.toNat * 2 ^ 7 : Nat) : Int))).setCell ⟨W, 0, none⟩ (.int .i64 ((l.length : Int) + 1))) S W (l ++ [b]) ∧
      Fr S w (((w1.setCell ⟨W, 1, none⟩ (.slice (some ⟨g', 0, none⟩) (l.length / 8 + 1) cap')).setCell ⟨g', l.length / 8, none⟩ (.int .u8 ((0 + b.toNat * 2 ^ 7 : Nat) : Int))).setCell ⟨W, 0, none⟩ (.int .i64 ((l.length : Int) + 1)))) := by
  have hlt : W < w.heap.size := (Array.getElem?_eq_some_iff.1 hW).1
  have hWrow : some W ≠ (Value.slice A (l.length / 8) cap).ownBlock := fun e => row_ne hW (by decide) ho W e.symm rfl
  have hW1 : w1.heap[W]? = some (.cells #[.int .i64 (l.length : Int), .slice A (l.length / 8) cap] 106 (0, 0)) :=
    (hgr.block W (by simp; omega) hWrow).trans ((Below.heap_alloc w _ W hlt).trans hW)
  have hne : g' ≠ W := row_ne hW1 (by decide) ho' g' rfl
  have hpl : (pack l).length = l.length / 8 := by rw [pack_length]; omega
  have hbcp : bc (pack l) ++ [.int .u8 0] = bc (pad l) := by unfold pad; rw [if_pos hm, bc_append]; rfl
  have hz : byteAt l (l.length / 8) = 0 := byteAt_beyond l _ (by omega)
  have hc : w1.cell? ⟨g', l.length / 8, none⟩ = some (.int .u8 0) := by
    have hh := ho'.cells (g := g') rfl (l.length / 8) (.int .u8 0) (by rw [List.getElem?_append_right (by rw [bc_length, hpl]; omega)]; simp [bc_length, hpl])
    have ha : (⟨g', 0, none⟩ : Addr).add (l.length / 8) = ⟨g', l.length / 8, none⟩ := by unfold Addr.add; split <;> simp_all
    rw [ha] at hh
    exact hh
  have hf : w1.frozen? ⟨g', l.length / 8, none⟩ = false := by
    rcases ho'.2 with ⟨h, _⟩ | ⟨g2, cap2, cur, hv, _, hh, _⟩
    · cases h
    · simp only [Value.slice.injEq, Option.some.injEq, Addr.mk.injEq, and_true] at hv
      obtain ⟨rfl, _⟩ := hv
      simp [World.frozen?, hh]
  have hW2 : (w1.setCell ⟨W, 1, none⟩ (.slice (some ⟨g', 0, none⟩) (l.length / 8 + 1) cap')).heap[W]? = some (.cells #[.int .i64 (l.length : Int), .slice (some ⟨g', 0, none⟩) (l.length / 8 + 1) cap'] 106 (0, 0)) := by
    rw [heap_set_same _ _ _ _ 106 _ hW1]; simp
  have ho2 : (w1.setCell ⟨W, 1, none⟩ (.slice (some ⟨g', 0, none⟩) (l.length / 8 + 1) cap')).ownsRow 0 5 1 (.slice (some ⟨g', 0, none⟩) (l.length / 8 + 1) cap') (pad l).length (bc (pad l)) := by
    rw [pad_length, ← hbcp]
    refine ho'.kept (row := some W) ⟨rfl, rfl, rfl, by simp [World.setCell], fun k _ hk => Below.heap_setCell _ _ _ _ (fun e => hk (by rw [e]))⟩ (.inr ?_)
    simp [Value.ownBlock, hne]
  refine ⟨wr_cells hW1, hne, hc, hf, ?_, ?_⟩
  · refine Wr.step hW2 ho2 hS hg' ?_
    rw [hz, hm]
  · refine (((((Fr.refl S w).alloc hSl _).grown hgr (fun k hk => by have := hSl k hk; simp; omega) hg ?_).setCell (p := ⟨W, 1, none⟩) hS _).setCell (p := ⟨g', l.length / 8, none⟩) hg' _).setCell (p := ⟨W, 0, none⟩) hS _
    intro j o hj ho2
    exact own_cells (ho.alloc _) j o hj ho2
set_option maxHeartbeats 1000000 in
theorem addBit_app (w : World) (S : Nat → Prop) (hSl : ∀ k, S k → k < w.heap.size) (W : Nat) (l : List Bool) (b : Bool) (hl : l.length < 8192) (hm : l.length % 8 = 0) (A : Option Addr) (cap : Nat)
    (hW : w.heap[W]? = some (.cells #[.int .i64 (l.length : Int), .slice A (l.length / 8) cap] 106 (0, 0)))
    (ho : w.ownsRow 0 5 1 (.slice A (l.length / 8) cap) (l.length / 8) (bc (pack l))) (hS : ¬ S W) (hg : ∀ g, (Value.slice A (l.length / 8) cap).ownBlock = some g → ¬ S g) :
    Calls Tryz.prog 114 #[.pointer (some ⟨W, 0, none⟩), .int .u8 (b.toNat : Int)] w fun e w' => e = .returned (.tuple #[]) ∧ Wr w' S W (l ++ [b]) ∧ Fr S w w' := by
  obtain ⟨i0, hi, hz0, hz1, hz2⟩ := info_parts info5
  obtain ⟨c0, c1, f0, f1⟩ := wr_cells hW
  have HF := fun w1 g' cap' => @app_facts w w1 S hSl W l b A cap g' cap' hm hW ho hS hg
  have HF' := Lib.hid HF; clear HF
  have HN : Hid (∀ g, (Value.slice A (l.length / 8) cap).ownBlock = some g ∨ g = w.heap.size + 1 → ¬ S g) := fun g h => by
    rcases h with h | h
    · exact hg g h
    · intro hs; have := hSl g hs; omega
  clear hW hg
  have hmb : ((l.length : Int) % 8 == 0) = true := by simp; omega
  have hm8 : (l.length : Int) % 8 = 0 := by omega
  have HM8 := Lib.hid hm8; clear hm8
  have hi0 : (0 : Int) ≤ (l.length : Int) / 8 := by omega
  have hi1 : (l.length : Int) / 8 < (l.length / 8 + 1 : Nat) := by omega
  have hcn : ((l.length : Int) / 8).toNat = l.length / 8 := by omega
  have hb : b.toNat ≤ 1 := Bool.toNat_le b
  clear hm
  go_enter Tryz.func114, Tryz.ntmps114
  go_wp2_with (at_builtin; refine wpList_append_lies _ rfl _ _ 25 rfl 0 5 i0 (.int .u8 0) 1 1 Tryz.underlying25 hi hz0 hz1 hz2 rfl (by decide) _ _ _ rfl (ho.alloc _) ⟨w.heap.size, 0, none⟩ 1 1 [.int .u8 0] rfl rfl (cell_one_new _ _ _) (by simp [Value.oneCell']) (by omega) (by unfold maxLen; omega) (by omega) (by omega) (w.heap.size + 1) (by simp) ?_; intro g' cap' w1 hown' hgrow hlies _; obtain ⟨⟨d0, d1, e0, e1⟩, hne, hcb, hfb, HR⟩ := HF'.out w1 g' cap' hgrow (HN.out g' hlies) hown'; clear hgrow hown' hlies c0 c1 f0 f1)
  go_region
  go_wp2
  rw [orv0 (l.length) b HM8.out]
  go_end0
  exact ⟨rfl, HR.out.1, HR.out.2.drew⟩
theorem addBit_any (w : World) (S : Nat → Prop) (hSl : ∀ k, S k → k < w.heap.size) (W : Nat) (l : List Bool) (b : Bool) (hl : l.length < 8192) (h : Wr w S W l) :
    Calls Tryz.prog 114 #[.pointer (some ⟨W, 0, none⟩), .int .u8 (b.toNat : Int)] w fun e w' => e = .returned (.tuple #[]) ∧ Wr w' S W (l ++ [b]) ∧ Fr S w w' := by
  obtain ⟨v, hW, ho, hS, hg⟩ := h
  have hp := pack_length l
  by_cases hm : l.length % 8 = 0
  · have e : (pack l).length = l.length / 8 := by omega
    rw [e] at ho
    rcases ho.2 with ⟨rfl, h0⟩ | ⟨g, cap, cur, rfl, _⟩
    · have e0 : l.length / 8 = 0 := h0
      refine addBit_app w S hSl W l b hl hm none 0 ?_ ?_ hS ?_
      · rw [e0]; exact hW
      · rw [e0] at ho ⊢; exact ho
      · rw [e0]; exact hg
    · exact addBit_app w S hSl W l b hl hm (some ⟨g, 0, none⟩) cap hW ho hS hg
  · have e : (pack l).length = l.length / 8 + 1 := by omega
    have ep : pad l = pack l := by unfold pad; rw [if_neg hm]
    rcases ho.2 with ⟨_, h0⟩ | ⟨g, cap, cur, rfl, _⟩
    · omega
    · rw [e] at ho hW hg
      refine addBit_in w S W g cap l b hl hm hW ?_ hS (hg g rfl)
      rw [ep, e]
      exact ho
end
section
open Go.RowKit
theorem bc_one (bs : List Nat) : ∀ u ∈ bc bs, u.oneCell' = true := by
  intro u hu
  simp only [bc, List.mem_map] at hu
  obtain ⟨x, _, rfl⟩ := hu
  rfl
theorem news_of {w W : World} {b off : Nat} {bs : List Nat} (hb : b < w.heap.size) (hk : ∀ k, k < w.heap.size → W.heap[k]? = w.heap[k]?)
    (hc : ∀ i, i < bs.length → w.cell? ⟨b, off + i, none⟩ = some (.int .u8 ((bs[i]?.getD 0 : Nat) : Int))) :
    ∀ j u, (bc bs)[j]? = some u → W.cell? ((⟨b, off, none⟩ : Addr).add j) = some u := by
  intro j u hu
  have hj : j < bs.length := by
    rcases Nat.lt_or_ge j bs.length with h | h
    · exact h
    · rw [List.getElem?_eq_none (by rw [bc_length]; exact h)] at hu; cases hu
  rw [bc_get bs j hj] at hu
  cases hu
  have ha : (⟨b, off, none⟩ : Addr).add j = ⟨b, off + j, none⟩ := by unfold Addr.add; split <;> simp_all
  rw [ha]
  exact (World.cell?_of_block (w := w) (a := ⟨b, off + j, none⟩) (hk b hb)).trans (hc j hj)
def Copied (w : World) (len : Int) (n : Nat) (bs : List Nat) (e : Ending) (w' : World) : Prop :=
  ∃ A c, e = .returned (.agg #[.int .i64 len, .slice A n c]) ∧ w'.ownsRow w.heap.size 5 1 (.slice A n c) n (bc bs) ∧ Below w.heap.size w w'
set_option maxHeartbeats 400000 in
theorem copy_nil (len : Int) (w : World) (A : Option Addr) (c : Nat) :
    Calls Tryz.prog 67 #[.agg #[.int .i64 len, .slice A 0 c]] w (Copied w len 0 []) := by
  rcases A with _ | a
  all_goals
    go_enter Tryz.func67, Tryz.ntmps67
    go_wp2
    go_region
    go_wp2
    refine bodyPost_ret (v := .agg #[.int .i64 len, .slice none 0 0]) (by simp [results, Tryz.results67, go_sem]) rfl ⟨none, 0, rfl, ⟨rfl, .inl ⟨rfl, rfl⟩⟩, ?_⟩
    exact (((Below.refl _ w).alloc (Nat.le_refl _) _).alloc (by simp) _).drew
theorem two_size (w : World) (o p : Obj) : (((w.alloc o).alloc p).drew).heap.size = w.heap.size + 2 := by
  show ((w.heap.push o).push p).size = _
  simp
theorem two_old (w : World) (o p : Obj) (k : Nat) (hk : k < w.heap.size) : (((w.alloc o).alloc p).drew).heap[k]? = w.heap[k]? := by
  show ((w.alloc o).alloc p).heap[k]? = _
  rw [Below.heap_alloc _ _ _ (by simp; omega), Below.heap_alloc _ _ _ hk]
theorem two_new (w : World) (o p : Obj) : (((w.alloc o).alloc p).drew).heap[w.heap.size + 1]? = some p := by
  show ((w.alloc o).alloc p).heap[w.heap.size + 1]? = _
  have := World.alloc_heap_new (w.alloc o) p
  rwa [World.size_alloc] at this
theorem copy_facts {w w1 : World} {s : Value} {g cap n : Nat} {len : Int} {bs : List Nat}
    (hg : (((w.alloc (.cells #[.int .i64 len, s] 27)).alloc (.cells #[.int .i64 0, .slice none 0 0] 106)).drew).grownBy w1 (Value.slice none 0 0).ownBlock)
    (ho : w1.ownsRow w.heap.size 5 1 (.slice (some ⟨g, 0, none⟩) n cap) n (bc bs)) (hl : g = w.heap.size + 2) :
    (w1.cell? ⟨w.heap.size + 1, 0, none⟩ = some (.int .i64 0) ∧ w1.cell? ⟨w.heap.size + 1, 1, none⟩ = some (.slice none 0 0) ∧ w1.frozen? ⟨w.heap.size + 1, 0, none⟩ = false ∧ w1.frozen? ⟨w.heap.size + 1, 1, none⟩ = false) ∧
    (w1.cell? ⟨w.heap.size, 0, none⟩ = some (.int .i64 len) ∧ w1.cell? ⟨w.heap.size, 1, none⟩ = some s) ∧
    Hid (Copied w len n bs (.returned (.agg #[.int .i64 len, .slice (some ⟨g, 0, none⟩) n cap])) ((w1.setCell ⟨w.heap.size + 1, 0, none⟩ (.int .i64 len)).setCell ⟨w.heap.size + 1, 1, none⟩ (.slice (some ⟨g, 0, none⟩) n cap))) := by
  have hW1 := (hg.block (w.heap.size + 1) (by rw [two_size]; omega) (by simp [Value.ownBlock])).trans (two_new w _ _)
  have hW0 : w1.heap[w.heap.size]? = some (.cells #[.int .i64 len, s] 27) := (hg.block w.heap.size (by rw [two_size]; omega) (by simp [Value.ownBlock])).trans ((Below.heap_alloc _ _ _ (by simp)).trans (World.alloc_heap_new w _))
  refine ⟨wr_cells hW1, ⟨by simp [World.cell?, hW0], by simp [World.cell?, hW0]⟩, some ⟨g, 0, none⟩, cap, rfl, ?_, ?_⟩
  · refine (ho.kept (row := some (w.heap.size + 1)) (w' := w1.setCell ⟨w.heap.size + 1, 0, none⟩ (.int .i64 len)) ⟨rfl, rfl, rfl, by simp [World.setCell], fun k _ hk => Below.heap_setCell _ _ _ _ (fun e => hk (by rw [e]))⟩ (.inr ?_)).kept (row := some (w.heap.size + 1)) ⟨rfl, rfl, rfl, by simp [World.setCell], fun k _ hk => Below.heap_setCell _ _ _ _ (fun e => hk (by rw [e]))⟩ (.inr ?_)
    all_goals simp [Value.ownBlock, hl]
  · refine (((((((Below.refl _ w).alloc (Nat.le_refl _) _).alloc (by simp) _).drew).grown hg (by rw [two_size]; omega) (by simp [Value.ownBlock])).setCell (p := ⟨w.heap.size + 1, 0, none⟩) (by simp) _).setCell (p := ⟨w.heap.size + 1, 1, none⟩) (by simp) _)
set_option maxHeartbeats 400000 in
theorem copy_some (len : Int) (w : World) (b off n : Nat) (c : Nat) (bs : List Nat) (hn : bs.length = n) (hp : 0 < n) (hb : b < w.heap.size) (h1 : n ≤ 1024)
   (hc : ∀ i, i < bs.length → w.cell? ⟨b, off + i, none⟩ = some (.int .u8 ((bs[i]?.getD 0 : Nat) : Int))) :
    Calls Tryz.prog 67 #[.agg #[.int .i64 len, .slice (some ⟨b, off, none⟩) n c]] w (Copied w len n bs) := by
  obtain ⟨i0, hi, hz0, hz1, hz2⟩ := info_parts info5
  have HC : Hid (∀ W : World, (∀ k, k < w.heap.size → W.heap[k]? = w.heap[k]?) → ∀ j u, (bc bs)[j]? = some u → W.cell? ((⟨b, off, none⟩ : Addr).add j) = some u) := fun W hk => news_of hb hk hc
  clear hc
  have HN := Lib.hid hn; clear hn
  go_enter Tryz.func67, Tryz.ntmps67
  go_wp2
  go_region_law (refine step_append_lies _ rfl _ _ 25 rfl w.heap.size 5 i0 (.int .u8 0) 1 1 Tryz.underlying25 hi hz0 hz1 hz2 rfl (by decide) (.slice none 0 0) 0 [] rfl ⟨rfl, .inl ⟨rfl, rfl⟩⟩ ⟨b, off, none⟩ n c (bc bs) rfl (by rw [bc_length, HN.out]; omega) (HC.out _ (fun k hk => two_old w _ _ k hk)) (bc_one bs) hp (by unfold maxLen; omega) (by omega) (by rw [two_size]; omega) (w.heap.size + 2) (two_size w _ _) ?_; intro g' cap' w1 hown' hgrow hlies hlt; obtain ⟨⟨d0, d1, e0, e1⟩, ⟨d2, d3⟩, HR⟩ := @copy_facts w w1 _ g' cap' n len bs hgrow (by simpa using hown') (by rcases hlies with h | h; (simp [Value.ownBlock] at h); exact h); clear hgrow hown' hlies; rw [Nat.zero_add])
  all_goals
    go_wp2
    exact bodyPost_ret (v := .agg #[.int .i64 len, .slice (some ⟨g', 0, none⟩) n cap']) (by simp [results, Tryz.results67, go_sem, d0, d1]) rfl HR.out
theorem copy_any (len : Int) (w : World) (A : Option Addr) (c : Nat) (bs : List Nat) (h1 : bs.length ≤ 1024) (h : Rd w w.heap.size A bs) :
    Calls Tryz.prog 67 #[.agg #[.int .i64 len, .slice A bs.length c]] w (Copied w len bs.length bs) := by
  rcases h with rfl | ⟨b, off, rfl, hb, hc⟩
  · exact copy_nil len w A c
  · rcases Nat.eq_zero_or_pos bs.length with h0 | h0
    · obtain rfl : bs = [] := List.eq_nil_of_length_eq_zero h0
      exact copy_nil len w _ c
    · exact copy_some len w b off bs.length c bs rfl h0 hb h1 hc
end
section
def stray (n : Nat) (bs : List Nat) : Bool := (n % 8 != 0) && (bs[bs.length - 1]?.getD 0 * 2 ^ (n % 8) % 256 != 0)
def chk (len : Int) (bs : List Nat) : Int :=
  if len < 0 ∨ 8192 < len then 3 else if bs.length ≠ (len.toNat + 7) / 8 then 1 else if stray len.toNat bs = true then 1 else 0
def unpack (n : Nat) (bs : List Nat) : List Bool := (List.range n).map fun i => bs[i / 8]?.getD 0 / 2 ^ (7 - i % 8) % 2 == 1
theorem unpack_length (n : Nat) (bs : List Nat) : (unpack n bs).length = n := by simp [unpack]
theorem bt_unpack (n : Nat) (bs : List Nat) (i : Nat) : bt (unpack n bs) i = if i < n then bs[i / 8]?.getD 0 / 2 ^ (7 - i % 8) % 2 else 0 := by
  by_cases h : i < n
  · rw [if_pos h]
    unfold bt unpack
    rw [List.getElem?_map, List.getElem?_range h]
    simp only [Option.map_some, Option.getD_some]
    have := Nat.mod_lt (bs[i / 8]?.getD 0 / 2 ^ (7 - i % 8)) (show 2 > 0 by omega)
    rcases (show bs[i / 8]?.getD 0 / 2 ^ (7 - i % 8) % 2 = 0 ∨ bs[i / 8]?.getD 0 / 2 ^ (7 - i % 8) % 2 = 1 by omega) with e | e <;> rw [e] <;> rfl
  · rw [if_neg h, bt_beyond _ _ (by rw [unpack_length]; omega)]
theorem getD_lt (bs : List Nat) (h : ∀ b ∈ bs, b < 256) (k : Nat) : bs[k]?.getD 0 < 256 := by
  by_cases hk : k < bs.length
  · rw [List.getElem?_eq_getElem hk]; exact h _ (List.getElem_mem hk)
  · rw [List.getElem?_eq_none (by omega)]; simp
theorem last_byte : ∀ x : Fin 256, ∀ r : Fin 8, x.val * 2 ^ r.val % 256 = 0 →
    128 * (if 0 < r.val then x.val / 2 ^ (7 - 0) % 2 else 0) + 64 * (if 1 < r.val then x.val / 2 ^ (7 - 1) % 2 else 0) + 32 * (if 2 < r.val then x.val / 2 ^ (7 - 2) % 2 else 0) + 16 * (if 3 < r.val then x.val / 2 ^ (7 - 3) % 2 else 0) + 8 * (if 4 < r.val then x.val / 2 ^ (7 - 4) % 2 else 0) + 4 * (if 5 < r.val then x.val / 2 ^ (7 - 5) % 2 else 0) + 2 * (if 6 < r.val then x.val / 2 ^ (7 - 6) % 2 else 0) + (if 7 < r.val then x.val / 2 ^ (7 - 7) % 2 else 0) = x.val := by decide +kernel
theorem pack_unpack (n : Nat) (bs : List Nat) (hb : ∀ b ∈ bs, b < 256) (hl : bs.length = (n + 7) / 8) (hs : stray n bs = false) : pack (unpack n bs) = bs := by
  apply list_ext_getD
  · rw [pack_length, unpack_length, hl]
  · intro k
    rw [pack_get]
    by_cases hk : k < bs.length
    · have hx := getD_lt bs hb k
      unfold byteAt
      simp only [bt_unpack]
      rw [show 8 * k / 8 = k by omega, show (8 * k + 1) / 8 = k by omega, show (8 * k + 2) / 8 = k by omega, show (8 * k + 3) / 8 = k by omega, show (8 * k + 4) / 8 = k by omega, show (8 * k + 5) / 8 = k by omega, show (8 * k + 6) / 8 = k by omega, show (8 * k + 7) / 8 = k by omega]
      rw [show 8 * k % 8 = 0 by omega, show (8 * k + 1) % 8 = 1 by omega, show (8 * k + 2) % 8 = 2 by omega, show (8 * k + 3) % 8 = 3 by omega, show (8 * k + 4) % 8 = 4 by omega, show (8 * k + 5) % 8 = 5 by omega, show (8 * k + 6) % 8 = 6 by omega, show (8 * k + 7) % 8 = 7 by omega]
      by_cases hf : 8 * k + 7 < n
      · rw [if_pos (by omega), if_pos (by omega), if_pos (by omega), if_pos (by omega), if_pos (by omega), if_pos (by omega), if_pos (by omega), if_pos hf]
        generalize bs[k]?.getD 0 = x at *
        omega
      · have hr : n % 8 ≠ 0 := by omega
        have hkl : bs.length - 1 = k := by omega
        have hq : n = 8 * k + n % 8 := by omega
        unfold stray at hs
        rw [hkl] at hs
        simp only [Bool.and_eq_false_iff, bne_eq_false_iff_eq] at hs
        have hz : bs[k]?.getD 0 * 2 ^ (n % 8) % 256 = 0 := by
          rcases hs with h | h
          · exact absurd h hr
          · exact h
        generalize bs[k]?.getD 0 = x at *
        have h8 : n % 8 < 8 := Nat.mod_lt _ (by omega)
        generalize n % 8 = r at *
        subst hq
        clear hs hb hl hf hk hkl
        have := last_byte ⟨x, hx⟩ ⟨r, h8⟩ hz
        simpa only [Nat.add_lt_add_iff_left, Nat.lt_add_right_iff_pos] using this
    · rw [byteAt_beyond _ _ (by rw [unpack_length]; omega), List.getElem?_eq_none (by omega)]; rfl
theorem stray_pack (l : List Bool) : stray l.length (pack l) = false := by
  unfold stray
  by_cases hr : l.length % 8 = 0
  · simp [hr]
  · have hk : (pack l).length - 1 = l.length / 8 := by rw [pack_length]; omega
    rw [hk, pack_get]
    have h := byteAt_low l
    have h8 : l.length % 8 < 8 := Nat.mod_lt _ (by omega)
    generalize byteAt l (l.length / 8) = x at *
    generalize l.length % 8 = r at *
    have h7 : r = 1 ∨ r = 2 ∨ r = 3 ∨ r = 4 ∨ r = 5 ∨ r = 6 ∨ r = 7 := by omega
    rcases h7 with rfl | rfl | rfl | rfl | rfl | rfl | rfl <;> simp at h ⊢ <;> omega
theorem chk_pack (l : List Bool) (h : l.length ≤ 8192) : chk (l.length : Int) (pack l) = 0 := by
  unfold chk
  rw [if_neg (by omega)]
  simp only [Int.toNat_natCast]
  rw [if_neg (by rw [pack_length]; omega), if_neg (by simp [stray_pack])]
theorem chk_zero (len : Int) (bs : List Nat) (hb : ∀ b ∈ bs, b < 256) (h : chk len bs = 0) : ∃ l : List Bool, len = (l.length : Int) ∧ l.length ≤ 8192 ∧ bs = pack l := by
  unfold chk at h
  split at h
  · omega
  · split at h
    · omega
    · split at h
      · omega
      · rename_i h1 h2 h3
        refine ⟨unpack len.toNat bs, by rw [unpack_length]; omega, by rw [unpack_length]; omega, ?_⟩
        exact (pack_unpack len.toNat bs hb (by omega) (by simpa using h3)).symm
theorem pack_inj {a b : List Bool} (hl : a.length = b.length) (h : pack a = pack b) : a = b := by
  apply List.ext_getElem hl
  intro i h1 h2
  have e := bit_of_byte a i
  have e' := bit_of_byte b i
  rw [← pack_get, h, pack_get] at e
  have e2 : bt a i = bt b i := e.symm.trans e'
  unfold bt at e2
  rw [List.getElem?_eq_getElem h1, List.getElem?_eq_getElem h2] at e2
  simp only [Option.getD_some] at e2
  generalize a[i] = x at *
  generalize b[i] = y at *
  cases x <;> cases y <;> simp_all
end
section
open Go.RowKit
set_option maxHeartbeats 400000 in
theorem stray_zero (len : Int) (h0 : 0 ≤ len) (h1 : len ≤ 8192) (A : Option Addr) (n c : Nat) (w : World) (hz : len % 8 = 0) :
    Calls Tryz.prog 99 #[.agg #[.int .i64 len, .slice A n c]] w fun e w' => e = .returned (.bool false) ∧ Below w.heap.size w w' := by
  have hb : (len % 8 != 0) = false := by simp [hz]
  clear hz
  go_enter Tryz.func99, Tryz.ntmps99
  go_wp2
  go_ret
  exact ⟨rfl, (Below.refl _ w).alloc (Nat.le_refl _) _⟩
theorem shl_test (x : Nat) (len : Int) (h0 : 0 ≤ len) : ((x : Int) * 2 ^ (len % 8).toNat % 256 != 0) = (x * 2 ^ (len.toNat % 8) % 256 != 0) := by
  have e : (len % 8).toNat = len.toNat % 8 := by omega
  rw [e]
  have e2 : (x : Int) * 2 ^ (len.toNat % 8) % 256 = ((x * 2 ^ (len.toNat % 8) % 256 : Nat) : Int) := by simp
  rw [e2]
  generalize x * 2 ^ (len.toNat % 8) % 256 = y
  rw [Bool.eq_iff_iff]
  simp
set_option maxHeartbeats 400000 in
theorem stray_pos (len : Int) (h0 : 0 ≤ len) (h1 : len ≤ 8192) (b off : Nat) (n c : Nat) (w : World) (hz : (len % 8 != 0) = true) (hn : 0 < n) (hn1 : n ≤ 2000) (x : Nat) (hb : b < w.heap.size)
   (hc : w.cell? ⟨b, off + (n - 1), none⟩ = some (.int .u8 (x : Int))) :
    Calls Tryz.prog 99 #[.agg #[.int .i64 len, .slice (some ⟨b, off, none⟩) n c]] w fun e w' => e = .returned (.bool (x * 2 ^ (len.toNat % 8) % 256 != 0)) ∧ Below w.heap.size w w' := by
  have hi0 : 0 ≤ (n : Int) - 1 := by omega
  have hi1 : (n : Int) - 1 < n := by omega
  have hcn : ((n : Int) - 1).toNat = n - 1 := by omega
  rw [← shl_test x len h0]
  go_enter Tryz.func99, Tryz.ntmps99
  go_wp2
  go_ret
  exact ⟨rfl, (Below.refl _ w).alloc (Nat.le_refl _) _⟩
theorem stray_any (len : Int) (h0 : 0 ≤ len) (h1 : len ≤ 8192) (A : Option Addr) (c : Nat) (bs : List Nat) (w : World) (hl : bs.length = (len.toNat + 7) / 8) (hb : ∀ b ∈ bs, b < 256) (h : Rd w w.heap.size A bs) :
    Calls Tryz.prog 99 #[.agg #[.int .i64 len, .slice A bs.length c]] w fun e w' => e = .returned (.bool (stray len.toNat bs)) ∧ Below w.heap.size w w' := by
  unfold stray
  by_cases hz : len % 8 = 0
  · have e : (len.toNat % 8 != 0) = false := by simp; omega
    rw [e, Bool.false_and]
    exact stray_zero len h0 h1 A _ c w hz
  · have e : (len.toNat % 8 != 0) = true := by simp; omega
    rw [e, Bool.true_and]
    rcases h with rfl | ⟨b, off, rfl, hbl, hc⟩
    · simp at hl; omega
    · exact stray_pos len h0 h1 b off _ c w (by simp; omega) (by omega) (by omega) _ hbl (hc _ (by omega))
set_option maxHeartbeats 400000 in
theorem check_low (len : Int) (A : Option Addr) (n c : Nat) (w : World) (h : len < 0) :
    Calls Tryz.prog 53 #[.agg #[.int .i64 len, .slice A n c]] w fun e w' => e = .returned (.int .i64 3) ∧ Below w.heap.size w w' := by
  go_enter Tryz.func53, Tryz.ntmps53
  go_wp2
  go_ret
  exact ⟨rfl, (Below.refl _ w).alloc (Nat.le_refl _) _⟩
set_option maxHeartbeats 400000 in
theorem check_high (len : Int) (A : Option Addr) (n c : Nat) (w : World) (h : 8192 < len) :
    Calls Tryz.prog 53 #[.agg #[.int .i64 len, .slice A n c]] w fun e w' => e = .returned (.int .i64 3) ∧ Below w.heap.size w w' := by
  have h0 : decide (len < 0) = false := by simp; omega
  go_enter Tryz.func53, Tryz.ntmps53
  go_wp2
  go_ret
  exact ⟨rfl, (Below.refl _ w).alloc (Nat.le_refl _) _⟩
set_option maxHeartbeats 400000 in
theorem check_len (len : Int) (A : Option Addr) (n c : Nat) (w : World) (h0 : 0 ≤ len) (h1 : len ≤ 8192) (hn : n ≠ (len.toNat + 7) / 8) :
    Calls Tryz.prog 53 #[.agg #[.int .i64 len, .slice A n c]] w fun e w' => e = .returned (.int .i64 1) ∧ Below w.heap.size w w' := by
  have h2 : ((n : Int) != (len + 7) / 8) = true := by simp; omega
  clear hn
  go_enter Tryz.func53, Tryz.ntmps53
  go_wp2
  go_ret
  exact ⟨rfl, (Below.refl _ w).alloc (Nat.le_refl _) _⟩
set_option maxHeartbeats 400000 in
theorem check_in (len : Int) (A : Option Addr) (c : Nat) (bs : List Nat) (w : World) (h0 : 0 ≤ len) (h1 : len ≤ 8192) (hl : bs.length = (len.toNat + 7) / 8) (hb : ∀ b ∈ bs, b < 256) (h : Rd w w.heap.size A bs) :
    Calls Tryz.prog 53 #[.agg #[.int .i64 len, .slice A bs.length c]] w fun e w' => e = .returned (.int .i64 (if stray len.toNat bs = true then 1 else 0)) ∧ Below w.heap.size w w' := by
  have h2 : ((bs.length : Int) != (len + 7) / 8) = false := by simp; omega
  have hst : Hid (Calls Tryz.prog 99 #[.agg #[.int .i64 len, .slice A bs.length c]] (w.alloc (.cells #[.int .i64 len, .slice A bs.length c] 27)) fun e w' => e = .returned (.bool (stray len.toNat bs)) ∧ Below (w.heap.size + 1) (w.alloc (.cells #[.int .i64 len, .slice A bs.length c] 27)) w') := by
    have := stray_any len h0 h1 A c bs (w.alloc (.cells #[.int .i64 len, .slice A bs.length c] 27)) hl hb (h.below ((Below.refl _ w).alloc (Nat.le_refl _) _) (by simp))
    rwa [World.size_alloc] at this
  clear hl hb h
  have HB : Hid (Below w.heap.size w (w.alloc (.cells #[.int .i64 len, .slice A bs.length c] 27))) := (Below.refl _ w).alloc (Nat.le_refl _) _
  generalize bs.length = n at *
  cases hs : stray len.toNat bs
  all_goals
    rw [hs] at hst
    clear hs
    go_enter Tryz.func53, Tryz.ntmps53
    go_wp2_with (go_at_call 99; refine hst.out.mono ?_; rintro e w1 ⟨rfl, hq⟩)
    go_ret
    exact ⟨rfl, HB.out.trans (hq.mono (by omega))⟩
theorem check_any (len : Int) (A : Option Addr) (c : Nat) (bs : List Nat) (w : World) (hb : ∀ b ∈ bs, b < 256) (h : Rd w w.heap.size A bs) :
    Calls Tryz.prog 53 #[.agg #[.int .i64 len, .slice A bs.length c]] w fun e w' => e = .returned (.int .i64 (chk len bs)) ∧ Below w.heap.size w w' := by
  unfold chk
  by_cases h0 : len < 0
  · rw [if_pos (.inl h0)]; exact check_low len A _ c w h0
  · by_cases h1 : 8192 < len
    · rw [if_pos (.inr h1)]; exact check_high len A _ c w h1
    · rw [if_neg (by omega)]
      by_cases hn : bs.length = (len.toNat + 7) / 8
      · rw [if_neg (by omega)]; exact check_in len A c bs w (by omega) (by omega) hn hb h
      · rw [if_pos hn]; exact check_len len A _ c w (by omega) (by omega) hn
end
section
open Go.RowKit
def nb (n width : Nat) : List Bool := (List.range width).map fun i => n / 2 ^ (width - 1 - i) % 2 == 1
theorem nb_length (n width : Nat) : (nb n width).length = width := by simp [nb]
theorem nb_take_succ (n width j : Nat) (h : j < width) : (nb n width).take (j + 1) = (nb n width).take j ++ [n / 2 ^ (width - 1 - j) % 2 == 1] := by
  rw [List.take_succ_eq_append_getElem (by rw [nb_length]; exact h)]
  simp [nb]
def Gave (w : World) (l : List Bool) (err : Int) (e : Ending) (w' : World) : Prop :=
  ∃ A c, e = .returned (.tuple #[.agg #[.int .i64 (l.length : Int), .slice A (pack l).length c], .int .i64 err]) ∧ Rd w' w'.heap.size A (pack l) ∧ Below w.heap.size w w'
theorem old_cells {B : Nat} {W w1 : World} (h : Below B W w1) : (∀ b o, b < B → w1.cell? ⟨b, o, none⟩ = W.cell? ⟨b, o, none⟩) ∧ (∀ b o, b < B → w1.frozen? ⟨b, o, none⟩ = W.frozen? ⟨b, o, none⟩) :=
  ⟨fun b o hb => h.cell (p := ⟨b, o, none⟩) hb, fun b o hb => h.frozen (p := ⟨b, o, none⟩) hb⟩
theorem pow_test' (n k : Nat) (h : n / 2 ^ k = 0) : ((n : Int) / 2 ^ k != 0) = false := by
  have e : (n : Int) / 2 ^ k = ((n / 2 ^ k : Nat) : Int) := by simp
  rw [e, h]; rfl
theorem pow_test (n k : Nat) (h : n / 2 ^ k ≠ 0) : ((n : Int) / 2 ^ k != 0) = true := by
  have e : (n : Int) / 2 ^ k = ((n / 2 ^ k : Nat) : Int) := by simp
  rw [e]
  generalize n / 2 ^ k = y at *
  rw [bne_iff_ne]; omega
theorem and_bit (n q : Nat) (hn : n < 18446744073709551616) : bits .and .u64 ((n : Int) / 2 ^ q) 1 % 256 = ((n / 2 ^ q % 2 == 1).toNat : Int) := by
  have e : (n : Int) / 2 ^ q = ((n / 2 ^ q : Nat) : Int) := by simp
  have h1 : n / 2 ^ q ≤ n := Nat.div_le_self _ _
  rw [e]
  have := u64_and_nat (n / 2 ^ q) 1 (by omega) (by omega)
  rw [show ((1 : Nat) : Int) = 1 from rfl] at this
  rw [this, Nat.and_one_is_mod]
  rcases (show n / 2 ^ q % 2 = 0 ∨ n / 2 ^ q % 2 = 1 by omega) with h | h <;> rw [h] <;> rfl
theorem unpack_pack (l : List Bool) : unpack l.length (pack l) = l := by
  apply pack_inj
  · rw [unpack_length]
  · exact pack_unpack _ _ (pack_lt l) (pack_length l) (stray_pack l)
theorem gave_zero {w w1 : World} (hq : Below w.heap.size w w1) (r : Nat) (hr : w.heap.size ≤ r) (err : Int) :
    Gave w [] err (.returned (.tuple #[.agg #[.int .i64 0, .slice none 0 0], .int .i64 err])) ((w1.setCell ⟨r, 0, none⟩ (.int .i64 0)).setCell ⟨r, 1, none⟩ (.slice none 0 0)) :=
  ⟨none, 0, rfl, .inl rfl, (hq.setCell (p := ⟨r, 0, none⟩) hr _).setCell (p := ⟨r, 1, none⟩) hr _⟩
def begun (w : World) (len : Int) (A : Option Addr) (n c : Nat) : World := (w.alloc (.cells #[.int .i64 len, .slice A n c] 27)).alloc (.cells #[.int .i64 0, .slice none 0 0] 27)
theorem begun_below (w : World) (len : Int) (A : Option Addr) (n c : Nat) : Below w.heap.size w (begun w len A n c) := ((Below.refl _ w).alloc (Nat.le_refl _) _).alloc (by simp) _
theorem begun_size (w : World) (len : Int) (A : Option Addr) (n c : Nat) : (begun w len A n c).heap.size = w.heap.size + 2 := by
  unfold begun; rw [World.size_alloc, World.size_alloc]
theorem check_begun (len : Int) (A : Option Addr) (c : Nat) (bs : List Nat) (w : World) (hb : ∀ b ∈ bs, b < 256) (h : Rd w w.heap.size A bs) :
    Calls Tryz.prog 53 #[.agg #[.int .i64 len, .slice A bs.length c]] ((w.alloc (.cells #[.int .i64 len, .slice A bs.length c] 27)).alloc (.cells #[.int .i64 0, .slice none 0 0] 27)) fun e w' => e = .returned (.int .i64 (chk len bs)) ∧ Below (w.heap.size + 2) ((w.alloc (.cells #[.int .i64 len, .slice A bs.length c] 27)).alloc (.cells #[.int .i64 0, .slice none 0 0] 27)) w' := by
  have := check_any len A c bs (begun w len A bs.length c) hb (h.below (begun_below w len A bs.length c) (by rw [begun_size]; omega))
  rwa [begun_size] at this
set_option maxHeartbeats 400000 in
theorem put_bad (len : Int) (A : Option Addr) (c : Nat) (bs : List Nat) (n width : Int) (w : World) (hb : ∀ b ∈ bs, b < 256) (h : Rd w w.heap.size A bs) (hc : chk len bs ≠ 0) :
    Calls Tryz.prog 65 #[.agg #[.int .i64 len, .slice A bs.length c], .int .u64 n, .int .i64 width] w (Gave w [] (chk len bs)) := by
  have HC := Lib.hid (check_begun len A c bs w hb h)
  have hcb : (chk len bs != 0) = true := by simpa using hc
  clear hc hb h
  have HB := Lib.hid (begun_below w len A bs.length c)
  generalize chk len bs = e0 at *
  generalize bs.length = nn at *
  go_enter Tryz.func65, Tryz.ntmps65
  go_wp2_with (go_at_call 53; refine HC.out.mono ?_; rintro e w1 ⟨rfl, hq⟩; obtain ⟨hc1, hf1⟩ := old_cells hq)
  exact bodyPost_ret (v := .tuple #[.agg #[.int .i64 0, .slice none 0 0], .int .i64 e0]) (by simp [results, Tryz.results65, go_sem, hc1]) rfl (gave_zero (HB.out.trans (hq.mono (by omega))) _ (by omega) e0)
set_option maxHeartbeats 400000 in
theorem put_width (l : List Bool) (hl : l.length ≤ 8192) (A : Option Addr) (c : Nat) (n width : Int) (w : World) (h : Rd w w.heap.size A (pack l)) (hw : width < 0 ∨ 64 < width) :
    Calls Tryz.prog 65 #[.agg #[.int .i64 (l.length : Int), .slice A (pack l).length c], .int .u64 n, .int .i64 width] w (Gave w [] 3) := by
  have hc0 := check_begun (l.length : Int) A c (pack l) w (pack_lt l) h
  rw [chk_pack l hl] at hc0
  have HC := Lib.hid hc0; clear hc0
  clear h
  have HB := Lib.hid (begun_below w (l.length : Int) A (pack l).length c)
  generalize (pack l).length = nn at *
  generalize l.length = ln at *
  rcases hw with hw | hw
  · go_enter Tryz.func65, Tryz.ntmps65
    go_wp2_with (go_at_call 53; refine HC.out.mono ?_; rintro e w1 ⟨rfl, hq⟩; obtain ⟨hc1, hf1⟩ := old_cells hq)
    exact bodyPost_ret (v := .tuple #[.agg #[.int .i64 0, .slice none 0 0], .int .i64 3]) (by simp [results, Tryz.results65, go_sem, hc1]) rfl (gave_zero (HB.out.trans (hq.mono (by omega))) _ (by omega) 3)
  · have hw0 : decide (width < 0) = false := by simp; omega
    go_enter Tryz.func65, Tryz.ntmps65
    go_wp2_with (go_at_call 53; refine HC.out.mono ?_; rintro e w1 ⟨rfl, hq⟩; obtain ⟨hc1, hf1⟩ := old_cells hq)
    exact bodyPost_ret (v := .tuple #[.agg #[.int .i64 0, .slice none 0 0], .int .i64 3]) (by simp [results, Tryz.results65, go_sem, hc1]) rfl (gave_zero (HB.out.trans (hq.mono (by omega))) _ (by omega) 3)
set_option maxHeartbeats 400000 in
theorem put_big (l : List Bool) (hl : l.length ≤ 8192) (A : Option Addr) (c : Nat) (n k : Nat) (w : World) (h : Rd w w.heap.size A (pack l)) (hk : k ≤ 64) (hn : n / 2 ^ k ≠ 0) :
    Calls Tryz.prog 65 #[.agg #[.int .i64 (l.length : Int), .slice A (pack l).length c], .int .u64 (n : Int), .int .i64 (k : Int)] w (Gave w [] 3) := by
  have hc0 := check_begun (l.length : Int) A c (pack l) w (pack_lt l) h
  rw [chk_pack l hl] at hc0
  have HC := Lib.hid hc0; clear hc0
  clear h
  have HB := Lib.hid (begun_below w (l.length : Int) A (pack l).length c)
  generalize (pack l).length = nn at *
  generalize l.length = ln at *
  have hnb : ((n : Int) / 2 ^ k != 0) = true := pow_test n k hn
  clear hn
  go_enter Tryz.func65, Tryz.ntmps65
  go_wp2_with (go_at_call 53; refine HC.out.mono ?_; rintro e w1 ⟨rfl, hq⟩; obtain ⟨hc1, hf1⟩ := old_cells hq)
  exact bodyPost_ret (v := .tuple #[.agg #[.int .i64 0, .slice none 0 0], .int .i64 3]) (by simp [results, Tryz.results65, go_sem, hc1]) rfl (gave_zero (HB.out.trans (hq.mono (by omega))) _ (by omega) 3)
set_option maxHeartbeats 400000 in
theorem put_full (l : List Bool) (hl : l.length ≤ 8192) (A : Option Addr) (c : Nat) (n k : Nat) (w : World) (h : Rd w w.heap.size A (pack l)) (hk : k ≤ 64) (hn : n / 2 ^ k = 0) (hf : 8192 < l.length + k) :
    Calls Tryz.prog 65 #[.agg #[.int .i64 (l.length : Int), .slice A (pack l).length c], .int .u64 (n : Int), .int .i64 (k : Int)] w (Gave w [] 8) := by
  have hc0 := check_begun (l.length : Int) A c (pack l) w (pack_lt l) h
  rw [chk_pack l hl] at hc0
  have HC := Lib.hid hc0; clear hc0
  clear h
  have HB := Lib.hid (begun_below w (l.length : Int) A (pack l).length c)
  generalize (pack l).length = nn at *
  generalize l.length = ln at *
  have hnb : ((n : Int) / 2 ^ k != 0) = false := pow_test' n k hn
  clear hn
  go_enter Tryz.func65, Tryz.ntmps65
  go_wp2_with (go_at_call 53; refine HC.out.mono ?_; rintro e w1 ⟨rfl, hq⟩; obtain ⟨hc1, hf1⟩ := old_cells hq)
  exact bodyPost_ret (v := .tuple #[.agg #[.int .i64 0, .slice none 0 0], .int .i64 8]) (by simp [results, Tryz.results65, go_sem, hc1]) rfl (gave_zero (HB.out.trans (hq.mono (by omega))) _ (by omega) 8)
theorem own_rd {w : World} {base : Nat} {A : Option Addr} {n c : Nat} {bs : List Nat} (h : w.ownsRow base 5 1 (.slice A n c) n (bc bs)) : Rd w w.heap.size A bs := by
  rcases h.2 with ⟨e, h0⟩ | ⟨g, cap, cur, e, _, hg, _⟩
  · have := h.1
    rw [bc_length, h0] at this
    exact .inl (List.eq_nil_of_length_eq_zero (by omega))
  · simp only [Value.slice.injEq] at e
    obtain ⟨rfl, _, _⟩ := e
    refine .inr ⟨g, 0, rfl, (Array.getElem?_eq_some_iff.1 hg).1, fun i hi => ?_⟩
    have hh := h.cells (g := g) rfl i _ (bc_get bs i hi)
    have ha : (⟨g, 0, none⟩ : Addr).add i = ⟨g, 0 + i, none⟩ := by unfold Addr.add; split <;> simp_all
    rw [ha] at hh
    exact hh
theorem own_slice {w : World} {base : Nat} {v : Value} {n : Nat} {xs : List Value} (h : w.ownsRow base 5 1 v n xs) : ∃ A c, v = .slice A n c := by
  rcases h.2 with ⟨rfl, rfl⟩ | ⟨g, cap, cur, rfl, _⟩
  · exact ⟨none, 0, rfl⟩
  · exact ⟨_, cap, rfl⟩
theorem blk_cells {w : World} {W : Nat} {t : TypeId} {a v : Value} (hW : w.heap[W]? = some (.cells #[a, v] t (0, 0))) :
    w.cell? ⟨W, 0, none⟩ = some a ∧ w.cell? ⟨W, 1, none⟩ = some v ∧ w.frozen? ⟨W, 0, none⟩ = false ∧ w.frozen? ⟨W, 1, none⟩ = false := by
  simp [World.cell?, World.frozen?, hW]
theorem finish {w wr : World} {S : Nat → Prop} {W r : Nat} {L : List Bool} {a b : Value} (hw : Wr wr S W L) (hr : w.heap.size ≤ r) (hSr : S r) (hrb : wr.heap[r]? = some (.cells #[a, b] 27 (0, 0))) (hb : Below w.heap.size w wr) :
    ∃ A c, (wr.cell? ⟨W, 0, none⟩ = some (.int .i64 (L.length : Int)) ∧ wr.cell? ⟨W, 1, none⟩ = some (.slice A (pack L).length c)) ∧
      (wr.cell? ⟨r, 0, none⟩ = some a ∧ wr.cell? ⟨r, 1, none⟩ = some b ∧ wr.frozen? ⟨r, 0, none⟩ = false ∧ wr.frozen? ⟨r, 1, none⟩ = false) ∧
      Hid (Gave w L 0 (.returned (.tuple #[.agg #[.int .i64 (L.length : Int), .slice A (pack L).length c], .int .i64 0])) ((wr.setCell ⟨r, 0, none⟩ (.int .i64 (L.length : Int))).setCell ⟨r, 1, none⟩ (.slice A (pack L).length c))) := by
  obtain ⟨v, hW, ho, _, hg⟩ := hw
  obtain ⟨A, c, rfl⟩ := own_slice ho
  obtain ⟨c0, c1, _, _⟩ := blk_cells hW
  refine ⟨A, c, ⟨c0, c1⟩, blk_cells hrb, A, c, rfl, ?_, (hb.setCell (p := ⟨r, 0, none⟩) hr _).setCell (p := ⟨r, 1, none⟩) hr _⟩
  have k1 : ∀ (w' : World) (u : Value) (i : Nat), w'.ownsRow 0 5 1 (.slice A (pack L).length c) (pack L).length (bc (pack L)) → (w'.setCell ⟨r, i, none⟩ u).ownsRow 0 5 1 (.slice A (pack L).length c) (pack L).length (bc (pack L)) := by
    intro w' u i h
    refine h.kept (row := some r) ⟨rfl, rfl, rfl, by simp [World.setCell], fun k _ hk => Below.heap_setCell _ _ _ _ (fun e => hk (by rw [e]))⟩ ?_
    right
    intro e
    exact hg r e hSr
  have := own_rd (k1 _ (.slice A (pack L).length c) 1 (k1 _ (.int .i64 (L.length : Int)) 0 ho))
  exact this
theorem begun_size' (w : World) (len : Int) (A : Option Addr) (n c : Nat) : ((w.alloc (.cells #[.int .i64 len, .slice A n c] 27)).alloc (.cells #[.int .i64 0, .slice none 0 0] 27)).heap.size = w.heap.size + 2 := begun_size w len A n c
theorem begun_res (w : World) (len : Int) (A : Option Addr) (n c : Nat) : ((w.alloc (.cells #[.int .i64 len, .slice A n c] 27)).alloc (.cells #[.int .i64 0, .slice none 0 0] 27)).heap[w.heap.size + 1]? = some (.cells #[.int .i64 0, .slice none 0 0] 27) := two_new w _ _
theorem Wr.laid {w : World} {S : Nat → Prop} {l : List Bool} {v : Value} {base : Nat} (ho : w.ownsRow base 5 1 v (pack l).length (bc (pack l))) (hS : ∀ k, S k → k < base) (hb : base ≤ w.heap.size) :
    Wr (w.alloc (.cells #[.int .i64 (l.length : Int), v] 106)) S w.heap.size l := by
  refine ⟨v, World.alloc_heap_new w _, ?_, fun h => by have := hS _ h; omega, fun g hg h => ?_⟩
  · have := ho.alloc (.cells #[.int .i64 (l.length : Int), v] 106)
    refine ⟨this.1, ?_⟩
    rcases this.2 with h | ⟨g, cap, cur, h1, _, h2⟩
    · exact .inl h
    · exact .inr ⟨g, cap, cur, h1, Nat.zero_le _, h2⟩
  · have := (ho.lt g hg).1
    have := hS _ h
    omega
def PutRel (w w2 : World) (l : List Bool) (n k W : Nat) (p : Value) (wr : World) : Prop :=
  ∃ q : Nat, q ≤ k ∧ p = .int .i64 ((q : Int) - 1) ∧ Wr wr (fun k => k < w.heap.size + 2) W (l ++ (nb n k).take (k - q)) ∧ Fr (fun k => k < w.heap.size + 2) w2 wr
theorem putRel_start {w w1 w2 : World} {l : List Bool} {n k : Nat} {A : Option Addr} {c : Nat} (hs : w.heap.size + 2 ≤ w1.heap.size) (ho : w2.ownsRow w1.heap.size 5 1 (.slice A (pack l).length c) (pack l).length (bc (pack l))) (hb : Below w1.heap.size w1 w2) :
    PutRel w w2 l n k w2.heap.size (.int .i64 ((k : Int) - 1)) (w2.alloc (.cells #[.int .i64 (l.length : Int), .slice A (pack l).length c] 106)) := by
  have := hb.size
  refine ⟨k, Nat.le_refl _, rfl, ?_, (Fr.refl _ w2).alloc (fun j hj => by omega) _⟩
  rw [Nat.sub_self, List.take_zero, List.append_nil]
  exact Wr.laid ho (fun j hj => by omega) this
set_option maxHeartbeats 1000000 in
theorem put_ok (l L : List Bool) (A : Option Addr) (c : Nat) (n k : Nat) (w : World) (h : Rd w w.heap.size A (pack l)) (hk : k ≤ 64) (hn : n / 2 ^ k = 0) (hf : l.length + k ≤ 8192) (hn64 : n < 18446744073709551616) (hL : L = l ++ nb n k) :
    Calls Tryz.prog 65 #[.agg #[.int .i64 (l.length : Int), .slice A (pack l).length c], .int .u64 (n : Int), .int .i64 (k : Int)] w (Gave w L 0) := by
  have HL := Lib.hid hL; clear hL
  have hc0 := check_begun (l.length : Int) A c (pack l) w (pack_lt l) h
  rw [chk_pack l (by omega)] at hc0
  have HC := Lib.hid hc0; clear hc0
  have HB := Lib.hid (begun_below w (l.length : Int) A (pack l).length c)
  have HCP : Hid (∀ w1, Below (w.heap.size + 2) (begun w (l.length : Int) A (pack l).length c) w1 → Calls Tryz.prog 67 #[.agg #[.int .i64 (l.length : Int), .slice A (pack l).length c]] w1 (Copied w1 (l.length : Int) (pack l).length (pack l))) := fun w1 hq => by
    have hs := hq.size
    rw [begun_size] at hs
    exact copy_any _ w1 A c (pack l) (by rw [pack_length]; omega) (h.below ((begun_below w _ A _ c).trans (hq.mono (by omega))) (by omega))
  clear h
  have hnb : ((n : Int) / 2 ^ k != 0) = false := pow_test' n k hn
  clear hn
  have t1 : decide ((k : Int) < 0) = false := by simp
  have t2 : decide (64 < (k : Int)) = false := by simp; omega
  have t3 : decide (8192 < (l.length : Int) + (k : Int)) = false := by simp; omega
  go_enter Tryz.func65, Tryz.ntmps65
  go_wp2_with (first | (go_at_call 53; refine HC.out.mono ?_; rintro e w1 ⟨rfl, hq⟩; obtain ⟨hc1, hf1⟩ := old_cells hq) | (go_at_call 67; refine (HCP.out _ hq).mono ?_; rintro e w2 ⟨A2, c2, rfl, ho2, hb2⟩))
  have hs0 : w.heap.size + 2 ≤ w1.heap.size := by have := hq.size; rw [begun_size'] at this; exact this
  have HW0 : Hid (PutRel w w2 l n k (w2.heap.size) (.int .i64 ((k : Int) - 1)) (w2.alloc (.cells #[.int .i64 (l.length : Int), .slice A2 (pack l).length c2] 106))) := putRel_start hs0 ho2 hb2
  have HQ := Lib.hid hq; clear hq
  have HB2 := Lib.hid hb2; clear hb2 ho2 hc1 hf1
  clear HC HCP
  go_loopw [10] (fun p wr => PutRel w w2 l n k (w2.heap.size) p wr) (fun p _ => (intOf p + 1).toNat)
  case atStart => exact HW0.out
  case round =>
    obtain ⟨q, hqk, hp, hw, hfr⟩ := hrel
    rcases q with _ | q
    · have hp' := hp.trans (show Value.int .i64 (((0 : Nat) : Int) - 1) = Value.int .i64 (-1) from rfl)
      clear hp
      subst hp'
      rw [Nat.sub_zero, List.take_of_length_le (by rw [nb_length]; omega)] at hw
      rw [← HL.out] at hw
      have hwb : wr.heap[w.heap.size + 1]? = some (.cells #[.int .i64 0, .slice none 0 0] 27 (0, 0)) := by
        rw [hfr.block _ (by omega), HB2.out.block _ (by omega), HQ.out.block _ (by omega)]
        exact begun_res w _ A _ c
      have hlow : Below w.heap.size w wr := (HB.out.trans (HQ.out.mono (by omega))).trans ((HB2.out.mono (by omega)).trans (hfr.below (fun j hj => by omega)))
      obtain ⟨A3, c3, ⟨d0, d1⟩, ⟨d2, d3, g0, g1⟩, HG⟩ := finish hw (r := w.heap.size + 1) (by omega) (by omega) hwb hlow
      clear hwb hlow hw hfr hqk
      go_wp2
      exact bodyPost_ret (v := .tuple #[.agg #[.int .i64 (L.length : Int), .slice A3 (pack L).length c3], .int .i64 0]) (by simp [results, Tryz.results65, go_sem, d2, d3]) rfl HG.out
    · have hp' := hp.trans (show Value.int .i64 (((q + 1 : Nat) : Int) - 1) = Value.int .i64 (q : Int) from by congr 1; omega)
      clear hp
      subst hp'
      have HW := Lib.hid hw; clear hw
      have HS : Hid (w.heap.size + 2 ≤ wr.heap.size) := by
        have h1 := hfr.size
        have h2 := HB2.out.size
        show _ ≤ _
        omega
      go_wp2_with fail
      rw [and_bit n q hn64]
      refine (addBit_any wr _ (fun j hj => by have := HS.out; omega) _ _ _ (by rw [List.length_append, List.length_take, nb_length]; omega) HW.out).mono ?_
      rintro e w3 ⟨rfl, hw3, hfr3⟩
      go_wp2
      go_roundw
      case rel =>
        refine ⟨q, by omega, by go_num, ?_, hfr.trans hfr3⟩
        rw [List.append_assoc] at hw3
        have e1 : k - q = k - (q + 1) + 1 := by omega
        rw [e1, nb_take_succ n k _ (by omega), show k - 1 - (k - (q + 1)) = q from by omega]
        exact hw3
      case measure => simp [intOf]
def putL (len : Int) (bs : List Nat) (n : Nat) (width : Int) : Int := if chk len bs ≠ 0 then chk len bs else if width < 0 ∨ 64 < width ∨ n / 2 ^ width.toNat ≠ 0 then 3 else if 8192 < len + width then 8 else 0
theorem put_any (len : Int) (A : Option Addr) (c : Nat) (bs : List Nat) (n : Nat) (width : Int) (w : World) (hb : ∀ b ∈ bs, b < 256) (h : Rd w w.heap.size A bs) (hn64 : n < 18446744073709551616) :
    Calls Tryz.prog 65 #[.agg #[.int .i64 len, .slice A bs.length c], .int .u64 (n : Int), .int .i64 width] w
      (Gave w (if putL len bs n width = 0 then unpack len.toNat bs ++ nb n width.toNat else []) (putL len bs n width)) := by
  by_cases hc : chk len bs = 0
  · obtain ⟨l, rfl, hl, rfl⟩ := chk_zero len bs hb hc
    by_cases hw : width < 0 ∨ 64 < width
    · have e : putL (l.length : Int) (pack l) n width = 3 := by unfold putL; rw [if_neg (by omega), if_pos (by omega)]
      rw [e, if_neg (by decide)]
      exact put_width l hl A c n width w h hw
    · obtain ⟨k, rfl⟩ := Int.eq_ofNat_of_zero_le (show 0 ≤ width by omega)
      by_cases hn : n / 2 ^ k = 0
      · by_cases hf : 8192 < l.length + k
        · have e : putL (l.length : Int) (pack l) n (k : Int) = 8 := by unfold putL; rw [if_neg (by omega), Int.toNat_natCast, if_neg (by omega), if_pos (by omega)]
          rw [e, if_neg (by decide)]
          exact put_full l hl A c n k w h (by omega) hn hf
        · have e : putL (l.length : Int) (pack l) n (k : Int) = 0 := by unfold putL; rw [if_neg (by omega), Int.toNat_natCast, if_neg (by omega), if_neg (by omega)]
          rw [e, if_pos rfl, Int.toNat_natCast, Int.toNat_natCast, unpack_pack]
          exact put_ok l _ A c n k w h (by omega) hn (by omega) hn64 rfl
      · have e : putL (l.length : Int) (pack l) n (k : Int) = 3 := by unfold putL; rw [if_neg (by omega), Int.toNat_natCast, if_pos (.inr (.inr hn))]
        rw [e, if_neg (by decide)]
        exact put_big l hl A c n k w h (by omega) hn
  · have e : putL len bs n width = chk len bs := by unfold putL; rw [if_pos hc]
    rw [e, if_neg hc]
    exact put_bad len A c bs n width w hb h hc
end
section
open Go.RowKit
def SameRel (w : World) (xs ys : List Nat) (p : Value) (wr : World) : Prop := ∃ i : Nat, i ≤ xs.length ∧ p = .int .i64 (i : Int) ∧ xs.take i = ys.take i ∧ Below w.heap.size w wr
theorem take_succ_same (xs ys : List Nat) (i : Nat) (h1 : i < xs.length) (h2 : i < ys.length) (h : xs.take i = ys.take i) (he : xs[i]?.getD 0 = ys[i]?.getD 0) : xs.take (i + 1) = ys.take (i + 1) := by
  rw [List.take_succ_eq_append_getElem h1, List.take_succ_eq_append_getElem h2, h]
  rw [List.getElem?_eq_getElem h1, List.getElem?_eq_getElem h2] at he
  simp only [Option.getD_some] at he
  rw [he]
theorem ne_of_at (xs ys : List Nat) (i : Nat) (he : xs[i]?.getD 0 ≠ ys[i]?.getD 0) : ¬ xs = ys := fun h => he (by rw [h])
set_option maxHeartbeats 400000 in
theorem same_len (w : World) (A B : Option Addr) (n m c d : Nat) (hl : n ≠ m) :
    Calls Tryz.prog 64 #[.slice A n c, .slice B m d] w fun e w' => e = .returned (.bool false) ∧ Below w.heap.size w w' := by
  have h1 : ((n : Int) != (m : Int)) = true := by simp; omega
  clear hl
  go_enter Tryz.func64, Tryz.ntmps64
  go_wp2
  go_ret
  exact ⟨rfl, Below.refl _ _⟩
set_option maxHeartbeats 1000000 in
theorem same_bytes (w : World) (A B : Option Addr) (c d : Nat) (xs ys : List Nat) (n : Nat) (hn : xs.length = n) (hm : ys.length = n) (h2 : n ≤ 140737488355328) (hA : Rd w w.heap.size A xs) (hB : Rd w w.heap.size B ys) :
    Calls Tryz.prog 64 #[.slice A n c, .slice B n d] w fun e w' => e = .returned (.bool (decide (xs = ys))) ∧ Below w.heap.size w w' := by
  have HA := Lib.hid hA; clear hA
  have HB := Lib.hid hB; clear hB
  have HN := Lib.hid hn; clear hn
  have HM := Lib.hid hm; clear hm
  have t0 : ((n : Int) != (n : Int)) = false := by simp
  go_enter Tryz.func64, Tryz.ntmps64
  go_wp2
  go_loopw [5] (fun p wr => SameRel w xs ys p wr) (fun p _ => n - (intOf p).toNat)
  case atStart => exact ⟨0, Nat.zero_le _, rfl, rfl, Below.refl _ _⟩
  case round =>
    obtain ⟨i, hi, hp, ht, hb⟩ := hrel
    subst hp
    rw [HN.out] at hi
    by_cases hlt : i < n
    · obtain ⟨b1, o1, rfl, hb1, hc1⟩ : ∃ b off, A = some ⟨b, off, none⟩ ∧ b < w.heap.size ∧ ∀ i, i < xs.length → w.cell? ⟨b, off + i, none⟩ = some (.int .u8 ((xs[i]?.getD 0 : Nat) : Int)) := by
        rcases HA.out with h | h
        · exfalso; have := HN.out; rw [h] at this; simp at this; omega
        · exact h
      obtain ⟨b2, o2, rfl, hb2, hc2⟩ : ∃ b off, B = some ⟨b, off, none⟩ ∧ b < w.heap.size ∧ ∀ i, i < ys.length → w.cell? ⟨b, off + i, none⟩ = some (.int .u8 ((ys[i]?.getD 0 : Nat) : Int)) := by
        rcases HB.out with h | h
        · exfalso; have := HM.out; rw [h] at this; simp at this; omega
        · exact h
      have e1 := (hb.cell (p := ⟨b1, o1 + i, none⟩) hb1).trans (hc1 i (by rw [HN.out]; exact hlt))
      have e2 := (hb.cell (p := ⟨b2, o2 + i, none⟩) hb2).trans (hc2 i (by rw [HM.out]; exact hlt))
      have hstep := fun he => take_succ_same xs ys i (by rw [HN.out]; exact hlt) (by rw [HM.out]; exact hlt) ht he
      have hno := ne_of_at xs ys i
      clear hc1 hc2 ht
      generalize xs[i]?.getD 0 = x at *
      generalize ys[i]?.getD 0 = y at *
      by_cases hxy : x = y
      · subst hxy
        have HT := Lib.hid (hstep rfl)
        clear hstep hno
        have t1 : ((x : Int) != (x : Int)) = false := by simp
        go_wp2
        go_region
        go_wp2
        go_roundw
        case rel => exact ⟨i + 1, by rw [HN.out]; omega, by go_num, HT.out, hb.drew⟩
        case measure => simp [intOf]; omega
      · have HT := Lib.hid (hno hxy)
        clear hstep hno
        have t1 : ((x : Int) != (y : Int)) = true := by simp; omega
        clear hxy
        go_wp2
        go_region
        go_wp2
        go_ret
        exact ⟨by rw [decide_eq_false HT.out]; rfl, hb.drew⟩
    · have HT : Hid (xs = ys) := by
        have e : i = n := by omega
        rw [e, List.take_of_length_le (by rw [HN.out]; omega), List.take_of_length_le (by rw [HM.out]; omega)] at ht
        exact ht
      clear ht
      go_wp2
      go_ret
      exact ⟨by rw [decide_eq_true HT.out]; rfl, hb⟩
theorem same_any (w : World) (A B : Option Addr) (c d : Nat) (xs ys : List Nat) (h2 : xs.length ≤ 140737488355328) (hA : Rd w w.heap.size A xs) (hB : Rd w w.heap.size B ys) :
    Calls Tryz.prog 64 #[.slice A xs.length c, .slice B ys.length d] w fun e w' => e = .returned (.bool (decide (xs = ys))) ∧ Below w.heap.size w w' := by
  by_cases h : xs.length = ys.length
  · rw [← h]; exact same_bytes w A B c d xs ys xs.length rfl h.symm h2 hA hB
  · have e : decide (xs = ys) = false := by rw [decide_eq_false_iff_not]; intro he; exact h (by rw [he])
    rw [e]
    exact same_len w A B _ _ c d h
set_option maxHeartbeats 400000 in
theorem sameBits_any (w : World) (la lb : Int) (A B : Option Addr) (c d : Nat) (xs ys : List Nat) (h2 : xs.length ≤ 140737488355328) (hA : Rd w w.heap.size A xs) (hB : Rd w w.heap.size B ys) :
    Calls Tryz.prog 20 #[.agg #[.int .i64 la, .slice A xs.length c], .agg #[.int .i64 lb, .slice B ys.length d]] w fun e w' => e = .returned (.bool (decide (la = lb) && decide (xs = ys))) ∧ Below w.heap.size w w' := by
  have hB2 := ((Below.refl _ w).alloc (Nat.le_refl _) (.cells #[.int .i64 la, .slice A xs.length c] 27)).alloc (by simp) (.cells #[.int .i64 lb, .slice B ys.length d] 27)
  have HS := same_any ((w.alloc (.cells #[.int .i64 la, .slice A xs.length c] 27)).alloc (.cells #[.int .i64 lb, .slice B ys.length d] 27)) A B c d xs ys h2 (hA.below hB2 (by simp; omega)) (hB.below hB2 (by simp; omega))
  have HS' := Lib.hid HS; clear HS hA hB
  have HB2 := Lib.hid hB2; clear hB2
  by_cases hl : la = lb
  · subst hl
    have t1 : (la == la) = true := by simp
    rw [decide_eq_true rfl, Bool.true_and]
    generalize decide (xs = ys) = r at *
    generalize xs.length = n at *
    generalize ys.length = m at *
    go_enter Tryz.func20, Tryz.ntmps20
    go_wp2_with (go_at_call 64; refine HS'.out.mono ?_; rintro e w1 ⟨rfl, hq⟩)
    go_ret
    exact ⟨rfl, HB2.out.trans (hq.mono (by simp; omega))⟩
  · have t1 : (la == lb) = false := by simpa using hl
    rw [decide_eq_false hl, Bool.false_and]
    clear hl
    generalize decide (xs = ys) = r at *
    generalize xs.length = n at *
    generalize ys.length = m at *
    go_enter Tryz.func20, Tryz.ntmps20
    go_wp2
    go_ret
    exact ⟨rfl, HB2.out⟩
end
section
open Go.RowKit Go.Shelf
attribute [local go_sem] Oper.semAt_some
def KeepQ (Q : Nat → Prop) (W W' : World) : Prop := ∀ k, Q k → W'.heap[k]? = W.heap[k]?
theorem and_byte (l : List Bool) (i : Nat) : bits .and .u8 ((byteAt l (i / 8) : Int) / 2 ^ (7 - i % 8)) 1 = ((l[i]?.getD false).toNat : Int) := by
  have e : (byteAt l (i / 8) : Int) / 2 ^ (7 - i % 8) = ((byteAt l (i / 8) / 2 ^ (7 - i % 8) : Nat) : Int) := by simp
  have h1 : byteAt l (i / 8) / 2 ^ (7 - i % 8) ≤ byteAt l (i / 8) := Nat.div_le_self _ _
  have h2 := byteAt_lt l (i / 8)
  rw [e]
  have := u8_and_nat (byteAt l (i / 8) / 2 ^ (7 - i % 8)) 1 (by omega) (by omega)
  rw [show ((1 : Nat) : Int) = 1 from rfl] at this
  rw [this, Nat.and_one_is_mod, bit_of_byte]
  rfl
theorem take_bits (l : List Bool) (fr i : Nat) (hi : i < l.length) (hf : fr ≤ i) : (l.drop fr).take (i + 1 - fr) = (l.drop fr).take (i - fr) ++ [l[i]?.getD false] := by
  rw [show i + 1 - fr = i - fr + 1 from by omega, List.take_succ_eq_append_getElem (by rw [List.length_drop]; omega)]
  congr 1
  rw [List.getElem_drop, List.getElem?_eq_getElem hi]
  simp only [Option.getD_some, List.cons.injEq, and_true]
  congr 1
  omega
set_option maxRecDepth 100000 in
set_option maxHeartbeats 1000000 in
theorem bits1_in (F : Fence) (n : Nat) (h54 : F.fn 155) (hro : F.round = none) (hn : 1 ≤ n) (lp Bf Bt Bb B0 c : Nat) (A : Option Addr) (Q : Nat → Prop) (l : List Bool) (hl : l.length ≤ 8192) (fr to : Nat) (hft : fr ≤ to) (hto : to ≤ l.length) (J Jx : List Bool → World → Prop)
    (hQt : Q Bt) (hQb : Q Bb) (hQ : ∀ k, k < B0 → Q k)
    (hY : ∀ pre x W, J pre W → pre.length < to - fr → YieldAt F (n - 1) Tryz.prog lp #[.int .u8 (x.toNat : Int)] W fun e W' =>
      (e = .returned (.bool true) ∧ J (pre ++ [x]) W' ∧ KeepQ Q W W') ∨ (e = .returned (.bool false) ∧ Jx (pre ++ [x]) W'))
    (W : World) (hBf : W.cell? ⟨Bf, 0, none⟩ = some (.int .i64 (fr : Int))) (hBt : W.cell? ⟨Bt, 0, none⟩ = some (.int .i64 (to : Int))) (hBb : W.cell? ⟨Bb, 1, none⟩ = some (.slice A (pack l).length c))
    (hRd : Rd W B0 A (pack l)) (h0 : J [] W) :
    CallsIn F n Tryz.prog 155 #[.func (.yield lp) #[] #[], .pointer (some ⟨Bf, 0, none⟩), .pointer (some ⟨Bt, 0, none⟩), .pointer (some ⟨Bb, 0, none⟩)] W fun e W' => (∃ v, e = .returned v) ∧
      ((∃ ys, ys = (l.drop fr).take (to - fr) ∧ J ys W') ∨ (∃ pre, pre <+: (l.drop fr).take (to - fr) ∧ Jx pre W')) := by
  refine callsIn_of_wp Tryz.func155 rfl h54 ?_ hro
  simp only [Tryz.ntmps155, List.size_toArray, List.length_cons, List.length_nil, Nat.reduceAdd, Nat.reduceSub, Array.replicate_succ, Array.replicate_zero, List.push_toArray, List.append_toArray, List.nil_append, List.cons_append]
  gi_wp2
  gi_loopw [5] (fun p wr => ∃ i : Nat, fr ≤ i ∧ i ≤ to ∧ p = .int .i64 (i : Int) ∧ KeepQ Q W wr ∧ J ((l.drop fr).take (i - fr)) wr)
    (fun p _ => to - (intOf p).toNat)
  case atStart =>
    exact ⟨fr, Nat.le_refl _, hft, rfl, fun _ _ => rfl, by simpa using h0⟩
  case round =>
    obtain ⟨i, hi1, hi2, rfl, hk, hJ⟩ := hrel
    have ct : wr.cell? ⟨Bt, 0, none⟩ = some (.int .i64 (to : Int)) := (World.cell?_of_block (w := W) (a := ⟨Bt, 0, none⟩) (hk Bt hQt)).trans hBt
    by_cases hlt : i < to
    · have hpl := pack_length l
      obtain ⟨b, off, rfl, hbB, hc⟩ : ∃ b off, A = some ⟨b, off, none⟩ ∧ b < B0 ∧ ∀ i, i < (pack l).length → W.cell? ⟨b, off + i, none⟩ = some (.int .u8 (((pack l)[i]?.getD 0 : Nat) : Int)) := by
        rcases hRd with h | h
        · exfalso; rw [h] at hpl; simp at hpl; omega
        · exact h
      have cb : wr.cell? ⟨Bb, 1, none⟩ = some (.slice (some ⟨b, off, none⟩) (pack l).length c) := (World.cell?_of_block (w := W) (a := ⟨Bb, 1, none⟩) (hk Bb hQb)).trans hBb
      have cx : wr.cell? ⟨b, off + i / 8, none⟩ = some (.int .u8 (byteAt l (i / 8) : Int)) := by
        have := (World.cell?_of_block (w := W) (a := ⟨b, off + i / 8, none⟩) (hk b (hQ b hbB))).trans (hc (i / 8) (by omega))
        rwa [pack_get] at this
      obtain ⟨fn, tmps, assign, body, hy, hR⟩ := hY _ (l[i]?.getD false) wr hJ (by rw [List.length_take, List.length_drop]; omega)
      have i0 : (0 : Int) ≤ (i : Int) / 8 := by omega
      have i1 : (i : Int) / 8 < ((pack l).length : Int) := by omega
      have i2 : ((i : Int) / 8).toNat = i / 8 := by omega
      clear hpl hc
      have hbit := and_byte l i
      have HT := Lib.hid (take_bits l fr i (by omega) hi1)
      generalize l[i]?.getD false = x at *
      gi_wp2
      refine hR.mono ?_
      rintro e W3 (⟨rfl, hJ3, hk3⟩ | ⟨rfl, hJx3⟩)
      · gi_wp2
        go_roundw
        case rel => exact ⟨i + 1, by omega, by omega, by go_num, fun k hq => (hk3 k hq).trans (hk k hq), by rw [HT.out]; exact hJ3⟩
        case measure => simp [intOf]; omega
      · gi_wp2
        refine bodyPost_ret (results_none rfl _ _ _) rfl ?_
        refine ⟨⟨_, rfl⟩, .inr ⟨_, ?_, hJx3⟩⟩
        rw [← HT.out]
        exact (List.take_prefix_take_left (by omega) : List.take (i + 1 - fr) (List.drop fr l) <+: List.take (to - fr) (List.drop fr l))
    · have e : i = to := by omega
      have HJ : Hid (J ((l.drop fr).take (to - fr)) wr) := by rw [← e]; exact hJ
      clear e hJ
      gi_wp2
      go_end0
      exact ⟨⟨_, rfl⟩, .inl ⟨_, rfl, HJ.out⟩⟩
theorem keepQ_t {Q : Nat → Prop} {A B C : World} (h : KeepQ Q A B) (k : KeepQ Q B C) : KeepQ Q A C := fun i hi => (k i hi).trans (h i hi)
theorem keepQ_b {Q : Nat → Prop} {w : World} (hn : ∀ k, Q k → k < w.heap.size) (W : World) (l : Nat) (o o' : Obj) (hl : w.heap.size ≤ l) (_ : W.heap[l]? = some o) (_ : o.isCells = false) (_ : o.isWalk = false) : KeepQ Q W (W.putObj l o') :=
  fun k hk => World.putObj_heap_other (by have := hn k hk; omega)
theorem bits_stops (F : Fence) (n : Nat) (h54 : F.fn 155) (hro : F.round = none) (hn : 1 ≤ n) (Bf Bt Bb B0 c : Nat) (A : Option Addr) (Q : Nat → Prop) (l : List Bool) (hl : l.length ≤ 8192) (fr to : Nat) (hft : fr ≤ to) (hto : to ≤ l.length)
    (hQt : Q Bt) (hQb : Q Bb) (hQ : ∀ k, k < B0 → Q k) (w : World) (hB0 : B0 ≤ w.heap.size) (kf : Bf < w.heap.size) (kt : Bt < w.heap.size) (kb : Bb < w.heap.size)
    (hBf : w.cell? ⟨Bf, 0, none⟩ = some (.int .i64 (fr : Int))) (hBt : w.cell? ⟨Bt, 0, none⟩ = some (.int .i64 (to : Int))) (hBb : w.cell? ⟨Bb, 1, none⟩ = some (.slice A (pack l).length c)) (hRd : Rd w B0 A (pack l)) :
    SeqStopsK F n Tryz.prog 155 #[.pointer (some ⟨Bf, 0, none⟩), .pointer (some ⟨Bt, 0, none⟩), .pointer (some ⟨Bb, 0, none⟩)] (fun x : Bool => #[Value.int .u8 (x.toNat : Int)]) (KeepQ Q) (fun ys => ys = (l.drop fr).take (to - fr)) (fun pre => pre <+: (l.drop fr).take (to - fr)) (to - fr) w :=
  fun lp J Jx W hW _ _ hY h0 =>
    bits1_in F n h54 hro hn lp Bf Bt Bb B0 c A Q l hl fr to hft hto J Jx hQt hQb hQ hY W ((hW.cell (p := ⟨Bf, 0, none⟩) kf).trans hBf) ((hW.cell (p := ⟨Bt, 0, none⟩) kt).trans hBt) ((hW.cell (p := ⟨Bb, 1, none⟩) kb).trans hBb) (hRd.below (hW.mono hB0) (Nat.le_refl _)) h0
set_option maxHeartbeats 1000000 in
/-- The maker of the visit: its three arguments are boxed. -/
theorem bitsOf_in (F : Fence) (n : Nat) (h40 : F.fn 115) (hro : F.round = none) (fr to : Int) (len : Int) (A : Option Addr) (m c : Nat) (w : World) :
    CallsIn F n Tryz.prog 115 #[.agg #[.int .i64 len, .slice A m c], .int .i64 fr, .int .i64 to] w fun e w' => e = .returned (.func (.func 155) #[] #[.pointer (some ⟨w.heap.size + 1, 0, none⟩), .pointer (some ⟨w.heap.size + 2, 0, none⟩), .pointer (some ⟨w.heap.size, 0, none⟩)]) ∧
      w' = ((w.alloc (.cells #[.int .i64 len, .slice A m c] 27)).alloc (.cells #[.int .i64 fr] 3)).alloc (.cells #[.int .i64 to] 3) := by
  refine callsIn_of_wp Tryz.func115 rfl h40 ?_ hro
  simp only [Tryz.ntmps115, List.size_toArray, List.length_cons, List.length_nil, Nat.reduceAdd, Nat.reduceSub, Array.replicate_succ, Array.replicate_zero, List.push_toArray, List.append_toArray, List.nil_append, List.cons_append]
  gi_wp2
  go_ret
  exact ⟨rfl, rfl⟩
end
section
open Go.RowKit Go.Shelf
attribute [local go_sem] Oper.semAt_some
theorem wr_own (S : Nat → Prop) (W : Nat) (l0 : List Bool) : Own (fun (pre : List Bool) X => Wr X S W (l0 ++ pre)) := by
  rintro pre X Y row ⟨v, hW, ho, hS, hg⟩ hgr hrow
  refine ⟨v, (hgr.block W (Array.getElem?_eq_some_iff.1 hW).1 (fun e => ?_)).trans hW, ho.kept hgr ?_, hS, hg⟩
  · obtain ⟨o, h1, h2⟩ := hrow W e.symm
    rw [hW] at h1; cases h1; cases h2
  · rcases ho.2 with ⟨rfl, _⟩ | ⟨g, cap, cur, rfl, _, hgb, _⟩
    · exact .inl rfl
    · refine .inr fun e' => ?_
      obtain ⟨o, h1, h2⟩ := hrow g (by simpa [Value.ownBlock] using e'.symm)
      rw [hgb] at h1; cases h1; cases h2
theorem fr_own {β : Type} (S : Nat → Prop) (w : World) (B : Nat) (hB : w.heap.size ≤ B) (hS : ∀ k, S k → k < B) : OwnFrom B (fun (_ : β) X => Fr S w X ∧ B ≤ X.heap.size) := by
  rintro s X Y row ⟨h, hz⟩ hgr hrow
  have hk : ∀ k, k < B → Y.heap[k]? = X.heap[k]? := fun k hk => hgr.block k (by omega) (fun e => by have := (hrow k e.symm).1; omega)
  refine ⟨⟨hgr.os.trans h.os, hgr.tape.trans h.tape, hgr.output.trans h.output, Nat.le_trans h.size hgr.size, fun k hs => (hk k (hS k hs)).trans (h.block k hs), fun k o ho hc => ?_⟩, Nat.le_trans hz hgr.size⟩
  have : k < w.heap.size := (Array.getElem?_eq_some_iff.1 ho).1
  exact (hk k (by omega)).trans (h.same k o ho hc)
theorem fr_put {S : Nat → Prop} {w X : World} {B D : Nat} {o o' : Obj} (h : Fr S w X) (hB : w.heap.size ≤ B) (hS : ∀ k, S k → k < B) (hD : B ≤ D) (_ : X.heap[D]? = some o) : Fr S w (X.putObj D o') :=
  ⟨h.os, h.tape, h.output, by rw [World.putObj_size]; exact h.size, fun k hs => (World.putObj_heap_other (by have := hS k hs; omega)).trans (h.block k hs), fun k p hp hc =>
    (World.putObj_heap_other (by have : k < w.heap.size := (Array.getElem?_eq_some_iff.1 hp).1; omega)).trans (h.same k p hp hc)⟩
def visit (S0 : Nat → Prop) (s : Nat) (k : Nat) : Prop := S0 k ∨ k = s ∨ k = s + 2 ∨ k = s + 3 ∨ k = s + 4
theorem five (w : World) (a b c d e : Obj) : ((((((w.alloc a).alloc b).alloc c).alloc d).alloc e).heap.size = w.heap.size + 5) ∧
    (((((w.alloc a).alloc b).alloc c).alloc d).alloc e).heap[w.heap.size]? = some a ∧ (((((w.alloc a).alloc b).alloc c).alloc d).alloc e).heap[w.heap.size + 2]? = some c ∧
    (((((w.alloc a).alloc b).alloc c).alloc d).alloc e).heap[w.heap.size + 3]? = some d ∧ (((((w.alloc a).alloc b).alloc c).alloc d).alloc e).heap[w.heap.size + 4]? = some e := by
  have n0 := World.alloc_heap_new w a
  have n2 := World.alloc_heap_new ((w.alloc a).alloc b) c
  have n3 := World.alloc_heap_new (((w.alloc a).alloc b).alloc c) d
  have n4 := World.alloc_heap_new ((((w.alloc a).alloc b).alloc c).alloc d) e
  simp only [World.size_alloc] at n2 n3 n4
  refine ⟨by simp only [World.size_alloc], ?_, ?_, ?_, n4⟩
  · rw [Below.heap_alloc _ _ _ (by simp only [World.size_alloc]; omega), Below.heap_alloc _ _ _ (by simp only [World.size_alloc]; omega), Below.heap_alloc _ _ _ (by simp only [World.size_alloc]; omega), Below.heap_alloc _ _ _ (by simp only [World.size_alloc]; omega)]; exact n0
  · rw [Below.heap_alloc _ _ _ (by simp only [World.size_alloc]; omega), Below.heap_alloc _ _ _ (by simp only [World.size_alloc]; omega)]; exact n2
  · rw [Below.heap_alloc _ _ _ (by simp only [World.size_alloc]; omega)]; exact n3
theorem box_cell {w : World} {B : Nat} {t : TypeId} {v : Value} (h : w.heap[B]? = some (.cells #[v] t (0, 0))) : w.cell? ⟨B, 0, none⟩ = some v := by simp [World.cell?, h]
theorem Wr.keep {w w' : World} {S S' : Nat → Prop} {W : Nat} {l : List Bool} (h : Wr w S W l) (hk : ∀ k, k < w.heap.size → w'.heap[k]? = w.heap[k]?) (hS : ∀ k, S' k → S k ∨ w.heap.size ≤ k) : Wr w' S' W l := by
  obtain ⟨v, hW, ho, hs, hg⟩ := h
  have hlt : W < w.heap.size := (Array.getElem?_eq_some_iff.1 hW).1
  refine ⟨v, (hk W hlt).trans hW, ⟨ho.1, ?_⟩, fun h => ?_, fun g e h => ?_⟩
  · rcases ho.2 with h | ⟨g, cap, cur, h1, h2, h3, h4⟩
    · exact .inl h
    · exact .inr ⟨g, cap, cur, h1, h2, (hk g (Array.getElem?_eq_some_iff.1 h3).1).trans h3, h4⟩
  · rcases hS W h with h | h
    · exact hs h
    · omega
  · rcases hS g h with h | h
    · exact hg g e h
    · have := (ho.lt g e).2; omega
set_option maxRecDepth 100000 in
set_option maxHeartbeats 2000000 in
theorem addBits_any (w : World) (S0 : Nat → Prop) (hS0 : ∀ k, S0 k → k < w.heap.size) (W : Nat) (l0 l : List Bool) (hl : l.length ≤ 8192) (A : Option Addr) (c B0 : Nat) (hB0 : ∀ k, k < B0 → S0 k) (hB1 : B0 ≤ w.heap.size) (fr to : Nat) (hft : fr ≤ to) (hto : to ≤ l.length)
    (hroom : l0.length + (to - fr) ≤ 8192) (hw : Wr w S0 W l0) (hRd : Rd w B0 A (pack l)) :
    Calls Tryz.prog 68 #[.pointer (some ⟨W, 0, none⟩), .agg #[.int .i64 (l.length : Int), .slice A (pack l).length c], .int .i64 (fr : Int), .int .i64 (to : Int)] w fun e w' => e = .returned (.tuple #[]) ∧ Wr w' S0 W (l0 ++ (l.drop fr).take (to - fr)) ∧ Fr S0 w w' := by
  refine (callsIn_wide (n := 3)).1 ?_
  refine callsIn_of_wp_marks Tryz.func68 rfl trivial ?_ rfl
  simp only [Tryz.ntmps68, List.size_toArray, List.length_cons, List.length_nil, Nat.reduceAdd, Nat.reduceSub, Array.replicate_succ, Array.replicate_zero, List.push_toArray, List.append_toArray, List.nil_append, List.cons_append]
  gi_wp2_with (refine ⟨trivial, ?_⟩; gi_at_call 115; refine (bitsOf_in Fence.wide 2 trivial rfl _ _ _ _ _ _ _).mono ?_; rintro e w' ⟨rfl, rfl⟩)
  simp only [Nat.add_assoc, Nat.reduceAdd]
  obtain ⟨hz, b0, b2, b3, b4⟩ := five w (.cells #[.pointer (some ⟨W, 0, none⟩)] 173) (.cells #[.int .i64 (l.length : Int), .slice A (pack l).length c] 27) (.cells #[.int .i64 (l.length : Int), .slice A (pack l).length c] 27) (.cells #[.int .i64 (fr : Int)] 3) (.cells #[.int .i64 (to : Int)] 3)
  have hfr0 : Fr S0 w (((((w.alloc (.cells #[.pointer (some ⟨W, 0, none⟩)] 173)).alloc (.cells #[.int .i64 (l.length : Int), .slice A (pack l).length c] 27)).alloc (.cells #[.int .i64 (l.length : Int), .slice A (pack l).length c] 27)).alloc (.cells #[.int .i64 (fr : Int)] 3)).alloc (.cells #[.int .i64 (to : Int)] 3)) := by
    refine (((((Fr.refl S0 w).alloc hS0 _).alloc ?_ _).alloc ?_ _).alloc ?_ _).alloc ?_ _
    all_goals
      intro k hk
      have := hS0 k hk
      simp only [World.size_alloc]
      omega
  have hold : ∀ k, k < w.heap.size → (((((w.alloc (.cells #[.pointer (some ⟨W, 0, none⟩)] 173)).alloc (.cells #[.int .i64 (l.length : Int), .slice A (pack l).length c] 27)).alloc (.cells #[.int .i64 (l.length : Int), .slice A (pack l).length c] 27)).alloc (.cells #[.int .i64 (fr : Int)] 3)).alloc (.cells #[.int .i64 (to : Int)] 3)).heap[k]? = w.heap[k]? := by
    intro k hk
    rw [Below.heap_alloc _ _ _ (by simp only [World.size_alloc]; omega), Below.heap_alloc _ _ _ (by simp only [World.size_alloc]; omega), Below.heap_alloc _ _ _ (by simp only [World.size_alloc]; omega), Below.heap_alloc _ _ _ (by simp only [World.size_alloc]; omega), Below.heap_alloc _ _ _ hk]
  generalize (((((w.alloc (.cells #[.pointer (some ⟨W, 0, none⟩)] 173)).alloc (.cells #[.int .i64 (l.length : Int), .slice A (pack l).length c] 27)).alloc (.cells #[.int .i64 (l.length : Int), .slice A (pack l).length c] 27)).alloc (.cells #[.int .i64 (fr : Int)] 3)).alloc (.cells #[.int .i64 (to : Int)] 3)) = w5 at *
  have hvis : ∀ k, visit S0 w.heap.size k → k < w5.heap.size := by
    rintro k (h | h | h | h | h)
    · have := hS0 k h; omega
    all_goals omega
  have hwr0 : Wr w5 (visit S0 w.heap.size) W l0 := hw.keep hold (fun k hk => by
    rcases hk with h | h | h | h | h
    · exact .inl h
    all_goals (right; omega))
  refine wpIn_rangeFunc_ownG rfl (by decide) (gf := 155) (lb := #[.pointer (some ⟨w.heap.size + 3, 0, none⟩), .pointer (some ⟨w.heap.size + 4, 0, none⟩), .pointer (some ⟨w.heap.size + 2, 0, none⟩)]) rfl trivial (enters_of Tryz.func155 (by kernel_rfl) rfl)
    (bits_stops Fence.wide 2 trivial rfl (by decide) (w.heap.size + 3) (w.heap.size + 4) (w.heap.size + 2) B0 c A (visit S0 w.heap.size) l hl fr to hft hto (.inr (.inr (.inr (.inr rfl)))) (.inr (.inr (.inl rfl))) (fun k hk => .inl (hB0 k hk)) w5 (by omega) (by omega) (by omega) (by omega)
      (box_cell b3) (box_cell b4) (blk_cells b2).2.1 (hRd.keep (Nat.le_refl _) (fun k hk => hold k (by omega))))
    (fun h k => keepQ_t h k) (keepQ_b hvis) (Below.refl _ _) (fun _ => rfl)
    (fun pre X => Wr X (visit S0 w.heap.size) W (l0 ++ pre) ∧ (Fr (visit S0 w.heap.size) w5 X ∧ w5.heap.size ≤ X.heap.size))
    (fun _ _ _ => False)
    (OwnFrom.and (Own.from (wr_own _ W l0) _) (fr_own _ w5 w5.heap.size (Nat.le_refl _) hvis))
    (fun _ _ _ _ _ hs _ _ => hs)
    ⟨by rw [List.append_nil]; exact hwr0, Fr.refl _ _, Nat.le_refl _⟩
    (fun x => { tmps := #[.pointer (some ⟨W, 0, none⟩), .agg #[.int .i64 (l.length : Int), .slice A (pack l).length c], .int .i64 (fr : Int), .int .i64 (to : Int), .pointer (some ⟨w.heap.size, 0, none⟩), .pointer (some ⟨w.heap.size + 1, 0, none⟩), undef, undef, .int .u8 (x.toNat : Int), .agg #[.int .i64 (l.length : Int), .slice A (pack l).length c], .int .i64 (fr : Int), .int .i64 (to : Int), .func (.func 155) #[] #[.pointer (some ⟨w.heap.size + 3, 0, none⟩), .pointer (some ⟨w.heap.size + 4, 0, none⟩), .pointer (some ⟨w.heap.size + 2, 0, none⟩)], .int .u8 (x.toNat : Int), undef, undef, undef], defers := [] }) ?assign ?body ?done ?stop
  case assign =>
    intro lp x X K hK
    gi_wp2
    exact hK
  case body =>
    rintro lp pre x X ⟨hwr, hfr, hzz⟩ hlt
    have hcp : X.cell? ⟨w.heap.size, 0, none⟩ = some (.pointer (some ⟨W, 0, none⟩)) := box_cell ((hfr.block _ (.inr (.inl rfl))).trans b0)
    have HA := Lib.hid (addBit_any X (visit S0 w.heap.size) (fun k hk => by have := hvis k hk; omega) W (l0 ++ pre) x (by rw [List.length_append]; omega) hwr)
    clear hwr
    gi_wp2_with (refine ⟨trivial, ?_⟩; gi_at_call 114; refine (CallsIn.inRound lp (callsIn_wide.2 HA.out)).mono ?_; rintro e X2 ⟨rfl, hw2, hf2⟩)
    exact ⟨hf2.others.from _, hf2.block, by rw [← List.append_assoc]; exact hw2, hfr.trans hf2, Nat.le_trans hzz hf2.size⟩
  case done =>
    rintro D ys X hD rfl ⟨hwr, hfr, hzz⟩ hK
    gi_wp2
    refine ⟨by simp, .inl ⟨_, _, rfl, run_takeDeferred hK, ?_⟩⟩
    have hw3 : Wr (X.putObj D (.deferred none)) S0 W (l0 ++ (l.drop fr).take (to - fr)) := by
      obtain ⟨v, h1, h2, h3, h4⟩ := wr_own (visit S0 w.heap.size) W l0 _ X (X.putObj D (.deferred none)) (some D) hwr (grownBy_putObj' X D _) (fun r e => by cases e; exact ⟨_, hK, rfl⟩)
      exact ⟨v, h1, h2, fun h => h3 (.inl h), fun g e h => h4 g e (.inl h)⟩
    have hf3 : Fr S0 w (X.putObj D (.deferred none)) := fr_put (hfr0.trans (hfr.mono (fun k h => .inl h))) (by omega) (fun k hk => by have := hS0 k hk; omega) hD hK
    exact ⟨_, results_none rfl _ _ _, rfl, hw3, hf3⟩
  case stop =>
    rintro D c pre W _ _ h _
    exact h.elim
end
section
open Go.RowKit
def begun3 (w : World) (a b : Value) (a' b' : Value) : World := ((w.alloc (.cells #[a, a'] 27)).alloc (.cells #[b, b'] 27)).alloc (.cells #[.int .i64 0, .slice none 0 0] 27)
theorem begun3_size (w : World) (a b a' b' : Value) : (begun3 w a b a' b').heap.size = w.heap.size + 3 := by
  unfold begun3; simp only [World.size_alloc]
theorem begun3_below (w : World) (a b a' b' : Value) : Below w.heap.size w (begun3 w a b a' b') := (((Below.refl _ w).alloc (Nat.le_refl _) _).alloc (by simp) _).alloc (by simp only [World.size_alloc]; omega) _
theorem begun3_res (w : World) (a b a' b' : Value) : (begun3 w a b a' b').heap[w.heap.size + 1 + 1]? = some (.cells #[.int .i64 0, .slice none 0 0] 27) := by
  have := World.alloc_heap_new ((w.alloc (.cells #[a, a'] 27)).alloc (.cells #[b, b'] 27)) (.cells #[.int .i64 0, .slice none 0 0] 27)
  simp only [World.size_alloc] at this
  exact this
theorem check_later (len : Int) (A : Option Addr) (c : Nat) (bs : List Nat) (w : World) (hb : ∀ b ∈ bs, b < 256) (h : Rd w w.heap.size A bs) (W' : World) (hW : Below w.heap.size w W') :
    Calls Tryz.prog 53 #[.agg #[.int .i64 len, .slice A bs.length c]] W' fun e w' => e = .returned (.int .i64 (chk len bs)) ∧ Below W'.heap.size W' w' :=
  check_any len A c bs W' hb (h.below hW hW.size)
set_option maxHeartbeats 400000 in
theorem join_a (lx ly : Int) (A B : Option Addr) (c d : Nat) (xs ys : List Nat) (w : World) (hx : ∀ b ∈ xs, b < 256) (hA : Rd w w.heap.size A xs) (h : chk lx xs ≠ 0) :
    Calls Tryz.prog 23 #[.agg #[.int .i64 lx, .slice A xs.length c], .agg #[.int .i64 ly, .slice B ys.length d]] w (Gave w [] (chk lx xs)) := by
  have HX := Lib.hid (check_later lx A c xs w hx hA (begun3 w (.int .i64 lx) (.int .i64 ly) (.slice A xs.length c) (.slice B ys.length d)) (begun3_below _ _ _ _ _))
  have hcb : (chk lx xs != 0) = true := by simpa using h
  clear h hx hA
  have HB := Lib.hid (begun3_below w (.int .i64 lx) (.int .i64 ly) (.slice A xs.length c) (.slice B ys.length d))
  rw [begun3_size] at HX
  generalize chk lx xs = e0 at *
  generalize xs.length = n at *
  generalize ys.length = m at *
  go_enter Tryz.func23, Tryz.ntmps23
  go_wp2_with (go_at_call 53; refine HX.out.mono ?_; rintro e w1 ⟨rfl, hq⟩; unfold begun3 at hq; obtain ⟨hc1, hf1⟩ := old_cells hq)
  exact bodyPost_ret (v := .tuple #[.agg #[.int .i64 0, .slice none 0 0], .int .i64 e0]) (by simp [results, Tryz.results23, go_sem, hc1]) rfl (gave_zero (HB.out.trans (hq.mono (by omega))) _ (by omega) e0)
set_option maxHeartbeats 400000 in
theorem join_b (lx ly : Int) (A B : Option Addr) (c d : Nat) (xs ys : List Nat) (w : World) (hx : ∀ b ∈ xs, b < 256) (hA : Rd w w.heap.size A xs) (h : chk lx xs = 0) (hy : ∀ b ∈ ys, b < 256) (hB : Rd w w.heap.size B ys) (h2 : chk ly ys ≠ 0) :
    Calls Tryz.prog 23 #[.agg #[.int .i64 lx, .slice A xs.length c], .agg #[.int .i64 ly, .slice B ys.length d]] w (Gave w [] (chk ly ys)) := by
  have hX := check_later lx A c xs w hx hA (begun3 w (.int .i64 lx) (.int .i64 ly) (.slice A xs.length c) (.slice B ys.length d)) (begun3_below _ _ _ _ _)
  rw [h, begun3_size] at hX
  have HX := Lib.hid hX; clear hX
  have HY := Lib.hid (check_later ly B d ys w hy hB)
  have hcb : (chk ly ys != 0) = true := by simpa using h2
  clear h h2 hx hA hy hB
  have HB := Lib.hid (begun3_below w (.int .i64 lx) (.int .i64 ly) (.slice A xs.length c) (.slice B ys.length d))
  generalize chk ly ys = e0 at *
  generalize xs.length = n at *
  generalize ys.length = m at *
  go_enter Tryz.func23, Tryz.ntmps23
  go_wp2_with fail
  refine HX.out.mono ?_
  rintro e w1 ⟨rfl, hq⟩
  unfold begun3 at hq
  obtain ⟨hc1, hf1⟩ := old_cells hq
  have HS : Hid (w.heap.size + 3 ≤ w1.heap.size) := by have := hq.size; rw [show (((w.alloc _).alloc _).alloc _).heap.size = w.heap.size + 3 from begun3_size w _ _ _ _] at this; exact this
  go_wp2_with fail
  refine (HY.out w1 (HB.out.trans (hq.mono (by omega)))).mono ?_
  rintro e w2 ⟨rfl, hq2⟩
  have hq3 := hq.trans (hq2.mono HS.out)
  clear hc1 hf1
  obtain ⟨hc1, hf1⟩ := old_cells hq3
  go_wp2
  exact bodyPost_ret (v := .tuple #[.agg #[.int .i64 0, .slice none 0 0], .int .i64 e0]) (by simp [results, Tryz.results23, go_sem, hc1]) rfl (gave_zero (HB.out.trans (hq3.mono (by omega))) _ (by omega) e0)
set_option maxHeartbeats 1000000 in
theorem join_in (a b L : List Bool) (ha : a.length ≤ 8192) (hb : b.length ≤ 8192) (A B : Option Addr) (c d : Nat) (w : World) (hA : Rd w w.heap.size A (pack a)) (hB : Rd w w.heap.size B (pack b)) (hL : L = a ++ b) :
    Calls Tryz.prog 23 #[.agg #[.int .i64 (a.length : Int), .slice A (pack a).length c], .agg #[.int .i64 (b.length : Int), .slice B (pack b).length d]] w (Gave w (if 8192 < a.length + b.length then [] else L) (if 8192 < a.length + b.length then 8 else 0)) := by
  have hX := check_later (a.length : Int) A c (pack a) w (pack_lt a) hA (begun3 w (.int .i64 (a.length : Int)) (.int .i64 (b.length : Int)) (.slice A (pack a).length c) (.slice B (pack b).length d)) (begun3_below _ _ _ _ _)
  rw [chk_pack a ha, begun3_size] at hX
  have HX := Lib.hid hX; clear hX
  have hY := check_later (b.length : Int) B d (pack b) w (pack_lt b) hB
  rw [chk_pack b hb] at hY
  have HY := Lib.hid hY; clear hY
  have HBz := Lib.hid (begun3_below w (.int .i64 (a.length : Int)) (.int .i64 (b.length : Int)) (.slice A (pack a).length c) (.slice B (pack b).length d))
  have HCP : Hid (∀ w2, Below w.heap.size w w2 → Calls Tryz.prog 67 #[.agg #[.int .i64 (a.length : Int), .slice A (pack a).length c]] w2 (Copied w2 (a.length : Int) (pack a).length (pack a))) := fun w2 hq =>
    copy_any _ w2 A c (pack a) (by rw [pack_length]; omega) (hA.below hq hq.size)
  have HL := Lib.hid hL; clear hL
  have HBR := Lib.hid hB; clear hB hA
  by_cases hf : 8192 < a.length + b.length
  · rw [if_pos hf, if_pos hf]
    go_enter Tryz.func23, Tryz.ntmps23
    go_wp2_with fail
    refine HX.out.mono ?_
    rintro e w1 ⟨rfl, hq⟩
    unfold begun3 at hq
    obtain ⟨hc1, hf1⟩ := old_cells hq
    have HS : Hid (w.heap.size + 3 ≤ w1.heap.size) := by have := hq.size; rw [show (((w.alloc _).alloc _).alloc _).heap.size = w.heap.size + 3 from begun3_size w _ _ _ _] at this; exact this
    go_wp2_with fail
    refine (HY.out w1 (HBz.out.trans (hq.mono (by omega)))).mono ?_
    rintro e w2 ⟨rfl, hq2⟩
    have hq3 := hq.trans (hq2.mono HS.out)
    clear hc1 hf1
    obtain ⟨hc1, hf1⟩ := old_cells hq3
    go_wp2
    exact bodyPost_ret (v := .tuple #[.agg #[.int .i64 0, .slice none 0 0], .int .i64 8]) (by simp [results, Tryz.results23, go_sem, hc1]) rfl (gave_zero (HBz.out.trans (hq3.mono (by omega))) _ (by omega) 8)
  · rw [if_neg hf, if_neg hf]
    have hf' : a.length + b.length ≤ 8192 := by omega
    clear hf
    go_enter Tryz.func23, Tryz.ntmps23
    go_wp2_with fail
    refine HX.out.mono ?_
    rintro e w1 ⟨rfl, hq⟩
    unfold begun3 at hq
    obtain ⟨hc1, hf1⟩ := old_cells hq
    have HS : Hid (w.heap.size + 3 ≤ w1.heap.size) := by have := hq.size; rw [show (((w.alloc _).alloc _).alloc _).heap.size = w.heap.size + 3 from begun3_size w _ _ _ _] at this; exact this
    go_wp2_with fail
    refine (HY.out w1 (HBz.out.trans (hq.mono (by omega)))).mono ?_
    rintro e w2 ⟨rfl, hq2⟩
    have hq3 := hq.trans (hq2.mono HS.out)
    have HS2 : Hid (w.heap.size + 3 ≤ w2.heap.size) := by have h1 := HS.out; have h2 := hq2.size; show _ ≤ _; omega
    clear hc1 hf1 hq hq2
    obtain ⟨hc1, hf1⟩ := old_cells hq3
    go_wp2_with fail
    refine (HCP.out w2 (HBz.out.trans (hq3.mono (by omega)))).mono ?_
    rintro e w3 ⟨A2, c2, rfl, ho3, hb3⟩
    have hq4 := hq3.trans (hb3.mono HS2.out)
    have HS3 : Hid (w.heap.size + 3 ≤ w3.heap.size) := by have h1 := HS2.out; have h2 := hb3.size; show _ ≤ _; omega
    have HW : Hid (Wr (w3.alloc (.cells #[.int .i64 (a.length : Int), .slice A2 (pack a).length c2] 106)) (fun k => k < w.heap.size + 3) w3.heap.size a) := Wr.laid ho3 (fun j hj => by have := HS2.out; omega) hb3.size
    have HR : Hid (Rd (w3.alloc (.cells #[.int .i64 (a.length : Int), .slice A2 (pack a).length c2] 106)) w.heap.size B (pack b)) := HBR.out.below ((HBz.out.trans (hq4.mono (by omega))).alloc (by have := HS3.out; omega) _) (Nat.le_refl _)
    clear hc1 hf1 ho3 hb3
    obtain ⟨hc1, hf1⟩ := old_cells hq4
    have hs1 : w.heap.size + 1 < w3.heap.size := by have := HS3.out; omega
    go_wp2_with fail
    have hz0 : ((0 : Nat) : Int) = 0 := rfl
    rw [← hz0]
    refine (addBits_any _ (fun k => k < w.heap.size + 3) (fun j hj => by have := HS3.out; simp only [World.size_alloc]; omega) w3.heap.size a b hb B d w.heap.size (fun k hk => by omega) (by have := HS3.out; simp only [World.size_alloc]; omega) 0 b.length (by omega) (Nat.le_refl _) (by omega) HW.out HR.out).mono ?_
    rintro e w4 ⟨rfl, hw4, hf4⟩
    rw [List.drop_zero, Nat.sub_zero, List.take_length, ← HL.out] at hw4
    have hwb : w4.heap[w.heap.size + 1 + 1]? = some (.cells #[.int .i64 0, .slice none 0 0] 27 (0, 0)) := by
      rw [hf4.block _ (by omega), Below.heap_alloc _ _ _ (by have := HS3.out; omega), hq4.block _ (by omega)]
      exact begun3_res w _ _ _ _
    have hlow : Below w.heap.size w w4 := ((HBz.out.trans (hq4.mono (by omega))).alloc (by have := HS3.out; omega) _).trans (hf4.below (fun j hj => by omega))
    obtain ⟨A3, c3, ⟨d0, d1⟩, ⟨d2, d3, g0, g1⟩, HG⟩ := finish hw4 (r := w.heap.size + 1 + 1) (by omega) (by omega) hwb hlow
    clear hwb hlow hw4 hf4 hc1 hf1 hz0
    go_wp2
    exact bodyPost_ret (v := .tuple #[.agg #[.int .i64 (L.length : Int), .slice A3 (pack L).length c3], .int .i64 0]) (by simp [results, Tryz.results23, go_sem, d2, d3]) rfl HG.out
def joinE (lx : Int) (xs : List Nat) (ly : Int) (ys : List Nat) : Int := if chk lx xs ≠ 0 then chk lx xs else if chk ly ys ≠ 0 then chk ly ys else if 8192 < lx + ly then 8 else 0
theorem join_any (lx ly : Int) (A B : Option Addr) (c d : Nat) (xs ys : List Nat) (w : World) (hx : ∀ b ∈ xs, b < 256) (hA : Rd w w.heap.size A xs) (hy : ∀ b ∈ ys, b < 256) (hB : Rd w w.heap.size B ys) :
    Calls Tryz.prog 23 #[.agg #[.int .i64 lx, .slice A xs.length c], .agg #[.int .i64 ly, .slice B ys.length d]] w (Gave w (if joinE lx xs ly ys = 0 then unpack lx.toNat xs ++ unpack ly.toNat ys else []) (joinE lx xs ly ys)) := by
  by_cases h : chk lx xs = 0
  · by_cases h2 : chk ly ys = 0
    · obtain ⟨a, rfl, ha, rfl⟩ := chk_zero lx xs hx h
      obtain ⟨b, rfl, hb, rfl⟩ := chk_zero ly ys hy h2
      have hj := join_in a b _ ha hb A B c d w hA hB rfl
      have e : joinE (a.length : Int) (pack a) (b.length : Int) (pack b) = if 8192 < a.length + b.length then 8 else 0 := by
        unfold joinE
        rw [if_neg (by omega), if_neg (by omega)]
        by_cases hf : 8192 < a.length + b.length
        · rw [if_pos hf, if_pos (by omega)]
        · rw [if_neg hf, if_neg (by omega)]
      rw [e, Int.toNat_natCast, Int.toNat_natCast, unpack_pack, unpack_pack]
      by_cases hf : 8192 < a.length + b.length
      · rw [if_pos hf, if_pos hf] at hj
        rw [if_pos hf]
        rw [if_neg (by decide)]
        exact hj
      · rw [if_neg hf, if_neg hf] at hj
        rw [if_neg hf]
        rw [if_pos rfl]
        exact hj
    · have e : joinE lx xs ly ys = chk ly ys := by unfold joinE; rw [if_neg (by omega), if_pos h2]
      rw [e, if_neg h2]
      exact join_b lx ly A B c d xs ys w hx hA h hy hB h2
  · have e : joinE lx xs ly ys = chk lx xs := by unfold joinE; rw [if_pos h]
    rw [e, if_neg h]
    exact join_a lx ly A B c d xs ys w hx hA h
end
section
open Go.RowKit
set_option maxHeartbeats 400000 in
theorem cut_bad (len : Int) (A : Option Addr) (c : Nat) (bs : List Nat) (fr to : Int) (w : World) (hb : ∀ b ∈ bs, b < 256) (h : Rd w w.heap.size A bs) (hc : chk len bs ≠ 0) :
    Calls Tryz.prog 35 #[.agg #[.int .i64 len, .slice A bs.length c], .int .i64 fr, .int .i64 to] w (Gave w [] (chk len bs)) := by
  have HC := Lib.hid (check_begun len A c bs w hb h)
  have hcb : (chk len bs != 0) = true := by simpa using hc
  clear hc hb h
  have HB := Lib.hid (begun_below w len A bs.length c)
  generalize chk len bs = e0 at *
  generalize bs.length = nn at *
  go_enter Tryz.func35, Tryz.ntmps35
  go_wp2_with (go_at_call 53; refine HC.out.mono ?_; rintro e w1 ⟨rfl, hq⟩; obtain ⟨hc1, hf1⟩ := old_cells hq)
  exact bodyPost_ret (v := .tuple #[.agg #[.int .i64 0, .slice none 0 0], .int .i64 e0]) (by simp [results, Tryz.results35, go_sem, hc1]) rfl (gave_zero (HB.out.trans (hq.mono (by omega))) _ (by omega) e0)
set_option maxHeartbeats 400000 in
theorem cut_range (l : List Bool) (hl : l.length ≤ 8192) (A : Option Addr) (c : Nat) (fr to : Int) (w : World) (h : Rd w w.heap.size A (pack l)) (hw : fr < 0 ∨ to < fr ∨ (l.length : Int) < to) :
    Calls Tryz.prog 35 #[.agg #[.int .i64 (l.length : Int), .slice A (pack l).length c], .int .i64 fr, .int .i64 to] w (Gave w [] 3) := by
  have hc0 := check_begun (l.length : Int) A c (pack l) w (pack_lt l) h
  rw [chk_pack l hl] at hc0
  have HC := Lib.hid hc0; clear hc0
  clear h
  have HB := Lib.hid (begun_below w (l.length : Int) A (pack l).length c)
  generalize (pack l).length = nn at *
  generalize l.length = ln at *
  have hw3 : fr < 0 ∨ (0 ≤ fr ∧ to < fr) ∨ (0 ≤ fr ∧ fr ≤ to ∧ (ln : Int) < to) := by omega
  clear hw
  rcases hw3 with hw | ⟨g1, hw⟩ | ⟨g1, g2, hw⟩
  · go_enter Tryz.func35, Tryz.ntmps35
    go_wp2_with (go_at_call 53; refine HC.out.mono ?_; rintro e w1 ⟨rfl, hq⟩; obtain ⟨hc1, hf1⟩ := old_cells hq)
    exact bodyPost_ret (v := .tuple #[.agg #[.int .i64 0, .slice none 0 0], .int .i64 3]) (by simp [results, Tryz.results35, go_sem, hc1]) rfl (gave_zero (HB.out.trans (hq.mono (by omega))) _ (by omega) 3)
  · have t1 : decide (fr < 0) = false := by simp; omega
    have t2 : decide (to < fr) = true := by simp; omega
    go_enter Tryz.func35, Tryz.ntmps35
    go_wp2_with (go_at_call 53; refine HC.out.mono ?_; rintro e w1 ⟨rfl, hq⟩; obtain ⟨hc1, hf1⟩ := old_cells hq)
    exact bodyPost_ret (v := .tuple #[.agg #[.int .i64 0, .slice none 0 0], .int .i64 3]) (by simp [results, Tryz.results35, go_sem, hc1]) rfl (gave_zero (HB.out.trans (hq.mono (by omega))) _ (by omega) 3)
  · have t1 : decide (fr < 0) = false := by simp; omega
    have t2 : decide (to < fr) = false := by simp; omega
    have t3 : decide ((ln : Int) < to) = true := by simp; omega
    go_enter Tryz.func35, Tryz.ntmps35
    go_wp2_with (go_at_call 53; refine HC.out.mono ?_; rintro e w1 ⟨rfl, hq⟩; obtain ⟨hc1, hf1⟩ := old_cells hq)
    exact bodyPost_ret (v := .tuple #[.agg #[.int .i64 0, .slice none 0 0], .int .i64 3]) (by simp [results, Tryz.results35, go_sem, hc1]) rfl (gave_zero (HB.out.trans (hq.mono (by omega))) _ (by omega) 3)
set_option maxHeartbeats 1000000 in
theorem cut_ok (l L : List Bool) (hl : l.length ≤ 8192) (A : Option Addr) (c : Nat) (fr to : Nat) (w : World) (h : Rd w w.heap.size A (pack l)) (h1 : fr ≤ to) (h2 : to ≤ l.length) (hL : L = (l.drop fr).take (to - fr)) :
    Calls Tryz.prog 35 #[.agg #[.int .i64 (l.length : Int), .slice A (pack l).length c], .int .i64 (fr : Int), .int .i64 (to : Int)] w (Gave w L 0) := by
  have hc0 := check_begun (l.length : Int) A c (pack l) w (pack_lt l) h
  rw [chk_pack l hl] at hc0
  have HC := Lib.hid hc0; clear hc0
  have HL := Lib.hid hL; clear hL
  have HR := Lib.hid h; clear h
  have HB := Lib.hid (begun_below w (l.length : Int) A (pack l).length c)
  have t1 : decide ((fr : Int) < 0) = false := by simp
  have t2 : decide ((to : Int) < (fr : Int)) = false := by simp; omega
  have t3 : decide ((l.length : Int) < (to : Int)) = false := by simp; omega
  go_enter Tryz.func35, Tryz.ntmps35
  go_wp2_with fail
  refine HC.out.mono ?_
  rintro e w1 ⟨rfl, hq⟩
  obtain ⟨hc1, hf1⟩ := old_cells hq
  have hs : w.heap.size + 2 ≤ w1.heap.size := by have := hq.size; rw [begun_size'] at this; exact this
  have HS := Lib.hid hs
  have hs1 : w.heap.size + 1 < w1.heap.size := by omega
  have hs2 : w.heap.size < w1.heap.size := by omega
  have HW : Hid (Wr (w1.alloc (.cells #[.int .i64 (([] : List Bool).length : Int), .slice none 0 0] 106)) (fun k => k < w.heap.size + 2) w1.heap.size []) :=
    Wr.laid (base := w1.heap.size) (World.ownsRow_nil _ _ _ _) (fun j hj => by omega) (Nat.le_refl _)
  go_wp2_with fail
  refine (addBits_any _ (fun k => k < w.heap.size + 2) (fun j hj => by have := HS.out; simp only [World.size_alloc]; omega) w1.heap.size [] l hl A c w.heap.size (fun k hk => by omega) (by have := HS.out; simp only [World.size_alloc]; omega) fr to h1 h2 (by simp; omega) HW.out (HR.out.below ((HB.out.trans (hq.mono (by omega))).alloc (by omega) _) (Nat.le_refl _))).mono ?_
  rintro e w4 ⟨rfl, hw4, hf4⟩
  rw [List.nil_append, ← HL.out] at hw4
  have hwb : w4.heap[w.heap.size + 1]? = some (.cells #[.int .i64 0, .slice none 0 0] 27 (0, 0)) := by
    rw [hf4.block _ (by omega), Below.heap_alloc _ _ _ (by omega), hq.block _ (by omega)]
    exact begun_res w _ A _ c
  have hlow : Below w.heap.size w w4 := ((HB.out.trans (hq.mono (by omega))).alloc (by omega) _).trans (hf4.below (fun j hj => by omega))
  obtain ⟨A3, c3, ⟨d0, d1⟩, ⟨d2, d3, g0, g1⟩, HG⟩ := finish hw4 (r := w.heap.size + 1) (by omega) (by omega) hwb hlow
  clear hwb hlow hw4 hf4 hc1 hf1
  go_wp2
  exact bodyPost_ret (v := .tuple #[.agg #[.int .i64 (L.length : Int), .slice A3 (pack L).length c3], .int .i64 0]) (by simp [results, Tryz.results35, go_sem, d2, d3]) rfl HG.out
def cutE (len : Int) (bs : List Nat) (fr to : Int) : Int := if chk len bs ≠ 0 then chk len bs else if fr < 0 ∨ to < fr ∨ len < to then 3 else 0
theorem cut_any (len : Int) (A : Option Addr) (c : Nat) (bs : List Nat) (fr to : Int) (w : World) (hb : ∀ b ∈ bs, b < 256) (h : Rd w w.heap.size A bs) :
    Calls Tryz.prog 35 #[.agg #[.int .i64 len, .slice A bs.length c], .int .i64 fr, .int .i64 to] w (Gave w (if cutE len bs fr to = 0 then ((unpack len.toNat bs).drop fr.toNat).take (to.toNat - fr.toNat) else []) (cutE len bs fr to)) := by
  by_cases hc : chk len bs = 0
  · obtain ⟨l, rfl, hl, rfl⟩ := chk_zero len bs hb hc
    by_cases hw : fr < 0 ∨ to < fr ∨ (l.length : Int) < to
    · have e : cutE (l.length : Int) (pack l) fr to = 3 := by unfold cutE; rw [if_neg (by omega), if_pos hw]
      rw [e, if_neg (by decide)]
      exact cut_range l hl A c fr to w h hw
    · have e : cutE (l.length : Int) (pack l) fr to = 0 := by unfold cutE; rw [if_neg (by omega), if_neg hw]
      rw [e, if_pos rfl]
      obtain ⟨f, rfl⟩ := Int.eq_ofNat_of_zero_le (show 0 ≤ fr by omega)
      obtain ⟨t, rfl⟩ := Int.eq_ofNat_of_zero_le (show 0 ≤ to by omega)
      rw [Int.toNat_natCast, Int.toNat_natCast, Int.toNat_natCast, unpack_pack]
      exact cut_ok l _ hl A c f t w h (by omega) (by omega) rfl
  · have e : cutE len bs fr to = chk len bs := by unfold cutE; rw [if_pos hc]
    rw [e, if_neg hc]
    exact cut_bad len A c bs fr to w hb h hc
end
section
open Go.RowKit Go.Shelf
attribute [local go_sem] Oper.semAt_some
def num (l : List Bool) : Nat := l.foldl (fun n b => 2 * n + b.toNat) 0
theorem num_snoc (l : List Bool) (b : Bool) : num (l ++ [b]) = 2 * num l + b.toNat := by simp [num]
theorem fold_lt (l : List Bool) : ∀ a : Nat, l.foldl (fun n b => 2 * n + b.toNat) a < (a + 1) * 2 ^ l.length := by
  induction l with
  | nil => intro a; simp
  | cons b l ih =>
    intro a
    rw [List.foldl_cons, List.length_cons]
    refine Nat.lt_of_lt_of_le (ih _) ?_
    have := Bool.toNat_le b
    rw [Nat.pow_succ, Nat.mul_comm (2 ^ l.length) 2, ← Nat.mul_assoc]
    exact Nat.mul_le_mul_right _ (by omega)
theorem num_lt (l : List Bool) : num l < 2 ^ l.length := by
  have := fold_lt l 0
  rwa [Nat.zero_add, Nat.one_mul] at this
def Got (w : World) (n : Nat) (err : Int) (e : Ending) (w' : World) : Prop := e = .returned (.tuple #[.int .u64 (n : Int), .int .i64 err]) ∧ Below w.heap.size w w'
theorem check_one (len : Int) (A : Option Addr) (c : Nat) (bs : List Nat) (w : World) (hb : ∀ b ∈ bs, b < 256) (h : Rd w w.heap.size A bs) :
    Calls Tryz.prog 53 #[.agg #[.int .i64 len, .slice A bs.length c]] (w.alloc (.cells #[.int .i64 len, .slice A bs.length c] 27)) fun e w' => e = .returned (.int .i64 (chk len bs)) ∧ Below (w.heap.size + 1) (w.alloc (.cells #[.int .i64 len, .slice A bs.length c] 27)) w' := by
  have := check_any len A c bs (w.alloc (.cells #[.int .i64 len, .slice A bs.length c] 27)) hb (h.below ((Below.refl _ w).alloc (Nat.le_refl _) _) (by simp))
  rwa [World.size_alloc] at this
theorem one_below (w : World) (o : Obj) : Below w.heap.size w (w.alloc o) := (Below.refl _ w).alloc (Nat.le_refl _) _
set_option maxHeartbeats 400000 in
theorem get_bad (len : Int) (A : Option Addr) (c : Nat) (bs : List Nat) (at_ width : Int) (w : World) (hb : ∀ b ∈ bs, b < 256) (h : Rd w w.heap.size A bs) (hc : chk len bs ≠ 0) :
    Calls Tryz.prog 66 #[.agg #[.int .i64 len, .slice A bs.length c], .int .i64 at_, .int .i64 width] w (Got w 0 (chk len bs)) := by
  have HC := Lib.hid (check_one len A c bs w hb h)
  have hcb : (chk len bs != 0) = true := by simpa using hc
  clear hc hb h
  have HB := Lib.hid (one_below w (.cells #[.int .i64 len, .slice A bs.length c] 27))
  generalize chk len bs = e0 at *
  generalize bs.length = nn at *
  go_enter Tryz.func66, Tryz.ntmps66
  go_wp2_with (go_at_call 53; refine HC.out.mono ?_; rintro e w1 ⟨rfl, hq⟩; obtain ⟨hc1, hf1⟩ := old_cells hq)
  go_ret2
  exact ⟨rfl, HB.out.trans (hq.mono (by omega))⟩
set_option maxHeartbeats 400000 in
theorem get_range (l : List Bool) (hl : l.length ≤ 8192) (A : Option Addr) (c : Nat) (at_ width : Int) (w : World) (h : Rd w w.heap.size A (pack l)) (hw : width < 0 ∨ 64 < width ∨ at_ < 0 ∨ (l.length : Int) < at_) :
    Calls Tryz.prog 66 #[.agg #[.int .i64 (l.length : Int), .slice A (pack l).length c], .int .i64 at_, .int .i64 width] w (Got w 0 3) := by
  have hc0 := check_one (l.length : Int) A c (pack l) w (pack_lt l) h
  rw [chk_pack l hl] at hc0
  have HC := Lib.hid hc0; clear hc0
  clear h
  have HB := Lib.hid (one_below w (.cells #[.int .i64 (l.length : Int), .slice A (pack l).length c] 27))
  generalize (pack l).length = nn at *
  generalize l.length = ln at *
  have hw3 : width < 0 ∨ 64 < width ∨ (0 ≤ width ∧ width ≤ 64 ∧ at_ < 0) ∨ (0 ≤ width ∧ width ≤ 64 ∧ 0 ≤ at_ ∧ (ln : Int) < at_) := by omega
  clear hw
  rcases hw3 with hw | hw | ⟨g1, g2, hw⟩ | ⟨g1, g2, g3, hw⟩
  · have t1 : decide (width < 0) = true := by simp; omega
    go_enter Tryz.func66, Tryz.ntmps66
    go_wp2_with (go_at_call 53; refine HC.out.mono ?_; rintro e w1 ⟨rfl, hq⟩; obtain ⟨hc1, hf1⟩ := old_cells hq)
    go_ret2
    exact ⟨rfl, HB.out.trans (hq.mono (by omega))⟩
  · have t1 : decide (width < 0) = false := by simp; omega
    have t2 : decide (64 < width) = true := by simp; omega
    go_enter Tryz.func66, Tryz.ntmps66
    go_wp2_with (go_at_call 53; refine HC.out.mono ?_; rintro e w1 ⟨rfl, hq⟩; obtain ⟨hc1, hf1⟩ := old_cells hq)
    go_ret2
    exact ⟨rfl, HB.out.trans (hq.mono (by omega))⟩
  · have t1 : decide (width < 0) = false := by simp; omega
    have t2 : decide (64 < width) = false := by simp; omega
    have t3 : decide (at_ < 0) = true := by simp; omega
    go_enter Tryz.func66, Tryz.ntmps66
    go_wp2_with (go_at_call 53; refine HC.out.mono ?_; rintro e w1 ⟨rfl, hq⟩; obtain ⟨hc1, hf1⟩ := old_cells hq)
    go_ret2
    exact ⟨rfl, HB.out.trans (hq.mono (by omega))⟩
  · have t1 : decide (width < 0) = false := by simp; omega
    have t2 : decide (64 < width) = false := by simp; omega
    have t3 : decide (at_ < 0) = false := by simp; omega
    have t4 : decide ((ln : Int) < at_) = true := by simp; omega
    go_enter Tryz.func66, Tryz.ntmps66
    go_wp2_with (go_at_call 53; refine HC.out.mono ?_; rintro e w1 ⟨rfl, hq⟩; obtain ⟨hc1, hf1⟩ := old_cells hq)
    go_ret2
    exact ⟨rfl, HB.out.trans (hq.mono (by omega))⟩
set_option maxHeartbeats 400000 in
theorem get_short (l : List Bool) (hl : l.length ≤ 8192) (A : Option Addr) (c : Nat) (at_ width : Int) (w : World) (h : Rd w w.heap.size A (pack l)) (h1 : 0 ≤ width) (h2 : width ≤ 64) (h3 : 0 ≤ at_) (h4 : at_ ≤ (l.length : Int)) (hs : (l.length : Int) - at_ < width) :
    Calls Tryz.prog 66 #[.agg #[.int .i64 (l.length : Int), .slice A (pack l).length c], .int .i64 at_, .int .i64 width] w (Got w 0 7) := by
  have hc0 := check_one (l.length : Int) A c (pack l) w (pack_lt l) h
  rw [chk_pack l hl] at hc0
  have HC := Lib.hid hc0; clear hc0
  clear h
  have HB := Lib.hid (one_below w (.cells #[.int .i64 (l.length : Int), .slice A (pack l).length c] 27))
  generalize (pack l).length = nn at *
  generalize l.length = ln at *
  have t1 : decide (width < 0) = false := by simp; omega
  have t2 : decide (64 < width) = false := by simp; omega
  have t3 : decide (at_ < 0) = false := by simp; omega
  have t4 : decide ((ln : Int) < at_) = false := by simp; omega
  go_enter Tryz.func66, Tryz.ntmps66
  go_wp2_with (go_at_call 53; refine HC.out.mono ?_; rintro e w1 ⟨rfl, hq⟩; obtain ⟨hc1, hf1⟩ := old_cells hq)
  go_ret2
  exact ⟨rfl, HB.out.trans (hq.mono (by omega))⟩
theorem or_last (m : Nat) (b : Bool) : (2 * m) ||| b.toNat = 2 * m + b.toNat := by
  cases b
  · simp
  · have h := Nat.two_pow_add_eq_or_of_lt (i := 1) (b := 1) (by decide) m
    simpa using h.symm
theorem shl_or (m : Nat) (b : Bool) (hm : m < 2 ^ 63) : bits .or .u64 ((m : Int) * 2) (b.toNat : Int) = ((2 * m + b.toNat : Nat) : Int) := by
  have hb := Bool.toNat_le b
  have e : (m : Int) * 2 = ((2 * m : Nat) : Int) := by omega
  rw [e, u64_or_nat (2 * m) b.toNat (by omega) (by omega), or_last]
theorem box_own {β : Type} (B : Nat) (t : TypeId) (f : β → Value) : Own (fun (s : β) X => Boxed X B t (f s)) := by
  rintro s X Y row h hgr hrow
  refine h.kept hgr (fun e => ?_)
  obtain ⟨o, h1, h2⟩ := hrow B e.symm
  rw [show X.heap[B]? = _ from h] at h1; cases h1; cases h2
theorem four (w : World) (a b c d : Obj) : (((((w.alloc a).alloc b).alloc c).alloc d).heap.size = w.heap.size + 4) ∧
    ((((w.alloc a).alloc b).alloc c).alloc d).heap[w.heap.size]? = some a ∧ ((((w.alloc a).alloc b).alloc c).alloc d).heap[w.heap.size + 1]? = some b ∧
    ((((w.alloc a).alloc b).alloc c).alloc d).heap[w.heap.size + 2]? = some c ∧ ((((w.alloc a).alloc b).alloc c).alloc d).heap[w.heap.size + 3]? = some d := by
  have n0 := World.alloc_heap_new w a
  have n1 := World.alloc_heap_new (w.alloc a) b
  have n2 := World.alloc_heap_new ((w.alloc a).alloc b) c
  have n3 := World.alloc_heap_new (((w.alloc a).alloc b).alloc c) d
  simp only [World.size_alloc] at n1 n2 n3
  refine ⟨by simp only [World.size_alloc], ?_, ?_, ?_, n3⟩
  · rw [Below.heap_alloc _ _ _ (by simp only [World.size_alloc]; omega), Below.heap_alloc _ _ _ (by simp only [World.size_alloc]; omega), Below.heap_alloc _ _ _ (by simp only [World.size_alloc]; omega)]; exact n0
  · rw [Below.heap_alloc _ _ _ (by simp only [World.size_alloc]; omega), Below.heap_alloc _ _ _ (by simp only [World.size_alloc]; omega)]; exact n1
  · rw [Below.heap_alloc _ _ _ (by simp only [World.size_alloc]; omega)]; exact n2
def kept (B N : Nat) (k : Nat) : Prop := k < B ∨ k = N + 1 ∨ k = N + 2 ∨ k = N + 3
set_option maxRecDepth 100000 in
set_option maxHeartbeats 2000000 in
theorem get_ok (l : List Bool) (hl : l.length ≤ 8192) (A : Option Addr) (c : Nat) (p k : Nat) (w : World) (h : Rd w w.heap.size A (pack l)) (h1 : k ≤ 64) (h2 : p + k ≤ l.length) :
    Calls Tryz.prog 66 #[.agg #[.int .i64 (l.length : Int), .slice A (pack l).length c], .int .i64 (p : Int), .int .i64 (k : Int)] w (Got w (num ((l.drop p).take k)) 0) := by
  have hc0 := check_one (l.length : Int) A c (pack l) w (pack_lt l) h
  rw [chk_pack l hl] at hc0
  have HC := Lib.hid hc0; clear hc0
  have HR := Lib.hid h; clear h
  have HB := Lib.hid (one_below w (.cells #[.int .i64 (l.length : Int), .slice A (pack l).length c] 27))
  have t1 : decide ((k : Int) < 0) = false := by simp
  have t2 : decide (64 < (k : Int)) = false := by simp; omega
  have t3 : decide ((p : Int) < 0) = false := by simp
  have t4 : decide ((l.length : Int) < (p : Int)) = false := by simp; omega
  have t5 : decide ((l.length : Int) - (p : Int) < (k : Int)) = false := by simp; omega
  refine (callsIn_wide (n := 3)).1 ?_
  refine callsIn_of_wp_marks Tryz.func66 rfl trivial ?_ rfl
  simp only [Tryz.ntmps66, List.size_toArray, List.length_cons, List.length_nil, Nat.reduceAdd, Nat.reduceSub, Array.replicate_succ, Array.replicate_zero, List.push_toArray, List.append_toArray, List.nil_append, List.cons_append]
  gi_wp2_with (first | (refine ⟨trivial, ?_⟩; gi_at_call 115; refine (bitsOf_in Fence.wide 2 trivial rfl _ _ _ _ _ _ _).mono ?_; rintro e w' ⟨rfl, rfl⟩) | (refine ⟨trivial, ?_⟩; gi_at_call 53; refine (callsIn_wide.2 HC.out).mono ?_; rintro e w1 ⟨rfl, hq⟩; obtain ⟨hc1, hf1⟩ := old_cells hq; have hs1 : w.heap.size < w1.heap.size := (by have := hq.size; rw [World.size_alloc] at this; omega)))
  simp only [Nat.add_assoc, Nat.reduceAdd]
  have hpk : ((p : Int) + (k : Int)) = ((p + k : Nat) : Int) := by omega
  rw [hpk]
  clear hpk
  obtain ⟨hz, b0, b1, b2, b3⟩ := four w1 (.cells #[.int .u64 0] 58) (.cells #[.int .i64 (l.length : Int), .slice A (pack l).length c] 27) (.cells #[.int .i64 (p : Int)] 3) (.cells #[.int .i64 ((p + k : Nat) : Int)] 3)
  have hlow0 : Below w1.heap.size w1 ((((w1.alloc (.cells #[.int .u64 0] 58)).alloc (.cells #[.int .i64 (l.length : Int), .slice A (pack l).length c] 27)).alloc (.cells #[.int .i64 (p : Int)] 3)).alloc (.cells #[.int .i64 ((p + k : Nat) : Int)] 3)) :=
    ((((Below.refl _ w1).alloc (Nat.le_refl _) _).alloc (by simp) _).alloc (by simp only [World.size_alloc]; omega) _).alloc (by simp only [World.size_alloc]; omega) _
  generalize ((((w1.alloc (.cells #[.int .u64 0] 58)).alloc (.cells #[.int .i64 (l.length : Int), .slice A (pack l).length c] 27)).alloc (.cells #[.int .i64 (p : Int)] 3)).alloc (.cells #[.int .i64 ((p + k : Nat) : Int)] 3)) = w5 at *
  have hlow : Below w.heap.size w w5 := (HB.out.trans (hq.mono (by omega))).trans (hlow0.mono (by omega))
  have hvis : ∀ j, kept w.heap.size w1.heap.size j → j < w5.heap.size := by
    rintro j (h | h | h | h) <;> omega
  refine wpIn_rangeFunc_ownG rfl (by decide) (gf := 155) (lb := #[.pointer (some ⟨w1.heap.size + 2, 0, none⟩), .pointer (some ⟨w1.heap.size + 3, 0, none⟩), .pointer (some ⟨w1.heap.size + 1, 0, none⟩)]) rfl trivial (enters_of Tryz.func155 (by kernel_rfl) rfl)
    (bits_stops Fence.wide 2 trivial rfl (by decide) (w1.heap.size + 2) (w1.heap.size + 3) (w1.heap.size + 1) w.heap.size c A (kept w.heap.size w1.heap.size) l hl p (p + k) (by omega) h2 (.inr (.inr (.inr rfl))) (.inr (.inl rfl)) (fun j hj => .inl hj) w5 (by omega) (by omega) (by omega) (by omega)
      (box_cell b2) (box_cell b3) (blk_cells b1).2.1 (HR.out.below hlow (Nat.le_refl _)))
    (fun h k => keepQ_t h k) (keepQ_b hvis) (Below.refl _ _) (fun _ => rfl)
    (fun pre X => Boxed X w1.heap.size 58 (.int .u64 (num pre : Int)) ∧ (Fr (kept w.heap.size w1.heap.size) w5 X ∧ w5.heap.size ≤ X.heap.size))
    (fun _ _ _ => False)
    (OwnFrom.and (Own.from (box_own w1.heap.size 58 (fun pre => .int .u64 (num pre : Int))) _) (fr_own _ w5 w5.heap.size (Nat.le_refl _) hvis))
    (fun _ _ _ _ _ hs _ _ => hs)
    ⟨b0, Fr.refl _ _, Nat.le_refl _⟩
    ?a1 ?assign ?body ?done ?stop
  case assign =>
    intro lp x X K hK
    gi_wp2
    exact hK
  case body =>
    rintro lp pre x X ⟨hbx, hfr, hzz⟩ hlt
    have hcn := hbx.cell
    have hfn := hbx.frozen
    have hnl : num pre < 2 ^ 63 := Nat.lt_of_lt_of_le (num_lt pre) (Nat.pow_le_pow_right (by omega) (by omega))
    have HO := Lib.hid (shl_or (num pre) x hnl)
    have HSn := Lib.hid (num_snoc pre x)
    have hb1 := Bool.toNat_le x
    gi_wp2
    rw [HO.out, ← HSn.out]
    have hnk : ¬ kept w.heap.size w1.heap.size w1.heap.size := by rintro (h | h | h | h) <;> omega
    exact ⟨(KeepsOthers.setCell _ _ _).from _, fun j hj => Below.heap_setCell _ _ _ _ (fun e => by have e' : j = w1.heap.size := e; subst e'; exact hnk hj), hbx.set _, hfr.setCell (p := ⟨w1.heap.size, 0, none⟩) hnk _, by simpa [World.setCell] using hzz⟩
  case done =>
    rintro D ys X hD rfl ⟨hbx, hfr, hzz⟩ hK
    rw [Nat.add_sub_cancel_left] at hbx
    have hcn := hbx.cell
    have HF : Hid (Below w.heap.size w (X.putObj D (.deferred none))) := (hlow.trans (hfr.below (fun j hj => .inl hj))).trans (belowK_b (w := w) (Nat.le_refl _) X D _ _ (by have := hlow.size; omega) hK rfl rfl)
    generalize num (List.take k (List.drop p l)) = m at *
    gi_wp2
    refine ⟨by simp, .inl ⟨_, _, rfl, run_takeDeferred hK, ?_⟩⟩
    refine ⟨.tuple #[.int .u64 (m : Int), .int .i64 0], ?_, rfl, HF.out⟩
    simp [results, Tryz.results66, go_sem]
  case stop =>
    rintro D c pre W _ _ h _
    exact h.elim
def getE (len : Int) (bs : List Nat) (p width : Int) : Int := if chk len bs ≠ 0 then chk len bs else if width < 0 ∨ 64 < width ∨ p < 0 ∨ len < p then 3 else if len - p < width then 7 else 0
def getN (len : Int) (bs : List Nat) (p width : Int) : Nat := if getE len bs p width = 0 then num (((unpack len.toNat bs).drop p.toNat).take width.toNat) else 0
theorem get_any (len : Int) (A : Option Addr) (c : Nat) (bs : List Nat) (p width : Int) (w : World) (hb : ∀ b ∈ bs, b < 256) (h : Rd w w.heap.size A bs) :
    Calls Tryz.prog 66 #[.agg #[.int .i64 len, .slice A bs.length c], .int .i64 p, .int .i64 width] w (Got w (getN len bs p width) (getE len bs p width)) := by
  unfold getN
  by_cases hc : chk len bs = 0
  · obtain ⟨l, rfl, hl, rfl⟩ := chk_zero len bs hb hc
    by_cases hw : width < 0 ∨ 64 < width ∨ p < 0 ∨ (l.length : Int) < p
    · have e : getE (l.length : Int) (pack l) p width = 3 := by unfold getE; rw [if_neg (by omega), if_pos hw]
      rw [e, if_neg (by decide)]
      exact get_range l hl A c p width w h hw
    · by_cases hs : (l.length : Int) - p < width
      · have e : getE (l.length : Int) (pack l) p width = 7 := by unfold getE; rw [if_neg (by omega), if_neg hw, if_pos hs]
        rw [e, if_neg (by decide)]
        exact get_short l hl A c p width w h (by omega) (by omega) (by omega) (by omega) hs
      · have e : getE (l.length : Int) (pack l) p width = 0 := by unfold getE; rw [if_neg (by omega), if_neg hw, if_neg hs]
        rw [e, if_pos rfl]
        obtain ⟨q, rfl⟩ := Int.eq_ofNat_of_zero_le (show 0 ≤ p by omega)
        obtain ⟨k, rfl⟩ := Int.eq_ofNat_of_zero_le (show 0 ≤ width by omega)
        rw [Int.toNat_natCast, Int.toNat_natCast, Int.toNat_natCast, unpack_pack]
        exact get_ok l hl A c q k w h (by omega) (by omega)
  · have e : getE len bs p width = chk len bs := by unfold getE; rw [if_pos hc]
    rw [e, if_neg hc]
    exact get_bad len A c bs p width w hb h hc
end
end Go.Proofs.YtbddcokjkdoaaaaGreat
