/- Lists of the call's own that grow, their slices in one row: what an append to one, or the sort of one, leaves; each fact with its conditions. -/
import Derived.Test.YtnbjhldpadjgfaaSortI
import Derived.Test.YtnbjhldpadjgfaaWSeq
import Derived.Test.YtnbjhldpadjgfaaWChk
import Derived.Maps.AppendAt
import Derived.Deep.OwnRows
namespace Go.Proofs.Ytnbjhldpadjgfaa
set_option maxRecDepth 100000
set_option linter.unusedVariables false
open Go.RowKit Go.Shelf

theorem grownBy_setCell_any (W : World) (b i : Nat) (v : Value) : W.grownBy (W.setCell ⟨b, i, none⟩ v) (some b) :=
  ⟨rfl, rfl, rfl, by simp [World.setCell], fun k hk hne => Below.heap_setCell _ _ _ _ (fun e => hne (by rw [e]))⟩
/-- Block O holds n slices, each of a row of the call's own; no two of them lie in one block. -/
structure GR (X : World) (base O n : Nat) (v : Nat → Value) (rows : Nat → List Nat) : Prop where
  blk : X.heap[O]? = some (.cells ((List.range n).map v).toArray 25 (0, 0))
  own : ∀ i, i < n → X.ownsRow base 3 1 (v i) (rows i).length (zc (ns (rows i)))
  dif : ∀ i j g, i < n → j < n → i ≠ j → (v i).ownBlock = some g → (v j).ownBlock ≠ some g
theorem own_int_block {X : World} {base k : Nat} {v : Value} {xs : List Value} (h : X.ownsRow base 3 1 v k xs) {g : Nat} (hg : v.ownBlock = some g) : base ≤ g ∧ ∃ cs, X.heap[g]? = some (.cells cs 3 (0, 0)) := by
  rcases h.2 with ⟨rfl, _⟩ | ⟨g', cap, cur, rfl, hb, hh, _⟩
  · simp [Value.ownBlock] at hg
  · obtain rfl : g' = g := by simpa [Value.ownBlock] using hg
    exact ⟨hb, _, hh⟩
theorem GR.O_lt {X : World} {base O n : Nat} {v : Nat → Value} {rows : Nat → List Nat} (h : GR X base O n v rows) : O < X.heap.size := (Array.getElem?_eq_some_iff.1 h.blk).1
theorem GR.O_ne {X : World} {base O n : Nat} {v : Nat → Value} {rows : Nat → List Nat} (h : GR X base O n v rows) {i g : Nat} (hi : i < n) (hg : (v i).ownBlock = some g) : O ≠ g := by
  rintro rfl
  obtain ⟨_, cs, hc⟩ := own_int_block (h.own i hi) hg
  rw [h.blk] at hc
  simp at hc
theorem GR.cell {X : World} {base O n : Nat} {v : Nat → Value} {rows : Nat → List Nat} (h : GR X base O n v rows) {i : Nat} (hi : i < n) : X.cell? ⟨O, i, none⟩ = some (v i) := by
  rw [cell_at h.blk]; simp [hi]
theorem GR.frozen {X : World} {base O n : Nat} {v : Nat → Value} {rows : Nat → List Nat} (h : GR X base O n v rows) (i : Nat) : X.frozen? ⟨O, i, none⟩ = false := frz_at h.blk i
/-- What turns no block of cells leaves all as it was. -/
theorem GR.kept {X Y : World} {base O n : Nat} {v : Nat → Value} {rows : Nat → List Nat} (h : GR X base O n v rows) {row : Option Nat} (hg : X.grownBy Y row) (hr : ∀ r, row = some r → ∃ o : Obj, X.heap[r]? = some o ∧ o.isCells = false) : GR Y base O n v rows := by
  have hne : ∀ k cs t fr, X.heap[k]? = some (.cells cs t fr) → some k ≠ row := fun k cs t fr hk e => by
    obtain ⟨o, h1, h2⟩ := hr k e.symm; rw [hk] at h1; cases h1; cases h2
  refine ⟨(hg.block O h.O_lt (hne _ _ _ _ h.blk)).trans h.blk, fun i hi => (h.own i hi).kept hg ?_, h.dif⟩
  cases hv : (v i).ownBlock with
  | none => exact .inl rfl
  | some g =>
    obtain ⟨_, cs, hc⟩ := own_int_block (h.own i hi) hv
    exact .inr (fun e => hne g _ _ _ hc e)
theorem GR.alloc {X : World} {base O n : Nat} {v : Nat → Value} {rows : Nat → List Nat} (h : GR X base O n v rows) (o : Obj) : GR (X.alloc o) base O n v rows := h.kept (World.grownBy_alloc X o none) (fun r e => by cases e)
theorem GR.below {X Y : World} {base O n : Nat} {v : Nat → Value} {rows : Nat → List Nat} (h : GR X base O n v rows) (hb : Below X.heap.size X Y) : GR Y base O n v rows := h.kept (grown_of_below hb none) (fun r e => by cases e)
theorem GR.put {X : World} {base O n : Nat} {v : Nat → Value} {rows : Nat → List Nat} (h : GR X base O n v rows) {l : Nat} {o : Obj} (o' : Obj) (hl : X.heap[l]? = some o) (ho : o.isCells = false) : GR (X.putObj l o') base O n v rows :=
  h.kept (grownBy_putObj' X l o') (fun r e => by cases e; exact ⟨_, hl, ho⟩)
theorem GR.congr {X : World} {base O n : Nat} {v v' : Nat → Value} {rows rows' : Nat → List Nat} (h : GR X base O n v rows) (hv : ∀ i, i < n → v i = v' i) (hr : ∀ i, i < n → rows i = rows' i) : GR X base O n v' rows' :=
  ⟨by rw [h.blk]; congr 3; exact List.map_congr_left fun i hi => hv i (List.mem_range.1 hi), fun i hi => by rw [← hv i hi, ← hr i hi]; exact h.own i hi, fun i j g hi hj hij hg => by rw [← hv i hi] at hg; rw [← hv j hj]; exact h.dif i j g hi hj hij hg⟩

theorem GR.onFrom {X W : World} {base O n lo : Nat} {v : Nat → Value} {rows : Nat → List Nat} (h : GR X base O n v rows) (hO : lo ≤ O) (hb : lo ≤ base) (hk : ∀ k, lo ≤ k → k < X.heap.size → W.heap[k]? = X.heap[k]?) : GR W base O n v rows := by
  refine ⟨(hk O hO h.O_lt).trans h.blk, fun i hi => ?_, h.dif⟩
  have ho := h.own i hi
  refine ⟨ho.1, ?_⟩
  rcases ho.2 with q | ⟨g, cap, cur, e, h1, h2, h3⟩
  · exact .inl q
  · exact .inr ⟨g, cap, cur, e, h1, (hk g (by omega) (Array.getElem?_eq_some_iff.1 h2).1).trans h2, h3⟩
/-- A store into a block of another kind. -/
theorem GR.other {X : World} {base O n : Nat} {v : Nat → Value} {rows : Nat → List Nat} (h : GR X base O n v rows) {R i : Nat} {cs : Array Value} {t : TypeId} {fr : Nat × Nat} (hR : X.heap[R]? = some (.cells cs t fr)) (ht : t ≠ 3) (hne : R ≠ O) {u : Value} : GR (X.setCell ⟨R, i, none⟩ u) base O n v rows := by
  refine ⟨(Below.heap_setCell _ _ _ _ (fun e => hne e.symm)).trans h.blk, fun j hj => (h.own j hj).kept (grownBy_setCell_any X R i u) ?_, h.dif⟩
  cases hv : (v j).ownBlock with
  | none => exact .inl rfl
  | some g =>
    obtain ⟨_, cs', hc⟩ := own_int_block (h.own j hj) hv
    exact .inr (fun e => by cases e; rw [hR] at hc; simp at hc; exact ht hc.2.1)
/-- One number more in one list: behind the append, and behind the store. -/
theorem GR.app {X w3 : World} {base O n k : Nat} {v : Nat → Value} {rows : Nat → List Nat} (h : GR X base O n v rows) {i x : Nat} (hi : i < n) {tmp : Obj} {v' : Value} (hk : (rows i).length = k)
    (hgrow : (X.alloc tmp).grownBy w3 (v i).ownBlock) (hown' : w3.ownsRow base 3 1 v' (k + 1) (zc (ns (rows i)) ++ [.int .i64 (x : Int)])) (hloc : v'.ownBlock = (v i).ownBlock ∨ v'.ownBlock = some (X.alloc tmp).heap.size) (n₀ : Nat) (hn0 : n₀ ≤ base) (hO : n₀ ≤ O) (hs : n₀ ≤ X.heap.size) :
    GR (w3.setCell ⟨O, i, none⟩ v') base O n (fun j => if j = i then v' else v j) (fun j => if j = i then rows i ++ [x] else rows j) ∧ Below n₀ X (w3.setCell ⟨O, i, none⟩ v') ∧ KeepsOthers X (w3.setCell ⟨O, i, none⟩ v') ∧ (∀ B, O < B → KeepT 3 B X (w3.setCell ⟨O, i, none⟩ v')) ∧
      (∀ K cs t fr, K ≠ O → t ≠ 3 → X.heap[K]? = some (.cells cs t fr) → (w3.setCell ⟨O, i, none⟩ v').heap[K]? = some (.cells cs t fr)) := by
  have hz : (X.alloc tmp).heap.size = X.heap.size + 1 := World.size_alloc _ _
  have hOw : w3.heap[O]? = some (.cells ((List.range n).map v).toArray 25 (0, 0)) :=
    (hgrow.block O (by rw [hz]; have := h.O_lt; omega) (fun e => h.O_ne hi e.symm rfl)).trans ((Below.heap_alloc _ _ _ h.O_lt).trans h.blk)
  have hO' : ∀ g, v'.ownBlock = some g → O ≠ g := by
    rintro g hg rfl
    obtain ⟨_, cs, hc⟩ := own_int_block hown' hg
    rw [hOw] at hc; simp at hc
  have hblk : ∀ K, K < X.heap.size → K ≠ O → (∀ g, (v i).ownBlock = some g → K ≠ g) → (w3.setCell ⟨O, i, none⟩ v').heap[K]? = X.heap[K]? := fun K h1 h2 h3 =>
    (Below.heap_setCell _ _ _ _ h2).trans ((hgrow.block K (by omega) (fun e => h3 K e.symm rfl)).trans (Below.heap_alloc _ _ _ h1))
  have hsz : X.heap.size ≤ (w3.setCell ⟨O, i, none⟩ v').heap.size := by have := hgrow.size; simp [World.setCell]; omega
  have hrow : ∀ g, (v i).ownBlock = some g → base ≤ g ∧ ∃ cs, X.heap[g]? = some (.cells cs 3 (0, 0)) := fun g hg => own_int_block (h.own i hi) hg
  refine ⟨⟨?_, ?_, ?_⟩, ?_, ?_, ?_, ?_⟩
  · rw [heap_set_same _ _ _ _ _ _ hOw]
    congr 2
    apply Array.ext'
    rw [Array.toList_setIfInBounds]
    apply List.ext_getElem?
    intro j
    rw [List.getElem?_set]
    simp only [List.length_map, List.length_range, List.getElem?_map]
    by_cases hj : i = j
    · subst hj; simp [hi]
    · rw [if_neg hj]
      by_cases hjn : j < n
      · simp [List.getElem?_range hjn, Ne.symm hj]
      · simp [List.getElem?_eq_none (show (List.range n).length ≤ j by simp; omega)]
  · intro j hj
    by_cases e : j = i
    · subst e
      simp only [if_true]
      rw [List.length_append, hk, ns_append, zc_append]
      exact hown'.kept (grownBy_setCell_any w3 O j v') (by
        cases hv : v'.ownBlock with
        | none => exact .inl rfl
        | some g => exact .inr (fun e => by cases e; exact hO' O hv rfl))
    · simp only [if_neg e]
      have ho := (h.own j hj).alloc tmp
      cases hv : (v j).ownBlock with
      | none =>
        rcases ho.2 with ⟨e2, h0⟩ | ⟨g, cap, cur, e2, _⟩
        · rw [e2] at ho ⊢
          rw [h0] at ho ⊢
          have : zc (ns (rows j)) = [] := List.eq_nil_of_length_eq_zero (by rw [zc_length, ns_length]; exact h0)
          rw [this]
          exact World.ownsRow_nil _ _ _ _
        · rw [e2] at hv; simp [Value.ownBlock] at hv
      | some g =>
        have h1 := ho.kept hgrow (.inr (by rw [hv]; intro e3; exact h.dif i j g hi hj (fun e4 => e e4.symm) e3.symm hv))
        exact h1.kept (grownBy_setCell_any w3 O i v') (.inr (by rw [hv]; intro e3; cases e3; exact h.O_ne hj hv rfl))
  · intro p q g hp hq hpq hg
    have hlt : ∀ j g, j < n → (v j).ownBlock = some g → g < X.heap.size := fun j g hj hg => by
      obtain ⟨_, cs, hc⟩ := own_int_block (h.own j hj) hg; exact (Array.getElem?_eq_some_iff.1 hc).1
    by_cases e1 : p = i
    · subst e1
      simp only [if_true] at hg
      rw [if_neg (fun e => hpq e.symm)]
      rcases hloc with hl | hl
      · rw [hl] at hg; exact h.dif p q g hp hq hpq hg
      · rw [hl] at hg; cases hg
        intro e; have := hlt q _ hq e; omega
    · rw [if_neg e1] at hg
      by_cases e2 : q = i
      · subst e2
        simp only [if_true]
        rcases hloc with hl | hl
        · rw [hl]; exact h.dif p q g hp hq hpq hg
        · rw [hl]; intro e; cases e; have := hlt p _ hp hg; omega
      · rw [if_neg e2]; exact h.dif p q g hp hq hpq hg
  · refine ⟨hgrow.os, hgrow.tape, hgrow.output, hsz, fun K hK => hblk K (by omega) (by omega) (fun g hg => by have := (hrow g hg).1; omega)⟩
  · refine ⟨hsz, fun K o hK ho => (hblk K (Array.getElem?_eq_some_iff.1 hK).1 ?_ ?_).trans hK⟩
    · rintro rfl; rw [h.blk] at hK; cases hK; cases ho
    · rintro g hg rfl; obtain ⟨_, cs, hc⟩ := hrow _ hg; rw [hc] at hK; cases hK; cases ho
  · intro B hB
    refine ⟨hsz, fun K o hBK hK ho => (hblk K (Array.getElem?_eq_some_iff.1 hK).1 (by omega) ?_).trans hK⟩
    rintro g hg rfl; obtain ⟨_, cs, hc⟩ := hrow _ hg; rw [hc] at hK; cases hK; exact ho _ _ rfl
  · intro K cs t fr hKO ht hK
    refine (hblk K (Array.getElem?_eq_some_iff.1 hK).1 hKO ?_).trans hK
    rintro g hg rfl; obtain ⟨_, cs', hc⟩ := hrow _ hg; rw [hc] at hK; simp at hK; exact ht hK.2.1.symm
theorem made_nils (n : Nat) : madeCells #[Value.slice none 0 0] n = ((List.range n).map (fun _ => Value.slice none 0 0)).toArray := by
  unfold madeCells
  apply Array.ext'
  simp [Nat.mod_one]
theorem GR.made (w : World) (base n : Nat) : GR (w.alloc (.cells (madeCells #[.slice none 0 0] n) 25)) base w.heap.size n (fun _ => .slice none 0 0) (fun _ => []) := by
  refine ⟨?_, fun i hi => ?_, fun i j g _ _ _ h => by simp [Value.ownBlock] at h⟩
  · rw [← made_nils]; exact World.alloc_heap_new w _
  · exact World.ownsRow_nil _ _ _ _
/-- A list of the call's own, sorted. -/
theorem sort_grown (l : List Nat) (n : Nat) (hn : l.length = n) (hn2 : n ≤ 1000000) (base : Nat) (v : Value) (w : World) (h : w.ownsRow base 3 1 v n (zc (ns l))) :
    Calls Try.prog 81 #[v] w fun e w' => e = .returned (.tuple #[]) ∧ w'.ownsRow base 3 1 v n (zc (ns (nso l))) ∧ w.grownBy w' v.ownBlock := by
  have h' := h
  rcases h.2 with ⟨rfl, h0⟩ | ⟨g, cap, cur, rfl, hb, hg, h1, h2, h3, h4⟩
  · subst h0
    have : l = [] := List.eq_nil_of_length_eq_zero hn
    subst this
    exact (AnyM.slices_Sort_int_none sortI none 0 w).mono fun e w' ⟨he, hw⟩ => by
      subst hw
      exact ⟨he, h, World.grownBy.refl _ _⟩
  · have hl : (ns l).length = n := by rw [ns_length, hn]
    have hgs : g < w.heap.size := (Array.getElem?_eq_some_iff.1 hg).1
    have hH := holds_of_blockI (ss := ns l) hg (by rw [hl]; rw [Nat.mul_one] at h4; exact h4)
    have hcon := AnyM.slices_Sort_int sortI g 0 cap (ns l) w hH hgs (by rw [hl]; omega)
    rw [hl, msort_ns] at hcon
    refine hcon.mono ?_
    rintro e w' ⟨he, m, os, rfl⟩
    have hl2 : (ns (nso l)).length = (ns l).length := by rw [ns_length, ns_length, (nso_perm l).length_eq]
    refine ⟨he, ?_, grownBy_sortedI (w := w) (g := g) (n := m) (os := os) (ns (nso l)).toArray⟩
    have := ownsRow_sortedI (w := w) (n := m) (os := os) (ss := ns l) (ts := ns (nso l)) hl2 hb hg (by rw [hl]; exact h1) h2 h3
    rw [hl] at this
    exact this
/-- One list sorted. -/
theorem GR.sort {X Y : World} {base O n : Nat} {v : Nat → Value} {rows : Nat → List Nat} (h : GR X base O n v rows) {i : Nat} (hi : i < n) {l : List Nat} (hl : (rows i).length = l.length)
    (hgrow : X.grownBy Y (v i).ownBlock) (hown' : Y.ownsRow base 3 1 (v i) (rows i).length (zc (ns l))) (n₀ : Nat) (hn0 : n₀ ≤ base) (hs : n₀ ≤ X.heap.size) :
    GR Y base O n v (fun j => if j = i then l else rows j) ∧ Below n₀ X Y ∧ (∀ (K : Nat) (cs : Array Value) (t : TypeId) (fr : Nat × Nat), t ≠ 3 → X.heap[K]? = some (.cells cs t fr) → Y.heap[K]? = some (.cells cs t fr)) := by
  have hrow : ∀ g, (v i).ownBlock = some g → base ≤ g ∧ ∃ cs, X.heap[g]? = some (.cells cs 3 (0, 0)) := fun g hg => own_int_block (h.own i hi) hg
  have hkeep : ∀ (K : Nat) (cs : Array Value) (t : TypeId) (fr : Nat × Nat), t ≠ 3 → X.heap[K]? = some (.cells cs t fr) → Y.heap[K]? = some (.cells cs t fr) := fun K cs t fr ht hK =>
    (hgrow.block K (Array.getElem?_eq_some_iff.1 hK).1 (fun e => by obtain ⟨_, cs', hc⟩ := hrow K e.symm; rw [hc] at hK; simp at hK; exact ht hK.2.1.symm)).trans hK
  refine ⟨⟨hkeep _ _ _ _ (by decide) h.blk, fun j hj => ?_, h.dif⟩, ⟨hgrow.os, hgrow.tape, hgrow.output, hgrow.size, fun K hK => hgrow.block K (by omega) (fun e => by have := (hrow K e.symm).1; omega)⟩, hkeep⟩
  by_cases e : j = i
  · subst e
    simp only [if_true]
    rw [← hl]; exact hown'
  · simp only [if_neg e]
    have ho := h.own j hj
    cases hv : (v j).ownBlock with
    | none =>
      rcases ho.2 with ⟨e2, h0⟩ | ⟨g, cap, cur, e2, _⟩
      · rw [e2] at ho ⊢
        rw [h0] at ho ⊢
        have : zc (ns (rows j)) = [] := List.eq_nil_of_length_eq_zero (by rw [zc_length, ns_length]; exact h0)
        rw [this]
        exact World.ownsRow_nil _ _ _ _
      · rw [e2] at hv; simp [Value.ownBlock] at hv
    | some g => exact ho.kept hgrow (.inr (by rw [hv]; intro e3; exact h.dif i j g hi hj (fun e4 => e e4.symm) e3.symm hv))
theorem gadd (b off k : Nat) : (⟨b, off, none⟩ : Addr).add k = ⟨b, off + k, none⟩ := by unfold Addr.add; split <;> simp_all
/-- The address, and the room, of a slice. -/
def slA : Value → Option Addr
  | .slice A _ _ => A
  | _ => none
def slC : Value → Nat
  | .slice _ _ c => c
  | _ => 0
/-- The lists, as a graph is read. -/
def rwl (n : Nat) (v : Nat → Value) (rows : Nat → List Nat) : List Rw := (List.range n).map fun i => (slA (v i), slC (v i), ns (rows i))
theorem rwl_gs (n : Nat) (v : Nat → Value) (rows : Nat → List Nat) : gs (rwl n v rows) = ((List.range n).map rows).map ns := by
  unfold gs rwl; rw [List.map_map, List.map_map]; rfl
theorem GR.read {X : World} {base O n : Nat} {v : Nat → Value} {rows : Nat → List Nat} (h : GR X base O n v rows) (hb : ∀ i, i < n → (rows i).length ≤ 140737488355328) : RdG X X.heap.size (some ⟨O, 0, none⟩) (rwl n v rows) := by
  have hsl : ∀ i, i < n → v i = .slice (slA (v i)) (rows i).length (slC (v i)) := fun i hi => by
    obtain ⟨A, c, e⟩ := own_sliceT (h.own i hi); rw [e]; rfl
  refine ⟨.inr ⟨O, 0, rfl, h.O_lt, fun i u hi => ?_⟩, fun r hr => ?_⟩
  · rw [Nat.zero_add]
    have hin : i < n := by
      have := (List.getElem?_eq_some_iff.1 hi).1
      rw [rcl_length] at this; simpa [rwl] using this
    rw [h.cell hin, ← hi]
    unfold rcl rwl
    rw [List.map_map, List.getElem?_map, List.getElem?_range hin]
    show some (v i) = some (sl _)
    unfold sl
    simp only [ns_length]
    rw [← hsl i hin]
  · unfold rwl at hr
    obtain ⟨i, hi, rfl⟩ := List.mem_map.1 hr
    have hin := List.mem_range.1 hi
    refine ⟨?_, by rw [ns_length]; exact hb i hin⟩
    have ho := h.own i hin
    rw [hsl i hin] at ho
    rcases ho.2 with ⟨_, h0⟩ | ⟨g, cap, cur, he, _, hg, _⟩
    · exact .inl (List.eq_nil_of_length_eq_zero (by rw [zc_length, ns_length]; exact h0))
    · simp only [Value.slice.injEq] at he
      obtain ⟨e1, _, _⟩ := he
      rw [e1] at ho
      refine .inr ⟨g, 0, e1, (Array.getElem?_eq_some_iff.1 hg).1, fun j u hj => ?_⟩
      have hh := ho.cells (g := g) rfl j u hj
      rw [gadd] at hh
      exact hh
end Go.Proofs.Ytnbjhldpadjgfaa
