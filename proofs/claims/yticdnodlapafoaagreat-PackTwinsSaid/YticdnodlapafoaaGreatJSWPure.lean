/- Plain facts on graphs as lists of rising lists, their arcs, and graphs that arcs make; nothing here speaks of a program; each fact names its conditions. -/
import Derived.Test.YticdnodlapafoaaGreatJS5
namespace Go.Proofs.YticdnodlapafoaaGreat
set_option linter.unusedVariables false

/-- An arc: from where, and to where. -/
abbrev Ar := Nat × Nat
/-- The arcs of lists, the first list being that of node o. -/
def arcs : Nat → List (List Nat) → List Ar
  | _, [] => []
  | o, l :: t => l.map (fun x => (o, x)) ++ arcs (o + 1) t
/-- A graph that is right. -/
structure GOk (g : List (List Nat)) : Prop where
  nodes : g.length ≤ 100
  ris : ∀ l ∈ g, l.Pairwise (· < ·)
  bd : ∀ l ∈ g, ∀ x ∈ l, x < g.length
  many : (arcs 0 g).length ≤ 600
/-- What a node's list has. -/
def row (g : List (List Nat)) (i : Nat) : List Nat := g[i]?.getD []
theorem row_mem {g : List (List Nat)} {i : Nat} (h : i < g.length) : row g i ∈ g := by
  unfold row; rw [List.getElem?_eq_getElem h]; exact List.getElem_mem h
theorem row_out {g : List (List Nat)} {i : Nat} (h : g.length ≤ i) : row g i = [] := by
  unfold row; rw [List.getElem?_eq_none h]; rfl
theorem arcs_mem : ∀ (g : List (List Nat)) (o : Nat) (a : Ar), a ∈ arcs o g ↔ o ≤ a.1 ∧ a.2 ∈ row g (a.1 - o)
  | [], o, a => by simp [arcs, row]
  | l :: t, o, a => by
    unfold arcs
    rw [List.mem_append, arcs_mem t (o + 1) a]
    constructor
    · rintro (h | ⟨h1, h2⟩)
      · obtain ⟨x, hx, rfl⟩ := List.mem_map.1 h
        exact ⟨Nat.le_refl _, by simpa [row] using hx⟩
      · refine ⟨by omega, ?_⟩
        unfold row at h2 ⊢
        rw [show a.1 - o = (a.1 - (o + 1)) + 1 by omega, List.getElem?_cons_succ]; exact h2
    · rintro ⟨h1, h2⟩
      by_cases e : a.1 = o
      · left
        refine List.mem_map.2 ⟨a.2, ?_, by rw [← e]⟩
        rw [e, Nat.sub_self] at h2
        simpa [row] using h2
      · right
        refine ⟨by omega, ?_⟩
        unfold row at h2 ⊢
        rw [show a.1 - o = (a.1 - (o + 1)) + 1 by omega, List.getElem?_cons_succ] at h2; exact h2
theorem arcs_mem0 (g : List (List Nat)) (a : Ar) : a ∈ arcs 0 g ↔ a.2 ∈ row g a.1 := by rw [arcs_mem]; simp
theorem arcs_nodup : ∀ (g : List (List Nat)) (o : Nat), (∀ l ∈ g, l.Pairwise (· < ·)) → (arcs o g).Nodup
  | [], o, _ => by simp [arcs]
  | l :: t, o, h => by
    unfold arcs
    refine List.nodup_append.2 ⟨?_, arcs_nodup t (o + 1) (fun m hm => h m (by simp [hm])), ?_⟩
    · have := h l (by simp)
      exact List.pairwise_map.2 (this.imp fun {a b} hab e => by simp at e; omega)
    · rintro a ha b hb rfl
      obtain ⟨x, _, rfl⟩ := List.mem_map.1 ha
      have := ((arcs_mem t (o + 1) _).1 hb).1
      simp at this
      omega
theorem arcs_fst : ∀ (g : List (List Nat)) (o : Nat), ∀ a ∈ arcs o g, o ≤ a.1 ∧ a.1 < o + g.length := by
  intro g o a h
  have := (arcs_mem g o a).1 h
  refine ⟨this.1, ?_⟩
  by_cases hl : a.1 - o < g.length
  · omega
  · rw [row_out (by omega)] at this; simp at this
theorem arcs_snoc : ∀ (g : List (List Nat)) (o : Nat) (l : List Nat), arcs o (g ++ [l]) = arcs o g ++ l.map (fun x => (o + g.length, x))
  | [], o, l => by simp [arcs]
  | m :: t, o, l => by
    rw [List.cons_append]
    unfold arcs
    rw [arcs_snoc t (o + 1) l, List.append_assoc, List.length_cons, show o + 1 + t.length = o + (t.length + 1) by omega]
theorem arcs_bd {g : List (List Nat)} (h : GOk g) : ∀ a ∈ arcs 0 g, a.1 < g.length ∧ a.2 < g.length := by
  intro a ha
  have h1 := (arcs_fst g 0 a ha).2
  rw [Nat.zero_add] at h1
  exact ⟨h1, h.bd _ (row_mem h1) _ ((arcs_mem0 g a).1 ha)⟩
theorem row_ris {g : List (List Nat)} (h : GOk g) (i : Nat) : (row g i).Pairwise (· < ·) := by
  by_cases hi : i < g.length
  · exact h.ris _ (row_mem hi)
  · rw [row_out (by omega)]; exact .nil

/-- Two rising lists that have the same numbers are one. -/
theorem ris_ext {a b : List Nat} (ha : a.Pairwise (· < ·)) (hb : b.Pairwise (· < ·)) (h : ∀ x, x ∈ a ↔ x ∈ b) : a = b := by
  have na : a.Nodup := ha.imp (fun h => by omega)
  have nb : b.Nodup := hb.imp (fun h => by omega)
  exact sorted_uniq a b ((List.perm_ext_iff_of_nodup na nb).2 h) (ha.imp (fun h => by omega)) (hb.imp (fun h => by omega))
theorem graph_ext {a b : List (List Nat)} (hl : a.length = b.length) (ha : ∀ i, (row a i).Pairwise (· < ·)) (hb : ∀ i, (row b i).Pairwise (· < ·)) (h : ∀ i x, i < a.length → (x ∈ row a i ↔ x ∈ row b i)) : a = b := by
  apply List.ext_getElem hl
  intro i h1 h2
  have := ris_ext (ha i) (hb i) (fun x => h i x h1)
  unfold row at this
  rw [List.getElem?_eq_getElem h1, List.getElem?_eq_getElem h2] at this
  exact this

/-- Those to which arcs lead from a node, in the arcs' order. -/
def tos (L : List Ar) (i : Nat) : List Nat := (L.filter (fun a => a.1 == i)).map (·.2)
theorem tos_mem (L : List Ar) (i x : Nat) : x ∈ tos L i ↔ (i, x) ∈ L := by
  unfold tos
  simp only [List.mem_map, List.mem_filter]
  constructor
  · rintro ⟨⟨a, b⟩, ⟨h1, h2⟩, rfl⟩
    have : a = i := by simpa using h2
    subst this; exact h1
  · intro h; exact ⟨(i, x), ⟨h, by simp⟩, rfl⟩
theorem tos_nodup {L : List Ar} (h : L.Nodup) (i : Nat) : (tos L i).Nodup := by
  unfold tos
  have h1 : (L.filter (fun a => a.1 == i)).Nodup := h.filter _
  refine List.pairwise_map.2 (h1.imp_of_mem ?_)
  intro a b ha hb hab e
  have e1 := (List.mem_filter.1 ha).2
  have e2 := (List.mem_filter.1 hb).2
  simp at e1 e2
  exact hab (Prod.ext (e1.trans e2.symm) e)
theorem tos_snoc (L : List Ar) (a : Ar) (i : Nat) : tos (L ++ [a]) i = if a.1 = i then tos L i ++ [a.2] else tos L i := by
  unfold tos
  rw [List.filter_append, List.map_append]
  by_cases h : a.1 = i
  · rw [if_pos h]; simp [h]
  · rw [if_neg h]; simp [h]
theorem tos_length (L : List Ar) (i : Nat) : (tos L i).length ≤ L.length := by
  unfold tos; rw [List.length_map]; exact List.length_filter_le _ _
theorem tos_len_perm {a b : List Ar} (h : a.Perm b) (i : Nat) : (tos a i).length = (tos b i).length := by
  unfold tos; rw [List.length_map, List.length_map]; exact (h.filter _).length_eq
/-- The lists of a graph that is being made, in the arcs' order. -/
def rws (n : Nat) (L : List Ar) : List (List Nat) := (List.range n).map (tos L)
theorem rws_length (n : Nat) (L : List Ar) : (rws n L).length = n := by simp [rws]
theorem rws_row (n : Nat) (L : List Ar) (i : Nat) (h : i < n) : row (rws n L) i = tos L i := by
  unfold row rws; rw [List.getElem?_map, List.getElem?_range h]; rfl
/-- The graph of arcs. -/
def wa (n : Nat) (L : List Ar) : List (List Nat) := (rws n L).map nso
theorem wa_length (n : Nat) (L : List Ar) : (wa n L).length = n := by simp [wa, rws_length]
theorem wa_row (n : Nat) (L : List Ar) (i : Nat) (h : i < n) : row (wa n L) i = nso (tos L i) := by
  unfold row wa rws; rw [List.getElem?_map, List.getElem?_map, List.getElem?_range h]; rfl
theorem nso_ris {l : List Nat} (h : l.Nodup) : (nso l).Pairwise (· < ·) := by
  have h1 := nso_sorted l
  have h2 : (nso l).Nodup := ((nso_perm l).nodup_iff).2 h
  exact (List.pairwise_and_iff.2 ⟨h1, h2⟩).imp (fun {a b} h => by have := h.1; have := h.2; omega)
theorem wa_ris {n : Nat} {L : List Ar} (h : L.Nodup) (i : Nat) : (row (wa n L) i).Pairwise (· < ·) := by
  by_cases hi : i < n
  · rw [wa_row n L i hi]; exact nso_ris (tos_nodup h i)
  · rw [row_out (by rw [wa_length]; omega)]; exact .nil
theorem wa_mem (n : Nat) (L : List Ar) (i x : Nat) (h : i < n) : x ∈ row (wa n L) i ↔ (i, x) ∈ L := by
  rw [wa_row n L i h, (nso_perm _).mem_iff, tos_mem]
/-- Arcs that are those of a graph, in whatever order, make it. -/
theorem wa_eq {g : List (List Nat)} {L : List Ar} (hg : ∀ i, (row g i).Pairwise (· < ·)) (hn : L.Nodup) (h : ∀ i x, i < g.length → ((i, x) ∈ L ↔ x ∈ row g i)) : wa g.length L = g :=
  graph_ext (by rw [wa_length]) (wa_ris hn) hg (fun i x hi => by rw [wa_length] at hi; rw [wa_mem _ _ _ _ hi]; exact h i x hi)
theorem wa_perm {n : Nat} {a b : List Ar} (h : a.Perm b) (hn : a.Nodup) : wa n a = wa n b :=
  graph_ext (by rw [wa_length, wa_length]) (wa_ris hn) (wa_ris (h.nodup_iff.1 hn)) (fun i x hi => by
    rw [wa_length] at hi; rw [wa_mem _ _ _ _ hi, wa_mem _ _ _ _ hi]; exact h.mem_iff)
/-- The arcs of a graph that is made of arcs are these. -/
theorem wa_arcs {n : Nat} {L : List Ar} (hn : L.Nodup) (hb : ∀ a ∈ L, a.1 < n ∧ a.2 < n) : (arcs 0 (wa n L)).Perm L := by
  refine (List.perm_ext_iff_of_nodup (arcs_nodup _ _ (fun l hl => ?_)) hn).2 (fun a => ?_)
  · obtain ⟨i, hi, rfl⟩ := List.mem_iff_getElem.1 hl
    have := wa_ris (n := n) hn i
    unfold row at this
    rwa [List.getElem?_eq_getElem hi] at this
  · rw [arcs_mem0]
    by_cases h : a.1 < n
    · rw [wa_mem n L _ _ h]
    · rw [row_out (by rw [wa_length]; omega)]
      exact ⟨fun h' => by simp at h', fun h' => absurd (hb a h').1 h⟩
theorem wa_ok {n : Nat} {L : List Ar} (h100 : n ≤ 100) (hn : L.Nodup) (hb : ∀ a ∈ L, a.1 < n ∧ a.2 < n) (hl : L.length ≤ 600) : GOk (wa n L) where
  nodes := by rw [wa_length]; exact h100
  ris := fun l hl => by
    obtain ⟨i, hi, rfl⟩ := List.mem_iff_getElem.1 hl
    have := wa_ris (n := n) hn i
    unfold row at this
    rwa [List.getElem?_eq_getElem hi] at this
  bd := fun l hl x hx => by
    obtain ⟨i, hi, rfl⟩ := List.mem_iff_getElem.1 hl
    have hi' : i < n := by rw [wa_length] at hi; exact hi
    have : x ∈ row (wa n L) i := by unfold row; rw [List.getElem?_eq_getElem hi]; exact hx
    rw [wa_mem _ _ _ _ hi'] at this
    rw [wa_length]; exact (hb _ this).2
  many := by rw [(wa_arcs hn hb).length_eq]; exact hl
theorem wa_self {g : List (List Nat)} (h : GOk g) : wa g.length (arcs 0 g) = g :=
  wa_eq (row_ris h) (arcs_nodup g 0 h.ris) (fun i x _ => arcs_mem0 g (i, x))

/-- An arc the other way. -/
def rev (a : Ar) : Ar := (a.2, a.1)
theorem rev_rev (a : Ar) : rev (rev a) = a := rfl
theorem rev_inj {a b : Ar} (h : rev a = rev b) : a = b := by rw [← rev_rev a, h, rev_rev]
theorem rev_mem (L : List Ar) (a : Ar) : a ∈ L.map rev ↔ rev a ∈ L := by
  rw [List.mem_map]
  exact ⟨fun ⟨b, hb, e⟩ => by rw [← e, rev_rev]; exact hb, fun h => ⟨rev a, h, rfl⟩⟩
theorem rev_nodup {L : List Ar} (h : L.Nodup) : (L.map rev).Nodup := List.pairwise_map.2 (h.imp fun {a b} hab e => hab (rev_inj e))
/-- The graph turned. -/
def gturn (g : List (List Nat)) : List (List Nat) := wa g.length ((arcs 0 g).map rev)
theorem gturn_length (g : List (List Nat)) : (gturn g).length = g.length := wa_length _ _
theorem gturn_mem {g : List (List Nat)} {i x : Nat} (h : i < g.length) : x ∈ row (gturn g) i ↔ i ∈ row g x := by
  unfold gturn; rw [wa_mem _ _ _ _ h, rev_mem, arcs_mem0]; rfl
theorem gturn_ok {g : List (List Nat)} (h : GOk g) : GOk (gturn g) :=
  wa_ok h.nodes (rev_nodup (arcs_nodup g 0 h.ris)) (fun a ha => by have := arcs_bd h _ ((rev_mem _ a).1 ha); exact ⟨this.2, this.1⟩) (by rw [List.length_map]; exact h.many)
theorem gturn_turn {g : List (List Nat)} (h : GOk g) : gturn (gturn g) = g := by
  refine graph_ext (by rw [gturn_length, gturn_length]) (row_ris (gturn_ok (gturn_ok h))) (row_ris h) (fun i x hi => ?_)
  rw [gturn_length, gturn_length] at hi
  rw [gturn_mem (by rw [gturn_length]; exact hi)]
  by_cases hx : x < g.length
  · rw [gturn_mem hx]
  · rw [row_out (by rw [gturn_length]; omega)]
    exact ⟨fun h' => by simp at h', fun h' => absurd (h.bd _ (row_mem hi) _ h') hx⟩

/-- An arc is put into what there is. -/
def ains (S : List Ar) (a : Ar) : List Ar := if a ∈ S then S else S ++ [a]
theorem ains_mem (S : List Ar) (a b : Ar) : b ∈ ains S a ↔ b ∈ S ∨ b = a := by
  unfold ains
  split
  · exact ⟨fun h => .inl h, fun h => h.elim id (fun e => by rw [e]; assumption)⟩
  · simp
theorem ains_nodup {S : List Ar} (h : S.Nodup) (a : Ar) : (ains S a).Nodup := by
  unfold ains
  split
  · exact h
  · rename_i hn
    refine List.nodup_append.2 ⟨h, by simp, ?_⟩
    rintro x hx y hy rfl
    simp at hy; subst hy; exact hn hx
theorem ains_length (S : List Ar) (a : Ar) : (ains S a).length ≤ S.length + 1 := by unfold ains; split <;> simp
/-- All arcs and those the other way, each once. -/
def bth (L : List Ar) : List Ar := L.foldl (fun S a => ains (ains S a) (rev a)) []
theorem bth_snoc (L : List Ar) (a : Ar) : bth (L ++ [a]) = ains (ains (bth L) a) (rev a) := by simp [bth]
theorem bth_mem_fold (L : List Ar) (b : Ar) : ∀ S, b ∈ L.foldl (fun S a => ains (ains S a) (rev a)) S ↔ b ∈ S ∨ b ∈ L ∨ rev b ∈ L := by
  induction L with
  | nil => intro S; simp
  | cons a t ih =>
    intro S
    rw [List.foldl_cons, ih, ains_mem, ains_mem]
    have e : b = rev a ↔ rev b = a := ⟨fun h => by rw [h, rev_rev], fun h => by rw [← h, rev_rev]⟩
    rw [e]
    simp only [List.mem_cons]
    constructor
    · rintro (((h | h) | h) | h | h) <;> simp [h]
    · rintro (h | (h | h) | (h | h)) <;> simp [h]
theorem bth_mem (L : List Ar) (b : Ar) : b ∈ bth L ↔ b ∈ L ∨ rev b ∈ L := by unfold bth; rw [bth_mem_fold]; simp
theorem bth_nodup (L : List Ar) : (bth L).Nodup := by
  unfold bth
  have : ∀ (L S : List Ar), S.Nodup → (L.foldl (fun S a => ains (ains S a) (rev a)) S).Nodup := by
    intro L
    induction L with
    | nil => intro S h; exact h
    | cons a t ih => intro S h; exact ih _ (ains_nodup (ains_nodup h a) (rev a))
  exact this L [] (by simp)
theorem bth_length (L : List Ar) : (bth L).length ≤ 2 * L.length := by
  unfold bth
  have : ∀ (L S : List Ar), (L.foldl (fun S a => ains (ains S a) (rev a)) S).length ≤ S.length + 2 * L.length := by
    intro L
    induction L with
    | nil => intro S; simp
    | cons a t ih =>
      intro S
      have h1 := ih (ains (ains S a) (rev a))
      have h2 := ains_length (ains S a) (rev a)
      have h3 := ains_length S a
      rw [List.foldl_cons, List.length_cons]; omega
  have := this L []
  simpa using this
/-- The graph both ways. -/
def gboth (g : List (List Nat)) : List (List Nat) := wa g.length (bth (arcs 0 g))
theorem gboth_length (g : List (List Nat)) : (gboth g).length = g.length := wa_length _ _
theorem gboth_mem {g : List (List Nat)} {i x : Nat} (h : i < g.length) : x ∈ row (gboth g) i ↔ x ∈ row g i ∨ i ∈ row g x := by
  unfold gboth; rw [wa_mem _ _ _ _ h, bth_mem, arcs_mem0, arcs_mem0]; rfl
theorem bth_bd {g : List (List Nat)} (h : GOk g) : ∀ a ∈ bth (arcs 0 g), a.1 < g.length ∧ a.2 < g.length := fun a ha => by
  rcases (bth_mem _ a).1 ha with h1 | h1
  · exact arcs_bd h a h1
  · have := arcs_bd h _ h1; exact ⟨this.2, this.1⟩
theorem gboth_ok {g : List (List Nat)} (h : GOk g) (hl : (bth (arcs 0 g)).length ≤ 600) : GOk (gboth g) :=
  wa_ok h.nodes (bth_nodup _) (bth_bd h) hl
theorem gboth_arcs {g : List (List Nat)} (h : GOk g) : (arcs 0 (gboth g)).Perm (bth (arcs 0 g)) := wa_arcs (bth_nodup _) (bth_bd h)
theorem gboth_ris {g : List (List Nat)} (i : Nat) : (row (gboth g) i).Pairwise (· < ·) := wa_ris (bth_nodup _) i
theorem gboth_bd {g : List (List Nat)} (h : GOk g) {i x : Nat} (hi : i < g.length) (hx : x ∈ row (gboth g) i) : x < g.length := by
  rw [gboth_mem hi] at hx
  rcases hx with h1 | h1
  · exact h.bd _ (row_mem hi) _ h1
  · by_cases hx : x < g.length
    · exact hx
    · rw [row_out (by omega)] at h1; simp at h1
/-- Both ways a graph is its own gturn. -/
theorem gboth_turn {g : List (List Nat)} (h : GOk g) (hl : (bth (arcs 0 g)).length ≤ 600) : gturn (gboth g) = gboth g := by
  refine graph_ext (gturn_length _) (row_ris (gturn_ok (gboth_ok h hl))) gboth_ris (fun i x hi => ?_)
  rw [gturn_length, gboth_length] at hi
  rw [gturn_mem (by rw [gboth_length]; exact hi), gboth_mem hi]
  by_cases hx : x < g.length
  · rw [gboth_mem hx]; exact or_comm
  · rw [row_out (by rw [gboth_length]; omega), row_out (g := g) (i := x) (by omega)]
    refine ⟨fun h' => by simp at h', fun h' => ?_⟩
    rcases h' with h' | h'
    · exact absurd (h.bd _ (row_mem hi) _ h') hx
    · simp at h'
/-- Both ways again it is the same. -/
theorem gboth_both {g : List (List Nat)} (h : GOk g) (hl : (bth (arcs 0 g)).length ≤ 600) : gboth (gboth g) = gboth g ∧ (bth (arcs 0 (gboth g))).length ≤ 600 := by
  have hok := gboth_ok h hl
  have hm : ∀ a, a ∈ bth (arcs 0 (gboth g)) ↔ a ∈ arcs 0 (gboth g) := fun a => by
    rw [bth_mem]
    refine ⟨fun h' => h'.elim id (fun h1 => ?_), .inl⟩
    have ht := gboth_turn h hl
    have hb := arcs_bd hok _ h1
    rw [arcs_mem0] at h1 ⊢
    rw [← ht, gturn_mem (by exact hb.2)]
    exact h1
  have hp : (bth (arcs 0 (gboth g))).Perm (arcs 0 (gboth g)) := (List.perm_ext_iff_of_nodup (bth_nodup _) (arcs_nodup _ _ hok.ris)).2 hm
  refine ⟨?_, by rw [hp.length_eq]; exact hok.many⟩
  have : wa (gboth g).length (bth (arcs 0 (gboth g))) = wa (gboth g).length (arcs 0 (gboth g)) := wa_perm hp (bth_nodup _)
  show wa (gboth g).length _ = _
  rw [this, wa_self hok]
end Go.Proofs.YticdnodlapafoaaGreat
