/- Plain facts: which lists of whole numbers are a graph that is right; each with its conditions. -/
import Derived.Test.YticdnodlapafoaaGreatJSWChk
namespace Go.Proofs.YticdnodlapafoaaGreat
set_option linter.unusedVariables false

theorem ckO_zero (ok : Int → Bool) (v x : Int) : ckO ok v x = 0 ↔ ok x = true ∧ v < x := by
  unfold ckO
  cases h : ok x
  · simp
  · by_cases h2 : x ≤ v
    · simp [h2]
    · simp [h2]; omega
theorem rs_zero (n : Int) : ∀ (xs : List Int) (v : Int), eachS (ckO (okG n)) id v xs = 0 → ∃ l, xs = ns l ∧ (∀ x ∈ l, v < (x : Int) ∧ (x : Int) < n) ∧ l.Pairwise (· < ·)
  | [], v, _ => ⟨[], rfl, by simp, .nil⟩
  | x :: t, v, h => by
    rw [eachS_cons] at h
    by_cases h0 : ckO (okG n) v x = 0
    · rw [if_pos h0] at h
      obtain ⟨h1, h2⟩ := (ckO_zero _ _ _).1 h0
      unfold okG at h1
      simp only [decide_eq_true_eq] at h1
      obtain ⟨l, hl, hb, hp⟩ := rs_zero n t x h
      refine ⟨x.toNat :: l, ?_, ?_, ?_⟩
      · rw [ns_cons, hl, Int.toNat_of_nonneg h1.1]
      · intro y hy
        rcases List.mem_cons.1 hy with rfl | hy
        · omega
        · have := hb y hy; omega
      · refine List.pairwise_cons.2 ⟨fun y hy => ?_, hp⟩
        have := hb y hy; omega
    · rw [if_neg h0] at h; exact absurd h h0
theorem rs_ok (n : Int) : ∀ (l : List Nat) (v : Int), (∀ x ∈ l, v < (x : Int) ∧ (x : Int) < n) → l.Pairwise (· < ·) → eachS (ckO (okG n)) id v (ns l) = 0
  | [], v, _, _ => rfl
  | x :: t, v, hb, hp => by
    obtain ⟨h1, h2⟩ := List.pairwise_cons.1 hp
    have hx := hb x (by simp)
    rw [ns_cons, eachS_cons, if_pos ((ckO_zero _ _ _).2 ⟨by unfold okG; simp; omega, hx.1⟩)]
    exact rs_ok n t x (fun y hy => ⟨by have := h1 y hy; omega, (hb y (by simp [hy])).2⟩) h2
theorem first_zero (f : List Int → Int) : ∀ g : List (List Int), firstE f g = 0 ↔ ∀ l ∈ g, f l = 0
  | [] => by simp [firstE]
  | x :: t => by
    rw [firstE_cons]
    by_cases h : f x = 0
    · rw [if_pos h, first_zero f t]
      exact ⟨fun h1 l hl => (List.mem_cons.1 hl).elim (fun e => e ▸ h) (h1 l), fun h1 l hl => h1 l (by simp [hl])⟩
    · rw [if_neg h]
      exact ⟨fun h1 => absurd h1 h, fun h1 => h1 x (by simp)⟩
theorem sumL_arcs : ∀ (g : List (List Nat)) (o : Nat), sumL (g.map ns) = (arcs o g).length
  | [], o => rfl
  | l :: t, o => by
    unfold arcs
    rw [List.map_cons, sumL_cons, ns_length, List.length_append, List.length_map, sumL_arcs t (o + 1)]
/-- A graph that is looked at and has no error is right. -/
theorem grE_zero (xs : List (List Int)) (h : grE xs = 0) : ∃ g, xs = g.map ns ∧ GOk g := by
  unfold grE at h
  by_cases h1 : 100 < xs.length
  · rw [if_pos h1] at h; cases h
  · rw [if_neg h1] at h
    by_cases h2 : firstE (rsE (xs.length : Int)) xs = 0 ∧ 600 < sumL xs
    · rw [if_pos h2] at h; cases h
    · rw [if_neg h2] at h
      have h3 := (first_zero _ _).1 h
      have h4 : ∀ xs' : List (List Int), (∀ l ∈ xs', rsE (xs.length : Int) l = 0) → ∃ g : List (List Nat), xs' = g.map ns ∧ ∀ l ∈ g, l.Pairwise (· < ·) ∧ ∀ x ∈ l, (x : Int) < (xs.length : Int) := by
        intro xs'
        induction xs' with
        | nil => intro _; exact ⟨[], rfl, by simp⟩
        | cons l t ih =>
          intro hl
          obtain ⟨g, e, hg⟩ := ih (fun m hm => hl m (by simp [hm]))
          obtain ⟨m, em, hb, hp⟩ := rs_zero _ l (-1) (hl l (by simp))
          refine ⟨m :: g, by rw [List.map_cons, e, em], fun l' hl' => ?_⟩
          rcases List.mem_cons.1 hl' with rfl | hl'
          · exact ⟨hp, fun x hx => (hb x hx).2⟩
          · exact hg l' hl'
      obtain ⟨g, e, hg⟩ := h4 xs h3
      have hln : g.length = xs.length := by rw [e, List.length_map]
      refine ⟨g, e, ⟨by omega, fun l hl => (hg l hl).1, fun l hl x hx => by have := (hg l hl).2 x hx; omega, ?_⟩⟩
      rw [← sumL_arcs g 0, ← e]
      have : ¬ 600 < sumL xs := fun q => h2 ⟨h, q⟩
      omega
theorem grE_ok (g : List (List Nat)) (h : GOk g) : grE (g.map ns) = 0 := by
  unfold grE
  have hl : (g.map ns).length = g.length := List.length_map ..
  rw [hl, if_neg (by have := h.nodes; omega), if_neg (by rw [sumL_arcs g 0]; have := h.many; omega)]
  refine (first_zero _ _).2 fun l hl => ?_
  obtain ⟨m, hm, rfl⟩ := List.mem_map.1 hl
  exact rs_ok _ m (-1) (fun x hx => ⟨by omega, by have := h.bd m hm x hx; omega⟩) (h.ris m hm)
theorem gns_inj {a b : List (List Nat)} (h : a.map ns = b.map ns) : a = b := by
  induction a generalizing b with
  | nil => cases b with
    | nil => rfl
    | cons y s => simp at h
  | cons x t ih => cases b with
    | nil => simp at h
    | cons y s =>
      rw [List.map_cons, List.map_cons, List.cons.injEq] at h
      rw [ns_inj h.1, ih h.2]
end Go.Proofs.YticdnodlapafoaaGreat
