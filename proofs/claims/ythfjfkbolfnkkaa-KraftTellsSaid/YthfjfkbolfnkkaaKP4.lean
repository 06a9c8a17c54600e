/- Plain facts: the lengths that joining groups gives. No condition but those that each fact names. -/
import Derived.Test.YthfjfkbolfnkkaaKP3
namespace Go.Proofs.Ythfjfkbolfnkkaa
set_option linter.unusedVariables false

/-- A group: its weight, its least sign, its signs. -/
abbrev Gp := Nat × Nat × List Nat
def gle (a b : Gp) : Prop := a.1 < b.1 ∨ (a.1 = b.1 ∧ a.2.1 ≤ b.2.1)
instance (a b : Gp) : Decidable (gle a b) := by unfold gle; exact inferInstance
def gins (x : Gp) : List Gp → List Gp
  | [] => [x]
  | y :: t => if gle x y then x :: y :: t else y :: gins x t
def gsort : List Gp → List Gp
  | [] => []
  | x :: t => gins x (gsort t)
theorem gins_perm (x : Gp) : ∀ t, (gins x t).Perm (x :: t)
  | [] => .refl _
  | y :: t => by
    unfold gins
    split
    · exact .refl _
    · exact ((gins_perm x t).cons y).trans (.swap x y t)
theorem gsort_perm : ∀ l, (gsort l).Perm l
  | [] => .refl _
  | x :: t => (gins_perm x _).trans ((gsort_perm t).cons x)
theorem gle_trans {a b c : Gp} (h : gle a b) (k : gle b c) : gle a c := by unfold gle at *; omega
theorem gins_sorted (x : Gp) : ∀ t, t.Pairwise gle → (gins x t).Pairwise gle
  | [], _ => by simp [gins]
  | y :: t, h => by
    have h1 := List.pairwise_cons.1 h
    unfold gins
    by_cases hx : gle x y
    · rw [if_pos hx]
      refine List.pairwise_cons.2 ⟨fun z hz => ?_, h⟩
      rcases List.mem_cons.1 hz with rfl | hz
      · exact hx
      · exact gle_trans hx (h1.1 z hz)
    · rw [if_neg hx]
      refine List.pairwise_cons.2 ⟨fun z hz => ?_, gins_sorted x t h1.2⟩
      rcases List.mem_cons.1 ((gins_perm x t).subset hz) with rfl | hz
      · unfold gle at *; omega
      · exact h1.1 z hz
theorem gsort_sorted : ∀ l, (gsort l).Pairwise gle
  | [] => .nil
  | x :: t => gins_sorted x _ (gsort_sorted t)
theorem gsort_wt (l : List Gp) : isort (l.map (·.1)) = (gsort l).map (·.1) := by
  rw [isort_eq (((gsort_perm l).map (·.1)).symm)]
  exact isort_id (List.pairwise_map.2 ((gsort_sorted l).imp (fun h => by unfold gle at h; omega)))

def usd : Nat → List Nat → List Nat
  | _, [] => []
  | i, n :: t => if n = 0 then usd (i + 1) t else i :: usd (i + 1) t
def groups : Nat → List Nat → List Gp
  | _, [] => []
  | i, n :: t => if n = 0 then groups (i + 1) t else (n, i, [i]) :: groups (i + 1) t
def joinG (a b : Gp) : Gp := (a.1 + b.1, min a.2.1 b.2.1, a.2.2 ++ b.2.2)
def bump (L : Nat → Nat) (S : List Nat) : Nat → Nat := fun s => L s + S.count s
def hrun : Nat → List Gp → (Nat → Nat) → (Nat → Nat)
  | 0, _, L => L
  | n + 1, gs, L => match gsort gs with
    | a :: b :: r => hrun n (r ++ [joinG a b]) (bump L (a.2.2 ++ b.2.2))
    | _ => L
def lens (os : List Nat) : Nat → Nat := match groups 0 os with
  | [g] => fun s => if s = g.2.1 then 1 else 0
  | gs => hrun (gs.length - 1) gs (fun _ => 0)
def hl (os : List Nat) : List Nat := (List.range os.length).map (lens os)
theorem hl_length (os : List Nat) : (hl os).length = os.length := by simp [hl]

def flat (gs : List Gp) : List Nat := gs.flatMap (·.2.2)
theorem flat_perm {a b : List Gp} (h : a.Perm b) : (flat a).Perm (flat b) := h.flatMap_right _
theorem flat_groups : ∀ (os : List Nat) (i : Nat), flat (groups i os) = usd i os
  | [], i => rfl
  | n :: t, i => by
    unfold groups usd
    split
    · exact flat_groups t (i + 1)
    · have := flat_groups t (i + 1)
      unfold flat at *
      simp [this]
theorem usd_mem : ∀ (os : List Nat) (i s : Nat), s ∈ usd i os ↔ ∃ j, s = i + j ∧ ∃ n, os[j]? = some n ∧ n ≠ 0
  | [], i, s => by simp [usd]
  | m :: t, i, s => by
    have ih := usd_mem t (i + 1) s
    unfold usd
    constructor
    · intro h
      by_cases hm : m = 0
      · rw [if_pos hm] at h
        obtain ⟨j, h1, h2⟩ := ih.1 h
        exact ⟨j + 1, by omega, by simpa using h2⟩
      · rw [if_neg hm] at h
        rcases List.mem_cons.1 h with rfl | h
        · exact ⟨0, by simp, m, by simp, hm⟩
        · obtain ⟨j, h1, h2⟩ := ih.1 h
          exact ⟨j + 1, by omega, by simpa using h2⟩
    · rintro ⟨j, h1, n, h2, h3⟩
      cases j with
      | zero =>
        simp at h2
        subst h2
        rw [if_neg h3]
        exact List.mem_cons.2 (.inl (by simpa using h1))
      | succ j =>
        have := ih.2 ⟨j, by omega, n, by simpa using h2, h3⟩
        split
        · exact this
        · exact List.mem_cons_of_mem _ this
theorem usd_sorted : ∀ (os : List Nat) (i : Nat), (usd i os).Pairwise (· < ·)
  | [], i => .nil
  | m :: t, i => by
    unfold usd
    split
    · exact usd_sorted t (i + 1)
    · refine List.pairwise_cons.2 ⟨fun s hs => ?_, usd_sorted t (i + 1)⟩
      obtain ⟨j, h1, _⟩ := (usd_mem t (i + 1) s).1 hs
      omega
theorem usd_nodup (os : List Nat) : (usd 0 os).Nodup := (usd_sorted os 0).imp (fun h => by omega)

/-- Groups that are right: weights are those of their signs. -/
def osum (o : Nat → Nat) : List Nat → Nat
  | [] => 0
  | s :: t => o s + osum o t
theorem osum_append (o : Nat → Nat) : ∀ a b, osum o (a ++ b) = osum o a + osum o b
  | [], b => by simp [osum]
  | x :: a, b => by simp [osum, osum_append o a b]; omega
/-- A sum over the first ones. -/
def sumN (f : Nat → Nat) : Nat → Nat
  | 0 => 0
  | n + 1 => sumN f n + f n
theorem sumN_add (f g : Nat → Nat) : ∀ n, sumN (fun s => f s + g s) n = sumN f n + sumN g n
  | 0 => rfl
  | n + 1 => by simp [sumN, sumN_add f g n]; omega
theorem sumN_zero (f : Nat → Nat) : ∀ n, (∀ s, s < n → f s = 0) → sumN f n = 0
  | 0, _ => rfl
  | n + 1, h => by simp [sumN, sumN_zero f n (fun s hs => h s (by omega)), h n (by omega)]
theorem sumN_one (f : Nat → Nat) (x : Nat) : ∀ n, (∀ s, s < n → s ≠ x → f s = 0) → x < n → sumN f n = f x
  | 0, _, h => by omega
  | n + 1, h, hx => by
    unfold sumN
    by_cases e : x = n
    · subst e; rw [sumN_zero f x (fun s hs => h s (by omega) (by omega)), Nat.zero_add]
    · rw [sumN_one f x n (fun s hs hn => h s (by omega) hn) (by omega), h n (by omega) (fun e' => e e'.symm)]; rfl
theorem sumN_count (o : Nat → Nat) (m : Nat) : ∀ S : List Nat, (∀ s ∈ S, s < m) → sumN (fun s => o s * S.count s) m = osum o S
  | [], _ => sumN_zero _ _ (fun s _ => by simp)
  | x :: t, h => by
    have ih := sumN_count o m t (fun s hs => h s (List.mem_cons_of_mem _ hs))
    have e : (fun s => o s * (x :: t).count s) = fun s => o s * t.count s + (if s = x then o s else 0) := by
      funext s
      rw [List.count_cons]
      by_cases hs : s = x
      · subst hs; simp [Nat.mul_add]
      · have : (x == s) = false := by simpa using fun e => hs e.symm
        simp [hs, this]
    rw [e, sumN_add, ih, sumN_one _ x m (fun s _ hs => by simp [hs]) (h x List.mem_cons_self)]
    simp [osum]; omega
theorem hrun_cost (o : Nat → Nat) (m : Nat) : ∀ (n : Nat) (gs : List Gp) (L : Nat → Nat), gs.length = n + 1 → (∀ g ∈ gs, g.1 = osum o g.2.2) → (∀ s ∈ flat gs, s < m) →
    sumN (fun s => o s * hrun n gs L s) m = sumN (fun s => o s * L s) m + hcs n (gs.map (·.1))
  | 0, gs, L, _, _, _ => rfl
  | n + 1, gs, L, hl, hw, hm => by
    have hp := gsort_perm gs
    unfold hrun hcs
    rw [gsort_wt]
    have hlen := hp.length_eq
    have hw' : ∀ g ∈ gsort gs, g.1 = osum o g.2.2 := fun g hg => hw g (hp.subset hg)
    have hm' : ∀ s ∈ flat (gsort gs), s < m := fun s hs => hm s ((flat_perm hp).subset hs)
    generalize gsort gs = ss at *
    match ss, hlen, hw', hm' with
    | [], h, _, _ => simp at h; omega
    | [_], h, _, _ => simp at h; omega
    | a :: b :: r, h, hw', hm' =>
      have wa := hw' a List.mem_cons_self
      have wb := hw' b (List.mem_cons_of_mem _ List.mem_cons_self)
      have ma : ∀ s ∈ a.2.2 ++ b.2.2, s < m := fun s hs => hm' s (by simp [flat]; rcases List.mem_append.1 hs with h | h <;> simp [h])
      have ih := hrun_cost o m n (r ++ [joinG a b]) (bump L (a.2.2 ++ b.2.2)) (by simp at h ⊢; omega) (fun g hg => by
        rcases List.mem_append.1 hg with hg | hg
        · exact hw' g (List.mem_cons_of_mem _ (List.mem_cons_of_mem _ hg))
        · have : g = joinG a b := by simpa using hg
          subst this
          simp only [joinG, osum_append]; omega) (fun s hs => by
        unfold flat at hs
        rw [List.flatMap_append] at hs
        rcases List.mem_append.1 hs with hs | hs
        · exact hm' s (by simp [flat] at hs ⊢; exact .inr (.inr hs))
        · exact ma s (by simpa [joinG] using hs))
      show sumN (fun s => o s * hrun n (r ++ [joinG a b]) (bump L (a.2.2 ++ b.2.2)) s) m = _
      rw [ih]
      have e : sumN (fun s => o s * bump L (a.2.2 ++ b.2.2) s) m = sumN (fun s => o s * L s) m + (a.1 + b.1) := by
        have : (fun s => o s * bump L (a.2.2 ++ b.2.2) s) = fun s => o s * L s + o s * (a.2.2 ++ b.2.2).count s := by funext s; unfold bump; rw [Nat.mul_add]
        rw [this, sumN_add, sumN_count o m _ ma, osum_append, wa, wb]
      rw [e]
      simp only [List.map_append, List.map_cons, List.map_nil, joinG]
      omega

/-- Signs fill all room. -/
def full (L : Nat → Nat) (S : List Nat) : Prop := ∀ d, (∀ s ∈ S, L s ≤ d) → ksum d (S.map L) = 2 ^ d
theorem full_congr {L L' : Nat → Nat} {S : List Nat} (h : full L S) (e : ∀ s ∈ S, L' s = L s) : full L' S := fun d hd => by
  rw [List.map_congr_left e]
  exact h d (fun s hs => by rw [← e s hs]; exact hd s hs)
theorem full_perm {L : Nat → Nat} {S T : List Nat} (h : full L S) (p : S.Perm T) : full L T := fun d hd => by
  rw [← ksum_perm d (p.map L)]
  exact h d (fun s hs => hd s (p.subset hs))
theorem full_ne {L : Nat → Nat} {S : List Nat} (h : full L S) : S ≠ [] := by
  rintro rfl
  have := h 0 (by simp)
  simp [ksum] at this
theorem full_join {L L' : Nat → Nat} {A B : List Nat} (ha : full L A) (hb : full L B) (e : ∀ s ∈ A ++ B, L' s = L s + 1) : full L' (A ++ B) := by
  intro d hd
  obtain ⟨x, hx⟩ := List.exists_mem_of_ne_nil _ (full_ne ha)
  have h1 := hd x (List.mem_append_left _ hx)
  rw [e x (List.mem_append_left _ hx)] at h1
  obtain ⟨c, rfl⟩ : ∃ c, d = c + 1 := ⟨d - 1, by omega⟩
  have key : ∀ S : List Nat, (∀ s ∈ S, L' s = L s + 1) → ksum (c + 1) (S.map L') = ksum c (S.map L) := by
    intro S hS
    induction S with
    | nil => rfl
    | cons s t ih =>
      simp only [List.map_cons, ksum, ih (fun s hs => hS s (List.mem_cons_of_mem _ hs)), hS s List.mem_cons_self]
      rw [show c + 1 - (L s + 1) = c - L s by omega]
  have hle : ∀ s ∈ A ++ B, L s ≤ c := fun s hs => by have := hd s hs; rw [e s hs] at this; omega
  rw [List.map_append, ksum_append, key A (fun s hs => e s (List.mem_append_left _ hs)), key B (fun s hs => e s (List.mem_append_right _ hs)), ha c (fun s hs => hle s (List.mem_append_left _ hs)), hb c (fun s hs => hle s (List.mem_append_right _ hs)), Nat.pow_succ]
  omega
theorem hrun_full : ∀ (n : Nat) (gs : List Gp) (L : Nat → Nat), gs.length = n + 1 → (flat gs).Nodup → (∀ g ∈ gs, full L g.2.2) → full (hrun n gs L) (flat gs)
  | 0, gs, L, hl, _, hf => by
    match gs, hl with
    | [g], _ => unfold hrun; simpa [flat] using hf g List.mem_cons_self
  | n + 1, gs, L, hl, hn, hf => by
    have hp := gsort_perm gs
    have hlen := hp.length_eq
    have hn' : (flat (gsort gs)).Nodup := (flat_perm hp).nodup_iff.2 hn
    have hf' : ∀ g ∈ gsort gs, full L g.2.2 := fun g hg => hf g (hp.subset hg)
    refine full_perm ?_ (flat_perm hp)
    unfold hrun
    generalize gsort gs = ss at *
    match ss, hlen, hn', hf' with
    | [], h, _, _ => simp at h; omega
    | [_], h, _, _ => simp at h; omega
    | a :: b :: r, h, hn', hf' =>
      have e0 : flat (a :: b :: r) = (a.2.2 ++ b.2.2) ++ flat r := by simp [flat]
      have e1 : flat (r ++ [joinG a b]) = flat r ++ (a.2.2 ++ b.2.2) := by simp [flat, joinG]
      have hpm : (flat (r ++ [joinG a b])).Perm (flat (a :: b :: r)) := by rw [e0, e1]; exact List.perm_append_comm
      rw [e0] at hn'
      have nd := List.nodup_append.1 hn'
      have cnt : ∀ s ∈ a.2.2 ++ b.2.2, bump L (a.2.2 ++ b.2.2) s = L s + 1 := fun s hs => by unfold bump; rw [List.Nodup.count nd.1, if_pos hs]
      have cnt0 : ∀ s ∈ flat r, bump L (a.2.2 ++ b.2.2) s = L s := fun s hs => by
        unfold bump
        rw [List.count_eq_zero.2 (fun h => nd.2.2 s h s hs rfl)]; rfl
      refine full_perm (hrun_full n (r ++ [joinG a b]) _ (by simp at h ⊢; omega) ?_ (fun g hg => ?_)) hpm
      · rw [hpm.nodup_iff, e0]; exact hn'
      · rcases List.mem_append.1 hg with hg | hg
        · exact full_congr (hf' g (List.mem_cons_of_mem _ (List.mem_cons_of_mem _ hg))) (fun s hs => cnt0 s (List.mem_flatMap.2 ⟨g, hg, hs⟩))
        · have : g = joinG a b := by simpa using hg
          subst this
          exact full_join (hf' a List.mem_cons_self) (hf' b (List.mem_cons_of_mem _ List.mem_cons_self)) cnt
theorem hrun_ge : ∀ (n : Nat) (gs : List Gp) (L : Nat → Nat) (s : Nat), L s ≤ hrun n gs L s
  | 0, gs, L, s => Nat.le_refl _
  | n + 1, gs, L, s => by
    unfold hrun
    generalize gsort gs = ss
    match ss with
    | [] => exact Nat.le_refl _
    | [_] => exact Nat.le_refl _
    | a :: b :: r => exact Nat.le_trans (Nat.le_add_right _ _) (hrun_ge n _ (bump L (a.2.2 ++ b.2.2)) s)
theorem hrun_pos : ∀ (n : Nat) (gs : List Gp) (L : Nat → Nat) (s : Nat), gs.length = n + 2 → s ∈ flat gs → 1 ≤ hrun (n + 1) gs L s
  | n, gs, L, s, hl, hs => by
    have hp := gsort_perm gs
    have hlen := hp.length_eq
    have hs' : s ∈ flat (gsort gs) := (flat_perm hp).symm.subset hs
    unfold hrun
    generalize gsort gs = ss at *
    match ss, hlen, hs' with
    | [], h, _ => simp at h; omega
    | [_], h, _ => simp at h; omega
    | a :: b :: r, h, hs' =>
      show 1 ≤ hrun n (r ++ [joinG a b]) (bump L (a.2.2 ++ b.2.2)) s
      by_cases hc : s ∈ a.2.2 ++ b.2.2
      · refine Nat.le_trans ?_ (hrun_ge n _ _ s)
        unfold bump
        have := List.count_pos_iff.2 hc
        omega
      · have hr : s ∈ flat r := by
          simp only [flat, List.flatMap_cons] at hs'
          rw [← List.append_assoc] at hs'
          rcases List.mem_append.1 hs' with h | h
          · exact absurd h hc
          · exact h
        cases n with
        | zero =>
          have : r = [] := List.eq_nil_of_length_eq_zero (by simp at h; omega)
          subst this
          simp [flat] at hr
        | succ n => exact hrun_pos n _ _ s (by simp at h ⊢; omega) (by simp [flat] at hr ⊢; exact .inl hr)
theorem hrun_out : ∀ (n : Nat) (gs : List Gp) (L : Nat → Nat) (s : Nat), s ∉ flat gs → hrun n gs L s = L s
  | 0, gs, L, s, _ => rfl
  | n + 1, gs, L, s, hs => by
    have hp := gsort_perm gs
    have hs' : s ∉ flat (gsort gs) := fun h => hs ((flat_perm hp).subset h)
    unfold hrun
    generalize gsort gs = ss at *
    match ss, hs' with
    | [], _ => rfl
    | [_], _ => rfl
    | a :: b :: r, hs' =>
      have hc : s ∉ a.2.2 ++ b.2.2 := fun h => hs' (by simp only [flat, List.flatMap_cons]; rw [← List.append_assoc]; exact List.mem_append_left _ h)
      show hrun n (r ++ [joinG a b]) (bump L (a.2.2 ++ b.2.2)) s = L s
      rw [hrun_out n _ _ s (fun h => hs' (by
        simp only [flat, List.flatMap_append, List.flatMap_cons, List.flatMap_nil, List.append_nil, joinG] at h ⊢
        rw [← List.append_assoc]
        rcases List.mem_append.1 h with h | h
        · exact List.mem_append_right _ h
        · exact List.mem_append_left _ h))]
      unfold bump
      rw [List.count_eq_zero.2 hc]; rfl
end Go.Proofs.Ythfjfkbolfnkkaa
