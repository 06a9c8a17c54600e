/- Plain facts on runs of rising lists: what a list is split into, what runs and a rest are merged to; nothing here speaks of a program; each fact names its conditions. -/
import Derived.Test.YtfcmjjmlijidcaaJQNPure
namespace Go.Proofs.Ytfcmjjmlijidcaa
set_option linter.unusedVariables false

abbrev Rn := Nat × Nat
def nums (p : Rn) : List Nat := List.range' p.1 p.2
def flatR (R : List Rn) : List Nat := R.flatMap nums
theorem flatR_nil : flatR [] = [] := rfl
theorem flatR_cons (p : Rn) (R : List Rn) : flatR (p :: R) = nums p ++ flatR R := by simp [flatR]
theorem flatR_append (a b : List Rn) : flatR (a ++ b) = flatR a ++ flatR b := by simp [flatR]
theorem flatR_snoc (a : List Rn) (p : Rn) : flatR (a ++ [p]) = flatR a ++ nums p := by rw [flatR_append, flatR_cons, flatR_nil, List.append_nil]
theorem nums_length (p : Rn) : (nums p).length = p.2 := by simp [nums]
theorem nums_mem (p : Rn) (x : Nat) : x ∈ nums p ↔ p.1 ≤ x ∧ x < p.1 + p.2 := by simp [nums, List.mem_range'_1]
/-- The runs of a list. -/
def rs : List Nat → List Rn
  | [] => []
  | x :: t => match rs t with
    | (f, m) :: r => if f = x + 1 then (x, m + 1) :: r else (x, 1) :: (f, m) :: r
    | [] => [(x, 1)]
theorem rs_ne (x : Nat) (t : List Nat) : ∃ m r, rs (x :: t) = (x, m + 1) :: r := by
  unfold rs
  split
  · rename_i f m r e
    by_cases h : f = x + 1
    · rw [if_pos h]; exact ⟨_, _, rfl⟩
    · rw [if_neg h]; exact ⟨0, _, rfl⟩
  · exact ⟨0, _, rfl⟩
theorem rs_flat : ∀ l : List Nat, flatR (rs l) = l
  | [] => rfl
  | x :: t => by
    have ih := rs_flat t
    unfold rs
    split
    · rename_i f m r e
      rw [e] at ih
      by_cases h : f = x + 1
      · rw [if_pos h]
        subst h
        rw [flatR_cons] at ih ⊢
        have : nums (x, m + 1) = x :: nums (x + 1, m) := by simp [nums, List.range'_succ]
        rw [this, List.cons_append, ih]
      · rw [if_neg h, flatR_cons, ih]; simp [nums]
    · rename_i e
      rw [e] at ih
      rw [← ih]; simp [flatR, nums]
/-- How many numbers are in the first run. -/
def m1 (l : List Nat) : Nat := ((rs l).head?.map (·.2)).getD 0
theorem rs_step : ∀ l : List Nat, l ≠ [] → rs l = (l[0]?.getD 0, m1 l) :: rs (l.drop (m1 l)) ∧ 1 ≤ m1 l ∧ m1 l ≤ l.length
  | [], h => absurd rfl h
  | x :: t, _ => by
    unfold m1
    rcases t with _ | ⟨y, t⟩
    · simp [rs]
    · have ih := rs_step (y :: t) (by simp)
      unfold m1 at ih
      have hx : rs (x :: y :: t) = match rs (y :: t) with
        | (f, m) :: r => if f = x + 1 then (x, m + 1) :: r else (x, 1) :: (f, m) :: r
        | [] => [(x, 1)] := rfl
      obtain ⟨m, r, e⟩ := rs_ne y t
      rw [e] at ih hx
      simp only [List.head?_cons, Option.map_some, Option.getD_some, List.getElem?_cons_zero, List.cons.injEq, true_and] at ih
      simp only at hx
      rw [hx]
      by_cases h : y = x + 1
      · rw [if_pos h]
        simp only [List.head?_cons, Option.map_some, Option.getD_some, List.getElem?_cons_zero, List.cons.injEq, true_and]
        refine ⟨?_, by omega, by have := ih.2.2; simp at this ⊢; omega⟩
        rw [List.drop_succ_cons]; exact ih.1
      · rw [if_neg h]
        simp only [List.head?_cons, Option.map_some, Option.getD_some, List.getElem?_cons_zero, List.cons.injEq, true_and, List.drop_succ_cons, List.drop_zero]
        exact ⟨e.symm, by omega, by simp⟩
theorem m1_at : ∀ l : List Nat, ∀ i, i < m1 l → l[i]?.getD 0 = l[0]?.getD 0 + i
  | [], i, h => by simp [m1, rs] at h
  | x :: t, 0, _ => by simp
  | x :: t, i + 1, h => by
    rcases t with _ | ⟨y, t⟩
    · simp [m1, rs] at h
    · obtain ⟨m, r, e⟩ := rs_ne y t
      have hx : rs (x :: y :: t) = match rs (y :: t) with
        | (f, m) :: r => if f = x + 1 then (x, m + 1) :: r else (x, 1) :: (f, m) :: r
        | [] => [(x, 1)] := rfl
      rw [e] at hx
      simp only at hx
      have hm : m1 (y :: t) = m + 1 := by unfold m1; rw [e]; rfl
      unfold m1 at h
      rw [hx] at h
      by_cases hy : y = x + 1
      · rw [if_pos hy] at h
        simp at h
        have := m1_at (y :: t) i (by omega)
        simp at this ⊢
        omega
      · rw [if_neg hy] at h
        simp at h
theorem m1_end : ∀ l : List Nat, m1 l < l.length → l[m1 l]?.getD 0 ≠ l[0]?.getD 0 + m1 l
  | [], h => by simp at h
  | x :: t, h => by
    rcases t with _ | ⟨y, t⟩
    · simp [m1, rs] at h
    · obtain ⟨m, r, e⟩ := rs_ne y t
      have hx : rs (x :: y :: t) = match rs (y :: t) with
        | (f, m) :: r => if f = x + 1 then (x, m + 1) :: r else (x, 1) :: (f, m) :: r
        | [] => [(x, 1)] := rfl
      rw [e] at hx
      simp only at hx
      have hm : m1 (y :: t) = m + 1 := by unfold m1; rw [e]; rfl
      have ih := m1_end (y :: t)
      by_cases hy : y = x + 1
      · rw [if_pos hy] at hx
        have h1 : m1 (x :: y :: t) = m + 2 := by unfold m1; rw [hx]; rfl
        rw [h1] at h ⊢
        rw [hm] at ih
        have := ih (by simp at h ⊢; omega)
        simp at this ⊢
        omega
      · rw [if_neg hy] at hx
        have h1 : m1 (x :: y :: t) = 1 := by unfold m1; rw [hx]; rfl
        rw [h1]
        simpa using hy
/-- How many follow: as the program counts. -/
theorem m1_uniq (l : List Nat) (k : Nat) (h1 : 1 ≤ k) (hk : k ≤ l.length) (ha : ∀ i, i < k → l[i]?.getD 0 = l[0]?.getD 0 + i) (he : k < l.length → l[k]?.getD 0 ≠ l[0]?.getD 0 + k) : m1 l = k := by
  have hl : l ≠ [] := by rintro rfl; simp at hk; omega
  have h2 := (rs_step l hl).2
  rcases Nat.lt_trichotomy (m1 l) k with h | h | h
  · exact absurd (ha _ h) (m1_end l (by omega))
  · exact h
  · exact absurd (m1_at l k h) (he (by omega))

/-- Runs with a number missing between them, behind one that is missing. -/
def Sep : Int → List Rn → Prop
  | _, [] => True
  | v, p :: t => v < (p.1 : Int) ∧ 1 ≤ p.2 ∧ Sep ((p.1 + p.2 : Nat) : Int) t
theorem sep_weak : ∀ (R : List Rn) (v u : Int), u ≤ v → Sep v R → Sep u R
  | [], _, _, _, _ => trivial
  | p :: t, v, u, h, ⟨h1, h2, h3⟩ => ⟨by omega, h2, h3⟩
theorem sep_filter (q : Rn → Bool) : ∀ (R : List Rn) (v : Int), Sep v R → Sep v (R.filter q)
  | [], _, _ => trivial
  | p :: t, v, ⟨h1, h2, h3⟩ => by
    rw [List.filter_cons]
    split
    · exact ⟨h1, h2, sep_filter q t _ h3⟩
    · exact sep_filter q t v (sep_weak t _ _ (by omega) h3)
theorem rs_sep : ∀ (l : List Nat) (v : Int), Ris v l → Sep v (rs l)
  | [], _, _ => trivial
  | x :: t, v, ⟨h1, h2, h3⟩ => by
    have ih := rs_sep t x h3
    unfold rs
    split
    · rename_i f m r e
      rw [e] at ih
      obtain ⟨i1, i2, i3⟩ := ih
      simp only at i1 i2 i3
      by_cases h : f = x + 1
      · rw [if_pos h]
        subst h
        exact ⟨h1, by simp, by rw [show x + (m + 1) = x + 1 + m by omega]; exact i3⟩
      · rw [if_neg h]
        exact ⟨h1, by simp, by simp only; omega, i2, i3⟩
    · exact ⟨h1, by simp, trivial⟩
/-- Runs that are apart are those of their numbers. -/
theorem rs_of_sep : ∀ (R : List Rn) (v : Int), Sep v R → rs (flatR R) = R
  | [], _, _ => rfl
  | (f, m) :: T, v, ⟨h1, h2, h3⟩ => by
    have ih := rs_of_sep T _ h3
    simp only at h2 h3
    have key : ∀ m f, 1 ≤ m → Sep ((f + m : Nat) : Int) T → rs (List.range' f m ++ flatR T) = (f, m) :: T := by
      intro m
      induction m with
      | zero => intro f h; omega
      | succ m ihm =>
        intro f _ hs
        rw [List.range'_succ, List.cons_append]
        by_cases hm : m = 0
        · subst hm
          show rs (f :: flatR T) = _
          unfold rs
          rw [ih]
          split
          · rename_i g n r e
            rw [if_neg (by have := hs.1; simp only at this; omega)]
          · rfl
        · unfold rs
          rw [ihm (f + 1) (by omega) (by rw [show f + 1 + m = f + (m + 1) by omega]; exact hs)]
          simp
    rw [flatR_cons]
    exact key m f h2 h3

/-- A list is split. -/
def lng (k : Nat) (R : List Rn) : List Rn := R.filter (fun p => decide (k ≤ p.2))
def sht (k : Nat) (R : List Rn) : List Rn := R.filter (fun p => decide (p.2 < k))
theorem lng_snoc (k : Nat) (R : List Rn) (p : Rn) : lng k (R ++ [p]) = lng k R ++ (if k ≤ p.2 then [p] else []) := by
  unfold lng; rw [List.filter_append]; congr 1
  by_cases h : k ≤ p.2 <;> simp [h]
theorem sht_snoc (k : Nat) (R : List Rn) (p : Rn) : sht k (R ++ [p]) = sht k R ++ (if k ≤ p.2 then [] else [p]) := by
  unfold sht; rw [List.filter_append]; congr 1
  by_cases h : k ≤ p.2
  · rw [if_pos h]; simp; omega
  · rw [if_neg h]; simp; omega
theorem lng_sht (k : Nat) : ∀ R : List Rn, (flatR (lng k R) ++ flatR (sht k R)).Perm (flatR R)
  | [] => .refl _
  | p :: R => by
    have ih := lng_sht k R
    unfold lng sht at *
    rw [List.filter_cons, List.filter_cons]
    by_cases h : k ≤ p.2
    · rw [if_pos (by simpa using h), if_neg (by simp; omega), flatR_cons, flatR_cons, List.append_assoc]
      exact ih.append_left _
    · rw [if_neg (by simpa using h), if_pos (by simp; omega), flatR_cons, flatR_cons, ← List.append_assoc]
      exact ((List.perm_append_comm (l₁ := flatR _) (l₂ := nums p)).append_right _).trans (by rw [List.append_assoc]; exact ih.append_left _)
theorem flatR_sub (q : Rn → Bool) : ∀ R : List Rn, (flatR (R.filter q)).Sublist (flatR R)
  | [] => .slnil
  | p :: R => by
    rw [List.filter_cons]
    split
    · rw [flatR_cons, flatR_cons]; exact (flatR_sub q R).append_left _
    · rw [flatR_cons]; exact (flatR_sub q R).trans (List.sublist_append_right _ _)
theorem ris_pairwise : ∀ (l : List Nat) (v : Int), Ris v l ↔ (∀ x ∈ l, v < (x : Int) ∧ x ≤ 1048576) ∧ l.Pairwise (· < ·)
  | [], v => by simp [Ris]
  | x :: t, v => by
    unfold Ris
    rw [ris_pairwise t x, List.pairwise_cons]
    constructor
    · rintro ⟨h1, h2, h3, h4⟩
      refine ⟨fun y hy => ?_, fun y hy => by have := (h3 y hy).1; omega, h4⟩
      rcases List.mem_cons.1 hy with rfl | hy
      · exact ⟨h1, h2⟩
      · have := h3 y hy; omega
    · rintro ⟨h1, h2, h3⟩
      have hx := h1 x (by simp)
      exact ⟨hx.1, hx.2, fun y hy => ⟨by have := h2 y hy; omega, (h1 y (by simp [hy])).2⟩, h3⟩
theorem rising_sub {a l : List Nat} (h : a.Sublist l) (hl : Rising l) : Rising a := by
  obtain ⟨h1, h2⟩ := (ris_pairwise l (-1)).1 hl.2
  exact ⟨Nat.le_trans h.length_le hl.1, (ris_pairwise a (-1)).2 ⟨fun x hx => h1 x (h.subset hx), h2.sublist h⟩⟩

/-- Numbers are sorted. -/
def nin (x : Nat) : List Nat → List Nat
  | [] => [x]
  | y :: t => if x ≤ y then x :: y :: t else y :: nin x t
def nso : List Nat → List Nat
  | [] => []
  | x :: t => nin x (nso t)
theorem nin_perm (x : Nat) : ∀ t, (nin x t).Perm (x :: t)
  | [] => .refl _
  | y :: t => by
    unfold nin
    split
    · exact .refl _
    · exact ((nin_perm x t).cons y).trans (.swap x y t)
theorem nso_perm : ∀ l, (nso l).Perm l
  | [] => .refl _
  | x :: t => (nin_perm x _).trans ((nso_perm t).cons x)
theorem nin_sorted (x : Nat) : ∀ t, t.Pairwise (· ≤ ·) → (nin x t).Pairwise (· ≤ ·)
  | [], _ => by simp [nin]
  | y :: t, h => by
    have h1 := List.pairwise_cons.1 h
    unfold nin
    by_cases hx : x ≤ y
    · rw [if_pos hx]
      refine List.pairwise_cons.2 ⟨fun z hz => ?_, h⟩
      rcases List.mem_cons.1 hz with rfl | hz
      · exact hx
      · exact Nat.le_trans hx (h1.1 z hz)
    · rw [if_neg hx]
      refine List.pairwise_cons.2 ⟨fun z hz => ?_, nin_sorted x t h1.2⟩
      rcases List.mem_cons.1 ((nin_perm x t).subset hz) with rfl | hz
      · omega
      · exact h1.1 z hz
theorem nso_sorted : ∀ l, (nso l).Pairwise (· ≤ ·)
  | [] => .nil
  | x :: t => nin_sorted x _ (nso_sorted t)
/-- Two sorted lists of the same numbers are the same. -/
theorem sorted_uniq : ∀ (a b : List Nat), a.Perm b → a.Pairwise (· ≤ ·) → b.Pairwise (· ≤ ·) → a = b
  | [], b, h, _, _ => (List.nil_perm.1 h).symm
  | x :: t, [], h, _, _ => by have := h.length_eq; simp at this
  | x :: t, y :: s, h, h1, h2 => by
    have p1 := List.pairwise_cons.1 h1
    have p2 := List.pairwise_cons.1 h2
    have e : x = y := by
      have a1 : x ∈ y :: s := h.subset List.mem_cons_self
      have a2 : y ∈ x :: t := h.symm.subset List.mem_cons_self
      rcases List.mem_cons.1 a1 with e | m1
      · exact e
      · rcases List.mem_cons.1 a2 with e | m2
        · exact e.symm
        · have := p1.1 y m2; have := p2.1 x m1; omega
    subst e
    rw [sorted_uniq t s (List.perm_cons _ |>.1 h) p1.2 p2.2]
theorem nso_uniq {a b : List Nat} (h : a.Perm b) (hs : a.Pairwise (· ≤ ·)) : nso b = a := sorted_uniq _ _ ((nso_perm b).trans h.symm) (nso_sorted b) hs
/-- Two next to each other are the same. -/
def tw : List Nat → Bool
  | x :: y :: t => x == y || tw (y :: t)
  | _ => false
theorem tw_false : ∀ l : List Nat, l.Pairwise (· ≤ ·) → (tw l = false ↔ l.Pairwise (· < ·))
  | [], _ => by simp [tw]
  | [x], _ => by simp [tw]
  | x :: y :: t, h => by
    have h1 := List.pairwise_cons.1 h
    have ih := tw_false (y :: t) h1.2
    unfold tw
    rw [Bool.or_eq_false_iff, ih, List.pairwise_cons (a := x)]
    constructor
    · rintro ⟨a, b⟩
      have hxy : x < y := by have := h1.1 y (by simp); simp at a; omega
      refine ⟨fun z hz => ?_, b⟩
      rcases List.mem_cons.1 hz with rfl | hz
      · exact hxy
      · have := (List.pairwise_cons.1 b).1 z hz; omega
    · rintro ⟨a, b⟩
      have := a y (by simp)
      exact ⟨by simp; omega, b⟩
theorem tw_at : ∀ l : List Nat, tw l = true ↔ ∃ i, i + 1 < l.length ∧ l[i + 1]?.getD 0 = l[i]?.getD 0
  | [] => by simp [tw]
  | [x] => by simp [tw]
  | x :: y :: t => by
    have ih := tw_at (y :: t)
    unfold tw
    rw [Bool.or_eq_true, ih]
    constructor
    · rintro (h | ⟨i, h1, h2⟩)
      · exact ⟨0, by simp, by simp at h ⊢; omega⟩
      · exact ⟨i + 1, by simp at h1 ⊢; omega, by simpa using h2⟩
    · rintro ⟨i, h1, h2⟩
      rcases i with _ | i
      · left; simp at h2 ⊢; omega
      · right; exact ⟨i, by simp at h1 ⊢; omega, by simpa using h2⟩
/-- What runs and a rest are merged to. -/
def mg (R : List Rn) (rest : List Nat) : List Nat × Int :=
  let l := nso (flatR R ++ rest)
  if tw l = true then ([], 6) else if 300 < l.length then ([], 2) else (l, 0)
/-- The error of the runs of a list behind a number that is missing. -/
def rk : Int → List (Int × Int) → Int
  | _, [] => 0
  | v, p :: t => if p.1 < 0 ∨ 1048576 < p.1 ∨ p.2 < 1 ∨ 300 < p.2 ∨ 1048576 < p.1 + p.2 - 1 then 3 else if p.1 ≤ v then 4 else rk (p.1 + p.2) t
def rkchk (r : List (Int × Int)) : Int := if 300 < r.length then 2 else rk (-1) r
def rz (R : List Rn) : List (Int × Int) := R.map fun p => ((p.1 : Int), (p.2 : Int))
theorem rz_length (R : List Rn) : (rz R).length = R.length := by simp [rz]
/-- Runs that are right. -/
def OkR (R : List Rn) : Prop := R.length ≤ 300 ∧ Sep (-1) R ∧ ∀ p ∈ R, p.2 ≤ 300 ∧ p.1 + p.2 ≤ 1048577
theorem rk_ok : ∀ (R : List Rn) (v : Int), Sep v R → (∀ p ∈ R, p.2 ≤ 300 ∧ p.1 + p.2 ≤ 1048577) → rk v (rz R) = 0
  | [], _, _, _ => rfl
  | p :: t, v, ⟨h1, h2, h3⟩, hb => by
    have hp := hb p (by simp)
    show rk v (((p.1 : Int), (p.2 : Int)) :: rz t) = 0
    unfold rk
    simp only
    rw [if_neg (by omega), if_neg (by omega)]
    have := rk_ok t _ h3 (fun q hq => hb q (by simp [hq]))
    rwa [show ((p.1 + p.2 : Nat) : Int) = (p.1 : Int) + (p.2 : Int) by omega] at this
theorem rkchk_ok (R : List Rn) (h : OkR R) : rkchk (rz R) = 0 := by
  unfold rkchk
  rw [if_neg (by rw [rz_length]; have := h.1; omega)]
  exact rk_ok R _ h.2.1 h.2.2
theorem rk_zero : ∀ (r : List (Int × Int)) (v : Int), rk v r = 0 → ∃ R, r = rz R ∧ Sep v R ∧ ∀ p ∈ R, p.2 ≤ 300 ∧ p.1 + p.2 ≤ 1048577
  | [], v, _ => ⟨[], rfl, trivial, by simp⟩
  | (f, m) :: t, v, h => by
    unfold rk at h
    simp only at h
    by_cases h1 : f < 0 ∨ 1048576 < f ∨ m < 1 ∨ 300 < m ∨ 1048576 < f + m - 1
    · rw [if_pos h1] at h; omega
    · rw [if_neg h1] at h
      by_cases h2 : f ≤ v
      · rw [if_pos h2] at h; omega
      · rw [if_neg h2] at h
        obtain ⟨R, rfl, a, b⟩ := rk_zero t _ h
        obtain ⟨x, rfl⟩ : ∃ n : Nat, f = (n : Int) := ⟨f.toNat, by omega⟩
        obtain ⟨y, rfl⟩ : ∃ n : Nat, m = (n : Int) := ⟨m.toNat, by omega⟩
        refine ⟨(x, y) :: R, rfl, ⟨by simp only; omega, by simp only; omega, ?_⟩, fun p hp => ?_⟩
        · rwa [show (((x, y).1 + (x, y).2 : Nat) : Int) = (x : Int) + (y : Int) from by simp]
        · rcases List.mem_cons.1 hp with rfl | hp
          · simp only; omega
          · exact b p hp
theorem rkchk_zero (r : List (Int × Int)) (h : rkchk r = 0) : ∃ R, r = rz R ∧ OkR R := by
  unfold rkchk at h
  by_cases h1 : 300 < r.length
  · rw [if_pos h1] at h; omega
  · rw [if_neg h1] at h
    obtain ⟨R, rfl, a, b⟩ := rk_zero r (-1) h
    exact ⟨R, rfl, by rw [rz_length] at h1; omega, a, b⟩
theorem rk_or : ∀ (r : List (Int × Int)) (v : Int), rk v r = 0 ∨ rk v r = 3 ∨ rk v r = 4
  | [], v => .inl rfl
  | x :: t, v => by
    unfold rk
    split
    · simp
    · split
      · simp
      · exact rk_or t _

theorem flatR_len_split (k : Nat) (R : List Rn) : (flatR (lng k R)).length + (flatR (sht k R)).length = (flatR R).length := by
  rw [← (lng_sht k R).length_eq, List.length_append]
theorem flatR_mem (R : List Rn) (x : Nat) : x ∈ flatR R ↔ ∃ p ∈ R, p.1 ≤ x ∧ x < p.1 + p.2 := by
  unfold flatR
  rw [List.mem_flatMap]
  exact ⟨fun ⟨p, h1, h2⟩ => ⟨p, h1, (nums_mem p x).1 h2⟩, fun ⟨p, h1, h2⟩ => ⟨p, h1, (nums_mem p x).2 h2⟩⟩
theorem sep_pos : ∀ (R : List Rn) (v : Int), Sep v R → ∀ p ∈ R, 1 ≤ p.2
  | [], _, _ => by simp
  | q :: t, v, ⟨h1, h2, h3⟩ => fun p hp => by
    rcases List.mem_cons.1 hp with rfl | hp
    · exact h2
    · exact sep_pos t _ h3 p hp
theorem flatR_len_ge : ∀ R : List Rn, (∀ p ∈ R, 1 ≤ p.2) → R.length ≤ (flatR R).length
  | [], _ => by simp
  | p :: R, h => by
    have := flatR_len_ge R (fun q hq => h q (by simp [hq]))
    have := h p (by simp)
    rw [flatR_cons, List.length_append, nums_length, List.length_cons]; omega
theorem flatR_len_mem : ∀ (R : List Rn) (p : Rn), p ∈ R → p.2 ≤ (flatR R).length
  | [], p, h => by simp at h
  | q :: R, p, h => by
    rw [flatR_cons, List.length_append, nums_length]
    rcases List.mem_cons.1 h with rfl | h
    · omega
    · have := flatR_len_mem R p h; omega
/-- The runs of a rising list are right, and so are some of them. -/
theorem rs_okR (l : List Nat) (h : Rising l) : OkR (rs l) := by
  have hs := rs_sep l (-1) h.2
  have hf := rs_flat l
  have hp := sep_pos _ _ hs
  refine ⟨?_, hs, fun p hp' => ⟨?_, ?_⟩⟩
  · have := flatR_len_ge (rs l) hp; rw [hf] at this; have := h.1; omega
  · have := flatR_len_mem (rs l) p hp'; rw [hf] at this; have := h.1; omega
  · have h1 := hp p hp'
    have : p.1 + p.2 - 1 ∈ flatR (rs l) := (flatR_mem _ _).2 ⟨p, hp', by omega, by omega⟩
    rw [hf] at this
    have := (ris_le l _ h.2 _ this).2
    omega
theorem okR_filter (q : Rn → Bool) (R : List Rn) (h : OkR R) : OkR (R.filter q) :=
  ⟨Nat.le_trans (List.length_filter_le _ _) h.1, sep_filter q R _ h.2.1, fun p hp => h.2.2 p (List.mem_filter.1 hp).1⟩
theorem rising_lt {l : List Nat} (h : Rising l) : l.Pairwise (· < ·) := ((ris_pairwise l _).1 h.2).2
theorem mg_of {R : List Rn} {rest l : List Nat} (h : (flatR R ++ rest).Perm l) (hl : Rising l) : mg R rest = (l, 0) := by
  have hlt := rising_lt hl
  have hle : l.Pairwise (· ≤ ·) := hlt.imp (fun h => by omega)
  unfold mg
  rw [nso_uniq h.symm hle]
  simp only
  rw [if_neg (by rw [(tw_false l hle).2 hlt]; simp), if_neg (by have := hl.1; omega)]
theorem mg_zero {R : List Rn} {rest l : List Nat} (hR : OkR R) (hr : Rising rest) (h : mg R rest = (l, 0)) : Rising l ∧ (flatR R ++ rest).Perm l := by
  unfold mg at h
  simp only at h
  split at h
  · simp at h
  · split at h
    · simp at h
    · rename_i h1 h2
      cases h
      have hp := nso_perm (flatR R ++ rest)
      refine ⟨⟨by omega, (ris_pairwise _ _).2 ⟨fun x hx => ?_, (tw_false _ (nso_sorted _)).1 (by simpa using h1)⟩⟩, hp.symm⟩
      rcases List.mem_append.1 (hp.subset hx) with h | h
      · obtain ⟨p, hp, a, b⟩ := (flatR_mem R x).1 h
        have := (hR.2.2 p hp).2
        exact ⟨by omega, by omega⟩
      · exact ris_le rest _ hr.2 x h
/-- What was split is merged again. -/
theorem mg_split (k : Nat) (l : List Nat) (h : Rising l) : mg (lng k (rs l)) (flatR (sht k (rs l))) = (l, 0) :=
  mg_of (by have := lng_sht k (rs l); rwa [rs_flat] at this) h
theorem sht_rising (k : Nat) (l : List Nat) (h : Rising l) : Rising (flatR (sht k (rs l))) := rising_sub (by have := flatR_sub (fun p => decide (p.2 < k)) (rs l); rwa [rs_flat] at this) h
theorem sht_rs (k : Nat) (l : List Nat) (h : Rising l) : rs (flatR (sht k (rs l))) = sht k (rs l) := rs_of_sep _ (-1) (sep_filter _ _ _ (rs_sep l _ h.2))
theorem lng_sht_nil (k : Nat) (R : List Rn) : lng k (sht k R) = [] := by
  unfold lng sht
  rw [List.filter_filter, List.filter_eq_nil_iff]
  intro p _
  simp
theorem sht_sht (k : Nat) (R : List Rn) : sht k (sht k R) = sht k R := by unfold sht; rw [List.filter_filter]; simp
theorem mg_nil (R : List Rn) (hs : Sep (-1) R) : nso (flatR R ++ []) = flatR R := by
  rw [List.append_nil]
  refine nso_uniq (.refl _) ?_
  have key : ∀ (R : List Rn) (v : Int), Sep v R → (∀ x ∈ flatR R, v < (x : Int)) ∧ (flatR R).Pairwise (· < ·) := by
    intro R
    induction R with
    | nil => intro v _; simp [flatR]
    | cons p t ih =>
      rintro v ⟨h1, h2, h3⟩
      obtain ⟨i1, i2⟩ := ih _ h3
      rw [flatR_cons]
      refine ⟨fun x hx => ?_, List.pairwise_append.2 ⟨List.pairwise_lt_range', i2, fun x hx y hy => ?_⟩⟩
      · rcases List.mem_append.1 hx with h | h
        · have := (nums_mem p x).1 h; omega
        · have := i1 x h; omega
      · have := (nums_mem p x).1 hx; have := i1 y hy; omega
  exact (key R _ hs).2.imp (fun h => by omega)
theorem flatR_sep_rising (R : List Rn) (h : OkR R) (hl : (flatR R).length ≤ 300) : Rising (flatR R) := by
  have h1 := mg_nil R h.2.1
  have h2 : mg R [] = (flatR R, 0) ∨ tw (flatR R) = true := by
    unfold mg
    rw [h1]
    simp only
    by_cases ht : tw (flatR R) = true
    · exact .inr ht
    · left; rw [if_neg ht, if_neg (by omega)]
  rcases h2 with h2 | h2
  · exact (mg_zero (rest := []) h ⟨by simp, trivial⟩ h2).1
  · exfalso
    have key : ∀ (R : List Rn) (v : Int), Sep v R → (∀ x ∈ flatR R, v < (x : Int)) ∧ (flatR R).Pairwise (· < ·) := by
      intro R
      induction R with
      | nil => intro v _; simp [flatR]
      | cons p t ih =>
        rintro v ⟨h1, h2, h3⟩
        obtain ⟨i1, i2⟩ := ih _ h3
        rw [flatR_cons]
        refine ⟨fun x hx => ?_, List.pairwise_append.2 ⟨List.pairwise_lt_range', i2, fun x hx y hy => ?_⟩⟩
        · rcases List.mem_append.1 hx with h | h
          · have := (nums_mem p x).1 h; omega
          · have := i1 x h; omega
        · have := (nums_mem p x).1 hx; have := i1 y hy; omega
    have k2 := (key R _ h.2.1).2
    have := (tw_false _ (k2.imp (fun h => by omega))).2 k2
    rw [this] at h2; cases h2
/-- Runs that are apart, in any order. -/
def apart (p q : Rn) : Prop := p.1 + p.2 < q.1 ∨ q.1 + q.2 < p.1
theorem sep_pairs : ∀ (R : List Rn) (v : Int), Sep v R ↔ (∀ p ∈ R, v < (p.1 : Int) ∧ 1 ≤ p.2) ∧ R.Pairwise (fun p q => p.1 + p.2 < q.1)
  | [], v => by simp [Sep]
  | p :: t, v => by
    unfold Sep
    rw [sep_pairs t, List.pairwise_cons]
    constructor
    · rintro ⟨h1, h2, h3, h4⟩
      refine ⟨fun q hq => ?_, fun q hq => by have := (h3 q hq).1; omega, h4⟩
      rcases List.mem_cons.1 hq with rfl | hq
      · exact ⟨h1, h2⟩
      · have := h3 q hq; exact ⟨by omega, this.2⟩
    · rintro ⟨h1, h2, h3⟩
      have hx := h1 p (by simp)
      exact ⟨hx.1, hx.2, fun q hq => ⟨by have := h2 q hq; omega, (h1 q (by simp [hq])).2⟩, h3⟩
def fin (x : Rn) : List Rn → List Rn
  | [] => [x]
  | y :: t => if x.1 ≤ y.1 then x :: y :: t else y :: fin x t
def fso : List Rn → List Rn
  | [] => []
  | x :: t => fin x (fso t)
theorem fin_perm (x : Rn) : ∀ t, (fin x t).Perm (x :: t)
  | [] => .refl _
  | y :: t => by
    unfold fin
    split
    · exact .refl _
    · exact ((fin_perm x t).cons y).trans (.swap x y t)
theorem fso_perm : ∀ l, (fso l).Perm l
  | [] => .refl _
  | x :: t => (fin_perm x _).trans ((fso_perm t).cons x)
theorem fin_sorted (x : Rn) : ∀ t, t.Pairwise (fun p q : Rn => p.1 ≤ q.1) → (fin x t).Pairwise (fun p q : Rn => p.1 ≤ q.1)
  | [], _ => by simp [fin]
  | y :: t, h => by
    have h1 := List.pairwise_cons.1 h
    unfold fin
    by_cases hx : x.1 ≤ y.1
    · rw [if_pos hx]
      refine List.pairwise_cons.2 ⟨fun z hz => ?_, h⟩
      rcases List.mem_cons.1 hz with rfl | hz
      · exact hx
      · exact Nat.le_trans hx (h1.1 z hz)
    · rw [if_neg hx]
      refine List.pairwise_cons.2 ⟨fun z hz => ?_, fin_sorted x t h1.2⟩
      rcases List.mem_cons.1 ((fin_perm x t).subset hz) with rfl | hz
      · omega
      · exact h1.1 z hz
theorem fso_sorted : ∀ l, (fso l).Pairwise (fun p q : Rn => p.1 ≤ q.1)
  | [] => .nil
  | x :: t => fin_sorted x _ (fso_sorted t)
theorem flatR_perm {a b : List Rn} (h : a.Perm b) : (flatR a).Perm (flatR b) := h.flatMap_right _
theorem sep_flat_lt : ∀ (R : List Rn) (v : Int), Sep v R → (∀ x ∈ flatR R, v < (x : Int)) ∧ (flatR R).Pairwise (· < ·) := by
  intro R
  induction R with
  | nil => intro v _; simp [flatR]
  | cons p t ih =>
    rintro v ⟨h1, h2, h3⟩
    obtain ⟨i1, i2⟩ := ih _ h3
    rw [flatR_cons]
    refine ⟨fun x hx => ?_, List.pairwise_append.2 ⟨List.pairwise_lt_range', i2, fun x hx y hy => ?_⟩⟩
    · rcases List.mem_append.1 hx with h | h
      · have := (nums_mem p x).1 h; omega
      · have := i1 x h; omega
    · have := (nums_mem p x).1 hx; have := i1 y hy; omega
theorem sep_flat_uniq {a b : List Rn} (ha : Sep (-1) a) (hb : Sep (-1) b) (h : (flatR a).Perm (flatR b)) : a = b := by
  have e := sorted_uniq _ _ h ((sep_flat_lt a _ ha).2.imp (fun h => by omega)) ((sep_flat_lt b _ hb).2.imp (fun h => by omega))
  rw [← rs_of_sep a _ ha, ← rs_of_sep b _ hb, e]
/-- What was merged of long runs and a rest without is split again. -/
theorem merge_split (k : Nat) (R : List Rn) (rest l : List Nat) (hR : OkR R) (hr : Rising rest) (h : mg R rest = (l, 0)) (hk : ∀ p ∈ R, k ≤ p.2)
    (ha : ∀ p ∈ R, ∀ x ∈ rest, (x : Int) ≠ (p.1 : Int) - 1 ∧ x ≠ p.1 + p.2) (hs : lng k (rs rest) = []) : lng k (rs l) = R ∧ flatR (sht k (rs l)) = rest := by
  obtain ⟨hl, hp⟩ := mg_zero hR hr h
  have hS := rs_sep rest _ hr.2
  have s1 := (sep_pairs R _).1 hR.2.1
  have s2 := (sep_pairs (rs rest) _).1 hS
  have hnd : (flatR R ++ rest).Nodup := (hp.nodup_iff).2 ((rising_lt hl).imp (fun h => by omega))
  have hfr := rs_flat rest
  have hcross : ∀ p ∈ R, ∀ q ∈ rs rest, apart p q := by
    intro p hpR q hq
    have q1 := (s2.1 q hq).2
    have p1 := (s1.1 p hpR).2
    have hx : ∀ x, q.1 ≤ x → x < q.1 + q.2 → x ∈ rest := fun x a b => by rw [← hfr]; exact (flatR_mem _ _).2 ⟨q, hq, a, b⟩
    have hd := (List.nodup_append.1 hnd).2.2
    unfold apart
    by_cases c1 : p.1 + p.2 < q.1
    · exact .inl c1
    · right
      apply Classical.byContradiction
      intro c2
      by_cases c3 : q.1 + q.2 = p.1
      · have := (ha p hpR (q.1 + q.2 - 1) (hx _ (by omega) (by omega))).1; omega
      · by_cases c4 : q.1 = p.1 + p.2
        · exact (ha p hpR q.1 (hx _ (by omega) (by omega))).2 c4
        · have m1 : max p.1 q.1 ∈ flatR R := (flatR_mem R _).2 ⟨p, hpR, by omega, by omega⟩
          have m2 : max p.1 q.1 ∈ rest := hx _ (by omega) (by omega)
          exact hd _ m1 _ m2 rfl
  have hpw : (R ++ rs rest).Pairwise apart := List.pairwise_append.2 ⟨s1.2.imp (fun h => .inl h), s2.2.imp (fun h => .inl h), hcross⟩
  have hpT := fso_perm (R ++ rs rest)
  have hsT := fso_sorted (R ++ rs rest)
  generalize fso (R ++ rs rest) = T at *
  have haT : T.Pairwise apart := (hpT.pairwise_iff (fun h => by unfold apart at *; omega)).2 hpw
  have hposT : ∀ p ∈ T, (-1 : Int) < (p.1 : Int) ∧ 1 ≤ p.2 := fun p hp => by
    rcases List.mem_append.1 (hpT.subset hp) with h | h
    · exact s1.1 p h
    · exact s2.1 p h
  have hsep : Sep (-1) T := (sep_pairs T _).2 ⟨hposT, (hsT.and haT).imp (fun {p q} h => by
    obtain ⟨a, b⟩ := h
    unfold apart at b
    omega)⟩
  have hfT : flatR T = l := by
    refine sorted_uniq _ _ ?_ ((sep_flat_lt T _ hsep).2.imp (fun h => by omega)) ((rising_lt hl).imp (fun h => by omega))
    have := flatR_perm hpT
    rw [flatR_append, hfr] at this
    exact this.trans hp
  have hrT : rs l = T := by rw [← hfT]; exact rs_of_sep T _ hsep
  rw [hrT]
  have e1 : lng k R = R := by unfold lng; rw [List.filter_eq_self]; intro p hp; simpa using hk p hp
  have e2 : sht k (rs rest) = rs rest := by
    unfold sht; rw [List.filter_eq_self]; intro p hp
    unfold lng at hs
    rw [List.filter_eq_nil_iff] at hs
    have := hs p hp
    simp at this ⊢; omega
  have e3 : sht k R = [] := by unfold sht; rw [List.filter_eq_nil_iff]; intro p hp; have := hk p hp; simp; omega
  refine ⟨sep_flat_uniq (sep_filter _ _ _ hsep) hR.2.1 ?_, ?_⟩
  · have := flatR_perm (hpT.filter (fun p => decide (k ≤ p.2)))
    rw [List.filter_append] at this
    have e : (R.filter fun p => decide (k ≤ p.2)) ++ ((rs rest).filter fun p => decide (k ≤ p.2)) = R := by
      show lng k R ++ lng k (rs rest) = R
      rw [e1, hs, List.append_nil]
    rw [e] at this
    exact this
  · have h1 := flatR_perm (hpT.filter (fun p => decide (p.2 < k)))
    rw [List.filter_append] at h1
    have e : (R.filter fun p => decide (p.2 < k)) ++ ((rs rest).filter fun p => decide (p.2 < k)) = rs rest := by
      show sht k R ++ sht k (rs rest) = rs rest
      rw [e2, e3, List.nil_append]
    rw [e, hfr] at h1
    exact sorted_uniq _ _ h1 ((sep_flat_lt _ _ (sep_filter _ _ _ hsep)).2.imp (fun h => by omega)) ((rising_lt hr).imp (fun h => by omega))
/-- All further by as much. -/
theorem rs_shift (d : Int) : ∀ (l m : List Nat), ns m = (ns l).map (· + d) → rz (rs m) = (rz (rs l)).map (fun p => (p.1 + d, p.2))
  | [], m, hm => by
    have : m = [] := by cases m with
      | nil => rfl
      | cons y t => simp [ns] at hm
    subst this; rfl
  | x :: t, [], hm => by simp [ns] at hm
  | x :: t, y :: s, hm => by
    simp only [ns_cons, List.map_cons, List.cons.injEq] at hm
    have ih := rs_shift d t s hm.2
    unfold rs
    generalize rs t = T at *
    generalize rs s = S at *
    match T, S, ih with
    | [], [], _ => simp [rz, hm.1]
    | [], _ :: _, h => simp [rz] at h
    | _ :: _, [], h => simp [rz] at h
    | (f, m) :: T, (g, n) :: S, h =>
      simp only [rz, List.map_cons, List.cons.injEq, Prod.mk.injEq] at h
      obtain ⟨⟨h1, h2⟩, h3⟩ := h
      have hn : n = m := by omega
      subst hn
      by_cases e : f = x + 1
      · have e' : g = y + 1 := by omega
        simp only [if_pos e, if_pos e', rz, List.map_cons, List.cons.injEq, Prod.mk.injEq]
        exact ⟨⟨by omega, trivial⟩, h3⟩
      · have e' : ¬ g = y + 1 := by omega
        simp only [if_neg e, if_neg e', rz, List.map_cons, List.cons.injEq, Prod.mk.injEq]
        exact ⟨⟨by omega, trivial⟩, ⟨by omega, trivial⟩, h3⟩
/-- One run. -/
theorem rs_whole (f m : Nat) (h : 1 ≤ m) : rs (List.range' f m) = [(f, m)] := by
  have := rs_of_sep [(f, m)] (-1) ⟨by simp only; omega, h, trivial⟩
  rw [flatR_cons, flatR_nil, List.append_nil] at this
  exact this
theorem take_snocN (l : List Nat) (i : Nat) (h : i < l.length) : l.take (i + 1) = l.take i ++ [l[i]?.getD 0] := by
  rw [List.take_add_one, List.getElem?_eq_getElem h]; rfl
/-- The merging, half-way: what is merged is in order, and ahead of all that is left. -/
structure Mi (L X out : List Nat) (i k : Nat) : Prop where
  hi : i ≤ L.length
  hk : k ≤ X.length
  perm : out.Perm (L.take i ++ X.take k)
  lt : out.Pairwise (· < ·)
  ahead : ∀ x ∈ out, (∀ y ∈ L.drop i, x < y) ∧ (∀ y ∈ X.drop k, x < y)
theorem mi_start (L X : List Nat) : Mi L X [] 0 0 := ⟨Nat.zero_le _, Nat.zero_le _, by simp, .nil, by simp⟩
theorem drop_nat (l : List Nat) (i : Nat) (h : i < l.length) : l.drop i = l[i]?.getD 0 :: l.drop (i + 1) := by
  rw [List.drop_eq_getElem_cons h, List.getElem?_eq_getElem h]; rfl
theorem pw_drop {l : List Nat} (h : l.Pairwise (· < ·)) (i : Nat) (hi : i < l.length) : ∀ y ∈ l.drop (i + 1), l[i]?.getD 0 < y := by
  have := h.sublist (List.drop_sublist i l)
  rw [drop_nat l i hi] at this
  exact (List.pairwise_cons.1 this).1
theorem mi_left {L X out : List Nat} {i k : Nat} (h : Mi L X out i k) (hL : L.Pairwise (· < ·)) (hi : i < L.length) (hx : ∀ y ∈ X.drop k, L[i]?.getD 0 < y) : Mi L X (out ++ [L[i]?.getD 0]) (i + 1) k := by
  refine ⟨by omega, h.hk, ?_, ?_, ?_⟩
  · rw [take_snocN L i hi, List.append_assoc]
    exact (h.perm.append_right _).trans (by rw [List.append_assoc]; exact (List.perm_append_comm).append_left _)
  · refine List.pairwise_append.2 ⟨h.lt, List.pairwise_singleton _ _, fun x hx' y hy => ?_⟩
    simp at hy; subst hy
    exact (h.ahead x hx').1 _ (by rw [drop_nat L i hi]; simp)
  · intro x hx'
    rcases List.mem_append.1 hx' with q | q
    · exact ⟨fun y hy => (h.ahead x q).1 y (by rw [drop_nat L i hi]; simp [hy]), (h.ahead x q).2⟩
    · simp at q; subst q
      exact ⟨pw_drop hL i hi, hx⟩
theorem mi_right {L X out : List Nat} {i k : Nat} (h : Mi L X out i k) (hX : X.Pairwise (· < ·)) (hk : k < X.length) (hx : ∀ y ∈ L.drop i, X[k]?.getD 0 < y) : Mi L X (out ++ [X[k]?.getD 0]) i (k + 1) := by
  refine ⟨h.hi, by omega, ?_, ?_, ?_⟩
  · rw [take_snocN X k hk, ← List.append_assoc]
    exact h.perm.append_right _
  · refine List.pairwise_append.2 ⟨h.lt, List.pairwise_singleton _ _, fun x hx' y hy => ?_⟩
    simp at hy; subst hy
    exact (h.ahead x hx').2 _ (by rw [drop_nat X k hk]; simp)
  · intro x hx'
    rcases List.mem_append.1 hx' with q | q
    · exact ⟨(h.ahead x q).1, fun y hy => (h.ahead x q).2 y (by rw [drop_nat X k hk]; simp [hy])⟩
    · simp at q; subst q
      exact ⟨hx, pw_drop hX k hk⟩
theorem mi_end {L X out : List Nat} (h : Mi L X out L.length X.length) : nso (L ++ X) = out ∧ tw (nso (L ++ X)) = false := by
  have hp := h.perm
  rw [List.take_length, List.take_length] at hp
  have e := nso_uniq hp (h.lt.imp (fun h => by omega))
  rw [e]
  exact ⟨rfl, (tw_false out (h.lt.imp (fun h => by omega))).2 h.lt⟩
theorem tw_dup (L X : List Nat) (x : Nat) (h1 : x ∈ L) (h2 : x ∈ X) : tw (nso (L ++ X)) = true := by
  cases h : tw (nso (L ++ X)) with
  | true => rfl
  | false =>
    exfalso
    have hp := (tw_false _ (nso_sorted (L ++ X))).1 h
    have hnd : (nso (L ++ X)).Nodup := hp.imp (fun h => by omega)
    have := ((nso_perm (L ++ X)).nodup_iff).1 hnd
    exact (List.nodup_append.1 this).2.2 x h1 x h2 rfl
/-- The error of Merge ahead of its numbers. -/
def mgE0 (r : List (Int × Int)) (xs : List Int) : Int := if rkchk r ≠ 0 then rkchk r else rchk xs
/-- What is merged, and the error, of whatever is handed in. -/
def rn (r : List (Int × Int)) : List Rn := r.map fun p => (p.1.toNat, p.2.toNat)
theorem rn_rz (R : List Rn) : rn (rz R) = R := by
  unfold rn rz; rw [List.map_map]
  exact (List.map_congr_left fun x _ => by simp).trans (List.map_id R)
def mgA (r : List (Int × Int)) (xs : List Int) : List Nat × Int := if mgE0 r xs ≠ 0 then ([], mgE0 r xs) else mg (rn r) (xs.map Int.toNat)
theorem mgA_ok (R : List Rn) (hR : OkR R) (l : List Nat) (hl : Rising l) : mgA (rz R) (ns l) = mg R l := by
  unfold mgA mgE0
  rw [rkchk_ok R hR, rchk_ok l hl, rn_rz, ns_nat]; simp
theorem mgA_zero (r : List (Int × Int)) (xs : List Int) (h : mgE0 r xs = 0) : ∃ R l, r = rz R ∧ OkR R ∧ xs = ns l ∧ Rising l := by
  unfold mgE0 at h
  by_cases h1 : rkchk r = 0
  · rw [if_neg (by simpa using h1)] at h
    obtain ⟨R, e1, hR⟩ := rkchk_zero r h1
    obtain ⟨l, e2, hl⟩ := rchk_zero xs h
    exact ⟨R, l, e1, hR, e2, hl⟩
  · rw [if_pos h1] at h; exact absurd h h1
end Go.Proofs.Ytfcmjjmlijidcaa
