/- Texts of this proof, one behind the other (SIns, RNPure, QPure, GPure); each fact names its conditions. -/
import Derived.Test.YticdnodlapafoaaGreatJSNMem
import Derived.WalkLawsBesides
import Derived.Test.YticdnodlapafoaaGreatJSNPure
import Derived.Test.YticdnodlapafoaaGreatJS2
namespace Go.Proofs.YticdnodlapafoaaGreat

section
set_option maxRecDepth 100000
set_option linter.unusedVariables false
open Go.RowKit Go.Shelf

/-- It gives up. -/
def Bad (e : Ending) : Prop := e = .panicked [{ v := .iface 28 (.int .i64 1), recovered := false }]
set_option maxHeartbeats 400000 in
theorem insist_t (w : World) : Calls Tryz.prog 78 #[.bool true] w fun e w' => e = .returned (.tuple #[]) ∧ w = w' := by
  go_enter Tryz.func78, Tryz.ntmps78
  go_wp2
  go_end0
  exact ⟨rfl, rfl⟩
set_option maxHeartbeats 400000 in
theorem insist_f (w : World) : Calls Tryz.prog 78 #[.bool false] w fun e w' => Bad e ∧ w = w' := by
  go_enter Tryz.func78, Tryz.ntmps78
  go_wp2
  exact ⟨rfl, rfl, rfl⟩
set_option maxHeartbeats 400000 in
theorem ion_t (w : World) : Calls Tryz.prog 109 #[.int .i64 0] w fun e w' => e = .returned (.tuple #[]) ∧ w = w' := by
  go_enter Tryz.func109, Tryz.ntmps109
  go_wp2_with fail
  refine (insist_t _).mono ?_
  rintro e w' ⟨rfl, rfl⟩
  go_wp2
  go_end0
  exact ⟨rfl, rfl⟩
set_option maxHeartbeats 400000 in
theorem ion_f (err : Int) (h : err ≠ 0) (w : World) : Calls Tryz.prog 109 #[.int .i64 err] w fun e w' => Bad e ∧ w = w' := by
  have t0 : (err == 0) = false := by simpa using h
  clear h
  go_enter Tryz.func109, Tryz.ntmps109
  go_wp2_with fail
  refine (insist_f _).mono ?_
  rintro e w' ⟨rfl, rfl⟩
  go_wp2
  exact ⟨rfl, rfl, rfl⟩
end

section
set_option linter.unusedVariables false

abbrev Rn := Nat × Nat
def nums (p : Rn) : List Nat := List.range' p.1 p.2
def flatR (R : List Rn) : List Nat := R.flatMap nums
theorem flatR_nil : flatR [] = [] := rfl
theorem flatR_cons (p : Rn) (R : List Rn) : flatR (p :: R) = nums p ++ flatR R := by simp [flatR]
theorem flatR_append (a b : List Rn) : flatR (a ++ b) = flatR a ++ flatR b := by simp [flatR]
theorem flatR_snoc (a : List Rn) (p : Rn) : flatR (a ++ [p]) = flatR a ++ nums p := by rw [flatR_append, flatR_cons, flatR_nil, List.append_nil]
theorem nums_length (p : Rn) : (nums p).length = p.2 := by simp [nums]
theorem nums_mem (p : Rn) (x : Nat) : x ∈ nums p ↔ p.1 ≤ x ∧ x < p.1 + p.2 := by simp [nums, List.mem_range'_1]
/-- The runs of a list. -/
def rs : List Nat → List Rn
  | [] => []
  | x :: t => match rs t with
    | (f, m) :: r => if f = x + 1 then (x, m + 1) :: r else (x, 1) :: (f, m) :: r
    | [] => [(x, 1)]
theorem rs_ne (x : Nat) (t : List Nat) : ∃ m r, rs (x :: t) = (x, m + 1) :: r := by
  unfold rs
  split
  · rename_i f m r e
    by_cases h : f = x + 1
    · rw [if_pos h]; exact ⟨_, _, rfl⟩
    · rw [if_neg h]; exact ⟨0, _, rfl⟩
  · exact ⟨0, _, rfl⟩
theorem rs_flat : ∀ l : List Nat, flatR (rs l) = l
  | [] => rfl
  | x :: t => by
    have ih := rs_flat t
    unfold rs
    split
    · rename_i f m r e
      rw [e] at ih
      by_cases h : f = x + 1
      · rw [if_pos h]
        subst h
        rw [flatR_cons] at ih ⊢
        have : nums (x, m + 1) = x :: nums (x + 1, m) := by simp [nums, List.range'_succ]
        rw [this, List.cons_append, ih]
      · rw [if_neg h, flatR_cons, ih]; simp [nums]
    · rename_i e
      rw [e] at ih
      rw [← ih]; simp [flatR, nums]
/-- How many numbers are in the first run. -/
def m1 (l : List Nat) : Nat := ((rs l).head?.map (·.2)).getD 0
theorem rs_step : ∀ l : List Nat, l ≠ [] → rs l = (l[0]?.getD 0, m1 l) :: rs (l.drop (m1 l)) ∧ 1 ≤ m1 l ∧ m1 l ≤ l.length
  | [], h => absurd rfl h
  | x :: t, _ => by
    unfold m1
    rcases t with _ | ⟨y, t⟩
    · simp [rs]
    · have ih := rs_step (y :: t) (by simp)
      unfold m1 at ih
      have hx : rs (x :: y :: t) = match rs (y :: t) with
        | (f, m) :: r => if f = x + 1 then (x, m + 1) :: r else (x, 1) :: (f, m) :: r
        | [] => [(x, 1)] := rfl
      obtain ⟨m, r, e⟩ := rs_ne y t
      rw [e] at ih hx
      simp only [List.head?_cons, Option.map_some, Option.getD_some, List.getElem?_cons_zero, List.cons.injEq, true_and] at ih
      simp only at hx
      rw [hx]
      by_cases h : y = x + 1
      · rw [if_pos h]
        simp only [List.head?_cons, Option.map_some, Option.getD_some, List.getElem?_cons_zero, List.cons.injEq, true_and]
        refine ⟨?_, by omega, by have := ih.2.2; simp at this ⊢; omega⟩
        rw [List.drop_succ_cons]; exact ih.1
      · rw [if_neg h]
        simp only [List.head?_cons, Option.map_some, Option.getD_some, List.getElem?_cons_zero, List.cons.injEq, true_and, List.drop_succ_cons, List.drop_zero]
        exact ⟨e.symm, by omega, by simp⟩
theorem m1_at : ∀ l : List Nat, ∀ i, i < m1 l → l[i]?.getD 0 = l[0]?.getD 0 + i
  | [], i, h => by simp [m1, rs] at h
  | x :: t, 0, _ => by simp
  | x :: t, i + 1, h => by
    rcases t with _ | ⟨y, t⟩
    · simp [m1, rs] at h
    · obtain ⟨m, r, e⟩ := rs_ne y t
      have hx : rs (x :: y :: t) = match rs (y :: t) with
        | (f, m) :: r => if f = x + 1 then (x, m + 1) :: r else (x, 1) :: (f, m) :: r
        | [] => [(x, 1)] := rfl
      rw [e] at hx
      simp only at hx
      have hm : m1 (y :: t) = m + 1 := by unfold m1; rw [e]; rfl
      unfold m1 at h
      rw [hx] at h
      by_cases hy : y = x + 1
      · rw [if_pos hy] at h
        simp at h
        have := m1_at (y :: t) i (by omega)
        simp at this ⊢
        omega
      · rw [if_neg hy] at h
        simp at h
theorem m1_end : ∀ l : List Nat, m1 l < l.length → l[m1 l]?.getD 0 ≠ l[0]?.getD 0 + m1 l
  | [], h => by simp at h
  | x :: t, h => by
    rcases t with _ | ⟨y, t⟩
    · simp [m1, rs] at h
    · obtain ⟨m, r, e⟩ := rs_ne y t
      have hx : rs (x :: y :: t) = match rs (y :: t) with
        | (f, m) :: r => if f = x + 1 then (x, m + 1) :: r else (x, 1) :: (f, m) :: r
        | [] => [(x, 1)] := rfl
      rw [e] at hx
      simp only at hx
      have hm : m1 (y :: t) = m + 1 := by unfold m1; rw [e]; rfl
      have ih := m1_end (y :: t)
      by_cases hy : y = x + 1
      · rw [if_pos hy] at hx
        have h1 : m1 (x :: y :: t) = m + 2 := by unfold m1; rw [hx]; rfl
        rw [h1] at h ⊢
        rw [hm] at ih
        have := ih (by simp at h ⊢; omega)
        simp at this ⊢
        omega
      · rw [if_neg hy] at hx
        have h1 : m1 (x :: y :: t) = 1 := by unfold m1; rw [hx]; rfl
        rw [h1]
        simpa using hy
/-- How many follow: as the program counts. -/
theorem m1_uniq (l : List Nat) (k : Nat) (h1 : 1 ≤ k) (hk : k ≤ l.length) (ha : ∀ i, i < k → l[i]?.getD 0 = l[0]?.getD 0 + i) (he : k < l.length → l[k]?.getD 0 ≠ l[0]?.getD 0 + k) : m1 l = k := by
  have hl : l ≠ [] := by rintro rfl; simp at hk; omega
  have h2 := (rs_step l hl).2
  rcases Nat.lt_trichotomy (m1 l) k with h | h | h
  · exact absurd (ha _ h) (m1_end l (by omega))
  · exact h
  · exact absurd (m1_at l k h) (he (by omega))

/-- Runs with a number missing between them, behind one that is missing. -/
def Sep : Int → List Rn → Prop
  | _, [] => True
  | v, p :: t => v < (p.1 : Int) ∧ 1 ≤ p.2 ∧ Sep ((p.1 + p.2 : Nat) : Int) t
theorem sep_weak : ∀ (R : List Rn) (v u : Int), u ≤ v → Sep v R → Sep u R
  | [], _, _, _, _ => trivial
  | p :: t, v, u, h, ⟨h1, h2, h3⟩ => ⟨by omega, h2, h3⟩
theorem sep_filter (q : Rn → Bool) : ∀ (R : List Rn) (v : Int), Sep v R → Sep v (R.filter q)
  | [], _, _ => trivial
  | p :: t, v, ⟨h1, h2, h3⟩ => by
    rw [List.filter_cons]
    split
    · exact ⟨h1, h2, sep_filter q t _ h3⟩
    · exact sep_filter q t v (sep_weak t _ _ (by omega) h3)
theorem rs_sep : ∀ (l : List Nat) (v : Int), Ris v l → Sep v (rs l)
  | [], _, _ => trivial
  | x :: t, v, ⟨h1, h2, h3⟩ => by
    have ih := rs_sep t x h3
    unfold rs
    split
    · rename_i f m r e
      rw [e] at ih
      obtain ⟨i1, i2, i3⟩ := ih
      simp only at i1 i2 i3
      by_cases h : f = x + 1
      · rw [if_pos h]
        subst h
        exact ⟨h1, by simp, by rw [show x + (m + 1) = x + 1 + m by omega]; exact i3⟩
      · rw [if_neg h]
        exact ⟨h1, by simp, by simp only; omega, i2, i3⟩
    · exact ⟨h1, by simp, trivial⟩
/-- Runs that are apart are those of their numbers. -/
theorem rs_of_sep : ∀ (R : List Rn) (v : Int), Sep v R → rs (flatR R) = R
  | [], _, _ => rfl
  | (f, m) :: T, v, ⟨h1, h2, h3⟩ => by
    have ih := rs_of_sep T _ h3
    simp only at h2 h3
    have key : ∀ m f, 1 ≤ m → Sep ((f + m : Nat) : Int) T → rs (List.range' f m ++ flatR T) = (f, m) :: T := by
      intro m
      induction m with
      | zero => intro f h; omega
      | succ m ihm =>
        intro f _ hs
        rw [List.range'_succ, List.cons_append]
        by_cases hm : m = 0
        · subst hm
          show rs (f :: flatR T) = _
          unfold rs
          rw [ih]
          split
          · rename_i g n r e
            rw [if_neg (by have := hs.1; simp only at this; omega)]
          · rfl
        · unfold rs
          rw [ihm (f + 1) (by omega) (by rw [show f + 1 + m = f + (m + 1) by omega]; exact hs)]
          simp
    rw [flatR_cons]
    exact key m f h2 h3

/-- A list is split. -/
def lng (k : Nat) (R : List Rn) : List Rn := R.filter (fun p => decide (k ≤ p.2))
def sht (k : Nat) (R : List Rn) : List Rn := R.filter (fun p => decide (p.2 < k))
theorem lng_snoc (k : Nat) (R : List Rn) (p : Rn) : lng k (R ++ [p]) = lng k R ++ (if k ≤ p.2 then [p] else []) := by
  unfold lng; rw [List.filter_append]; congr 1
  by_cases h : k ≤ p.2 <;> simp [h]
theorem sht_snoc (k : Nat) (R : List Rn) (p : Rn) : sht k (R ++ [p]) = sht k R ++ (if k ≤ p.2 then [] else [p]) := by
  unfold sht; rw [List.filter_append]; congr 1
  by_cases h : k ≤ p.2
  · rw [if_pos h]; simp; omega
  · rw [if_neg h]; simp; omega
theorem lng_sht (k : Nat) : ∀ R : List Rn, (flatR (lng k R) ++ flatR (sht k R)).Perm (flatR R)
  | [] => .refl _
  | p :: R => by
    have ih := lng_sht k R
    unfold lng sht at *
    rw [List.filter_cons, List.filter_cons]
    by_cases h : k ≤ p.2
    · rw [if_pos (by simpa using h), if_neg (by simp; omega), flatR_cons, flatR_cons, List.append_assoc]
      exact ih.append_left _
    · rw [if_neg (by simpa using h), if_pos (by simp; omega), flatR_cons, flatR_cons, ← List.append_assoc]
      exact ((List.perm_append_comm (l₁ := flatR _) (l₂ := nums p)).append_right _).trans (by rw [List.append_assoc]; exact ih.append_left _)
theorem flatR_sub (q : Rn → Bool) : ∀ R : List Rn, (flatR (R.filter q)).Sublist (flatR R)
  | [] => .slnil
  | p :: R => by
    rw [List.filter_cons]
    split
    · rw [flatR_cons, flatR_cons]; exact (flatR_sub q R).append_left _
    · rw [flatR_cons]; exact (flatR_sub q R).trans (List.sublist_append_right _ _)
theorem ris_pairwise : ∀ (l : List Nat) (v : Int), Ris v l ↔ (∀ x ∈ l, v < (x : Int) ∧ x ≤ 1048576) ∧ l.Pairwise (· < ·)
  | [], v => by simp [Ris]
  | x :: t, v => by
    unfold Ris
    rw [ris_pairwise t x, List.pairwise_cons]
    constructor
    · rintro ⟨h1, h2, h3, h4⟩
      refine ⟨fun y hy => ?_, fun y hy => by have := (h3 y hy).1; omega, h4⟩
      rcases List.mem_cons.1 hy with rfl | hy
      · exact ⟨h1, h2⟩
      · have := h3 y hy; omega
    · rintro ⟨h1, h2, h3⟩
      have hx := h1 x (by simp)
      exact ⟨hx.1, hx.2, fun y hy => ⟨by have := h2 y hy; omega, (h1 y (by simp [hy])).2⟩, h3⟩
theorem rising_sub {a l : List Nat} (h : a.Sublist l) (hl : Rising l) : Rising a := by
  obtain ⟨h1, h2⟩ := (ris_pairwise l (-1)).1 hl.2
  exact ⟨Nat.le_trans h.length_le hl.1, (ris_pairwise a (-1)).2 ⟨fun x hx => h1 x (h.subset hx), h2.sublist h⟩⟩

/-- Numbers are sorted. -/
def nin (x : Nat) : List Nat → List Nat
  | [] => [x]
  | y :: t => if x ≤ y then x :: y :: t else y :: nin x t
def nso : List Nat → List Nat
  | [] => []
  | x :: t => nin x (nso t)
theorem nin_perm (x : Nat) : ∀ t, (nin x t).Perm (x :: t)
  | [] => .refl _
  | y :: t => by
    unfold nin
    split
    · exact .refl _
    · exact ((nin_perm x t).cons y).trans (.swap x y t)
theorem nso_perm : ∀ l, (nso l).Perm l
  | [] => .refl _
  | x :: t => (nin_perm x _).trans ((nso_perm t).cons x)
theorem nin_sorted (x : Nat) : ∀ t, t.Pairwise (· ≤ ·) → (nin x t).Pairwise (· ≤ ·)
  | [], _ => by simp [nin]
  | y :: t, h => by
    have h1 := List.pairwise_cons.1 h
    unfold nin
    by_cases hx : x ≤ y
    · rw [if_pos hx]
      refine List.pairwise_cons.2 ⟨fun z hz => ?_, h⟩
      rcases List.mem_cons.1 hz with rfl | hz
      · exact hx
      · exact Nat.le_trans hx (h1.1 z hz)
    · rw [if_neg hx]
      refine List.pairwise_cons.2 ⟨fun z hz => ?_, nin_sorted x t h1.2⟩
      rcases List.mem_cons.1 ((nin_perm x t).subset hz) with rfl | hz
      · omega
      · exact h1.1 z hz
theorem nso_sorted : ∀ l, (nso l).Pairwise (· ≤ ·)
  | [] => .nil
  | x :: t => nin_sorted x _ (nso_sorted t)
/-- Two sorted lists of the same numbers are the same. -/
theorem sorted_uniq : ∀ (a b : List Nat), a.Perm b → a.Pairwise (· ≤ ·) → b.Pairwise (· ≤ ·) → a = b
  | [], b, h, _, _ => (List.nil_perm.1 h).symm
  | x :: t, [], h, _, _ => by have := h.length_eq; simp at this
  | x :: t, y :: s, h, h1, h2 => by
    have p1 := List.pairwise_cons.1 h1
    have p2 := List.pairwise_cons.1 h2
    have e : x = y := by
      have a1 : x ∈ y :: s := h.subset List.mem_cons_self
      have a2 : y ∈ x :: t := h.symm.subset List.mem_cons_self
      rcases List.mem_cons.1 a1 with e | m1
      · exact e
      · rcases List.mem_cons.1 a2 with e | m2
        · exact e.symm
        · have := p1.1 y m2; have := p2.1 x m1; omega
    subst e
    rw [sorted_uniq t s (List.perm_cons _ |>.1 h) p1.2 p2.2]
theorem nso_uniq {a b : List Nat} (h : a.Perm b) (hs : a.Pairwise (· ≤ ·)) : nso b = a := sorted_uniq _ _ ((nso_perm b).trans h.symm) (nso_sorted b) hs
/-- Two next to each other are the same. -/
def tw : List Nat → Bool
  | x :: y :: t => x == y || tw (y :: t)
  | _ => false
theorem tw_false : ∀ l : List Nat, l.Pairwise (· ≤ ·) → (tw l = false ↔ l.Pairwise (· < ·))
  | [], _ => by simp [tw]
  | [x], _ => by simp [tw]
  | x :: y :: t, h => by
    have h1 := List.pairwise_cons.1 h
    have ih := tw_false (y :: t) h1.2
    unfold tw
    rw [Bool.or_eq_false_iff, ih, List.pairwise_cons (a := x)]
    constructor
    · rintro ⟨a, b⟩
      have hxy : x < y := by have := h1.1 y (by simp); simp at a; omega
      refine ⟨fun z hz => ?_, b⟩
      rcases List.mem_cons.1 hz with rfl | hz
      · exact hxy
      · have := (List.pairwise_cons.1 b).1 z hz; omega
    · rintro ⟨a, b⟩
      have := a y (by simp)
      exact ⟨by simp; omega, b⟩
theorem tw_at : ∀ l : List Nat, tw l = true ↔ ∃ i, i + 1 < l.length ∧ l[i + 1]?.getD 0 = l[i]?.getD 0
  | [] => by simp [tw]
  | [x] => by simp [tw]
  | x :: y :: t => by
    have ih := tw_at (y :: t)
    unfold tw
    rw [Bool.or_eq_true, ih]
    constructor
    · rintro (h | ⟨i, h1, h2⟩)
      · exact ⟨0, by simp, by simp at h ⊢; omega⟩
      · exact ⟨i + 1, by simp at h1 ⊢; omega, by simpa using h2⟩
    · rintro ⟨i, h1, h2⟩
      rcases i with _ | i
      · left; simp at h2 ⊢; omega
      · right; exact ⟨i, by simp at h1 ⊢; omega, by simpa using h2⟩
/-- What runs and a rest are merged to. -/
def mg (R : List Rn) (rest : List Nat) : List Nat × Int :=
  let l := nso (flatR R ++ rest)
  if tw l = true then ([], 6) else if 300 < l.length then ([], 2) else (l, 0)
/-- The error of the runs of a list behind a number that is missing. -/
def rk : Int → List (Int × Int) → Int
  | _, [] => 0
  | v, p :: t => if p.1 < 0 ∨ 1048576 < p.1 ∨ p.2 < 1 ∨ 300 < p.2 ∨ 1048576 < p.1 + p.2 - 1 then 3 else if p.1 ≤ v then 4 else rk (p.1 + p.2) t
def rkchk (r : List (Int × Int)) : Int := if 300 < r.length then 2 else rk (-1) r
def rz (R : List Rn) : List (Int × Int) := R.map fun p => ((p.1 : Int), (p.2 : Int))
theorem rz_length (R : List Rn) : (rz R).length = R.length := by simp [rz]
/-- Runs that are right. -/
def OkR (R : List Rn) : Prop := R.length ≤ 300 ∧ Sep (-1) R ∧ ∀ p ∈ R, p.2 ≤ 300 ∧ p.1 + p.2 ≤ 1048577
theorem rk_ok : ∀ (R : List Rn) (v : Int), Sep v R → (∀ p ∈ R, p.2 ≤ 300 ∧ p.1 + p.2 ≤ 1048577) → rk v (rz R) = 0
  | [], _, _, _ => rfl
  | p :: t, v, ⟨h1, h2, h3⟩, hb => by
    have hp := hb p (by simp)
    show rk v (((p.1 : Int), (p.2 : Int)) :: rz t) = 0
    unfold rk
    simp only
    rw [if_neg (by omega), if_neg (by omega)]
    have := rk_ok t _ h3 (fun q hq => hb q (by simp [hq]))
    rwa [show ((p.1 + p.2 : Nat) : Int) = (p.1 : Int) + (p.2 : Int) by omega] at this
theorem rkchk_ok (R : List Rn) (h : OkR R) : rkchk (rz R) = 0 := by
  unfold rkchk
  rw [if_neg (by rw [rz_length]; have := h.1; omega)]
  exact rk_ok R _ h.2.1 h.2.2
theorem rk_zero : ∀ (r : List (Int × Int)) (v : Int), rk v r = 0 → ∃ R, r = rz R ∧ Sep v R ∧ ∀ p ∈ R, p.2 ≤ 300 ∧ p.1 + p.2 ≤ 1048577
  | [], v, _ => ⟨[], rfl, trivial, by simp⟩
  | (f, m) :: t, v, h => by
    unfold rk at h
    simp only at h
    by_cases h1 : f < 0 ∨ 1048576 < f ∨ m < 1 ∨ 300 < m ∨ 1048576 < f + m - 1
    · rw [if_pos h1] at h; omega
    · rw [if_neg h1] at h
      by_cases h2 : f ≤ v
      · rw [if_pos h2] at h; omega
      · rw [if_neg h2] at h
        obtain ⟨R, rfl, a, b⟩ := rk_zero t _ h
        obtain ⟨x, rfl⟩ : ∃ n : Nat, f = (n : Int) := ⟨f.toNat, by omega⟩
        obtain ⟨y, rfl⟩ : ∃ n : Nat, m = (n : Int) := ⟨m.toNat, by omega⟩
        refine ⟨(x, y) :: R, rfl, ⟨by simp only; omega, by simp only; omega, ?_⟩, fun p hp => ?_⟩
        · rwa [show (((x, y).1 + (x, y).2 : Nat) : Int) = (x : Int) + (y : Int) from by simp]
        · rcases List.mem_cons.1 hp with rfl | hp
          · simp only; omega
          · exact b p hp
theorem rkchk_zero (r : List (Int × Int)) (h : rkchk r = 0) : ∃ R, r = rz R ∧ OkR R := by
  unfold rkchk at h
  by_cases h1 : 300 < r.length
  · rw [if_pos h1] at h; omega
  · rw [if_neg h1] at h
    obtain ⟨R, rfl, a, b⟩ := rk_zero r (-1) h
    exact ⟨R, rfl, by rw [rz_length] at h1; omega, a, b⟩
theorem rk_or : ∀ (r : List (Int × Int)) (v : Int), rk v r = 0 ∨ rk v r = 3 ∨ rk v r = 4
  | [], v => .inl rfl
  | x :: t, v => by
    unfold rk
    split
    · simp
    · split
      · simp
      · exact rk_or t _

theorem flatR_len_split (k : Nat) (R : List Rn) : (flatR (lng k R)).length + (flatR (sht k R)).length = (flatR R).length := by
  rw [← (lng_sht k R).length_eq, List.length_append]
theorem flatR_mem (R : List Rn) (x : Nat) : x ∈ flatR R ↔ ∃ p ∈ R, p.1 ≤ x ∧ x < p.1 + p.2 := by
  unfold flatR
  rw [List.mem_flatMap]
  exact ⟨fun ⟨p, h1, h2⟩ => ⟨p, h1, (nums_mem p x).1 h2⟩, fun ⟨p, h1, h2⟩ => ⟨p, h1, (nums_mem p x).2 h2⟩⟩
theorem sep_pos : ∀ (R : List Rn) (v : Int), Sep v R → ∀ p ∈ R, 1 ≤ p.2
  | [], _, _ => by simp
  | q :: t, v, ⟨h1, h2, h3⟩ => fun p hp => by
    rcases List.mem_cons.1 hp with rfl | hp
    · exact h2
    · exact sep_pos t _ h3 p hp
theorem flatR_len_ge : ∀ R : List Rn, (∀ p ∈ R, 1 ≤ p.2) → R.length ≤ (flatR R).length
  | [], _ => by simp
  | p :: R, h => by
    have := flatR_len_ge R (fun q hq => h q (by simp [hq]))
    have := h p (by simp)
    rw [flatR_cons, List.length_append, nums_length, List.length_cons]; omega
theorem flatR_len_mem : ∀ (R : List Rn) (p : Rn), p ∈ R → p.2 ≤ (flatR R).length
  | [], p, h => by simp at h
  | q :: R, p, h => by
    rw [flatR_cons, List.length_append, nums_length]
    rcases List.mem_cons.1 h with rfl | h
    · omega
    · have := flatR_len_mem R p h; omega
/-- The runs of a rising list are right, and so are some of them. -/
theorem rs_okR (l : List Nat) (h : Rising l) : OkR (rs l) := by
  have hs := rs_sep l (-1) h.2
  have hf := rs_flat l
  have hp := sep_pos _ _ hs
  refine ⟨?_, hs, fun p hp' => ⟨?_, ?_⟩⟩
  · have := flatR_len_ge (rs l) hp; rw [hf] at this; have := h.1; omega
  · have := flatR_len_mem (rs l) p hp'; rw [hf] at this; have := h.1; omega
  · have h1 := hp p hp'
    have : p.1 + p.2 - 1 ∈ flatR (rs l) := (flatR_mem _ _).2 ⟨p, hp', by omega, by omega⟩
    rw [hf] at this
    have := (ris_le l _ h.2 _ this).2
    omega
theorem okR_filter (q : Rn → Bool) (R : List Rn) (h : OkR R) : OkR (R.filter q) :=
  ⟨Nat.le_trans (List.length_filter_le _ _) h.1, sep_filter q R _ h.2.1, fun p hp => h.2.2 p (List.mem_filter.1 hp).1⟩
theorem rising_lt {l : List Nat} (h : Rising l) : l.Pairwise (· < ·) := ((ris_pairwise l _).1 h.2).2
theorem mg_of {R : List Rn} {rest l : List Nat} (h : (flatR R ++ rest).Perm l) (hl : Rising l) : mg R rest = (l, 0) := by
  have hlt := rising_lt hl
  have hle : l.Pairwise (· ≤ ·) := hlt.imp (fun h => by omega)
  unfold mg
  rw [nso_uniq h.symm hle]
  simp only
  rw [if_neg (by rw [(tw_false l hle).2 hlt]; simp), if_neg (by have := hl.1; omega)]
theorem mg_zero {R : List Rn} {rest l : List Nat} (hR : OkR R) (hr : Rising rest) (h : mg R rest = (l, 0)) : Rising l ∧ (flatR R ++ rest).Perm l := by
  unfold mg at h
  simp only at h
  split at h
  · simp at h
  · split at h
    · simp at h
    · rename_i h1 h2
      cases h
      have hp := nso_perm (flatR R ++ rest)
      refine ⟨⟨by omega, (ris_pairwise _ _).2 ⟨fun x hx => ?_, (tw_false _ (nso_sorted _)).1 (by simpa using h1)⟩⟩, hp.symm⟩
      rcases List.mem_append.1 (hp.subset hx) with h | h
      · obtain ⟨p, hp, a, b⟩ := (flatR_mem R x).1 h
        have := (hR.2.2 p hp).2
        exact ⟨by omega, by omega⟩
      · exact ris_le rest _ hr.2 x h
/-- What was split is merged again. -/
theorem mg_split (k : Nat) (l : List Nat) (h : Rising l) : mg (lng k (rs l)) (flatR (sht k (rs l))) = (l, 0) :=
  mg_of (by have := lng_sht k (rs l); rwa [rs_flat] at this) h
theorem sht_rising (k : Nat) (l : List Nat) (h : Rising l) : Rising (flatR (sht k (rs l))) := rising_sub (by have := flatR_sub (fun p => decide (p.2 < k)) (rs l); rwa [rs_flat] at this) h
theorem sht_rs (k : Nat) (l : List Nat) (h : Rising l) : rs (flatR (sht k (rs l))) = sht k (rs l) := rs_of_sep _ (-1) (sep_filter _ _ _ (rs_sep l _ h.2))
theorem lng_sht_nil (k : Nat) (R : List Rn) : lng k (sht k R) = [] := by
  unfold lng sht
  rw [List.filter_filter, List.filter_eq_nil_iff]
  intro p _
  simp
theorem sht_sht (k : Nat) (R : List Rn) : sht k (sht k R) = sht k R := by unfold sht; rw [List.filter_filter]; simp
theorem mg_nil (R : List Rn) (hs : Sep (-1) R) : nso (flatR R ++ []) = flatR R := by
  rw [List.append_nil]
  refine nso_uniq (.refl _) ?_
  have key : ∀ (R : List Rn) (v : Int), Sep v R → (∀ x ∈ flatR R, v < (x : Int)) ∧ (flatR R).Pairwise (· < ·) := by
    intro R
    induction R with
    | nil => intro v _; simp [flatR]
    | cons p t ih =>
      rintro v ⟨h1, h2, h3⟩
      obtain ⟨i1, i2⟩ := ih _ h3
      rw [flatR_cons]
      refine ⟨fun x hx => ?_, List.pairwise_append.2 ⟨List.pairwise_lt_range', i2, fun x hx y hy => ?_⟩⟩
      · rcases List.mem_append.1 hx with h | h
        · have := (nums_mem p x).1 h; omega
        · have := i1 x h; omega
      · have := (nums_mem p x).1 hx; have := i1 y hy; omega
  exact (key R _ hs).2.imp (fun h => by omega)
theorem flatR_sep_rising (R : List Rn) (h : OkR R) (hl : (flatR R).length ≤ 300) : Rising (flatR R) := by
  have h1 := mg_nil R h.2.1
  have h2 : mg R [] = (flatR R, 0) ∨ tw (flatR R) = true := by
    unfold mg
    rw [h1]
    simp only
    by_cases ht : tw (flatR R) = true
    · exact .inr ht
    · left; rw [if_neg ht, if_neg (by omega)]
  rcases h2 with h2 | h2
  · exact (mg_zero (rest := []) h ⟨by simp, trivial⟩ h2).1
  · exfalso
    have key : ∀ (R : List Rn) (v : Int), Sep v R → (∀ x ∈ flatR R, v < (x : Int)) ∧ (flatR R).Pairwise (· < ·) := by
      intro R
      induction R with
      | nil => intro v _; simp [flatR]
      | cons p t ih =>
        rintro v ⟨h1, h2, h3⟩
        obtain ⟨i1, i2⟩ := ih _ h3
        rw [flatR_cons]
        refine ⟨fun x hx => ?_, List.pairwise_append.2 ⟨List.pairwise_lt_range', i2, fun x hx y hy => ?_⟩⟩
        · rcases List.mem_append.1 hx with h | h
          · have := (nums_mem p x).1 h; omega
          · have := i1 x h; omega
        · have := (nums_mem p x).1 hx; have := i1 y hy; omega
    have k2 := (key R _ h.2.1).2
    have := (tw_false _ (k2.imp (fun h => by omega))).2 k2
    rw [this] at h2; cases h2
/-- Runs that are apart, in any order. -/
def apart (p q : Rn) : Prop := p.1 + p.2 < q.1 ∨ q.1 + q.2 < p.1
theorem sep_pairs : ∀ (R : List Rn) (v : Int), Sep v R ↔ (∀ p ∈ R, v < (p.1 : Int) ∧ 1 ≤ p.2) ∧ R.Pairwise (fun p q => p.1 + p.2 < q.1)
  | [], v => by simp [Sep]
  | p :: t, v => by
    unfold Sep
    rw [sep_pairs t, List.pairwise_cons]
    constructor
    · rintro ⟨h1, h2, h3, h4⟩
      refine ⟨fun q hq => ?_, fun q hq => by have := (h3 q hq).1; omega, h4⟩
      rcases List.mem_cons.1 hq with rfl | hq
      · exact ⟨h1, h2⟩
      · have := h3 q hq; exact ⟨by omega, this.2⟩
    · rintro ⟨h1, h2, h3⟩
      have hx := h1 p (by simp)
      exact ⟨hx.1, hx.2, fun q hq => ⟨by have := h2 q hq; omega, (h1 q (by simp [hq])).2⟩, h3⟩
def fin (x : Rn) : List Rn → List Rn
  | [] => [x]
  | y :: t => if x.1 ≤ y.1 then x :: y :: t else y :: fin x t
def fso : List Rn → List Rn
  | [] => []
  | x :: t => fin x (fso t)
theorem fin_perm (x : Rn) : ∀ t, (fin x t).Perm (x :: t)
  | [] => .refl _
  | y :: t => by
    unfold fin
    split
    · exact .refl _
    · exact ((fin_perm x t).cons y).trans (.swap x y t)
theorem fso_perm : ∀ l, (fso l).Perm l
  | [] => .refl _
  | x :: t => (fin_perm x _).trans ((fso_perm t).cons x)
theorem fin_sorted (x : Rn) : ∀ t, t.Pairwise (fun p q : Rn => p.1 ≤ q.1) → (fin x t).Pairwise (fun p q : Rn => p.1 ≤ q.1)
  | [], _ => by simp [fin]
  | y :: t, h => by
    have h1 := List.pairwise_cons.1 h
    unfold fin
    by_cases hx : x.1 ≤ y.1
    · rw [if_pos hx]
      refine List.pairwise_cons.2 ⟨fun z hz => ?_, h⟩
      rcases List.mem_cons.1 hz with rfl | hz
      · exact hx
      · exact Nat.le_trans hx (h1.1 z hz)
    · rw [if_neg hx]
      refine List.pairwise_cons.2 ⟨fun z hz => ?_, fin_sorted x t h1.2⟩
      rcases List.mem_cons.1 ((fin_perm x t).subset hz) with rfl | hz
      · omega
      · exact h1.1 z hz
theorem fso_sorted : ∀ l, (fso l).Pairwise (fun p q : Rn => p.1 ≤ q.1)
  | [] => .nil
  | x :: t => fin_sorted x _ (fso_sorted t)
theorem flatR_perm {a b : List Rn} (h : a.Perm b) : (flatR a).Perm (flatR b) := h.flatMap_right _
theorem sep_flat_lt : ∀ (R : List Rn) (v : Int), Sep v R → (∀ x ∈ flatR R, v < (x : Int)) ∧ (flatR R).Pairwise (· < ·) := by
  intro R
  induction R with
  | nil => intro v _; simp [flatR]
  | cons p t ih =>
    rintro v ⟨h1, h2, h3⟩
    obtain ⟨i1, i2⟩ := ih _ h3
    rw [flatR_cons]
    refine ⟨fun x hx => ?_, List.pairwise_append.2 ⟨List.pairwise_lt_range', i2, fun x hx y hy => ?_⟩⟩
    · rcases List.mem_append.1 hx with h | h
      · have := (nums_mem p x).1 h; omega
      · have := i1 x h; omega
    · have := (nums_mem p x).1 hx; have := i1 y hy; omega
theorem sep_flat_uniq {a b : List Rn} (ha : Sep (-1) a) (hb : Sep (-1) b) (h : (flatR a).Perm (flatR b)) : a = b := by
  have e := sorted_uniq _ _ h ((sep_flat_lt a _ ha).2.imp (fun h => by omega)) ((sep_flat_lt b _ hb).2.imp (fun h => by omega))
  rw [← rs_of_sep a _ ha, ← rs_of_sep b _ hb, e]
/-- What was merged of long runs and a rest without is split again. -/
theorem merge_split (k : Nat) (R : List Rn) (rest l : List Nat) (hR : OkR R) (hr : Rising rest) (h : mg R rest = (l, 0)) (hk : ∀ p ∈ R, k ≤ p.2)
    (ha : ∀ p ∈ R, ∀ x ∈ rest, (x : Int) ≠ (p.1 : Int) - 1 ∧ x ≠ p.1 + p.2) (hs : lng k (rs rest) = []) : lng k (rs l) = R ∧ flatR (sht k (rs l)) = rest := by
  obtain ⟨hl, hp⟩ := mg_zero hR hr h
  have hS := rs_sep rest _ hr.2
  have s1 := (sep_pairs R _).1 hR.2.1
  have s2 := (sep_pairs (rs rest) _).1 hS
  have hnd : (flatR R ++ rest).Nodup := (hp.nodup_iff).2 ((rising_lt hl).imp (fun h => by omega))
  have hfr := rs_flat rest
  have hcross : ∀ p ∈ R, ∀ q ∈ rs rest, apart p q := by
    intro p hpR q hq
    have q1 := (s2.1 q hq).2
    have p1 := (s1.1 p hpR).2
    have hx : ∀ x, q.1 ≤ x → x < q.1 + q.2 → x ∈ rest := fun x a b => by rw [← hfr]; exact (flatR_mem _ _).2 ⟨q, hq, a, b⟩
    have hd := (List.nodup_append.1 hnd).2.2
    unfold apart
    by_cases c1 : p.1 + p.2 < q.1
    · exact .inl c1
    · right
      apply Classical.byContradiction
      intro c2
      by_cases c3 : q.1 + q.2 = p.1
      · have := (ha p hpR (q.1 + q.2 - 1) (hx _ (by omega) (by omega))).1; omega
      · by_cases c4 : q.1 = p.1 + p.2
        · exact (ha p hpR q.1 (hx _ (by omega) (by omega))).2 c4
        · have m1 : max p.1 q.1 ∈ flatR R := (flatR_mem R _).2 ⟨p, hpR, by omega, by omega⟩
          have m2 : max p.1 q.1 ∈ rest := hx _ (by omega) (by omega)
          exact hd _ m1 _ m2 rfl
  have hpw : (R ++ rs rest).Pairwise apart := List.pairwise_append.2 ⟨s1.2.imp (fun h => .inl h), s2.2.imp (fun h => .inl h), hcross⟩
  have hpT := fso_perm (R ++ rs rest)
  have hsT := fso_sorted (R ++ rs rest)
  generalize fso (R ++ rs rest) = T at *
  have haT : T.Pairwise apart := (hpT.pairwise_iff (fun h => by unfold apart at *; omega)).2 hpw
  have hposT : ∀ p ∈ T, (-1 : Int) < (p.1 : Int) ∧ 1 ≤ p.2 := fun p hp => by
    rcases List.mem_append.1 (hpT.subset hp) with h | h
    · exact s1.1 p h
    · exact s2.1 p h
  have hsep : Sep (-1) T := (sep_pairs T _).2 ⟨hposT, (hsT.and haT).imp (fun {p q} h => by
    obtain ⟨a, b⟩ := h
    unfold apart at b
    omega)⟩
  have hfT : flatR T = l := by
    refine sorted_uniq _ _ ?_ ((sep_flat_lt T _ hsep).2.imp (fun h => by omega)) ((rising_lt hl).imp (fun h => by omega))
    have := flatR_perm hpT
    rw [flatR_append, hfr] at this
    exact this.trans hp
  have hrT : rs l = T := by rw [← hfT]; exact rs_of_sep T _ hsep
  rw [hrT]
  have e1 : lng k R = R := by unfold lng; rw [List.filter_eq_self]; intro p hp; simpa using hk p hp
  have e2 : sht k (rs rest) = rs rest := by
    unfold sht; rw [List.filter_eq_self]; intro p hp
    unfold lng at hs
    rw [List.filter_eq_nil_iff] at hs
    have := hs p hp
    simp at this ⊢; omega
  have e3 : sht k R = [] := by unfold sht; rw [List.filter_eq_nil_iff]; intro p hp; have := hk p hp; simp; omega
  refine ⟨sep_flat_uniq (sep_filter _ _ _ hsep) hR.2.1 ?_, ?_⟩
  · have := flatR_perm (hpT.filter (fun p => decide (k ≤ p.2)))
    rw [List.filter_append] at this
    have e : (R.filter fun p => decide (k ≤ p.2)) ++ ((rs rest).filter fun p => decide (k ≤ p.2)) = R := by
      show lng k R ++ lng k (rs rest) = R
      rw [e1, hs, List.append_nil]
    rw [e] at this
    exact this
  · have h1 := flatR_perm (hpT.filter (fun p => decide (p.2 < k)))
    rw [List.filter_append] at h1
    have e : (R.filter fun p => decide (p.2 < k)) ++ ((rs rest).filter fun p => decide (p.2 < k)) = rs rest := by
      show sht k R ++ sht k (rs rest) = rs rest
      rw [e2, e3, List.nil_append]
    rw [e, hfr] at h1
    exact sorted_uniq _ _ h1 ((sep_flat_lt _ _ (sep_filter _ _ _ hsep)).2.imp (fun h => by omega)) ((rising_lt hr).imp (fun h => by omega))
/-- All further by as much. -/
theorem rs_shift (d : Int) : ∀ (l m : List Nat), ns m = (ns l).map (· + d) → rz (rs m) = (rz (rs l)).map (fun p => (p.1 + d, p.2))
  | [], m, hm => by
    have : m = [] := by cases m with
      | nil => rfl
      | cons y t => simp [ns] at hm
    subst this; rfl
  | x :: t, [], hm => by simp [ns] at hm
  | x :: t, y :: s, hm => by
    simp only [ns_cons, List.map_cons, List.cons.injEq] at hm
    have ih := rs_shift d t s hm.2
    unfold rs
    generalize rs t = T at *
    generalize rs s = S at *
    match T, S, ih with
    | [], [], _ => simp [rz, hm.1]
    | [], _ :: _, h => simp [rz] at h
    | _ :: _, [], h => simp [rz] at h
    | (f, m) :: T, (g, n) :: S, h =>
      simp only [rz, List.map_cons, List.cons.injEq, Prod.mk.injEq] at h
      obtain ⟨⟨h1, h2⟩, h3⟩ := h
      have hn : n = m := by omega
      subst hn
      by_cases e : f = x + 1
      · have e' : g = y + 1 := by omega
        simp only [if_pos e, if_pos e', rz, List.map_cons, List.cons.injEq, Prod.mk.injEq]
        exact ⟨⟨by omega, trivial⟩, h3⟩
      · have e' : ¬ g = y + 1 := by omega
        simp only [if_neg e, if_neg e', rz, List.map_cons, List.cons.injEq, Prod.mk.injEq]
        exact ⟨⟨by omega, trivial⟩, ⟨by omega, trivial⟩, h3⟩
/-- One run. -/
theorem rs_whole (f m : Nat) (h : 1 ≤ m) : rs (List.range' f m) = [(f, m)] := by
  have := rs_of_sep [(f, m)] (-1) ⟨by simp only; omega, h, trivial⟩
  rw [flatR_cons, flatR_nil, List.append_nil] at this
  exact this
theorem take_snocN (l : List Nat) (i : Nat) (h : i < l.length) : l.take (i + 1) = l.take i ++ [l[i]?.getD 0] := by
  rw [List.take_add_one, List.getElem?_eq_getElem h]; rfl
/-- The merging, half-way: what is merged is in order, and ahead of all that is left. -/
structure Mi (L X out : List Nat) (i k : Nat) : Prop where
  hi : i ≤ L.length
  hk : k ≤ X.length
  perm : out.Perm (L.take i ++ X.take k)
  lt : out.Pairwise (· < ·)
  ahead : ∀ x ∈ out, (∀ y ∈ L.drop i, x < y) ∧ (∀ y ∈ X.drop k, x < y)
theorem mi_start (L X : List Nat) : Mi L X [] 0 0 := ⟨Nat.zero_le _, Nat.zero_le _, by simp, .nil, by simp⟩
theorem drop_nat (l : List Nat) (i : Nat) (h : i < l.length) : l.drop i = l[i]?.getD 0 :: l.drop (i + 1) := by
  rw [List.drop_eq_getElem_cons h, List.getElem?_eq_getElem h]; rfl
theorem pw_drop {l : List Nat} (h : l.Pairwise (· < ·)) (i : Nat) (hi : i < l.length) : ∀ y ∈ l.drop (i + 1), l[i]?.getD 0 < y := by
  have := h.sublist (List.drop_sublist i l)
  rw [drop_nat l i hi] at this
  exact (List.pairwise_cons.1 this).1
theorem mi_left {L X out : List Nat} {i k : Nat} (h : Mi L X out i k) (hL : L.Pairwise (· < ·)) (hi : i < L.length) (hx : ∀ y ∈ X.drop k, L[i]?.getD 0 < y) : Mi L X (out ++ [L[i]?.getD 0]) (i + 1) k := by
  refine ⟨by omega, h.hk, ?_, ?_, ?_⟩
  · rw [take_snocN L i hi, List.append_assoc]
    exact (h.perm.append_right _).trans (by rw [List.append_assoc]; exact (List.perm_append_comm).append_left _)
  · refine List.pairwise_append.2 ⟨h.lt, List.pairwise_singleton _ _, fun x hx' y hy => ?_⟩
    simp at hy; subst hy
    exact (h.ahead x hx').1 _ (by rw [drop_nat L i hi]; simp)
  · intro x hx'
    rcases List.mem_append.1 hx' with q | q
    · exact ⟨fun y hy => (h.ahead x q).1 y (by rw [drop_nat L i hi]; simp [hy]), (h.ahead x q).2⟩
    · simp at q; subst q
      exact ⟨pw_drop hL i hi, hx⟩
theorem mi_right {L X out : List Nat} {i k : Nat} (h : Mi L X out i k) (hX : X.Pairwise (· < ·)) (hk : k < X.length) (hx : ∀ y ∈ L.drop i, X[k]?.getD 0 < y) : Mi L X (out ++ [X[k]?.getD 0]) i (k + 1) := by
  refine ⟨h.hi, by omega, ?_, ?_, ?_⟩
  · rw [take_snocN X k hk, ← List.append_assoc]
    exact h.perm.append_right _
  · refine List.pairwise_append.2 ⟨h.lt, List.pairwise_singleton _ _, fun x hx' y hy => ?_⟩
    simp at hy; subst hy
    exact (h.ahead x hx').2 _ (by rw [drop_nat X k hk]; simp)
  · intro x hx'
    rcases List.mem_append.1 hx' with q | q
    · exact ⟨(h.ahead x q).1, fun y hy => (h.ahead x q).2 y (by rw [drop_nat X k hk]; simp [hy])⟩
    · simp at q; subst q
      exact ⟨hx, pw_drop hX k hk⟩
theorem mi_end {L X out : List Nat} (h : Mi L X out L.length X.length) : nso (L ++ X) = out ∧ tw (nso (L ++ X)) = false := by
  have hp := h.perm
  rw [List.take_length, List.take_length] at hp
  have e := nso_uniq hp (h.lt.imp (fun h => by omega))
  rw [e]
  exact ⟨rfl, (tw_false out (h.lt.imp (fun h => by omega))).2 h.lt⟩
theorem tw_dup (L X : List Nat) (x : Nat) (h1 : x ∈ L) (h2 : x ∈ X) : tw (nso (L ++ X)) = true := by
  cases h : tw (nso (L ++ X)) with
  | true => rfl
  | false =>
    exfalso
    have hp := (tw_false _ (nso_sorted (L ++ X))).1 h
    have hnd : (nso (L ++ X)).Nodup := hp.imp (fun h => by omega)
    have := ((nso_perm (L ++ X)).nodup_iff).1 hnd
    exact (List.nodup_append.1 this).2.2 x h1 x h2 rfl
/-- The error of Merge ahead of its numbers. -/
def mgE0 (r : List (Int × Int)) (xs : List Int) : Int := if rkchk r ≠ 0 then rkchk r else rchk xs
/-- What is merged, and the error, of whatever is handed in. -/
def rn (r : List (Int × Int)) : List Rn := r.map fun p => (p.1.toNat, p.2.toNat)
theorem rn_rz (R : List Rn) : rn (rz R) = R := by
  unfold rn rz; rw [List.map_map]
  exact (List.map_congr_left fun x _ => by simp).trans (List.map_id R)
def mgA (r : List (Int × Int)) (xs : List Int) : List Nat × Int := if mgE0 r xs ≠ 0 then ([], mgE0 r xs) else mg (rn r) (xs.map Int.toNat)
theorem mgA_ok (R : List Rn) (hR : OkR R) (l : List Nat) (hl : Rising l) : mgA (rz R) (ns l) = mg R l := by
  unfold mgA mgE0
  rw [rkchk_ok R hR, rchk_ok l hl, rn_rz, ns_nat]; simp
theorem mgA_zero (r : List (Int × Int)) (xs : List Int) (h : mgE0 r xs = 0) : ∃ R l, r = rz R ∧ OkR R ∧ xs = ns l ∧ Rising l := by
  unfold mgE0 at h
  by_cases h1 : rkchk r = 0
  · rw [if_neg (by simpa using h1)] at h
    obtain ⟨R, e1, hR⟩ := rkchk_zero r h1
    obtain ⟨l, e2, hl⟩ := rchk_zero xs h
    exact ⟨R, l, e1, hR, e2, hl⟩
  · rw [if_pos h1] at h; exact absurd h h1
end

section
set_option linter.unusedVariables false

/-- The blocks that the turns of a row of flags are, behind k flags that are p. -/
def blk : List Bool → Nat → Bool → List Nat
  | [], _, _ => []
  | f :: t, k, p => if f = p then blk t (k + 1) p else k :: blk t 1 (!p)
/-- What blocks copy. -/
def cp {α : Type} : Bool → List Nat → List α → List α
  | p, [], F => if p then F else []
  | p, b :: t, F => (if p then F.take b else []) ++ cp (!p) t (F.drop b)
/-- Whether a place is copied. -/
def pr : Bool → List Nat → Nat → Bool
  | p, [], _ => p
  | p, b :: t, i => if i < b then p else pr (!p) t (i - b)
/-- The flags that blocks tell. -/
def flg : Bool → List Nat → Nat → List Bool
  | p, [], n => List.replicate n p
  | p, b :: t, n => List.replicate (min b n) p ++ flg (!p) t (n - b)
def inL (l : List Nat) (x : Nat) : Bool := decide (x ∈ l)
def notin (F l : List Nat) : List Nat := l.filter (fun x => !inL F x)
def both (F l : List Nat) : List Nat := F.filter (fun x => inL l x)
/-- The blocks of a list by another one. -/
def bks (F l : List Nat) : List Nat := blk (F.map (inL l)) 0 true
theorem cp_nil {α : Type} : ∀ (B : List Nat) (p : Bool), cp p B ([] : List α) = []
  | [], p => by unfold cp; split <;> rfl
  | b :: t, p => by unfold cp; rw [List.drop_nil, cp_nil t, List.take_nil]; split <;> rfl
theorem cp_snoc {α : Type} : ∀ (B : List Nat) (p : Bool) (F : List α) (x : α), cp p B (F ++ [x]) = cp p B F ++ (if pr p B F.length then [x] else [])
  | [], p, F, x => by unfold cp pr; cases p <;> simp
  | b :: t, p, F, x => by
    unfold cp pr
    by_cases h : F.length < b
    · rw [if_pos h, List.take_of_length_le (by simp; omega), List.take_of_length_le (l := F) (by omega), List.drop_of_length_le (by simp; omega), List.drop_of_length_le (l := F) (by omega), cp_nil]
      cases p <;> simp
    · rw [if_neg h, List.take_append_of_le_length (by omega), List.drop_append_of_le_length (by omega), cp_snoc t (!p) (F.drop b) x, List.length_drop, List.append_assoc]
theorem cp_len {α : Type} : ∀ (B : List Nat) (p : Bool) (F : List α), (cp p B F).Sublist F
  | [], p, F => by unfold cp; cases p <;> simp
  | b :: t, p, F => by
    unfold cp
    have h := cp_len t (!p) (F.drop b)
    cases p
    · simpa using h.trans (List.drop_sublist b F)
    · have := h.append_left (F.take b)
      rwa [List.take_append_drop] at this
theorem blk_len : ∀ (fs : List Bool) (k : Nat) (p : Bool), (blk fs k p).length ≤ fs.length
  | [], _, _ => by simp [blk]
  | f :: t, k, p => by
    unfold blk
    split
    · have := blk_len t (k + 1) p; simp; omega
    · have := blk_len t 1 (!p); simp; omega
theorem blk_sum : ∀ (fs : List Bool) (k : Nat) (p : Bool), (blk fs k p).sum ≤ fs.length + k
  | [], _, _ => by simp [blk]
  | f :: t, k, p => by
    unfold blk
    split
    · have := blk_sum t (k + 1) p; simp; omega
    · have := blk_sum t 1 (!p); simp; omega
theorem blk_pos : ∀ (fs : List Bool) (k : Nat) (p : Bool), 1 ≤ k → ∀ b ∈ blk fs k p, 1 ≤ b
  | [], _, _, _ => by simp [blk]
  | f :: t, k, p, h => by
    unfold blk
    split
    · exact blk_pos t (k + 1) p (by omega)
    · intro b hb
      rcases List.mem_cons.1 hb with rfl | hb
      · exact h
      · exact blk_pos t 1 (!p) (Nat.le_refl _) b hb
theorem blk_tail : ∀ (fs : List Bool) (k : Nat) (p : Bool), ∀ b ∈ (blk fs k p).drop 1, 1 ≤ b
  | [], _, _ => by simp [blk]
  | f :: t, k, p => by
    unfold blk
    split
    · exact blk_tail t (k + 1) p
    · intro b hb
      exact blk_pos t 1 (!p) (Nat.le_refl _) b (by simpa using hb)
theorem cp_blk {α : Type} (q : α → Bool) : ∀ (F X : List α) (p : Bool), (∀ x ∈ X, q x = p) → cp p (blk (F.map q) X.length p) (X ++ F) = (if p then X else []) ++ F.filter q
  | [], X, p, h => by simp [blk, cp]
  | f :: t, X, p, h => by
    rw [List.map_cons]
    unfold blk
    by_cases e : q f = p
    · rw [if_pos e]
      have := cp_blk q t (X ++ [f]) p (fun x hx => by rcases List.mem_append.1 hx with hx | hx; exact h x hx; simp at hx; rw [hx]; exact e)
      rw [List.length_append, List.append_assoc] at this
      rw [show X ++ f :: t = X ++ ([f] ++ t) by simp, show X.length + 1 = X.length + [f].length from rfl, this, List.filter_cons, e]
      cases p <;> simp
    · rw [if_neg e]
      have e2 : q f = !p := by cases h1 : q f <;> cases h2 : p <;> simp_all
      have := cp_blk q t [f] (!p) (fun x hx => by simp at hx; rw [hx]; exact e2)
      unfold cp
      rw [List.take_append_of_le_length (Nat.le_refl _), List.take_of_length_le (Nat.le_refl _), List.drop_append_of_le_length (Nat.le_refl _), List.drop_of_length_le (Nat.le_refl _), List.nil_append, show f :: t = [f] ++ t from rfl, show (1 : Nat) = [f].length from rfl, this, show [f] ++ t = f :: t from rfl, List.filter_cons, e2]
      cases p <;> simp
/-- Blocks copy what both have. -/
theorem cp_bks (F l : List Nat) : cp true (bks F l) F = both F l := by
  have := cp_blk (inL l) F [] true (by simp)
  simpa [bks, both] using this

/-! the errors of blocks -/
def bbad : Bool → List Int → Bool
  | _, [] => false
  | fst, b :: t => decide (b < 0 ∨ b = 0 ∧ fst = false) || bbad false t
def bfit : Int → List Int → Bool
  | _, [] => true
  | m, b :: t => decide (b ≤ m) && bfit (m - b) t
def bchk (bs : List Int) (m : Nat) : Int := if m + 1 < bs.length then 2 else if bbad true bs = true then 3 else if bfit m bs = true then 0 else 8
/-- Blocks that are right. -/
def BOk (B : List Nat) (m : Nat) : Prop := B.length ≤ m + 1 ∧ (∀ b ∈ B.drop 1, 1 ≤ b) ∧ B.sum ≤ m
theorem bfit_ns : ∀ (B : List Nat) (m : Nat), bfit m (ns B) = decide (B.sum ≤ m)
  | [], m => by simp [bfit, ns]
  | b :: t, m => by
    rw [ns_cons]
    unfold bfit
    by_cases h : b ≤ m
    · have ih := bfit_ns t (m - b)
      rw [show ((m - b : Nat) : Int) = (m : Int) - (b : Int) by omega] at ih
      rw [ih, List.sum_cons]
      rw [decide_eq_true (show (b : Int) ≤ (m : Int) by omega), Bool.true_and]
      congr 1; apply propext; omega
    · rw [decide_eq_false (show ¬ (b : Int) ≤ (m : Int) by omega), Bool.false_and, List.sum_cons, decide_eq_false (by omega)]
theorem bbad_false : ∀ (bs : List Int) (f : Bool), bbad f bs = false → ∃ B, bs = ns B ∧ (f = false → ∀ b ∈ B, 1 ≤ b) ∧ ∀ b ∈ B.drop 1, 1 ≤ b
  | [], f, _ => ⟨[], rfl, by simp, by simp⟩
  | b :: t, f, h => by
    unfold bbad at h
    rw [Bool.or_eq_false_iff, decide_eq_false_iff_not] at h
    obtain ⟨B, rfl, h1, h2⟩ := bbad_false t false h.2
    obtain ⟨k, rfl⟩ : ∃ k : Nat, b = (k : Int) := ⟨b.toNat, by omega⟩
    refine ⟨k :: B, rfl, fun hf => ?_, by simpa using h1 rfl⟩
    intro c hc
    rcases List.mem_cons.1 hc with rfl | hc
    · have := h.1; subst hf; simp at this; omega
    · exact h1 rfl c hc
theorem bbad_ns : ∀ (B : List Nat) (f : Bool), (f = false → ∀ b ∈ B, 1 ≤ b) → (∀ b ∈ B.drop 1, 1 ≤ b) → bbad f (ns B) = false
  | [], f, _, _ => rfl
  | b :: t, f, h1, h2 => by
    rw [ns_cons]
    unfold bbad
    rw [Bool.or_eq_false_iff, decide_eq_false_iff_not]
    refine ⟨?_, bbad_ns t false (fun _ => by simpa using h2) (fun c hc => by simp at h2; exact h2 c (List.mem_of_mem_drop hc))⟩
    rintro (h | ⟨h, hf⟩)
    · omega
    · have := h1 hf b (by simp); omega
theorem bchk_zero (bs : List Int) (m : Nat) (h : bchk bs m = 0) : ∃ B, bs = ns B ∧ BOk B m := by
  unfold bchk at h
  split at h
  · omega
  · rename_i h1
    split at h
    · omega
    · rename_i h2
      split at h
      · rename_i h3
        obtain ⟨B, rfl, _, h4⟩ := bbad_false bs true (by simpa using h2)
        rw [bfit_ns, decide_eq_true_eq] at h3
        exact ⟨B, rfl, by rw [ns_length] at h1; omega, h4, h3⟩
      · omega
theorem bchk_ok (B : List Nat) (m : Nat) (h : BOk B m) : bchk (ns B) m = 0 := by
  unfold bchk
  rw [if_neg (by rw [ns_length]; have := h.1; omega), if_neg (by rw [bbad_ns B true (by simp) h.2.1]; simp), bfit_ns, if_pos (by simpa using h.2.2)]
theorem bchk_or (bs : List Int) (m : Nat) : bchk bs m = 0 ∨ bchk bs m = 2 ∨ bchk bs m = 3 ∨ bchk bs m = 8 := by
  unfold bchk
  split
  · simp
  · split
    · simp
    · split <;> simp
theorem bks_ok (F l : List Nat) : BOk (bks F l) F.length := by
  have h1 := blk_len (F.map (inL l)) 0 true
  have h2 := blk_sum (F.map (inL l)) 0 true
  rw [List.length_map] at h1 h2
  exact ⟨by unfold bks; omega, blk_tail _ _ _, by unfold bks; omega⟩
theorem bks_len (F l : List Nat) : (bks F l).length ≤ F.length := by
  have h1 := blk_len (F.map (inL l)) 0 true
  rwa [List.length_map] at h1

/-! all calls' answers -/
def pbE (xs ys : List Int) : Int := if rchk xs ≠ 0 then rchk xs else rchk ys
def tn (xs : List Int) : List Nat := xs.map Int.toNat
theorem tn_ns (l : List Nat) : tn (ns l) = l := ns_nat l
def pbB (xs ys : List Int) : List Nat := if pbE xs ys ≠ 0 then [] else bks (tn xs) (tn ys)
def pbR (xs ys : List Int) : List Nat := if pbE xs ys ≠ 0 then [] else notin (tn xs) (tn ys)
def cpE (xs bs : List Int) : Int := if rchk xs ≠ 0 then rchk xs else bchk bs xs.length
def cpA (xs bs : List Int) : List Nat := if cpE xs bs ≠ 0 then [] else cp true (tn bs) (tn xs)
/-- What two lists are put together to. -/
def un (a b : List Nat) : List Nat × Int := if tw (nso (a ++ b)) = true then ([], 6) else if 300 < (nso (a ++ b)).length then ([], 2) else (nso (a ++ b), 0)
def jnE (xs bs ys : List Int) : Int := if cpE xs bs ≠ 0 then cpE xs bs else rchk ys
def jnA (xs bs ys : List Int) : List Nat × Int := if jnE xs bs ys ≠ 0 then ([], jnE xs bs ys) else un (cp true (tn bs) (tn xs)) (tn ys)
theorem mg_un (R : List Rn) (r : List Nat) : mg R r = un (flatR R) r := rfl
theorem un_mi {L X out : List Nat} (h : Mi L X out L.length X.length) : un L X = if 300 < out.length then ([], 2) else (out, 0) := by
  obtain ⟨e1, e2⟩ := mi_end h
  unfold un
  rw [if_neg (by rw [e2]; simp), e1]
theorem un_dup (L X : List Nat) (x : Nat) (h1 : x ∈ L) (h2 : x ∈ X) : un L X = ([], 6) := by
  unfold un
  rw [if_pos (tw_dup _ _ x h1 h2)]
theorem un_or (a b : List Nat) : un a b = ([], 6) ∨ un a b = ([], 2) ∨ (un a b = (nso (a ++ b), 0) ∧ (nso (a ++ b)).length ≤ 300) := by
  unfold un
  split
  · exact .inl rfl
  · split
    · exact .inr (.inl rfl)
    · exact .inr (.inr ⟨rfl, by omega⟩)
theorem un_nil (a : List Nat) (h : Rising a) : un a [] = (a, 0) := by
  have hp := ((ris_pairwise a (-1)).1 h.2).2
  have e : nso (a ++ []) = a := by rw [List.append_nil]; exact nso_uniq (.refl _) (hp.imp (fun h => by omega))
  unfold un
  rw [e, if_neg (by rw [(tw_false a (hp.imp (fun h => by omega))).2 hp]; simp), if_neg (by have := h.1; omega)]
theorem inL_mem (l : List Nat) (x : Nat) : inL l x = true ↔ x ∈ l := by simp [inL]
theorem both_rising (F l : List Nat) (h : Rising F) : Rising (both F l) := rising_sub List.filter_sublist h
theorem notin_rising (F l : List Nat) (h : Rising l) : Rising (notin F l) := rising_sub List.filter_sublist h
theorem ris_nodup (l : List Nat) (h : Rising l) : l.Nodup := (((ris_pairwise l (-1)).1 h.2).2).imp (fun h => by omega)
theorem ris_uniq (a b : List Nat) (ha : Rising a) (hb : Rising b) (h : ∀ x, x ∈ a ↔ x ∈ b) : a = b := by
  have h1 := ((ris_pairwise a (-1)).1 ha.2).2
  have h2 := ((ris_pairwise b (-1)).1 hb.2).2
  refine sorted_uniq a b ?_ (h1.imp (fun h => by omega)) (h2.imp (fun h => by omega))
  exact (List.perm_ext_iff_of_nodup (ris_nodup a ha) (ris_nodup b hb)).2 h
theorem both_mem (F l : List Nat) (x : Nat) : x ∈ both F l ↔ x ∈ F ∧ x ∈ l := by simp [both, inL]
theorem notin_mem (F l : List Nat) (x : Nat) : x ∈ notin F l ↔ x ∈ l ∧ x ∉ F := by simp [notin, inL]
theorem both_swap (F l : List Nat) (h1 : Rising F) (h2 : Rising l) : both F l = both l F :=
  ris_uniq _ _ (both_rising _ _ h1) (both_rising _ _ h2) fun x => by rw [both_mem, both_mem]; exact And.comm
theorem split_perm (q : Nat → Bool) : ∀ l : List Nat, (l.filter q ++ l.filter (fun x => !q x)).Perm l
  | [] => .refl _
  | x :: t => by
    have ih := split_perm q t
    rw [List.filter_cons, List.filter_cons]
    cases h : q x
    · simp only [Bool.false_eq_true, if_false, Bool.not_false, if_true]
      exact List.perm_middle.trans (ih.cons x)
    · simpa using ih.cons x
/-- What is copied and what is left are all. -/
theorem both_perm (F l : List Nat) (h1 : Rising F) (h2 : Rising l) : (both F l ++ notin F l).Perm l := by
  rw [both_swap F l h1 h2]
  exact split_perm (inL F) l
theorem un_back (F l : List Nat) (h1 : Rising F) (h2 : Rising l) : un (both F l) (notin F l) = (l, 0) := by
  have hp := ((ris_pairwise l (-1)).1 h2.2).2
  have e : nso (both F l ++ notin F l) = l := nso_uniq (both_perm F l h1 h2).symm (hp.imp (fun h => by omega))
  unfold un
  rw [e, if_neg (by rw [(tw_false l (hp.imp (fun h => by omega))).2 hp]; simp), if_neg (by have := h2.1; omega)]
theorem both_len (F l : List Nat) (h1 : Rising F) (h2 : Rising l) : (both F l).length + (notin F l).length = l.length := by
  rw [← List.length_append, (both_perm F l h1 h2).length_eq]
theorem filter_len (q : Nat → Bool) (l : List Nat) : (l.filter q).length + (l.filter (fun x => !q x)).length = l.length := by
  rw [← List.length_append, (split_perm q l).length_eq]

/-! blocks that are told again -/
theorem flg_length : ∀ (B : List Nat) (p : Bool) (n : Nat), B.sum ≤ n → (flg p B n).length = n
  | [], p, n, _ => by simp [flg]
  | b :: t, p, n, h => by
    rw [List.sum_cons] at h
    unfold flg
    rw [List.length_append, List.length_replicate, flg_length t (!p) (n - b) (by omega)]; omega
def rsd : Nat → List Nat → Nat → List Nat
  | k, [], m => if m = 0 then [] else [k]
  | k, b :: t, m => k :: rsd b t (m - b)
theorem blk_rep (p : Bool) : ∀ (m : Nat) (fs : List Bool) (k : Nat), blk (List.replicate m p ++ fs) k p = blk fs (k + m) p
  | 0, fs, k => by simp
  | m + 1, fs, k => by
    rw [List.replicate_succ, List.cons_append]
    show (if p = p then _ else _) = _
    rw [if_pos rfl, blk_rep p m fs (k + 1)]
    congr 1; omega
theorem blk_rep' (p : Bool) (m : Nat) (fs : List Bool) (k : Nat) (h : 1 ≤ m) : blk (List.replicate m (!p) ++ fs) k p = k :: blk fs m (!p) := by
  obtain ⟨j, rfl⟩ : ∃ j, m = j + 1 := ⟨m - 1, by omega⟩
  rw [List.replicate_succ, List.cons_append]
  show (if (!p) = p then _ else _) = _
  rw [if_neg (by cases p <;> simp), blk_rep, Nat.add_comm]
theorem blk_flg : ∀ (t : List Nat) (k m : Nat) (p : Bool), (∀ b ∈ t, 1 ≤ b) → t.sum ≤ m → blk (flg (!p) t m) k p = rsd k t m
  | [], k, m, p, _, _ => by
    unfold flg rsd
    by_cases h : m = 0
    · subst h; rfl
    · rw [if_neg h]
      have := blk_rep' p m [] k (by omega)
      simpa [blk] using this
  | b :: t, k, m, p, h, hs => by
    rw [List.sum_cons] at hs
    unfold flg rsd
    rw [Nat.min_eq_left (by omega), blk_rep' p b _ k (h b (by simp)), blk_flg t b (m - b) (!p) (fun c hc => h c (by simp [hc])) (by omega)]
theorem rsd_spec : ∀ (t : List Nat) (k m : Nat), (rsd k t m).length ≤ t.length + 1 ∧ t.length ≤ (rsd k t m).length ∧ rsd k t m = (k :: t).take (rsd k t m).length
  | [], k, m => by
    unfold rsd
    split <;> simp
  | b :: t, k, m => by
    obtain ⟨h1, h2, h3⟩ := rsd_spec t b (m - b)
    unfold rsd
    refine ⟨by simp; omega, by simp; omega, ?_⟩
    rw [List.length_cons, List.take_succ_cons, ← h3]
theorem blk_again (B : List Nat) (n : Nat) (h : BOk B n) : (blk (flg true B n) 0 true).length ≤ B.length ∧ B.length ≤ (blk (flg true B n) 0 true).length + 1 ∧ blk (flg true B n) 0 true = B.take (blk (flg true B n) 0 true).length := by
  cases B with
  | nil =>
    have := blk_rep true n [] 0
    simp [flg, blk] at this ⊢
    rw [this]
  | cons b t =>
    have hs := h.2.2
    rw [List.sum_cons] at hs
    have e : blk (flg true (b :: t) n) 0 true = rsd b t (n - b) := by
      unfold flg
      rw [Nat.min_eq_left (by omega), blk_rep, Nat.zero_add]
      exact blk_flg t b (n - b) true (by simpa using h.2.1) (by omega)
    rw [e]
    obtain ⟨h1, h2, h3⟩ := rsd_spec t b (n - b)
    exact ⟨by simpa using h1, by simp; omega, h3⟩
theorem flg_pr : ∀ (B : List Nat) (p : Bool) (n : Nat), B.sum ≤ n → ∀ i, i < n → (flg p B n)[i]? = some (pr p B i)
  | [], p, n, _, i, hi => by simp [flg, pr, hi]
  | b :: t, p, n, h, i, hi => by
    rw [List.sum_cons] at h
    unfold flg pr
    rw [Nat.min_eq_left (by omega)]
    by_cases hb : i < b
    · rw [if_pos hb, List.getElem?_append_left (by simpa using hb)]; simp [hb]
    · rw [if_neg hb, List.getElem?_append_right (by simp; omega), List.length_replicate]
      exact flg_pr t (!p) (n - b) (by omega) (i - b) (by omega)
/-- Whether an element is copied. -/
theorem cp_mem : ∀ (B : List Nat) (p : Bool) (F : List Nat) (i : Nat), F.Nodup → (h : i < F.length) → (F[i] ∈ cp p B F ↔ pr p B i = true)
  | [], p, F, i, hn, h => by unfold cp pr; cases p <;> simp
  | b :: t, p, F, i, hn, h => by
    unfold cp pr
    have hd : (F.take b ++ F.drop b).Nodup := by rw [List.take_append_drop]; exact hn
    obtain ⟨_, d2, d3⟩ := List.nodup_append.1 hd
    by_cases hb : i < b
    · rw [if_pos hb]
      have hm : F[i] ∈ F.take b := by rw [List.mem_take_iff_getElem]; exact ⟨i, by omega, rfl⟩
      have hnm : F[i] ∉ cp (!p) t (F.drop b) := fun hx => d3 _ hm _ ((cp_len t (!p) (F.drop b)).subset hx) rfl
      cases p
      · simp only [Bool.not_false] at hnm; simp [hnm]
      · simp [hm]
    · rw [if_neg hb]
      have hi : i - b < (F.drop b).length := by rw [List.length_drop]; omega
      have ih := cp_mem t (!p) (F.drop b) (i - b) d2 hi
      rw [List.getElem_drop] at ih
      have e : F[b + (i - b)]'(by omega) = F[i] := by congr 1; omega
      rw [e] at ih
      have hx : F[i] ∈ F.drop b := by rw [← e]; exact List.mem_drop_iff_getElem.2 ⟨i - b, by omega, rfl⟩
      have hnm : F[i] ∉ F.take b := fun hx2 => d3 _ hx2 _ hx rfl
      rw [List.mem_append, ← ih]
      cases p <;> simp [hnm]
theorem flags_cp (B F : List Nat) (h : BOk B F.length) (hn : F.Nodup) : F.map (inL (cp true B F)) = flg true B F.length := by
  refine List.ext_getElem? fun i => ?_
  by_cases hi : i < F.length
  · rw [List.getElem?_map, List.getElem?_eq_getElem hi, flg_pr B true F.length h.2.2 i hi]
    have := cp_mem B true F i hn hi
    simp only [Option.map_some, Option.some.injEq]
    cases hp : pr true B i
    · rw [hp] at this; simp [inL]; exact fun hh => by simpa using this.1 hh
    · rw [hp] at this; simp [inL]; exact this.2 rfl
  · rw [List.getElem?_eq_none (by simpa using hi), List.getElem?_eq_none (by rw [flg_length B true _ h.2.2]; omega)]
/-- PartsFew. -/
theorem bks_again (B F : List Nat) (h : BOk B F.length) (hn : Rising F) : (bks F (cp true B F)).length ≤ B.length ∧ B.length ≤ (bks F (cp true B F)).length + 1 ∧ bks F (cp true B F) = B.take (bks F (cp true B F)).length := by
  unfold bks
  rw [flags_cp B F h (ris_nodup F hn)]
  exact blk_again B F.length h
theorem cp_rising (B F : List Nat) (h : Rising F) : Rising (cp true B F) := rising_sub (cp_len B true F) h
theorem notin_cp (B F : List Nat) : notin F (cp true B F) = [] := by
  unfold notin
  rw [List.filter_eq_nil_iff]
  intro x hx
  simp [inL]
  exact (cp_len B true F).subset hx
theorem bks_self (l : List Nat) : bks l l = [] := by
  have : l.map (inL l) = List.replicate l.length true := by
    refine List.eq_replicate_iff.2 ⟨by simp, fun b hb => ?_⟩
    obtain ⟨x, hx, rfl⟩ := List.mem_map.1 hb
    simp [inL, hx]
  unfold bks
  rw [this]
  have h := blk_rep true l.length [] 0
  simpa [blk] using h
theorem notin_self (l : List Nat) : notin l l = [] := by unfold notin; rw [List.filter_eq_nil_iff]; intro x hx; simp [inL, hx]
theorem bks_nil (l : List Nat) : bks [] l = [] := rfl
theorem notin_nil (l : List Nat) : notin [] l = l := by unfold notin; rw [List.filter_eq_self]; intro x hx; simp [inL]
/-- One step of the blocks. -/
theorem blk_cons (f : Bool) (t : List Bool) (k : Nat) (p : Bool) : blk (f :: t) k p = if f = p then blk t (k + 1) p else k :: blk t 1 (!p) := rfl
end

section
set_option maxRecDepth 100000

/-- The smallest s for which 2 to the s is at least m. -/
def sz (m : Nat) : Nat := if m ≤ 1 then 0 else Nat.log2 (m - 1) + 1
theorem sz_ge (m : Nat) : m ≤ 2 ^ sz m := by
  unfold sz
  split
  · have := Nat.two_pow_pos 0; omega
  · have : m - 1 < 2 ^ (Nat.log2 (m - 1) + 1) := Nat.lt_log2_self
    omega
theorem sz_lt (m : Nat) (h : 1 < m) : 1 ≤ sz m ∧ 2 ^ (sz m - 1) < m := by
  unfold sz
  rw [if_neg (by omega)]
  have := Nat.log2_self_le (n := m - 1) (by omega)
  rw [Nat.add_sub_cancel]
  omega
theorem sz_one : sz 1 = 0 := rfl
theorem sz_of (m s : Nat) (h1 : m ≤ 2 ^ s) (h2 : s = 0 ∨ 2 ^ (s - 1) < m) (hm : 1 ≤ m) : sz m = s := by
  by_cases h : m = 1
  · subst h
    rcases h2 with rfl | h2
    · rfl
    · have := Nat.two_pow_pos (s - 1); omega
  · obtain ⟨k1, k2⟩ := sz_lt m (by omega)
    have k3 := sz_ge m
    have a := pow_inj_le (Nat.lt_of_lt_of_le k2 h1)
    rcases h2 with rfl | h2
    · rw [Nat.pow_zero] at h1; omega
    · have b := pow_inj_le (Nat.lt_of_lt_of_le h2 k3)
      by_cases h0 : s = 0
      · subst h0; rw [Nat.pow_zero] at h1; omega
      · omega
theorem sz_le (m k : Nat) (h : m ≤ 2 ^ k) : sz m ≤ k := by
  by_cases h1 : 1 < m
  · have a := pow_inj_le (Nat.lt_of_lt_of_le (sz_lt m h1).2 h)
    omega
  · unfold sz; rw [if_pos (by omega)]; omega
theorem sz_pow (k : Nat) : sz (2 ^ k) = k := by
  refine sz_of _ _ (Nat.le_refl _) ?_ (Nat.two_pow_pos k)
  rcases k with _ | k
  · exact .inl rfl
  · exact .inr (Nat.pow_lt_pow_right (by omega) (by omega))
/-- How many numbers want a bit less. -/
def sh (m : Nat) : Nat := 2 ^ sz m - m
theorem sh_add (m : Nat) : sh m + m = 2 ^ sz m := by have := sz_ge m; unfold sh; omega
theorem sh_lt (m : Nat) (h : 1 ≤ m) : sz m = 0 ∧ sh m = 0 ∧ m = 1 ∨ 1 ≤ sz m ∧ sh m < 2 ^ (sz m - 1) ∧ 2 ^ sz m = 2 * 2 ^ (sz m - 1) ∧ sh m < m := by
  by_cases h1 : m = 1
  · subst h1; left; exact ⟨rfl, rfl, rfl⟩
  · right
    obtain ⟨k1, k2⟩ := sz_lt m (by omega)
    have e : 2 ^ sz m = 2 * 2 ^ (sz m - 1) := by
      rw [show sz m = sz m - 1 + 1 by omega, Nat.pow_succ]; simp; omega
    have := sh_add m
    exact ⟨k1, by omega, e, by omega⟩

def lst (n m : Nat) : List Bool := if n < sh m then nb n (sz m - 1) else nb (n + sh m) (sz m)
def lstR (l : List Bool) (s m : Nat) : Nat × Nat × Int :=
  if 1 ≤ sz m ∧ s + (sz m - 1) ≤ l.length ∧ num ((l.drop s).take (sz m - 1)) < sh m then (num ((l.drop s).take (sz m - 1)), s + (sz m - 1), 0)
  else if s + sz m ≤ l.length then (num ((l.drop s).take (sz m)) - sh m, s + sz m, 0) else (0, 0, 7)
theorem lst_length_le (n m : Nat) : (lst n m).length ≤ sz m := by
  unfold lst; split <;> rw [nb_length] <;> omega
theorem take_nb (p t : List Bool) (n k : Nat) : ((p ++ (nb n k ++ t)).drop p.length).take k = nb n k := by
  rw [List.drop_left]
  have := List.take_left (l₁ := nb n k) (l₂ := t)
  rwa [nb_length] at this
theorem num_take_le (l : List Bool) (j k : Nat) (h : j + k ≤ l.length) : num (l.take (j + k)) = num (l.take j) * 2 ^ k + num ((l.drop j).take k) := by
  rw [List.take_add, num_append, List.length_take, List.length_drop, Nat.min_eq_left (by omega)]
theorem lstR_lst (p t : List Bool) (n m : Nat) (h : n < m) : lstR (p ++ (lst n m ++ t)) p.length m = (n, p.length + (lst n m).length, 0) := by
  have hs := sh_add m
  unfold lstR lst
  by_cases hn : n < sh m
  · simp only [if_pos hn]
    rcases sh_lt m (by omega) with ⟨a, b, c⟩ | ⟨a, b, c, d⟩
    · omega
    · have e : num (((p ++ (nb n (sz m - 1) ++ t)).drop p.length).take (sz m - 1)) = n := by
        rw [take_nb, num_nb_small _ _ (Nat.div_eq_of_lt (by omega))]
      rw [e, nb_length, if_pos ⟨a, by rw [List.length_append, List.length_append, nb_length]; omega, hn⟩]
  · simp only [if_neg hn]
    have e : num (((p ++ (nb (n + sh m) (sz m) ++ t)).drop p.length).take (sz m)) = n + sh m := by
      rw [take_nb, num_nb_small _ _ (Nat.div_eq_of_lt (by omega))]
    rw [e, nb_length, if_neg ?_, if_pos (by rw [List.length_append, List.length_append, nb_length]; omega), Nat.add_sub_cancel]
    rintro ⟨h1, h2, h3⟩
    have f := num_take_le ((p ++ (nb (n + sh m) (sz m) ++ t)).drop p.length) (sz m - 1) 1 (by rw [List.drop_left, List.length_append, nb_length]; omega)
    rw [show sz m - 1 + 1 = sz m by omega, e] at f
    have g := num_lt ((((p ++ (nb (n + sh m) (sz m) ++ t)).drop p.length).drop (sz m - 1)).take 1)
    have g1 : ((((p ++ (nb (n + sh m) (sz m) ++ t)).drop p.length).drop (sz m - 1)).take 1).length ≤ 1 := by rw [List.length_take]; omega
    have g2 := Nat.pow_le_pow_right (n := 2) (by omega) g1
    omega
theorem lstR_bound (l : List Bool) (s m : Nat) (hm : 1 ≤ m) (hs : s ≤ l.length) : (lstR l s m).2.1 ≤ l.length ∧ (lstR l s m).1 < m ∧ ((lstR l s m).2.2 = 0 ∨ (lstR l s m).2.2 = 7) := by
  have hz := sh_add m
  unfold lstR
  split
  · rename_i h
    rcases sh_lt m hm with ⟨a, b, c⟩ | ⟨a, b, c, d⟩
    · omega
    · exact ⟨by simp only; omega, by simp only; omega, .inl rfl⟩
  · split
    · have g := num_lt ((l.drop s).take (sz m))
      rw [List.length_take, List.length_drop, Nat.min_eq_left (by omega)] at g
      exact ⟨by simp only; omega, by simp only; omega, .inl rfl⟩
    · exact ⟨Nat.zero_le _, hm, .inr rfl⟩

def gol (n m : Nat) : List Bool := uc (n / m) ++ lst (n % m) m
/-- The first and how many of the numbers from 2 to the h k on. -/
def zq (h k : Nat) : Nat := 2 ^ (h * k + k) - 2 ^ (h * k)
def zet (n k : Nat) : List Bool := uc (lg n / k) ++ lst (n + 1 - 2 ^ (lg n / k * k)) (zq (lg n / k) k)
/-- A remainder is read behind a quotient: f is what they make. -/
def remR (l : List Bool) (r : Nat × Nat × Int) (m : Nat) (f : Nat → Nat) : Nat × Nat × Int :=
  let q := lstR l r.2.1 m
  if q.2.2 ≠ 0 then (0, 0, q.2.2) else if 1099511627776 < f q.1 then (0, 0, 3) else (f q.1, q.2.1, 0)
def golR (l : List Bool) (s m : Nat) : Nat × Nat × Int :=
  if (uR l s).2.2 ≠ 0 then (0, 0, (uR l s).2.2) else if 8128 ≤ (uR l s).1 then (0, 0, 3) else remR l (uR l s) m fun r => (uR l s).1 * m + r
def zetR (l : List Bool) (s k : Nat) : Nat × Nat × Int :=
  if (uR l s).2.2 ≠ 0 then (0, 0, (uR l s).2.2) else if 40 < (uR l s).1 * k then (0, 0, 3) else remR l (uR l s) (zq (uR l s).1 k) fun r => 2 ^ ((uR l s).1 * k) + r - 1

theorem golR_gol (p t : List Bool) (n m : Nat) (hm : 1 ≤ m) (hn : n ≤ 1099511627776) (hq : n / m < 8128) : golR (p ++ (gol n m ++ t)) p.length m = (n, p.length + (gol n m).length, 0) := by
  unfold golR gol remR
  rw [List.append_assoc, uR_uc, if_neg (by simp), if_neg (by simp only; omega)]
  have e := lstR_lst (p ++ uc (n / m)) t (n % m) m (Nat.mod_lt _ (by omega))
  rw [List.length_append, uc_length, List.append_assoc, ← Nat.add_assoc] at e
  simp only [e]
  have d : n / m * m + n % m = n := by rw [Nat.mul_comm]; exact Nat.div_add_mod n m
  rw [if_neg (by simp), d, if_neg (by omega), List.length_append, uc_length]
  congr 2
  omega
theorem zq_pos (h k : Nat) (hk : 1 ≤ k) : 1 ≤ zq h k := by
  unfold zq
  have := Nat.pow_lt_pow_right (a := 2) (by omega) (show h * k < h * k + k by omega)
  omega
theorem zet_in (n k : Nat) (hk : 1 ≤ k) : 2 ^ (lg n / k * k) ≤ n + 1 ∧ n + 1 - 2 ^ (lg n / k * k) < zq (lg n / k) k := by
  have h1 := lg_le n
  have h2 := lg_lt n
  have a : lg n / k * k ≤ lg n := Nat.div_mul_le_self _ _
  have b : lg n + 1 ≤ lg n / k * k + k := by
    have e := Nat.div_add_mod (lg n) k
    have := Nat.mod_lt (lg n) (show k > 0 by omega)
    rw [Nat.mul_comm] at e
    omega
  have c := Nat.pow_le_pow_right (n := 2) (by omega) a
  have d := Nat.pow_le_pow_right (n := 2) (by omega) b
  unfold zq
  omega
theorem zet_40 (n k : Nat) (hn : n ≤ 1099511627776) : lg n / k * k ≤ 40 := by
  have := lg_lt_of n 41 (by omega)
  have : lg n / k * k ≤ lg n := Nat.div_mul_le_self _ _
  omega
theorem zetR_zet (p t : List Bool) (n k : Nat) (hk : 1 ≤ k) (hn : n ≤ 1099511627776) : zetR (p ++ (zet n k ++ t)) p.length k = (n, p.length + (zet n k).length, 0) := by
  obtain ⟨h1, h2⟩ := zet_in n k hk
  have h3 := zet_40 n k hn
  unfold zetR zet remR
  rw [List.append_assoc, uR_uc, if_neg (by simp), if_neg (by simp only; omega)]
  have e := lstR_lst (p ++ uc (lg n / k)) t _ _ h2
  rw [List.length_append, uc_length, List.append_assoc, ← Nat.add_assoc] at e
  simp only [e]
  rw [if_neg (by simp), if_neg (by omega), List.length_append, uc_length]
  congr 1
  · omega
  · congr 1
    omega
theorem zq_le (h k : Nat) (h1 : h * k ≤ 40) (h2 : k ≤ 16) : zq h k ≤ 72057594037927936 := by
  unfold zq
  have := Nat.pow_le_pow_right (n := 2) (by omega) (show h * k + k ≤ 56 by omega)
  exact Nat.le_trans (Nat.sub_le _ _) this
/-- Zeta of 1 is gamma. -/
theorem zet_one (n : Nat) : zet n 1 = gam n := by
  unfold zet gam
  have h1 := lg_le n
  have h2 := lg_lt n
  have e : zq (lg n) 1 = 2 ^ lg n := by unfold zq; rw [Nat.mul_one, Nat.pow_succ]; omega
  rw [Nat.div_one, e, Nat.mul_one]
  unfold lst sh
  rw [sz_pow, Nat.sub_self, if_neg (by omega), Nat.add_zero, nb_sub _ _ h1 h2]
end
end Go.Proofs.YticdnodlapafoaaGreat
