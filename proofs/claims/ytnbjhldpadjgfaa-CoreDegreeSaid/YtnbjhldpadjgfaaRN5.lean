/- The errors of runs, one by one, and what checkRuns answers. -/
import Derived.Test.YtnbjhldpadjgfaaSortI
import Derived.Test.YtnbjhldpadjgfaaRN3
import Derived.Deep.RegionHeld3
namespace Go.Proofs.Ytnbjhldpadjgfaa
section
set_option maxRecDepth 100000
set_option linter.unusedVariables false
open Go.RowKit Go.Shelf

/-- Cells of runs. -/
abbrev Ri := Int × Int
def rcs (r : List Ri) : List Value := r.flatMap fun p => [.int .i64 p.1, .int .i64 p.2]
theorem rcs_nil : rcs [] = [] := rfl
theorem rcs_cons (p : Ri) (r : List Ri) : rcs (p :: r) = .int .i64 p.1 :: .int .i64 p.2 :: rcs r := rfl
theorem rcs_append (a b : List Ri) : rcs (a ++ b) = rcs a ++ rcs b := by simp [rcs]
theorem rcs_length : ∀ r : List Ri, (rcs r).length = r.length * 2
  | [] => rfl
  | p :: r => by rw [rcs_cons]; simp [rcs_length r]; omega
theorem rcs_at : ∀ (r : List Ri) (i : Nat), i < r.length → (rcs r)[i * 2]? = some (.int .i64 (r[i]?.getD (0, 0)).1) ∧ (rcs r)[i * 2 + 1]? = some (.int .i64 (r[i]?.getD (0, 0)).2)
  | [], i, h => by simp at h
  | p :: r, 0, h => by rw [rcs_cons]; simp
  | p :: r, i + 1, h => by
    have := rcs_at r i (by simpa using h)
    rw [rcs_cons, show (i + 1) * 2 = i * 2 + 1 + 1 by omega]
    simpa using this
theorem rcs_one (r : List Ri) : ∀ u ∈ rcs r, u.oneCell' = true := by
  intro u hu
  simp only [rcs, List.mem_flatMap] at hu
  obtain ⟨x, _, hx⟩ := hu
  simp at hx
  rcases hx with rfl | rfl <;> rfl
theorem drop_atP (xs : List Ri) (i : Nat) (h : i < xs.length) : xs.drop i = xs[i]?.getD (0, 0) :: xs.drop (i + 1) := by
  rw [List.drop_eq_getElem_cons h, List.getElem?_eq_getElem h]; rfl

/-- The first error, each run asked with a number that the one before it left. -/
def eachP (f : Int → Ri → Int) (nx : Ri → Int) : Int → List Ri → Int
  | _, [] => 0
  | v, x :: t => if f v x = 0 then eachP f nx (nx x) t else f v x
theorem eachP_cons (f : Int → Ri → Int) (nx : Ri → Int) (v : Int) (x : Ri) (t : List Ri) : eachP f nx v (x :: t) = if f v x = 0 then eachP f nx (nx x) t else f v x := rfl
def EbxP (f : Int → Ri → Int) (nx : Ri → Int) (B : Nat) (v0 : Int) (xs : List Ri) (w : World) (p : Value) (wr : World) : Prop :=
  ∃ (i : Nat) (v : Int), i ≤ xs.length ∧ p = .int .i64 (i : Int) ∧ eachP f nx v0 xs = eachP f nx v (xs.drop i) ∧ wr.heap[B]? = some (.cells #[.int .i64 v] 3 (0, 0)) ∧ Below B w wr
end

section
set_option maxRecDepth 100000
set_option linter.unusedVariables false
open Go.RowKit Go.Shelf

theorem range4 (e : Int) (a b c d : Bool) (r : Int) (hr : rgE e [a, b, c, d] = r) (w : World) (B : Nat) (hB : w.heap.size = B) :
    Calls Try.prog 41 #[.int .i64 e, .slice (some ⟨B, 0, none⟩) 4 4] (w.alloc (.cells #[.bool a, .bool b, .bool c, .bool d] 4)) fun x w' => x = .returned (.int .i64 r) ∧ Below w.heap.size w w' :=
  hB ▸ range_on e [a, b, c, d] 4 rfl (by decide) r hr w
/-- What is asked of one run. -/
def rk1 (v : Int) (p : Ri) : Int := if p.1 < 0 ∨ 1048576 < p.1 ∨ p.2 < 1 ∨ 300 < p.2 ∨ 1048576 < p.1 + p.2 - 1 then 3 else if p.1 ≤ v then 4 else 0
def rkn (p : Ri) : Int := IntKind.i64.wrap (p.1 + p.2)
theorem rk_each : ∀ (xs : List Ri) (v : Int), eachP rk1 rkn v xs = rk v xs
  | [], _ => rfl
  | p :: t, v => by
    rw [eachP_cons]
    unfold rk1 rk
    by_cases h1 : p.1 < 0 ∨ 1048576 < p.1 ∨ p.2 < 1 ∨ 300 < p.2 ∨ 1048576 < p.1 + p.2 - 1
    · rw [if_pos h1, if_pos h1, if_neg (by omega)]
    · rw [if_neg h1, if_neg h1]
      by_cases h2 : p.1 ≤ v
      · rw [if_pos h2, if_pos h2, if_neg (by omega)]
      · rw [if_neg h2, if_neg h2, if_pos rfl]
        have : rkn p = p.1 + p.2 := IntWalk.i64_in _ (by omega)
        rw [this]
        exact rk_each t _
/-- The error of a run's numbers, as they are asked. -/
theorem rk1_rg (v : Int) (p : Ri) : rgE 0 [okN p.1, decide (1 ≤ p.2), decide (p.2 ≤ 300), okN (IntKind.i64.wrap (rkn p - 1))] = if p.1 < 0 ∨ 1048576 < p.1 ∨ p.2 < 1 ∨ 300 < p.2 ∨ 1048576 < p.1 + p.2 - 1 then 3 else 0 := by
  have key : ∀ b : Bool, rgE 0 [okN p.1, decide (1 ≤ p.2), decide (p.2 ≤ 300), b] = if (p.1 < 0 ∨ 1048576 < p.1 ∨ p.2 < 1 ∨ 300 < p.2) ∨ b = false then 3 else 0 := by
    intro b
    unfold rgE okN
    have : ((0 : Int) = 0 ∧ [decide (0 ≤ p.1 ∧ p.1 ≤ 1048576), decide (1 ≤ p.2), decide (p.2 ≤ 300), b].contains false = true) ↔ ((p.1 < 0 ∨ 1048576 < p.1 ∨ p.2 < 1 ∨ 300 < p.2) ∨ b = false) := by
      cases b <;> simp <;> omega
    by_cases h : ((p.1 < 0 ∨ 1048576 < p.1 ∨ p.2 < 1 ∨ 300 < p.2) ∨ b = false)
    · rw [if_pos h, if_pos (this.2 h)]
    · rw [if_neg h, if_neg (fun q => h (this.1 q))]
  rw [key]
  by_cases h0 : p.1 < 0 ∨ 1048576 < p.1 ∨ p.2 < 1 ∨ 300 < p.2
  · rw [if_pos (.inl h0), if_pos (by omega)]
  · have e1 : rkn p = p.1 + p.2 := IntWalk.i64_in _ (by omega)
    have e2 : IntKind.i64.wrap (rkn p - 1) = p.1 + p.2 - 1 := by rw [e1]; exact IntWalk.i64_in _ (by omega)
    rw [e2]
    by_cases h1 : 1048576 < p.1 + p.2 - 1
    · have : okN (p.1 + p.2 - 1) = false := by unfold okN; simp; omega
      rw [if_pos (.inr this), if_pos (by omega)]
    · have : okN (p.1 + p.2 - 1) = true := by unfold okN; simp; omega
      rw [this]
      have n1 : ¬ ((p.1 < 0 ∨ 1048576 < p.1 ∨ p.2 < 1 ∨ 300 < p.2) ∨ true = false) := by simp; omega
      have n2 : ¬ (p.1 < 0 ∨ 1048576 < p.1 ∨ p.2 < 1 ∨ 300 < p.2 ∨ 1048576 < p.1 + p.2 - 1) := by omega
      simp only [if_neg n1, if_neg n2]
end
end Go.Proofs.Ytnbjhldpadjgfaa
