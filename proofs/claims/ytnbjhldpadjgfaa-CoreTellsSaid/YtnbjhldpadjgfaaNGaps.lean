/- What Gaps of gaps answers, for whatever list and place it is handed. -/
import Derived.Test.YtnbjhldpadjgfaaNFold
namespace Go.Proofs.Ytnbjhldpadjgfaa
set_option maxRecDepth 100000
set_option linter.unusedVariables false
open Go.RowKit Go.Shelf

/-- Numbers and an error come back. -/
def NumsP (w : World) (l : List Nat) (err : Int) (e : Ending) (w' : World) : Prop :=
  ∃ A c, e = .returned (.tuple #[.slice A l.length c, .int .i64 err]) ∧ l.length ≤ c ∧ (A = none → c = 0) ∧ RdV w' w'.heap.size A (nc l) ∧ Below w.heap.size w w'
def IntsP (w : World) (l : List Nat) (err : Int) (e : Ending) (w' : World) : Prop :=
  ∃ A c, e = .returned (.tuple #[.slice A l.length c, .int .i64 err]) ∧ l.length ≤ c ∧ (A = none → c = 0) ∧ RdV w' w'.heap.size A (zc (ns l)) ∧ Below w.heap.size w w'
/-- The error of Gaps. -/
def gE (xs : List Int) (a : Int) : Int := rgE (rchk xs) [okN a]
theorem gE_eq (xs : List Int) (a : Int) : gE xs a = if rchk xs ≠ 0 then rchk xs else if okN a = true then 0 else 3 := by
  unfold gE rgE
  by_cases h : rchk xs = 0
  · rw [h]
    cases okN a <;> simp
  · rw [if_neg (fun e => h e.1), if_pos h]
theorem okN_true {a : Int} (h : okN a = true) : ∃ n : Nat, a = (n : Int) ∧ n ≤ 1048576 := by
  unfold okN at h
  simp at h
  exact ⟨a.toNat, by omega, by omega⟩
theorem gE_zero (xs : List Int) (a : Int) (h : gE xs a = 0) : ∃ (l : List Nat) (n : Nat), xs = ns l ∧ Rising l ∧ a = (n : Int) ∧ n ≤ 1048576 := by
  rw [gE_eq] at h
  by_cases h1 : rchk xs = 0
  · rw [if_neg (by omega)] at h
    by_cases h2 : okN a = true
    · obtain ⟨l, e1, hl⟩ := rchk_zero xs h1
      obtain ⟨n, e2, hn⟩ := okN_true h2
      exact ⟨l, n, e1, hl, e2, hn⟩
    · rw [if_neg h2] at h; omega
  · rw [if_pos h1] at h; exact absurd h h1
theorem gE_ok (l : List Nat) (h : Rising l) (n : Nat) (hn : n ≤ 1048576) : gE (ns l) (n : Int) = 0 := by
  rw [gE_eq, rchk_ok l h, if_neg (by omega), if_pos (okN_nat n hn)]
/-- At each round's head: the gaps of the first i. -/
def GapRel (l : List Nat) (a : Nat) (w : World) (v p : Value) (wr : World) : Prop :=
  ∃ i : Nat, i ≤ l.length ∧ p = .int .i64 (i : Int) ∧ wr.ownsRow w.heap.size 53 1 v i (nc ((gps (a : Int) l).take i)) ∧ Below w.heap.size w wr
end Go.Proofs.Ytnbjhldpadjgfaa
