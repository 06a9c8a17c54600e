/- The high parts, written one by one: plain facts; no condition but those that each fact names. -/
import Derived.Test.YtkbelhclcpepaaaJYYPure
namespace Go.Proofs.Ytkbelhclcpepaaa
set_option linter.unusedVariables false

/-- The high parts so far: noughts up to each one, a 1. -/
def hiQ : Nat → List Nat → List Bool
  | _, [] => []
  | p, h :: t => List.replicate (h - p) false ++ true :: hiQ h t
/-- The last one, or what was ahead. -/
def lastD (p : Nat) (l : List Nat) : Nat := l.getLast?.getD p
theorem lastD_cons (p h : Nat) (t : List Nat) : lastD p (h :: t) = lastD h t := by
  unfold lastD
  cases t with
  | nil => rfl
  | cons x t => rw [List.getLast?_cons_cons]; cases hq : (x :: t).getLast? with
    | none => simp at hq
    | some y => rfl
theorem lastD_snoc (p h : Nat) (l : List Nat) : lastD p (l ++ [h]) = h := by simp [lastD]
theorem hiP_hiQ (H : Nat) : ∀ (l : List Nat) (p : Nat), hiP p l H = hiQ p l ++ List.replicate (H + 1 - lastD p l) false
  | [], p => by simp [hiP, hiQ, lastD]
  | h :: t, p => by rw [hiP, hiQ, hiP_hiQ H t h, lastD_cons]; simp
theorem hiQ_snoc : ∀ (l : List Nat) (p h : Nat), hiQ p (l ++ [h]) = (hiQ p l ++ List.replicate (h - lastD p l) false) ++ [true]
  | [], p, h => by simp [hiQ, lastD]
  | x :: t, p, h => by rw [List.cons_append, hiQ, hiQ, hiQ_snoc t x h, lastD_cons]; simp
theorem hiQ_len : ∀ (l : List Nat) (p : Nat), Up p l → (hiQ p l).length + p = l.length + lastD p l
  | [], p, _ => by simp [hiQ, lastD]
  | h :: t, p, hu => by
    have := hiQ_len t h hu.2
    rw [hiQ, lastD_cons]
    have := hu.1
    simp; omega
theorem up_take : ∀ (l : List Nat) (p i : Nat), Up p l → Up p (l.take i)
  | _, _, 0, _ => by rw [List.take_zero]; trivial
  | [], _, _ + 1, _ => trivial
  | h :: t, p, i + 1, hu => ⟨hu.1, up_take t h i hu.2⟩
theorem up_last : ∀ (l : List Nat) (p i : Nat), Up p l → (h : i < l.length) → lastD p (l.take i) ≤ l[i]
  | x :: t, p, 0, hu, _ => by simp [lastD]; exact hu.1
  | x :: t, p, i + 1, hu, h => by
    rw [List.take_succ_cons, lastD_cons]
    have := up_last t x i hu.2 (by simpa using h)
    simpa using this
theorem loP_snoc (w : Nat) (l : List Nat) (x : Nat) : loP w (l ++ [x]) = loP w l ++ nb (x % 2 ^ w) w := by simp [loP]
theorem ntake_snoc (l : List Nat) (i : Nat) (h : i < l.length) : l.take (i + 1) = l.take i ++ [l[i]?.getD 0] := by
  rw [List.take_succ_eq_append_getElem h, List.getElem?_eq_getElem h]; rfl
/-- All bits fit. -/
theorem lowmask (x k : Nat) : x &&& (2 ^ k - 1) = x % 2 ^ k := Nat.and_two_pow_sub_one_eq_mod x k
end Go.Proofs.Ytkbelhclcpepaaa
