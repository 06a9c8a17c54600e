/- Plain facts: which codes there are for lengths, and which sign stands at the beginning of bits. No condition but those that each fact names. -/
import Derived.Test.YthfjfkbolfnkkaaKP1
import Derived.Test.YthfjfkbolfnkkaaLists
namespace Go.Proofs.Ythfjfkbolfnkkaa
set_option linter.unusedVariables false

theorem fold_num' (l : List Bool) : ∀ a, l.foldl (fun n b => 2 * n + b.toNat) a = a * 2 ^ l.length + num l := by
  induction l with
  | nil => intro a; simp [num]
  | cons b l ih =>
    intro a
    rw [List.foldl_cons, ih]
    have : num (b :: l) = b.toNat * 2 ^ l.length + num l := by unfold num; rw [List.foldl_cons, ih]; simp [num]
    rw [this, List.length_cons, Nat.pow_succ, Nat.add_mul, Nat.mul_comm 2 a, Nat.mul_assoc, Nat.mul_comm 2 (2 ^ l.length), Nat.add_assoc]
theorem num_app (a b : List Bool) : num (a ++ b) = num a * 2 ^ b.length + num b := by
  unfold num; rw [List.foldl_append, fold_num']; rfl
theorem num_inj {a b : List Bool} (hl : a.length = b.length) (h : num a = num b) : a = b := by
  induction a generalizing b with
  | nil => exact (List.eq_nil_of_length_eq_zero hl.symm).symm
  | cons x a ih =>
    cases b with
    | nil => simp at hl
    | cons y b =>
      have e1 : num (x :: a) = x.toNat * 2 ^ a.length + num a := by have := num_app [x] a; simpa [num] using this
      have e2 : num (y :: b) = y.toNat * 2 ^ b.length + num b := by have := num_app [y] b; simpa [num] using this
      have hl' : a.length = b.length := by simpa using hl
      have l1 := num_lt a
      have l2 := num_lt b
      rw [e1, e2, hl'] at h
      rw [hl'] at l1
      have : x = y := by
        cases x <;> cases y <;> simp at h ⊢ <;> omega
      subst this
      rw [ih hl' (by omega)]
theorem nb_nm (l : List Bool) : nb (num l) l.length = l := num_inj (nb_length _ _) (by rw [num_nb, Nat.mod_eq_of_lt (num_lt l)])
/-- What begins with bits, said by numbers. -/
theorem num_take (l : List Bool) (k : Nat) (h : k ≤ l.length) : num (l.take k) = num l / 2 ^ (l.length - k) := by
  have e := num_app (l.take k) (l.drop k)
  rw [List.take_append_drop, List.length_drop] at e
  have l1 := num_lt (l.drop k)
  rw [List.length_drop] at l1
  rw [e, Nat.mul_comm, Nat.mul_add_div (Nat.two_pow_pos _), Nat.div_eq_of_lt l1, Nat.add_zero]
theorem prefix_num (a b : List Bool) : a <+: b ↔ a.length ≤ b.length ∧ num a = num b / 2 ^ (b.length - a.length) := by
  constructor
  · intro h
    have hl := h.length_le
    refine ⟨hl, ?_⟩
    rw [← num_take b _ hl, ← List.prefix_iff_eq_take.1 h]
  · rintro ⟨hl, h⟩
    rw [List.prefix_iff_eq_take]
    exact num_inj (by simp; omega) (by rw [num_take _ _ hl]; exact h)

/-! ### Codes by lengths -/
def tk (w : Nat) : Nat := if w = 0 then 0 else 2 ^ (24 - w)
def tkn : List Nat → Nat
  | [] => 0
  | w :: l => tk w + tkn l
theorem tkn_append : ∀ a b, tkn (a ++ b) = tkn a + tkn b
  | [], b => by simp [tkn]
  | x :: a, b => by simp [tkn, tkn_append a b]; omega
theorem tkn_reverse : ∀ a, tkn a.reverse = tkn a
  | [] => rfl
  | x :: a => by simp [tkn, tkn_append, tkn_reverse a]; omega
theorem tk_le (w : Nat) : tk w ≤ 2 ^ 23 := by
  unfold tk; split
  · exact Nat.zero_le _
  · exact Nat.pow_le_pow_right (by omega) (by omega)

/-- A sign and its length; and the number that its code is. -/
abbrev Wd := Nat × Nat
def uws : Nat → List Nat → List Wd
  | _, [] => []
  | i, w :: l => if w = 0 then uws (i + 1) l else (i, w) :: uws (i + 1) l
def wle (a b : Wd) : Prop := a.2 < b.2 ∨ (a.2 = b.2 ∧ a.1 ≤ b.1)
instance (a b : Wd) : Decidable (wle a b) := by unfold wle; exact inferInstance
def wins (x : Wd) : List Wd → List Wd
  | [] => [x]
  | y :: t => if wle x y then x :: y :: t else y :: wins x t
def wsort : List Wd → List Wd
  | [] => []
  | x :: t => wins x (wsort t)
theorem wins_perm (x : Wd) : ∀ t, (wins x t).Perm (x :: t)
  | [] => .refl _
  | y :: t => by
    unfold wins
    split
    · exact .refl _
    · exact ((wins_perm x t).cons y).trans (.swap x y t)
theorem wsort_perm : ∀ l, (wsort l).Perm l
  | [] => .refl _
  | x :: t => (wins_perm x _).trans ((wsort_perm t).cons x)
theorem wle_trans {a b c : Wd} (h : wle a b) (k : wle b c) : wle a c := by unfold wle at *; omega
theorem wins_sorted (x : Wd) : ∀ t, t.Pairwise wle → (wins x t).Pairwise wle
  | [], _ => by simp [wins]
  | y :: t, h => by
    have h1 := List.pairwise_cons.1 h
    unfold wins
    by_cases hx : wle x y
    · rw [if_pos hx]
      refine List.pairwise_cons.2 ⟨fun z hz => ?_, h⟩
      rcases List.mem_cons.1 hz with rfl | hz
      · exact hx
      · exact wle_trans hx (h1.1 z hz)
    · rw [if_neg hx]
      refine List.pairwise_cons.2 ⟨fun z hz => ?_, wins_sorted x t h1.2⟩
      rcases List.mem_cons.1 ((wins_perm x t).subset hz) with rfl | hz
      · unfold wle at *; omega
      · exact h1.1 z hz
theorem wsort_sorted : ∀ l, (wsort l).Pairwise wle
  | [] => .nil
  | x :: t => wins_sorted x _ (wsort_sorted t)
theorem wle_anti {a b : Wd} (h : wle a b) (k : wle b a) : a = b := by
  unfold wle at *
  have h1 : a.1 = b.1 := by omega
  have h2 : a.2 = b.2 := by omega
  exact Prod.ext h1 h2
theorem wsort_uniq {a l : List Wd} (h : a.Perm l) (hs : a.Pairwise wle) : a = wsort l :=
  uniq wle _ _ (h.trans (wsort_perm l).symm) hs (wsort_sorted l) (fun _ _ _ _ h k => wle_anti h k)
theorem uws_mem : ∀ (l : List Nat) (i : Nat) (p : Wd), p ∈ uws i l ↔ ∃ j, p.1 = i + j ∧ l[j]? = some p.2 ∧ p.2 ≠ 0
  | [], i, p => by simp [uws]
  | w :: l, i, p => by
    have ih := uws_mem l (i + 1) p
    unfold uws
    constructor
    · intro h
      by_cases hw : w = 0
      · rw [if_pos hw] at h
        obtain ⟨j, h1, h2, h3⟩ := ih.1 h
        exact ⟨j + 1, by omega, by simpa using h2, h3⟩
      · rw [if_neg hw] at h
        rcases List.mem_cons.1 h with rfl | h
        · exact ⟨0, by simp, by simp, hw⟩
        · obtain ⟨j, h1, h2, h3⟩ := ih.1 h
          exact ⟨j + 1, by omega, by simpa using h2, h3⟩
    · rintro ⟨j, h1, h2, h3⟩
      cases j with
      | zero =>
        simp at h2
        subst h2
        rw [if_neg h3]
        exact List.mem_cons.2 (.inl (Prod.ext (by simpa using h1) rfl))
      | succ j =>
        have := ih.2 ⟨j, by omega, by simpa using h2, h3⟩
        split
        · exact this
        · exact List.mem_cons_of_mem _ this
theorem uws_sorted : ∀ (l : List Nat) (i : Nat), (uws i l).Pairwise (fun a b => a.1 < b.1)
  | [], i => .nil
  | w :: l, i => by
    unfold uws
    split
    · exact uws_sorted l (i + 1)
    · refine List.pairwise_cons.2 ⟨fun p hp => ?_, uws_sorted l (i + 1)⟩
      obtain ⟨j, h1, _, _⟩ := (uws_mem l (i + 1) p).1 hp
      simp; omega
/-- The room that words take. -/
def tot : List Wd → Nat
  | [] => 0
  | p :: t => 2 ^ (24 - p.2) + tot t
theorem tot_perm {a b : List Wd} (h : a.Perm b) : tot a = tot b := by
  induction h with
  | nil => rfl
  | cons x _ ih => simp [tot, ih]
  | swap x y l => simp [tot]; omega
  | trans _ _ i1 i2 => exact i1.trans i2
theorem tot_uws : ∀ (l : List Nat) (i : Nat), tot (uws i l) = tkn l
  | [], i => rfl
  | w :: l, i => by
    unfold uws tkn tk
    split
    · rw [tot_uws l (i + 1)]; omega
    · simp only [tot]; rw [tot_uws l (i + 1)]

/-- Words with their numbers, from a place on. -/
def wn : Nat → List Wd → List (Nat × Nat × Nat)
  | _, [] => []
  | a, p :: t => (p.1, p.2, a / 2 ^ (24 - p.2)) :: wn (a + 2 ^ (24 - p.2)) t
theorem wn_fst : ∀ (t : List Wd) (a : Nat), (wn a t).map (fun x => (x.1, x.2.1)) = t
  | [], a => rfl
  | p :: t, a => by simp [wn, wn_fst t]
theorem wn_length (t : List Wd) (a : Nat) : (wn a t).length = t.length := by
  have := congrArg List.length (wn_fst t a)
  simpa using this
def st (x : Nat × Nat × Nat) : Nat := x.2.2 * 2 ^ (24 - x.2.1)
def en (x : Nat × Nat × Nat) : Nat := (x.2.2 + 1) * 2 ^ (24 - x.2.1)
theorem en_st (x : Nat × Nat × Nat) : en x = st x + 2 ^ (24 - x.2.1) := by unfold en st; rw [Nat.add_mul, Nat.one_mul]
theorem pow_dvd {a b : Nat} (h : a ≤ b) : 2 ^ a ∣ 2 ^ b := Nat.pow_dvd_pow 2 h
theorem wn_all : ∀ (t : List Wd) (a : Nat), (∀ p ∈ t, 1 ≤ p.2 ∧ p.2 ≤ 24) → t.Pairwise (fun p q => p.2 ≤ q.2) → (∀ p ∈ t, 2 ^ (24 - p.2) ∣ a) →
    (∀ x ∈ wn a t, a ≤ st x ∧ en x ≤ a + tot t) ∧ (wn a t).Pairwise (fun x y => en x ≤ st y)
  | [], a, _, _, _ => by simp [wn]
  | p :: t, a, hb, hs, hd => by
    have h1 := List.pairwise_cons.1 hs
    have hp := hd p List.mem_cons_self
    have e0 : a / 2 ^ (24 - p.2) * 2 ^ (24 - p.2) = a := Nat.div_mul_cancel hp
    have s0 : st (p.1, p.2, a / 2 ^ (24 - p.2)) = a := e0
    have ih := wn_all t (a + 2 ^ (24 - p.2)) (fun q hq => hb q (List.mem_cons_of_mem _ hq)) h1.2 (fun q hq => Nat.dvd_add (hd q (List.mem_cons_of_mem _ hq)) (pow_dvd (by have := h1.1 q hq; omega)))
    have en0 : en (p.1, p.2, a / 2 ^ (24 - p.2)) = a + 2 ^ (24 - p.2) := by rw [en_st, s0]
    unfold wn tot
    refine ⟨fun x hx => ?_, List.pairwise_cons.2 ⟨fun y hy => ?_, ih.2⟩⟩
    · rcases List.mem_cons.1 hx with rfl | hx
      · rw [s0, en0]; omega
      · have := ih.1 x hx; omega
    · rw [en0]; exact (ih.1 y hy).1
/-- Each number is the one ahead, and one, at more bits. -/
theorem wn_step (p q : Wd) (t : List Wd) (a : Nat) (h1 : 2 ^ (24 - p.2) ∣ a) (hq : p.2 ≤ q.2) (h24 : q.2 ≤ 24) : (a + 2 ^ (24 - p.2)) / 2 ^ (24 - q.2) = (a / 2 ^ (24 - p.2) + 1) * 2 ^ (q.2 - p.2) := by
  have e : 24 - p.2 = (q.2 - p.2) + (24 - q.2) := by omega
  obtain ⟨k, rfl⟩ := h1
  rw [Nat.mul_div_cancel_left _ (Nat.two_pow_pos _)]
  have : 2 ^ (24 - p.2) * k + 2 ^ (24 - p.2) = (k + 1) * 2 ^ (q.2 - p.2) * 2 ^ (24 - q.2) := by
    rw [Nat.mul_assoc, ← Nat.pow_add, ← e, Nat.add_mul, Nat.one_mul, Nat.mul_comm k]
  rw [this, Nat.mul_div_cancel _ (Nat.two_pow_pos _)]
end Go.Proofs.Ythfjfkbolfnkkaa
