/- Plain facts: of as many signs as a power of two, all as often, each has as many bits as that says. No condition but those that each fact names. -/
import Derived.Test.YtndiocehkdbjkaaJH2
namespace Go.Proofs.Ytndiocehkdbjkaa
set_option linter.unusedVariables false

def lsum : List Nat → Nat
  | [] => 0
  | x :: t => x + lsum t
def offd (d : Nat) : List Nat → Nat
  | [] => 0
  | x :: t => (if x = d ∨ x + 1 = d then 0 else 1) + offd d t
theorem two_ge (k : Nat) : k + 1 ≤ 2 ^ k := by
  induction k with
  | zero => simp
  | succ k ih => rw [Nat.pow_succ]; omega
theorem two_gt (k : Nat) (h : 2 ≤ k) : k + 2 ≤ 2 ^ k := by
  obtain ⟨j, rfl⟩ : ∃ j, k = j + 2 := ⟨k - 2, by omega⟩
  induction j with
  | zero => decide
  | succ j ih => rw [show j + 1 + 2 = j + 2 + 1 by omega, Nat.pow_succ]; have := ih (by omega); omega
theorem one_off (D d x M : Nat) (hd : d ≤ D) (hx : x ≤ D) (hM : 2 ^ (D - d) = M) : (1 + d) * M + (if x = d ∨ x + 1 = d then 0 else 1) ≤ 2 ^ (D - x) + M * x := by
  have hM1 : 1 ≤ M := by rw [← hM]; exact Nat.two_pow_pos _
  rcases Nat.lt_or_ge d x with h | h
  · rw [if_neg (by omega)]
    have h1 : M * (d + 1) ≤ M * x := Nat.mul_le_mul_left M h
    have h2 := Nat.two_pow_pos (D - x)
    rw [Nat.mul_comm (1 + d) M, Nat.add_comm 1 d]
    omega
  · obtain ⟨k, rfl⟩ : ∃ k, d = x + k := ⟨d - x, by omega⟩
    have e : 2 ^ (D - x) = M * 2 ^ k := by rw [← hM, ← Nat.pow_add]; congr 1; omega
    rw [e]
    have e2 : (1 + (x + k)) * M = M * (k + 1) + M * x := by rw [← Nat.mul_add, Nat.mul_comm]; congr 1; omega
    rw [e2]
    rcases (show k = 0 ∨ k = 1 ∨ 2 ≤ k by omega) with rfl | rfl | h2
    · rw [if_pos (.inl rfl)]; simp
    · rw [if_pos (.inr rfl)]; simp
    · rw [if_neg (by omega)]
      have h1 : M * (k + 2) ≤ M * 2 ^ k := Nat.mul_le_mul_left M (two_gt k h2)
      have h3 : M * (k + 2) = M * (k + 1) + M := by rw [show k + 2 = (k + 1) + 1 by omega, Nat.mul_succ]
      omega
theorem all_off (D d M : Nat) (hd : d ≤ D) (hM : 2 ^ (D - d) = M) : ∀ ls : List Nat, (∀ x ∈ ls, x ≤ D) → ls.length * ((1 + d) * M) + offd d ls ≤ ksum D ls + M * lsum ls
  | [], _ => by simp [offd, ksum, lsum]
  | x :: t, h => by
    have ih := all_off D d M hd hM t (fun y hy => h y (List.mem_cons_of_mem _ hy))
    have h1 := one_off D d x M hd (h x List.mem_cons_self) hM
    simp only [List.length_cons, offd, ksum, lsum, Nat.mul_add, Nat.add_mul, Nat.one_mul] at *
    omega
theorem off_zero (d : Nat) (hd : 1 ≤ d) : ∀ ls : List Nat, offd d ls = 0 → ls.length * d ≤ lsum ls → ls = List.replicate ls.length d
  | [], _, _ => rfl
  | x :: t, h, hs => by
    have key : ∀ ls : List Nat, offd d ls = 0 → lsum ls ≤ ls.length * d := by
      intro ls
      induction ls with
      | nil => intro _; simp [lsum]
      | cons y s ih =>
        intro h
        unfold offd at h
        have := ih (by omega)
        have hy : y = d ∨ y + 1 = d := by
          apply Classical.byContradiction
          intro hc
          rw [if_neg hc] at h
          omega
        simp only [lsum, List.length_cons, Nat.add_mul, Nat.one_mul]
        omega
    unfold offd at h
    have hx : x = d ∨ x + 1 = d := by
      apply Classical.byContradiction
      intro hc
      rw [if_neg hc] at h
      omega
    have ht := key t (by omega)
    simp only [lsum, List.length_cons, Nat.add_mul, Nat.one_mul] at hs
    have e : x = d := by omega
    subst e
    rw [List.length_cons, List.replicate_succ, ← off_zero x hd t (by omega) (by omega)]
theorem dot_rep (o : Nat) : ∀ ls : List Nat, dot (List.replicate ls.length o) ls = o * lsum ls
  | [] => by simp [dot, lsum]
  | x :: t => by rw [List.length_cons, List.replicate_succ]; simp only [dot, lsum, dot_rep o t, Nat.mul_add]
theorem lsum_rep (d : Nat) : ∀ n, lsum (List.replicate n d) = n * d
  | 0 => by simp [lsum]
  | n + 1 => by rw [List.replicate_succ]; simp only [lsum, lsum_rep d n, Nat.add_mul, Nat.one_mul]; omega
theorem tkn_rep (d : Nat) (hd : d ≠ 0) : ∀ n, tkn (List.replicate n d) = n * 2 ^ (24 - d)
  | 0 => by simp [tkn]
  | n + 1 => by rw [List.replicate_succ]; simp only [tkn, tk, if_neg hd, tkn_rep d hd n, Nat.add_mul, Nat.one_mul]; omega
theorem usd_rep (o : Nat) (ho : o ≠ 0) : ∀ n i, usd i (List.replicate n o) = List.range' i n
  | 0, i => rfl
  | n + 1, i => by rw [List.replicate_succ]; unfold usd; rw [if_neg ho, usd_rep o ho n (i + 1), List.range'_succ]
theorem lsum_mem : ∀ (ls : List Nat) (x : Nat), x ∈ ls → x ≤ lsum ls
  | [], x, h => by simp at h
  | y :: t, x, h => by
    rcases List.mem_cons.1 h with rfl | h
    · simp [lsum]
    · have := lsum_mem t x h; simp [lsum]; omega
/-- All as often: all as long. -/
theorem hl_flat (d o : Nat) (h1 : 1 ≤ d) (h6 : d ≤ 6) (ho : o ≠ 0) : hl (List.replicate (2 ^ d) o) = List.replicate (2 ^ d) d := by
  have hN : 2 ≤ 2 ^ d := by have := Nat.pow_le_pow_right (n := 2) (by omega) h1; simpa using this
  generalize hos : List.replicate (2 ^ d) o = os
  have hol : os.length = 2 ^ d := by rw [← hos]; simp
  have hu : usd 0 os = List.range os.length := by rw [hol, ← hos, usd_rep o ho, List.range_eq_range']
  have hst : stand os = 2 ^ d := by rw [← usd_stand, hu, List.length_range, hol]
  have hll := hl_length os
  have hleast := least os (List.replicate (2 ^ d) d) (by simp [hol]) (by
    intro i a b _ hb _
    have := List.mem_of_getElem? hb
    have := List.eq_of_mem_replicate this
    omega) (by intro l hl; have := List.eq_of_mem_replicate hl; omega) (by
    rw [tkn_rep d (by omega), ← Nat.pow_add, show d + (24 - d) = 24 by omega]; exact Nat.le_refl _)
  have e1 : dot os (hl os) = o * lsum (hl os) := by
    have := dot_rep o (hl os)
    rwa [hll, hol, hos] at this
  have e2 : dot os (List.replicate (2 ^ d) d) = o * (2 ^ d * d) := by
    have := dot_rep o (List.replicate (2 ^ d) d)
    rw [List.length_replicate, hos, lsum_rep] at this
    exact this
  rw [e1, e2] at hleast
  have hS : lsum (hl os) ≤ 2 ^ d * d := Nat.le_of_mul_le_mul_left hleast (by omega)
  have hf := lens_full os (by omega) (d + lsum (hl os)) (fun s hs => by
    rw [hu] at hs
    have : lens os s ∈ hl os := List.mem_map.2 ⟨s, hs, rfl⟩
    have := lsum_mem _ _ this
    omega)
  rw [hu] at hf
  change ksum (d + lsum (hl os)) (hl os) = _ at hf
  have ha := all_off (d + lsum (hl os)) d (2 ^ (lsum (hl os))) (by omega) (by congr 1; omega) (hl os) (fun x hx => by have := lsum_mem _ _ hx; omega)
  rw [hf, hll, hol, Nat.pow_add] at ha
  generalize hM : 2 ^ lsum (hl os) = M at *
  have hM1 : 1 ≤ M := by rw [← hM]; exact Nat.two_pow_pos _
  generalize 2 ^ d = N at *
  have h3 : N * ((1 + d) * M) = N * M + M * (N * d) := by
    rw [Nat.add_mul, Nat.mul_add, Nat.one_mul, ← Nat.mul_assoc N d M, Nat.mul_comm (N * d) M]
  rw [h3] at ha
  have h4 : M * (N * d) + offd d (hl os) ≤ M * lsum (hl os) := by omega
  have h5 : M * lsum (hl os) ≤ M * (N * d) := Nat.mul_le_mul_left M hS
  have h6' : offd d (hl os) = 0 := by omega
  have h7 : N * d ≤ lsum (hl os) := Nat.le_of_mul_le_mul_left (by omega : M * (N * d) ≤ M * lsum (hl os)) hM1
  have := off_zero d h1 (hl os) h6' (by rw [hll, hol]; exact h7)
  rwa [hll, hol] at this
end Go.Proofs.Ytndiocehkdbjkaa
