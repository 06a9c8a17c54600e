/- What the calls of bits answer for sequences that are right, each with its conditions. -/
import Derived.Test.YtnbjhldpadjgfaaOpen
namespace Go.Proofs.Ytnbjhldpadjgfaa
open Go.RowKit

theorem nb_snoc (n k : Nat) : nb n (k + 1) = nb (n / 2) k ++ [n % 2 == 1] := by
  apply List.ext_getElem
  · simp [nb]
  · intro i h1 h2
    rw [nb_length] at h1
    rw [List.getElem_append]
    split
    · rename_i h3
      rw [nb_length] at h3
      simp only [nb, List.getElem_map, List.getElem_range]
      rw [Nat.div_div_eq_div_mul]
      have e : k + 1 - 1 - i = (k - 1 - i) + 1 := by omega
      rw [e, Nat.pow_succ, Nat.mul_comm]
    · rename_i h3
      rw [nb_length] at h3
      have e : i = k := by omega
      subst e
      simp [nb]
theorem num_nb : ∀ (k n : Nat), num (nb n k) = n % 2 ^ k := by
  intro k
  induction k with
  | zero => intro n; simp [nb, num, Nat.mod_one]
  | succ k ih =>
    intro n
    rw [nb_snoc, num_snoc, ih]
    have e : (n % 2 == 1).toNat = n % 2 := by
      rcases (show n % 2 = 0 ∨ n % 2 = 1 by omega) with h | h <;> rw [h] <;> rfl
    rw [e, Nat.pow_succ, Nat.mul_comm (2 ^ k) 2, Nat.mod_mul]
    omega
theorem num_nb_small (n k : Nat) (h : n / 2 ^ k = 0) : num (nb n k) = n := by
  rw [num_nb]
  apply Nat.mod_eq_of_lt
  rcases Nat.div_eq_zero_iff.1 h with h | h
  · have := Nat.two_pow_pos k; omega
  · exact h

/-- Where Put answers no error the bits are right, the width is one, and the number fits. -/
theorem putL_zero (len : Int) (bs : List Nat) (n : Nat) (width : Int) (hb : ∀ b ∈ bs, b < 256) (h : putL len bs n width = 0) :
    ∃ (l : List Bool) (k : Nat), len = (l.length : Int) ∧ bs = pack l ∧ width = (k : Int) ∧ k ≤ 64 ∧ n / 2 ^ k = 0 ∧ l.length + k ≤ 8192 := by
  unfold putL at h
  by_cases hc : chk len bs = 0
  · rw [if_neg (by omega)] at h
    obtain ⟨l, rfl, hl, rfl⟩ := chk_zero len bs hb hc
    by_cases hw : width < 0 ∨ 64 < width ∨ n / 2 ^ width.toNat ≠ 0
    · rw [if_pos hw] at h; omega
    · rw [if_neg hw] at h
      by_cases hf : 8192 < (l.length : Int) + width
      · rw [if_pos hf] at h; omega
      · obtain ⟨k, rfl⟩ := Int.eq_ofNat_of_zero_le (show 0 ≤ width by omega)
        rw [Int.toNat_natCast] at hw
        exact ⟨l, k, rfl, rfl, rfl, by omega, by omega, by omega⟩
  · rw [if_pos hc] at h; exact absurd h hc
theorem cutE_zero (len : Int) (bs : List Nat) (fr to : Int) (hb : ∀ b ∈ bs, b < 256) (h : cutE len bs fr to = 0) :
    ∃ (l : List Bool) (f t : Nat), len = (l.length : Int) ∧ bs = pack l ∧ fr = (f : Int) ∧ to = (t : Int) ∧ f ≤ t ∧ t ≤ l.length ∧ l.length ≤ 8192 := by
  unfold cutE at h
  by_cases hc : chk len bs = 0
  · rw [if_neg (by omega)] at h
    obtain ⟨l, rfl, hl, rfl⟩ := chk_zero len bs hb hc
    by_cases hw : fr < 0 ∨ to < fr ∨ (l.length : Int) < to
    · rw [if_pos hw] at h; omega
    · obtain ⟨f, rfl⟩ := Int.eq_ofNat_of_zero_le (show 0 ≤ fr by omega)
      obtain ⟨t, rfl⟩ := Int.eq_ofNat_of_zero_le (show 0 ≤ to by omega)
      exact ⟨l, f, t, rfl, rfl, rfl, rfl, by omega, by omega, hl⟩
  · rw [if_pos hc] at h; exact absurd h hc
theorem joinE_zero (lx ly : Int) (xs ys : List Nat) (hx : ∀ b ∈ xs, b < 256) (hy : ∀ b ∈ ys, b < 256) (h : joinE lx xs ly ys = 0) :
    ∃ (a b : List Bool), lx = (a.length : Int) ∧ xs = pack a ∧ ly = (b.length : Int) ∧ ys = pack b ∧ a.length + b.length ≤ 8192 := by
  unfold joinE at h
  by_cases hc : chk lx xs = 0
  · rw [if_neg (by omega)] at h
    by_cases hd : chk ly ys = 0
    · rw [if_neg (by omega)] at h
      obtain ⟨a, rfl, ha, rfl⟩ := chk_zero lx xs hx hc
      obtain ⟨b, rfl, hb, rfl⟩ := chk_zero ly ys hy hd
      by_cases hf : 8192 < (a.length : Int) + (b.length : Int)
      · rw [if_pos hf] at h; omega
      · exact ⟨a, b, rfl, rfl, rfl, rfl, by omega⟩
    · rw [if_pos hd] at h; exact absurd h hd
  · rw [if_pos hc] at h; exact absurd h hc
theorem getE_zero (len : Int) (bs : List Nat) (p width : Int) (hb : ∀ b ∈ bs, b < 256) (h : getE len bs p width = 0) :
    ∃ (l : List Bool) (q k : Nat), len = (l.length : Int) ∧ bs = pack l ∧ p = (q : Int) ∧ width = (k : Int) ∧ k ≤ 64 ∧ q + k ≤ l.length ∧ l.length ≤ 8192 := by
  unfold getE at h
  by_cases hc : chk len bs = 0
  · rw [if_neg (by omega)] at h
    obtain ⟨l, rfl, hl, rfl⟩ := chk_zero len bs hb hc
    by_cases hw : width < 0 ∨ 64 < width ∨ p < 0 ∨ (l.length : Int) < p
    · rw [if_pos hw] at h; omega
    · rw [if_neg hw] at h
      by_cases hs : (l.length : Int) - p < width
      · rw [if_pos hs] at h; omega
      · obtain ⟨q, rfl⟩ := Int.eq_ofNat_of_zero_le (show 0 ≤ p by omega)
        obtain ⟨k, rfl⟩ := Int.eq_ofNat_of_zero_le (show 0 ≤ width by omega)
        exact ⟨l, q, k, rfl, rfl, rfl, rfl, by omega, by omega, hl⟩
  · rw [if_pos hc] at h; exact absurd h hc
end Go.Proofs.Ytnbjhldpadjgfaa
