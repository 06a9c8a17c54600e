/- Plain facts about quotients, remainders and zeta codes as lists of bits; no condition but those that each fact names. -/
import Derived.Test.YtcacbekdghlncaaEPure
namespace Go.Proofs.Ytcacbekdghlncaa
set_option maxRecDepth 100000
set_option linter.unusedVariables false

/-- The smallest s for which 2 to the s is at least m. -/
def sz (m : Nat) : Nat := if m ≤ 1 then 0 else Nat.log2 (m - 1) + 1
theorem sz_ge (m : Nat) : m ≤ 2 ^ sz m := by
  unfold sz
  split
  · have := Nat.two_pow_pos 0; omega
  · have : m - 1 < 2 ^ (Nat.log2 (m - 1) + 1) := Nat.lt_log2_self
    omega
theorem sz_lt (m : Nat) (h : 1 < m) : 1 ≤ sz m ∧ 2 ^ (sz m - 1) < m := by
  unfold sz
  rw [if_neg (by omega)]
  have := Nat.log2_self_le (n := m - 1) (by omega)
  rw [Nat.add_sub_cancel]
  omega
theorem sz_one : sz 1 = 0 := rfl
theorem sz_of (m s : Nat) (h1 : m ≤ 2 ^ s) (h2 : s = 0 ∨ 2 ^ (s - 1) < m) (hm : 1 ≤ m) : sz m = s := by
  by_cases h : m = 1
  · subst h
    rcases h2 with rfl | h2
    · rfl
    · have := Nat.two_pow_pos (s - 1); omega
  · obtain ⟨k1, k2⟩ := sz_lt m (by omega)
    have k3 := sz_ge m
    have a := pow_inj_le (Nat.lt_of_lt_of_le k2 h1)
    rcases h2 with rfl | h2
    · rw [Nat.pow_zero] at h1; omega
    · have b := pow_inj_le (Nat.lt_of_lt_of_le h2 k3)
      by_cases h0 : s = 0
      · subst h0; rw [Nat.pow_zero] at h1; omega
      · omega
theorem sz_le (m k : Nat) (h : m ≤ 2 ^ k) : sz m ≤ k := by
  by_cases h1 : 1 < m
  · have a := pow_inj_le (Nat.lt_of_lt_of_le (sz_lt m h1).2 h)
    omega
  · unfold sz; rw [if_pos (by omega)]; omega
theorem sz_pow (k : Nat) : sz (2 ^ k) = k := by
  refine sz_of _ _ (Nat.le_refl _) ?_ (Nat.two_pow_pos k)
  rcases k with _ | k
  · exact .inl rfl
  · exact .inr (Nat.pow_lt_pow_right (by omega) (by omega))
/-- How many numbers want a bit less. -/
def sh (m : Nat) : Nat := 2 ^ sz m - m
theorem sh_add (m : Nat) : sh m + m = 2 ^ sz m := by have := sz_ge m; unfold sh; omega
theorem sh_lt (m : Nat) (h : 1 ≤ m) : sz m = 0 ∧ sh m = 0 ∧ m = 1 ∨ 1 ≤ sz m ∧ sh m < 2 ^ (sz m - 1) ∧ 2 ^ sz m = 2 * 2 ^ (sz m - 1) ∧ sh m < m := by
  by_cases h1 : m = 1
  · subst h1; left; exact ⟨rfl, rfl, rfl⟩
  · right
    obtain ⟨k1, k2⟩ := sz_lt m (by omega)
    have e : 2 ^ sz m = 2 * 2 ^ (sz m - 1) := by
      rw [show sz m = sz m - 1 + 1 by omega, Nat.pow_succ]; simp; omega
    have := sh_add m
    exact ⟨k1, by omega, e, by omega⟩

def lst (n m : Nat) : List Bool := if n < sh m then nb n (sz m - 1) else nb (n + sh m) (sz m)
def lstR (l : List Bool) (s m : Nat) : Nat × Nat × Int :=
  if 1 ≤ sz m ∧ s + (sz m - 1) ≤ l.length ∧ num ((l.drop s).take (sz m - 1)) < sh m then (num ((l.drop s).take (sz m - 1)), s + (sz m - 1), 0)
  else if s + sz m ≤ l.length then (num ((l.drop s).take (sz m)) - sh m, s + sz m, 0) else (0, 0, 7)
theorem lst_length_le (n m : Nat) : (lst n m).length ≤ sz m := by
  unfold lst; split <;> rw [nb_length] <;> omega
theorem take_nb (p t : List Bool) (n k : Nat) : ((p ++ (nb n k ++ t)).drop p.length).take k = nb n k := by
  rw [List.drop_left]
  have := List.take_left (l₁ := nb n k) (l₂ := t)
  rwa [nb_length] at this
theorem num_take_le (l : List Bool) (j k : Nat) (h : j + k ≤ l.length) : num (l.take (j + k)) = num (l.take j) * 2 ^ k + num ((l.drop j).take k) := by
  rw [List.take_add, num_append, List.length_take, List.length_drop, Nat.min_eq_left (by omega)]
theorem lstR_lst (p t : List Bool) (n m : Nat) (h : n < m) : lstR (p ++ (lst n m ++ t)) p.length m = (n, p.length + (lst n m).length, 0) := by
  have hs := sh_add m
  unfold lstR lst
  by_cases hn : n < sh m
  · simp only [if_pos hn]
    rcases sh_lt m (by omega) with ⟨a, b, c⟩ | ⟨a, b, c, d⟩
    · omega
    · have e : num (((p ++ (nb n (sz m - 1) ++ t)).drop p.length).take (sz m - 1)) = n := by
        rw [take_nb, num_nb_small _ _ (Nat.div_eq_of_lt (by omega))]
      rw [e, nb_length, if_pos ⟨a, by rw [List.length_append, List.length_append, nb_length]; omega, hn⟩]
  · simp only [if_neg hn]
    have e : num (((p ++ (nb (n + sh m) (sz m) ++ t)).drop p.length).take (sz m)) = n + sh m := by
      rw [take_nb, num_nb_small _ _ (Nat.div_eq_of_lt (by omega))]
    rw [e, nb_length, if_neg ?_, if_pos (by rw [List.length_append, List.length_append, nb_length]; omega), Nat.add_sub_cancel]
    rintro ⟨h1, h2, h3⟩
    have f := num_take_le ((p ++ (nb (n + sh m) (sz m) ++ t)).drop p.length) (sz m - 1) 1 (by rw [List.drop_left, List.length_append, nb_length]; omega)
    rw [show sz m - 1 + 1 = sz m by omega, e] at f
    have g := num_lt ((((p ++ (nb (n + sh m) (sz m) ++ t)).drop p.length).drop (sz m - 1)).take 1)
    have g1 : ((((p ++ (nb (n + sh m) (sz m) ++ t)).drop p.length).drop (sz m - 1)).take 1).length ≤ 1 := by rw [List.length_take]; omega
    have g2 := Nat.pow_le_pow_right (n := 2) (by omega) g1
    omega
theorem lstR_bound (l : List Bool) (s m : Nat) (hm : 1 ≤ m) (hs : s ≤ l.length) : (lstR l s m).2.1 ≤ l.length ∧ (lstR l s m).1 < m ∧ ((lstR l s m).2.2 = 0 ∨ (lstR l s m).2.2 = 7) := by
  have hz := sh_add m
  unfold lstR
  split
  · rename_i h
    rcases sh_lt m hm with ⟨a, b, c⟩ | ⟨a, b, c, d⟩
    · omega
    · exact ⟨by simp only; omega, by simp only; omega, .inl rfl⟩
  · split
    · have g := num_lt ((l.drop s).take (sz m))
      rw [List.length_take, List.length_drop, Nat.min_eq_left (by omega)] at g
      exact ⟨by simp only; omega, by simp only; omega, .inl rfl⟩
    · exact ⟨Nat.zero_le _, hm, .inr rfl⟩

def gol (n m : Nat) : List Bool := uc (n / m) ++ lst (n % m) m
/-- The first and how many of the numbers from 2 to the h k on. -/
def zq (h k : Nat) : Nat := 2 ^ (h * k + k) - 2 ^ (h * k)
def zet (n k : Nat) : List Bool := uc (lg n / k) ++ lst (n + 1 - 2 ^ (lg n / k * k)) (zq (lg n / k) k)
/-- A remainder is read behind a quotient: f is what they make. -/
def remR (l : List Bool) (r : Nat × Nat × Int) (m : Nat) (f : Nat → Nat) : Nat × Nat × Int :=
  let q := lstR l r.2.1 m
  if q.2.2 ≠ 0 then (0, 0, q.2.2) else if 1099511627776 < f q.1 then (0, 0, 3) else (f q.1, q.2.1, 0)
def golR (l : List Bool) (s m : Nat) : Nat × Nat × Int :=
  if (uR l s).2.2 ≠ 0 then (0, 0, (uR l s).2.2) else if 8128 ≤ (uR l s).1 then (0, 0, 3) else remR l (uR l s) m fun r => (uR l s).1 * m + r
def zetR (l : List Bool) (s k : Nat) : Nat × Nat × Int :=
  if (uR l s).2.2 ≠ 0 then (0, 0, (uR l s).2.2) else if 40 < (uR l s).1 * k then (0, 0, 3) else remR l (uR l s) (zq (uR l s).1 k) fun r => 2 ^ ((uR l s).1 * k) + r - 1

theorem golR_gol (p t : List Bool) (n m : Nat) (hm : 1 ≤ m) (hn : n ≤ 1099511627776) (hq : n / m < 8128) : golR (p ++ (gol n m ++ t)) p.length m = (n, p.length + (gol n m).length, 0) := by
  unfold golR gol remR
  rw [List.append_assoc, uR_uc, if_neg (by simp), if_neg (by simp only; omega)]
  have e := lstR_lst (p ++ uc (n / m)) t (n % m) m (Nat.mod_lt _ (by omega))
  rw [List.length_append, uc_length, List.append_assoc, ← Nat.add_assoc] at e
  simp only [e]
  have d : n / m * m + n % m = n := by rw [Nat.mul_comm]; exact Nat.div_add_mod n m
  rw [if_neg (by simp), d, if_neg (by omega), List.length_append, uc_length]
  congr 2
  omega
theorem zq_pos (h k : Nat) (hk : 1 ≤ k) : 1 ≤ zq h k := by
  unfold zq
  have := Nat.pow_lt_pow_right (a := 2) (by omega) (show h * k < h * k + k by omega)
  omega
theorem zet_in (n k : Nat) (hk : 1 ≤ k) : 2 ^ (lg n / k * k) ≤ n + 1 ∧ n + 1 - 2 ^ (lg n / k * k) < zq (lg n / k) k := by
  have h1 := lg_le n
  have h2 := lg_lt n
  have a : lg n / k * k ≤ lg n := Nat.div_mul_le_self _ _
  have b : lg n + 1 ≤ lg n / k * k + k := by
    have e := Nat.div_add_mod (lg n) k
    have := Nat.mod_lt (lg n) (show k > 0 by omega)
    rw [Nat.mul_comm] at e
    omega
  have c := Nat.pow_le_pow_right (n := 2) (by omega) a
  have d := Nat.pow_le_pow_right (n := 2) (by omega) b
  unfold zq
  omega
theorem zet_40 (n k : Nat) (hn : n ≤ 1099511627776) : lg n / k * k ≤ 40 := by
  have := lg_lt_of n 41 (by omega)
  have : lg n / k * k ≤ lg n := Nat.div_mul_le_self _ _
  omega
theorem zetR_zet (p t : List Bool) (n k : Nat) (hk : 1 ≤ k) (hn : n ≤ 1099511627776) : zetR (p ++ (zet n k ++ t)) p.length k = (n, p.length + (zet n k).length, 0) := by
  obtain ⟨h1, h2⟩ := zet_in n k hk
  have h3 := zet_40 n k hn
  unfold zetR zet remR
  rw [List.append_assoc, uR_uc, if_neg (by simp), if_neg (by simp only; omega)]
  have e := lstR_lst (p ++ uc (lg n / k)) t _ _ h2
  rw [List.length_append, uc_length, List.append_assoc, ← Nat.add_assoc] at e
  simp only [e]
  rw [if_neg (by simp), if_neg (by omega), List.length_append, uc_length]
  congr 1
  · omega
  · congr 1
    omega
theorem zq_le (h k : Nat) (h1 : h * k ≤ 40) (h2 : k ≤ 16) : zq h k ≤ 72057594037927936 := by
  unfold zq
  have := Nat.pow_le_pow_right (n := 2) (by omega) (show h * k + k ≤ 56 by omega)
  exact Nat.le_trans (Nat.sub_le _ _) this
/-- Zeta of 1 is gamma. -/
theorem zet_one (n : Nat) : zet n 1 = gam n := by
  unfold zet gam
  have h1 := lg_le n
  have h2 := lg_lt n
  have e : zq (lg n) 1 = 2 ^ lg n := by unfold zq; rw [Nat.mul_one, Nat.pow_succ]; omega
  rw [Nat.div_one, e, Nat.mul_one]
  unfold lst sh
  rw [sz_pow, Nat.sub_self, if_neg (by omega), Nat.add_zero, nb_sub _ _ h1 h2]
end Go.Proofs.Ytcacbekdghlncaa
