/- Plain facts about gamma and delta codes as lists of bits; no condition but those that each fact names. -/
import Derived.Test.YtgibbokhdfblmaaUPure
import Derived.Test.YtgibbokhdfblmaaUPureA
import Derived.Test.YtgibbokhdfblmaaLists
namespace Go.Proofs.Ytgibbokhdfblmaa
set_option maxRecDepth 100000
set_option linter.unusedVariables false

/-- How many bits are behind the highest 1 of n + 1. -/
def lg (n : Nat) : Nat := Nat.log2 (n + 1)
theorem lg_le (n : Nat) : 2 ^ lg n ≤ n + 1 := Nat.log2_self_le (by omega)
theorem lg_lt (n : Nat) : n + 1 < 2 ^ (lg n + 1) := Nat.lt_log2_self
theorem pow_inj_le {a b : Nat} (h : 2 ^ a < 2 ^ b) : a < b := (Nat.pow_lt_pow_iff_right (by omega)).1 h
theorem lg_of (n k : Nat) (h1 : 2 ^ k ≤ n + 1) (h2 : n + 1 < 2 ^ (k + 1)) : lg n = k := by
  have a := pow_inj_le (Nat.lt_of_le_of_lt h1 (lg_lt n))
  have b := pow_inj_le (Nat.lt_of_le_of_lt (lg_le n) h2)
  omega
theorem lg_lt_of (n k : Nat) (h : n + 1 < 2 ^ k) : lg n < k := pow_inj_le (Nat.lt_of_le_of_lt (lg_le n) h)
theorem lg_mono {a b : Nat} (h : a ≤ b) : lg a ≤ lg b := by
  have := pow_inj_le (a := lg a) (b := lg b + 1) (by have := lg_le a; have := lg_lt b; omega)
  omega

theorem nb_succ (n k : Nat) : nb n (k + 1) = (n / 2 ^ k % 2 == 1) :: nb n k := by
  apply List.ext_getElem
  · simp [nb_length]
  · intro i h1 h2
    rcases i with _ | i
    · simp [nb]
    · simp only [nb, List.getElem_map, List.getElem_range, List.getElem_cons_succ]
      rw [show k + 1 - 1 - (i + 1) = k - 1 - i by omega]
theorem nb_mod (k : Nat) : ∀ n, nb (n % 2 ^ k) k = nb n k := by
  intro n
  apply List.ext_getElem
  · simp [nb_length]
  · intro i h1 h2
    rw [nb_length] at h1
    simp only [nb, List.getElem_map, List.getElem_range]
    congr 1
    have e : 2 ^ k = 2 ^ (k - 1 - i) * 2 ^ (i + 1) := by rw [← Nat.pow_add]; congr 1; omega
    rw [e, Nat.mod_mul_right_div_self, Nat.pow_succ, Nat.mul_comm (2 ^ i) 2, Nat.mod_mul_right_mod]
theorem nb_sub (m k : Nat) (h1 : 2 ^ k ≤ m) (h2 : m < 2 ^ (k + 1)) : nb (m - 2 ^ k) k = nb m k := by
  rw [← nb_mod k m, Nat.mod_eq_sub_mod h1, Nat.mod_eq_of_lt (by rw [Nat.pow_succ] at h2; omega)]
theorem nb_top (m k : Nat) (h1 : 2 ^ k ≤ m) (h2 : m < 2 ^ (k + 1)) : nb m (k + 1) = true :: nb m k := by
  rw [nb_succ]
  have : m / 2 ^ k = 1 := by
    rw [Nat.pow_succ] at h2
    have := Nat.two_pow_pos k
    exact Nat.div_eq_of_lt_le (by omega) (by omega)
  rw [this]; rfl
theorem fold_num (l : List Bool) : ∀ a, l.foldl (fun n b => 2 * n + b.toNat) a = a * 2 ^ l.length + num l := by
  induction l with
  | nil => intro a; simp [num]
  | cons b l ih =>
    intro a
    rw [List.foldl_cons, ih, List.length_cons, Nat.pow_succ]
    have e : num (b :: l) = l.foldl (fun n b => 2 * n + b.toNat) (2 * 0 + b.toNat) := rfl
    rw [e, ih, Nat.add_mul, Nat.add_assoc, Nat.mul_comm (2 ^ l.length) 2, ← Nat.mul_assoc, Nat.mul_comm a 2]
    simp
theorem num_append (a b : List Bool) : num (a ++ b) = num a * 2 ^ b.length + num b := by
  unfold num
  rw [List.foldl_append, fold_num]; rfl
theorem num_cons (b : Bool) (l : List Bool) : num (b :: l) = b.toNat * 2 ^ l.length + num l := by
  have := num_append [b] l
  have e : num [b] = b.toNat := by simp [num]
  rw [e] at this
  exact this
theorem nb_num (l : List Bool) : nb (num l) l.length = l := by
  induction l with
  | nil => rfl
  | cons b l ih =>
    rw [List.length_cons, nb_succ, num_cons]
    have hl := num_lt l
    have hp := Nat.two_pow_pos l.length
    have e1 : (b.toNat * 2 ^ l.length + num l) / 2 ^ l.length = b.toNat := by
      rw [Nat.mul_comm, Nat.mul_add_div hp, Nat.div_eq_of_lt hl]; rfl
    rw [e1]
    congr 1
    · cases b <;> rfl
    · rw [← nb_mod, Nat.mul_comm, Nat.mul_add_mod, nb_mod, ih]

/-- The codes. -/
def gam (n : Nat) : List Bool := uc (lg n) ++ nb (n + 1) (lg n)
def del (n : Nat) : List Bool := gam (lg n) ++ nb (n + 1) (lg n)
theorem gam_length (n : Nat) : (gam n).length = 2 * lg n + 1 := by simp [gam, uc_length, nb_length]; omega
theorem del_length (n : Nat) : (del n).length = 2 * lg (lg n) + 1 + lg n := by simp [del, gam_length, nb_length]

/-- What is read of bits from a place on: a number, the place behind, an error. -/
def uR (l : List Bool) (s : Nat) : Nat × Nat × Int := match pos s (l.drop s) with | [] => (0, 0, 7) | x :: _ => (x - s, x + 1, 0)
def restR (l : List Bool) (s k : Nat) : Nat × Nat × Int :=
  if 63 < k then (0, 0, 3) else if l.length < s + k then (0, 0, 7) else if 1099511627776 < 2 ^ k + num ((l.drop s).take k) - 1 then (0, 0, 3) else (2 ^ k + num ((l.drop s).take k) - 1, s + k, 0)
/-- A length is read first, and what is behind it. -/
def thenR (l : List Bool) (r : Nat × Nat × Int) : Nat × Nat × Int := if r.2.2 = 0 then restR l r.2.1 r.1 else (0, 0, r.2.2)
def gamR (l : List Bool) (s : Nat) : Nat × Nat × Int := thenR l (uR l s)
def delR (l : List Bool) (s : Nat) : Nat × Nat × Int := thenR l (gamR l s)

theorem pos_ge (l : List Bool) : ∀ o, ∀ x ∈ pos o l, o ≤ x ∧ x < o + l.length := by
  induction l with
  | nil => intro o x h; simp [pos] at h
  | cons b l ih =>
    intro o x h
    cases b
    · simp only [pos] at h
      have := ih _ x h
      rw [List.length_cons]; omega
    · simp only [pos, List.mem_cons] at h
      rcases h with rfl | h
      · rw [List.length_cons]; omega
      · have := ih _ x h
        rw [List.length_cons]; omega
theorem uR_bound (l : List Bool) (s : Nat) (hs : s ≤ l.length) : (uR l s).1 ≤ l.length ∧ (uR l s).2.1 ≤ l.length ∧ ((uR l s).2.2 = 0 ∨ (uR l s).2.2 = 7) := by
  unfold uR
  split
  · simp
  · rename_i x xs e
    have := pos_ge (l.drop s) s x (by rw [e]; simp)
    rw [List.length_drop] at this
    exact ⟨by simp only; omega, by simp only; omega, .inl rfl⟩
theorem restR_bound (l : List Bool) (s k : Nat) : (restR l s k).2.1 ≤ l.length ∧ (restR l s k).1 ≤ 1099511627776 ∧ ((restR l s k).2.2 = 0 ∨ (restR l s k).2.2 = 3 ∨ (restR l s k).2.2 = 7) := by
  unfold restR
  split
  · simp
  · split
    · simp
    · split
      · simp
      · exact ⟨by simp only; omega, by simp only; omega, .inl rfl⟩
theorem thenR_bound (l : List Bool) (r : Nat × Nat × Int) : (thenR l r).2.1 ≤ l.length ∧ (thenR l r).1 ≤ 1099511627776 := by
  unfold thenR
  split
  · exact ⟨(restR_bound l _ _).1, (restR_bound l _ _).2.1⟩
  · simp

theorem uR_uc (p t : List Bool) (n : Nat) : uR (p ++ (uc n ++ t)) p.length = (n, p.length + n + 1, 0) := by
  unfold uR
  rw [List.drop_left]
  unfold uc
  rw [pos_append, pos_append, pos_zeros, List.length_replicate]
  simp [pos]
theorem restR_nb (p t : List Bool) (n : Nat) (hn : n ≤ 1099511627776) : restR (p ++ (nb (n + 1) (lg n) ++ t)) p.length (lg n) = (n, p.length + lg n, 0) := by
  have h40 := lg_lt_of n 41 (by omega)
  have e : ((p ++ (nb (n + 1) (lg n) ++ t)).drop p.length).take (lg n) = nb (n + 1) (lg n) := by
    rw [List.drop_left]
    have := List.take_left (l₁ := nb (n + 1) (lg n)) (l₂ := t)
    rwa [nb_length] at this
  unfold restR
  have h1 := lg_le n
  have h2 := lg_lt n
  rw [e, ← nb_sub (n + 1) (lg n) h1 h2, num_nb_small _ _ (Nat.div_eq_of_lt (by rw [Nat.pow_succ] at h2; omega))]
  rw [if_neg (by omega), if_neg (by rw [List.length_append, List.length_append, nb_length]; omega), if_neg (by omega)]
  congr 1
  omega
theorem gamR_gam (p t : List Bool) (n : Nat) (hn : n ≤ 1099511627776) : gamR (p ++ (gam n ++ t)) p.length = (n, p.length + (gam n).length, 0) := by
  unfold gamR gam thenR
  rw [List.append_assoc, uR_uc, if_pos rfl]
  have := restR_nb (p ++ uc (lg n)) t n hn
  rw [List.length_append, uc_length, List.append_assoc] at this
  rw [Nat.add_assoc] at this ⊢
  rw [this, List.length_append, uc_length, nb_length]
theorem delR_del (p t : List Bool) (n : Nat) (hn : n ≤ 1099511627776) : delR (p ++ (del n ++ t)) p.length = (n, p.length + (del n).length, 0) := by
  unfold delR del thenR
  have h40 := lg_lt_of n 41 (by omega)
  rw [List.append_assoc, gamR_gam p _ (lg n) (by omega), if_pos rfl]
  have := restR_nb (p ++ gam (lg n)) t n hn
  rw [List.length_append, List.append_assoc] at this
  rw [this, List.length_append, nb_length]
  congr 2
  omega
end Go.Proofs.Ytgibbokhdfblmaa
