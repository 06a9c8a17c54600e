/- Plain facts on Fibonacci numbers, on sums of them no two of which are next to each other, and on the codes that are made of these; no condition but those that each fact names. -/
import Derived.Test.YtjogccpnhcnedaaDoorLists
namespace Go.Proofs.YtjogccpnhcnedaaDoor
set_option maxRecDepth 100000
set_option linter.unusedVariables false

theorem f_nb_succ (n k : Nat) : nb n (k + 1) = (n / 2 ^ k % 2 == 1) :: nb n k := by
  apply List.ext_getElem
  · simp [nb_length]
  · intro i h1 h2
    rcases i with _ | i
    · simp [nb]
    · simp only [nb, List.getElem_map, List.getElem_range, List.getElem_cons_succ]
      rw [show k + 1 - 1 - (i + 1) = k - 1 - i by omega]
theorem f_nb_mod (k : Nat) : ∀ n, nb (n % 2 ^ k) k = nb n k := by
  intro n
  apply List.ext_getElem
  · simp [nb_length]
  · intro i h1 h2
    rw [nb_length] at h1
    simp only [nb, List.getElem_map, List.getElem_range]
    congr 1
    have e : 2 ^ k = 2 ^ (k - 1 - i) * 2 ^ (i + 1) := by rw [← Nat.pow_add]; congr 1; omega
    rw [e, Nat.mod_mul_right_div_self, Nat.pow_succ, Nat.mul_comm (2 ^ i) 2, Nat.mod_mul_right_mod]
theorem f_fold_num (l : List Bool) : ∀ a, l.foldl (fun n b => 2 * n + b.toNat) a = a * 2 ^ l.length + num l := by
  induction l with
  | nil => intro a; simp [num]
  | cons b l ih =>
    intro a
    rw [List.foldl_cons, ih, List.length_cons, Nat.pow_succ]
    have e : num (b :: l) = l.foldl (fun n b => 2 * n + b.toNat) (2 * 0 + b.toNat) := rfl
    rw [e, ih, Nat.add_mul, Nat.add_assoc, Nat.mul_comm (2 ^ l.length) 2, ← Nat.mul_assoc, Nat.mul_comm a 2]
    simp
theorem f_num_append (a b : List Bool) : num (a ++ b) = num a * 2 ^ b.length + num b := by
  unfold num
  rw [List.foldl_append, f_fold_num]; rfl
theorem f_num_cons (b : Bool) (l : List Bool) : num (b :: l) = b.toNat * 2 ^ l.length + num l := by
  have := f_num_append [b] l
  have e : num [b] = b.toNat := by simp [num]
  rw [e] at this
  exact this
theorem f_nb_num (l : List Bool) : nb (num l) l.length = l := by
  induction l with
  | nil => rfl
  | cons b l ih =>
    rw [List.length_cons, f_nb_succ, f_num_cons]
    have hl := num_lt l
    have hp := Nat.two_pow_pos l.length
    have e1 : (b.toNat * 2 ^ l.length + num l) / 2 ^ l.length = b.toNat := by
      rw [Nat.mul_comm, Nat.mul_add_div hp, Nat.div_eq_of_lt hl]; rfl
    rw [e1]
    congr 1
    · cases b <;> rfl
    · rw [← f_nb_mod, Nat.mul_comm, Nat.mul_add_mod, f_nb_mod, ih]

/-- The numbers. -/
def fb : Nat → Nat
  | 0 => 1
  | 1 => 2
  | n + 2 => fb (n + 1) + fb n
theorem fb_step (n : Nat) : fb (n + 2) = fb (n + 1) + fb n := by rw [fb]
theorem fb_pos : ∀ n, 0 < fb n
  | 0 => by decide
  | 1 => by decide
  | n + 2 => by rw [fb_step]; have := fb_pos n; omega
theorem fb_lt : ∀ n, fb n < fb (n + 1)
  | 0 => by decide
  | n + 1 => by rw [fb_step]; have := fb_pos n; omega
theorem fb_mono {a b : Nat} (h : a ≤ b) : fb a ≤ fb b := by
  induction h with
  | refl => exact Nat.le_refl _
  | step _ ih => exact Nat.le_trans ih (Nat.le_of_lt (fb_lt _))
theorem fb_inj {a b : Nat} (h : fb a < fb b) : a < b := by
  rcases Nat.lt_or_ge a b with h1 | h1
  · exact h1
  · have := fb_mono h1; omega
theorem fb_pred (x : Nat) (h : 1 ≤ x) : fb (x + 1) = fb x + fb (x - 1) := by
  obtain ⟨y, rfl⟩ : ∃ y, x = y + 1 := ⟨x - 1, by omega⟩
  rw [fb_step]; rfl
theorem fb64 : fb 64 = 27777890035288 := by decide +kernel
theorem fb61 : fb 61 = 6557470319842 := by decide +kernel
theorem fb58 : fb 58 = 1548008755920 := by decide +kernel
theorem fb55 : fb 55 = 365435296162 := by decide +kernel
def fnums : List Nat := [1, 2, 3, 5, 8, 13, 21, 34, 55, 89, 144, 233, 377, 610, 987, 1597, 2584, 4181, 6765, 10946, 17711, 28657, 46368, 75025,
  121393, 196418, 317811, 514229, 832040, 1346269, 2178309, 3524578, 5702887, 9227465, 14930352, 24157817, 39088169, 63245986, 102334155, 165580141,
  267914296, 433494437, 701408733, 1134903170, 1836311903, 2971215073, 4807526976, 7778742049, 12586269025, 20365011074, 32951280099, 53316291173, 86267571272, 139583862445, 225851433717, 365435296162,
  591286729879, 956722026041, 1548008755920, 2504730781961, 4052739537881, 6557470319842, 10610209857723, 17167680177565]
theorem fnums_length : fnums.length = 64 := by decide
theorem fnums_at : ∀ i : Fin 64, fnums[i.val]? = some (fb i.val) := by decide +kernel
theorem fnums_get (i : Nat) (h : i < 64) : fnums[i]?.getD 0 = fb i := by rw [fnums_at ⟨i, h⟩]; rfl

/-- The sum of the numbers of a list. -/
def fsum : List Nat → Nat
  | [] => 0
  | x :: xs => fb x + fsum xs
theorem fsum_append (a b : List Nat) : fsum (a ++ b) = fsum a + fsum b := by
  induction a with
  | nil => simp [fsum]
  | cons x xs ih => rw [List.cons_append]; simp only [fsum]; rw [ih]; omega
theorem fsum_reverse (a : List Nat) : fsum a.reverse = fsum a := by
  induction a with
  | nil => rfl
  | cons x xs ih => rw [List.reverse_cons, fsum_append, ih]; simp only [fsum]; omega

/-- Falling lists, no two next to each other, all below a bound. -/
def Dz : Nat → List Nat → Prop
  | _, [] => True
  | k, x :: xs => x < k ∧ Dz (x - 1) xs
theorem Dz.mono {l : List Nat} {a b : Nat} (h : Dz a l) (hab : a ≤ b) : Dz b l := by
  cases l with
  | nil => exact trivial
  | cons x xs => exact ⟨Nat.lt_of_lt_of_le h.1 hab, h.2⟩
theorem Dz.lt : ∀ {l : List Nat} {k : Nat}, Dz k l → ∀ x ∈ l, x < k := by
  intro l
  induction l with
  | nil => intro k _ x hx; cases hx
  | cons y ys ih =>
    intro k h x hx
    rcases List.mem_cons.1 hx with rfl | hx
    · exact h.1
    · have := ih h.2 x hx; have := h.1; omega
theorem fsum_lt : ∀ (l : List Nat) (k : Nat), Dz k l → fsum l < fb k := by
  intro l
  induction l with
  | nil => intro k _; exact fb_pos k
  | cons x xs ih =>
    intro k h
    have h1 := ih (x - 1) h.2
    have h2 := fb_mono (show x + 1 ≤ k from h.1)
    show fb x + fsum xs < fb k
    rcases Nat.eq_zero_or_pos x with rfl | hx
    · have e0 : fb (0 - 1) = 1 := rfl
      have e1 : fb (0 + 1) = 2 := rfl
      have e2 : fb 0 = 1 := rfl
      omega
    · have := fb_pred x hx
      omega

/-- The greatest first, again and again. -/
def spl : Nat → Nat → List Nat
  | 0, _ => []
  | k + 1, n => if fb k ≤ n then k :: spl k (n - fb k) else spl k n
theorem spl_yes (k n : Nat) (h : fb k ≤ n) : spl (k + 1) n = k :: spl k (n - fb k) := by rw [spl, if_pos h]
theorem spl_no (k n : Nat) (h : n < fb k) : spl (k + 1) n = spl k n := by rw [spl, if_neg (by omega)]
theorem spl_down (k : Nat) : ∀ (j n : Nat), j ≤ k → n < fb j → spl k n = spl j n := by
  induction k with
  | zero => intro j n h _; rw [show j = 0 by omega]
  | succ k ih =>
    intro j n h hn
    rcases Nat.lt_or_ge j (k + 1) with h1 | h1
    · rw [spl_no k n (Nat.lt_of_lt_of_le hn (fb_mono (by omega))), ih j n (by omega) hn]
    · rw [show j = k + 1 by omega]
theorem spl_fsum : ∀ (k : Nat) (l : List Nat), Dz k l → spl k (fsum l) = l := by
  intro k
  induction k with
  | zero =>
    intro l h
    cases l with
    | nil => rfl
    | cons x xs => exact absurd h.1 (Nat.not_lt_zero _)
  | succ k ih =>
    intro l h
    cases l with
    | nil =>
      have e := ih [] trivial
      show spl (k + 1) 0 = []
      rw [spl_no k 0 (fb_pos k)]
      exact e
    | cons x xs =>
      have hx := h.1
      rcases Nat.lt_or_ge x k with h1 | h1
      · rw [spl_no k _ (fsum_lt (x :: xs) k ⟨h1, h.2⟩), ih (x :: xs) ⟨h1, h.2⟩]
      · obtain rfl : x = k := by omega
        rw [spl_yes x _ (by simp only [fsum]; omega)]
        have e : fsum (x :: xs) - fb x = fsum xs := by simp only [fsum]; omega
        rw [e, ih xs (h.2.mono (by omega))]
theorem spl_dz : ∀ (k n : Nat), n < fb k → Dz k (spl k n) ∧ fsum (spl k n) = n := by
  intro k
  induction k using Nat.strongRecOn with
  | _ k ih =>
    intro n hn
    cases k with
    | zero => exact ⟨trivial, by have e : fb 0 = 1 := rfl; show 0 = n; omega⟩
    | succ k =>
      by_cases h : fb k ≤ n
      · rw [spl_yes k n h]
        have hlt : n - fb k < fb (k - 1) := by
          rcases Nat.eq_zero_or_pos k with rfl | hk
          · have e1 : fb (0 + 1) = 2 := rfl
            have e0 : fb 0 = 1 := rfl
            show n - fb 0 < fb 0
            omega
          · have := fb_pred k hk; omega
        rw [spl_down k (k - 1) _ (by omega) hlt]
        obtain ⟨h1, h2⟩ := ih (k - 1) (by omega) _ hlt
        exact ⟨⟨by omega, h1⟩, by simp only [fsum]; rw [h2]; omega⟩
      · rw [spl_no k n (by omega)]
        obtain ⟨h1, h2⟩ := ih k (by omega) n (by omega)
        exact ⟨h1.mono (by omega), h2⟩

/-- The parts, the greatest first. -/
def ptd (n : Nat) : List Nat := spl 64 n
theorem ptd_dz (n : Nat) (h : n < fb 64) : Dz 64 (ptd n) := (spl_dz 64 n h).1
theorem ptd_sum (n : Nat) (h : n < fb 64) : fsum (ptd n) = n := (spl_dz 64 n h).2
theorem ptd_of (l : List Nat) (h : Dz 64 l) : ptd (fsum l) = l := spl_fsum 64 l h
theorem ptd_zero : ptd 0 = [] := by decide +kernel
theorem ptd_ne (n : Nat) (h : n < fb 64) (h0 : 0 < n) : ∃ x xs, ptd n = x :: xs ∧ x < 64 ∧ Dz (x - 1) xs ∧ fb x ≤ n ∧ n < fb (x + 1) := by
  have h1 := ptd_dz n h
  have h2 := ptd_sum n h
  cases e : ptd n with
  | nil => rw [e] at h2; simp only [fsum] at h2; omega
  | cons x xs =>
    rw [e] at h1 h2
    refine ⟨x, xs, rfl, h1.1, h1.2, by simp only [fsum] at h2; omega, ?_⟩
    rw [← h2]
    exact fsum_lt _ _ ⟨by omega, h1.2⟩
theorem ptd_step (n x : Nat) (h : n < fb 64) (h1 : fb x ≤ n) (h2 : n < fb (x + 1)) : ptd n = x :: ptd (n - fb x) := by
  obtain ⟨y, ys, e, hy, hd, h3, h4⟩ := ptd_ne n h (by have := fb_pos x; omega)
  have a := fb_inj (Nat.lt_of_le_of_lt h1 h4)
  have b := fb_inj (Nat.lt_of_le_of_lt h3 h2)
  obtain rfl : y = x := by omega
  rw [e]
  have hs := ptd_sum n h
  rw [e] at hs
  simp only [fsum] at hs
  rw [show n - fb y = fsum ys by omega, ptd_of ys (hd.mono (by omega))]

/-- What Sum answers, behind those that have come (the last one first). -/
def sumR : List Nat → List Int → Nat × Int
  | d, [] => (fsum d, 0)
  | d, i :: l => if i < 0 ∨ 63 < i then (0, 3) else if d ≠ [] ∧ i < (d.headD 0 : Int) + 2 then (0, 4) else sumR (i.toNat :: d) l
theorem sumR_nil (d : List Nat) : sumR d [] = (fsum d, 0) := rfl
theorem sumR_range (d : List Nat) (i : Int) (l : List Int) (h : i < 0 ∨ 63 < i) : sumR d (i :: l) = (0, 3) := by rw [sumR, if_pos h]
theorem sumR_state (d : List Nat) (i : Int) (l : List Int) (h : ¬ (i < 0 ∨ 63 < i)) (h2 : d ≠ [] ∧ i < (d.headD 0 : Int) + 2) : sumR d (i :: l) = (0, 4) := by rw [sumR, if_neg h, if_pos h2]
theorem sumR_more (d : List Nat) (i : Int) (l : List Int) (h : ¬ (i < 0 ∨ 63 < i)) (h2 : ¬ (d ≠ [] ∧ i < (d.headD 0 : Int) + 2)) : sumR d (i :: l) = sumR (i.toNat :: d) l := by rw [sumR, if_neg h, if_neg h2]
theorem dz_more (d : List Nat) (i : Nat) (hd : Dz 64 d) (h : i < 64) (h2 : ¬ (d ≠ [] ∧ (i : Int) < (d.headD 0 : Int) + 2)) : Dz 64 (i :: d) := by
  refine ⟨h, ?_⟩
  cases d with
  | nil => exact trivial
  | cons x xs =>
    refine ⟨?_, hd.2⟩
    simp at h2
    omega
theorem sumR_ok : ∀ (l : List Int) (d : List Nat), Dz 64 d → (sumR d l).2 = 0 → ∃ a : List Nat, l = a.map (fun x : Nat => (x : Int)) ∧ Dz 64 (a.reverse ++ d) ∧ sumR d l = (fsum (a.reverse ++ d), 0) := by
  intro l
  induction l with
  | nil => intro d hd _; exact ⟨[], rfl, hd, rfl⟩
  | cons i l ih =>
    intro d hd h
    by_cases h1 : i < 0 ∨ 63 < i
    · rw [sumR_range d i l h1] at h; simp at h
    · by_cases h2 : d ≠ [] ∧ i < (d.headD 0 : Int) + 2
      · rw [sumR_state d i l h1 h2] at h; simp at h
      · rw [sumR_more d i l h1 h2] at h ⊢
        have ei : ((i.toNat : Nat) : Int) = i := by omega
        obtain ⟨a, e, hz, hr⟩ := ih (i.toNat :: d) (dz_more d i.toNat hd (by omega) (by rw [ei]; exact h2)) h
        refine ⟨i.toNat :: a, by rw [List.map_cons, ei, e], ?_, ?_⟩
        · rw [List.reverse_cons, List.append_assoc]; exact hz
        · rw [hr, List.reverse_cons, List.append_assoc]; rfl
theorem sumR_of : ∀ (a d : List Nat), Dz 64 (a.reverse ++ d) → sumR d (a.map (fun x : Nat => (x : Int))) = (fsum (a.reverse ++ d), 0) := by
  intro a
  induction a with
  | nil => intro d _; rfl
  | cons x a ih =>
    intro d h
    rw [List.reverse_cons, List.append_assoc] at h ⊢
    have hx : x < 64 := h.lt x (by simp)
    have hd : Dz 64 (x :: d) := by
      clear ih hx
      have : ∀ (p : List Nat) (k : Nat), Dz k (p ++ ([x] ++ d)) → Dz k (x :: d) := by
        intro p
        induction p with
        | nil => intro k h; exact h
        | cons y p ih => intro k h; exact (ih _ h.2).mono (by have := h.1; omega)
      exact this _ _ h
    rw [List.map_cons, sumR_more d x _ (by omega) ?_]
    · rw [Int.toNat_natCast, ih (x :: d) h]; rfl
    · rintro ⟨hne, hlt⟩
      cases d with
      | nil => exact hne rfl
      | cons y ys =>
        have := hd.2.1
        simp at hlt
        omega
theorem sumR_bad : ∀ (l : List Int) (d : List Nat), (sumR d l).2 ≠ 0 → sumR d l = (0, (sumR d l).2) := by
  intro l
  induction l with
  | nil => intro d h; exact absurd rfl h
  | cons i l ih =>
    intro d h
    by_cases h1 : i < 0 ∨ 63 < i
    · rw [sumR_range d i l h1]
    · by_cases h2 : d ≠ [] ∧ i < (d.headD 0 : Int) + 2
      · rw [sumR_state d i l h1 h2]
      · rw [sumR_more d i l h1 h2] at h ⊢; exact ih _ h
theorem sumR_lt (l : List Int) (d : List Nat) (hd : Dz 64 d) : (sumR d l).1 < fb 64 := by
  by_cases h : (sumR d l).2 = 0
  · obtain ⟨a, _, hz, hr⟩ := sumR_ok l d hd h
    rw [hr]
    exact fsum_lt _ _ hz
  · rw [sumR_bad l d h]; exact fb_pos _

/-- The bits of parts, up to the greatest. -/
def fz : List Nat → List Bool
  | [] => []
  | x :: xs => fz xs ++ (List.replicate (x - (fz xs).length) false ++ [true])
theorem fz_length : ∀ (l : List Nat) (k : Nat), Dz k l → (fz l).length = (match l with | [] => 0 | x :: _ => x + 1) := by
  intro l
  induction l with
  | nil => intro k _; rfl
  | cons x xs ih =>
    intro k h
    have e := ih _ h.2
    simp only [fz, List.length_append, List.length_replicate, List.length_singleton]
    have : (fz xs).length ≤ x := by
      rw [e]
      cases xs with
      | nil => exact Nat.zero_le _
      | cons y ys => have := h.2.1; simp only; omega
    omega
theorem fz_len_le (x : Nat) (xs : List Nat) (h : Dz (x - 1) xs) : (fz xs).length ≤ x - 1 := by
  rw [fz_length xs _ h]
  cases xs with
  | nil => exact Nat.zero_le _
  | cons y ys => have := h.1; simp only; omega
theorem fz_cons_length (x : Nat) (xs : List Nat) (h : Dz (x - 1) xs) : (fz (x :: xs)).length = x + 1 := fz_length (x :: xs) (x + 1) ⟨by omega, h⟩
theorem fz_get : ∀ (l : List Nat) (k : Nat), Dz k l → ∀ i, i < (fz l).length → (fz l)[i]?.getD false = l.contains i := by
  intro l
  induction l with
  | nil => intro k _ i hi; simp [fz] at hi
  | cons x xs ih =>
    intro k h i hi
    have hl := fz_len_le x xs h.2
    rw [fz_cons_length x xs h.2] at hi
    rw [List.contains_cons]
    rcases Nat.lt_or_ge i (fz xs).length with h1 | h1
    · simp only [fz]
      rw [List.getElem?_append_left h1, ih _ h.2 i h1]
      have : (i == x) = false := by simp; omega
      rw [this]; rfl
    · have hn : xs.contains i = false := by
        rw [Bool.eq_false_iff]
        intro hc
        rw [List.contains_iff_mem] at hc
        have e := fz_length xs _ h.2
        cases xs with
        | nil => cases hc
        | cons y ys =>
          simp only at e
          have := Dz.lt (l := y :: ys) (k := y + 1) ⟨by omega, h.2.2⟩ i hc
          omega
      rw [hn, Bool.or_false]
      simp only [fz]
      rw [List.getElem?_append_right h1]
      by_cases h2 : i = x
      · subst h2
        rw [List.getElem?_append_right (by simp)]
        simp
      · rw [List.getElem?_append_left (by simp; omega), List.getElem?_replicate]
        rw [if_pos (by omega)]
        have : (i == x) = false := by simp; omega
        rw [this]; rfl
/-- The code of a number. -/
def fco (n : Nat) : List Bool := fz (ptd (n + 1)) ++ [true]

/-- What is read from a place on: the places of the 1s up to the first of two (the last one first), and the place behind. -/
def ri : List Bool → Nat → Bool → List Nat → Option (List Nat × Nat)
  | [], _, _, _ => none
  | b :: l, k, before, d => if before = true ∧ b = true then some (d, k + 1) else ri l (k + 1) b (if b = true then k :: d else d)
theorem ri_end (l : List Bool) (k : Nat) (d : List Nat) : ri (true :: l) k true d = some (d, k + 1) := by rw [ri, if_pos ⟨rfl, rfl⟩]
theorem ri_one (l : List Bool) (k : Nat) (d : List Nat) : ri (true :: l) k false d = ri l (k + 1) true (k :: d) := by rw [ri, if_neg (by simp), if_pos rfl]
theorem ri_zero (l : List Bool) (k : Nat) (b : Bool) (d : List Nat) : ri (false :: l) k b d = ri l (k + 1) false d := by rw [ri, if_neg (by simp), if_neg (by simp)]
theorem ri_zeros (m : Nat) : ∀ (l : List Bool) (k : Nat) (b : Bool) (d : List Nat), 0 < m → ri (List.replicate m false ++ l) k b d = ri l (k + m) false d := by
  induction m with
  | zero => intro l k b d h; omega
  | succ m ih =>
    intro l k b d _
    rw [List.replicate_succ, List.cons_append, ri_zero]
    rcases Nat.eq_zero_or_pos m with rfl | hm
    · rfl
    · rw [ih l (k + 1) false d hm]; congr 1; omega
theorem ri_fz : ∀ (d : List Nat) (k : Nat) (l : List Bool), Dz k d → ri (fz d ++ l) 0 false [] = ri l (fz d).length (!d.isEmpty) d := by
  intro d
  induction d with
  | nil => intro k l _; rfl
  | cons x xs ih =>
    intro k l h
    have hl := fz_len_le x xs h.2
    have e := fz_cons_length x xs h.2
    rw [e]
    simp only [fz]
    rw [List.append_assoc, List.append_assoc, ih _ _ h.2]
    rcases Nat.eq_zero_or_pos (x - (fz xs).length) with h0 | h0
    · have hx : x = 0 := by omega
      subst hx
      have hxs : xs = [] := by
        cases xs with
        | nil => rfl
        | cons y ys => exact absurd h.2.1 (Nat.not_lt_zero _)
      subst hxs
      show ri (true :: l) 0 false [] = ri l (0 + 1) true [0]
      rw [ri_one]
    · rw [ri_zeros _ _ _ _ _ h0, show (fz xs).length + (x - (fz xs).length) = x by omega]
      show ri (true :: l) x false xs = ri l (x + 1) true (x :: xs)
      rw [ri_one]
/-- A code is read. -/
theorem ri_fco (n : Nat) (hn : n + 1 < fb 64) (t : List Bool) : ri (fco n ++ t) 0 false [] = some (ptd (n + 1), (fco n).length) := by
  obtain ⟨x, xs, e, hx, hd, _, _⟩ := ptd_ne (n + 1) hn (by omega)
  unfold fco
  rw [e, List.append_assoc, ri_fz (x :: xs) (x + 1) _ ⟨by omega, hd⟩]
  show ri (true :: t) _ true _ = _
  rw [ri_end, List.length_append]; rfl
/-- What has been read is a list of parts, however long. -/
theorem ri_dz : ∀ (l : List Bool) (k : Nat) (b : Bool) (d d' : List Nat) (k' : Nat), Dz k d → (b = false → Dz (k - 1) d) → (b = true → d.headD 0 + 1 = k ∧ d ≠ []) → ri l k b d = some (d', k') →
    d'.headD 0 + 2 = k' ∧ d' ≠ [] ∧ Dz (k' - 1) d' ∧ k' ≤ k + l.length := by
  intro l
  induction l with
  | nil => intro k b d d' k' _ _ _ h; cases h
  | cons c l ih =>
    intro k b d d' k' h1 h2 h3 h
    rw [List.length_cons]
    cases c
    · rw [ri_zero] at h
      have := ih (k + 1) false d d' k' (h1.mono (by omega)) (fun _ => h1) (fun e => by cases e) h
      exact ⟨this.1, this.2.1, this.2.2.1, by omega⟩
    · cases b
      · rw [ri_one] at h
        have := ih (k + 1) true (k :: d) d' k' ⟨by omega, h2 rfl⟩ (fun e => by cases e) (fun _ => ⟨rfl, by simp⟩) h
        exact ⟨this.1, this.2.1, this.2.2.1, by omega⟩
      · rw [ri_end] at h
        cases h
        have := h3 rfl
        exact ⟨by omega, this.2, h1, by omega⟩
theorem ri_start (l : List Bool) (d : List Nat) (k : Nat) (h : ri l 0 false [] = some (d, k)) : d.headD 0 + 2 = k ∧ d ≠ [] ∧ Dz (k - 1) d ∧ k ≤ l.length := by
  have := ri_dz l 0 false [] d k trivial (fun _ => trivial) (fun e => by cases e) h
  exact ⟨this.1, this.2.1, this.2.2.1, by omega⟩
/-- What Read answers. -/
def fR (l : List Bool) (s : Nat) : Nat × Nat × Int :=
  match ri (l.drop s) 0 false [] with
  | none => (0, 0, 7)
  | some (d, k) => if 63 < d.headD 0 then (0, 0, 3) else if 1099511627777 < fsum d then (0, 0, 3) else (fsum d - 1, s + k, 0)
theorem fR_none (l : List Bool) (s : Nat) (h : ri (l.drop s) 0 false [] = none) : fR l s = (0, 0, 7) := by unfold fR; rw [h]
theorem fR_some (l : List Bool) (s : Nat) (d : List Nat) (k : Nat) (h : ri (l.drop s) 0 false [] = some (d, k)) :
    fR l s = if 63 < d.headD 0 then (0, 0, 3) else if 1099511627777 < fsum d then (0, 0, 3) else (fsum d - 1, s + k, 0) := by unfold fR; rw [h]
theorem fR_fco (p t : List Bool) (n : Nat) (hn : n ≤ 1099511627776) : fR (p ++ (fco n ++ t)) p.length = (n, p.length + (fco n).length, 0) := by
  have h64 : n + 1 < fb 64 := by rw [fb64]; omega
  rw [fR_some _ _ _ _ (by rw [List.drop_left]; exact ri_fco n h64 t), ptd_sum _ h64]
  obtain ⟨x, xs, e, hx, hd, _, _⟩ := ptd_ne (n + 1) h64 (by omega)
  rw [e]
  rw [if_neg (by show ¬ 63 < x; omega), if_neg (by omega)]
  rfl
theorem fR_bad (l : List Bool) (s : Nat) (h : (fR l s).2.2 ≠ 0) : fR l s = (0, 0, (fR l s).2.2) := by
  cases e : ri (l.drop s) 0 false [] with
  | none => rw [fR_none l s e]
  | some r =>
    obtain ⟨d, k⟩ := r
    rw [fR_some l s d k e] at h ⊢
    by_cases h1 : 63 < d.headD 0
    · rw [if_pos h1]
    · rw [if_neg h1] at h ⊢
      by_cases h2 : 1099511627777 < fsum d
      · rw [if_pos h2]
      · rw [if_neg h2] at h; exact absurd rfl h
theorem fR_bound (l : List Bool) (s : Nat) (hs : s ≤ l.length) : (fR l s).2.1 ≤ l.length ∧ (fR l s).1 ≤ 1099511627776 := by
  cases e : ri (l.drop s) 0 false [] with
  | none => rw [fR_none l s e]; simp
  | some r =>
    obtain ⟨d, k⟩ := r
    have := (ri_start _ d k e).2.2.2
    rw [List.length_drop] at this
    rw [fR_some l s d k e]
    by_cases h1 : 63 < d.headD 0
    · rw [if_pos h1]; simp
    · rw [if_neg h1]
      by_cases h2 : 1099511627777 < fsum d
      · rw [if_pos h2]; simp
      · rw [if_neg h2]; exact ⟨by simp only; omega, by simp only; omega⟩

/-- How long a code is. -/
theorem fco_length (n : Nat) (hn : n + 1 < fb 64) : ∃ x, (fco n).length = x + 2 ∧ x < 64 ∧ fb x ≤ n + 1 ∧ n + 1 < fb (x + 1) := by
  obtain ⟨x, xs, e, hx, hd, h1, h2⟩ := ptd_ne (n + 1) hn (by omega)
  refine ⟨x, ?_, hx, h1, h2⟩
  unfold fco
  rw [e, List.length_append, fz_cons_length x xs hd]; rfl
theorem fco_mono (a b : Nat) (ha : a + 1 < fb 64) (hb : b + 1 < fb 64) (h : a ≤ b) : (fco a).length ≤ (fco b).length := by
  obtain ⟨x, e1, _, h1, _⟩ := fco_length a ha
  obtain ⟨y, e2, _, _, h2⟩ := fco_length b hb
  have := fb_inj (Nat.lt_of_le_of_lt (Nat.le_trans h1 (by omega)) h2)
  omega

/-- A bit is set where there was none. -/
theorem lor_pow (e : Nat) : ∀ a, a / 2 ^ e % 2 = 0 → a ||| 2 ^ e = a + 2 ^ e := by
  induction e with
  | zero =>
    intro a h
    simp at h
    have h1 : (a ||| 2 ^ 0) / 2 = a / 2 := by rw [Nat.or_div_two]; simp
    have h2 : (a ||| 2 ^ 0) % 2 = 1 := Nat.or_mod_two_eq_one.2 (.inr rfl)
    simp only [Nat.pow_zero] at *
    omega
  | succ e ih =>
    intro a h
    have hp : 2 ^ (e + 1) = 2 * 2 ^ e := by rw [Nat.pow_succ, Nat.mul_comm]
    have h1 : (a ||| 2 ^ (e + 1)) / 2 = a / 2 + 2 ^ e := by
      rw [Nat.or_div_two, hp, Nat.mul_div_cancel_left _ (by omega)]
      exact ih (a / 2) (by rw [Nat.div_div_eq_div_mul, ← hp]; exact h)
    have h2 : (a ||| 2 ^ (e + 1)) % 2 = a % 2 := by
      have := Nat.or_mod_two_eq_one (a := a) (b := 2 ^ (e + 1))
      have h3 : 2 ^ (e + 1) % 2 = 0 := by rw [hp]; omega
      rw [h3] at this
      have h4 := Nat.mod_lt (a ||| 2 ^ (e + 1)) (show 2 > 0 by omega)
      have h5 := Nat.mod_lt a (show 2 > 0 by omega)
      by_cases h6 : a % 2 = 1
      · rw [this.2 (.inl h6), h6]
      · have h7 : ¬ (a ||| 2 ^ (e + 1)) % 2 = 1 := by
          intro h8
          rcases this.1 h8 with h9 | h9
          · exact h6 h9
          · omega
        omega
    omega
/-- The number whose bits are the code's, part by part. -/
def fcn (x : Nat) (d : List Nat) : Nat := 1 + num (fz d) * 2 ^ (x + 2 - (fz d).length)
theorem fcn_nil (x : Nat) : fcn x [] = 1 := by simp [fcn, fz, num]
theorem num_fz_cons (i : Nat) (d : List Nat) (hd : Dz (i - 1) d) : num (fz (i :: d)) = num (fz d) * 2 ^ (i + 1 - (fz d).length) + 1 := by
  have hl := fz_len_le i d hd
  simp only [fz]
  rw [f_num_append]
  have hz : ∀ m, num (List.replicate m false) = 0 := by
    intro m
    induction m with
    | zero => rfl
    | succ m ih => rw [List.replicate_succ, f_num_cons, ih]; simp
  rw [f_num_append, hz, List.length_append, List.length_replicate]
  simp [num]
  congr 2
  omega
theorem fcn_cons (x i : Nat) (d : List Nat) (hi : i ≤ x) (hd : Dz (i - 1) d) : fcn x d ||| 2 ^ (x + 1 - i) = fcn x (i :: d) := by
  have hl := fz_len_le i d hd
  have e1 := fz_cons_length i d hd
  have hne : (fz d).length = i → i = 0 := by omega
  have key : num (fz (i :: d)) * 2 ^ (x + 2 - (fz (i :: d)).length) = num (fz d) * 2 ^ (x + 2 - (fz d).length) + 2 ^ (x + 1 - i) := by
    rw [num_fz_cons i d hd, e1, Nat.add_mul, Nat.one_mul, Nat.mul_assoc, ← Nat.pow_add]
    rw [show i + 1 - (fz d).length + (x + 2 - (i + 1)) = x + 2 - (fz d).length by omega, show x + 2 - (i + 1) = x + 1 - i by omega]
  unfold fcn
  rw [key, lor_pow]
  · omega
  · rcases Nat.eq_zero_or_pos (fz d).length with h0 | h0
    · have : num (fz d) = 0 := by rw [List.eq_nil_of_length_eq_zero h0]; rfl
      rw [this, Nat.zero_mul, Nat.div_eq_of_lt (Nat.one_lt_two_pow (by omega))]
    · have e2 : x + 2 - (fz d).length = (x + 1 - i) + 1 + (i - (fz d).length) := by omega
      have e3 : num (fz d) * 2 ^ (x + 2 - (fz d).length) = 2 ^ (x + 1 - i) * (2 * (num (fz d) * 2 ^ (i - (fz d).length))) := by
        rw [e2, Nat.pow_add, Nat.pow_succ, Nat.mul_comm (num (fz d)), Nat.mul_assoc, Nat.mul_assoc, Nat.mul_comm (2 ^ (i - (fz d).length)) (num (fz d))]
      rw [e3, Nat.add_comm, Nat.mul_add_div (Nat.two_pow_pos _), Nat.div_eq_of_lt (Nat.one_lt_two_pow (by omega))]
      omega
theorem fcn_bits (x : Nat) (xs : List Nat) (h : Dz (x - 1) xs) : nb (fcn x (x :: xs)) (x + 2) = fz (x :: xs) ++ [true] := by
  have e : num (fz (x :: xs) ++ [true]) = fcn x (x :: xs) := by
    rw [num_snoc, fcn, fz_cons_length x xs h, show x + 2 - (x + 1) = 1 by omega]
    simp
    omega
  have hl : (fz (x :: xs) ++ [true]).length = x + 2 := by rw [List.length_append, fz_cons_length x xs h]; rfl
  rw [← e, ← hl, f_nb_num]
theorem fcn_lt (x : Nat) (d : List Nat) (h : (fz d).length ≤ x + 1) : fcn x d < 2 ^ (x + 2) := by
  have h1 := num_lt (fz d)
  have h2 : 2 ^ (x + 2) = 2 ^ (fz d).length * 2 ^ (x + 2 - (fz d).length) := by rw [← Nat.pow_add]; congr 1; omega
  have h3 : 1 < 2 ^ (x + 2 - (fz d).length) := Nat.one_lt_two_pow (by omega)
  unfold fcn
  have h4 : (num (fz d) + 1) * 2 ^ (x + 2 - (fz d).length) ≤ 2 ^ (fz d).length * 2 ^ (x + 2 - (fz d).length) := Nat.mul_le_mul_right _ h1
  rw [Nat.add_mul, Nat.one_mul] at h4
  omega
end Go.Proofs.YtjogccpnhcnedaaDoor
