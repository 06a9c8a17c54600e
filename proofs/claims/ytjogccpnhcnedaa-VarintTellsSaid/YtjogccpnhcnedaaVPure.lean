/- Plain facts on numbers written as bytes of seven bits, and on reading them; nothing here speaks of a program; each fact names its conditions. -/
namespace Go.Proofs.Ytjogccpnhcnedaa

/-- The bytes of a number. -/
def vb (n : Nat) : List Nat := if n < 128 then [n] else (n % 128 + 128) :: vb (n / 128)
termination_by n
decreasing_by omega
theorem vb_lt (n : Nat) (h : n < 128) : vb n = [n] := by rw [vb, if_pos h]
theorem vb_ge (n : Nat) (h : 128 ≤ n) : vb n = (n % 128 + 128) :: vb (n / 128) := by rw [vb, if_neg (by omega)]
theorem vb_bytes (n : Nat) : ∀ b ∈ vb n, b < 256 := by
  induction n using Nat.strongRecOn with
  | _ n ih =>
    intro b hb
    by_cases h : n < 128
    · rw [vb_lt n h] at hb; simp at hb; omega
    · rw [vb_ge n (by omega)] at hb
      rcases List.mem_cons.1 hb with rfl | hb
      · omega
      · exact ih (n / 128) (by omega) b hb
theorem vb_pos (n : Nat) : 1 ≤ (vb n).length := by
  by_cases h : n < 128
  · rw [vb_lt n h]; simp
  · rw [vb_ge n (by omega)]; simp
theorem vb_ne (n : Nat) : vb n ≠ [] := by
  intro h
  have := vb_pos n
  rw [h] at this
  simp at this
theorem vb_len : ∀ (k n : Nat), n < 128 ^ (k + 1) → (vb n).length ≤ k + 1 := by
  intro k
  induction k with
  | zero => intro n h; rw [vb_lt n (by simpa using h)]; simp
  | succ k ih =>
    intro n h
    by_cases h1 : n < 128
    · rw [vb_lt n h1]; simp
    · rw [vb_ge n (by omega)]
      have := ih (n / 128) (by rw [Nat.pow_succ] at h; exact Nat.div_lt_of_lt_mul (by omega))
      simp; omega
theorem vb_ten (n : Nat) (h : n < 18446744073709551616) : (vb n).length ≤ 10 := vb_len 9 n (by omega)
theorem vb_mono (b : Nat) : ∀ a, a ≤ b → (vb a).length ≤ (vb b).length := by
  induction b using Nat.strongRecOn with
  | _ b ih =>
    intro a h
    by_cases h1 : a < 128
    · rw [vb_lt a h1]; exact vb_pos b
    · rw [vb_ge a (by omega), vb_ge b (by omega)]
      have := ih (b / 128) (by omega) (a / 128) (Nat.div_le_div_right h)
      simp; omega

/-- The bytes of several numbers. -/
def vbs (ns : List Nat) : List Nat := ns.flatMap vb
theorem vbs_nil : vbs [] = [] := rfl
theorem vbs_cons (n : Nat) (ns : List Nat) : vbs (n :: ns) = vb n ++ vbs ns := by simp [vbs]
theorem vbs_append (a b : List Nat) : vbs (a ++ b) = vbs a ++ vbs b := by simp [vbs]
theorem vbs_snoc (a : List Nat) (n : Nat) : vbs (a ++ [n]) = vbs a ++ vb n := by rw [vbs_append]; simp [vbs]
theorem vbs_bytes (ns : List Nat) : ∀ b ∈ vbs ns, b < 256 := by
  intro b hb
  simp only [vbs, List.mem_flatMap] at hb
  obtain ⟨n, _, h⟩ := hb
  exact vb_bytes n b h
theorem vbs_len (ns : List Nat) : ns.length ≤ (vbs ns).length := by
  induction ns with
  | nil => simp [vbs]
  | cons n ns ih => rw [vbs_cons, List.length_append]; have := vb_pos n; simp; omega
theorem vbs_take_le (ns : List Nat) (i : Nat) : (vbs (ns.take i)).length ≤ (vbs ns).length := by
  have e : ns = ns.take i ++ ns.drop i := (List.take_append_drop i ns).symm
  have h2 : (vbs ns).length = (vbs (ns.take i)).length + (vbs (ns.drop i)).length := by
    conv => lhs; rw [e]
    rw [vbs_append, List.length_append]
  omega

/-- What is read, from place k on: the number, the place after it, and an error. -/
def vr : Nat → Nat → List Nat → Nat × Nat × Int
  | _, _, [] => (0, 0, 7)
  | k, acc, x :: xs => if k = 9 ∧ 1 < x then (0, 0, 3) else if 0 < k ∧ x = 0 then (0, 0, 1) else
      if x < 128 then (acc + x % 128 * 128 ^ k, k + 1, 0) else vr (k + 1) (acc + x % 128 * 128 ^ k) xs
theorem vr_nil (k acc : Nat) : vr k acc [] = (0, 0, 7) := rfl
theorem vr_range (acc x : Nat) (xs : List Nat) (h : 1 < x) : vr 9 acc (x :: xs) = (0, 0, 3) := by rw [vr, if_pos ⟨rfl, h⟩]
theorem vr_form (k acc : Nat) (xs : List Nat) (h : 0 < k) : vr k acc (0 :: xs) = (0, 0, 1) := by rw [vr, if_neg (by omega), if_pos ⟨h, rfl⟩]
theorem vr_last (k acc x : Nat) (xs : List Nat) (h1 : ¬ (k = 9 ∧ 1 < x)) (h2 : ¬ (0 < k ∧ x = 0)) (h3 : x < 128) : vr k acc (x :: xs) = (acc + x % 128 * 128 ^ k, k + 1, 0) := by rw [vr, if_neg h1, if_neg h2, if_pos h3]
theorem vr_more (k acc x : Nat) (xs : List Nat) (h1 : ¬ (k = 9 ∧ 1 < x)) (h3 : 128 ≤ x) : vr k acc (x :: xs) = vr (k + 1) (acc + x % 128 * 128 ^ k) xs := by rw [vr, if_neg h1, if_neg (by omega), if_neg (by omega)]

theorem pow9 : (128 : Nat) ^ 9 = 9223372036854775808 := by decide
theorem pow_le9 (k : Nat) (h : k ≤ 9) : (128 : Nat) ^ k ≤ 9223372036854775808 := by rw [← pow9]; exact Nat.pow_le_pow_right (by omega) h

/-- A number is read from its bytes. -/
theorem vr_vb (n : Nat) : ∀ (k acc : Nat) (rest : List Nat), k ≤ 9 → n * 128 ^ k < 18446744073709551616 → (0 < k → n ≠ 0) → vr k acc (vb n ++ rest) = (acc + n * 128 ^ k, k + (vb n).length, 0) := by
  induction n using Nat.strongRecOn with
  | _ n ih =>
    intro k acc rest hk hn h0
    have hp : 0 < (128 : Nat) ^ k := Nat.pow_pos (by omega)
    have h9 : k = 9 → n < 2 := by
      intro e
      rw [e, pow9] at hn
      omega
    by_cases h : n < 128
    · rw [vb_lt n h, List.singleton_append, vr_last k acc n rest (by omega) (by omega) h, Nat.mod_eq_of_lt h]
      rfl
    · rw [vb_ge n (by omega), List.cons_append, vr_more k acc _ _ (by omega) (by omega)]
      have hk9 : k ≠ 9 := by omega
      have e1 : (n % 128 + 128) % 128 = n % 128 := by omega
      have e2 : n * 128 ^ k = n % 128 * 128 ^ k + n / 128 * 128 ^ (k + 1) := by
        have e := Nat.mod_add_div n 128
        have e3 : n / 128 * 128 ^ (k + 1) = 128 * (n / 128) * 128 ^ k := by rw [Nat.pow_succ, Nat.mul_comm 128 (n / 128), Nat.mul_assoc, Nat.mul_comm (128 ^ k) 128]
        rw [e3, ← Nat.add_mul, e]
      have hn2 : n / 128 * 128 ^ (k + 1) < 18446744073709551616 := Nat.lt_of_le_of_lt (by omega) hn
      rw [e1, ih (n / 128) (by omega) (k + 1) _ rest (by omega) hn2 (by omega), e2, List.length_cons]
      congr 1
      · omega
      · congr 1; omega

/-- What is read was written so. -/
theorem vr_conv : ∀ (bs : List Nat) (k acc v k' : Nat), (∀ b ∈ bs, b < 256) → k ≤ 9 → vr k acc bs = (v, k', 0) →
    ∃ m rest, bs = vb m ++ rest ∧ v = acc + m * 128 ^ k ∧ k' = k + (vb m).length ∧ m * 128 ^ k + 128 ^ k ≤ 18446744073709551616 ∧ (0 < k → m ≠ 0) := by
  intro bs
  induction bs with
  | nil => intro k acc v k' _ _ h; simp [vr] at h
  | cons x xs ih =>
    intro k acc v k' hb hk h
    have hx : x < 256 := hb x (by simp)
    have hp : 0 < (128 : Nat) ^ k := Nat.pow_pos (by omega)
    by_cases h1 : k = 9 ∧ 1 < x
    · obtain ⟨rfl, h1⟩ := h1; rw [vr_range acc x xs h1] at h; simp at h
    · by_cases h2 : 0 < k ∧ x = 0
      · obtain ⟨h2, rfl⟩ := h2; rw [vr_form k acc xs h2] at h; simp at h
      · by_cases h3 : x < 128
        · rw [vr_last k acc x xs h1 h2 h3] at h
          simp only [Prod.mk.injEq, and_true] at h
          obtain ⟨rfl, rfl⟩ := h
          refine ⟨x, xs, by rw [vb_lt x h3]; rfl, by rw [Nat.mod_eq_of_lt h3], by rw [vb_lt x h3]; rfl, ?_, by omega⟩
          by_cases h9 : k = 9
          · have : x ≤ 1 := by omega
            subst h9
            rw [pow9]
            omega
          · have e1 : x * 128 ^ k ≤ 127 * 128 ^ k := Nat.mul_le_mul_right _ (by omega)
            have e2 := pow_le9 (k + 1) (by omega)
            rw [Nat.pow_succ] at e2
            omega
        · rw [vr_more k acc x xs h1 (by omega)] at h
          have hk9 : k ≠ 9 := by omega
          obtain ⟨m, rest, rfl, rfl, rfl, hm, h0⟩ := ih (k + 1) _ v k' (fun b h => hb b (by simp [h])) (by omega) h
          have hm0 := h0 (by omega)
          have e1 : (x % 128 + 128 * m) % 128 = x % 128 := by omega
          have e2 : (x % 128 + 128 * m) / 128 = m := by omega
          have e3 : x % 128 + 128 = x := by omega
          have e4 : m * 128 ^ (k + 1) = 128 * m * 128 ^ k := by rw [Nat.pow_succ, Nat.mul_comm 128 m, Nat.mul_assoc, Nat.mul_comm (128 ^ k) 128]
          have e5 : (x % 128 + 128 * m) * 128 ^ k = x % 128 * 128 ^ k + m * 128 ^ (k + 1) := by rw [e4, Nat.add_mul]
          refine ⟨x % 128 + 128 * m, rest, ?_, ?_, ?_, ?_, by omega⟩
          · rw [vb_ge (x % 128 + 128 * m) (by omega), e1, e2, e3]; rfl
          · rw [e5]; omega
          · rw [vb_ge (x % 128 + 128 * m) (by omega), e2]; simp; omega
          · rw [e5]
            have e6 : x % 128 * 128 ^ k ≤ 127 * 128 ^ k := Nat.mul_le_mul_right _ (by omega)
            have e7 : (128 : Nat) ^ (k + 1) = 128 * 128 ^ k := by rw [Nat.pow_succ, Nat.mul_comm]
            generalize m * 128 ^ (k + 1) = mm at *
            omega

/-- With an error nothing comes back, and it is one of three. -/
theorem vr_err : ∀ (bs : List Nat) (k acc : Nat), (vr k acc bs).2.2 ≠ 0 → vr k acc bs = (0, 0, (vr k acc bs).2.2) := by
  intro bs
  induction bs with
  | nil => intro k acc _; rfl
  | cons x xs ih =>
    intro k acc h
    by_cases h1 : k = 9 ∧ 1 < x
    · obtain ⟨rfl, h1⟩ := h1; rw [vr_range acc x xs h1]
    · by_cases h2 : 0 < k ∧ x = 0
      · obtain ⟨h2, rfl⟩ := h2; rw [vr_form k acc xs h2]
      · by_cases h3 : x < 128
        · rw [vr_last k acc x xs h1 h2 h3] at h; simp at h
        · rw [vr_more k acc x xs h1 (by omega)] at h ⊢
          exact ih _ _ h
theorem vr_errs : ∀ (bs : List Nat) (k acc : Nat), (vr k acc bs).2.2 = 0 ∨ (vr k acc bs).2.2 = 1 ∨ (vr k acc bs).2.2 = 3 ∨ (vr k acc bs).2.2 = 7 := by
  intro bs
  induction bs with
  | nil => intro k acc; simp [vr]
  | cons x xs ih =>
    intro k acc
    by_cases h1 : k = 9 ∧ 1 < x
    · obtain ⟨rfl, h1⟩ := h1; rw [vr_range acc x xs h1]; simp
    · by_cases h2 : 0 < k ∧ x = 0
      · obtain ⟨h2, rfl⟩ := h2; rw [vr_form k acc xs h2]; simp
      · by_cases h3 : x < 128
        · rw [vr_last k acc x xs h1 h2 h3]; simp
        · rw [vr_more k acc x xs h1 (by omega)]; exact ih _ _

/-- Cut off, it ends too soon. -/
theorem vr_cut (n : Nat) : ∀ (k acc i : Nat), k ≤ 9 → n * 128 ^ k < 18446744073709551616 → (0 < k → n ≠ 0) → i < (vb n).length → vr k acc ((vb n).take i) = (0, 0, 7) := by
  induction n using Nat.strongRecOn with
  | _ n ih =>
    intro k acc i hk hn h0 hi
    cases i with
    | zero => rfl
    | succ i =>
      by_cases h : n < 128
      · rw [vb_lt n h] at hi; simp at hi
      · have h9 : k ≠ 9 := by
          intro e
          rw [e, pow9] at hn
          omega
        rw [vb_ge n (by omega)] at hi ⊢
        rw [List.take_succ_cons, vr_more k acc _ _ (by omega) (by omega)]
        have e2 : n / 128 * 128 ^ (k + 1) ≤ n * 128 ^ k := by
          rw [Nat.pow_succ, Nat.mul_comm (128 ^ k) 128, ← Nat.mul_assoc]
          exact Nat.mul_le_mul_right _ (by omega)
        exact ih (n / 128) (by omega) (k + 1) _ i (by omega) (by omega) (by omega) (by simp at hi; omega)

theorem vr_ok (bs : List Nat) (hb : ∀ b ∈ bs, b < 256) (h : (vr 0 0 bs).2.2 = 0) : ∃ m rest, bs = vb m ++ rest ∧ vr 0 0 bs = (m, (vb m).length, 0) ∧ m < 18446744073709551616 := by
  obtain ⟨m, rest, h1, h2, h3, h4, _⟩ := vr_conv bs 0 0 (vr 0 0 bs).1 (vr 0 0 bs).2.1 hb (by omega) (by rw [← h])
  refine ⟨m, rest, h1, ?_, by simp at h4; omega⟩
  have e : vr 0 0 bs = ((vr 0 0 bs).1, (vr 0 0 bs).2.1, (vr 0 0 bs).2.2) := rfl
  rw [e, h2, h3, h]
  simp
theorem vr_app (m : Nat) (rest : List Nat) (h : m < 18446744073709551616) : vr 0 0 (vb m ++ rest) = (m, (vb m).length, 0) := by
  rw [vr_vb m 0 0 rest (by omega) (by omega) (by omega)]
  simp

/-- All numbers, behind those that have come. -/
def va : Nat → List Nat → List Nat → List Nat × Int
  | 0, acc, _ => (acc, 0)
  | f + 1, acc, bs => if bs = [] then (acc, 0) else if (vr 0 0 bs).2.2 = 0 then va f (acc ++ [(vr 0 0 bs).1]) (bs.drop (vr 0 0 bs).2.1) else ([], (vr 0 0 bs).2.2)
theorem va_nil (f : Nat) (acc : List Nat) : va f acc [] = (acc, 0) := by cases f <;> simp [va]
theorem va_err (f : Nat) (acc bs : List Nat) (h : bs ≠ []) (e : (vr 0 0 bs).2.2 ≠ 0) : va (f + 1) acc bs = ([], (vr 0 0 bs).2.2) := by rw [va, if_neg h, if_neg e]
theorem va_ok (f : Nat) (acc bs : List Nat) (h : bs ≠ []) (e : (vr 0 0 bs).2.2 = 0) : va (f + 1) acc bs = va f (acc ++ [(vr 0 0 bs).1]) (bs.drop (vr 0 0 bs).2.1) := by rw [va, if_neg h, if_pos e]
theorem va_vbs : ∀ (ns : List Nat) (f : Nat) (acc : List Nat), ns.length ≤ f → (∀ n ∈ ns, n < 18446744073709551616) → va f acc (vbs ns) = (acc ++ ns, 0) := by
  intro ns
  induction ns with
  | nil => intro f acc _ _; rw [vbs_nil, va_nil, List.append_nil]
  | cons n ns ih =>
    intro f acc hf hn
    cases f with
    | zero => simp at hf
    | succ f =>
      have e := vr_app n (vbs ns) (hn n (by simp))
      rw [vbs_cons, va_ok f acc _ (by intro h; exact vb_ne n (List.append_eq_nil_iff.1 h).1) (by rw [e])]
      rw [e, List.drop_left, ih f _ (by simpa using hf) (fun x hx => hn x (by simp [hx]))]
      simp
theorem va_conv : ∀ (f : Nat) (bs acc r : List Nat), bs.length ≤ f → (∀ b ∈ bs, b < 256) → va f acc bs = (r, 0) → ∃ ns, r = acc ++ ns ∧ bs = vbs ns ∧ ∀ n ∈ ns, n < 18446744073709551616 := by
  intro f
  induction f with
  | zero =>
    intro bs acc r hf hb h
    have e : bs = [] := List.eq_nil_of_length_eq_zero (by omega)
    subst e
    rw [va_nil] at h
    simp only [Prod.mk.injEq, and_true] at h
    exact ⟨[], by simp [h], rfl, by simp⟩
  | succ f ih =>
    intro bs acc r hf hb h
    by_cases e : bs = []
    · subst e
      rw [va_nil] at h
      simp only [Prod.mk.injEq, and_true] at h
      exact ⟨[], by simp [h], rfl, by simp⟩
    · by_cases e2 : (vr 0 0 bs).2.2 = 0
      · rw [va_ok f acc bs e e2] at h
        obtain ⟨m, rest, rfl, h1, hm⟩ := vr_ok bs hb e2
        rw [h1] at h
        simp only [List.drop_left] at h
        obtain ⟨ns, rfl, rfl, hn⟩ := ih rest _ r (by rw [List.length_append] at hf; have := vb_pos m; omega) (fun b hh => hb b (by simp [hh])) h
        refine ⟨m :: ns, by simp, by rw [vbs_cons], ?_⟩
        intro n hn'
        rcases List.mem_cons.1 hn' with rfl | hn'
        · exact hm
        · exact hn n hn'
      · rw [va_err f acc bs e e2] at h
        simp only [Prod.mk.injEq] at h
        exact absurd h.2 e2
theorem va_bad : ∀ (f : Nat) (acc bs : List Nat), (va f acc bs).2 ≠ 0 → va f acc bs = ([], (va f acc bs).2) := by
  intro f
  induction f with
  | zero => intro acc bs h; simp [va] at h
  | succ f ih =>
    intro acc bs h
    by_cases e : bs = []
    · subst e; rw [va_nil] at h; simp at h
    · by_cases e2 : (vr 0 0 bs).2.2 = 0
      · rw [va_ok f acc bs e e2] at h ⊢; exact ih _ _ h
      · rw [va_err f acc bs e e2]

/-- Numbers below 2^64. -/
def u64s (ns : List Nat) : Prop := ∀ n ∈ ns, n < 18446744073709551616
/-- What All answers. -/
def allR (bs : List Nat) : List Nat × Int := if 4096 < bs.length then ([], 2) else va bs.length [] bs
theorem allR_ok (bs : List Nat) (hb : ∀ b ∈ bs, b < 256) (h : (allR bs).2 = 0) : ∃ ns, allR bs = (ns, 0) ∧ bs = vbs ns ∧ u64s ns ∧ bs.length ≤ 4096 := by
  unfold allR at h ⊢
  by_cases hl : 4096 < bs.length
  · rw [if_pos hl] at h; simp at h
  · rw [if_neg hl] at h ⊢
    obtain ⟨ns, h1, h2, h3⟩ := va_conv bs.length bs [] (va bs.length [] bs).1 (Nat.le_refl _) hb (by rw [← h])
    refine ⟨ns, ?_, h2, h3, by omega⟩
    have e : va bs.length [] bs = ((va bs.length [] bs).1, (va bs.length [] bs).2) := rfl
    rw [e, h1, h]
    simp
theorem allR_bad (bs : List Nat) (h : (allR bs).2 ≠ 0) : allR bs = ([], (allR bs).2) := by
  unfold allR at h ⊢
  by_cases hl : 4096 < bs.length
  · rw [if_pos hl]
  · rw [if_neg hl] at h ⊢; exact va_bad _ _ _ h
theorem allR_vbs (ns : List Nat) (h : u64s ns) (hl : (vbs ns).length ≤ 4096) : allR (vbs ns) = (ns, 0) := by
  unfold allR
  rw [if_neg (by omega), va_vbs ns _ [] (vbs_len ns) h]
  simp
end Go.Proofs.Ytjogccpnhcnedaa
