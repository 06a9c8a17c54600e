/- Plain facts: bits in order, and that a neighbour is enough to be looked at. No condition but those that each fact names. -/
import Derived.Test.YthfjfkbolfnkkaaKP3
namespace Go.Proofs.Ythfjfkbolfnkkaa
set_option linter.unusedVariables false

/-- Bytes in order. -/
def cmpB : List Nat → List Nat → Int
  | [], [] => 0
  | [], _ :: _ => -1
  | _ :: _, [] => 1
  | x :: a, y :: b => if x < y then -1 else if y < x then 1 else cmpB a b
/-- The number of bytes, with room for n. -/
def vB : Nat → List Nat → Nat
  | _, [] => 0
  | n, x :: a => x * 256 ^ (n - 1) + vB (n - 1) a
theorem vB_lt : ∀ (a : List Nat) (n : Nat), (∀ x ∈ a, x < 256) → a.length ≤ n → vB n a < 256 ^ n
  | [], n, _, _ => Nat.pow_pos (by omega)
  | x :: a, n, h, hl => by
    obtain ⟨m, rfl⟩ : ∃ m, n = m + 1 := ⟨n - 1, by simp at hl; omega⟩
    have ih := vB_lt a m (fun y hy => h y (List.mem_cons_of_mem _ hy)) (by simpa using hl)
    have hx := h x List.mem_cons_self
    unfold vB
    rw [Nat.add_sub_cancel, Nat.pow_succ]
    have : x * 256 ^ m ≤ 255 * 256 ^ m := Nat.mul_le_mul_right _ (by omega)
    omega
theorem cmpB_key : ∀ (a b : List Nat) (n : Nat), (∀ x ∈ a, x < 256) → (∀ x ∈ b, x < 256) → a.length ≤ n → b.length ≤ n →
    (cmpB a b < 0 ↔ vB n a < vB n b ∨ (vB n a = vB n b ∧ a.length < b.length)) ∧ (cmpB a b = 0 ↔ a = b)
  | [], [], n, _, _, _, _ => by simp [cmpB, vB]
  | [], y :: b, n, _, _, _, _ => by
    simp [cmpB, vB]
    omega
  | x :: a, [], n, _, _, _, _ => by simp [cmpB, vB]
  | x :: a, y :: b, n, ha, hb, la, lb => by
    obtain ⟨m, rfl⟩ : ∃ m, n = m + 1 := ⟨n - 1, by simp at la; omega⟩
    have ha' := fun z hz => ha z (List.mem_cons_of_mem x hz)
    have hb' := fun z hz => hb z (List.mem_cons_of_mem y hz)
    have la' : a.length ≤ m := by simpa using la
    have lb' : b.length ≤ m := by simpa using lb
    obtain ⟨i1, i2⟩ := cmpB_key a b m ha' hb' la' lb'
    have v1 := vB_lt a m ha' la'
    have v2 := vB_lt b m hb' lb'
    unfold cmpB vB
    rw [Nat.add_sub_cancel]
    generalize 256 ^ m = M at *
    rcases Nat.lt_trichotomy x y with h | h | h
    · have hm : (x + 1) * M ≤ y * M := Nat.mul_le_mul_right M h
      rw [Nat.add_mul, Nat.one_mul] at hm
      rw [if_pos h]
      refine ⟨by constructor <;> intro _ <;> omega, by constructor <;> intro h' <;> simp at h' <;> omega⟩
    · subst h
      rw [if_neg (by omega), if_neg (by omega), i1, i2]
      refine ⟨by simp, by simp⟩
    · have hm : (y + 1) * M ≤ x * M := Nat.mul_le_mul_right M h
      rw [Nat.add_mul, Nat.one_mul] at hm
      rw [if_neg (by omega), if_pos h]
      refine ⟨by constructor <;> intro h' <;> omega, by constructor <;> intro h' <;> simp at h' <;> omega⟩
theorem cmpB_nonneg : ∀ a b : List Nat, cmpB a b = -1 ∨ cmpB a b = 0 ∨ cmpB a b = 1
  | [], [] => by simp [cmpB]
  | [], _ :: _ => by simp [cmpB]
  | _ :: _, [] => by simp [cmpB]
  | x :: a, y :: b => by
    unfold cmpB
    split
    · exact .inl rfl
    · split
      · exact .inr (.inr rfl)
      · exact cmpB_nonneg a b

/-! ### Bytes of bits -/
theorem bt_app8 (c l : List Bool) (h : c.length = 8) (i : Nat) : bt (c ++ l) (8 + i) = bt l i := by
  rw [bt_right _ _ _ (by omega), h]; congr 1; omega
theorem byteAt_app8 (c l : List Bool) (h : c.length = 8) (k : Nat) : byteAt (c ++ l) (k + 1) = byteAt l k := by
  have e : ∀ j, bt (c ++ l) (8 * (k + 1) + j) = bt l (8 * k + j) := fun j => by
    rw [show 8 * (k + 1) + j = 8 + (8 * k + j) by omega]; exact bt_app8 c l h _
  have e0 := e 0
  simp only [Nat.add_zero] at e0
  unfold byteAt
  rw [e0, e 1, e 2, e 3, e 4, e 5, e 6, e 7]
theorem byte_num (c l : List Bool) (h : c.length = 8) : byteAt (c ++ l) 0 = num c := by
  match c, h with
  | [b0, b1, b2, b3, b4, b5, b6, b7], _ =>
    unfold byteAt
    simp [bt, num]
    omega
theorem pack_app8 (c l : List Bool) (h : c.length = 8) : pack (c ++ l) = num c :: pack l := by
  apply list_ext_getD
  · simp only [pack_length, List.length_append, List.length_cons, h]; omega
  · intro k
    rw [pack_get]
    cases k with
    | zero => rw [byte_num c l h]; rfl
    | succ k => rw [byteAt_app8 c l h, List.getElem?_cons_succ, pack_get]
theorem bt_zeros (l : List Bool) (j i : Nat) : bt (l ++ List.replicate j false) i = bt l i := by
  rcases Nat.lt_or_ge i l.length with h | h
  · rw [bt_left _ _ _ h]
  · rw [bt_right _ _ _ h, bt_beyond l i h]
    unfold bt
    rw [List.getElem?_replicate]
    split <;> rfl
theorem pack_zeros (l : List Bool) (j : Nat) (h : (l.length + j + 7) / 8 = (l.length + 7) / 8) : pack (l ++ List.replicate j false) = pack l := by
  apply list_ext_getD
  · simp only [pack_length, List.length_append, List.length_replicate]; exact h
  · intro k
    rw [pack_get, pack_get]
    unfold byteAt
    simp only [bt_zeros]
theorem num_zeros (j : Nat) : num (List.replicate j false) = 0 := by
  induction j with
  | zero => rfl
  | succ j ih => rw [List.replicate_succ']; rw [num_snoc, ih]; rfl
theorem vB_full : ∀ (m : Nat) (y : List Bool) (n : Nat), y.length = 8 * m → m ≤ n → vB n (pack y) = num y * 2 ^ (8 * (n - m))
  | 0, y, n, h, _ => by
    have : y = [] := List.eq_nil_of_length_eq_zero (by omega)
    subst this
    simp [pack_nil, vB, num]
  | m + 1, y, n, h, hn => by
    have e : y = y.take 8 ++ y.drop 8 := (List.take_append_drop 8 y).symm
    have hc : (y.take 8).length = 8 := by simp; omega
    have hd : (y.drop 8).length = 8 * m := by simp; omega
    have ih := vB_full m (y.drop 8) (n - 1) hd (by omega)
    rw [e, pack_app8 _ _ hc, num_app, hd]
    unfold vB
    rw [ih, Nat.add_mul, Nat.mul_assoc, ← Nat.pow_add, show (256 : Nat) = 2 ^ 8 from rfl, ← Nat.pow_mul, show 8 * m + 8 * (n - (m + 1)) = 8 * (n - 1) by omega, show n - 1 - m = n - (m + 1) by omega]
/-- Bits, with noughts behind them, as a number. -/
def zv (l : List Bool) : Nat := num l * 2 ^ (8192 - l.length)
theorem vB_pack (l : List Bool) (h : l.length ≤ 8192) : vB 1024 (pack l) = zv l := by
  have hj : (l.length + (8 * ((l.length + 7) / 8) - l.length) + 7) / 8 = (l.length + 7) / 8 := by omega
  rw [← pack_zeros l _ hj, vB_full ((l.length + 7) / 8) _ 1024 (by simp; omega) (by omega), num_app, num_zeros, List.length_replicate, Nat.add_zero, Nat.mul_assoc, ← Nat.pow_add]
  unfold zv
  congr 2
  omega
/-- Bits in order: what is asked of two. -/
def cmpL (x y : List Bool) : Int := if cmpB (pack x) (pack y) ≠ 0 then cmpB (pack x) (pack y) else if x.length < y.length then -1 else if y.length < x.length then 1 else 0
def key (l : List Bool) : Nat := zv l * 8193 + l.length
theorem cmpL_lt (x y : List Bool) (hx : x.length ≤ 8192) (hy : y.length ≤ 8192) : cmpL x y < 0 ↔ key x < key y := by
  have lx := pack_length x
  have ly := pack_length y
  obtain ⟨h1, h2⟩ := cmpB_key (pack x) (pack y) 1024 (pack_lt x) (pack_lt y) (by omega) (by omega)
  rw [vB_pack x hx, vB_pack y hy, lx, ly] at h1
  unfold cmpL key
  by_cases h0 : cmpB (pack x) (pack y) = 0
  · have e := h2.1 h0
    have ez : zv x = zv y := by rw [← vB_pack x hx, ← vB_pack y hy, e]
    rw [if_neg (by omega), ez]
    by_cases hl : x.length < y.length
    · rw [if_pos hl]; omega
    · rw [if_neg hl]
      split <;> omega
  · rw [if_pos h0, h1]
    have ne : ¬ (zv x = zv y ∧ (x.length + 7) / 8 = (y.length + 7) / 8) := by
      rintro ⟨e1, e2⟩
      have n1 : ¬ cmpB (pack x) (pack y) < 0 := fun h => by have := h1.1 h; omega
      obtain ⟨k1, k2⟩ := cmpB_key (pack y) (pack x) 1024 (pack_lt y) (pack_lt x) (by omega) (by omega)
      have v : ∀ (a b : List Nat) (n : Nat), (∀ x ∈ a, x < 256) → (∀ x ∈ b, x < 256) → a.length ≤ n → b.length = a.length → vB n a = vB n b → a = b := by
        intro a
        induction a with
        | nil => intro b n _ _ _ hl _; exact (List.eq_nil_of_length_eq_zero (by simpa using hl)).symm
        | cons p a ih =>
          intro b n ha hb la lb hv
          match b, lb with
          | q :: b, lb =>
            obtain ⟨m, rfl⟩ : ∃ m, n = m + 1 := ⟨n - 1, by simp at la; omega⟩
            have w1 := vB_lt a m (fun z hz => ha z (List.mem_cons_of_mem _ hz)) (by simpa using la)
            have w2 := vB_lt b m (fun z hz => hb z (List.mem_cons_of_mem _ hz)) (by simp at la lb; omega)
            unfold vB at hv
            rw [Nat.add_sub_cancel] at hv
            have hpq : p = q := by
              have d1 := congrArg (· / 256 ^ m) hv
              simp only [Nat.mul_comm _ (256 ^ m)] at d1
              rw [Nat.mul_add_div (Nat.pow_pos (by omega)), Nat.mul_add_div (Nat.pow_pos (by omega)), Nat.div_eq_of_lt w1, Nat.div_eq_of_lt w2] at d1
              omega
            subst hpq
            rw [ih b m (fun z hz => ha z (List.mem_cons_of_mem _ hz)) (fun z hz => hb z (List.mem_cons_of_mem _ hz)) (by simpa using la) (by simpa using lb) (by omega)]
      exact h0 (h2.2 (v _ _ 1024 (pack_lt x) (pack_lt y) (by omega) (by omega) (by rw [vB_pack x hx, vB_pack y hy, e1])))
    constructor
    · rintro (h | ⟨h, h'⟩)
      · have := Nat.mul_le_mul_right 8193 (show zv x + 1 ≤ zv y from h)
        omega
      · rw [h]; omega
    · intro h
      rcases Nat.lt_trichotomy (zv x) (zv y) with k | k | k
      · exact .inl k
      · refine .inr ⟨k, ?_⟩
        rw [k] at h
        have := fun e => ne ⟨k, e⟩
        omega
      · have := Nat.mul_le_mul_right 8193 (show zv y + 1 ≤ zv x from k)
        omega
/-- What stands between two, of which one begins with the other, begins with it. -/
theorem between_pre (x y z : List Bool) (hx : x.length ≤ 8192) (hy : y.length ≤ 8192) (hz : z.length ≤ 8192) (h1 : key x ≤ key y) (h2 : key y ≤ key z) (hp : x <+: z) : x <+: y := by
  obtain ⟨hl, hn⟩ := (prefix_num x z).1 hp
  have zlt := Nat.lt_div_mul_add (a := num z) (Nat.two_pow_pos (z.length - x.length))
  rw [← hn] at zlt
  have z1 : num z < (num x + 1) * 2 ^ (z.length - x.length) := by rw [Nat.add_mul, Nat.one_mul]; exact zlt
  have z2 : zv z < (num x + 1) * 2 ^ (8192 - x.length) := by
    have := Nat.mul_lt_mul_of_pos_right z1 (Nat.two_pow_pos (8192 - z.length))
    rw [Nat.mul_assoc, ← Nat.pow_add, show z.length - x.length + (8192 - z.length) = 8192 - x.length by omega] at this
    exact this
  have k1 : zv x ≤ zv y := by
    rcases Nat.lt_or_ge (zv y) (zv x) with h | h
    · have := Nat.mul_le_mul_right 8193 (show zv y + 1 ≤ zv x from h)
      unfold key at h1
      omega
    · exact h
  have k2 : zv y ≤ zv z := by
    rcases Nat.lt_or_ge (zv z) (zv y) with h | h
    · have := Nat.mul_le_mul_right 8193 (show zv z + 1 ≤ zv y from h)
      unfold key at h2
      omega
    · exact h
  have xe : zv x = num x * 2 ^ (8192 - x.length) := rfl
  rcases Nat.lt_or_ge y.length x.length with hlt | hge
  · exfalso
    have ye : zv y = num y * 2 ^ (x.length - y.length) * 2 ^ (8192 - x.length) := by
      unfold zv
      rw [Nat.mul_assoc, ← Nat.pow_add]
      congr 2; omega
    have e : zv y = zv x := by
      have k3 := Nat.lt_of_le_of_lt k2 z2
      rw [ye, xe] at k1
      rw [ye] at k3
      have a1 := Nat.le_of_mul_le_mul_right k1 (Nat.two_pow_pos _)
      have a2 := Nat.lt_of_mul_lt_mul_right k3
      rw [ye, xe]
      congr 1
      omega
    unfold key at h1
    rw [e] at h1
    omega
  · rw [prefix_num]
    refine ⟨hge, ?_⟩
    have ye : zv y = num y * 2 ^ (8192 - y.length) := rfl
    have e0 : 8192 - x.length = (y.length - x.length) + (8192 - y.length) := by omega
    rw [xe, e0, Nat.pow_add, ← Nat.mul_assoc, ye] at k1
    have a1 := Nat.le_of_mul_le_mul_right k1 (Nat.two_pow_pos _)
    have a2' := Nat.lt_of_le_of_lt k2 z2
    rw [e0, Nat.pow_add, ← Nat.mul_assoc, ye] at a2'
    have a2 := Nat.lt_of_mul_lt_mul_right a2'
    exact (Nat.div_eq_of_lt_le a1 a2).symm
theorem key_inj (x y : List Bool) (hx : x.length ≤ 8192) (hy : y.length ≤ 8192) (h : key x = key y) : x = y := by
  unfold key at h
  have h1 : x.length = y.length := by omega
  have h2 : zv x = zv y := by omega
  unfold zv at h2
  rw [h1] at h2
  exact num_inj h1 (Nat.mul_right_cancel (Nat.two_pow_pos _) h2)
theorem key_pre (x y : List Bool) (hx : x.length ≤ 8192) (hy : y.length ≤ 8192) (h : x <+: y) : key x ≤ key y := by
  obtain ⟨hl, hn⟩ := (prefix_num x y).1 h
  have h1 : num x * 2 ^ (y.length - x.length) ≤ num y := by rw [hn]; exact Nat.div_mul_le_self _ _
  have h2 := Nat.mul_le_mul_right (2 ^ (8192 - y.length)) h1
  rw [Nat.mul_assoc, ← Nat.pow_add, show y.length - x.length + (8192 - y.length) = 8192 - x.length by omega] at h2
  have h3 : zv x ≤ zv y := by unfold zv; exact h2
  have h4 := Nat.mul_le_mul_right 8193 h3
  exact Nat.add_le_add h4 hl

/-- Does one begin with the one ahead? -/
def adj : List Bool → List (List Bool) → Bool
  | _, [] => true
  | b, x :: t => if b ≠ [] ∧ b <+: x then false else adj x t
theorem adj_true : ∀ (t : List (List Bool)) (b : List Bool), b.length ≤ 8192 → (∀ x ∈ t, x.length ≤ 8192) → (b :: t).Pairwise (fun x y => key x ≤ key y) →
    (adj b t = true ↔ ((b :: t).filter (fun x => !x.isEmpty)).Pairwise pf)
  | [], b, _, _, _ => by
    unfold adj
    cases b <;> simp
  | x :: t, b, hb, ht, hs => by
    have h1 := List.pairwise_cons.1 hs
    have hx := ht x List.mem_cons_self
    have ih := adj_true t x hx (fun y hy => ht y (List.mem_cons_of_mem _ hy)) h1.2
    unfold adj
    by_cases hb0 : b = []
    · subst hb0
      rw [if_neg (by simp), ih]
      simp
    · have hf : (b :: x :: t).filter (fun x => !x.isEmpty) = b :: ((x :: t).filter (fun x => !x.isEmpty)) := by
        rw [List.filter_cons_of_pos]
        cases b with
        | nil => exact absurd rfl hb0
        | cons _ _ => rfl
      rw [hf, List.pairwise_cons, ← ih]
      by_cases hp : b <+: x
      · rw [if_pos ⟨hb0, hp⟩]
        simp only [Bool.false_eq_true, false_iff, not_and]
        intro h
        have hx0 : x ≠ [] := by
          rintro rfl
          exact hb0 (List.prefix_nil.1 hp)
        have := h x (by
          rw [List.mem_filter]
          refine ⟨List.mem_cons_self, ?_⟩
          cases x with
          | nil => exact absurd rfl hx0
          | cons _ _ => rfl)
        exact absurd hp this.1
      · rw [if_neg (fun h => hp h.2)]
        constructor
        · intro h
          refine ⟨fun z hz => ?_, h⟩
          have hz' := (List.mem_filter.1 hz)
          have hz0 : z ≠ [] := by rintro rfl; simp at hz'
          have zl := ht z hz'.1
          have kxz : key x ≤ key z := by
            rcases List.mem_cons.1 hz'.1 with rfl | h'
            · exact Nat.le_refl _
            · exact (List.pairwise_cons.1 h1.2).1 z h'
          have kbx := h1.1 x List.mem_cons_self
          have n1 : ¬ b <+: z := fun h => hp (between_pre b x z hb hx zl kbx kxz h)
          refine ⟨n1, fun h => ?_⟩
          have k := key_pre z b zl hb h
          have e := key_inj z b zl hb (by omega)
          exact n1 (e ▸ List.prefix_refl _)
        · exact fun h => h.2
end Go.Proofs.Ythfjfkbolfnkkaa
