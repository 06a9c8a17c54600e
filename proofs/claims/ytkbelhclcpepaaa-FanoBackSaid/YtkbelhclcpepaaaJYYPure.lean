/- Lists that do not decrease, as low and high parts: plain facts; no condition but those that each fact names. -/
import Derived.Test.YtkbelhclcpepaaaJYOPure
import Derived.Test.YtkbelhclcpepaaaJY3
namespace Go.Proofs.Ytkbelhclcpepaaa
set_option linter.unusedVariables false

/-- The greatest width: as often as n can be doubled and is at most top + 1. -/
def fw (n t : Nat) : Nat := Nat.log2 ((t + 1) / n)
theorem fw_zero (t : Nat) : fw 0 t = 0 := by unfold fw; rw [Nat.div_zero]; rfl
theorem fw_none (n t : Nat) (h : t + 1 < 2 * n) : fw n t = 0 := by
  unfold fw
  have h1 : (t + 1) / n ≤ 1 := by
    rcases Nat.eq_zero_or_pos n with rfl | hn
    · rw [Nat.div_zero]; omega
    · exact Nat.le_of_lt_succ ((Nat.div_lt_iff_lt_mul (x := t + 1) (y := 2) hn).2 (by omega))
  have h2 : ∀ q : Nat, q ≤ 1 → q = 0 ∨ q = 1 := by omega
  rcases h2 _ h1 with h | h <;> rw [h] <;> rfl
theorem fw_le (n t k : Nat) (hn : 1 ≤ n) (h : n * 2 ^ k ≤ t + 1) : k ≤ fw n t := by
  unfold fw
  have h1 : 2 ^ k ≤ (t + 1) / n := (Nat.le_div_iff_mul_le hn).2 (by rw [Nat.mul_comm]; exact h)
  have h0 : (t + 1) / n ≠ 0 := by have := Nat.two_pow_pos k; omega
  exact (Nat.le_log2 h0).2 h1
theorem fw_of (n t k : Nat) (hk : 1 ≤ k) (h : k ≤ fw n t) : n * 2 ^ k ≤ t + 1 := by
  unfold fw at h
  have h0 : (t + 1) / n ≠ 0 := by intro e; rw [e] at h; simp at h; omega
  have hn : 1 ≤ n := by
    rcases Nat.eq_zero_or_pos n with rfl | hn
    · rw [Nat.div_zero] at h0; exact absurd rfl h0
    · exact hn
  have := (Nat.le_div_iff_mul_le hn).1 ((Nat.le_log2 h0).1 h)
  rw [Nat.mul_comm]; exact this
/-- The loop goes on just as long as it must. -/
theorem fw_more (n t k : Nat) (hn : 1 ≤ n) : n * 2 ^ (k + 1) ≤ t + 1 ↔ k < fw n t :=
  ⟨fun h => fw_le n t (k + 1) hn h, fun h => fw_of n t (k + 1) (by omega) h⟩
theorem fw_end (n t : Nat) (hn : 1 ≤ n) : t + 1 < n * 2 ^ (fw n t + 1) := by
  have := fw_more n t (fw n t) hn
  omega
theorem fw_bound (n t : Nat) (h : t ≤ 1048576) : fw n t ≤ 20 := by
  rcases Nat.lt_or_ge (fw n t) 21 with h1 | h1
  · omega
  · have := fw_of n t 21 (by omega) h1
    have h0 : n ≠ 0 := by rintro rfl; rw [fw_zero] at h1; omega
    have : 1 * 2 ^ 21 ≤ n * 2 ^ 21 := Nat.mul_le_mul_right _ (by omega)
    omega
/-- How many high parts there are is little. -/
theorem fw_high (n t : Nat) (hn : 1 ≤ n) : t / 2 ^ fw n t + 1 ≤ 2 * n := by
  have h := fw_end n t hn
  rw [Nat.pow_succ, ← Nat.mul_assoc, Nat.mul_comm (n * 2 ^ fw n t) 2, ← Nat.mul_assoc] at h
  have := (Nat.div_lt_iff_lt_mul (Nat.two_pow_pos (fw n t))).2 (show t < 2 * n * 2 ^ fw n t by omega)
  omega

/-- The high parts as bits: noughts up to each one, a 1; noughts up to the end. -/
def hiP : Nat → List Nat → Nat → List Bool
  | p, [], H => List.replicate (H + 1 - p) false
  | p, h :: t, H => List.replicate (h - p) false ++ true :: hiP h t H
/-- What bits say of high parts. -/
def hd : Nat → List Bool → List Nat
  | _, [] => []
  | h, true :: l => h :: hd h l
  | h, false :: l => hd (h + 1) l
/-- None is less than the one ahead. -/
def Up : Nat → List Nat → Prop
  | _, [] => True
  | p, h :: t => p ≤ h ∧ Up h t
theorem hd_len (l : List Bool) : ∀ h, (hd h l).length = cnt l := by
  induction l with
  | nil => intro h; rfl
  | cons b l ih => intro h; rw [cnt_cons]; cases b <;> simp [hd, ih]
theorem hd_zeros (k : Nat) : ∀ h l, hd h (List.replicate k false ++ l) = hd (h + k) l := by
  induction k with
  | zero => intro h l; rfl
  | succ k ih => intro h l; rw [List.replicate_succ, List.cons_append, hd, ih]; congr 1; omega
theorem hd_up (l : List Bool) : ∀ h, Up h (hd h l) := by
  have mono : ∀ l p q, p ≤ q → Up q l → Up p l := by
    intro l p q h
    cases l with
    | nil => intro _; trivial
    | cons x t => rintro ⟨h1, h2⟩; exact ⟨by omega, h2⟩
  induction l with
  | nil => intro h; trivial
  | cons b l ih =>
    intro h
    cases b
    · exact mono _ _ _ (by omega) (ih (h + 1))
    · exact ⟨Nat.le_refl _, ih h⟩
theorem hiP_len (H : Nat) : ∀ (l : List Nat) (p : Nat), Up p l → (∀ x ∈ l, x ≤ H) → p ≤ H + 1 → (hiP p l H).length = l.length + (H + 1 - p)
  | [], p, _, _, _ => by simp [hiP]
  | h :: t, p, hu, hh, hp => by
    obtain ⟨h1, h2⟩ := hu
    have h3 := hh h (by simp)
    have := hiP_len H t h h2 (fun x hx => hh x (by simp [hx])) (by omega)
    simp [hiP, this]; omega
theorem hiP_cnt (H : Nat) : ∀ (l : List Nat) (p : Nat), cnt (hiP p l H) = l.length
  | [], p => by simp [hiP, cnt, List.count_replicate]
  | h :: t, p => by
    rw [hiP, cnt_append, cnt_cons, hiP_cnt H t h]
    simp [cnt, List.count_replicate]
theorem hd_zeros_nil (k h : Nat) : hd h (List.replicate k false) = [] := by
  have := hd_zeros k h []
  rw [List.append_nil] at this
  rw [this]; rfl
theorem hd_hiP (H : Nat) : ∀ (l : List Nat) (p : Nat), Up p l → hd p (hiP p l H) = l
  | [], p, _ => by rw [hiP, hd_zeros_nil]
  | h :: t, p, hu => by
    obtain ⟨h1, h2⟩ := hu
    rw [hiP, hd_zeros, show p + (h - p) = h by omega, hd, hd_hiP H t h h2]
theorem hiP_hd (H : Nat) : ∀ (l : List Bool) (p : Nat), l.length = cnt l + (H + 1 - p) → hiP p (hd p l) H = l
  | [], p, h => by
    simp [cnt] at h
    simp [hd, hiP]; omega
  | true :: l, p, h => by
    rw [cnt_cons] at h
    simp at h
    rw [hd, hiP, Nat.sub_self, hiP_hd H l p (by omega)]; rfl
  | false :: l, p, h => by
    rw [cnt_cons] at h
    simp at h
    have hc := cnt_le l
    have ih := hiP_hd H l (p + 1) (by omega)
    have hu := hd_up l (p + 1)
    rw [hd]
    conv => rhs; rw [← ih]
    cases e : hd (p + 1) l with
    | nil =>
      rw [hiP, hiP, show H + 1 - p = (H + 1 - (p + 1)) + 1 by omega, List.replicate_succ]
    | cons x t =>
      rw [e] at hu
      have := hu.1
      rw [hiP, hiP, show x - p = (x - (p + 1)) + 1 by omega, List.replicate_succ]; rfl
/-- High part by high part: as many ones as there are, and a nought. -/
def hiR (l : List Nat) (a : Nat) : Nat → List Bool
  | 0 => []
  | k + 1 => List.replicate (l.count a) true ++ false :: hiR l (a + 1) k
theorem hiR_not (x : Nat) (l : List Nat) : ∀ k a, x < a → hiR (x :: l) a k = hiR l a k
  | 0, _, _ => rfl
  | k + 1, a, h => by rw [hiR, hiR, hiR_not x l k (a + 1) (by omega), List.count_cons_of_ne (by omega)]
theorem hiR_zeros (l : List Nat) : ∀ k a j, (∀ x ∈ l, a + k ≤ x) → hiR l a (k + j) = List.replicate k false ++ hiR l (a + k) j
  | 0, a, j, _ => by simp
  | k + 1, a, j, h => by
    have hz : l.count a = 0 := List.count_eq_zero.2 (fun hm => by have := h a hm; omega)
    rw [show k + 1 + j = (k + j) + 1 by omega, hiR, hz, hiR_zeros l k (a + 1) j (fun x hx => by have := h x hx; omega), List.replicate_succ, show a + 1 + k = a + (k + 1) by omega]
    rfl
theorem up_all : ∀ (l : List Nat) (p : Nat), Up p l → ∀ x ∈ l, p ≤ x
  | [], _, _ => by simp
  | h :: t, p, hu => by
    intro x hx
    rcases List.mem_cons.1 hx with rfl | hx
    · exact hu.1
    · have := up_all t h hu.2 x hx
      have := hu.1
      omega
theorem hiP_hiR (H : Nat) : ∀ (l : List Nat) (p : Nat), Up p l → (∀ x ∈ l, x ≤ H) → p ≤ H + 1 → hiP p l H = hiR l p (H + 1 - p)
  | [], p, _, _, _ => by
    have := hiR_zeros [] (H + 1 - p) p 0 (by simp)
    rw [Nat.add_zero] at this
    rw [this, hiR, hiP, List.append_nil]
  | h :: t, p, hu, hh, hp => by
    obtain ⟨h1, h2⟩ := hu
    have h3 := hh h (by simp)
    have ih := hiP_hiR H t h h2 (fun x hx => hh x (by simp [hx])) (by omega)
    have hz := hiR_zeros (h :: t) (h - p) p (H + 1 - h) (by
      intro x hx
      rcases List.mem_cons.1 hx with rfl | hx
      · omega
      · have := up_all t h h2 x hx; omega)
    rw [show h - p + (H + 1 - h) = H + 1 - p by omega, show p + (h - p) = h by omega] at hz
    rw [hz, hiP, ih, show H + 1 - h = (H - h) + 1 by omega, hiR, hiR, hiR_not h t (H - h) (h + 1) (by omega), List.count_cons_self, List.replicate_succ]
    rfl
/-- The positions of the ones, less how many are ahead, are the high parts. -/
theorem hd_pos (l : List Bool) : ∀ (o h i : Nat), (hd h l)[i]? = ((pos o l)[i]?).map fun q => h + (q - o - i) := by
  induction l with
  | nil => intro o h i; simp [hd, pos]
  | cons b l ih =>
    intro o h i
    cases b
    · simp only [hd, pos]
      rw [ih (o + 1) (h + 1) i]
      cases e : (pos (o + 1) l)[i]? with
      | none => rfl
      | some q =>
        obtain ⟨p, rfl, _, hc⟩ := pos_inv l (o + 1) i q e
        have := cnt_take_le l p
        simp only [Option.map_some]; congr 1; omega
    · cases i with
      | zero => simp [hd, pos]
      | succ i =>
        simp only [hd, pos, List.getElem?_cons_succ]
        rw [ih (o + 1) h i]
        cases (pos (o + 1) l)[i]? with
        | none => rfl
        | some q => simp only [Option.map_some]; congr 1; omega
/-- The low bits. -/
def loP (w : Nat) (l : List Nat) : List Bool := l.flatMap fun x => nb (x % 2 ^ w) w
theorem loP_len (w : Nat) (l : List Nat) : (loP w l).length = l.length * w := by
  induction l with
  | nil => simp [loP]
  | cons x t ih => rw [show loP w (x :: t) = nb (x % 2 ^ w) w ++ loP w t from rfl, List.length_append, nb_length, ih, List.length_cons, Nat.succ_mul]; omega
/-- What low bits say. -/
def lo (w : Nat) (l : List Bool) (i : Nat) : Nat := num ((l.drop (i * w)).take w)
theorem lo_loP (w : Nat) : ∀ (l : List Nat) (i : Nat), i < l.length → lo w (loP w l) i = (l[i]?.getD 0) % 2 ^ w
  | x :: t, 0, _ => by
    unfold lo
    rw [show loP w (x :: t) = nb (x % 2 ^ w) w ++ loP w t from rfl, Nat.zero_mul, List.drop_zero, List.take_left' (nb_length _ _), num_nb, Nat.mod_mod]; rfl
  | x :: t, i + 1, h => by
    have ih := lo_loP w t i (by simpa using h)
    unfold lo at ih ⊢
    have e : (loP w (x :: t)).drop ((i + 1) * w) = (loP w t).drop (i * w) := by
      rw [show loP w (x :: t) = nb (x % 2 ^ w) w ++ loP w t from rfl, Nat.succ_mul, Nat.add_comm (i * w) w, ← List.drop_drop, List.drop_left' (nb_length _ _)]
    rw [e, ih]; simp
/-- The low bits, written again. -/
theorem loP_lo (w : Nat) : ∀ (n : Nat) (L : List Bool) (l : List Nat), L.length = n * w → l.length = n → (∀ i, i < n → (l[i]?.getD 0) % 2 ^ w = lo w L i) → loP w l = L
  | 0, L, l, hL, hl, _ => by
    rw [Nat.zero_mul] at hL
    rw [List.eq_nil_of_length_eq_zero hL, List.eq_nil_of_length_eq_zero hl]; rfl
  | n + 1, L, [], _, hl, _ => by simp at hl
  | n + 1, L, x :: t, hL, hl, hx => by
    have h0 := hx 0 (by omega)
    have ih := loP_lo w n (L.drop w) t (by rw [List.length_drop, hL, Nat.succ_mul]; omega) (by simpa using hl) (fun i hi => by
      have := hx (i + 1) (by omega)
      simp only [List.getElem?_cons_succ] at this
      rw [this]
      unfold lo
      rw [List.drop_drop, Nat.succ_mul, Nat.add_comm w])
    unfold lo at h0
    simp only [List.getElem?_cons_zero, Option.getD_some, Nat.zero_mul, List.drop_zero] at h0
    have hw : (L.take w).length = w := by rw [List.length_take, hL, Nat.succ_mul]; omega
    have e : nb (num (L.take w)) w = L.take w := by
      have := nb_num (L.take w)
      rwa [hw] at this
    rw [show loP w (x :: t) = nb (x % 2 ^ w) w ++ loP w t from rfl, ih, h0, e, List.take_append_drop]
theorem lo_lt (w : Nat) (L : List Bool) (i : Nat) : lo w L i < 2 ^ w := by
  unfold lo
  refine Nat.lt_of_lt_of_le (num_lt _) (Nat.pow_le_pow_right (by omega) ?_)
  rw [List.length_take]; omega
/-- What is written of the high parts. -/
def fhi (w : Nat) (l : List Nat) (t : Nat) : List Bool := hiP 0 (l.map (· / 2 ^ w)) (t / 2 ^ w)
/-- What is read. -/
def fdec (w : Nat) (L H : List Bool) : List Nat := (hd 0 H).mapIdx fun i h => h * 2 ^ w + lo w L i
theorem fdec_len (w : Nat) (L H : List Bool) : (fdec w L H).length = cnt H := by unfold fdec; rw [List.length_mapIdx, hd_len]
theorem fdec_get (w : Nat) (L H : List Bool) (i : Nat) : (fdec w L H)[i]? = ((hd 0 H)[i]?).map fun h => h * 2 ^ w + lo w L i := by
  unfold fdec; rw [List.getElem?_mapIdx]
theorem fdec_pos (w : Nat) (L H : List Bool) (i : Nat) : (fdec w L H)[i]? = ((pos 0 H)[i]?).map fun q => (q - i) * 2 ^ w + lo w L i := by
  rw [fdec_get, hd_pos H 0 0 i]
  cases (pos 0 H)[i]? with
  | none => rfl
  | some q => simp
theorem up_map (w : Nat) : ∀ (l : List Nat) (p : Nat), Up p l → Up (p / 2 ^ w) (l.map (· / 2 ^ w))
  | [], _, _ => trivial
  | x :: t, _, h => ⟨Nat.div_le_div_right h.1, up_map w t x h.2⟩
/-- WHAT IS WRITTEN IS READ. -/
theorem fdec_write (w : Nat) (l : List Nat) (t : Nat) (hu : Up 0 l) : fdec w (loP w l) (fhi w l t) = l := by
  have hh : hd 0 (fhi w l t) = l.map (· / 2 ^ w) := hd_hiP _ _ 0 (by have := up_map w l 0 hu; rwa [Nat.zero_div] at this)
  apply List.ext_getElem?
  intro i
  rw [fdec_get, hh, List.getElem?_map]
  by_cases hi : i < l.length
  · rw [List.getElem?_eq_getElem hi]
    simp only [Option.map_some]
    rw [lo_loP w l i hi, List.getElem?_eq_getElem hi]
    simp only [Option.getD_some]
    rw [Nat.mul_comm, Nat.div_add_mod]
  · rw [List.getElem?_eq_none (by omega)]; rfl
theorem fdec_div (w : Nat) (L H : List Bool) : (fdec w L H).map (· / 2 ^ w) = hd 0 H := by
  apply List.ext_getElem?
  intro i
  rw [List.getElem?_map, fdec_get]
  cases (hd 0 H)[i]? with
  | none => rfl
  | some h =>
    have := lo_lt w L i
    simp only [Option.map_some]
    rw [Nat.add_comm, Nat.add_mul_div_right _ _ (Nat.two_pow_pos w), Nat.div_eq_of_lt this, Nat.zero_add]
/-- WHAT IS READ IS WRITTEN JUST SO. -/
theorem fhi_read (w : Nat) (L H : List Bool) (t : Nat) (hl : H.length = cnt H + (t / 2 ^ w + 1)) : fhi w (fdec w L H) t = H := by
  unfold fhi
  rw [fdec_div]
  exact hiP_hd _ H 0 (by omega)
theorem floP_read (w : Nat) (L H : List Bool) (hL : L.length = cnt H * w) : loP w (fdec w L H) = L :=
  loP_lo w (cnt H) L _ hL (fdec_len w L H) (fun i hi => by
    rw [fdec_get]
    have : i < (hd 0 H).length := by rw [hd_len]; exact hi
    rw [List.getElem?_eq_getElem this]
    simp only [Option.map_some, Option.getD_some]
    rw [Nat.add_comm, Nat.add_mul_mod_self_right, Nat.mod_eq_of_lt (lo_lt w L i)])
theorem fhi_len (w : Nat) (l : List Nat) (t : Nat) (hu : Up 0 l) (ht : ∀ x ∈ l, x ≤ t) : (fhi w l t).length = l.length + (t / 2 ^ w + 1) := by
  unfold fhi
  rw [hiP_len _ _ 0 (by have := up_map w l 0 hu; rwa [Nat.zero_div] at this) (fun x hx => by
    simp only [List.mem_map] at hx
    obtain ⟨y, hy, rfl⟩ := hx
    exact Nat.div_le_div_right (ht y hy)) (Nat.zero_le _), List.length_map]
  rfl
theorem fhi_cnt (w : Nat) (l : List Nat) (t : Nat) : cnt (fhi w l t) = l.length := by unfold fhi; rw [hiP_cnt, List.length_map]
/-- The document's way: high part by high part. -/
theorem fhi_ref (w : Nat) (l : List Nat) (t : Nat) (hu : Up 0 l) (ht : ∀ x ∈ l, x ≤ t) : fhi w l t = hiR (l.map (· / 2 ^ w)) 0 (t / 2 ^ w + 1) := by
  unfold fhi
  rw [hiP_hiR _ _ 0 (by have := up_map w l 0 hu; rwa [Nat.zero_div] at this) (fun x hx => by
    simp only [List.mem_map] at hx
    obtain ⟨y, hy, rfl⟩ := hx
    exact Nat.div_le_div_right (ht y hy)) (Nat.zero_le _), Nat.sub_zero]
/-- The high part of a number by where its 1 stands. -/
theorem fhi_sel (w : Nat) (l : List Nat) (t i : Nat) (hu : Up 0 l) (hi : i < l.length) : ∃ s, (pos 0 (fhi w l t))[i]? = some s ∧ s - i = l[i] / 2 ^ w ∧ i ≤ s := by
  have hh : hd 0 (fhi w l t) = l.map (· / 2 ^ w) := hd_hiP _ _ 0 (by have := up_map w l 0 hu; rwa [Nat.zero_div] at this)
  have h := hd_pos (fhi w l t) 0 0 i
  rw [hh, List.getElem?_map, List.getElem?_eq_getElem hi] at h
  cases e : (pos 0 (fhi w l t))[i]? with
  | none => rw [e] at h; simp at h
  | some s =>
    rw [e] at h
    simp at h
    obtain ⟨p, rfl, _, hc⟩ := pos_inv _ _ _ _ e
    have := cnt_take_le (fhi w l t) p
    exact ⟨_, rfl, h.symm, by omega⟩
end Go.Proofs.Ytkbelhclcpepaaa
