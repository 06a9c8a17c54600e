/- Plain facts about lists of bits, the bytes that hold them and the numbers that they write, with no condition but those that each fact names. -/
namespace Go.Proofs.Ytgibbokhdfblmaa

/-- The bit at a position, 0 where there is none. -/
def bt (l : List Bool) (i : Nat) : Nat := (l[i]?.getD false).toNat
theorem bt_le (l : List Bool) (i : Nat) : bt l i ≤ 1 := by unfold bt; exact Bool.toNat_le _
theorem bt_beyond (l : List Bool) (i : Nat) (h : l.length ≤ i) : bt l i = 0 := by
  unfold bt; rw [List.getElem?_eq_none h]; rfl
theorem bt_left (l m : List Bool) (i : Nat) (h : i < l.length) : bt (l ++ m) i = bt l i := by
  unfold bt; rw [List.getElem?_append_left h]
theorem bt_right (l m : List Bool) (i : Nat) (h : l.length ≤ i) : bt (l ++ m) i = bt m (i - l.length) := by
  unfold bt; rw [List.getElem?_append_right h]

/-- The byte of eight bits. -/
def byteAt (l : List Bool) (k : Nat) : Nat :=
  128 * bt l (8 * k) + 64 * bt l (8 * k + 1) + 32 * bt l (8 * k + 2) + 16 * bt l (8 * k + 3) + 8 * bt l (8 * k + 4) + 4 * bt l (8 * k + 5) + 2 * bt l (8 * k + 6) + bt l (8 * k + 7)
theorem byteAt_lt (l : List Bool) (k : Nat) : byteAt l k < 256 := by
  unfold byteAt
  have h0 := bt_le l (8 * k); have h1 := bt_le l (8 * k + 1); have h2 := bt_le l (8 * k + 2); have h3 := bt_le l (8 * k + 3)
  have h4 := bt_le l (8 * k + 4); have h5 := bt_le l (8 * k + 5); have h6 := bt_le l (8 * k + 6); have h7 := bt_le l (8 * k + 7)
  omega
theorem byteAt_beyond (l : List Bool) (k : Nat) (h : l.length ≤ 8 * k) : byteAt l k = 0 := by
  unfold byteAt
  rw [bt_beyond l _ (by omega), bt_beyond l _ (by omega), bt_beyond l _ (by omega), bt_beyond l _ (by omega), bt_beyond l _ (by omega), bt_beyond l _ (by omega), bt_beyond l _ (by omega), bt_beyond l _ (by omega)]

def pack (l : List Bool) : List Nat := (List.range ((l.length + 7) / 8)).map (byteAt l)
theorem pack_length (l : List Bool) : (pack l).length = (l.length + 7) / 8 := by simp [pack]
theorem pack_get (l : List Bool) (k : Nat) : (pack l)[k]?.getD 0 = byteAt l k := by
  unfold pack
  by_cases h : k < (l.length + 7) / 8
  · simp [List.getElem?_range h]
  · rw [List.getElem?_eq_none (by simp; omega)]
    rw [byteAt_beyond l k (by omega)]; rfl
theorem pack_lt (l : List Bool) : ∀ b ∈ pack l, b < 256 := by
  intro b hb
  simp only [pack, List.mem_map] at hb
  obtain ⟨k, _, rfl⟩ := hb
  exact byteAt_lt l k
theorem pack_nil : pack [] = [] := rfl

/-- A bit is read from its byte. -/
theorem bit_of_byte (l : List Bool) (i : Nat) : byteAt l (i / 8) / 2 ^ (7 - i % 8) % 2 = bt l i := by
  have h0 := bt_le l (8 * (i / 8)); have h1 := bt_le l (8 * (i / 8) + 1); have h2 := bt_le l (8 * (i / 8) + 2); have h3 := bt_le l (8 * (i / 8) + 3)
  have h4 := bt_le l (8 * (i / 8) + 4); have h5 := bt_le l (8 * (i / 8) + 5); have h6 := bt_le l (8 * (i / 8) + 6); have h7 := bt_le l (8 * (i / 8) + 7)
  have hi : i % 8 < 8 := Nat.mod_lt _ (by omega)
  have e : i = 8 * (i / 8) + i % 8 := by omega
  unfold byteAt
  generalize i / 8 = q at *
  generalize i % 8 = r at *
  subst e
  have hr : r = 0 ∨ r = 1 ∨ r = 2 ∨ r = 3 ∨ r = 4 ∨ r = 5 ∨ r = 6 ∨ r = 7 := by omega
  rcases hr with rfl | rfl | rfl | rfl | rfl | rfl | rfl | rfl <;> simp <;> omega

/-- The bytes, with room for one bit more. -/
def pad (l : List Bool) : List Nat := if l.length % 8 = 0 then pack l ++ [0] else pack l
theorem pad_length (l : List Bool) : (pad l).length = l.length / 8 + 1 := by
  unfold pad; split <;> simp [pack_length] <;> omega
theorem pad_get (l : List Bool) (k : Nat) : (pad l)[k]?.getD 0 = byteAt l k := by
  unfold pad
  split
  · by_cases h : k < (pack l).length
    · rw [List.getElem?_append_left h, pack_get]
    · rw [List.getElem?_append_right (by omega)]
      rw [byteAt_beyond l k (by rw [pack_length] at h; omega)]
      rcases Nat.eq_zero_or_pos (k - (pack l).length) with h0 | h0
      · rw [h0]; rfl
      · rw [List.getElem?_eq_none (by simp; omega)]; rfl
  · exact pack_get l k

theorem byteAt_snoc (l : List Bool) (b : Bool) (k : Nat) :
    byteAt (l ++ [b]) k = if k = l.length / 8 then byteAt l k + b.toNat * 2 ^ (7 - l.length % 8) else byteAt l k := by
  have key : ∀ i, bt (l ++ [b]) i = bt l i + (if i = l.length then b.toNat else 0) := by
    intro i
    rcases Nat.lt_trichotomy i l.length with h | h | h
    · rw [bt_left l [b] i h, if_neg (by omega)]; rfl
    · subst h; rw [bt_right l [b] _ (Nat.le_refl _), bt_beyond l _ (Nat.le_refl _)]; simp [bt]
    · rw [bt_beyond _ _ (by simp; omega), bt_beyond l _ (by omega), if_neg (by omega)]
  unfold byteAt
  simp only [key]
  have hi : l.length % 8 < 8 := Nat.mod_lt _ (by omega)
  have e : l.length = 8 * (l.length / 8) + l.length % 8 := by omega
  generalize l.length / 8 = q at *
  generalize l.length % 8 = r at *
  rw [e]
  by_cases hk : k = q
  · subst hk
    rw [if_pos rfl]
    have hr : r = 0 ∨ r = 1 ∨ r = 2 ∨ r = 3 ∨ r = 4 ∨ r = 5 ∨ r = 6 ∨ r = 7 := by omega
    rcases hr with rfl | rfl | rfl | rfl | rfl | rfl | rfl | rfl <;> simp <;> omega
  · rw [if_neg hk]
    rw [if_neg (by omega), if_neg (by omega), if_neg (by omega), if_neg (by omega), if_neg (by omega), if_neg (by omega), if_neg (by omega), if_neg (by omega)]
    rfl

theorem list_ext_getD {a b : List Nat} (hl : a.length = b.length) (h : ∀ k : Nat, (a[k]?).getD 0 = (b[k]?).getD 0) : a = b := by
  apply List.ext_getElem hl
  intro i h1 h2
  have := h i
  rw [List.getElem?_eq_getElem h1, List.getElem?_eq_getElem h2] at this
  exact this

theorem pack_snoc (l : List Bool) (b : Bool) : pack (l ++ [b]) = (pad l).set (l.length / 8) (byteAt l (l.length / 8) + b.toNat * 2 ^ (7 - l.length % 8)) := by
  apply list_ext_getD
  · simp [pack_length, pad_length]; omega
  · intro k
    rw [pack_get, byteAt_snoc, List.getElem?_set]
    by_cases hk : k = l.length / 8
    · subst hk; rw [if_pos rfl, if_pos rfl, if_pos (by rw [pad_length]; omega)]; rfl
    · rw [if_neg hk, if_neg (fun e => hk e.symm), pad_get]

/-- What is behind the last bit is nothing. -/
theorem byteAt_low (l : List Bool) : byteAt l (l.length / 8) % 2 ^ (8 - l.length % 8) = 0 := by
  have hz : ∀ j, l.length ≤ j → bt l j = 0 := fun j h => bt_beyond l j h
  have hi : l.length % 8 < 8 := Nat.mod_lt _ (by omega)
  have e : l.length = 8 * (l.length / 8) + l.length % 8 := by omega
  have h0 := bt_le l (8 * (l.length / 8)); have h1 := bt_le l (8 * (l.length / 8) + 1); have h2 := bt_le l (8 * (l.length / 8) + 2); have h3 := bt_le l (8 * (l.length / 8) + 3)
  have h4 := bt_le l (8 * (l.length / 8) + 4); have h5 := bt_le l (8 * (l.length / 8) + 5); have h6 := bt_le l (8 * (l.length / 8) + 6); have h7 := bt_le l (8 * (l.length / 8) + 7)
  unfold byteAt
  generalize l.length / 8 = q at *
  generalize l.length % 8 = r at *
  have z0 := hz (8 * q); have z1 := hz (8 * q + 1); have z2 := hz (8 * q + 2); have z3 := hz (8 * q + 3)
  have z4 := hz (8 * q + 4); have z5 := hz (8 * q + 5); have z6 := hz (8 * q + 6); have z7 := hz (8 * q + 7)
  clear hz
  rw [e] at z0 z1 z2 z3 z4 z5 z6 z7
  have hr : r = 0 ∨ r = 1 ∨ r = 2 ∨ r = 3 ∨ r = 4 ∨ r = 5 ∨ r = 6 ∨ r = 7 := by omega
  rcases hr with rfl | rfl | rfl | rfl | rfl | rfl | rfl | rfl <;> simp at z0 z1 z2 z3 z4 z5 z6 z7 ⊢ <;> omega

/-- Where the low bits are 0 a bit is set by adding it. -/
theorem lor_low : ∀ x : Fin 256, ∀ s : Fin 8, ∀ b : Bool, x.val % 2 ^ (s.val + 1) = 0 → x.val ||| (b.toNat * 2 ^ s.val) = x.val + b.toNat * 2 ^ s.val := by decide +kernel
end Go.Proofs.Ytgibbokhdfblmaa
