/- Plain facts: which bytes are those of a list of bits. No condition but those that each fact names. -/
import Derived.Test.YtgibbokhdfblmaaPure
namespace Go.Proofs.Ytgibbokhdfblmaa

/-- Is a bit behind the last one set? -/
def stray (n : Nat) (bs : List Nat) : Bool := (n % 8 != 0) && (bs[bs.length - 1]?.getD 0 * 2 ^ (n % 8) % 256 != 0)
/-- What Check answers. -/
def chk (len : Int) (bs : List Nat) : Int :=
  if len < 0 ∨ 8192 < len then 3 else if bs.length ≠ (len.toNat + 7) / 8 then 1 else if stray len.toNat bs = true then 1 else 0

def unpack (n : Nat) (bs : List Nat) : List Bool := (List.range n).map fun i => bs[i / 8]?.getD 0 / 2 ^ (7 - i % 8) % 2 == 1
theorem unpack_length (n : Nat) (bs : List Nat) : (unpack n bs).length = n := by simp [unpack]
theorem bt_unpack (n : Nat) (bs : List Nat) (i : Nat) : bt (unpack n bs) i = if i < n then bs[i / 8]?.getD 0 / 2 ^ (7 - i % 8) % 2 else 0 := by
  by_cases h : i < n
  · rw [if_pos h]
    unfold bt unpack
    rw [List.getElem?_map, List.getElem?_range h]
    simp only [Option.map_some, Option.getD_some]
    have := Nat.mod_lt (bs[i / 8]?.getD 0 / 2 ^ (7 - i % 8)) (show 2 > 0 by omega)
    rcases (show bs[i / 8]?.getD 0 / 2 ^ (7 - i % 8) % 2 = 0 ∨ bs[i / 8]?.getD 0 / 2 ^ (7 - i % 8) % 2 = 1 by omega) with e | e <;> rw [e] <;> rfl
  · rw [if_neg h, bt_beyond _ _ (by rw [unpack_length]; omega)]

theorem getD_lt (bs : List Nat) (h : ∀ b ∈ bs, b < 256) (k : Nat) : bs[k]?.getD 0 < 256 := by
  by_cases hk : k < bs.length
  · rw [List.getElem?_eq_getElem hk]; exact h _ (List.getElem_mem hk)
  · rw [List.getElem?_eq_none (by omega)]; simp

theorem last_byte : ∀ x : Fin 256, ∀ r : Fin 8, x.val * 2 ^ r.val % 256 = 0 →
    128 * (if 0 < r.val then x.val / 2 ^ (7 - 0) % 2 else 0) + 64 * (if 1 < r.val then x.val / 2 ^ (7 - 1) % 2 else 0) + 32 * (if 2 < r.val then x.val / 2 ^ (7 - 2) % 2 else 0) + 16 * (if 3 < r.val then x.val / 2 ^ (7 - 3) % 2 else 0) + 8 * (if 4 < r.val then x.val / 2 ^ (7 - 4) % 2 else 0) + 4 * (if 5 < r.val then x.val / 2 ^ (7 - 5) % 2 else 0) + 2 * (if 6 < r.val then x.val / 2 ^ (7 - 6) % 2 else 0) + (if 7 < r.val then x.val / 2 ^ (7 - 7) % 2 else 0) = x.val := by decide +kernel

theorem pack_unpack (n : Nat) (bs : List Nat) (hb : ∀ b ∈ bs, b < 256) (hl : bs.length = (n + 7) / 8) (hs : stray n bs = false) : pack (unpack n bs) = bs := by
  apply list_ext_getD
  · rw [pack_length, unpack_length, hl]
  · intro k
    rw [pack_get]
    by_cases hk : k < bs.length
    · have hx := getD_lt bs hb k
      unfold byteAt
      simp only [bt_unpack]
      rw [show 8 * k / 8 = k by omega, show (8 * k + 1) / 8 = k by omega, show (8 * k + 2) / 8 = k by omega, show (8 * k + 3) / 8 = k by omega, show (8 * k + 4) / 8 = k by omega, show (8 * k + 5) / 8 = k by omega, show (8 * k + 6) / 8 = k by omega, show (8 * k + 7) / 8 = k by omega]
      rw [show 8 * k % 8 = 0 by omega, show (8 * k + 1) % 8 = 1 by omega, show (8 * k + 2) % 8 = 2 by omega, show (8 * k + 3) % 8 = 3 by omega, show (8 * k + 4) % 8 = 4 by omega, show (8 * k + 5) % 8 = 5 by omega, show (8 * k + 6) % 8 = 6 by omega, show (8 * k + 7) % 8 = 7 by omega]
      by_cases hf : 8 * k + 7 < n
      · rw [if_pos (by omega), if_pos (by omega), if_pos (by omega), if_pos (by omega), if_pos (by omega), if_pos (by omega), if_pos (by omega), if_pos hf]
        generalize bs[k]?.getD 0 = x at *
        omega
      · have hr : n % 8 ≠ 0 := by omega
        have hkl : bs.length - 1 = k := by omega
        have hq : n = 8 * k + n % 8 := by omega
        unfold stray at hs
        rw [hkl] at hs
        simp only [Bool.and_eq_false_iff, bne_eq_false_iff_eq] at hs
        have hz : bs[k]?.getD 0 * 2 ^ (n % 8) % 256 = 0 := by
          rcases hs with h | h
          · exact absurd h hr
          · exact h
        generalize bs[k]?.getD 0 = x at *
        have h8 : n % 8 < 8 := Nat.mod_lt _ (by omega)
        generalize n % 8 = r at *
        subst hq
        clear hs hb hl hf hk hkl
        have := last_byte ⟨x, hx⟩ ⟨r, h8⟩ hz
        simpa only [Nat.add_lt_add_iff_left, Nat.lt_add_right_iff_pos] using this
    · rw [byteAt_beyond _ _ (by rw [unpack_length]; omega), List.getElem?_eq_none (by omega)]; rfl

theorem stray_pack (l : List Bool) : stray l.length (pack l) = false := by
  unfold stray
  by_cases hr : l.length % 8 = 0
  · simp [hr]
  · have hk : (pack l).length - 1 = l.length / 8 := by rw [pack_length]; omega
    rw [hk, pack_get]
    have h := byteAt_low l
    have h8 : l.length % 8 < 8 := Nat.mod_lt _ (by omega)
    generalize byteAt l (l.length / 8) = x at *
    generalize l.length % 8 = r at *
    have h7 : r = 1 ∨ r = 2 ∨ r = 3 ∨ r = 4 ∨ r = 5 ∨ r = 6 ∨ r = 7 := by omega
    rcases h7 with rfl | rfl | rfl | rfl | rfl | rfl | rfl <;> simp at h ⊢ <;> omega

theorem chk_pack (l : List Bool) (h : l.length ≤ 8192) : chk (l.length : Int) (pack l) = 0 := by
  unfold chk
  rw [if_neg (by omega)]
  simp only [Int.toNat_natCast]
  rw [if_neg (by rw [pack_length]; omega), if_neg (by simp [stray_pack])]

theorem chk_zero (len : Int) (bs : List Nat) (hb : ∀ b ∈ bs, b < 256) (h : chk len bs = 0) : ∃ l : List Bool, len = (l.length : Int) ∧ l.length ≤ 8192 ∧ bs = pack l := by
  unfold chk at h
  split at h
  · omega
  · split at h
    · omega
    · split at h
      · omega
      · rename_i h1 h2 h3
        refine ⟨unpack len.toNat bs, by rw [unpack_length]; omega, by rw [unpack_length]; omega, ?_⟩
        exact (pack_unpack len.toNat bs hb (by omega) (by simpa using h3)).symm
theorem chk_cases (len : Int) (bs : List Nat) : chk len bs = 0 ∨ chk len bs = 1 ∨ chk len bs = 3 := by
  unfold chk
  split
  · exact .inr (.inr rfl)
  · split
    · exact .inr (.inl rfl)
    · split
      · exact .inr (.inl rfl)
      · exact .inl rfl
theorem pack_inj {a b : List Bool} (hl : a.length = b.length) (h : pack a = pack b) : a = b := by
  apply List.ext_getElem hl
  intro i h1 h2
  have e := bit_of_byte a i
  have e' := bit_of_byte b i
  rw [← pack_get, h, pack_get] at e
  have e2 : bt a i = bt b i := e.symm.trans e'
  unfold bt at e2
  rw [List.getElem?_eq_getElem h1, List.getElem?_eq_getElem h2] at e2
  simp only [Option.getD_some] at e2
  generalize a[i] = x at *
  generalize b[i] = y at *
  cases x <;> cases y <;> simp_all
end Go.Proofs.Ytgibbokhdfblmaa
