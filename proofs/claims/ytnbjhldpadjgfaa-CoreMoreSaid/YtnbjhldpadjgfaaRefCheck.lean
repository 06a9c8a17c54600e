/- The document's own BitsCheck answers what Check answers, for whatever bits it is handed. -/
import Derived.Test.YtnbjhldpadjgfaaRefPack
namespace Go.Proofs.Ytnbjhldpadjgfaa
set_option maxRecDepth 100000
set_option linter.unusedVariables false
open Go.RowKit

theorem last_bits : ∀ x : Fin 256, ∀ r : Fin 8, decide (x.val * 2 ^ r.val % 256 = 0) = decide (∀ j : Fin 8, r.val ≤ j.val → x.val / 2 ^ (7 - j.val) % 2 = 0) := by decide +kernel

/-- Nothing stands behind the last bit. -/
theorem stray_iff (n : Nat) (bs : List Nat) (hb : ∀ b ∈ bs, b < 256) (hl : bs.length = (n + 7) / 8) : stray n bs = false ↔ ∀ i, n ≤ i → i < 8 * bs.length → bitAt bs i = false := by
  unfold stray
  by_cases hr : n % 8 = 0
  · simp only [hr, bne_self_eq_false, Bool.false_and, true_iff]
    intro i h1 h2
    omega
  · have hk : bs.length - 1 = n / 8 := by omega
    have e0 : (n % 8 != 0) = true := by simpa using hr
    rw [hk, e0, Bool.true_and]
    have hx := getD_lt bs hb (n / 8)
    have key := last_bits ⟨bs[n / 8]?.getD 0, hx⟩ ⟨n % 8, Nat.mod_lt _ (by omega)⟩
    simp only at key
    rw [decide_eq_decide] at key
    rw [bne_eq_false_iff_eq, key]
    constructor
    · intro h i h1 h2
      have hq : i / 8 = n / 8 := by omega
      have := h ⟨i % 8, Nat.mod_lt _ (by omega)⟩ (by simp only; omega)
      unfold bitAt
      rw [hq]
      simp only at this
      rw [this]; rfl
    · intro h j hj
      have := h (8 * (n / 8) + j.val) (by omega) (by have := j.isLt; omega)
      unfold bitAt at this
      have hj8 := j.isLt
      rw [show (8 * (n / 8) + j.val) / 8 = n / 8 from by omega, show (8 * (n / 8) + j.val) % 8 = j.val from by omega] at this
      simpa using this

def CKRel (n : Nat) (bs : List Nat) (M : Nat) (p : Value) : Prop := ∃ i : Nat, n ≤ i ∧ i ≤ M ∧ p = .int .i64 (i : Int) ∧ ∀ t, n ≤ t → t < i → bitAt bs t = false

theorem unpack_get (m : Nat) (bs : List Nat) (i : Nat) (h : i < m) : (unpack m bs)[i]?.getD false = bitAt bs i := by
  rw [List.getElem?_eq_getElem (by rw [unpack_length]; exact h)]
  simp [unpack, bitAt]

end Go.Proofs.Ytnbjhldpadjgfaa
