/- What Put answers, for whatever bits, number and width it is handed. -/
import Derived.Test.YtnbjhldpadjgfaaCheck
namespace Go.Proofs.Ytnbjhldpadjgfaa
open Go.RowKit

/-- A number in so many bits, the highest one first. -/
def nb (n width : Nat) : List Bool := (List.range width).map fun i => n / 2 ^ (width - 1 - i) % 2 == 1
theorem nb_length (n width : Nat) : (nb n width).length = width := by simp [nb]
theorem nb_take_succ (n width j : Nat) (h : j < width) : (nb n width).take (j + 1) = (nb n width).take j ++ [n / 2 ^ (width - 1 - j) % 2 == 1] := by
  rw [List.take_succ_eq_append_getElem (by rw [nb_length]; exact h)]
  simp [nb]

/-- Bits and an error come back. -/
def Gave (w : World) (l : List Bool) (err : Int) (e : Ending) (w' : World) : Prop :=
  ∃ A c, e = .returned (.tuple #[.agg #[.int .i64 (l.length : Int), .slice A (pack l).length c], .int .i64 err]) ∧ Rd w' w'.heap.size A (pack l) ∧ Below w.heap.size w w'

theorem old_cells {B : Nat} {W w1 : World} (h : Below B W w1) : (∀ b o, b < B → w1.cell? ⟨b, o, none⟩ = W.cell? ⟨b, o, none⟩) ∧ (∀ b o, b < B → w1.frozen? ⟨b, o, none⟩ = W.frozen? ⟨b, o, none⟩) :=
  ⟨fun b o hb => h.cell (p := ⟨b, o, none⟩) hb, fun b o hb => h.frozen (p := ⟨b, o, none⟩) hb⟩

theorem pow_test' (n k : Nat) (h : n / 2 ^ k = 0) : ((n : Int) / 2 ^ k != 0) = false := by
  have e : (n : Int) / 2 ^ k = ((n / 2 ^ k : Nat) : Int) := by simp
  rw [e, h]; rfl
theorem pow_test (n k : Nat) (h : n / 2 ^ k ≠ 0) : ((n : Int) / 2 ^ k != 0) = true := by
  have e : (n : Int) / 2 ^ k = ((n / 2 ^ k : Nat) : Int) := by simp
  rw [e]
  generalize n / 2 ^ k = y at *
  rw [bne_iff_ne]; omega

theorem and_bit (n q : Nat) (hn : n < 18446744073709551616) : bits .and .u64 ((n : Int) / 2 ^ q) 1 % 256 = ((n / 2 ^ q % 2 == 1).toNat : Int) := by
  have e : (n : Int) / 2 ^ q = ((n / 2 ^ q : Nat) : Int) := by simp
  have h1 : n / 2 ^ q ≤ n := Nat.div_le_self _ _
  rw [e]
  have := u64_and_nat (n / 2 ^ q) 1 (by omega) (by omega)
  rw [show ((1 : Nat) : Int) = 1 from rfl] at this
  rw [this, Nat.and_one_is_mod]
  rcases (show n / 2 ^ q % 2 = 0 ∨ n / 2 ^ q % 2 = 1 by omega) with h | h <;> rw [h] <;> rfl

theorem unpack_pack (l : List Bool) : unpack l.length (pack l) = l := by
  apply pack_inj
  · rw [unpack_length]
  · exact pack_unpack _ _ (pack_lt l) (pack_length l) (stray_pack l)

/-- A zero value and an error, stored where the result lies. -/
theorem gave_zero {w w1 : World} (hq : Below w.heap.size w w1) (r : Nat) (hr : w.heap.size ≤ r) (err : Int) :
    Gave w [] err (.returned (.tuple #[.agg #[.int .i64 0, .slice none 0 0], .int .i64 err])) ((w1.setCell ⟨r, 0, none⟩ (.int .i64 0)).setCell ⟨r, 1, none⟩ (.slice none 0 0)) :=
  ⟨none, 0, rfl, .inl rfl, (hq.setCell (p := ⟨r, 0, none⟩) hr _).setCell (p := ⟨r, 1, none⟩) hr _⟩

/-- A row of the call's own reads as its bytes. -/
theorem own_rd {w : World} {base : Nat} {A : Option Addr} {n c : Nat} {bs : List Nat} (h : w.ownsRow base 5 1 (.slice A n c) n (bc bs)) : Rd w w.heap.size A bs := by
  rcases h.2 with ⟨e, h0⟩ | ⟨g, cap, cur, e, _, hg, _⟩
  · have := h.1
    rw [bc_length, h0] at this
    exact .inl (List.eq_nil_of_length_eq_zero (by omega))
  · simp only [Value.slice.injEq] at e
    obtain ⟨rfl, _, _⟩ := e
    refine .inr ⟨g, 0, rfl, (Array.getElem?_eq_some_iff.1 hg).1, fun i hi => ?_⟩
    have hh := h.cells (g := g) rfl i _ (bc_get bs i hi)
    have ha : (⟨g, 0, none⟩ : Addr).add i = ⟨g, 0 + i, none⟩ := by unfold Addr.add; split <;> simp_all
    rw [ha] at hh
    exact hh

theorem own_slice {w : World} {base : Nat} {v : Value} {n : Nat} {xs : List Value} (h : w.ownsRow base 5 1 v n xs) : ∃ A c, v = .slice A n c := by
  rcases h.2 with ⟨rfl, rfl⟩ | ⟨g, cap, cur, rfl, _⟩
  · exact ⟨none, 0, rfl⟩
  · exact ⟨_, cap, rfl⟩

theorem blk_cells {w : World} {W : Nat} {t : TypeId} {a v : Value} (hW : w.heap[W]? = some (.cells #[a, v] t (0, 0))) :
    w.cell? ⟨W, 0, none⟩ = some a ∧ w.cell? ⟨W, 1, none⟩ = some v ∧ w.frozen? ⟨W, 0, none⟩ = false ∧ w.frozen? ⟨W, 1, none⟩ = false := by
  simp [World.cell?, World.frozen?, hW]

/-- What Put answers. -/
def putL (len : Int) (bs : List Nat) (n : Nat) (width : Int) : Int := if chk len bs ≠ 0 then chk len bs else if width < 0 ∨ 64 < width ∨ n / 2 ^ width.toNat ≠ 0 then 3 else if 8192 < len + width then 8 else 0

end Go.Proofs.Ytnbjhldpadjgfaa
