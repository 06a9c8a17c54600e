/- What Gaps answers for whatever list, in one word; and words for the laws of gaps. -/
import Derived.Test.YtbakojhamaladaaNBegun
namespace Go.Proofs.Ytbakojhamaladaa
set_option maxRecDepth 100000
set_option linter.unusedVariables false
open Go.RowKit Go.Shelf

def gL (xs : List Int) (a : Int) : List Nat := if gE xs a = 0 then gps a (xs.map Int.toNat) else []
theorem gL_ok (l : List Nat) (h : Rising l) (n : Nat) (hn : n ≤ 1048576) : gL (ns l) (n : Int) = gps (n : Int) l := by
  unfold gL; rw [gE_ok l h n hn, if_pos rfl, ns_nat]
theorem gL_no (xs : List Int) (a : Int) (h : gE xs a ≠ 0) : gL xs a = [] := by unfold gL; rw [if_neg h]
theorem gaps_any (xs : List Int) (n : Nat) (hn : xs.length = n) (hn2 : n ≤ 9223372036854775807) (a : Int) (A : Option Addr) (c : Nat) (w : World) (h : RdV w w.heap.size A (zc xs)) :
    Calls Try.prog 19 #[.slice A n c, .int .i64 a] w (NumsP w (gL xs a) (gE xs a)) := by
  by_cases h0 : gE xs a = 0
  · obtain ⟨l, m, rfl, hl, rfl, hm⟩ := gE_zero xs a h0
    rw [gL_ok l hl m hm, h0]
    exact gaps_ok l hl n (by rw [ns_length] at hn; exact hn) m hm A c w h
  · rw [gL_no xs a h0]
    exact gaps_e xs n hn hn2 a _ rfl h0 A c w h
theorem bkE_zero (gs : List Nat) (a : Int) (h : bkE gs a = 0) : ∃ (l : List Nat) (n : Nat), a = (n : Int) ∧ n ≤ 1048576 ∧ gs.length ≤ 300 ∧ bk n [] gs = some l ∧ bkL gs a = l := by
  unfold bkE at h
  unfold bkL
  by_cases h1 : 300 < gs.length
  · rw [if_pos h1] at h; omega
  · rw [if_neg h1] at h ⊢
    by_cases h2 : okN a = true
    · rw [if_pos h2] at h ⊢
      obtain ⟨n, rfl, hn⟩ := okN_true h2
      rw [Int.toNat_natCast] at h ⊢
      cases hb : bk n [] gs with
      | none => rw [hb] at h; simp at h
      | some l => exact ⟨l, n, rfl, hn, by omega, hb, rfl⟩
    · rw [if_neg h2] at h; omega
theorem bkL_no (gs : List Nat) (a : Int) (h : bkE gs a ≠ 0) : bkL gs a = [] := by
  unfold bkE at h
  unfold bkL
  by_cases h1 : 300 < gs.length
  · rw [if_pos h1]
  · rw [if_neg h1] at h ⊢
    by_cases h2 : okN a = true
    · rw [if_pos h2] at h ⊢
      cases hb : bk a.toNat [] gs with
      | none => rfl
      | some l => rw [hb] at h; simp at h
    · rw [if_neg h2]
theorem sameI_x (xs : List Int) (n : Nat) (hn : xs.length = n) (h2 : n ≤ 9223372036854775807) (A B : Option Addr) (c d : Nat) (w : World) (hA : RdV w w.heap.size A (zc xs)) (hB : RdV w w.heap.size B (zc xs)) :
    Calls Try.prog 29 #[.slice A n c, .slice B n d] w fun e w' => e = .returned (.bool true) ∧ Below w.heap.size w w' := by
  have h := sameI_any w A B c d xs xs (by omega) hA hB
  rw [hn] at h
  simpa using h
theorem sameN_x (l : List Nat) (n : Nat) (hn : l.length = n) (h2 : n ≤ 9223372036854775807) (A B : Option Addr) (c d : Nat) (w : World) (hA : RdV w w.heap.size A (nc l)) (hB : RdV w w.heap.size B (nc l)) :
    Calls Try.prog 28 #[.slice A n c, .slice B n d] w fun e w' => e = .returned (.bool true) ∧ Below w.heap.size w w' := by
  have h := sameN_any w A B c d l l (by omega) hA hB
  rw [hn] at h
  simpa using h
end Go.Proofs.Ytbakojhamaladaa
