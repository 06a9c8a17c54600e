/- Write, as the laws use it. -/
import Derived.Test.YtkbelhclcpepaaaJYYSame
import Derived.Test.YtkbelhclcpepaaaJYNOpen
namespace Go.Proofs.Ytkbelhclcpepaaa
set_option maxRecDepth 100000
set_option linter.unusedVariables false
open Go.RowKit Go.Shelf

theorem writeP (xs : List Int) (n : Nat) (hn : xs.length = n) (h2 : n ≤ 9223372036854775807) (top : Int) (A : Option Addr) (c : Nat) (w : World) (h : RdV w w.heap.size A (zc xs)) :
    (∃ e0 : Int, (e0 != 0) = true ∧ (fE xs top = 0 → e0 = 8) ∧ Hid (∀ V, Below w.heap.size w V → Calls Try.prog 49 #[.slice A n c, .int .i64 top] V (WrP V 0 0 0 0 0 0 0 [] [] e0))) ∨
    (∃ (l : List Nat) (t k : Nat), xs = ns l ∧ top = (t : Int) ∧ l.length = n ∧ n ≤ 300 ∧ t ≤ 1048576 ∧ (∀ x ∈ l, x ≤ t) ∧ Up 0 l ∧ fw n t = k ∧ n + t / 2 ^ k + 1 ≤ 8192 ∧ Hid (∀ V, Below w.heap.size w V → Calls Try.prog 49 #[.slice A n c, .int .i64 (t : Int)] V (WrP V (n : Int) (t : Int) (k : Int) ((loP k l).length : Int) ((fhi k l t).length : Int) (pack (loP k l)).length (pack (fhi k l t)).length (pack (loP k l)) (pack (fhi k l t)) 0))) := by
  by_cases h0 : fE xs top = 0
  · obtain ⟨l, t, rfl, rfl, ht, hl3, hle, hu⟩ := fE_zero h0
    rw [ns_length] at hn
    subst hn
    by_cases hz : l.length + t / 2 ^ fw l.length t + 1 ≤ 8192
    · exact .inr ⟨l, t, _, rfl, rfl, rfl, hl3, ht, hle, hu, rfl, hz, fun V hV => fwrite_ok l _ t _ _ rfl hl3 ht hle hu rfl rfl hz A c V (h.on hV)⟩
    · exact .inl ⟨8, rfl, fun _ => rfl, fun V hV => fwrite_full l _ t _ _ rfl hl3 ht hle hu rfl rfl (by omega) A c V (h.on hV)⟩
  · exact .inl ⟨fE xs top, by simpa using h0, fun q => absurd q h0, fun V hV => fwrite_e xs n hn h2 top _ rfl h0 A c V (h.on hV)⟩
end Go.Proofs.Ytkbelhclcpepaaa
