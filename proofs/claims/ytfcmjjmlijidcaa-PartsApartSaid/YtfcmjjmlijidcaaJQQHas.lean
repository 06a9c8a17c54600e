/- Whether a number stands in a list, as the document's own text asks; no condition but that the list can be read. -/
import Derived.Test.YtfcmjjmlijidcaaJQNChk
namespace Go.Proofs.Ytfcmjjmlijidcaa
set_option maxRecDepth 100000
set_option linter.unusedVariables false
open Go.RowKit Go.Shelf

def HiRel (xs : List Int) (z : Int) (w : World) (p : Value) (wr : World) : Prop := ∃ i : Nat, i ≤ xs.length ∧ p = .int .i64 (i : Int) ∧ (∀ j, j < i → xs[j]?.getD 0 ≠ z) ∧ wr = w
set_option maxHeartbeats 1000000 in
theorem hasInt_any (xs : List Int) (n : Nat) (hn : xs.length = n) (hn2 : n ≤ 9223372036854775807) (z : Int) (r : Bool) (hr : (r = true ∧ z ∈ xs) ∨ (r = false ∧ z ∉ xs)) (A : Option Addr) (c : Nat) (w : World) (h : RdV w w.heap.size A (zc xs)) :
    Calls Try.prog 21 #[.slice A n c, .int .i64 z] w fun e w' => e = .returned (.bool r) ∧ w' = w := by
  have HX := Lib.hid h; have HN := Lib.hid hn; have HR := Lib.hid hr
  clear h hn hr
  go_enter Try.func21, Try.ntmps21
  go_wp2
  go_loopw [5] (fun p wr => HiRel xs z w p wr) (fun p _ => n - (intOf p).toNat)
  case atStart => exact ⟨0, Nat.zero_le _, rfl, fun j hj => absurd hj (Nat.not_lt_zero _), rfl⟩
  case round =>
    obtain ⟨i, hi, rfl, hno, rfl⟩ := hrel
    rw [HN.out] at hi
    by_cases hlt : i < n
    · have hin : i < xs.length := by rw [HN.out]; exact hlt
      obtain ⟨b, off, rfl, hb, hc⟩ := HX.out.at_ (zc_get xs i hin)
      have hmem : xs[i]?.getD 0 ∈ xs := by rw [List.getElem?_eq_getElem hin]; exact List.getElem_mem hin
      have HNo := Lib.hid hno
      have hstep : xs[i]?.getD 0 ≠ z → ∀ j, j < i + 1 → xs[j]?.getD 0 ≠ z := fun hne j hj => by
        rcases Nat.lt_or_ge j i with h | h
        · exact HNo.out j h
        · obtain rfl : j = i := by omega
          exact hne
      clear hno HNo
      generalize xs[i]?.getD 0 = x at *
      by_cases hx : x = z
      · have hr : r = true := by
          rcases HR.out with ⟨h, _⟩ | ⟨_, h⟩
          · exact h
          · exact absurd (hx ▸ hmem) h
        have t1 : (x == z) = true := by simpa using hx
        have HRr := Lib.hid hr
        clear hr hstep hmem hx HR
        go_wp2
        go_ret
        exact ⟨by rw [HRr.out]; rfl, rfl⟩
      · have HSt := Lib.hid (hstep hx)
        have t1 : (x == z) = false := by simpa using hx
        clear hstep hmem hx
        go_wp2
        go_roundw
        case rel => exact ⟨i + 1, by rw [HN.out]; omega, by go_num, HSt.out, rfl⟩
        case measure => simp [intOf]; omega
    · have hr : r = false := by
        rcases HR.out with ⟨_, h⟩ | ⟨h, _⟩
        · obtain ⟨j, hj, he⟩ := List.getElem_of_mem h
          exact absurd (by rw [List.getElem?_eq_getElem hj]; exact he) (hno j (by rw [HN.out] at hj; omega))
        · exact h
      have HRr := Lib.hid hr
      clear hr hno HR
      go_wp2
      go_ret
      exact ⟨by rw [HRr.out]; rfl, rfl⟩
theorem mem_ns (l : List Nat) (z : Int) : z ∈ ns l ↔ ∃ x ∈ l, (x : Int) = z := by simp [ns]

theorem hasL_any (l : List Nat) (n : Nat) (hn : l.length = n) (hn2 : n ≤ 9223372036854775807) (x : Nat) (r : Bool) (hr : decide (x ∈ l) = r) (A : Option Addr) (c : Nat) (w : World) (h : RdV w w.heap.size A (zc (ns l))) :
    Calls Try.prog 21 #[.slice A n c, .int .i64 (x : Int)] w fun e w' => e = .returned (.bool r) ∧ w' = w := by
  refine hasInt_any (ns l) n (by rw [ns_length, hn]) hn2 (x : Int) r ?_ A c w h
  have e : ((x : Int) ∈ ns l) ↔ x ∈ l := by
    rw [mem_ns]
    exact ⟨fun ⟨y, hy, e⟩ => by have : y = x := by omega
                                exact this ▸ hy, fun h => ⟨x, h, rfl⟩⟩
  cases r with
  | true => exact .inl ⟨rfl, e.2 (by simpa using hr)⟩
  | false => exact .inr ⟨rfl, fun h => by simp at hr; exact hr (e.1 h)⟩
theorem hasI_any (xs : List Int) (n : Nat) (hn : xs.length = n) (hn2 : n ≤ 9223372036854775807) (z : Int) (r : Bool) (hr : decide (z ∈ xs) = r) (A : Option Addr) (c : Nat) (w : World) (h : RdV w w.heap.size A (zc xs)) :
    Calls Try.prog 21 #[.slice A n c, .int .i64 z] w fun e w' => e = .returned (.bool r) ∧ w' = w := by
  refine hasInt_any xs n hn hn2 z r ?_ A c w h
  cases r with
  | true => exact .inl ⟨rfl, by simpa using hr⟩
  | false => exact .inr ⟨rfl, fun h => by simp at hr; exact hr h⟩
end Go.Proofs.Ytfcmjjmlijidcaa
