/- What Check answers, for whatever bits it is handed. -/
import Derived.Test.YtgibbokhdfblmaaCopy
import Derived.Test.YtgibbokhdfblmaaPure2
namespace Go.Proofs.Ytgibbokhdfblmaa
open Go.RowKit

set_option maxHeartbeats 400000 in
theorem stray_zero (len : Int) (h0 : 0 ≤ len) (h1 : len ≤ 8192) (A : Option Addr) (n c : Nat) (w : World) (hz : len % 8 = 0) :
    Calls Try.prog 69 #[.agg #[.int .i64 len, .slice A n c]] w fun e w' => e = .returned (.bool false) ∧ Below w.heap.size w w' := by
  have hb : (len % 8 != 0) = false := by simp [hz]
  clear hz
  go_enter Try.func69, Try.ntmps69
  go_wp2
  go_ret
  exact ⟨rfl, (Below.refl _ w).alloc (Nat.le_refl _) _⟩

theorem shl_test (x : Nat) (len : Int) (h0 : 0 ≤ len) : ((x : Int) * 2 ^ (len % 8).toNat % 256 != 0) = (x * 2 ^ (len.toNat % 8) % 256 != 0) := by
  have e : (len % 8).toNat = len.toNat % 8 := by omega
  rw [e]
  have e2 : (x : Int) * 2 ^ (len.toNat % 8) % 256 = ((x * 2 ^ (len.toNat % 8) % 256 : Nat) : Int) := by simp
  rw [e2]
  generalize x * 2 ^ (len.toNat % 8) % 256 = y
  rw [Bool.eq_iff_iff]
  simp

set_option maxHeartbeats 400000 in
theorem stray_pos (len : Int) (h0 : 0 ≤ len) (h1 : len ≤ 8192) (b off : Nat) (n c : Nat) (w : World) (hz : (len % 8 != 0) = true) (hn : 0 < n) (hn1 : n ≤ 2000) (x : Nat) (hb : b < w.heap.size)
   (hc : w.cell? ⟨b, off + (n - 1), none⟩ = some (.int .u8 (x : Int))) :
    Calls Try.prog 69 #[.agg #[.int .i64 len, .slice (some ⟨b, off, none⟩) n c]] w fun e w' => e = .returned (.bool (x * 2 ^ (len.toNat % 8) % 256 != 0)) ∧ Below w.heap.size w w' := by
  have hi0 : 0 ≤ (n : Int) - 1 := by omega
  have hi1 : (n : Int) - 1 < n := by omega
  have hcn : ((n : Int) - 1).toNat = n - 1 := by omega
  rw [← shl_test x len h0]
  go_enter Try.func69, Try.ntmps69
  go_wp2
  go_ret
  exact ⟨rfl, (Below.refl _ w).alloc (Nat.le_refl _) _⟩

theorem stray_any (len : Int) (h0 : 0 ≤ len) (h1 : len ≤ 8192) (A : Option Addr) (c : Nat) (bs : List Nat) (w : World) (hl : bs.length = (len.toNat + 7) / 8) (hb : ∀ b ∈ bs, b < 256) (h : Rd w w.heap.size A bs) :
    Calls Try.prog 69 #[.agg #[.int .i64 len, .slice A bs.length c]] w fun e w' => e = .returned (.bool (stray len.toNat bs)) ∧ Below w.heap.size w w' := by
  unfold stray
  by_cases hz : len % 8 = 0
  · have e : (len.toNat % 8 != 0) = false := by simp; omega
    rw [e, Bool.false_and]
    exact stray_zero len h0 h1 A _ c w hz
  · have e : (len.toNat % 8 != 0) = true := by simp; omega
    rw [e, Bool.true_and]
    rcases h with rfl | ⟨b, off, rfl, hbl, hc⟩
    · simp at hl; omega
    · exact stray_pos len h0 h1 b off _ c w (by simp; omega) (by omega) (by omega) _ hbl (hc _ (by omega))

set_option maxHeartbeats 400000 in
theorem check_low (len : Int) (A : Option Addr) (n c : Nat) (w : World) (h : len < 0) :
    Calls Try.prog 43 #[.agg #[.int .i64 len, .slice A n c]] w fun e w' => e = .returned (.int .i64 3) ∧ Below w.heap.size w w' := by
  go_enter Try.func43, Try.ntmps43
  go_wp2
  go_ret
  exact ⟨rfl, (Below.refl _ w).alloc (Nat.le_refl _) _⟩
set_option maxHeartbeats 400000 in
theorem check_high (len : Int) (A : Option Addr) (n c : Nat) (w : World) (h : 8192 < len) :
    Calls Try.prog 43 #[.agg #[.int .i64 len, .slice A n c]] w fun e w' => e = .returned (.int .i64 3) ∧ Below w.heap.size w w' := by
  have h0 : decide (len < 0) = false := by simp; omega
  go_enter Try.func43, Try.ntmps43
  go_wp2
  go_ret
  exact ⟨rfl, (Below.refl _ w).alloc (Nat.le_refl _) _⟩
set_option maxHeartbeats 400000 in
theorem check_len (len : Int) (A : Option Addr) (n c : Nat) (w : World) (h0 : 0 ≤ len) (h1 : len ≤ 8192) (hn : n ≠ (len.toNat + 7) / 8) :
    Calls Try.prog 43 #[.agg #[.int .i64 len, .slice A n c]] w fun e w' => e = .returned (.int .i64 1) ∧ Below w.heap.size w w' := by
  have h2 : ((n : Int) != (len + 7) / 8) = true := by simp; omega
  clear hn
  go_enter Try.func43, Try.ntmps43
  go_wp2
  go_ret
  exact ⟨rfl, (Below.refl _ w).alloc (Nat.le_refl _) _⟩
set_option maxHeartbeats 400000 in
theorem check_in (len : Int) (A : Option Addr) (c : Nat) (bs : List Nat) (w : World) (h0 : 0 ≤ len) (h1 : len ≤ 8192) (hl : bs.length = (len.toNat + 7) / 8) (hb : ∀ b ∈ bs, b < 256) (h : Rd w w.heap.size A bs) :
    Calls Try.prog 43 #[.agg #[.int .i64 len, .slice A bs.length c]] w fun e w' => e = .returned (.int .i64 (if stray len.toNat bs = true then 1 else 0)) ∧ Below w.heap.size w w' := by
  have h2 : ((bs.length : Int) != (len + 7) / 8) = false := by simp; omega
  have hst : Hid (Calls Try.prog 69 #[.agg #[.int .i64 len, .slice A bs.length c]] (w.alloc (.cells #[.int .i64 len, .slice A bs.length c] 25)) fun e w' => e = .returned (.bool (stray len.toNat bs)) ∧ Below (w.heap.size + 1) (w.alloc (.cells #[.int .i64 len, .slice A bs.length c] 25)) w') := by
    have := stray_any len h0 h1 A c bs (w.alloc (.cells #[.int .i64 len, .slice A bs.length c] 25)) hl hb (h.below ((Below.refl _ w).alloc (Nat.le_refl _) _) (by simp))
    rwa [World.size_alloc] at this
  clear hl hb h
  have HB : Hid (Below w.heap.size w (w.alloc (.cells #[.int .i64 len, .slice A bs.length c] 25))) := (Below.refl _ w).alloc (Nat.le_refl _) _
  generalize bs.length = n at *
  cases hs : stray len.toNat bs
  all_goals
    rw [hs] at hst
    clear hs
    go_enter Try.func43, Try.ntmps43
    go_wp2_with (go_at_call 69; refine hst.out.mono ?_; rintro e w1 ⟨rfl, hq⟩)
    go_ret
    exact ⟨rfl, HB.out.trans (hq.mono (by omega))⟩

theorem check_any (len : Int) (A : Option Addr) (c : Nat) (bs : List Nat) (w : World) (hb : ∀ b ∈ bs, b < 256) (h : Rd w w.heap.size A bs) :
    Calls Try.prog 43 #[.agg #[.int .i64 len, .slice A bs.length c]] w fun e w' => e = .returned (.int .i64 (chk len bs)) ∧ Below w.heap.size w w' := by
  unfold chk
  by_cases h0 : len < 0
  · rw [if_pos (.inl h0)]; exact check_low len A _ c w h0
  · by_cases h1 : 8192 < len
    · rw [if_pos (.inr h1)]; exact check_high len A _ c w h1
    · rw [if_neg (by omega)]
      by_cases hn : bs.length = (len.toNat + 7) / 8
      · rw [if_neg (by omega)]; exact check_in len A c bs w (by omega) (by omega) hn hb h
      · rw [if_pos hn]; exact check_len len A _ c w (by omega) (by omega) hn
end Go.Proofs.Ytgibbokhdfblmaa
