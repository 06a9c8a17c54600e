/- The law GolombFull: for whatever number it returns true. -/
import Derived.Test.YtcacbekdghlncaaGBegun
import Derived.Test.YtcacbekdghlncaaGRises
import Derived.Test.YtcacbekdghlncaaOpen
import Derived.Deep.RegionHeld3
namespace Go.Proofs.Ytcacbekdghlncaa
set_option maxRecDepth 100000
set_option linter.unusedVariables false
open Go.RowKit

/-- How many bits a number below m wants. -/
def ln (n m : Nat) : Nat := if n < sh m then sz m - 1 else sz m
def sumF (m : Nat) : Nat → Nat
  | 0 => 0
  | n + 1 => sumF m n + 512 / 2 ^ ln n m
def lowF (m : Nat) : Nat → Nat
  | 0 => 99
  | n + 1 => min (lowF m n) (ln n m)
def highF (m : Nat) : Nat → Nat
  | 0 => 0
  | n + 1 => max (highF m n) (ln n m)
theorem sumF_le (m n : Nat) : sumF m n ≤ 512 * n := by
  induction n with
  | zero => simp [sumF]
  | succ n ih => simp only [sumF]; have := Nat.div_le_self 512 (2 ^ ln n m); omega
theorem lowF_le (m n : Nat) : lowF m n ≤ 99 := by
  induction n with
  | zero => simp [lowF]
  | succ n ih => simp only [lowF]; omega
theorem ln_le (n m : Nat) (h : m ≤ 512) : ln n m ≤ 9 := by
  have := sz_le m 9 (by omega)
  unfold ln; split <;> omega
theorem highF_le (m n : Nat) (h : m ≤ 512) : highF m n ≤ 9 := by
  induction n with
  | zero => simp [highF]
  | succ n ih => simp only [highF]; have := ln_le n m h; omega
theorem full_end : ∀ m : Fin 301, 1 ≤ m.val → sumF m.val m.val = 512 ∧ highF m.val m.val ≤ lowF m.val m.val + 1 := by decide +kernel

theorem wsum (s k : Nat) (hs : s ≤ 1000000) : wrap64 ((s : Int) + 512 / 2 ^ k) = ((s + 512 / 2 ^ k : Nat) : Int) := by
  have h := Nat.div_le_self 512 (2 ^ k)
  have e : ((512 : Int) / 2 ^ k) = ((512 / 2 ^ k : Nat) : Int) := by simp
  rw [e]
  generalize 512 / 2 ^ k = q at *
  unfold wrap64; omega
/-- At each round's head. -/
def FRel (w : World) (m : Nat) (s l h p : Value) (wr : World) : Prop :=
  ∃ n : Nat, n ≤ m ∧ p = .int .u64 (n : Int) ∧ s = .int .i64 (sumF m n : Int) ∧ l = .int .i64 (lowF m n : Int) ∧ h = .int .i64 (highF m n : Int) ∧ Below w.heap.size w wr

set_option maxHeartbeats 600000 in
theorem gfull_no (m : Nat) (h : m < 1 ∨ 300 < m) (w : World) : Calls Try.prog 12 #[.int .u64 (m : Int)] w fun e w' => e = .returned (.bool true) ∧ Below w.heap.size w w' := by
  rcases (show m < 1 ∨ (1 ≤ m ∧ 300 < m) by omega) with h | ⟨h1, h2⟩
  · have t0 : decide ((m : Int) < 1) = true := by simp; omega
    go_enter Try.func12, Try.ntmps12
    go_wp2_with fail
    refine (gbegun_true _).mono ?_
    rintro e w1 ⟨rfl, B1⟩
    have HB := Lib.hid B1; clear B1
    go_wp2
    go_ret
    exact ⟨rfl, HB.out⟩
  · have t0 : decide ((m : Int) < 1) = false := by simp; omega
    have t1 : decide ((300 : Int) < (m : Int)) = true := by simp; omega
    go_enter Try.func12, Try.ntmps12
    go_wp2_with fail
    refine (gbegun_true _).mono ?_
    rintro e w1 ⟨rfl, B1⟩
    have HB := Lib.hid B1; clear B1
    go_wp2
    go_ret
    exact ⟨rfl, HB.out⟩
theorem least_ln (n m : Nat) (h1 : 1 ≤ m) (h2 : m ≤ 300) (hn : n < m) (w : World) : Calls Try.prog 35 #[.int .u64 (n : Int), .int .u64 (m : Int)] w (Gv w (ln n m : Int) (pack (lst n m)).length (pack (lst n m)) 0) := by
  have h := least_ok n m h1 (by omega) hn _ rfl w
  rw [lst_length] at h
  exact h
set_option maxHeartbeats 1000000 in
theorem gfull_ok (m : Nat) (h1 : 1 ≤ m) (h2 : m ≤ 300) (w : World) : Calls Try.prog 12 #[.int .u64 (m : Int)] w fun e w' => e = .returned (.bool true) ∧ Below w.heap.size w w' := by
  have t0 : decide ((m : Int) < 1) = false := by simp; omega
  have t1 : decide ((300 : Int) < (m : Int)) = false := by simp; omega
  go_enter Try.func12, Try.ntmps12
  go_wp2_with fail
  refine (gbegun_true _).mono ?_
  rintro e w1 ⟨rfl, B1⟩
  have HB := Lib.hid B1; clear B1
  go_wp2
  go_loopw [3, 4, 5, 6] (fun s l h p wr => FRel w m s l h p wr) (fun _ _ _ p _ => m - (intOf p).toNat)
  case atStart => exact ⟨0, Nat.zero_le _, rfl, rfl, rfl, rfl, HB.out⟩
  case round =>
    obtain ⟨n, hn, rfl, rfl, rfl, rfl, hbel⟩ := hrel
    have HBel := Lib.hid hbel; clear hbel
    by_cases hlt : n < m
    · have b1 := sumF_le m n
      have b2 := lowF_le m n
      have b3 := highF_le m n (by omega)
      have b4 := ln_le n m (by omega)
      have HS : Hid (sumF m (n + 1) = sumF m n + 512 / 2 ^ ln n m) := rfl
      have HL : Hid (lowF m (n + 1) = min (lowF m n) (ln n m)) := rfl
      have HH : Hid (highF m (n + 1) = max (highF m n) (ln n m)) := rfl
      have HLe := Lib.hid (least_ln n m h1 h2 hlt)
      generalize sumF m n = s at *
      generalize lowF m n = l at *
      generalize highF m n = hi at *
      generalize ln n m = k at *
      generalize pack (lst n m) = bs at *
      generalize bs.length = N at *
      have t3 : decide ((9 : Int) < (k : Int)) = false := by simp; omega
      have k0 : (0 : Int) ≤ (k : Int) := by omega
      go_wp2_with fail
      refine (HLe.out _).mono ?_
      rintro e w2 ⟨A2, c2, rfl, R2, B2⟩
      have HB2 : Hid (Below w.heap.size w w2) := HBel.out.trans (B2.mono HBel.out.size)
      clear R2 B2
      go_wp2_with fail
      generalize hV : w2.alloc (.cells #[.int .i64 (k : Int), .slice A2 N c2] 25) = V
      have HBV : Hid (Below w.heap.size w V) := by
        rw [← hV]; exact HB2.out.trans ((one_below w2 _).mono HB2.out.size)
      have HK : Hid (∀ w' : World, w'.heap[w2.heap.size]? = V.heap[w2.heap.size]? → w'.cell? ⟨w2.heap.size, 0, none⟩ = some (.int .i64 (k : Int)) ∧ w'.cell? ⟨w2.heap.size, 1, none⟩ = some (.slice A2 N c2)) := by
        subst hV
        exact fun w' h => box_held h
      clear hV
      go_region_held3 (fun w' => w'.cell? ⟨w2.heap.size, 0, none⟩ = some (.int .i64 (k : Int)) ∧ w'.cell? ⟨w2.heap.size, 1, none⟩ = some (.slice A2 N c2))
        ((refine HK.out _ ?_; exact rfl))
        (fail)
      all_goals go_wp2
      all_goals exact ⟨⟨n + 1, by omega, by go_num, by rw [HS.out, wsum s k (by omega)], by rw [HL.out]; congr 1; omega, by rw [HH.out]; congr 1; omega, HBV.out.drew⟩, by simp [intOf]; omega⟩
    · have e : n = m := by omega
      subst e
      obtain ⟨e1, e2⟩ := full_end ⟨n, by omega⟩ h1
      simp only at e1 e2
      have b2 := lowF_le n n
      have b3 := highF_le n n (by omega)
      rw [e1]
      generalize lowF n n = l at *
      generalize highF n n = hi at *
      have t3 : decide ((hi : Int) - (l : Int) ≤ 1) = true := by simp; omega
      go_wp2
      go_ret
      exact ⟨rfl, HBel.out⟩
theorem gfull_law (m : Nat) (w : World) (_ : m < 18446744073709551616) : Calls Try.prog 12 #[.int .u64 (m : Int)] w fun e w' => e = .returned (.bool true) ∧ Below w.heap.size w w' := by
  by_cases h : m < 1 ∨ 300 < m
  · exact gfull_no m h w
  · exact gfull_ok m (by omega) (by omega) w
end Go.Proofs.Ytcacbekdghlncaa
