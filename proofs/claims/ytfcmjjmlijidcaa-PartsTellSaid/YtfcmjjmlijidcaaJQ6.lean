/- Texts of this proof, one behind the other (RRis); each fact names its conditions. -/
import Derived.Test.YtfcmjjmlijidcaaJQNGaps
import Derived.Deep.RegionHeld3
namespace Go.Proofs.Ytfcmjjmlijidcaa

section
set_option maxRecDepth 100000
set_option linter.unusedVariables false
open Go.RowKit Go.Shelf

theorem below_drewN' {B : Nat} {w X : World} (h : Below B w X) (k : Nat) : Below B w (X.drewN k) := ⟨h.os, h.tape, h.output, h.size, h.block⟩
theorem rck_cons (v x : Int) (t : List Int) : rck v (x :: t) = if x < 0 ∨ 1048576 < x then 3 else if x ≤ v then 4 else rck x t := rfl
/-- The number ahead. -/
def ahd (xs : List Int) (i : Nat) : Int := if i = 0 then -1 else xs[i - 1]?.getD 0
theorem ahd_succ (xs : List Int) (i : Nat) : ahd xs (i + 1) = xs[i]?.getD 0 := by unfold ahd; rw [if_neg (by omega)]; rfl
def RcRel (xs : List Int) (w : World) (p : Value) (wr : World) : Prop :=
  ∃ i : Nat, i ≤ xs.length ∧ p = .int .i64 (i : Int) ∧ rck (-1) xs = rck (ahd xs i) (xs.drop i) ∧ Below w.heap.size w wr
set_option maxHeartbeats 2000000 in
theorem rising_any (xs : List Int) (n : Nat) (hn : xs.length = n) (hn2 : n ≤ 9223372036854775807) (A : Option Addr) (c : Nat) (w : World) (h : RdV w w.heap.size A (zc xs)) :
    Calls Try.prog 15 #[.slice A n c] w fun e w' => e = .returned (.int .i64 (rchk xs)) ∧ Below w.heap.size w w' := by
  by_cases h300 : 300 < n
  · have er : rchk xs = 2 := by unfold rchk; rw [if_pos (by omega)]
    rw [er]
    have t0 : decide ((300 : Int) < (n : Int)) = true := by simp; omega
    have t1 : decide (300 < n) = true := by simpa using h300
    go_enter Try.func15, Try.ntmps15
    go_wp2
    go_ret
    exact ⟨rfl, Below.refl _ _⟩
  · have er : rchk xs = rck (-1) xs := by unfold rchk; rw [if_neg (by omega)]
    rw [er]
    obtain ⟨r, hr⟩ : ∃ r, rck (-1) xs = r := ⟨_, rfl⟩
    rw [hr]
    have HRr := Lib.hid hr
    have HX := Lib.hid h; have HN := Lib.hid hn
    have t0 : decide ((300 : Int) < (n : Int)) = false := by simp; omega
    have t1 : decide (300 < n) = false := by simpa using h300
    have hn3 : n ≤ 300 := by omega
    clear h hn hr er
    go_enter Try.func15, Try.ntmps15
    go_wp2
    clear t0 t1
    go_loopw [3] (fun p wr => RcRel xs w p wr) (fun p _ => n - (intOf p).toNat)
    case atStart => exact ⟨0, Nat.zero_le _, rfl, rfl, Below.refl _ _⟩
    case round =>
      obtain ⟨i, hi, rfl, hck, hbel⟩ := hrel
      rw [HN.out] at hi
      by_cases hlt : i < n
      · have hin : i < xs.length := by rw [HN.out]; exact hlt
        obtain ⟨b, off, rfl, hb, hc1⟩ := (HX.out.on hbel).at_ (zc_get xs i hin)
        rw [drop_at xs i hin, rck_cons] at hck
        have hsu := ahd_succ xs i
        have t1 : decide ((i : Int) < (n : Int)) = true := by simp; omega
        have t2 : decide (i < n) = true := by simpa using hlt
        have t3 : (0 : Int) ≤ (i : Int) := by omega
        have t4 : (i : Int) < (n : Int) := by omega
        by_cases hr1 : xs[i]?.getD 0 < 0 ∨ 1048576 < xs[i]?.getD 0
        · rw [if_pos hr1] at hck
          obtain rfl : r = 3 := by rw [← HRr.out, hck]
          have hbt := between_no (xs[i]?.getD 0) 0 1048576 (by omega)
          have HBt := Lib.hid hbt
          have HB := Lib.hid hbel
          clear hck hsu hr1 hbt hbel HRr
          generalize xs[i]?.getD 0 = x at *
          go_wp2_with fail
          refine (HBt.out _).mono ?_
          rintro e _ ⟨rfl, rfl⟩
          go_wp2
          go_ret
          exact ⟨rfl, HB.out⟩
        · rw [if_neg hr1] at hck
          have hbt := between_yes (xs[i]?.getD 0) 0 1048576 (by omega)
          have HBt := Lib.hid hbt
          have HB := Lib.hid hbel
          clear hbt
          by_cases hi0 : i = 0
          · subst hi0
            have hne : ¬ xs[0]?.getD 0 ≤ ahd xs 0 := by unfold ahd; rw [if_pos rfl]; omega
            rw [if_neg hne, ← hsu] at hck
            have HCk := Lib.hid hck
            clear hck hsu hr1 hbel hne
            have hc0 : wr.cell? ⟨b, off, none⟩ = some (.int .i64 (xs[0]?.getD 0)) := by simpa using hc1
            generalize xs[0]?.getD 0 = x at *
            go_wp2_with fail
            refine (HBt.out _).mono ?_
            rintro e _ ⟨rfl, rfl⟩
            go_wp2
            go_quiet (fail)
            go_wp2
            go_roundw
            case rel => exact ⟨1, by rw [HN.out]; omega, by go_num, HCk.out, below_drewN' HB.out _⟩
            case measure => simp [intOf]; omega
          · obtain ⟨b2, off2, hA2, hb2, hc0⟩ := (HX.out.on hbel).at_ (zc_get xs (i - 1) (by omega))
            simp only [Option.some.injEq, Addr.mk.injEq, and_true] at hA2
            obtain ⟨rfl, rfl⟩ := hA2
            have hah : ahd xs i = xs[i - 1]?.getD 0 := by unfold ahd; rw [if_neg hi0]
            rw [hah] at hck
            have t5 : (0 : Int) ≤ (i : Int) - 1 := by omega
            have t6 : (i : Int) - 1 < (n : Int) := by omega
            have t7 : ((i : Int) - 1).toNat = i - 1 := by omega
            have t8 : (1 : Int) ≤ (i : Int) := by omega
            have t9 : (i : Int) < (n : Int) + 1 := by omega
            have t10 : (i : Int) ≤ (n : Int) := by omega
            have t11 : i - 1 < n := by omega
            have t12 : decide ((0 : Int) < (i : Int)) = true := by simp; omega
            have t13 : decide (0 < i) = true := by simp; omega
            have ts : IntKind.i64.wrap ((i : Int) - 1) = (i : Int) - 1 := IntWalk.i64_in _ (by omega)
            by_cases hle : xs[i]?.getD 0 ≤ xs[i - 1]?.getD 0
            · rw [if_pos hle] at hck
              obtain rfl : r = 4 := by rw [← HRr.out, hck]
              have te : decide (xs[i]?.getD 0 ≤ xs[i - 1]?.getD 0) = true := by simpa using hle
              clear hck hsu hr1 hbel hle hah HRr
              generalize xs[i]?.getD 0 = x at *
              generalize xs[i - 1]?.getD 0 = y at *
              go_wp2_with fail
              refine (HBt.out _).mono ?_
              rintro e _ ⟨rfl, rfl⟩
              go_wp2
              go_quiet (fail)
              go_wp2
              go_ret
              exact ⟨rfl, below_drewN' HB.out _⟩
            · rw [if_neg hle, ← hsu] at hck
              have HCk := Lib.hid hck
              have te : decide (xs[i]?.getD 0 ≤ xs[i - 1]?.getD 0) = false := by simpa using hle
              clear hck hsu hr1 hbel hle hah
              generalize xs[i]?.getD 0 = x at *
              generalize xs[i - 1]?.getD 0 = y at *
              go_wp2_with fail
              refine (HBt.out _).mono ?_
              rintro e _ ⟨rfl, rfl⟩
              go_wp2
              go_quiet (fail)
              go_wp2
              go_roundw
              case rel => exact ⟨i + 1, by rw [HN.out]; omega, by go_num, HCk.out, below_drewN' HB.out _⟩
              case measure => simp [intOf]; omega
      · rw [List.drop_of_length_le (by rw [HN.out]; omega)] at hck
        obtain rfl : r = 0 := by rw [← HRr.out, hck]; rfl
        have HB := Lib.hid hbel
        clear hck hbel HRr
        have t1 : decide ((i : Int) < (n : Int)) = false := by simp; omega
        have t2 : decide (i < n) = false := by simpa using hlt
        go_wp2
        go_ret
        exact ⟨rfl, HB.out⟩
end
end Go.Proofs.Ytfcmjjmlijidcaa
