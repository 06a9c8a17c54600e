/- How many numbers at the beginning of a list are one next to the other, as the program counts; and whether two next to each other are the same. -/
import Derived.Test.YtfcmjjmlijidcaaJQNGaps
import Derived.Test.YtfcmjjmlijidcaaJQRNPure
namespace Go.Proofs.Ytfcmjjmlijidcaa
set_option maxRecDepth 100000
set_option linter.unusedVariables false
open Go.RowKit Go.Shelf

theorem below_drewN {B : Nat} {w X : World} (h : Below B w X) (k : Nat) : Below B w (X.drewN k) := ⟨h.os, h.tape, h.output, h.size, h.block⟩
/-- At each round's head: the first k are one next to the other. -/
def ScRel (l : List Nat) (w : World) (p : Value) (wr : World) : Prop :=
  ∃ k : Nat, 1 ≤ k ∧ k ≤ l.length ∧ p = .int .i64 (k : Int) ∧ (∀ i, i < k → l[i]?.getD 0 = l[0]?.getD 0 + i) ∧ Below w.heap.size w wr
set_option maxHeartbeats 2000000 in
theorem succ_in (l : List Nat) (n : Nat) (hn : l.length = n) (h1 : 1 ≤ n) (h300 : n ≤ 300) (hle : ∀ x ∈ l, x ≤ 1048576) (A : Option Addr) (c : Nat) (w : World) (h : RdV w w.heap.size A (zc (ns l))) :
    Calls Try.prog 98 #[.slice A n c] w fun e w' => e = .returned (.int .i64 (m1 l : Int)) ∧ Below w.heap.size w w' := by
  obtain ⟨b, off, rfl, hb, hc0⟩ := h.at_ (ns_get l 0 (by omega))
  have hx0 := hle _ (at_mem l 0 (by omega))
  rw [Nat.add_zero] at hc0
  have HX := Lib.hid h; have HN := Lib.hid hn; have HLe := Lib.hid hle
  clear h hn hle
  go_enter Try.func98, Try.ntmps98
  go_wp2
  go_loopw [3] (fun p wr => ScRel l w p wr) (fun p _ => n - (intOf p).toNat)
  case atStart => exact ⟨1, Nat.le_refl _, by rw [HN.out]; exact h1, rfl, (fun (i : Nat) (hi : i < 1) => by rw [show i = 0 by omega]; rfl), Below.refl _ _⟩
  case round =>
    obtain ⟨k, hk1, hk, rfl, hall, hbel⟩ := hrel
    rw [HN.out] at hk
    have k0 := (hbel.cell (p := ⟨b, off, none⟩) hb).trans hc0
    by_cases hlt : k < n
    · have hin : k < l.length := by rw [HN.out]; exact hlt
      obtain ⟨b2, off2, hA2, hb2, hc1⟩ := (HX.out.on hbel).at_ (ns_get l k hin)
      simp only [Option.some.injEq, Addr.mk.injEq, and_true] at hA2
      obtain ⟨rfl, rfl⟩ := hA2
      have hx1 := HLe.out _ (at_mem l k hin)
      have HU := fun he => m1_uniq l k hk1 (by rw [HN.out]; exact hk) hall he
      have HAl := Lib.hid hall; have HB := Lib.hid hbel
      clear hbel hall
      have t1 : decide ((k : Int) < (n : Int)) = true := by simp; omega
      have t2 : decide (k < n) = true := by simpa using hlt
      have t3 : (0 : Int) ≤ (k : Int) := by omega
      have t4 : (k : Int) < (n : Int) := by omega
      have t5 : (0 : Int) < (n : Int) := by omega
      by_cases he : l[k]?.getD 0 = l[0]?.getD 0 + k
      · have HS : Hid (∀ i, i < k + 1 → l[i]?.getD 0 = l[0]?.getD 0 + i) := fun i hi => by
          by_cases e : i = k
          · subst e; exact he
          · exact HAl.out i (by omega)
        clear HU HAl
        generalize l[k]?.getD 0 = x at *
        generalize hy : l[0]?.getD 0 = y at *
        have HY := Lib.hid hy; clear hy
        have tw : IntKind.i64.wrap ((y : Int) + (k : Int)) = (y : Int) + (k : Int) := IntWalk.i64_in _ (by omega)
        have te : ((x : Int) == (y : Int) + (k : Int)) = true := by simp; omega
        clear he
        go_wp2
        go_quiet (fail)
        go_wp2
        go_roundw
        case rel => exact ⟨k + 1, by omega, by rw [HN.out]; omega, by go_num, by rw [HY.out]; exact HS.out, below_drewN HB.out _⟩
        case measure => simp [intOf]; omega
      · have hm := HU (fun _ => he)
        have HM := Lib.hid hm
        clear HU hm HAl
        generalize l[k]?.getD 0 = x at *
        generalize hy : l[0]?.getD 0 = y at *
        have HY := Lib.hid hy; clear hy
        have tw : IntKind.i64.wrap ((y : Int) + (k : Int)) = (y : Int) + (k : Int) := IntWalk.i64_in _ (by omega)
        have te : ((x : Int) == (y : Int) + (k : Int)) = false := by simp; omega
        clear he
        go_wp2
        go_quiet (fail)
        go_wp2
        go_ret
        exact ⟨by rw [HM.out]; rfl, below_drewN HB.out _⟩
    · have hm := m1_uniq l k hk1 (by rw [HN.out]; exact hk) hall (fun h => absurd h (by rw [HN.out]; omega))
      obtain rfl : k = n := by omega
      have HM := Lib.hid hm
      have HB := Lib.hid hbel
      clear hm hall hbel
      have t1 : decide ((k : Int) < (k : Int)) = false := by simp
      have t2 : decide (k < k) = false := by simp
      go_wp2
      go_quiet (fail)
      go_wp2
      go_ret
      exact ⟨by rw [HM.out]; rfl, below_drewN HB.out _⟩

/-- At each round's head: none of the first i is the one behind. -/
def TwRel (l : List Nat) (w : World) (p : Value) (wr : World) : Prop :=
  ∃ i : Nat, 1 ≤ i ∧ p = .int .i64 (i : Int) ∧ (∀ j, j + 1 < i → j + 1 < l.length → l[j + 1]?.getD 0 ≠ l[j]?.getD 0) ∧ Below w.heap.size w wr
set_option maxHeartbeats 2000000 in
theorem twice_in (l : List Nat) (n : Nat) (hn : l.length = n) (hn2 : n ≤ 1000000) (A : Option Addr) (c : Nat) (w : World) (h : RdV w w.heap.size A (zc (ns l))) :
    Calls Try.prog 92 #[.slice A n c] w fun e w' => e = .returned (.bool (tw l)) ∧ Below w.heap.size w w' := by
  have HX := Lib.hid h; have HN := Lib.hid hn
  clear h hn
  go_enter Try.func92, Try.ntmps92
  go_wp2
  go_loopw [3] (fun p wr => TwRel l w p wr) (fun p _ => n - (intOf p).toNat)
  case atStart => exact ⟨1, Nat.le_refl _, rfl, fun j h => by omega, Below.refl _ _⟩
  case round =>
    obtain ⟨i, hi1, rfl, hall, hbel⟩ := hrel
    by_cases hlt : i < n
    · have hin : i < l.length := by rw [HN.out]; exact hlt
      obtain ⟨b, off, rfl, hb, hc1⟩ := (HX.out.on hbel).at_ (ns_get l i hin)
      obtain ⟨b2, off2, hA2, hb2, hc0⟩ := (HX.out.on hbel).at_ (ns_get l (i - 1) (by omega))
      simp only [Option.some.injEq, Addr.mk.injEq, and_true] at hA2
      obtain ⟨rfl, rfl⟩ := hA2
      have HTw := Lib.hid (tw_at l)
      have HAl := Lib.hid hall; have HB := Lib.hid hbel
      clear hbel hall
      have t1 : decide ((i : Int) < (n : Int)) = true := by simp; omega
      have t2 : decide (i < n) = true := by simpa using hlt
      have t3 : (0 : Int) ≤ (i : Int) := by omega
      have t4 : (i : Int) < (n : Int) := by omega
      have t5 : (0 : Int) ≤ (i : Int) - 1 := by omega
      have t6 : (i : Int) - 1 < (n : Int) := by omega
      have t7 : ((i : Int) - 1).toNat = i - 1 := by omega
      have t8 : (1 : Int) ≤ (i : Int) := by omega
      have t9 : (i : Int) < (n : Int) + 1 := by omega
      have t10 : (i : Int) ≤ (n : Int) := by omega
      have t11 : i - 1 < n := by omega
      have ts : IntKind.i64.wrap ((i : Int) - 1) = (i : Int) - 1 := IntWalk.i64_in _ (by omega)
      by_cases he : l[i]?.getD 0 = l[i - 1]?.getD 0
      · have HT : Hid (tw l = true) := HTw.out.2 ⟨i - 1, by rw [HN.out]; omega, by rw [show i - 1 + 1 = i by omega]; exact he⟩
        clear HTw HAl
        generalize l[i]?.getD 0 = x at *
        generalize l[i - 1]?.getD 0 = y at *
        have te : ((x : Int) == (y : Int)) = true := by simp; omega
        clear he
        go_wp2
        go_quiet (fail)
        go_wp2
        go_ret
        exact ⟨by rw [HT.out]; rfl, below_drewN HB.out _⟩
      · have HS : Hid (∀ j, j + 1 < i + 1 → j + 1 < l.length → l[j + 1]?.getD 0 ≠ l[j]?.getD 0) := fun j hj hl => by
          by_cases e : j + 1 = i
          · have : j = i - 1 := by omega
            subst this
            rw [show i - 1 + 1 = i by omega]; exact he
          · exact HAl.out j (by omega) hl
        clear HTw HAl
        generalize l[i]?.getD 0 = x at *
        generalize l[i - 1]?.getD 0 = y at *
        have te : ((x : Int) == (y : Int)) = false := by simp; omega
        clear he
        go_wp2
        go_quiet (fail)
        go_wp2
        go_roundw
        case rel => exact ⟨i + 1, by omega, by go_num, HS.out, below_drewN HB.out _⟩
        case measure => simp [intOf]; omega
    · have HT : Hid (tw l = false) := by
        show _ = _
        cases hh : tw l with
        | false => rfl
        | true =>
          obtain ⟨j, h1, h2⟩ := (tw_at l).1 hh
          exact absurd h2 (hall j (by rw [HN.out] at h1; omega) h1)
      have HB := Lib.hid hbel
      clear hall hbel
      have t1 : decide ((i : Int) < (n : Int)) = false := by simp; omega
      have t2 : decide (i < n) = false := by simp; omega
      go_wp2
      go_ret
      exact ⟨by rw [HT.out]; rfl, HB.out⟩
end Go.Proofs.Ytfcmjjmlijidcaa
