/- The law VarintFold: each number is folded to one and each is one folded, and nearer ones to lesser ones; for all numbers. -/
import Derived.Test.YtjogccpnhcnedaaVBegun
namespace Go.Proofs.Ytjogccpnhcnedaa
set_option maxRecDepth 100000
set_option linter.unusedVariables false
open Go.RowKit Go.Shelf

set_option maxHeartbeats 400000 in
theorem far_any (n : Int) (h0 : -9223372036854775808 ≤ n) (h1 : n ≤ 9223372036854775807) (w : World) :
    Calls Try.prog 39 #[.int .i64 n] w fun e w' => e = .returned (.int .u64 (n.natAbs : Int)) ∧ w = w' := by
  by_cases hn : n < 0
  · have HE : Hid (-(n + 1) + 1 = (n.natAbs : Int)) := by show _ = _; omega
    go_enter Try.func39, Try.ntmps39
    go_wp2
    go_ret
    exact ⟨ret_u64 HE.out, rfl⟩
  · have HE : Hid (n = (n.natAbs : Int)) := by show _ = _; omega
    go_enter Try.func39, Try.ntmps39
    go_wp2
    go_ret
    exact ⟨ret_u64 HE.out, rfl⟩

theorem fold_lt_of {a b : Int} (h : a.natAbs < b.natAbs) : fold a < fold b := by
  unfold fold
  split <;> split <;> omega

set_option maxHeartbeats 1000000 in
theorem vfold_law (a b : Int) (n : Nat) (w : World) (ha : -9223372036854775808 ≤ a ∧ a ≤ 9223372036854775807) (hb : -9223372036854775808 ≤ b ∧ b ≤ 9223372036854775807) (hn : n < 18446744073709551616) :
    Calls Try.prog 6 #[.int .i64 a, .int .i64 b, .int .u64 (n : Int)] w fun e w' => e = .returned (.bool true) ∧ Below w.heap.size w w' := by
  have H1 := Lib.hid (fold_any a ha.1 ha.2)
  have H2 := Lib.hid (unfold_any (fold a) (fold_lt a ha.1 ha.2))
  rw [unfold_fold] at H2
  have H3 := Lib.hid (unfold_any n hn)
  have H4 := Lib.hid (fold_any (unfold_ n) (unfold_bd n hn).1 (unfold_bd n hn).2)
  rw [fold_unfold] at H4
  have H5 := Lib.hid (far_any a ha.1 ha.2)
  have H6 := Lib.hid (far_any b hb.1 hb.2)
  have H7 := Lib.hid (fold_any b hb.1 hb.2)
  have HL := Lib.hid (@fold_lt_of a b)
  generalize fold a = fa at *
  generalize fold b = fb at *
  generalize unfold_ n = un at *
  generalize a.natAbs = na at *
  generalize b.natAbs = nb at *
  by_cases hlt : na < nb
  · have t1 : decide (nb ≤ na) = false := by simp; omega
    have hf := HL.out hlt
    have t2 : decide (fa < fb) = true := by simpa using hf
    clear HL hlt ha hb
    go_enter Try.func6, Try.ntmps6
    go_wp2_with fail
    refine (vbegun_true w).mono ?_
    rintro e w1 ⟨rfl, hb1⟩
    have HB := Lib.hid hb1; clear hb1
    go_wp2_with fail
    refine (H1.out _).mono ?_
    rintro e w_ ⟨rfl, rfl⟩
    go_wp2_with fail
    refine (H2.out _).mono ?_
    rintro e w_ ⟨rfl, rfl⟩
    go_wp2_with fail
    refine (H3.out _).mono ?_
    rintro e w_ ⟨rfl, rfl⟩
    go_wp2_with fail
    refine (H4.out _).mono ?_
    rintro e w_ ⟨rfl, rfl⟩
    go_wp2_with fail
    refine (H5.out _).mono ?_
    rintro e w_ ⟨rfl, rfl⟩
    go_wp2_with fail
    refine (H6.out _).mono ?_
    rintro e w_ ⟨rfl, rfl⟩
    go_wp2_with fail
    refine (H1.out _).mono ?_
    rintro e w_ ⟨rfl, rfl⟩
    go_wp2_with fail
    refine (H7.out _).mono ?_
    rintro e w_ ⟨rfl, rfl⟩
    go_wp2
    go_ret
    exact ⟨rfl, HB.out⟩
  · have t1 : decide (nb ≤ na) = true := by simp; omega
    clear HL hlt ha hb
    go_enter Try.func6, Try.ntmps6
    go_wp2_with fail
    refine (vbegun_true w).mono ?_
    rintro e w1 ⟨rfl, hb1⟩
    have HB := Lib.hid hb1; clear hb1
    go_wp2_with fail
    refine (H1.out _).mono ?_
    rintro e w_ ⟨rfl, rfl⟩
    go_wp2_with fail
    refine (H2.out _).mono ?_
    rintro e w_ ⟨rfl, rfl⟩
    go_wp2_with fail
    refine (H3.out _).mono ?_
    rintro e w_ ⟨rfl, rfl⟩
    go_wp2_with fail
    refine (H4.out _).mono ?_
    rintro e w_ ⟨rfl, rfl⟩
    go_wp2_with fail
    refine (H5.out _).mono ?_
    rintro e w_ ⟨rfl, rfl⟩
    go_wp2_with fail
    refine (H6.out _).mono ?_
    rintro e w_ ⟨rfl, rfl⟩
    go_wp2
    go_ret
    exact ⟨rfl, HB.out⟩
end Go.Proofs.Ytjogccpnhcnedaa
