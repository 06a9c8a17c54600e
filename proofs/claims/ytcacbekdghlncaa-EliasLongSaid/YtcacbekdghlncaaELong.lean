/- The law EliasLong: for whatever two numbers it returns true. -/
import Derived.Test.YtcacbekdghlncaaEBegun
import Derived.Test.YtcacbekdghlncaaOpen
namespace Go.Proofs.Ytcacbekdghlncaa
set_option maxRecDepth 100000
set_option linter.unusedVariables false
open Go.RowKit

set_option maxHeartbeats 2000000 in
theorem elong_ea (a b x y u v : Nat) (eA eB : Int) (h0 : eA ≠ 0)
    (HA : Hid (∀ V, Calls Try.prog 19 #[.int .u64 (a : Int)] V fun e w' => e = .returned (.tuple #[.int .i64 (x : Int), .int .i64 (y : Int), .int .i64 eA]) ∧ Below V.heap.size V w'))
    (HC : Hid (∀ V, Calls Try.prog 19 #[.int .u64 (b : Int)] V fun e w' => e = .returned (.tuple #[.int .i64 (u : Int), .int .i64 (v : Int), .int .i64 eB]) ∧ Below V.heap.size V w')) (w : World) :
    Calls Try.prog 5 #[.int .u64 (a : Int), .int .u64 (b : Int)] w fun e w' => e = .returned (.bool true) ∧ Below w.heap.size w w' := by
  have t0 : (eA != 0) = true := by simpa using h0
  go_enter Try.func5, Try.ntmps5
  go_wp2_with fail
  refine (HA.out _).mono ?_
  rintro e w1_ ⟨rfl, Bq⟩
  have Sq : Below w.heap.size w w1_ := Bq
  have HB : Hid (Below w.heap.size w w1_) := Sq
  clear Bq Sq
  go_wp2_with fail
  refine (HC.out _).mono ?_
  rintro e w2_ ⟨rfl, Bq⟩
  have Sq : Below w1_.heap.size w1_ w2_ := Bq
  replace HB : Hid (Below w.heap.size w w2_) := HB.out.trans (Sq.mono HB.out.size)
  clear Bq Sq
  go_wp2_with fail
  refine (ebegun_true _).mono ?_
  rintro e w3_ ⟨rfl, Bq⟩
  have Sq : Below w2_.heap.size w2_ w3_ := Bq
  replace HB : Hid (Below w.heap.size w w3_) := HB.out.trans (Sq.mono HB.out.size)
  clear Bq Sq
  go_wp2
  go_ret
  exact ⟨rfl, HB.out⟩
set_option maxHeartbeats 2000000 in
theorem elong_eb (a b x y u v : Nat) (eA eB : Int) (h0 : eB ≠ 0)
    (HA : Hid (∀ V, Calls Try.prog 19 #[.int .u64 (a : Int)] V fun e w' => e = .returned (.tuple #[.int .i64 (x : Int), .int .i64 (y : Int), .int .i64 0]) ∧ Below V.heap.size V w'))
    (HC : Hid (∀ V, Calls Try.prog 19 #[.int .u64 (b : Int)] V fun e w' => e = .returned (.tuple #[.int .i64 (u : Int), .int .i64 (v : Int), .int .i64 eB]) ∧ Below V.heap.size V w')) (w : World) :
    Calls Try.prog 5 #[.int .u64 (a : Int), .int .u64 (b : Int)] w fun e w' => e = .returned (.bool true) ∧ Below w.heap.size w w' := by
  have t0 : (eB != 0) = true := by simpa using h0
  go_enter Try.func5, Try.ntmps5
  go_wp2_with fail
  refine (HA.out _).mono ?_
  rintro e w1_ ⟨rfl, Bq⟩
  have Sq : Below w.heap.size w w1_ := Bq
  have HB : Hid (Below w.heap.size w w1_) := Sq
  clear Bq Sq
  go_wp2_with fail
  refine (HC.out _).mono ?_
  rintro e w2_ ⟨rfl, Bq⟩
  have Sq : Below w1_.heap.size w1_ w2_ := Bq
  replace HB : Hid (Below w.heap.size w w2_) := HB.out.trans (Sq.mono HB.out.size)
  clear Bq Sq
  go_wp2_with fail
  refine (ebegun_true _).mono ?_
  rintro e w3_ ⟨rfl, Bq⟩
  have Sq : Below w2_.heap.size w2_ w3_ := Bq
  replace HB : Hid (Below w.heap.size w w3_) := HB.out.trans (Sq.mono HB.out.size)
  clear Bq Sq
  go_wp2
  go_ret
  exact ⟨rfl, HB.out⟩
set_option maxHeartbeats 2000000 in
theorem elong_gt (a b x y u v : Nat) (eA eB : Int) (h0 : b < a)
    (HA : Hid (∀ V, Calls Try.prog 19 #[.int .u64 (a : Int)] V fun e w' => e = .returned (.tuple #[.int .i64 (x : Int), .int .i64 (y : Int), .int .i64 0]) ∧ Below V.heap.size V w'))
    (HC : Hid (∀ V, Calls Try.prog 19 #[.int .u64 (b : Int)] V fun e w' => e = .returned (.tuple #[.int .i64 (u : Int), .int .i64 (v : Int), .int .i64 0]) ∧ Below V.heap.size V w')) (w : World) :
    Calls Try.prog 5 #[.int .u64 (a : Int), .int .u64 (b : Int)] w fun e w' => e = .returned (.bool true) ∧ Below w.heap.size w w' := by
  have t0 : decide ((b : Int) < (a : Int)) = true := by simp; omega
  go_enter Try.func5, Try.ntmps5
  go_wp2_with fail
  refine (HA.out _).mono ?_
  rintro e w1_ ⟨rfl, Bq⟩
  have Sq : Below w.heap.size w w1_ := Bq
  have HB : Hid (Below w.heap.size w w1_) := Sq
  clear Bq Sq
  go_wp2_with fail
  refine (HC.out _).mono ?_
  rintro e w2_ ⟨rfl, Bq⟩
  have Sq : Below w1_.heap.size w1_ w2_ := Bq
  replace HB : Hid (Below w.heap.size w w2_) := HB.out.trans (Sq.mono HB.out.size)
  clear Bq Sq
  go_wp2_with fail
  refine (ebegun_true _).mono ?_
  rintro e w3_ ⟨rfl, Bq⟩
  have Sq : Below w2_.heap.size w2_ w3_ := Bq
  replace HB : Hid (Below w.heap.size w w3_) := HB.out.trans (Sq.mono HB.out.size)
  clear Bq Sq
  go_wp2
  go_ret
  exact ⟨rfl, HB.out⟩
set_option maxHeartbeats 2000000 in
theorem elong_lo (a b x y u v : Nat) (eA eB : Int) (h0 : a ≤ b) (h1 : x ≤ u) (h2 : y ≤ v) (h3 : x % 2 = 1) (h4 : a < 31) (h5 : y ≤ x + 1) (h6 : x ≤ 200)
    (HA : Hid (∀ V, Calls Try.prog 19 #[.int .u64 (a : Int)] V fun e w' => e = .returned (.tuple #[.int .i64 (x : Int), .int .i64 (y : Int), .int .i64 0]) ∧ Below V.heap.size V w'))
    (HC : Hid (∀ V, Calls Try.prog 19 #[.int .u64 (b : Int)] V fun e w' => e = .returned (.tuple #[.int .i64 (u : Int), .int .i64 (v : Int), .int .i64 0]) ∧ Below V.heap.size V w')) (w : World) :
    Calls Try.prog 5 #[.int .u64 (a : Int), .int .u64 (b : Int)] w fun e w' => e = .returned (.bool true) ∧ Below w.heap.size w w' := by
  have t0 : decide ((b : Int) < (a : Int)) = false := by simp; omega
  have d1 : decide ((x : Int) ≤ (u : Int)) = true := by simp; omega
  have d2 : decide ((y : Int) ≤ (v : Int)) = true := by simp; omega
  have d3 : ((x : Int) % 2 == 1) = true := by simp; omega
  have d5 : decide ((y : Int) ≤ (x : Int) + 1) = true := by simp; omega
  have d4 : decide ((a : Int) < 31) = true := by simp; omega
  go_enter Try.func5, Try.ntmps5
  go_wp2_with fail
  refine (HA.out _).mono ?_
  rintro e w1_ ⟨rfl, Bq⟩
  have Sq : Below w.heap.size w w1_ := Bq
  have HB : Hid (Below w.heap.size w w1_) := Sq
  clear Bq Sq
  go_wp2_with fail
  refine (HC.out _).mono ?_
  rintro e w2_ ⟨rfl, Bq⟩
  have Sq : Below w1_.heap.size w1_ w2_ := Bq
  replace HB : Hid (Below w.heap.size w w2_) := HB.out.trans (Sq.mono HB.out.size)
  clear Bq Sq
  go_wp2_with fail
  refine (ebegun_true _).mono ?_
  rintro e w3_ ⟨rfl, Bq⟩
  have Sq : Below w2_.heap.size w2_ w3_ := Bq
  replace HB : Hid (Below w.heap.size w w3_) := HB.out.trans (Sq.mono HB.out.size)
  clear Bq Sq
  go_wp2
  go_ret
  exact ⟨rfl, HB.out⟩
set_option maxHeartbeats 2000000 in
theorem elong_hi (a b x y u v : Nat) (eA eB : Int) (h0 : a ≤ b) (h1 : x ≤ u) (h2 : y ≤ v) (h3 : x % 2 = 1) (h4 : 31 ≤ a) (h7 : y ≤ x) (h5 : y ≤ x + 1) (h6 : x ≤ 200)
    (HA : Hid (∀ V, Calls Try.prog 19 #[.int .u64 (a : Int)] V fun e w' => e = .returned (.tuple #[.int .i64 (x : Int), .int .i64 (y : Int), .int .i64 0]) ∧ Below V.heap.size V w'))
    (HC : Hid (∀ V, Calls Try.prog 19 #[.int .u64 (b : Int)] V fun e w' => e = .returned (.tuple #[.int .i64 (u : Int), .int .i64 (v : Int), .int .i64 0]) ∧ Below V.heap.size V w')) (w : World) :
    Calls Try.prog 5 #[.int .u64 (a : Int), .int .u64 (b : Int)] w fun e w' => e = .returned (.bool true) ∧ Below w.heap.size w w' := by
  have t0 : decide ((b : Int) < (a : Int)) = false := by simp; omega
  have d1 : decide ((x : Int) ≤ (u : Int)) = true := by simp; omega
  have d2 : decide ((y : Int) ≤ (v : Int)) = true := by simp; omega
  have d3 : ((x : Int) % 2 == 1) = true := by simp; omega
  have d5 : decide ((y : Int) ≤ (x : Int) + 1) = true := by simp; omega
  have d4 : decide ((a : Int) < 31) = false := by simp; omega
  have d6 : decide ((y : Int) ≤ (x : Int)) = true := by simp; omega
  go_enter Try.func5, Try.ntmps5
  go_wp2_with fail
  refine (HA.out _).mono ?_
  rintro e w1_ ⟨rfl, Bq⟩
  have Sq : Below w.heap.size w w1_ := Bq
  have HB : Hid (Below w.heap.size w w1_) := Sq
  clear Bq Sq
  go_wp2_with fail
  refine (HC.out _).mono ?_
  rintro e w2_ ⟨rfl, Bq⟩
  have Sq : Below w1_.heap.size w1_ w2_ := Bq
  replace HB : Hid (Below w.heap.size w w2_) := HB.out.trans (Sq.mono HB.out.size)
  clear Bq Sq
  go_wp2_with fail
  refine (ebegun_true _).mono ?_
  rintro e w3_ ⟨rfl, Bq⟩
  have Sq : Below w2_.heap.size w2_ w3_ := Bq
  replace HB : Hid (Below w.heap.size w w3_) := HB.out.trans (Sq.mono HB.out.size)
  clear Bq Sq
  go_wp2
  go_ret
  exact ⟨rfl, HB.out⟩

theorem lg_small : ∀ k : Fin 41, 2 * lg k.val ≤ k.val + 1 ∧ (5 ≤ k.val → 2 * lg k.val ≤ k.val) := by decide +kernel
theorem elong_law (a b : Nat) (w : World) (_ : a < 18446744073709551616) (_ : b < 18446744073709551616) :
    Calls Try.prog 5 #[.int .u64 (a : Int), .int .u64 (b : Int)] w fun e w' => e = .returned (.bool true) ∧ Below w.heap.size w w' := by
  have hl : ∀ n : Nat, ∃ (x y : Nat) (e0 : Int), (1099511627776 < n → e0 = 3) ∧ (n ≤ 1099511627776 → e0 = 0 ∧ x = (gam n).length ∧ y = (del n).length) ∧ ∀ V, Calls Try.prog 19 #[.int .u64 (n : Int)] V fun e w' => e = .returned (.tuple #[.int .i64 (x : Int), .int .i64 (y : Int), .int .i64 e0]) ∧ Below V.heap.size V w' := by
    intro n
    by_cases h : 1099511627776 < n
    · exact ⟨0, 0, 3, fun _ => rfl, fun h' => by omega, fun V => long_e n h V⟩
    · exact ⟨_, _, 0, fun h' => absurd h' h, fun _ => ⟨rfl, rfl, rfl⟩, fun V => long_ok n (by omega) _ _ rfl rfl V⟩
  obtain ⟨x, y, eA, a1, a2, a3⟩ := hl a
  obtain ⟨u, v, eB, b1, b2, b3⟩ := hl b
  by_cases ha : 1099511627776 < a
  · exact elong_ea a b x y u v eA eB (by rw [a1 ha]; decide) a3 b3 w
  · obtain ⟨rfl, hx, hy⟩ := a2 (by omega)
    by_cases hb : 1099511627776 < b
    · exact elong_eb a b x y u v 0 eB (by rw [b1 hb]; decide) a3 b3 w
    · obtain ⟨rfl, hu, hv⟩ := b2 (by omega)
      by_cases hab : b < a
      · exact elong_gt a b x y u v 0 0 hab a3 b3 w
      · have m1 := lg_mono (Nat.not_lt.1 hab)
        have m2 := lg_mono m1
        have k1 := lg_lt_of a 41 (by omega)
        obtain ⟨s1, s2⟩ := lg_small ⟨lg a, k1⟩
        simp only at s1 s2
        rw [gam_length] at hx hu
        rw [del_length] at hy hv
        by_cases h31 : a < 31
        · exact elong_lo a b x y u v 0 0 (by omega) (by omega) (by omega) (by omega) h31 (by omega) (by omega) a3 b3 w
        · have k5 : 5 ≤ lg a := by
            have := lg_mono (Nat.not_lt.1 h31)
            have e : lg 31 = 5 := by decide +kernel
            omega
          have := s2 k5
          exact elong_hi a b x y u v 0 0 (by omega) (by omega) (by omega) (by omega) (by omega) (by omega) (by omega) (by omega) a3 b3 w
end Go.Proofs.Ytcacbekdghlncaa
