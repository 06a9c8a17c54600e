/- The law GapsAhead: fewer numbers have fewer gaps, the first ones; those behind are told from the last of these; for whatever list. -/
import Derived.Test.YthldcdcpflamaaaJGNLAhead
namespace Go.Proofs.Ythldcdcpflamaaa
set_option maxRecDepth 100000
set_option linter.unusedVariables false
open Go.RowKit Go.Shelf

set_option maxHeartbeats 1000000 in
theorem gapsAhead_law (A : Option Addr) (c : Nat) (xs : List Int) (a d : Int) (w : World) (hc : xs.length ≤ c) (hna : A = none → c = 0) (hb : ∀ x ∈ xs, -9223372036854775808 ≤ x ∧ x ≤ 9223372036854775807) (hA : RdV w w.heap.size A (zc xs)) (hn : xs.length ≤ 9223372036854775807 ∧ c ≤ 9223372036854775807) (ha : -9223372036854775808 ≤ a ∧ a ≤ 9223372036854775807) (hd : -9223372036854775808 ≤ d ∧ d ≤ 9223372036854775807) :
    Calls Try.prog 8 #[.slice A xs.length c, .int .i64 a, .int .i64 d] w fun e w' => e = .returned (.bool true) ∧ Below w.heap.size w w' := by
  have H1 := Lib.hid (fun w h => gaps_any xs _ rfl hn.1 a A c w h)
  by_cases e1 : gE xs a = 0
  · by_cases d1 : d < 1
    · have HA := Lib.hid hA
      have t1 : decide (d < 1) = true := by simpa using d1
      rw [e1] at H1
      generalize gL xs a = gl at *
      generalize xs.length = n at *
      clear e1 d1 hA hb
      go_enter Try.func8, Try.ntmps8
      go_wp2_with fail
      refine (H1.out w HA.out).mono ?_
      rintro e w1_ ⟨A1, c1, rfl, -, -, hr1, Bq⟩
      replace HA := Lib.hid (HA.out.on Bq)
      have HB := Lib.hid Bq
      clear Bq
      have G1 := Lib.hid hr1; clear hr1
      go_wp2_with fail
      refine (gapsbegun_true w1_).mono ?_
      rintro e w2_ ⟨rfl, Bq⟩
      replace HA := Lib.hid (HA.out.on Bq)
      replace G1 := Lib.hid (G1.out.on Bq)
      replace HB := Lib.hid (HB.out.trans (Bq.mono HB.out.size))
      clear Bq
      go_wp2
      go_ret
      exact ⟨rfl, HB.out⟩
    · obtain ⟨j, rfl⟩ := Int.eq_ofNat_of_zero_le (show 0 ≤ d by omega)
      by_cases d2 : xs.length ≤ j
      · have HA := Lib.hid hA
        have t1 : decide ((j : Int) < 1) = false := by simp; omega
        have t2 : decide ((xs.length : Int) ≤ (j : Int)) = true := by simp; omega
        have t3 : decide (xs.length ≤ j) = true := by simpa using d2
        rw [e1] at H1
        generalize gL xs a = gl at *
        generalize xs.length = n at *
        clear e1 d1 d2 hA hb
        go_enter Try.func8, Try.ntmps8
        go_wp2_with fail
        refine (H1.out w HA.out).mono ?_
        rintro e w1_ ⟨A1, c1, rfl, -, -, hr1, Bq⟩
        replace HA := Lib.hid (HA.out.on Bq)
        have HB := Lib.hid Bq
        clear Bq
        have G1 := Lib.hid hr1; clear hr1
        go_wp2_with fail
        refine (gapsbegun_true w1_).mono ?_
        rintro e w2_ ⟨rfl, Bq⟩
        replace HA := Lib.hid (HA.out.on Bq)
        replace G1 := Lib.hid (G1.out.on Bq)
        replace HB := Lib.hid (HB.out.trans (Bq.mono HB.out.size))
        clear Bq
        go_wp2
        go_ret
        exact ⟨rfl, HB.out⟩
      · obtain ⟨l, m, rfl, hl, rfl, hm⟩ := gE_zero xs a e1
        have hll : l.length = (ns l).length := (ns_length l).symm
        exact ahead_in l hl _ hll A c hc hn.2 m hm w hA j (by omega) (by omega)
  · have HA := Lib.hid hA
    have t1 : (gE xs a != 0) = true := by simpa using e1
    generalize gE xs a = eg at *
    generalize gL xs a = gl at *
    generalize xs.length = n at *
    clear e1 hA hb
    go_enter Try.func8, Try.ntmps8
    go_wp2_with fail
    refine (H1.out w HA.out).mono ?_
    rintro e w1_ ⟨A1, c1, rfl, -, -, hr1, Bq⟩
    replace HA := Lib.hid (HA.out.on Bq)
    have HB := Lib.hid Bq
    clear Bq
    have G1 := Lib.hid hr1; clear hr1
    go_wp2_with fail
    refine (gapsbegun_true w1_).mono ?_
    rintro e w2_ ⟨rfl, Bq⟩
    replace HA := Lib.hid (HA.out.on Bq)
    replace G1 := Lib.hid (G1.out.on Bq)
    replace HB := Lib.hid (HB.out.trans (Bq.mono HB.out.size))
    clear Bq
    go_wp2
    go_ret
    exact ⟨rfl, HB.out⟩
end Go.Proofs.Ythldcdcpflamaaa
