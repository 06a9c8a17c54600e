/- The law VarintLong: greater numbers are no shorter, and none is longer than ten bytes; for all numbers. -/
import Derived.Test.YtjogccpnhcnedaaVBegun
namespace Go.Proofs.Ytjogccpnhcnedaa
set_option maxRecDepth 100000
set_option linter.unusedVariables false
open Go.RowKit Go.Shelf

/-- One number, newly laid, is written. -/
theorem write_one (a : Nat) (ha : a < 18446744073709551616) (w : World) : Calls Try.prog 27 #[.slice (some ⟨w.heap.size, 0, none⟩) 1 1] (w.alloc (.cells #[.int .u64 (a : Int)] 22)) (Wrote w (vb a) 0) := by
  have h := write_any [a] 1 rfl (by decide) (by intro n hn; simp at hn; omega) _ 1 _ (rdv_new w [a])
  have hv : vbs [a] = vb a := by simp [vbs]
  have ht := vb_ten a ha
  have e1 : wrL [a] = vb a := by unfold wrL; rw [hv, if_neg (by omega)]
  have e2 : wrE [a] = 0 := by unfold wrE; rw [hv, if_neg (by omega)]
  rw [e1, e2] at h
  exact h.mono fun _ _ h => wrote_new h

set_option maxHeartbeats 1000000 in
theorem vlong_law (a b : Nat) (w : World) (ha : a < 18446744073709551616) (hb : b < 18446744073709551616) :
    Calls Try.prog 8 #[.int .u64 (a : Int), .int .u64 (b : Int)] w fun e w' => e = .returned (.bool true) ∧ Below w.heap.size w w' := by
  have H1 := Lib.hid (write_one a ha)
  have H2 := Lib.hid (write_one b hb)
  have l1 := vb_pos a
  have l2 := vb_ten b hb
  have HM := Lib.hid (vb_mono b a)
  generalize hla : (vb a).length = la at *
  generalize hlb : (vb b).length = lb at *
  have t1 : decide ((1 : Int) ≤ (la : Int)) = true := by simp; omega
  have t2 : decide ((lb : Int) ≤ 10) = true := by simp; omega
  have H1' : Hid (∀ w, Calls Try.prog 27 #[.slice (some ⟨w.heap.size, 0, none⟩) 1 1] (w.alloc (.cells #[.int .u64 (a : Int)] 22)) fun e w' => ∃ A c, e = .returned (.tuple #[.slice A la c, .int .i64 0]) ∧ la ≤ c ∧ Rd w' w'.heap.size A (vb a) ∧ Below w.heap.size w w') := fun w => by
    have := H1.out w
    unfold Wrote at this
    rw [hla] at this
    exact this
  have H2' : Hid (∀ w, Calls Try.prog 27 #[.slice (some ⟨w.heap.size, 0, none⟩) 1 1] (w.alloc (.cells #[.int .u64 (b : Int)] 22)) fun e w' => ∃ A c, e = .returned (.tuple #[.slice A lb c, .int .i64 0]) ∧ lb ≤ c ∧ Rd w' w'.heap.size A (vb b) ∧ Below w.heap.size w w') := fun w => by
    have := H2.out w
    unfold Wrote at this
    rw [hlb] at this
    exact this
  clear hla hlb H1 H2
  by_cases hab : b < a
  · have t3 : decide (b < a) = true := by simpa using hab
    clear HM hab
    go_enter Try.func8, Try.ntmps8
    go_wp2_with fail
    refine (H1'.out w).mono ?_
    rintro e w1_ ⟨A1, c1, rfl, hc1, hr1, Bq⟩
    have HB := Lib.hid Bq
    clear Bq
    have G1 := Lib.hid hc1; clear hc1
    have G2 := Lib.hid hr1; clear hr1
    go_wp2_with fail
    refine (H2'.out w1_).mono ?_
    rintro e w2_ ⟨A2, c2, rfl, hc2, hr2, Bq⟩
    replace HB := Lib.hid (HB.out.trans (Bq.mono HB.out.size))
    clear Bq
    have G3 := Lib.hid hc2; clear hc2
    have G4 := Lib.hid hr2; clear hr2
    go_wp2_with fail
    refine (vbegun_true w2_).mono ?_
    rintro e w3_ ⟨rfl, Bq⟩
    replace HB := Lib.hid (HB.out.trans (Bq.mono HB.out.size))
    clear Bq
    go_wp2
    go_ret
    exact ⟨rfl, HB.out⟩
  · have hm := HM.out (by omega)
    have t3 : decide (b < a) = false := by simp; omega
    have t4 : decide (la ≤ lb) = true := by simpa using hm
    clear HM hab
    go_enter Try.func8, Try.ntmps8
    go_wp2_with fail
    refine (H1'.out w).mono ?_
    rintro e w1_ ⟨A1, c1, rfl, hc1, hr1, Bq⟩
    have HB := Lib.hid Bq
    clear Bq
    have G1 := Lib.hid hc1; clear hc1
    have G2 := Lib.hid hr1; clear hr1
    go_wp2_with fail
    refine (H2'.out w1_).mono ?_
    rintro e w2_ ⟨A2, c2, rfl, hc2, hr2, Bq⟩
    replace HB := Lib.hid (HB.out.trans (Bq.mono HB.out.size))
    clear Bq
    have G3 := Lib.hid hc2; clear hc2
    have G4 := Lib.hid hr2; clear hr2
    go_wp2_with fail
    refine (vbegun_true w2_).mono ?_
    rintro e w3_ ⟨rfl, Bq⟩
    replace HB := Lib.hid (HB.out.trans (Bq.mono HB.out.size))
    clear Bq
    go_wp2
    go_ret
    exact ⟨rfl, HB.out⟩
end Go.Proofs.Ytjogccpnhcnedaa
