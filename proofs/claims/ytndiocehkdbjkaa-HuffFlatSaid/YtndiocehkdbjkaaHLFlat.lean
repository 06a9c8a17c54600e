/- The law HuffFlat: of as many signs as a power of two, all as often, each has as many bits as that says; for whatever is handed in. -/
import Derived.Test.YtndiocehkdbjkaaJH6
import Derived.Test.YtndiocehkdbjkaaHFlatP
namespace Go.Proofs.Ytndiocehkdbjkaa
set_option maxRecDepth 100000
set_option linter.unusedVariables false
open Go.RowKit Go.Shelf

set_option maxHeartbeats 4000000 in
theorem hfl_1 (y z : Int) (w : World) (h0 : y < 1) :
    Calls Try.prog 7 #[.int .i64 y, .int .i64 z] w fun e w' => e = .returned (.bool true) ∧ Below w.heap.size w w' := by
  have t0 : decide (y < 1) = true := by simp; omega
  go_enter Try.func7, Try.ntmps7
  go_wp2_with fail
  refine (huffbegun_true _).mono ?_
  rintro e w1_ ⟨rfl, Bq⟩
  have Sq : Below w.heap.size w w1_ := Bq
  have HB : Hid (Below w.heap.size w w1_) := Sq
  clear Bq Sq
  go_wp2
  go_ret
  exact ⟨rfl, HB.out⟩
set_option maxHeartbeats 4000000 in
theorem hfl_2 (y z : Int) (w : World) (h0 : 6 < y) :
    Calls Try.prog 7 #[.int .i64 y, .int .i64 z] w fun e w' => e = .returned (.bool true) ∧ Below w.heap.size w w' := by
  have t0 : decide (y < 1) = false := by simp; omega
  have t1 : decide (6 < y) = true := by simp; omega
  have t2 : decide (y > 6) = true := by simp; omega
  go_enter Try.func7, Try.ntmps7
  go_wp2_with fail
  refine (huffbegun_true _).mono ?_
  rintro e w1_ ⟨rfl, Bq⟩
  have Sq : Below w.heap.size w w1_ := Bq
  have HB : Hid (Below w.heap.size w w1_) := Sq
  clear Bq Sq
  go_wp2
  go_ret
  exact ⟨rfl, HB.out⟩
set_option maxHeartbeats 4000000 in
theorem hfl_3 (y z : Int) (w : World) (h0 : 1 ≤ y) (h1 : y ≤ 6) (h2 : z < 1) :
    Calls Try.prog 7 #[.int .i64 y, .int .i64 z] w fun e w' => e = .returned (.bool true) ∧ Below w.heap.size w w' := by
  have t0 : decide (y < 1) = false := by simp; omega
  have t1 : decide (6 < y) = false := by simp; omega
  have t2 : decide (y > 6) = false := by simp; omega
  have t3 : decide (z < 1) = true := by simp; omega
  go_enter Try.func7, Try.ntmps7
  go_wp2_with fail
  refine (huffbegun_true _).mono ?_
  rintro e w1_ ⟨rfl, Bq⟩
  have Sq : Below w.heap.size w w1_ := Bq
  have HB : Hid (Below w.heap.size w w1_) := Sq
  clear Bq Sq
  go_wp2
  go_ret
  exact ⟨rfl, HB.out⟩
set_option maxHeartbeats 4000000 in
theorem hfl_4 (y z : Int) (w : World) (h0 : 1 ≤ y) (h1 : y ≤ 6) (h2 : 1048576 < z) :
    Calls Try.prog 7 #[.int .i64 y, .int .i64 z] w fun e w' => e = .returned (.bool true) ∧ Below w.heap.size w w' := by
  have t0 : decide (y < 1) = false := by simp; omega
  have t1 : decide (6 < y) = false := by simp; omega
  have t2 : decide (y > 6) = false := by simp; omega
  have t3 : decide (z < 1) = false := by simp; omega
  have t4 : decide (1048576 < z) = true := by simp; omega
  have t5 : decide (z > 1048576) = true := by simp; omega
  go_enter Try.func7, Try.ntmps7
  go_wp2_with fail
  refine (huffbegun_true _).mono ?_
  rintro e w1_ ⟨rfl, Bq⟩
  have Sq : Below w.heap.size w w1_ := Bq
  have HB : Hid (Below w.heap.size w w1_) := Sq
  clear Bq Sq
  go_wp2
  go_ret
  exact ⟨rfl, HB.out⟩
/-- At each round's head: i numbers are set. -/
def FlRel (N o : Nat) (w1 : World) (g : Nat) (p : Value) (wr : World) : Prop :=
  ∃ i : Nat, i ≤ N ∧ p = .int .i64 (i : Int) ∧ wr.ownsRow w1.heap.size 3 1 (.slice (some ⟨g, 0, none⟩) N N) N (zc (ns (List.replicate i o ++ List.replicate (N - i) 0))) ∧ Below w1.heap.size w1 wr
theorem fl_set (N o i : Nat) (h : i < N) : List.replicate (i + 1) o ++ List.replicate (N - (i + 1)) 0 = (List.replicate i o ++ List.replicate (N - i) 0).set i o := by
  rw [List.set_append_right i o (by simp), List.length_replicate, Nat.sub_self, show N - i = (N - (i + 1)) + 1 by omega, List.replicate_succ (n := N - (i + 1)), List.set_cons_zero, List.replicate_succ' (n := i), List.append_assoc]
  rfl
set_option maxHeartbeats 8000000 in
theorem hfl_0 (d o : Nat) (w : World) (N : Nat) (hN : 2 ^ d = N) (h1 : 1 ≤ d) (h6 : d ≤ 6) (o1 : 1 ≤ o) (o2 : o ≤ 1048576) (hNN : N ≤ 64)
    (HM : Hid (∀ g V, RdV V V.heap.size (some ⟨g, 0, none⟩) (zc (ns (List.replicate N o))) → Calls Try.prog 16 #[.slice (some ⟨g, 0, none⟩) N N] V (GzM V N (List.replicate N d) 0))) :
    Calls Try.prog 7 #[.int .i64 (d : Int), .int .i64 (o : Int)] w fun e w' => e = .returned (.bool true) ∧ Below w.heap.size w w' := by
  have t0 : decide ((d : Int) < 1) = false := by simp; omega
  have t1 : decide (6 < (d : Int)) = false := by simp; omega
  have t2 : decide ((d : Int) > 6) = false := by simp; omega
  have t3 : decide ((o : Int) < 1) = false := by simp; omega
  have t4 : decide (1048576 < (o : Int)) = false := by simp; omega
  have t5 : decide ((o : Int) > 1048576) = false := by simp; omega
  have t6 : decide (d < 1) = false := by simp; omega
  have t7 : decide (6 < d) = false := by simp; omega
  have t8 : decide (o < 1) = false := by simp; omega
  have t9 : decide (1048576 < o) = false := by simp; omega
  have u0 : wrap64 ((2 : Int) ^ d) = (N : Int) := by
    rw [← hN]
    rcases (show d = 1 ∨ d = 2 ∨ d = 3 ∨ d = 4 ∨ d = 5 ∨ d = 6 by omega) with rfl | rfl | rfl | rfl | rfl | rfl <;> decide +kernel
  have u1 : ((d : Int) != (d : Int)) = false := by simp
  clear hN
  obtain ⟨i0, hi, hz0, hz1, hz2⟩ := info_parts info3i
  go_enter Try.func7, Try.ntmps7
  go_wp2_with fail
  refine (huffbegun_true _).mono ?_
  rintro e w1_ ⟨rfl, Bq⟩
  have Sq : Below w.heap.size w w1_ := Bq
  have HB : Hid (Below w.heap.size w w1_) := Sq
  clear Bq Sq
  go_wp2_with (at_make; refine wpList_make_full _ rfl _ _ 22 rfl w1_.heap.size 3 i0 (.int .i64 0) 1 Try.underlying22 hi hz0 hz1 _ _ _ _ N rfl rfl u0 u0 (by rw [hz2]; omega) (by unfold maxLen; omega) (Nat.le_refl _) ?_; intro w4 hown1 hgrow1; rw [made_rng, rng_zero] at hown1; have HO := Lib.hid hown1; have HG : Hid (Below w1_.heap.size w1_ w4) := Lib.hid ((Below.refl _ w1_).grown hgrow1 (Nat.le_refl _) (fun k hk => by cases hk)); clear hown1 hgrow1)
  obtain ⟨g, hg⟩ : ∃ g, w1_.heap.size = g := ⟨_, rfl⟩
  have HGg := Lib.hid hg
  rw [hg] at HO ⊢
  clear hg u0
  go_wp2
  go_loopw [6] (fun p wr => FlRel N o w1_ g p wr) (fun p _ => N - (intOf p).toNat)
  case atStart => exact ⟨0, Nat.zero_le _, rfl, by rw [HGg.out]; simpa using HO.out, HG.out⟩
  case round =>
    obtain ⟨i, hi', rfl, hrow, hbel⟩ := hrel
    by_cases hlt : i < N
    · have HBe := Lib.hid hbel; clear hbel
      have hset := own_set (i := i) hrow (.int .i64 (o : Int))
      rw [← zc_nset, ← fl_set N o i hlt] at hset
      have hl : i < (List.replicate i o ++ List.replicate (N - i) 0).length := by simp; omega
      obtain ⟨kc, kf⟩ := own_cell hrow (ns_get _ i hl)
      have HO3 := Lib.hid hset
      have HB3 := Lib.hid (HBe.out.setCell (p := ⟨g, i, none⟩) (Nat.le_of_eq HGg.out) (.int .i64 (o : Int)))
      clear hset hrow hl
      go_wp2
      go_roundw
      case rel => exact ⟨i + 1, by omega, by go_num, HO3.out, HB3.out⟩
      case measure => simp [intOf] <;> omega
    · obtain rfl : i = N := by omega
      rw [Nat.sub_self, List.replicate_zero, List.append_nil] at hrow
      have HR5 := Lib.hid (own_rdv hrow)
      have HBr : Hid (Below w.heap.size w wr) := HB.out.trans (hbel.mono HB.out.size)
      clear hrow hbel HO HG
      replace HB : Hid (Below w.heap.size w wr) := HBr
      go_wp2_with fail
      refine (HM.out g _ HR5.out).mono ?_
      rintro e w2_ ⟨A6, c6, rfl, -, -, Rq, Bq⟩
      have Sq : Below wr.heap.size wr w2_ := Bq
      replace HR5 : Hid (RdV w2_ w2_.heap.size (some ⟨g, 0, none⟩) (zc (ns (List.replicate i o)))) := HR5.out.on Sq
      replace HB : Hid (Below w.heap.size w w2_) := HB.out.trans (Sq.mono HB.out.size)
      clear Bq Sq
      have HR6 := Lib.hid Rq; clear Rq
      go_wp2
      go_loopw [9] (fun p V => (∃ j : Nat, j ≤ i ∧ p = .int .i64 (j : Int)) ∧ V = w2_) (fun p _ => i - (intOf p).toNat)
      case atStart => exact ⟨⟨0, Nat.zero_le _, rfl⟩, rfl⟩
      case round =>
        obtain ⟨⟨j, hj', rfl⟩, hw⟩ := hrel
        have hw2 := hw.symm
        subst hw2
        clear hw
        by_cases hlt2 : j < i
        · have hl : j < (List.replicate i d).length := by simpa using hlt2
          have k0 := ns_get (List.replicate i d) j hl
          have e1 : (List.replicate i d)[j]?.getD 0 = d := by rw [List.getElem?_replicate, if_pos hlt2]; rfl
          rw [e1] at k0
          obtain ⟨b6, off6, rfl, hb6, k6⟩ := HR6.out.at_ k0
          clear k0 e1 hl
          go_wp2
          go_roundw
          case rel => exact ⟨⟨j + 1, by omega, by go_num⟩, by trivial⟩
          case measure => simp [intOf] <;> omega
        · obtain rfl : j = i := by omega
          go_wp2
          go_ret
          exact ⟨rfl, HB.out⟩
theorem huffFlat_law (y z : Int) (w : World) (_ : -9223372036854775808 ≤ y ∧ y ≤ 9223372036854775807) (_ : -9223372036854775808 ≤ z ∧ z ≤ 9223372036854775807) :
    Calls Try.prog 7 #[.int .i64 y, .int .i64 z] w fun e w' => e = .returned (.bool true) ∧ Below w.heap.size w w' := by
  rcases (show y < 1 ∨ 6 < y ∨ (1 ≤ y ∧ y ≤ 6) by omega) with c1 | c1 | ⟨c1, c2⟩
  · exact hfl_1 y z w c1
  · exact hfl_2 y z w c1
  · rcases (show z < 1 ∨ 1048576 < z ∨ (1 ≤ z ∧ z ≤ 1048576) by omega) with c3 | c3 | ⟨c3, c4⟩
    · exact hfl_3 y z w c1 c2 c3
    · exact hfl_4 y z w c1 c2 c3
    · obtain ⟨d, rfl⟩ := Int.eq_ofNat_of_zero_le (show 0 ≤ y by omega)
      obtain ⟨o, rfl⟩ := Int.eq_ofNat_of_zero_le (show 0 ≤ z by omega)
      have h64 : 2 ^ d ≤ 64 := by
        have : 2 ^ d ≤ 2 ^ 6 := Nat.pow_le_pow_right (by decide) (by omega)
        omega
      refine hfl_0 d o w (2 ^ d) rfl (by omega) (by omega) (by omega) (by omega) h64 (Lib.hid fun g V hR => ?_)
      have hln : (List.replicate (2 ^ d) o).length = 2 ^ d := List.length_replicate
      have hbo : ∀ x ∈ List.replicate (2 ^ d) o, x ≤ 1048576 := fun x hx => by rw [(List.mem_replicate.1 hx).2]; omega
      have := lengths_any (ns (List.replicate (2 ^ d) o)) (2 ^ d) (by rw [ns_length, hln]) (by omega) (some ⟨g, 0, none⟩) (2 ^ d) V hR
      rw [hlA_nat _ (by rw [hln]; exact h64) hbo] at this
      unfold lnA at this
      rw [hl_flat d o (by omega) (by omega) (by omega), if_pos (d8_all _ (fun x hx => by rw [(List.mem_replicate.1 hx).2]; omega))] at this
      exact this.mono fun _ _ q => gzM q (by simp)
end Go.Proofs.Ytndiocehkdbjkaa
