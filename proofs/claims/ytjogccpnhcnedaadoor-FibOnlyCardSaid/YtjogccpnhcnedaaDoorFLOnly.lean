/- The law FibOnly: each number is just one sum of numbers of which no two are next to each other; for whatever number and list. -/
import Derived.Test.YtjogccpnhcnedaaDoorFBegun
namespace Go.Proofs.YtjogccpnhcnedaaDoor
set_option maxRecDepth 100000
set_option linter.unusedVariables false
open Go.RowKit Go.Shelf

theorem pts_sum (n : Nat) (h : n < fb 64) : sumR [] (ints (pts n)) = (n, 0) := by
  have e : (pts n).reverse ++ [] = ptd n := by unfold pts; simp
  have := sumR_of (pts n) [] (by rw [e]; exact ptd_dz n h)
  rw [e, ptd_sum n h] at this
  exact this
theorem pts_only (n : Nat) (l : List Int) (h : sumR [] l = (n, 0)) : l = ints (pts n) := by
  obtain ⟨a, e, hz, hr⟩ := sumR_ok l [] trivial (by rw [h])
  rw [h, List.append_nil] at hr
  rw [List.append_nil] at hz
  have e2 : n = fsum a.reverse := by simpa using hr
  have e3 : ptd n = a.reverse := by rw [e2]; exact ptd_of _ hz
  unfold pts
  rw [e3, List.reverse_reverse, e]
  rfl

set_option maxHeartbeats 4000000 in
theorem fonly_law (n : Nat) (A : Option Addr) (c : Nat) (l : List Int) (w : World) (hn : n < 18446744073709551616) (hA : RdV w w.heap.size A (zc l)) (hl : l.length ≤ 9223372036854775807) (hN : Nm w) :
    Calls Tryd.prog 4 #[.int .u64 (n : Int), .slice A l.length c] w fun e w' => e = .returned (.bool true) ∧ Below w.heap.size w w' := by
  have HN := Lib.hid hN; clear hN
  have HL := Lib.hid hA; clear hA
  by_cases hb : n ≤ 1099511627776
  · have h64 : n < fb 64 := by rw [fb64]; omega
    have H1 := Lib.hid (parts_ok n hb)
    have hpl : (ints (pts n)).length ≤ 9223372036854775807 := by
      have e : (pts n).length = (spl 64 n).length := by show ((spl 64 n).reverse).length = _; rw [List.length_reverse]
      have := spl_len 64 n
      rw [ints_length]
      omega
    have H2 : Hid (∀ A1 c1 w, RdV w w.heap.size A1 (zc (ints (pts n))) → Nm w → Calls Tryd.prog 11 #[.slice A1 (ints (pts n)).length c1] w fun e w' => e = .returned (.tuple #[.int .u64 (n : Int), .int .i64 0]) ∧ Below w.heap.size w w') := fun A1 c1 w h1 h2 => sum_any (ints (pts n)) _ rfl hpl A1 c1 w h1 h2 n 0 (pts_sum n h64)
    have H3 : Hid (∀ w, RdV w w.heap.size A (zc l) → Nm w → Calls Tryd.prog 11 #[.slice A l.length c] w fun e w' => e = .returned (.tuple #[.int .u64 ((sumR [] l).1 : Int), .int .i64 (sumR [] l).2]) ∧ Below w.heap.size w w') := fun w h1 h2 => sum_any l _ rfl hl A c w h1 h2 _ _ rfl
    by_cases he : (sumR [] l).2 = 0
    · by_cases hs : (sumR [] l).1 = n
      · have hq : sumR [] l = (n, 0) := by rw [← hs, ← he]
        have e := pts_only n l hq
        have H4 : Hid (∀ A1 c1 w, RdV w w.heap.size A (zc l) → RdV w w.heap.size A1 (zc (ints (pts n))) → Calls Tryd.prog 23 #[.slice A l.length c, .slice A1 (ints (pts n)).length c1] w fun e w' => e = .returned (.bool true) ∧ Below w.heap.size w w') := fun A1 c1 w h1 h2 => by
          have := sameI_any w A A1 c c1 l (ints (pts n)) hl h1 h2
          rwa [show decide (l = ints (pts n)) = true from by simpa using e] at this
        rw [he, hs] at H3
        clear he hs hq e hpl h64 hb
        generalize ints (pts n) = P at *
        go_enter Tryd.func4, Tryd.ntmps4
        go_wp2_with fail
        refine (H1.out w HN.out).mono ?_
        rintro e w1_ ⟨A1, c1, rfl, Rq, Bq⟩
        have Sq : Below w.heap.size w w1_ := Bq
        have HB : Hid (Below w.heap.size w w1_) := Sq
        replace HN := Lib.hid (HN.out.on Sq)
        replace HL := Lib.hid (HL.out.on Sq)
        clear Bq Sq
        have HP := Lib.hid Rq; clear Rq
        go_wp2_with fail
        refine (fbegun_true w1_ HN.out).mono ?_
        rintro e w2_ ⟨rfl, Bq⟩
        have Sq : Below w1_.heap.size w1_ w2_ := Bq
        replace HB : Hid (Below w.heap.size w w2_) := HB.out.trans (Sq.mono HB.out.size)
        replace HN := Lib.hid (HN.out.on Sq)
        replace HL := Lib.hid (HL.out.on Sq)
        replace HP := Lib.hid (HP.out.on Sq)
        clear Bq Sq
        go_wp2_with fail
        refine (H2.out A1 c1 w2_ HP.out HN.out).mono ?_
        rintro e w3_ ⟨rfl, Bq⟩
        have Sq : Below w2_.heap.size w2_ w3_ := Bq
        replace HB : Hid (Below w.heap.size w w3_) := HB.out.trans (Sq.mono HB.out.size)
        replace HN := Lib.hid (HN.out.on Sq)
        replace HL := Lib.hid (HL.out.on Sq)
        replace HP := Lib.hid (HP.out.on Sq)
        clear Bq Sq
        go_wp2_with fail
        refine (H3.out w3_ HL.out HN.out).mono ?_
        rintro e w4_ ⟨rfl, Bq⟩
        have Sq : Below w3_.heap.size w3_ w4_ := Bq
        replace HB : Hid (Below w.heap.size w w4_) := HB.out.trans (Sq.mono HB.out.size)
        replace HN := Lib.hid (HN.out.on Sq)
        replace HL := Lib.hid (HL.out.on Sq)
        replace HP := Lib.hid (HP.out.on Sq)
        clear Bq Sq
        go_wp2_with fail
        refine (H4.out A1 c1 w4_ HL.out HP.out).mono ?_
        rintro e w5_ ⟨rfl, Bq⟩
        have Sq : Below w4_.heap.size w4_ w5_ := Bq
        replace HB : Hid (Below w.heap.size w w5_) := HB.out.trans (Sq.mono HB.out.size)
        replace HN := Lib.hid (HN.out.on Sq)
        replace HL := Lib.hid (HL.out.on Sq)
        replace HP := Lib.hid (HP.out.on Sq)
        clear Bq Sq
        go_wp2
        go_ret
        exact ⟨rfl, HB.out⟩
      · have t1 : ((((sumR [] l).1 : Nat) : Int) != (n : Int)) = true := by simp; omega
        rw [he] at H3
        clear he hs hpl h64 hb
        generalize ints (pts n) = P at *
        generalize (sumR [] l).1 = sm at *
        go_enter Tryd.func4, Tryd.ntmps4
        go_wp2_with fail
        refine (H1.out w HN.out).mono ?_
        rintro e w1_ ⟨A1, c1, rfl, Rq, Bq⟩
        have Sq : Below w.heap.size w w1_ := Bq
        have HB : Hid (Below w.heap.size w w1_) := Sq
        replace HN := Lib.hid (HN.out.on Sq)
        replace HL := Lib.hid (HL.out.on Sq)
        clear Bq Sq
        have HP := Lib.hid Rq; clear Rq
        go_wp2_with fail
        refine (fbegun_true w1_ HN.out).mono ?_
        rintro e w2_ ⟨rfl, Bq⟩
        have Sq : Below w1_.heap.size w1_ w2_ := Bq
        replace HB : Hid (Below w.heap.size w w2_) := HB.out.trans (Sq.mono HB.out.size)
        replace HN := Lib.hid (HN.out.on Sq)
        replace HL := Lib.hid (HL.out.on Sq)
        replace HP := Lib.hid (HP.out.on Sq)
        clear Bq Sq
        go_wp2_with fail
        refine (H2.out A1 c1 w2_ HP.out HN.out).mono ?_
        rintro e w3_ ⟨rfl, Bq⟩
        have Sq : Below w2_.heap.size w2_ w3_ := Bq
        replace HB : Hid (Below w.heap.size w w3_) := HB.out.trans (Sq.mono HB.out.size)
        replace HN := Lib.hid (HN.out.on Sq)
        replace HL := Lib.hid (HL.out.on Sq)
        replace HP := Lib.hid (HP.out.on Sq)
        clear Bq Sq
        go_wp2_with fail
        refine (H3.out w3_ HL.out HN.out).mono ?_
        rintro e w4_ ⟨rfl, Bq⟩
        have Sq : Below w3_.heap.size w3_ w4_ := Bq
        replace HB : Hid (Below w.heap.size w w4_) := HB.out.trans (Sq.mono HB.out.size)
        replace HN := Lib.hid (HN.out.on Sq)
        replace HL := Lib.hid (HL.out.on Sq)
        replace HP := Lib.hid (HP.out.on Sq)
        clear Bq Sq
        go_wp2
        go_ret
        exact ⟨rfl, HB.out⟩
    · have t1 : ((sumR [] l).2 != 0) = true := by simpa using he
      clear he hpl h64 hb
      generalize ints (pts n) = P at *
      generalize (sumR [] l).1 = sm at *
      generalize (sumR [] l).2 = se at *
      go_enter Tryd.func4, Tryd.ntmps4
      go_wp2_with fail
      refine (H1.out w HN.out).mono ?_
      rintro e w1_ ⟨A1, c1, rfl, Rq, Bq⟩
      have Sq : Below w.heap.size w w1_ := Bq
      have HB : Hid (Below w.heap.size w w1_) := Sq
      replace HN := Lib.hid (HN.out.on Sq)
      replace HL := Lib.hid (HL.out.on Sq)
      clear Bq Sq
      have HP := Lib.hid Rq; clear Rq
      go_wp2_with fail
      refine (fbegun_true w1_ HN.out).mono ?_
      rintro e w2_ ⟨rfl, Bq⟩
      have Sq : Below w1_.heap.size w1_ w2_ := Bq
      replace HB : Hid (Below w.heap.size w w2_) := HB.out.trans (Sq.mono HB.out.size)
      replace HN := Lib.hid (HN.out.on Sq)
      replace HL := Lib.hid (HL.out.on Sq)
      replace HP := Lib.hid (HP.out.on Sq)
      clear Bq Sq
      go_wp2_with fail
      refine (H2.out A1 c1 w2_ HP.out HN.out).mono ?_
      rintro e w3_ ⟨rfl, Bq⟩
      have Sq : Below w2_.heap.size w2_ w3_ := Bq
      replace HB : Hid (Below w.heap.size w w3_) := HB.out.trans (Sq.mono HB.out.size)
      replace HN := Lib.hid (HN.out.on Sq)
      replace HL := Lib.hid (HL.out.on Sq)
      replace HP := Lib.hid (HP.out.on Sq)
      clear Bq Sq
      go_wp2_with fail
      refine (H3.out w3_ HL.out HN.out).mono ?_
      rintro e w4_ ⟨rfl, Bq⟩
      have Sq : Below w3_.heap.size w3_ w4_ := Bq
      replace HB : Hid (Below w.heap.size w w4_) := HB.out.trans (Sq.mono HB.out.size)
      replace HN := Lib.hid (HN.out.on Sq)
      replace HL := Lib.hid (HL.out.on Sq)
      replace HP := Lib.hid (HP.out.on Sq)
      clear Bq Sq
      go_wp2
      go_ret
      exact ⟨rfl, HB.out⟩
  · have H1 : Hid (∀ w, Nm w → Calls Tryd.prog 10 #[.int .u64 (n : Int)] w fun e w' => ∃ A c, e = .returned (.tuple #[.slice A (ints []).length c, .int .i64 3]) ∧ RdV w' w'.heap.size A (zc (ints [])) ∧ Below w.heap.size w w') := fun w _ => parts_no n (by omega) w
    have t1 : decide ((1099511627776 : Int) < (n : Int)) = true := by simp; omega
    clear hb
    go_enter Tryd.func4, Tryd.ntmps4
    go_wp2_with fail
    refine (H1.out w HN.out).mono ?_
    rintro e w1_ ⟨A1, c1, rfl, Rq, Bq⟩
    have Sq : Below w.heap.size w w1_ := Bq
    have HB : Hid (Below w.heap.size w w1_) := Sq
    replace HN := Lib.hid (HN.out.on Sq)
    replace HL := Lib.hid (HL.out.on Sq)
    clear Bq Sq
    have HP := Lib.hid Rq; clear Rq
    go_wp2_with fail
    refine (fbegun_true w1_ HN.out).mono ?_
    rintro e w2_ ⟨rfl, Bq⟩
    have Sq : Below w1_.heap.size w1_ w2_ := Bq
    replace HB : Hid (Below w.heap.size w w2_) := HB.out.trans (Sq.mono HB.out.size)
    replace HN := Lib.hid (HN.out.on Sq)
    replace HL := Lib.hid (HL.out.on Sq)
    replace HP := Lib.hid (HP.out.on Sq)
    clear Bq Sq
    go_wp2
    go_ret
    exact ⟨rfl, HB.out⟩
end Go.Proofs.YtjogccpnhcnedaaDoor
