/- The law FibLong: the code of a number is as long as its greatest part says, and greater numbers are no shorter; for whatever numbers. -/
import Derived.Test.YtjogccpnhcnedaaDoorFBegun
namespace Go.Proofs.YtjogccpnhcnedaaDoor
set_option maxRecDepth 100000
set_option linter.unusedVariables false
open Go.RowKit Go.Shelf

set_option maxHeartbeats 4000000 in
theorem flong_law (a b : Nat) (w : World) (ha : a < 18446744073709551616) (hb : b < 18446744073709551616) (hN : Nm w) :
    Calls Tryd.prog 7 #[.int .u64 (a : Int), .int .u64 (b : Int)] w fun e w' => e = .returned (.bool true) ∧ Below w.heap.size w w' := by
  have HN := Lib.hid hN; clear hN
  by_cases h1 : a ≤ 1099511627776
  · have H1 := Lib.hid (code_ok a h1)
    by_cases h2 : b ≤ 1099511627776
    · have H2 := Lib.hid (code_ok b h2)
      have a64 : a + 1 < fb 64 := by rw [fb64]; omega
      have b64 : b + 1 < fb 64 := by rw [fb64]; omega
      obtain ⟨x, lx, hx, fx1, fx2⟩ := fco_length a a64
      by_cases h3 : b < a
      · have t3 : decide (b < a) = true := by simpa using h3
        clear h1 h2 h3 a64 b64 fx1 fx2 hx lx
        generalize (pack (fco a)).length = pa0 at *
        generalize (pack (fco b)).length = pb0 at *
        generalize pack (fco a) = ba at *
        generalize pack (fco b) = bb at *
        generalize (fco a).length = la at *
        generalize (fco b).length = lb at *
        go_enter Tryd.func7, Tryd.ntmps7
        go_wp2_with fail
        refine (H1.out w HN.out).mono ?_
        rintro e w1_ ⟨A1, c1, rfl, Rq, Bq⟩
        have Sq : Below w.heap.size w w1_ := Bq
        have HB : Hid (Below w.heap.size w w1_) := Sq
        replace HN := Lib.hid (HN.out.on Sq)
        clear Bq Sq
        have HR1 := Lib.hid Rq; clear Rq
        go_wp2_with fail
        refine (H2.out _ (HN.out.on (one_below _ _))).mono ?_
        rintro e w2_ ⟨A2, c2, rfl, Rq, Bq⟩
        rw [World.size_alloc] at Bq
        have Sq : Below w1_.heap.size w1_ w2_ := (one_below w1_ _).trans (Bq.mono (by omega))
        have za : w1_.heap.size < w2_.heap.size := by have := Bq.size; rw [World.size_alloc] at this; omega
        obtain ⟨pa, qa⟩ := box_at Bq
        replace HB : Hid (Below w.heap.size w w2_) := HB.out.trans (Sq.mono HB.out.size)
        replace HN := Lib.hid (HN.out.on Sq)
        replace HR1 := Lib.hid (HR1.out.on Sq)
        clear Bq Sq
        have HR2 := Lib.hid Rq; clear Rq
        go_wp2_with fail
        refine (fbegun_true _ (HN.out.on (one_below _ _))).mono ?_
        rintro e w3_ ⟨rfl, Bq⟩
        rw [World.size_alloc] at Bq
        have Sq : Below w2_.heap.size w2_ w3_ := (one_below w2_ _).trans (Bq.mono (by omega))
        have zb : w2_.heap.size < w3_.heap.size := by have := Bq.size; rw [World.size_alloc] at this; omega
        obtain ⟨pb, qb⟩ := box_at Bq
        replace pa := (Sq.cell (p := ⟨w1_.heap.size, 0, none⟩) za).trans pa
        replace qa := (Sq.cell (p := ⟨w1_.heap.size, 1, none⟩) za).trans qa
        replace za : w1_.heap.size < w3_.heap.size := Nat.lt_of_lt_of_le za Sq.size
        replace HB : Hid (Below w.heap.size w w3_) := HB.out.trans (Sq.mono HB.out.size)
        replace HN := Lib.hid (HN.out.on Sq)
        replace HR1 := Lib.hid (HR1.out.on Sq)
        replace HR2 := Lib.hid (HR2.out.on Sq)
        clear Bq Sq
        go_wp2
        go_ret
        exact ⟨rfl, HB.out⟩
      · have hm := fco_mono a b a64 b64 (by omega)
        have hx62 : x < 62 := by
          rcases Nat.lt_or_ge x 62 with h | h
          · exact h
          · have := fb_mono (show 61 ≤ x by omega); rw [fb61] at this; omega
        have H3 : Hid (∀ w, Nm w → Calls Tryd.prog 9 #[.int .i64 (((fco a).length : Int) - 2)] w fun e w' => e = .returned (.tuple #[.int .u64 (fb x : Int), .int .i64 0]) ∧ Below w.heap.size w w') := fun w hw => by
          have h := number_any (((fco a).length : Int) - 2) w hw
          have e : ((fco a).length : Int) - 2 = (x : Int) := by omega
          rw [e] at h ⊢
          unfold nuV ciE at h
          rw [if_pos (by omega), if_pos (by omega), Int.toNat_natCast] at h
          exact h
        have H4 : Hid (∀ w, Nm w → Calls Tryd.prog 9 #[.int .i64 (((fco a).length : Int) - 1)] w fun e w' => e = .returned (.tuple #[.int .u64 (fb (x + 1) : Int), .int .i64 0]) ∧ Below w.heap.size w w') := fun w hw => by
          have h := number_any (((fco a).length : Int) - 1) w hw
          have e : ((fco a).length : Int) - 1 = ((x + 1 : Nat) : Int) := by omega
          rw [e] at h ⊢
          unfold nuV ciE at h
          rw [if_pos (by omega), if_pos (by omega), Int.toNat_natCast] at h
          exact h
        have t3 : decide (b < a) = false := by simp; omega
        have t4 : decide ((fco a).length ≤ (fco b).length) = true := by simpa using hm
        have t5 : decide ((fb x : Int) ≤ (a : Int) + 1) = true := by simp; omega
        have t6 : decide ((a : Int) + 1 < (fb (x + 1) : Int)) = true := by simp; omega
        have l0 : (2 : Int) ≤ ((fco a).length : Int) := by omega
        have l1 : ((fco a).length : Int) ≤ 100 := by omega
        clear h2 h3 a64 b64 fx1 fx2 hx lx hm hx62
        generalize fb x = fx at *
        generalize fb (x + 1) = fy at *
        generalize (pack (fco a)).length = pa0 at *
        generalize (pack (fco b)).length = pb0 at *
        generalize pack (fco a) = ba at *
        generalize pack (fco b) = bb at *
        generalize (fco a).length = la at *
        generalize (fco b).length = lb at *
        go_enter Tryd.func7, Tryd.ntmps7
        go_wp2_with fail
        refine (H1.out w HN.out).mono ?_
        rintro e w1_ ⟨A1, c1, rfl, Rq, Bq⟩
        have Sq : Below w.heap.size w w1_ := Bq
        have HB : Hid (Below w.heap.size w w1_) := Sq
        replace HN := Lib.hid (HN.out.on Sq)
        clear Bq Sq
        have HR1 := Lib.hid Rq; clear Rq
        go_wp2_with fail
        refine (H2.out _ (HN.out.on (one_below _ _))).mono ?_
        rintro e w2_ ⟨A2, c2, rfl, Rq, Bq⟩
        rw [World.size_alloc] at Bq
        have Sq : Below w1_.heap.size w1_ w2_ := (one_below w1_ _).trans (Bq.mono (by omega))
        have za : w1_.heap.size < w2_.heap.size := by have := Bq.size; rw [World.size_alloc] at this; omega
        obtain ⟨pa, qa⟩ := box_at Bq
        replace HB : Hid (Below w.heap.size w w2_) := HB.out.trans (Sq.mono HB.out.size)
        replace HN := Lib.hid (HN.out.on Sq)
        replace HR1 := Lib.hid (HR1.out.on Sq)
        clear Bq Sq
        have HR2 := Lib.hid Rq; clear Rq
        go_wp2_with fail
        refine (fbegun_true _ (HN.out.on (one_below _ _))).mono ?_
        rintro e w3_ ⟨rfl, Bq⟩
        rw [World.size_alloc] at Bq
        have Sq : Below w2_.heap.size w2_ w3_ := (one_below w2_ _).trans (Bq.mono (by omega))
        have zb : w2_.heap.size < w3_.heap.size := by have := Bq.size; rw [World.size_alloc] at this; omega
        obtain ⟨pb, qb⟩ := box_at Bq
        replace pa := (Sq.cell (p := ⟨w1_.heap.size, 0, none⟩) za).trans pa
        replace qa := (Sq.cell (p := ⟨w1_.heap.size, 1, none⟩) za).trans qa
        replace za : w1_.heap.size < w3_.heap.size := Nat.lt_of_lt_of_le za Sq.size
        replace HB : Hid (Below w.heap.size w w3_) := HB.out.trans (Sq.mono HB.out.size)
        replace HN := Lib.hid (HN.out.on Sq)
        replace HR1 := Lib.hid (HR1.out.on Sq)
        replace HR2 := Lib.hid (HR2.out.on Sq)
        clear Bq Sq
        go_wp2_with fail
        refine (H3.out w3_ HN.out).mono ?_
        rintro e w4_ ⟨rfl, Bq⟩
        have Sq : Below w3_.heap.size w3_ w4_ := Bq
        replace pa := (Sq.cell (p := ⟨w1_.heap.size, 0, none⟩) za).trans pa
        replace qa := (Sq.cell (p := ⟨w1_.heap.size, 1, none⟩) za).trans qa
        replace za : w1_.heap.size < w4_.heap.size := Nat.lt_of_lt_of_le za Sq.size
        replace pb := (Sq.cell (p := ⟨w2_.heap.size, 0, none⟩) zb).trans pb
        replace qb := (Sq.cell (p := ⟨w2_.heap.size, 1, none⟩) zb).trans qb
        replace zb : w2_.heap.size < w4_.heap.size := Nat.lt_of_lt_of_le zb Sq.size
        replace HB : Hid (Below w.heap.size w w4_) := HB.out.trans (Sq.mono HB.out.size)
        replace HN := Lib.hid (HN.out.on Sq)
        replace HR1 := Lib.hid (HR1.out.on Sq)
        replace HR2 := Lib.hid (HR2.out.on Sq)
        clear Bq Sq
        go_wp2_with fail
        refine (H4.out w4_ HN.out).mono ?_
        rintro e w5_ ⟨rfl, Bq⟩
        have Sq : Below w4_.heap.size w4_ w5_ := Bq
        replace pa := (Sq.cell (p := ⟨w1_.heap.size, 0, none⟩) za).trans pa
        replace qa := (Sq.cell (p := ⟨w1_.heap.size, 1, none⟩) za).trans qa
        replace za : w1_.heap.size < w5_.heap.size := Nat.lt_of_lt_of_le za Sq.size
        replace pb := (Sq.cell (p := ⟨w2_.heap.size, 0, none⟩) zb).trans pb
        replace qb := (Sq.cell (p := ⟨w2_.heap.size, 1, none⟩) zb).trans qb
        replace zb : w2_.heap.size < w5_.heap.size := Nat.lt_of_lt_of_le zb Sq.size
        replace HB : Hid (Below w.heap.size w w5_) := HB.out.trans (Sq.mono HB.out.size)
        replace HN := Lib.hid (HN.out.on Sq)
        replace HR1 := Lib.hid (HR1.out.on Sq)
        replace HR2 := Lib.hid (HR2.out.on Sq)
        clear Bq Sq
        go_wp2
        go_ret
        exact ⟨rfl, HB.out⟩
    · have H2 := Lib.hid (code_no b (by omega))
      replace H2 : Hid (∀ w, Nm w → Calls Tryd.prog 12 #[.int .u64 (b : Int)] w (Gv w 0 0 [] 3)) := fun w _ => H2.out w
      clear h1 h2
      generalize (pack (fco a)).length = pa0 at *
      generalize pack (fco a) = ba at *
      generalize (fco a).length = la at *
      go_enter Tryd.func7, Tryd.ntmps7
      go_wp2_with fail
      refine (H1.out w HN.out).mono ?_
      rintro e w1_ ⟨A1, c1, rfl, Rq, Bq⟩
      have Sq : Below w.heap.size w w1_ := Bq
      have HB : Hid (Below w.heap.size w w1_) := Sq
      replace HN := Lib.hid (HN.out.on Sq)
      clear Bq Sq
      have HR1 := Lib.hid Rq; clear Rq
      go_wp2_with fail
      refine (H2.out _ (HN.out.on (one_below _ _))).mono ?_
      rintro e w2_ ⟨A2, c2, rfl, Rq, Bq⟩
      rw [World.size_alloc] at Bq
      have Sq : Below w1_.heap.size w1_ w2_ := (one_below w1_ _).trans (Bq.mono (by omega))
      have za : w1_.heap.size < w2_.heap.size := by have := Bq.size; rw [World.size_alloc] at this; omega
      obtain ⟨pa, qa⟩ := box_at Bq
      replace HB : Hid (Below w.heap.size w w2_) := HB.out.trans (Sq.mono HB.out.size)
      replace HN := Lib.hid (HN.out.on Sq)
      replace HR1 := Lib.hid (HR1.out.on Sq)
      clear Bq Sq
      have HR2 := Lib.hid Rq; clear Rq
      go_wp2_with fail
      refine (fbegun_true _ (HN.out.on (one_below _ _))).mono ?_
      rintro e w3_ ⟨rfl, Bq⟩
      rw [World.size_alloc] at Bq
      have Sq : Below w2_.heap.size w2_ w3_ := (one_below w2_ _).trans (Bq.mono (by omega))
      have zb : w2_.heap.size < w3_.heap.size := by have := Bq.size; rw [World.size_alloc] at this; omega
      obtain ⟨pb, qb⟩ := box_at Bq
      replace pa := (Sq.cell (p := ⟨w1_.heap.size, 0, none⟩) za).trans pa
      replace qa := (Sq.cell (p := ⟨w1_.heap.size, 1, none⟩) za).trans qa
      replace za : w1_.heap.size < w3_.heap.size := Nat.lt_of_lt_of_le za Sq.size
      replace HB : Hid (Below w.heap.size w w3_) := HB.out.trans (Sq.mono HB.out.size)
      replace HN := Lib.hid (HN.out.on Sq)
      replace HR1 := Lib.hid (HR1.out.on Sq)
      replace HR2 := Lib.hid (HR2.out.on Sq)
      clear Bq Sq
      go_wp2
      go_ret
      exact ⟨rfl, HB.out⟩
  · have H1 : Hid (∀ w, Nm w → Calls Tryd.prog 12 #[.int .u64 (a : Int)] w (Gv w 0 0 [] 3)) := fun w _ => code_no a (by omega) w
    have H2 : Hid (∀ w, Nm w → Calls Tryd.prog 12 #[.int .u64 (b : Int)] w (Gv w (if b ≤ 1099511627776 then ((fco b).length : Int) else 0) (if b ≤ 1099511627776 then (pack (fco b)).length else 0) (if b ≤ 1099511627776 then pack (fco b) else []) (if b ≤ 1099511627776 then 0 else 3))) := fun w hw => by
      by_cases h2 : b ≤ 1099511627776
      · simp only [if_pos h2]; exact code_ok b h2 w hw
      · simp only [if_neg h2]; exact code_no b (by omega) w
    generalize (if b ≤ 1099511627776 then ((fco b).length : Int) else 0) = lb at *
    generalize (if b ≤ 1099511627776 then (pack (fco b)).length else 0) = pb0 at *
    generalize (if b ≤ 1099511627776 then pack (fco b) else []) = bb at *
    generalize (if b ≤ 1099511627776 then (0 : Int) else 3) = eb at *
    clear h1
    go_enter Tryd.func7, Tryd.ntmps7
    go_wp2_with fail
    refine (H1.out w HN.out).mono ?_
    rintro e w1_ ⟨A1, c1, rfl, Rq, Bq⟩
    have Sq : Below w.heap.size w w1_ := Bq
    have HB : Hid (Below w.heap.size w w1_) := Sq
    replace HN := Lib.hid (HN.out.on Sq)
    clear Bq Sq
    have HR1 := Lib.hid Rq; clear Rq
    go_wp2_with fail
    refine (H2.out _ (HN.out.on (one_below _ _))).mono ?_
    rintro e w2_ ⟨A2, c2, rfl, Rq, Bq⟩
    rw [World.size_alloc] at Bq
    have Sq : Below w1_.heap.size w1_ w2_ := (one_below w1_ _).trans (Bq.mono (by omega))
    have za : w1_.heap.size < w2_.heap.size := by have := Bq.size; rw [World.size_alloc] at this; omega
    obtain ⟨pa, qa⟩ := box_at Bq
    replace HB : Hid (Below w.heap.size w w2_) := HB.out.trans (Sq.mono HB.out.size)
    replace HN := Lib.hid (HN.out.on Sq)
    replace HR1 := Lib.hid (HR1.out.on Sq)
    clear Bq Sq
    have HR2 := Lib.hid Rq; clear Rq
    go_wp2_with fail
    refine (fbegun_true _ (HN.out.on (one_below _ _))).mono ?_
    rintro e w3_ ⟨rfl, Bq⟩
    rw [World.size_alloc] at Bq
    have Sq : Below w2_.heap.size w2_ w3_ := (one_below w2_ _).trans (Bq.mono (by omega))
    have zb : w2_.heap.size < w3_.heap.size := by have := Bq.size; rw [World.size_alloc] at this; omega
    obtain ⟨pb, qb⟩ := box_at Bq
    replace pa := (Sq.cell (p := ⟨w1_.heap.size, 0, none⟩) za).trans pa
    replace qa := (Sq.cell (p := ⟨w1_.heap.size, 1, none⟩) za).trans qa
    replace za : w1_.heap.size < w3_.heap.size := Nat.lt_of_lt_of_le za Sq.size
    replace HB : Hid (Below w.heap.size w w3_) := HB.out.trans (Sq.mono HB.out.size)
    replace HN := Lib.hid (HN.out.on Sq)
    replace HR1 := Lib.hid (HR1.out.on Sq)
    replace HR2 := Lib.hid (HR2.out.on Sq)
    clear Bq Sq
    go_wp2
    go_ret
    exact ⟨rfl, HB.out⟩
end Go.Proofs.YtjogccpnhcnedaaDoor
