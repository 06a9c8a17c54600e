/- The law FibBack: a number is read from its code, whatever stands behind it, and nothing more; for whatever number and bits. -/
import Derived.Test.YtjogccpnhcnedaaDoorFBegun
namespace Go.Proofs.YtjogccpnhcnedaaDoor
set_option maxRecDepth 100000
set_option linter.unusedVariables false
open Go.RowKit Go.Shelf

theorem fco_short (n : Nat) (hn : n ≤ 1099511627776) : (fco n).length ≤ 60 := by
  have h64 : n + 1 < fb 64 := by rw [fb64]; omega
  obtain ⟨x, lx, _, fx1, _⟩ := fco_length n h64
  rcases Nat.lt_or_ge x 58 with h | h
  · omega
  · have := fb_mono h; rw [fb58] at this; omega
theorem joinE_zero' (lx : Int) (xs : List Nat) (ly : Int) (ys : List Nat) (hx : ∀ b ∈ xs, b < 256) (hy : ∀ b ∈ ys, b < 256) (h : joinE lx xs ly ys = 0) : ∃ b : List Bool, ly = (b.length : Int) ∧ ys = pack b ∧ lx + b.length ≤ 8192 := by
  unfold joinE at h
  by_cases h1 : chk lx xs = 0
  · rw [if_neg (fun h => h h1)] at h
    by_cases h2 : chk ly ys = 0
    · rw [if_neg (fun h => h h2)] at h
      by_cases h3 : 8192 < lx + ly
      · rw [if_pos h3] at h; cases h
      · obtain ⟨b, e1, _, e2⟩ := chk_zero ly ys hy h2
        exact ⟨b, e1, e2, by omega⟩
    · rw [if_pos h2] at h; exact absurd h h2
  · rw [if_pos h1] at h; exact absurd h h1

set_option maxHeartbeats 4000000 in
theorem fback_law (n : Nat) (len : Int) (B : Option Addr) (d : Nat) (bs : List Nat) (w : World) (hn : n < 18446744073709551616) (hb : ∀ b ∈ bs, b < 256) (hB : Rd w w.heap.size B bs) (hN : Nm w) :
    Calls Tryd.prog 5 #[.int .u64 (n : Int), .agg #[.int .i64 len, .slice B bs.length d]] w fun e w' => e = .returned (.bool true) ∧ Below w.heap.size w w' := by
  have HN := Lib.hid hN; clear hN
  have HBs := Lib.hid hB; clear hB
  by_cases h1 : n ≤ 1099511627776
  · have H1 := Lib.hid (code_ok n h1)
    have hs := fco_short n h1
    by_cases he : joinE ((fco n).length : Int) (pack (fco n)) len bs = 0
    · obtain ⟨t, rfl, rfl, hl⟩ := joinE_zero' _ _ _ _ (pack_lt _) hb he
      have H2 : Hid (∀ A1 c1 w, Rd w w.heap.size A1 (pack (fco n)) → Rd w w.heap.size B (pack t) → Calls Tryd.prog 26 #[.agg #[.int .i64 ((fco n).length : Int), .slice A1 (pack (fco n)).length c1], .agg #[.int .i64 (t.length : Int), .slice B (pack t).length d]] w (Gv w ((fco n ++ t).length : Int) (pack (fco n ++ t)).length (pack (fco n ++ t)) 0)) := fun A1 c1 w h1 h2 => join_l (fco n) t _ A1 B c1 d (by omega) rfl w h1 h2
      have H3 : Hid (∀ A2 c2 w, Rd w w.heap.size A2 (pack (fco n ++ t)) → Nm w → Calls Tryd.prog 13 #[.agg #[.int .i64 ((fco n ++ t).length : Int), .slice A2 (pack (fco n ++ t)).length c2], .int .i64 0] w (FP w n (fco n).length 0)) := fun A2 c2 w h2 h3 => fread_l (fco n ++ t) (by rw [List.length_append]; omega) A2 c2 0 (Nat.zero_le _) w h2 h3 n (fco n).length 0 (by
        have := fR_fco [] t n h1
        simpa using this)
      clear h1 hb he hl hs
      generalize (pack (fco n ++ t)).length = ptl at *
      generalize pack (fco n ++ t) = pt at *
      generalize (fco n ++ t).length = lt at *
      generalize (pack (fco n)).length = pl at *
      generalize pack (fco n) = pb at *
      generalize (fco n).length = fl at *
      generalize (pack t).length = ql at *
      generalize pack t = qb at *
      generalize t.length = tl at *
      go_enter Tryd.func5, Tryd.ntmps5
      go_wp2_with fail
      refine (H1.out _ (HN.out.on (one_below _ _))).mono ?_
      rintro e w1_ ⟨A1, c1, rfl, Rq, Bq⟩
      rw [World.size_alloc] at Bq
      have Sq : Below w.heap.size w w1_ := (one_below w _).trans (Bq.mono (by omega))
      have zz : w.heap.size < w1_.heap.size := by have := Bq.size; rw [World.size_alloc] at this; omega
      obtain ⟨pz, qz⟩ := box_at Bq
      have HB : Hid (Below w.heap.size w w1_) := Sq
      replace HN := Lib.hid (HN.out.on Sq)
      replace HBs := Lib.hid (HBs.out.on Sq)
      clear Bq Sq
      have HR1 := Lib.hid Rq; clear Rq
      go_wp2_with fail
      refine (fbegun_true _ (HN.out.on (one_below _ _))).mono ?_
      rintro e w2_ ⟨rfl, Bq⟩
      rw [World.size_alloc] at Bq
      have Sq : Below w1_.heap.size w1_ w2_ := (one_below w1_ _).trans (Bq.mono (by omega))
      have za : w1_.heap.size < w2_.heap.size := by have := Bq.size; rw [World.size_alloc] at this; omega
      obtain ⟨pa, qa⟩ := box_at Bq
      replace pz := (Sq.cell (p := ⟨w.heap.size, 0, none⟩) zz).trans pz
      replace qz := (Sq.cell (p := ⟨w.heap.size, 1, none⟩) zz).trans qz
      replace zz : w.heap.size < w2_.heap.size := Nat.lt_of_lt_of_le zz Sq.size
      replace HB : Hid (Below w.heap.size w w2_) := HB.out.trans (Sq.mono HB.out.size)
      replace HN := Lib.hid (HN.out.on Sq)
      replace HBs := Lib.hid (HBs.out.on Sq)
      replace HR1 := Lib.hid (HR1.out.on Sq)
      clear Bq Sq
      go_wp2_with fail
      refine (begun_true w2_).mono ?_
      rintro e w3_ ⟨rfl, Bq⟩
      have Sq : Below w2_.heap.size w2_ w3_ := Bq
      replace pz := (Sq.cell (p := ⟨w.heap.size, 0, none⟩) zz).trans pz
      replace qz := (Sq.cell (p := ⟨w.heap.size, 1, none⟩) zz).trans qz
      replace zz : w.heap.size < w3_.heap.size := Nat.lt_of_lt_of_le zz Sq.size
      replace pa := (Sq.cell (p := ⟨w1_.heap.size, 0, none⟩) za).trans pa
      replace qa := (Sq.cell (p := ⟨w1_.heap.size, 1, none⟩) za).trans qa
      replace za : w1_.heap.size < w3_.heap.size := Nat.lt_of_lt_of_le za Sq.size
      replace HB : Hid (Below w.heap.size w w3_) := HB.out.trans (Sq.mono HB.out.size)
      replace HN := Lib.hid (HN.out.on Sq)
      replace HBs := Lib.hid (HBs.out.on Sq)
      replace HR1 := Lib.hid (HR1.out.on Sq)
      clear Bq Sq
      go_wp2_with fail
      refine (H2.out A1 c1 w3_ HR1.out HBs.out).mono ?_
      rintro e w4_ ⟨A2, c2, rfl, Rq, Bq⟩
      have Sq : Below w3_.heap.size w3_ w4_ := Bq
      replace pz := (Sq.cell (p := ⟨w.heap.size, 0, none⟩) zz).trans pz
      replace qz := (Sq.cell (p := ⟨w.heap.size, 1, none⟩) zz).trans qz
      replace zz : w.heap.size < w4_.heap.size := Nat.lt_of_lt_of_le zz Sq.size
      replace pa := (Sq.cell (p := ⟨w1_.heap.size, 0, none⟩) za).trans pa
      replace qa := (Sq.cell (p := ⟨w1_.heap.size, 1, none⟩) za).trans qa
      replace za : w1_.heap.size < w4_.heap.size := Nat.lt_of_lt_of_le za Sq.size
      replace HB : Hid (Below w.heap.size w w4_) := HB.out.trans (Sq.mono HB.out.size)
      replace HN := Lib.hid (HN.out.on Sq)
      replace HBs := Lib.hid (HBs.out.on Sq)
      replace HR1 := Lib.hid (HR1.out.on Sq)
      clear Bq Sq
      have HR2 := Lib.hid Rq; clear Rq
      go_wp2_with fail
      refine (H3.out A2 c2 _ (HR2.out.on (one_below _ _)) (HN.out.on (one_below _ _))).mono ?_
      rintro e w5_ ⟨rfl, Bq⟩
      rw [World.size_alloc] at Bq
      have Sq : Below w4_.heap.size w4_ w5_ := (one_below w4_ _).trans (Bq.mono (by omega))
      have zb : w4_.heap.size < w5_.heap.size := by have := Bq.size; rw [World.size_alloc] at this; omega
      obtain ⟨pb, qb⟩ := box_at Bq
      replace pz := (Sq.cell (p := ⟨w.heap.size, 0, none⟩) zz).trans pz
      replace qz := (Sq.cell (p := ⟨w.heap.size, 1, none⟩) zz).trans qz
      replace zz : w.heap.size < w5_.heap.size := Nat.lt_of_lt_of_le zz Sq.size
      replace pa := (Sq.cell (p := ⟨w1_.heap.size, 0, none⟩) za).trans pa
      replace qa := (Sq.cell (p := ⟨w1_.heap.size, 1, none⟩) za).trans qa
      replace za : w1_.heap.size < w5_.heap.size := Nat.lt_of_lt_of_le za Sq.size
      replace HB : Hid (Below w.heap.size w w5_) := HB.out.trans (Sq.mono HB.out.size)
      replace HN := Lib.hid (HN.out.on Sq)
      replace HBs := Lib.hid (HBs.out.on Sq)
      replace HR1 := Lib.hid (HR1.out.on Sq)
      replace HR2 := Lib.hid (HR2.out.on Sq)
      clear Bq Sq
      go_wp2
      go_ret
      exact ⟨rfl, HB.out⟩
    · have H2 : Hid (∀ A1 c1 w, Rd w w.heap.size A1 (pack (fco n)) → Rd w w.heap.size B bs → Calls Tryd.prog 26 #[.agg #[.int .i64 ((fco n).length : Int), .slice A1 (pack (fco n)).length c1], .agg #[.int .i64 len, .slice B bs.length d]] w (Gv w 0 0 (pack []) (joinE ((fco n).length : Int) (pack (fco n)) len bs))) := fun A1 c1 w h1 h2 => join_e _ _ A1 B c1 d _ _ _ (pack_lt _) hb rfl he w h1 h2
      have t1 : (joinE ((fco n).length : Int) (pack (fco n)) len bs != 0) = true := by simpa using he
      clear h1 hb he hs
      generalize joinE ((fco n).length : Int) (pack (fco n)) len bs = ej at *
      generalize (pack (fco n)).length = pl at *
      generalize pack (fco n) = pb at *
      generalize (fco n).length = fl at *
      generalize bs.length = bl at *
      go_enter Tryd.func5, Tryd.ntmps5
      go_wp2_with fail
      refine (H1.out _ (HN.out.on (one_below _ _))).mono ?_
      rintro e w1_ ⟨A1, c1, rfl, Rq, Bq⟩
      rw [World.size_alloc] at Bq
      have Sq : Below w.heap.size w w1_ := (one_below w _).trans (Bq.mono (by omega))
      have zz : w.heap.size < w1_.heap.size := by have := Bq.size; rw [World.size_alloc] at this; omega
      obtain ⟨pz, qz⟩ := box_at Bq
      have HB : Hid (Below w.heap.size w w1_) := Sq
      replace HN := Lib.hid (HN.out.on Sq)
      replace HBs := Lib.hid (HBs.out.on Sq)
      clear Bq Sq
      have HR1 := Lib.hid Rq; clear Rq
      go_wp2_with fail
      refine (fbegun_true _ (HN.out.on (one_below _ _))).mono ?_
      rintro e w2_ ⟨rfl, Bq⟩
      rw [World.size_alloc] at Bq
      have Sq : Below w1_.heap.size w1_ w2_ := (one_below w1_ _).trans (Bq.mono (by omega))
      have za : w1_.heap.size < w2_.heap.size := by have := Bq.size; rw [World.size_alloc] at this; omega
      obtain ⟨pa, qa⟩ := box_at Bq
      replace pz := (Sq.cell (p := ⟨w.heap.size, 0, none⟩) zz).trans pz
      replace qz := (Sq.cell (p := ⟨w.heap.size, 1, none⟩) zz).trans qz
      replace zz : w.heap.size < w2_.heap.size := Nat.lt_of_lt_of_le zz Sq.size
      replace HB : Hid (Below w.heap.size w w2_) := HB.out.trans (Sq.mono HB.out.size)
      replace HN := Lib.hid (HN.out.on Sq)
      replace HBs := Lib.hid (HBs.out.on Sq)
      replace HR1 := Lib.hid (HR1.out.on Sq)
      clear Bq Sq
      go_wp2_with fail
      refine (begun_true w2_).mono ?_
      rintro e w3_ ⟨rfl, Bq⟩
      have Sq : Below w2_.heap.size w2_ w3_ := Bq
      replace pz := (Sq.cell (p := ⟨w.heap.size, 0, none⟩) zz).trans pz
      replace qz := (Sq.cell (p := ⟨w.heap.size, 1, none⟩) zz).trans qz
      replace zz : w.heap.size < w3_.heap.size := Nat.lt_of_lt_of_le zz Sq.size
      replace pa := (Sq.cell (p := ⟨w1_.heap.size, 0, none⟩) za).trans pa
      replace qa := (Sq.cell (p := ⟨w1_.heap.size, 1, none⟩) za).trans qa
      replace za : w1_.heap.size < w3_.heap.size := Nat.lt_of_lt_of_le za Sq.size
      replace HB : Hid (Below w.heap.size w w3_) := HB.out.trans (Sq.mono HB.out.size)
      replace HN := Lib.hid (HN.out.on Sq)
      replace HBs := Lib.hid (HBs.out.on Sq)
      replace HR1 := Lib.hid (HR1.out.on Sq)
      clear Bq Sq
      go_wp2_with fail
      refine (H2.out A1 c1 w3_ HR1.out HBs.out).mono ?_
      rintro e w4_ ⟨A2, c2, rfl, Rq, Bq⟩
      have Sq : Below w3_.heap.size w3_ w4_ := Bq
      replace pz := (Sq.cell (p := ⟨w.heap.size, 0, none⟩) zz).trans pz
      replace qz := (Sq.cell (p := ⟨w.heap.size, 1, none⟩) zz).trans qz
      replace zz : w.heap.size < w4_.heap.size := Nat.lt_of_lt_of_le zz Sq.size
      replace pa := (Sq.cell (p := ⟨w1_.heap.size, 0, none⟩) za).trans pa
      replace qa := (Sq.cell (p := ⟨w1_.heap.size, 1, none⟩) za).trans qa
      replace za : w1_.heap.size < w4_.heap.size := Nat.lt_of_lt_of_le za Sq.size
      replace HB : Hid (Below w.heap.size w w4_) := HB.out.trans (Sq.mono HB.out.size)
      replace HN := Lib.hid (HN.out.on Sq)
      replace HBs := Lib.hid (HBs.out.on Sq)
      replace HR1 := Lib.hid (HR1.out.on Sq)
      clear Bq Sq
      have HR2 := Lib.hid Rq; clear Rq
      go_wp2
      go_ret
      exact ⟨rfl, HB.out.alloc HB.out.size _⟩
  · have H1 : Hid (∀ w, Nm w → Calls Tryd.prog 12 #[.int .u64 (n : Int)] w (Gv w 0 0 (pack []) 3)) := fun w _ => code_no n (by omega) w
    clear h1 hb
    generalize bs.length = bl at *
    go_enter Tryd.func5, Tryd.ntmps5
    go_wp2_with fail
    refine (H1.out _ (HN.out.on (one_below _ _))).mono ?_
    rintro e w1_ ⟨A1, c1, rfl, Rq, Bq⟩
    rw [World.size_alloc] at Bq
    have Sq : Below w.heap.size w w1_ := (one_below w _).trans (Bq.mono (by omega))
    have zz : w.heap.size < w1_.heap.size := by have := Bq.size; rw [World.size_alloc] at this; omega
    obtain ⟨pz, qz⟩ := box_at Bq
    have HB : Hid (Below w.heap.size w w1_) := Sq
    replace HN := Lib.hid (HN.out.on Sq)
    replace HBs := Lib.hid (HBs.out.on Sq)
    clear Bq Sq
    have HR1 := Lib.hid Rq; clear Rq
    go_wp2_with fail
    refine (fbegun_true _ (HN.out.on (one_below _ _))).mono ?_
    rintro e w2_ ⟨rfl, Bq⟩
    rw [World.size_alloc] at Bq
    have Sq : Below w1_.heap.size w1_ w2_ := (one_below w1_ _).trans (Bq.mono (by omega))
    have za : w1_.heap.size < w2_.heap.size := by have := Bq.size; rw [World.size_alloc] at this; omega
    obtain ⟨pa, qa⟩ := box_at Bq
    replace pz := (Sq.cell (p := ⟨w.heap.size, 0, none⟩) zz).trans pz
    replace qz := (Sq.cell (p := ⟨w.heap.size, 1, none⟩) zz).trans qz
    replace zz : w.heap.size < w2_.heap.size := Nat.lt_of_lt_of_le zz Sq.size
    replace HB : Hid (Below w.heap.size w w2_) := HB.out.trans (Sq.mono HB.out.size)
    replace HN := Lib.hid (HN.out.on Sq)
    replace HBs := Lib.hid (HBs.out.on Sq)
    replace HR1 := Lib.hid (HR1.out.on Sq)
    clear Bq Sq
    go_wp2_with fail
    refine (begun_true w2_).mono ?_
    rintro e w3_ ⟨rfl, Bq⟩
    have Sq : Below w2_.heap.size w2_ w3_ := Bq
    replace pz := (Sq.cell (p := ⟨w.heap.size, 0, none⟩) zz).trans pz
    replace qz := (Sq.cell (p := ⟨w.heap.size, 1, none⟩) zz).trans qz
    replace zz : w.heap.size < w3_.heap.size := Nat.lt_of_lt_of_le zz Sq.size
    replace pa := (Sq.cell (p := ⟨w1_.heap.size, 0, none⟩) za).trans pa
    replace qa := (Sq.cell (p := ⟨w1_.heap.size, 1, none⟩) za).trans qa
    replace za : w1_.heap.size < w3_.heap.size := Nat.lt_of_lt_of_le za Sq.size
    replace HB : Hid (Below w.heap.size w w3_) := HB.out.trans (Sq.mono HB.out.size)
    replace HN := Lib.hid (HN.out.on Sq)
    replace HBs := Lib.hid (HBs.out.on Sq)
    replace HR1 := Lib.hid (HR1.out.on Sq)
    clear Bq Sq
    go_wp2_with fail
    refine (same_0 A1 none c1 0 w3_ HR1.out).mono ?_
    rintro e w4_ ⟨rfl, Bq⟩
    have Sq : Below w3_.heap.size w3_ w4_ := Bq
    replace pz := (Sq.cell (p := ⟨w.heap.size, 0, none⟩) zz).trans pz
    replace qz := (Sq.cell (p := ⟨w.heap.size, 1, none⟩) zz).trans qz
    replace zz : w.heap.size < w4_.heap.size := Nat.lt_of_lt_of_le zz Sq.size
    replace pa := (Sq.cell (p := ⟨w1_.heap.size, 0, none⟩) za).trans pa
    replace qa := (Sq.cell (p := ⟨w1_.heap.size, 1, none⟩) za).trans qa
    replace za : w1_.heap.size < w4_.heap.size := Nat.lt_of_lt_of_le za Sq.size
    replace HB : Hid (Below w.heap.size w w4_) := HB.out.trans (Sq.mono HB.out.size)
    replace HN := Lib.hid (HN.out.on Sq)
    replace HBs := Lib.hid (HBs.out.on Sq)
    replace HR1 := Lib.hid (HR1.out.on Sq)
    clear Bq Sq
    go_wp2
    go_ret
    exact ⟨rfl, HB.out⟩
end Go.Proofs.YtjogccpnhcnedaaDoor
