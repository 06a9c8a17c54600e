/- The law EliasApart: for whatever two numbers it returns true. -/
import Derived.Test.YtcacbekdghlncaaEBegun
import Derived.Test.YtcacbekdghlncaaOpen
namespace Go.Proofs.Ytcacbekdghlncaa
set_option maxRecDepth 100000
set_option linter.unusedVariables false
open Go.RowKit

/-- Bits that differ, as many of them. -/
theorem same_no (l m : List Bool) (hl : l.length = m.length) (hm : m.length ≤ 8192) (hne : l ≠ m) (A B : Option Addr) (c d : Nat) (w : World) (hA : Rd w w.heap.size A (pack l)) (hB : Rd w w.heap.size B (pack m)) :
    Calls Try.prog 28 #[.agg #[.int .i64 (l.length : Int), .slice A (pack l).length c], .agg #[.int .i64 (m.length : Int), .slice B (pack m).length d]] w fun e w' => e = .returned (.bool false) ∧ Below w.heap.size w w' := by
  have h := sameBits_any w (l.length : Int) (m.length : Int) A B c d (pack l) (pack m) (by rw [pack_length]; omega) hA hB
  have hp : ¬ pack l = pack m := fun e => hne (pack_inj hl e)
  simpa [hl, hp] using h
theorem num_gam (n : Nat) : num (gam n) = n + 1 := by
  have h1 := lg_le n
  have h2 := lg_lt n
  have e : gam n = List.replicate (lg n) false ++ (true :: nb (n + 1) (lg n)) := by simp [gam, uc]
  have z : ∀ k, num (List.replicate k false) = 0 := by
    intro k
    induction k with
    | zero => rfl
    | succ k ih => rw [List.replicate_succ, num_cons, ih]; simp
  rw [e, num_append, z, num_cons, nb_length, ← nb_sub _ _ h1 h2, num_nb_small _ _ (Nat.div_eq_of_lt (by rw [Nat.pow_succ] at h2; omega))]
  simp; omega
theorem gam_apart (a b : Nat) (ha : a ≤ 1099511627776) (hb : b ≤ 1099511627776) (h : a ≠ b) : (gam b).take (gam a).length ≠ gam a := by
  intro e
  have e1 : gam b = gam a ++ (gam b).drop (gam a).length := by
    have := List.take_append_drop (gam a).length (gam b)
    rwa [e, eq_comm] at this
  have r1 := gamR_gam [] ((gam b).drop (gam a).length) a ha
  have r2 := gamR_gam [] [] b hb
  rw [List.nil_append, ← e1] at r1
  rw [List.nil_append, List.append_nil, r1] at r2
  exact h (congrArg Prod.fst r2)
theorem del_apart (a b : Nat) (ha : a ≤ 1099511627776) (hb : b ≤ 1099511627776) (h : a ≠ b) : (del b).take (del a).length ≠ del a := by
  intro e
  have e1 : del b = del a ++ (del b).drop (del a).length := by
    have := List.take_append_drop (del a).length (del b)
    rwa [e, eq_comm] at this
  have r1 := delR_del [] ((del b).drop (del a).length) a ha
  have r2 := delR_del [] [] b hb
  rw [List.nil_append, ← e1] at r1
  rw [List.nil_append, List.append_nil, r1] at r2
  exact h (congrArg Prod.fst r2)

set_option maxHeartbeats 2000000 in
theorem eapart_ge (a b : Nat) (h : b ≤ a) (w : World) : Calls Try.prog 6 #[.int .u64 (a : Int), .int .u64 (b : Int)] w fun e w' => e = .returned (.bool true) ∧ Below w.heap.size w w' := by
  have t0 : decide ((b : Int) ≤ (a : Int)) = true := by simp; omega
  go_enter Try.func6, Try.ntmps6
  go_wp2_with fail
  refine (ebegun_true _).mono ?_
  rintro e w1_ ⟨rfl, Bq⟩
  have Sq : Below w.heap.size w w1_ := Bq
  have HB : Hid (Below w.heap.size w w1_) := Sq
  clear Bq Sq
  go_wp2_with fail
  refine (begun_true _).mono ?_
  rintro e w2_ ⟨rfl, Bq⟩
  have Sq : Below w1_.heap.size w1_ w2_ := Bq
  replace HB : Hid (Below w.heap.size w w2_) := HB.out.trans (Sq.mono HB.out.size)
  clear Bq Sq
  go_wp2
  go_ret
  exact ⟨rfl, HB.out⟩
set_option maxHeartbeats 2000000 in
theorem eapart_big (a b : Nat) (h : a < b) (h1 : 1099511627776 < b) (w : World) : Calls Try.prog 6 #[.int .u64 (a : Int), .int .u64 (b : Int)] w fun e w' => e = .returned (.bool true) ∧ Below w.heap.size w w' := by
  have t0 : decide ((b : Int) ≤ (a : Int)) = false := by simp; omega
  have t1 : decide ((1099511627776 : Int) < (b : Int)) = true := by simp; omega
  go_enter Try.func6, Try.ntmps6
  go_wp2_with fail
  refine (ebegun_true _).mono ?_
  rintro e w1_ ⟨rfl, Bq⟩
  have Sq : Below w.heap.size w w1_ := Bq
  have HB : Hid (Below w.heap.size w w1_) := Sq
  clear Bq Sq
  go_wp2_with fail
  refine (begun_true _).mono ?_
  rintro e w2_ ⟨rfl, Bq⟩
  have Sq : Below w1_.heap.size w1_ w2_ := Bq
  replace HB : Hid (Below w.heap.size w w2_) := HB.out.trans (Sq.mono HB.out.size)
  clear Bq Sq
  go_wp2
  go_ret
  exact ⟨rfl, HB.out⟩
set_option maxHeartbeats 600000 in
theorem eapart_ne (a b lX lY lP lQ nX nY nP nQ nS nT gn gm : Nat) (bX bY bP bQ bS bT : List Nat) (hab : a < b) (hb : b ≤ 1099511627776) (h1 : lX ≤ lY) (h2 : lP ≤ lQ) (h3 : lX ≠ lY) (h4 : lX ≤ 64) (w : World)
    (HX : Hid (∀ V, Calls Try.prog 15 #[.int .u64 (a : Int)] V (Gv V (lX : Int) nX bX 0)))
    (HY : Hid (∀ V, Calls Try.prog 15 #[.int .u64 (b : Int)] V (Gv V (lY : Int) nY bY 0)))
    (HP : Hid (∀ V, Calls Try.prog 16 #[.int .u64 (a : Int)] V (Gv V (lP : Int) nP bP 0)))
    (HQ : Hid (∀ V, Calls Try.prog 16 #[.int .u64 (b : Int)] V (Gv V (lQ : Int) nQ bQ 0)))
    (HC : Hid (∀ A c V, Rd V V.heap.size A bY → Calls Try.prog 31 #[.agg #[.int .i64 (lY : Int), .slice A nY c], .int .i64 0, .int .i64 (lX : Int)] V (Gv V (lX : Int) nS bS 0)))
    (HD : Hid (∀ A c V, Rd V V.heap.size A bQ → Calls Try.prog 31 #[.agg #[.int .i64 (lQ : Int), .slice A nQ c], .int .i64 0, .int .i64 (lP : Int)] V (Gv V (lP : Int) nT bT 0)))
    (HS : Hid (∀ A B c d V, Rd V V.heap.size A bS → Rd V V.heap.size B bX → Calls Try.prog 28 #[.agg #[.int .i64 (lX : Int), .slice A nS c], .agg #[.int .i64 (lX : Int), .slice B nX d]] V fun e w' => e = .returned (.bool false) ∧ Below V.heap.size V w'))
    (HT : Hid (∀ A B c d V, Rd V V.heap.size A bT → Rd V V.heap.size B bP → Calls Try.prog 28 #[.agg #[.int .i64 (lP : Int), .slice A nT c], .agg #[.int .i64 (lP : Int), .slice B nP d]] V fun e w' => e = .returned (.bool false) ∧ Below V.heap.size V w'))
    (HG : Hid (∀ A c V, Rd V V.heap.size A bX → Calls Try.prog 32 #[.agg #[.int .i64 (lX : Int), .slice A nX c], .int .i64 0, .int .i64 (lX : Int)] V (Got V gn 0)))
    (HH : Hid (∀ A c V, Rd V V.heap.size A bY → Calls Try.prog 32 #[.agg #[.int .i64 (lY : Int), .slice A nY c], .int .i64 0, .int .i64 (lX : Int)] V (Got V gm 0))) :
    Calls Try.prog 6 #[.int .u64 (a : Int), .int .u64 (b : Int)] w fun e w' => e = .returned (.bool true) ∧ Below w.heap.size w w' := by
  have t0 : decide ((b : Int) ≤ (a : Int)) = false := by simp; omega
  have t1 : decide ((1099511627776 : Int) < (b : Int)) = false := by simp; omega
  have t2 : decide ((lY : Int) < (lX : Int)) = false := by simp; omega
  have t3 : decide ((lQ : Int) < (lP : Int)) = false := by simp; omega
  have t4 : ((lX : Int) != (lY : Int)) = true := by simp; omega
  have t6 : min (lX : Int) 64 = (lX : Int) := by omega
  clear h3
  go_enter Try.func6, Try.ntmps6
  go_wp2_with fail
  refine (ebegun_true _).mono ?_
  rintro e w1_ ⟨rfl, Bq⟩
  have Sq : Below w.heap.size w w1_ := Bq
  have HB : Hid (Below w.heap.size w w1_) := Sq
  clear Bq Sq
  go_wp2_with fail
  refine (begun_true _).mono ?_
  rintro e w2_ ⟨rfl, Bq⟩
  have Sq : Below w1_.heap.size w1_ w2_ := Bq
  replace HB : Hid (Below w.heap.size w w2_) := HB.out.trans (Sq.mono HB.out.size)
  clear Bq Sq
  go_wp2_with fail
  refine (HX.out _).mono ?_
  rintro e w3_ ⟨A1, c1, rfl, Rq, Bq⟩
  have Sq : Below w2_.heap.size w2_ w3_ := Bq
  replace HB : Hid (Below w.heap.size w w3_) := HB.out.trans (Sq.mono HB.out.size)
  clear Bq Sq
  have RX := Lib.hid Rq; clear Rq
  go_wp2_with fail
  refine (HY.out _).mono ?_
  rintro e w4_ ⟨A2, c2, rfl, Rq, Bq⟩
  rw [World.size_alloc] at Bq
  have Sq : Below w3_.heap.size w3_ w4_ := (one_below w3_ _).trans (Bq.mono (by omega))
  have zx : w3_.heap.size < w4_.heap.size := by have := Bq.size; rw [World.size_alloc] at this; omega
  obtain ⟨px, qx⟩ := box_at Bq
  replace RX : Hid (Rd w4_ w4_.heap.size A1 bX) := RX.out.on Sq
  replace HB : Hid (Below w.heap.size w w4_) := HB.out.trans (Sq.mono HB.out.size)
  clear Bq Sq
  have RY := Lib.hid Rq; clear Rq
  go_wp2_with fail
  refine (HP.out _).mono ?_
  rintro e w5_ ⟨A3, c3, rfl, Rq, Bq⟩
  rw [World.size_alloc] at Bq
  have Sq : Below w4_.heap.size w4_ w5_ := (one_below w4_ _).trans (Bq.mono (by omega))
  have zy : w4_.heap.size < w5_.heap.size := by have := Bq.size; rw [World.size_alloc] at this; omega
  obtain ⟨py, qy⟩ := box_at Bq
  replace px := (Sq.cell (p := ⟨w3_.heap.size, 0, none⟩) zx).trans px
  replace qx := (Sq.cell (p := ⟨w3_.heap.size, 1, none⟩) zx).trans qx
  replace zx : w3_.heap.size < w5_.heap.size := Nat.lt_of_lt_of_le zx Sq.size
  replace RX : Hid (Rd w5_ w5_.heap.size A1 bX) := RX.out.on Sq
  replace RY : Hid (Rd w5_ w5_.heap.size A2 bY) := RY.out.on Sq
  replace HB : Hid (Below w.heap.size w w5_) := HB.out.trans (Sq.mono HB.out.size)
  clear Bq Sq
  have RP := Lib.hid Rq; clear Rq
  go_wp2_with fail
  refine (HQ.out _).mono ?_
  rintro e w6_ ⟨A4, c4, rfl, Rq, Bq⟩
  rw [World.size_alloc] at Bq
  have Sq : Below w5_.heap.size w5_ w6_ := (one_below w5_ _).trans (Bq.mono (by omega))
  have zp : w5_.heap.size < w6_.heap.size := by have := Bq.size; rw [World.size_alloc] at this; omega
  obtain ⟨pp, qp⟩ := box_at Bq
  replace px := (Sq.cell (p := ⟨w3_.heap.size, 0, none⟩) zx).trans px
  replace qx := (Sq.cell (p := ⟨w3_.heap.size, 1, none⟩) zx).trans qx
  replace zx : w3_.heap.size < w6_.heap.size := Nat.lt_of_lt_of_le zx Sq.size
  replace py := (Sq.cell (p := ⟨w4_.heap.size, 0, none⟩) zy).trans py
  replace qy := (Sq.cell (p := ⟨w4_.heap.size, 1, none⟩) zy).trans qy
  replace zy : w4_.heap.size < w6_.heap.size := Nat.lt_of_lt_of_le zy Sq.size
  replace RX : Hid (Rd w6_ w6_.heap.size A1 bX) := RX.out.on Sq
  replace RY : Hid (Rd w6_ w6_.heap.size A2 bY) := RY.out.on Sq
  replace RP : Hid (Rd w6_ w6_.heap.size A3 bP) := RP.out.on Sq
  replace HB : Hid (Below w.heap.size w w6_) := HB.out.trans (Sq.mono HB.out.size)
  clear Bq Sq
  have RQ := Lib.hid Rq; clear Rq
  go_wp2_with fail
  refine (HC.out A2 c2 _ (RY.out.on (one_below w6_ _))).mono ?_
  rintro e w7_ ⟨A5, c5, rfl, Rq, Bq⟩
  rw [World.size_alloc] at Bq
  have Sq : Below w6_.heap.size w6_ w7_ := (one_below w6_ _).trans (Bq.mono (by omega))
  have zq : w6_.heap.size < w7_.heap.size := by have := Bq.size; rw [World.size_alloc] at this; omega
  obtain ⟨pq, qq⟩ := box_at Bq
  replace px := (Sq.cell (p := ⟨w3_.heap.size, 0, none⟩) zx).trans px
  replace qx := (Sq.cell (p := ⟨w3_.heap.size, 1, none⟩) zx).trans qx
  replace zx : w3_.heap.size < w7_.heap.size := Nat.lt_of_lt_of_le zx Sq.size
  replace py := (Sq.cell (p := ⟨w4_.heap.size, 0, none⟩) zy).trans py
  replace qy := (Sq.cell (p := ⟨w4_.heap.size, 1, none⟩) zy).trans qy
  replace zy : w4_.heap.size < w7_.heap.size := Nat.lt_of_lt_of_le zy Sq.size
  replace pp := (Sq.cell (p := ⟨w5_.heap.size, 0, none⟩) zp).trans pp
  replace qp := (Sq.cell (p := ⟨w5_.heap.size, 1, none⟩) zp).trans qp
  replace zp : w5_.heap.size < w7_.heap.size := Nat.lt_of_lt_of_le zp Sq.size
  replace RX : Hid (Rd w7_ w7_.heap.size A1 bX) := RX.out.on Sq
  replace RY : Hid (Rd w7_ w7_.heap.size A2 bY) := RY.out.on Sq
  replace RP : Hid (Rd w7_ w7_.heap.size A3 bP) := RP.out.on Sq
  replace RQ : Hid (Rd w7_ w7_.heap.size A4 bQ) := RQ.out.on Sq
  replace HB : Hid (Below w.heap.size w w7_) := HB.out.trans (Sq.mono HB.out.size)
  clear Bq Sq
  have RS := Lib.hid Rq; clear Rq
  go_wp2_with fail
  refine (HD.out A4 c4 _ (RQ.out.on (one_below w7_ _))).mono ?_
  rintro e w8_ ⟨A6, c6, rfl, Rq, Bq⟩
  rw [World.size_alloc] at Bq
  have Sq : Below w7_.heap.size w7_ w8_ := (one_below w7_ _).trans (Bq.mono (by omega))
  have zs : w7_.heap.size < w8_.heap.size := by have := Bq.size; rw [World.size_alloc] at this; omega
  obtain ⟨ps, qs⟩ := box_at Bq
  replace px := (Sq.cell (p := ⟨w3_.heap.size, 0, none⟩) zx).trans px
  replace qx := (Sq.cell (p := ⟨w3_.heap.size, 1, none⟩) zx).trans qx
  replace zx : w3_.heap.size < w8_.heap.size := Nat.lt_of_lt_of_le zx Sq.size
  replace py := (Sq.cell (p := ⟨w4_.heap.size, 0, none⟩) zy).trans py
  replace qy := (Sq.cell (p := ⟨w4_.heap.size, 1, none⟩) zy).trans qy
  replace zy : w4_.heap.size < w8_.heap.size := Nat.lt_of_lt_of_le zy Sq.size
  replace pp := (Sq.cell (p := ⟨w5_.heap.size, 0, none⟩) zp).trans pp
  replace qp := (Sq.cell (p := ⟨w5_.heap.size, 1, none⟩) zp).trans qp
  replace zp : w5_.heap.size < w8_.heap.size := Nat.lt_of_lt_of_le zp Sq.size
  replace pq := (Sq.cell (p := ⟨w6_.heap.size, 0, none⟩) zq).trans pq
  replace qq := (Sq.cell (p := ⟨w6_.heap.size, 1, none⟩) zq).trans qq
  replace zq : w6_.heap.size < w8_.heap.size := Nat.lt_of_lt_of_le zq Sq.size
  replace RX : Hid (Rd w8_ w8_.heap.size A1 bX) := RX.out.on Sq
  replace RY : Hid (Rd w8_ w8_.heap.size A2 bY) := RY.out.on Sq
  replace RP : Hid (Rd w8_ w8_.heap.size A3 bP) := RP.out.on Sq
  replace RQ : Hid (Rd w8_ w8_.heap.size A4 bQ) := RQ.out.on Sq
  replace RS : Hid (Rd w8_ w8_.heap.size A5 bS) := RS.out.on Sq
  replace HB : Hid (Below w.heap.size w w8_) := HB.out.trans (Sq.mono HB.out.size)
  clear Bq Sq
  have RT := Lib.hid Rq; clear Rq
  go_wp2_with fail
  refine (HS.out A5 A1 c5 c1 _ (RS.out.on (one_below w8_ _)) (RX.out.on (one_below w8_ _))).mono ?_
  rintro e w9_ ⟨rfl, Bq⟩
  rw [World.size_alloc] at Bq
  have Sq : Below w8_.heap.size w8_ w9_ := (one_below w8_ _).trans (Bq.mono (by omega))
  have zt : w8_.heap.size < w9_.heap.size := by have := Bq.size; rw [World.size_alloc] at this; omega
  obtain ⟨pt, qt⟩ := box_at Bq
  replace px := (Sq.cell (p := ⟨w3_.heap.size, 0, none⟩) zx).trans px
  replace qx := (Sq.cell (p := ⟨w3_.heap.size, 1, none⟩) zx).trans qx
  replace zx : w3_.heap.size < w9_.heap.size := Nat.lt_of_lt_of_le zx Sq.size
  replace py := (Sq.cell (p := ⟨w4_.heap.size, 0, none⟩) zy).trans py
  replace qy := (Sq.cell (p := ⟨w4_.heap.size, 1, none⟩) zy).trans qy
  replace zy : w4_.heap.size < w9_.heap.size := Nat.lt_of_lt_of_le zy Sq.size
  replace pp := (Sq.cell (p := ⟨w5_.heap.size, 0, none⟩) zp).trans pp
  replace qp := (Sq.cell (p := ⟨w5_.heap.size, 1, none⟩) zp).trans qp
  replace zp : w5_.heap.size < w9_.heap.size := Nat.lt_of_lt_of_le zp Sq.size
  replace pq := (Sq.cell (p := ⟨w6_.heap.size, 0, none⟩) zq).trans pq
  replace qq := (Sq.cell (p := ⟨w6_.heap.size, 1, none⟩) zq).trans qq
  replace zq : w6_.heap.size < w9_.heap.size := Nat.lt_of_lt_of_le zq Sq.size
  replace ps := (Sq.cell (p := ⟨w7_.heap.size, 0, none⟩) zs).trans ps
  replace qs := (Sq.cell (p := ⟨w7_.heap.size, 1, none⟩) zs).trans qs
  replace zs : w7_.heap.size < w9_.heap.size := Nat.lt_of_lt_of_le zs Sq.size
  replace RX : Hid (Rd w9_ w9_.heap.size A1 bX) := RX.out.on Sq
  replace RY : Hid (Rd w9_ w9_.heap.size A2 bY) := RY.out.on Sq
  replace RP : Hid (Rd w9_ w9_.heap.size A3 bP) := RP.out.on Sq
  replace RQ : Hid (Rd w9_ w9_.heap.size A4 bQ) := RQ.out.on Sq
  replace RS : Hid (Rd w9_ w9_.heap.size A5 bS) := RS.out.on Sq
  replace RT : Hid (Rd w9_ w9_.heap.size A6 bT) := RT.out.on Sq
  replace HB : Hid (Below w.heap.size w w9_) := HB.out.trans (Sq.mono HB.out.size)
  clear Bq Sq
  go_wp2_with fail
  refine (HT.out A6 A3 c6 c3 _ RT.out RP.out).mono ?_
  rintro e w10_ ⟨rfl, Bq⟩
  have Sq : Below w9_.heap.size w9_ w10_ := Bq
  replace px := (Sq.cell (p := ⟨w3_.heap.size, 0, none⟩) zx).trans px
  replace qx := (Sq.cell (p := ⟨w3_.heap.size, 1, none⟩) zx).trans qx
  replace zx : w3_.heap.size < w10_.heap.size := Nat.lt_of_lt_of_le zx Sq.size
  replace py := (Sq.cell (p := ⟨w4_.heap.size, 0, none⟩) zy).trans py
  replace qy := (Sq.cell (p := ⟨w4_.heap.size, 1, none⟩) zy).trans qy
  replace zy : w4_.heap.size < w10_.heap.size := Nat.lt_of_lt_of_le zy Sq.size
  replace pp := (Sq.cell (p := ⟨w5_.heap.size, 0, none⟩) zp).trans pp
  replace qp := (Sq.cell (p := ⟨w5_.heap.size, 1, none⟩) zp).trans qp
  replace zp : w5_.heap.size < w10_.heap.size := Nat.lt_of_lt_of_le zp Sq.size
  replace pq := (Sq.cell (p := ⟨w6_.heap.size, 0, none⟩) zq).trans pq
  replace qq := (Sq.cell (p := ⟨w6_.heap.size, 1, none⟩) zq).trans qq
  replace zq : w6_.heap.size < w10_.heap.size := Nat.lt_of_lt_of_le zq Sq.size
  replace ps := (Sq.cell (p := ⟨w7_.heap.size, 0, none⟩) zs).trans ps
  replace qs := (Sq.cell (p := ⟨w7_.heap.size, 1, none⟩) zs).trans qs
  replace zs : w7_.heap.size < w10_.heap.size := Nat.lt_of_lt_of_le zs Sq.size
  replace pt := (Sq.cell (p := ⟨w8_.heap.size, 0, none⟩) zt).trans pt
  replace qt := (Sq.cell (p := ⟨w8_.heap.size, 1, none⟩) zt).trans qt
  replace zt : w8_.heap.size < w10_.heap.size := Nat.lt_of_lt_of_le zt Sq.size
  replace RX : Hid (Rd w10_ w10_.heap.size A1 bX) := RX.out.on Sq
  replace RY : Hid (Rd w10_ w10_.heap.size A2 bY) := RY.out.on Sq
  replace RP : Hid (Rd w10_ w10_.heap.size A3 bP) := RP.out.on Sq
  replace RQ : Hid (Rd w10_ w10_.heap.size A4 bQ) := RQ.out.on Sq
  replace RS : Hid (Rd w10_ w10_.heap.size A5 bS) := RS.out.on Sq
  replace RT : Hid (Rd w10_ w10_.heap.size A6 bT) := RT.out.on Sq
  replace HB : Hid (Below w.heap.size w w10_) := HB.out.trans (Sq.mono HB.out.size)
  clear Bq Sq
  go_wp2_with fail
  refine (HG.out A1 c1 _ RX.out).mono ?_
  rintro e w11_ ⟨rfl, Bq⟩
  have Sq : Below w10_.heap.size w10_ w11_ := Bq
  replace px := (Sq.cell (p := ⟨w3_.heap.size, 0, none⟩) zx).trans px
  replace qx := (Sq.cell (p := ⟨w3_.heap.size, 1, none⟩) zx).trans qx
  replace zx : w3_.heap.size < w11_.heap.size := Nat.lt_of_lt_of_le zx Sq.size
  replace py := (Sq.cell (p := ⟨w4_.heap.size, 0, none⟩) zy).trans py
  replace qy := (Sq.cell (p := ⟨w4_.heap.size, 1, none⟩) zy).trans qy
  replace zy : w4_.heap.size < w11_.heap.size := Nat.lt_of_lt_of_le zy Sq.size
  replace pp := (Sq.cell (p := ⟨w5_.heap.size, 0, none⟩) zp).trans pp
  replace qp := (Sq.cell (p := ⟨w5_.heap.size, 1, none⟩) zp).trans qp
  replace zp : w5_.heap.size < w11_.heap.size := Nat.lt_of_lt_of_le zp Sq.size
  replace pq := (Sq.cell (p := ⟨w6_.heap.size, 0, none⟩) zq).trans pq
  replace qq := (Sq.cell (p := ⟨w6_.heap.size, 1, none⟩) zq).trans qq
  replace zq : w6_.heap.size < w11_.heap.size := Nat.lt_of_lt_of_le zq Sq.size
  replace ps := (Sq.cell (p := ⟨w7_.heap.size, 0, none⟩) zs).trans ps
  replace qs := (Sq.cell (p := ⟨w7_.heap.size, 1, none⟩) zs).trans qs
  replace zs : w7_.heap.size < w11_.heap.size := Nat.lt_of_lt_of_le zs Sq.size
  replace pt := (Sq.cell (p := ⟨w8_.heap.size, 0, none⟩) zt).trans pt
  replace qt := (Sq.cell (p := ⟨w8_.heap.size, 1, none⟩) zt).trans qt
  replace zt : w8_.heap.size < w11_.heap.size := Nat.lt_of_lt_of_le zt Sq.size
  replace RX : Hid (Rd w11_ w11_.heap.size A1 bX) := RX.out.on Sq
  replace RY : Hid (Rd w11_ w11_.heap.size A2 bY) := RY.out.on Sq
  replace RP : Hid (Rd w11_ w11_.heap.size A3 bP) := RP.out.on Sq
  replace RQ : Hid (Rd w11_ w11_.heap.size A4 bQ) := RQ.out.on Sq
  replace RS : Hid (Rd w11_ w11_.heap.size A5 bS) := RS.out.on Sq
  replace RT : Hid (Rd w11_ w11_.heap.size A6 bT) := RT.out.on Sq
  replace HB : Hid (Below w.heap.size w w11_) := HB.out.trans (Sq.mono HB.out.size)
  clear Bq Sq
  go_wp2_with fail
  refine (HH.out A2 c2 _ RY.out).mono ?_
  rintro e w12_ ⟨rfl, Bq⟩
  have Sq : Below w11_.heap.size w11_ w12_ := Bq
  replace px := (Sq.cell (p := ⟨w3_.heap.size, 0, none⟩) zx).trans px
  replace qx := (Sq.cell (p := ⟨w3_.heap.size, 1, none⟩) zx).trans qx
  replace zx : w3_.heap.size < w12_.heap.size := Nat.lt_of_lt_of_le zx Sq.size
  replace py := (Sq.cell (p := ⟨w4_.heap.size, 0, none⟩) zy).trans py
  replace qy := (Sq.cell (p := ⟨w4_.heap.size, 1, none⟩) zy).trans qy
  replace zy : w4_.heap.size < w12_.heap.size := Nat.lt_of_lt_of_le zy Sq.size
  replace pp := (Sq.cell (p := ⟨w5_.heap.size, 0, none⟩) zp).trans pp
  replace qp := (Sq.cell (p := ⟨w5_.heap.size, 1, none⟩) zp).trans qp
  replace zp : w5_.heap.size < w12_.heap.size := Nat.lt_of_lt_of_le zp Sq.size
  replace pq := (Sq.cell (p := ⟨w6_.heap.size, 0, none⟩) zq).trans pq
  replace qq := (Sq.cell (p := ⟨w6_.heap.size, 1, none⟩) zq).trans qq
  replace zq : w6_.heap.size < w12_.heap.size := Nat.lt_of_lt_of_le zq Sq.size
  replace ps := (Sq.cell (p := ⟨w7_.heap.size, 0, none⟩) zs).trans ps
  replace qs := (Sq.cell (p := ⟨w7_.heap.size, 1, none⟩) zs).trans qs
  replace zs : w7_.heap.size < w12_.heap.size := Nat.lt_of_lt_of_le zs Sq.size
  replace pt := (Sq.cell (p := ⟨w8_.heap.size, 0, none⟩) zt).trans pt
  replace qt := (Sq.cell (p := ⟨w8_.heap.size, 1, none⟩) zt).trans qt
  replace zt : w8_.heap.size < w12_.heap.size := Nat.lt_of_lt_of_le zt Sq.size
  replace RX : Hid (Rd w12_ w12_.heap.size A1 bX) := RX.out.on Sq
  replace RY : Hid (Rd w12_ w12_.heap.size A2 bY) := RY.out.on Sq
  replace RP : Hid (Rd w12_ w12_.heap.size A3 bP) := RP.out.on Sq
  replace RQ : Hid (Rd w12_ w12_.heap.size A4 bQ) := RQ.out.on Sq
  replace RS : Hid (Rd w12_ w12_.heap.size A5 bS) := RS.out.on Sq
  replace RT : Hid (Rd w12_ w12_.heap.size A6 bT) := RT.out.on Sq
  replace HB : Hid (Below w.heap.size w w12_) := HB.out.trans (Sq.mono HB.out.size)
  clear Bq Sq
  go_wp2
  go_ret
  exact ⟨rfl, HB.out⟩
set_option maxHeartbeats 600000 in
theorem eapart_nb (a b lX lY lP lQ nX nY nP nQ nS nT gn gm : Nat) (bX bY bP bQ bS bT : List Nat) (hab : a < b) (hb : b ≤ 1099511627776) (h1 : lX ≤ lY) (h2 : lP ≤ lQ) (h3 : lX ≠ lY) (h4 : 64 < lX) (w : World)
    (HX : Hid (∀ V, Calls Try.prog 15 #[.int .u64 (a : Int)] V (Gv V (lX : Int) nX bX 0)))
    (HY : Hid (∀ V, Calls Try.prog 15 #[.int .u64 (b : Int)] V (Gv V (lY : Int) nY bY 0)))
    (HP : Hid (∀ V, Calls Try.prog 16 #[.int .u64 (a : Int)] V (Gv V (lP : Int) nP bP 0)))
    (HQ : Hid (∀ V, Calls Try.prog 16 #[.int .u64 (b : Int)] V (Gv V (lQ : Int) nQ bQ 0)))
    (HC : Hid (∀ A c V, Rd V V.heap.size A bY → Calls Try.prog 31 #[.agg #[.int .i64 (lY : Int), .slice A nY c], .int .i64 0, .int .i64 (lX : Int)] V (Gv V (lX : Int) nS bS 0)))
    (HD : Hid (∀ A c V, Rd V V.heap.size A bQ → Calls Try.prog 31 #[.agg #[.int .i64 (lQ : Int), .slice A nQ c], .int .i64 0, .int .i64 (lP : Int)] V (Gv V (lP : Int) nT bT 0)))
    (HS : Hid (∀ A B c d V, Rd V V.heap.size A bS → Rd V V.heap.size B bX → Calls Try.prog 28 #[.agg #[.int .i64 (lX : Int), .slice A nS c], .agg #[.int .i64 (lX : Int), .slice B nX d]] V fun e w' => e = .returned (.bool false) ∧ Below V.heap.size V w'))
    (HT : Hid (∀ A B c d V, Rd V V.heap.size A bT → Rd V V.heap.size B bP → Calls Try.prog 28 #[.agg #[.int .i64 (lP : Int), .slice A nT c], .agg #[.int .i64 (lP : Int), .slice B nP d]] V fun e w' => e = .returned (.bool false) ∧ Below V.heap.size V w'))
    (HG : Hid (∀ A c V, Rd V V.heap.size A bX → Calls Try.prog 32 #[.agg #[.int .i64 (lX : Int), .slice A nX c], .int .i64 0, .int .i64 64] V (Got V gn 0)))
    (HH : Hid (∀ A c V, Rd V V.heap.size A bY → Calls Try.prog 32 #[.agg #[.int .i64 (lY : Int), .slice A nY c], .int .i64 0, .int .i64 64] V (Got V gm 0))) :
    Calls Try.prog 6 #[.int .u64 (a : Int), .int .u64 (b : Int)] w fun e w' => e = .returned (.bool true) ∧ Below w.heap.size w w' := by
  have t0 : decide ((b : Int) ≤ (a : Int)) = false := by simp; omega
  have t1 : decide ((1099511627776 : Int) < (b : Int)) = false := by simp; omega
  have t2 : decide ((lY : Int) < (lX : Int)) = false := by simp; omega
  have t3 : decide ((lQ : Int) < (lP : Int)) = false := by simp; omega
  have t4 : ((lX : Int) != (lY : Int)) = true := by simp; omega
  have t6 : min (lX : Int) 64 = 64 := by omega
  clear h3
  go_enter Try.func6, Try.ntmps6
  go_wp2_with fail
  refine (ebegun_true _).mono ?_
  rintro e w1_ ⟨rfl, Bq⟩
  have Sq : Below w.heap.size w w1_ := Bq
  have HB : Hid (Below w.heap.size w w1_) := Sq
  clear Bq Sq
  go_wp2_with fail
  refine (begun_true _).mono ?_
  rintro e w2_ ⟨rfl, Bq⟩
  have Sq : Below w1_.heap.size w1_ w2_ := Bq
  replace HB : Hid (Below w.heap.size w w2_) := HB.out.trans (Sq.mono HB.out.size)
  clear Bq Sq
  go_wp2_with fail
  refine (HX.out _).mono ?_
  rintro e w3_ ⟨A1, c1, rfl, Rq, Bq⟩
  have Sq : Below w2_.heap.size w2_ w3_ := Bq
  replace HB : Hid (Below w.heap.size w w3_) := HB.out.trans (Sq.mono HB.out.size)
  clear Bq Sq
  have RX := Lib.hid Rq; clear Rq
  go_wp2_with fail
  refine (HY.out _).mono ?_
  rintro e w4_ ⟨A2, c2, rfl, Rq, Bq⟩
  rw [World.size_alloc] at Bq
  have Sq : Below w3_.heap.size w3_ w4_ := (one_below w3_ _).trans (Bq.mono (by omega))
  have zx : w3_.heap.size < w4_.heap.size := by have := Bq.size; rw [World.size_alloc] at this; omega
  obtain ⟨px, qx⟩ := box_at Bq
  replace RX : Hid (Rd w4_ w4_.heap.size A1 bX) := RX.out.on Sq
  replace HB : Hid (Below w.heap.size w w4_) := HB.out.trans (Sq.mono HB.out.size)
  clear Bq Sq
  have RY := Lib.hid Rq; clear Rq
  go_wp2_with fail
  refine (HP.out _).mono ?_
  rintro e w5_ ⟨A3, c3, rfl, Rq, Bq⟩
  rw [World.size_alloc] at Bq
  have Sq : Below w4_.heap.size w4_ w5_ := (one_below w4_ _).trans (Bq.mono (by omega))
  have zy : w4_.heap.size < w5_.heap.size := by have := Bq.size; rw [World.size_alloc] at this; omega
  obtain ⟨py, qy⟩ := box_at Bq
  replace px := (Sq.cell (p := ⟨w3_.heap.size, 0, none⟩) zx).trans px
  replace qx := (Sq.cell (p := ⟨w3_.heap.size, 1, none⟩) zx).trans qx
  replace zx : w3_.heap.size < w5_.heap.size := Nat.lt_of_lt_of_le zx Sq.size
  replace RX : Hid (Rd w5_ w5_.heap.size A1 bX) := RX.out.on Sq
  replace RY : Hid (Rd w5_ w5_.heap.size A2 bY) := RY.out.on Sq
  replace HB : Hid (Below w.heap.size w w5_) := HB.out.trans (Sq.mono HB.out.size)
  clear Bq Sq
  have RP := Lib.hid Rq; clear Rq
  go_wp2_with fail
  refine (HQ.out _).mono ?_
  rintro e w6_ ⟨A4, c4, rfl, Rq, Bq⟩
  rw [World.size_alloc] at Bq
  have Sq : Below w5_.heap.size w5_ w6_ := (one_below w5_ _).trans (Bq.mono (by omega))
  have zp : w5_.heap.size < w6_.heap.size := by have := Bq.size; rw [World.size_alloc] at this; omega
  obtain ⟨pp, qp⟩ := box_at Bq
  replace px := (Sq.cell (p := ⟨w3_.heap.size, 0, none⟩) zx).trans px
  replace qx := (Sq.cell (p := ⟨w3_.heap.size, 1, none⟩) zx).trans qx
  replace zx : w3_.heap.size < w6_.heap.size := Nat.lt_of_lt_of_le zx Sq.size
  replace py := (Sq.cell (p := ⟨w4_.heap.size, 0, none⟩) zy).trans py
  replace qy := (Sq.cell (p := ⟨w4_.heap.size, 1, none⟩) zy).trans qy
  replace zy : w4_.heap.size < w6_.heap.size := Nat.lt_of_lt_of_le zy Sq.size
  replace RX : Hid (Rd w6_ w6_.heap.size A1 bX) := RX.out.on Sq
  replace RY : Hid (Rd w6_ w6_.heap.size A2 bY) := RY.out.on Sq
  replace RP : Hid (Rd w6_ w6_.heap.size A3 bP) := RP.out.on Sq
  replace HB : Hid (Below w.heap.size w w6_) := HB.out.trans (Sq.mono HB.out.size)
  clear Bq Sq
  have RQ := Lib.hid Rq; clear Rq
  go_wp2_with fail
  refine (HC.out A2 c2 _ (RY.out.on (one_below w6_ _))).mono ?_
  rintro e w7_ ⟨A5, c5, rfl, Rq, Bq⟩
  rw [World.size_alloc] at Bq
  have Sq : Below w6_.heap.size w6_ w7_ := (one_below w6_ _).trans (Bq.mono (by omega))
  have zq : w6_.heap.size < w7_.heap.size := by have := Bq.size; rw [World.size_alloc] at this; omega
  obtain ⟨pq, qq⟩ := box_at Bq
  replace px := (Sq.cell (p := ⟨w3_.heap.size, 0, none⟩) zx).trans px
  replace qx := (Sq.cell (p := ⟨w3_.heap.size, 1, none⟩) zx).trans qx
  replace zx : w3_.heap.size < w7_.heap.size := Nat.lt_of_lt_of_le zx Sq.size
  replace py := (Sq.cell (p := ⟨w4_.heap.size, 0, none⟩) zy).trans py
  replace qy := (Sq.cell (p := ⟨w4_.heap.size, 1, none⟩) zy).trans qy
  replace zy : w4_.heap.size < w7_.heap.size := Nat.lt_of_lt_of_le zy Sq.size
  replace pp := (Sq.cell (p := ⟨w5_.heap.size, 0, none⟩) zp).trans pp
  replace qp := (Sq.cell (p := ⟨w5_.heap.size, 1, none⟩) zp).trans qp
  replace zp : w5_.heap.size < w7_.heap.size := Nat.lt_of_lt_of_le zp Sq.size
  replace RX : Hid (Rd w7_ w7_.heap.size A1 bX) := RX.out.on Sq
  replace RY : Hid (Rd w7_ w7_.heap.size A2 bY) := RY.out.on Sq
  replace RP : Hid (Rd w7_ w7_.heap.size A3 bP) := RP.out.on Sq
  replace RQ : Hid (Rd w7_ w7_.heap.size A4 bQ) := RQ.out.on Sq
  replace HB : Hid (Below w.heap.size w w7_) := HB.out.trans (Sq.mono HB.out.size)
  clear Bq Sq
  have RS := Lib.hid Rq; clear Rq
  go_wp2_with fail
  refine (HD.out A4 c4 _ (RQ.out.on (one_below w7_ _))).mono ?_
  rintro e w8_ ⟨A6, c6, rfl, Rq, Bq⟩
  rw [World.size_alloc] at Bq
  have Sq : Below w7_.heap.size w7_ w8_ := (one_below w7_ _).trans (Bq.mono (by omega))
  have zs : w7_.heap.size < w8_.heap.size := by have := Bq.size; rw [World.size_alloc] at this; omega
  obtain ⟨ps, qs⟩ := box_at Bq
  replace px := (Sq.cell (p := ⟨w3_.heap.size, 0, none⟩) zx).trans px
  replace qx := (Sq.cell (p := ⟨w3_.heap.size, 1, none⟩) zx).trans qx
  replace zx : w3_.heap.size < w8_.heap.size := Nat.lt_of_lt_of_le zx Sq.size
  replace py := (Sq.cell (p := ⟨w4_.heap.size, 0, none⟩) zy).trans py
  replace qy := (Sq.cell (p := ⟨w4_.heap.size, 1, none⟩) zy).trans qy
  replace zy : w4_.heap.size < w8_.heap.size := Nat.lt_of_lt_of_le zy Sq.size
  replace pp := (Sq.cell (p := ⟨w5_.heap.size, 0, none⟩) zp).trans pp
  replace qp := (Sq.cell (p := ⟨w5_.heap.size, 1, none⟩) zp).trans qp
  replace zp : w5_.heap.size < w8_.heap.size := Nat.lt_of_lt_of_le zp Sq.size
  replace pq := (Sq.cell (p := ⟨w6_.heap.size, 0, none⟩) zq).trans pq
  replace qq := (Sq.cell (p := ⟨w6_.heap.size, 1, none⟩) zq).trans qq
  replace zq : w6_.heap.size < w8_.heap.size := Nat.lt_of_lt_of_le zq Sq.size
  replace RX : Hid (Rd w8_ w8_.heap.size A1 bX) := RX.out.on Sq
  replace RY : Hid (Rd w8_ w8_.heap.size A2 bY) := RY.out.on Sq
  replace RP : Hid (Rd w8_ w8_.heap.size A3 bP) := RP.out.on Sq
  replace RQ : Hid (Rd w8_ w8_.heap.size A4 bQ) := RQ.out.on Sq
  replace RS : Hid (Rd w8_ w8_.heap.size A5 bS) := RS.out.on Sq
  replace HB : Hid (Below w.heap.size w w8_) := HB.out.trans (Sq.mono HB.out.size)
  clear Bq Sq
  have RT := Lib.hid Rq; clear Rq
  go_wp2_with fail
  refine (HS.out A5 A1 c5 c1 _ (RS.out.on (one_below w8_ _)) (RX.out.on (one_below w8_ _))).mono ?_
  rintro e w9_ ⟨rfl, Bq⟩
  rw [World.size_alloc] at Bq
  have Sq : Below w8_.heap.size w8_ w9_ := (one_below w8_ _).trans (Bq.mono (by omega))
  have zt : w8_.heap.size < w9_.heap.size := by have := Bq.size; rw [World.size_alloc] at this; omega
  obtain ⟨pt, qt⟩ := box_at Bq
  replace px := (Sq.cell (p := ⟨w3_.heap.size, 0, none⟩) zx).trans px
  replace qx := (Sq.cell (p := ⟨w3_.heap.size, 1, none⟩) zx).trans qx
  replace zx : w3_.heap.size < w9_.heap.size := Nat.lt_of_lt_of_le zx Sq.size
  replace py := (Sq.cell (p := ⟨w4_.heap.size, 0, none⟩) zy).trans py
  replace qy := (Sq.cell (p := ⟨w4_.heap.size, 1, none⟩) zy).trans qy
  replace zy : w4_.heap.size < w9_.heap.size := Nat.lt_of_lt_of_le zy Sq.size
  replace pp := (Sq.cell (p := ⟨w5_.heap.size, 0, none⟩) zp).trans pp
  replace qp := (Sq.cell (p := ⟨w5_.heap.size, 1, none⟩) zp).trans qp
  replace zp : w5_.heap.size < w9_.heap.size := Nat.lt_of_lt_of_le zp Sq.size
  replace pq := (Sq.cell (p := ⟨w6_.heap.size, 0, none⟩) zq).trans pq
  replace qq := (Sq.cell (p := ⟨w6_.heap.size, 1, none⟩) zq).trans qq
  replace zq : w6_.heap.size < w9_.heap.size := Nat.lt_of_lt_of_le zq Sq.size
  replace ps := (Sq.cell (p := ⟨w7_.heap.size, 0, none⟩) zs).trans ps
  replace qs := (Sq.cell (p := ⟨w7_.heap.size, 1, none⟩) zs).trans qs
  replace zs : w7_.heap.size < w9_.heap.size := Nat.lt_of_lt_of_le zs Sq.size
  replace RX : Hid (Rd w9_ w9_.heap.size A1 bX) := RX.out.on Sq
  replace RY : Hid (Rd w9_ w9_.heap.size A2 bY) := RY.out.on Sq
  replace RP : Hid (Rd w9_ w9_.heap.size A3 bP) := RP.out.on Sq
  replace RQ : Hid (Rd w9_ w9_.heap.size A4 bQ) := RQ.out.on Sq
  replace RS : Hid (Rd w9_ w9_.heap.size A5 bS) := RS.out.on Sq
  replace RT : Hid (Rd w9_ w9_.heap.size A6 bT) := RT.out.on Sq
  replace HB : Hid (Below w.heap.size w w9_) := HB.out.trans (Sq.mono HB.out.size)
  clear Bq Sq
  go_wp2_with fail
  refine (HT.out A6 A3 c6 c3 _ RT.out RP.out).mono ?_
  rintro e w10_ ⟨rfl, Bq⟩
  have Sq : Below w9_.heap.size w9_ w10_ := Bq
  replace px := (Sq.cell (p := ⟨w3_.heap.size, 0, none⟩) zx).trans px
  replace qx := (Sq.cell (p := ⟨w3_.heap.size, 1, none⟩) zx).trans qx
  replace zx : w3_.heap.size < w10_.heap.size := Nat.lt_of_lt_of_le zx Sq.size
  replace py := (Sq.cell (p := ⟨w4_.heap.size, 0, none⟩) zy).trans py
  replace qy := (Sq.cell (p := ⟨w4_.heap.size, 1, none⟩) zy).trans qy
  replace zy : w4_.heap.size < w10_.heap.size := Nat.lt_of_lt_of_le zy Sq.size
  replace pp := (Sq.cell (p := ⟨w5_.heap.size, 0, none⟩) zp).trans pp
  replace qp := (Sq.cell (p := ⟨w5_.heap.size, 1, none⟩) zp).trans qp
  replace zp : w5_.heap.size < w10_.heap.size := Nat.lt_of_lt_of_le zp Sq.size
  replace pq := (Sq.cell (p := ⟨w6_.heap.size, 0, none⟩) zq).trans pq
  replace qq := (Sq.cell (p := ⟨w6_.heap.size, 1, none⟩) zq).trans qq
  replace zq : w6_.heap.size < w10_.heap.size := Nat.lt_of_lt_of_le zq Sq.size
  replace ps := (Sq.cell (p := ⟨w7_.heap.size, 0, none⟩) zs).trans ps
  replace qs := (Sq.cell (p := ⟨w7_.heap.size, 1, none⟩) zs).trans qs
  replace zs : w7_.heap.size < w10_.heap.size := Nat.lt_of_lt_of_le zs Sq.size
  replace pt := (Sq.cell (p := ⟨w8_.heap.size, 0, none⟩) zt).trans pt
  replace qt := (Sq.cell (p := ⟨w8_.heap.size, 1, none⟩) zt).trans qt
  replace zt : w8_.heap.size < w10_.heap.size := Nat.lt_of_lt_of_le zt Sq.size
  replace RX : Hid (Rd w10_ w10_.heap.size A1 bX) := RX.out.on Sq
  replace RY : Hid (Rd w10_ w10_.heap.size A2 bY) := RY.out.on Sq
  replace RP : Hid (Rd w10_ w10_.heap.size A3 bP) := RP.out.on Sq
  replace RQ : Hid (Rd w10_ w10_.heap.size A4 bQ) := RQ.out.on Sq
  replace RS : Hid (Rd w10_ w10_.heap.size A5 bS) := RS.out.on Sq
  replace RT : Hid (Rd w10_ w10_.heap.size A6 bT) := RT.out.on Sq
  replace HB : Hid (Below w.heap.size w w10_) := HB.out.trans (Sq.mono HB.out.size)
  clear Bq Sq
  go_wp2_with fail
  refine (HG.out A1 c1 _ RX.out).mono ?_
  rintro e w11_ ⟨rfl, Bq⟩
  have Sq : Below w10_.heap.size w10_ w11_ := Bq
  replace px := (Sq.cell (p := ⟨w3_.heap.size, 0, none⟩) zx).trans px
  replace qx := (Sq.cell (p := ⟨w3_.heap.size, 1, none⟩) zx).trans qx
  replace zx : w3_.heap.size < w11_.heap.size := Nat.lt_of_lt_of_le zx Sq.size
  replace py := (Sq.cell (p := ⟨w4_.heap.size, 0, none⟩) zy).trans py
  replace qy := (Sq.cell (p := ⟨w4_.heap.size, 1, none⟩) zy).trans qy
  replace zy : w4_.heap.size < w11_.heap.size := Nat.lt_of_lt_of_le zy Sq.size
  replace pp := (Sq.cell (p := ⟨w5_.heap.size, 0, none⟩) zp).trans pp
  replace qp := (Sq.cell (p := ⟨w5_.heap.size, 1, none⟩) zp).trans qp
  replace zp : w5_.heap.size < w11_.heap.size := Nat.lt_of_lt_of_le zp Sq.size
  replace pq := (Sq.cell (p := ⟨w6_.heap.size, 0, none⟩) zq).trans pq
  replace qq := (Sq.cell (p := ⟨w6_.heap.size, 1, none⟩) zq).trans qq
  replace zq : w6_.heap.size < w11_.heap.size := Nat.lt_of_lt_of_le zq Sq.size
  replace ps := (Sq.cell (p := ⟨w7_.heap.size, 0, none⟩) zs).trans ps
  replace qs := (Sq.cell (p := ⟨w7_.heap.size, 1, none⟩) zs).trans qs
  replace zs : w7_.heap.size < w11_.heap.size := Nat.lt_of_lt_of_le zs Sq.size
  replace pt := (Sq.cell (p := ⟨w8_.heap.size, 0, none⟩) zt).trans pt
  replace qt := (Sq.cell (p := ⟨w8_.heap.size, 1, none⟩) zt).trans qt
  replace zt : w8_.heap.size < w11_.heap.size := Nat.lt_of_lt_of_le zt Sq.size
  replace RX : Hid (Rd w11_ w11_.heap.size A1 bX) := RX.out.on Sq
  replace RY : Hid (Rd w11_ w11_.heap.size A2 bY) := RY.out.on Sq
  replace RP : Hid (Rd w11_ w11_.heap.size A3 bP) := RP.out.on Sq
  replace RQ : Hid (Rd w11_ w11_.heap.size A4 bQ) := RQ.out.on Sq
  replace RS : Hid (Rd w11_ w11_.heap.size A5 bS) := RS.out.on Sq
  replace RT : Hid (Rd w11_ w11_.heap.size A6 bT) := RT.out.on Sq
  replace HB : Hid (Below w.heap.size w w11_) := HB.out.trans (Sq.mono HB.out.size)
  clear Bq Sq
  go_wp2_with fail
  refine (HH.out A2 c2 _ RY.out).mono ?_
  rintro e w12_ ⟨rfl, Bq⟩
  have Sq : Below w11_.heap.size w11_ w12_ := Bq
  replace px := (Sq.cell (p := ⟨w3_.heap.size, 0, none⟩) zx).trans px
  replace qx := (Sq.cell (p := ⟨w3_.heap.size, 1, none⟩) zx).trans qx
  replace zx : w3_.heap.size < w12_.heap.size := Nat.lt_of_lt_of_le zx Sq.size
  replace py := (Sq.cell (p := ⟨w4_.heap.size, 0, none⟩) zy).trans py
  replace qy := (Sq.cell (p := ⟨w4_.heap.size, 1, none⟩) zy).trans qy
  replace zy : w4_.heap.size < w12_.heap.size := Nat.lt_of_lt_of_le zy Sq.size
  replace pp := (Sq.cell (p := ⟨w5_.heap.size, 0, none⟩) zp).trans pp
  replace qp := (Sq.cell (p := ⟨w5_.heap.size, 1, none⟩) zp).trans qp
  replace zp : w5_.heap.size < w12_.heap.size := Nat.lt_of_lt_of_le zp Sq.size
  replace pq := (Sq.cell (p := ⟨w6_.heap.size, 0, none⟩) zq).trans pq
  replace qq := (Sq.cell (p := ⟨w6_.heap.size, 1, none⟩) zq).trans qq
  replace zq : w6_.heap.size < w12_.heap.size := Nat.lt_of_lt_of_le zq Sq.size
  replace ps := (Sq.cell (p := ⟨w7_.heap.size, 0, none⟩) zs).trans ps
  replace qs := (Sq.cell (p := ⟨w7_.heap.size, 1, none⟩) zs).trans qs
  replace zs : w7_.heap.size < w12_.heap.size := Nat.lt_of_lt_of_le zs Sq.size
  replace pt := (Sq.cell (p := ⟨w8_.heap.size, 0, none⟩) zt).trans pt
  replace qt := (Sq.cell (p := ⟨w8_.heap.size, 1, none⟩) zt).trans qt
  replace zt : w8_.heap.size < w12_.heap.size := Nat.lt_of_lt_of_le zt Sq.size
  replace RX : Hid (Rd w12_ w12_.heap.size A1 bX) := RX.out.on Sq
  replace RY : Hid (Rd w12_ w12_.heap.size A2 bY) := RY.out.on Sq
  replace RP : Hid (Rd w12_ w12_.heap.size A3 bP) := RP.out.on Sq
  replace RQ : Hid (Rd w12_ w12_.heap.size A4 bQ) := RQ.out.on Sq
  replace RS : Hid (Rd w12_ w12_.heap.size A5 bS) := RS.out.on Sq
  replace RT : Hid (Rd w12_ w12_.heap.size A6 bT) := RT.out.on Sq
  replace HB : Hid (Below w.heap.size w w12_) := HB.out.trans (Sq.mono HB.out.size)
  clear Bq Sq
  go_wp2
  go_ret
  exact ⟨rfl, HB.out⟩
set_option maxHeartbeats 600000 in
theorem eapart_eb (a b lX lY lP lQ nX nY nP nQ nS nT gn gm : Nat) (bX bY bP bQ bS bT : List Nat) (hab : a < b) (hb : b ≤ 1099511627776) (h1 : lX ≤ lY) (h2 : lP ≤ lQ) (h3 : lX = lY) (h4 : 64 < lX) (w : World)
    (HX : Hid (∀ V, Calls Try.prog 15 #[.int .u64 (a : Int)] V (Gv V (lX : Int) nX bX 0)))
    (HY : Hid (∀ V, Calls Try.prog 15 #[.int .u64 (b : Int)] V (Gv V (lY : Int) nY bY 0)))
    (HP : Hid (∀ V, Calls Try.prog 16 #[.int .u64 (a : Int)] V (Gv V (lP : Int) nP bP 0)))
    (HQ : Hid (∀ V, Calls Try.prog 16 #[.int .u64 (b : Int)] V (Gv V (lQ : Int) nQ bQ 0)))
    (HC : Hid (∀ A c V, Rd V V.heap.size A bY → Calls Try.prog 31 #[.agg #[.int .i64 (lY : Int), .slice A nY c], .int .i64 0, .int .i64 (lX : Int)] V (Gv V (lX : Int) nS bS 0)))
    (HD : Hid (∀ A c V, Rd V V.heap.size A bQ → Calls Try.prog 31 #[.agg #[.int .i64 (lQ : Int), .slice A nQ c], .int .i64 0, .int .i64 (lP : Int)] V (Gv V (lP : Int) nT bT 0)))
    (HS : Hid (∀ A B c d V, Rd V V.heap.size A bS → Rd V V.heap.size B bX → Calls Try.prog 28 #[.agg #[.int .i64 (lX : Int), .slice A nS c], .agg #[.int .i64 (lX : Int), .slice B nX d]] V fun e w' => e = .returned (.bool false) ∧ Below V.heap.size V w'))
    (HT : Hid (∀ A B c d V, Rd V V.heap.size A bT → Rd V V.heap.size B bP → Calls Try.prog 28 #[.agg #[.int .i64 (lP : Int), .slice A nT c], .agg #[.int .i64 (lP : Int), .slice B nP d]] V fun e w' => e = .returned (.bool false) ∧ Below V.heap.size V w'))
    (HG : Hid (∀ A c V, Rd V V.heap.size A bX → Calls Try.prog 32 #[.agg #[.int .i64 (lX : Int), .slice A nX c], .int .i64 0, .int .i64 64] V (Got V gn 0)))
    (HH : Hid (∀ A c V, Rd V V.heap.size A bY → Calls Try.prog 32 #[.agg #[.int .i64 (lY : Int), .slice A nY c], .int .i64 0, .int .i64 64] V (Got V gm 0))) :
    Calls Try.prog 6 #[.int .u64 (a : Int), .int .u64 (b : Int)] w fun e w' => e = .returned (.bool true) ∧ Below w.heap.size w w' := by
  have t0 : decide ((b : Int) ≤ (a : Int)) = false := by simp; omega
  have t1 : decide ((1099511627776 : Int) < (b : Int)) = false := by simp; omega
  have t2 : decide ((lY : Int) < (lX : Int)) = false := by simp; omega
  have t3 : decide ((lQ : Int) < (lP : Int)) = false := by simp; omega
  have t4 : ((lX : Int) != (lY : Int)) = false := by simp; omega
  have t5 : decide ((64 : Int) < (lX : Int)) = true := by simp; omega
  have t6 : min (lX : Int) 64 = 64 := by omega
  clear h3
  go_enter Try.func6, Try.ntmps6
  go_wp2_with fail
  refine (ebegun_true _).mono ?_
  rintro e w1_ ⟨rfl, Bq⟩
  have Sq : Below w.heap.size w w1_ := Bq
  have HB : Hid (Below w.heap.size w w1_) := Sq
  clear Bq Sq
  go_wp2_with fail
  refine (begun_true _).mono ?_
  rintro e w2_ ⟨rfl, Bq⟩
  have Sq : Below w1_.heap.size w1_ w2_ := Bq
  replace HB : Hid (Below w.heap.size w w2_) := HB.out.trans (Sq.mono HB.out.size)
  clear Bq Sq
  go_wp2_with fail
  refine (HX.out _).mono ?_
  rintro e w3_ ⟨A1, c1, rfl, Rq, Bq⟩
  have Sq : Below w2_.heap.size w2_ w3_ := Bq
  replace HB : Hid (Below w.heap.size w w3_) := HB.out.trans (Sq.mono HB.out.size)
  clear Bq Sq
  have RX := Lib.hid Rq; clear Rq
  go_wp2_with fail
  refine (HY.out _).mono ?_
  rintro e w4_ ⟨A2, c2, rfl, Rq, Bq⟩
  rw [World.size_alloc] at Bq
  have Sq : Below w3_.heap.size w3_ w4_ := (one_below w3_ _).trans (Bq.mono (by omega))
  have zx : w3_.heap.size < w4_.heap.size := by have := Bq.size; rw [World.size_alloc] at this; omega
  obtain ⟨px, qx⟩ := box_at Bq
  replace RX : Hid (Rd w4_ w4_.heap.size A1 bX) := RX.out.on Sq
  replace HB : Hid (Below w.heap.size w w4_) := HB.out.trans (Sq.mono HB.out.size)
  clear Bq Sq
  have RY := Lib.hid Rq; clear Rq
  go_wp2_with fail
  refine (HP.out _).mono ?_
  rintro e w5_ ⟨A3, c3, rfl, Rq, Bq⟩
  rw [World.size_alloc] at Bq
  have Sq : Below w4_.heap.size w4_ w5_ := (one_below w4_ _).trans (Bq.mono (by omega))
  have zy : w4_.heap.size < w5_.heap.size := by have := Bq.size; rw [World.size_alloc] at this; omega
  obtain ⟨py, qy⟩ := box_at Bq
  replace px := (Sq.cell (p := ⟨w3_.heap.size, 0, none⟩) zx).trans px
  replace qx := (Sq.cell (p := ⟨w3_.heap.size, 1, none⟩) zx).trans qx
  replace zx : w3_.heap.size < w5_.heap.size := Nat.lt_of_lt_of_le zx Sq.size
  replace RX : Hid (Rd w5_ w5_.heap.size A1 bX) := RX.out.on Sq
  replace RY : Hid (Rd w5_ w5_.heap.size A2 bY) := RY.out.on Sq
  replace HB : Hid (Below w.heap.size w w5_) := HB.out.trans (Sq.mono HB.out.size)
  clear Bq Sq
  have RP := Lib.hid Rq; clear Rq
  go_wp2_with fail
  refine (HQ.out _).mono ?_
  rintro e w6_ ⟨A4, c4, rfl, Rq, Bq⟩
  rw [World.size_alloc] at Bq
  have Sq : Below w5_.heap.size w5_ w6_ := (one_below w5_ _).trans (Bq.mono (by omega))
  have zp : w5_.heap.size < w6_.heap.size := by have := Bq.size; rw [World.size_alloc] at this; omega
  obtain ⟨pp, qp⟩ := box_at Bq
  replace px := (Sq.cell (p := ⟨w3_.heap.size, 0, none⟩) zx).trans px
  replace qx := (Sq.cell (p := ⟨w3_.heap.size, 1, none⟩) zx).trans qx
  replace zx : w3_.heap.size < w6_.heap.size := Nat.lt_of_lt_of_le zx Sq.size
  replace py := (Sq.cell (p := ⟨w4_.heap.size, 0, none⟩) zy).trans py
  replace qy := (Sq.cell (p := ⟨w4_.heap.size, 1, none⟩) zy).trans qy
  replace zy : w4_.heap.size < w6_.heap.size := Nat.lt_of_lt_of_le zy Sq.size
  replace RX : Hid (Rd w6_ w6_.heap.size A1 bX) := RX.out.on Sq
  replace RY : Hid (Rd w6_ w6_.heap.size A2 bY) := RY.out.on Sq
  replace RP : Hid (Rd w6_ w6_.heap.size A3 bP) := RP.out.on Sq
  replace HB : Hid (Below w.heap.size w w6_) := HB.out.trans (Sq.mono HB.out.size)
  clear Bq Sq
  have RQ := Lib.hid Rq; clear Rq
  go_wp2_with fail
  refine (HC.out A2 c2 _ (RY.out.on (one_below w6_ _))).mono ?_
  rintro e w7_ ⟨A5, c5, rfl, Rq, Bq⟩
  rw [World.size_alloc] at Bq
  have Sq : Below w6_.heap.size w6_ w7_ := (one_below w6_ _).trans (Bq.mono (by omega))
  have zq : w6_.heap.size < w7_.heap.size := by have := Bq.size; rw [World.size_alloc] at this; omega
  obtain ⟨pq, qq⟩ := box_at Bq
  replace px := (Sq.cell (p := ⟨w3_.heap.size, 0, none⟩) zx).trans px
  replace qx := (Sq.cell (p := ⟨w3_.heap.size, 1, none⟩) zx).trans qx
  replace zx : w3_.heap.size < w7_.heap.size := Nat.lt_of_lt_of_le zx Sq.size
  replace py := (Sq.cell (p := ⟨w4_.heap.size, 0, none⟩) zy).trans py
  replace qy := (Sq.cell (p := ⟨w4_.heap.size, 1, none⟩) zy).trans qy
  replace zy : w4_.heap.size < w7_.heap.size := Nat.lt_of_lt_of_le zy Sq.size
  replace pp := (Sq.cell (p := ⟨w5_.heap.size, 0, none⟩) zp).trans pp
  replace qp := (Sq.cell (p := ⟨w5_.heap.size, 1, none⟩) zp).trans qp
  replace zp : w5_.heap.size < w7_.heap.size := Nat.lt_of_lt_of_le zp Sq.size
  replace RX : Hid (Rd w7_ w7_.heap.size A1 bX) := RX.out.on Sq
  replace RY : Hid (Rd w7_ w7_.heap.size A2 bY) := RY.out.on Sq
  replace RP : Hid (Rd w7_ w7_.heap.size A3 bP) := RP.out.on Sq
  replace RQ : Hid (Rd w7_ w7_.heap.size A4 bQ) := RQ.out.on Sq
  replace HB : Hid (Below w.heap.size w w7_) := HB.out.trans (Sq.mono HB.out.size)
  clear Bq Sq
  have RS := Lib.hid Rq; clear Rq
  go_wp2_with fail
  refine (HD.out A4 c4 _ (RQ.out.on (one_below w7_ _))).mono ?_
  rintro e w8_ ⟨A6, c6, rfl, Rq, Bq⟩
  rw [World.size_alloc] at Bq
  have Sq : Below w7_.heap.size w7_ w8_ := (one_below w7_ _).trans (Bq.mono (by omega))
  have zs : w7_.heap.size < w8_.heap.size := by have := Bq.size; rw [World.size_alloc] at this; omega
  obtain ⟨ps, qs⟩ := box_at Bq
  replace px := (Sq.cell (p := ⟨w3_.heap.size, 0, none⟩) zx).trans px
  replace qx := (Sq.cell (p := ⟨w3_.heap.size, 1, none⟩) zx).trans qx
  replace zx : w3_.heap.size < w8_.heap.size := Nat.lt_of_lt_of_le zx Sq.size
  replace py := (Sq.cell (p := ⟨w4_.heap.size, 0, none⟩) zy).trans py
  replace qy := (Sq.cell (p := ⟨w4_.heap.size, 1, none⟩) zy).trans qy
  replace zy : w4_.heap.size < w8_.heap.size := Nat.lt_of_lt_of_le zy Sq.size
  replace pp := (Sq.cell (p := ⟨w5_.heap.size, 0, none⟩) zp).trans pp
  replace qp := (Sq.cell (p := ⟨w5_.heap.size, 1, none⟩) zp).trans qp
  replace zp : w5_.heap.size < w8_.heap.size := Nat.lt_of_lt_of_le zp Sq.size
  replace pq := (Sq.cell (p := ⟨w6_.heap.size, 0, none⟩) zq).trans pq
  replace qq := (Sq.cell (p := ⟨w6_.heap.size, 1, none⟩) zq).trans qq
  replace zq : w6_.heap.size < w8_.heap.size := Nat.lt_of_lt_of_le zq Sq.size
  replace RX : Hid (Rd w8_ w8_.heap.size A1 bX) := RX.out.on Sq
  replace RY : Hid (Rd w8_ w8_.heap.size A2 bY) := RY.out.on Sq
  replace RP : Hid (Rd w8_ w8_.heap.size A3 bP) := RP.out.on Sq
  replace RQ : Hid (Rd w8_ w8_.heap.size A4 bQ) := RQ.out.on Sq
  replace RS : Hid (Rd w8_ w8_.heap.size A5 bS) := RS.out.on Sq
  replace HB : Hid (Below w.heap.size w w8_) := HB.out.trans (Sq.mono HB.out.size)
  clear Bq Sq
  have RT := Lib.hid Rq; clear Rq
  go_wp2_with fail
  refine (HS.out A5 A1 c5 c1 _ (RS.out.on (one_below w8_ _)) (RX.out.on (one_below w8_ _))).mono ?_
  rintro e w9_ ⟨rfl, Bq⟩
  rw [World.size_alloc] at Bq
  have Sq : Below w8_.heap.size w8_ w9_ := (one_below w8_ _).trans (Bq.mono (by omega))
  have zt : w8_.heap.size < w9_.heap.size := by have := Bq.size; rw [World.size_alloc] at this; omega
  obtain ⟨pt, qt⟩ := box_at Bq
  replace px := (Sq.cell (p := ⟨w3_.heap.size, 0, none⟩) zx).trans px
  replace qx := (Sq.cell (p := ⟨w3_.heap.size, 1, none⟩) zx).trans qx
  replace zx : w3_.heap.size < w9_.heap.size := Nat.lt_of_lt_of_le zx Sq.size
  replace py := (Sq.cell (p := ⟨w4_.heap.size, 0, none⟩) zy).trans py
  replace qy := (Sq.cell (p := ⟨w4_.heap.size, 1, none⟩) zy).trans qy
  replace zy : w4_.heap.size < w9_.heap.size := Nat.lt_of_lt_of_le zy Sq.size
  replace pp := (Sq.cell (p := ⟨w5_.heap.size, 0, none⟩) zp).trans pp
  replace qp := (Sq.cell (p := ⟨w5_.heap.size, 1, none⟩) zp).trans qp
  replace zp : w5_.heap.size < w9_.heap.size := Nat.lt_of_lt_of_le zp Sq.size
  replace pq := (Sq.cell (p := ⟨w6_.heap.size, 0, none⟩) zq).trans pq
  replace qq := (Sq.cell (p := ⟨w6_.heap.size, 1, none⟩) zq).trans qq
  replace zq : w6_.heap.size < w9_.heap.size := Nat.lt_of_lt_of_le zq Sq.size
  replace ps := (Sq.cell (p := ⟨w7_.heap.size, 0, none⟩) zs).trans ps
  replace qs := (Sq.cell (p := ⟨w7_.heap.size, 1, none⟩) zs).trans qs
  replace zs : w7_.heap.size < w9_.heap.size := Nat.lt_of_lt_of_le zs Sq.size
  replace RX : Hid (Rd w9_ w9_.heap.size A1 bX) := RX.out.on Sq
  replace RY : Hid (Rd w9_ w9_.heap.size A2 bY) := RY.out.on Sq
  replace RP : Hid (Rd w9_ w9_.heap.size A3 bP) := RP.out.on Sq
  replace RQ : Hid (Rd w9_ w9_.heap.size A4 bQ) := RQ.out.on Sq
  replace RS : Hid (Rd w9_ w9_.heap.size A5 bS) := RS.out.on Sq
  replace RT : Hid (Rd w9_ w9_.heap.size A6 bT) := RT.out.on Sq
  replace HB : Hid (Below w.heap.size w w9_) := HB.out.trans (Sq.mono HB.out.size)
  clear Bq Sq
  go_wp2_with fail
  refine (HT.out A6 A3 c6 c3 _ RT.out RP.out).mono ?_
  rintro e w10_ ⟨rfl, Bq⟩
  have Sq : Below w9_.heap.size w9_ w10_ := Bq
  replace px := (Sq.cell (p := ⟨w3_.heap.size, 0, none⟩) zx).trans px
  replace qx := (Sq.cell (p := ⟨w3_.heap.size, 1, none⟩) zx).trans qx
  replace zx : w3_.heap.size < w10_.heap.size := Nat.lt_of_lt_of_le zx Sq.size
  replace py := (Sq.cell (p := ⟨w4_.heap.size, 0, none⟩) zy).trans py
  replace qy := (Sq.cell (p := ⟨w4_.heap.size, 1, none⟩) zy).trans qy
  replace zy : w4_.heap.size < w10_.heap.size := Nat.lt_of_lt_of_le zy Sq.size
  replace pp := (Sq.cell (p := ⟨w5_.heap.size, 0, none⟩) zp).trans pp
  replace qp := (Sq.cell (p := ⟨w5_.heap.size, 1, none⟩) zp).trans qp
  replace zp : w5_.heap.size < w10_.heap.size := Nat.lt_of_lt_of_le zp Sq.size
  replace pq := (Sq.cell (p := ⟨w6_.heap.size, 0, none⟩) zq).trans pq
  replace qq := (Sq.cell (p := ⟨w6_.heap.size, 1, none⟩) zq).trans qq
  replace zq : w6_.heap.size < w10_.heap.size := Nat.lt_of_lt_of_le zq Sq.size
  replace ps := (Sq.cell (p := ⟨w7_.heap.size, 0, none⟩) zs).trans ps
  replace qs := (Sq.cell (p := ⟨w7_.heap.size, 1, none⟩) zs).trans qs
  replace zs : w7_.heap.size < w10_.heap.size := Nat.lt_of_lt_of_le zs Sq.size
  replace pt := (Sq.cell (p := ⟨w8_.heap.size, 0, none⟩) zt).trans pt
  replace qt := (Sq.cell (p := ⟨w8_.heap.size, 1, none⟩) zt).trans qt
  replace zt : w8_.heap.size < w10_.heap.size := Nat.lt_of_lt_of_le zt Sq.size
  replace RX : Hid (Rd w10_ w10_.heap.size A1 bX) := RX.out.on Sq
  replace RY : Hid (Rd w10_ w10_.heap.size A2 bY) := RY.out.on Sq
  replace RP : Hid (Rd w10_ w10_.heap.size A3 bP) := RP.out.on Sq
  replace RQ : Hid (Rd w10_ w10_.heap.size A4 bQ) := RQ.out.on Sq
  replace RS : Hid (Rd w10_ w10_.heap.size A5 bS) := RS.out.on Sq
  replace RT : Hid (Rd w10_ w10_.heap.size A6 bT) := RT.out.on Sq
  replace HB : Hid (Below w.heap.size w w10_) := HB.out.trans (Sq.mono HB.out.size)
  clear Bq Sq
  go_wp2_with fail
  refine (HG.out A1 c1 _ RX.out).mono ?_
  rintro e w11_ ⟨rfl, Bq⟩
  have Sq : Below w10_.heap.size w10_ w11_ := Bq
  replace px := (Sq.cell (p := ⟨w3_.heap.size, 0, none⟩) zx).trans px
  replace qx := (Sq.cell (p := ⟨w3_.heap.size, 1, none⟩) zx).trans qx
  replace zx : w3_.heap.size < w11_.heap.size := Nat.lt_of_lt_of_le zx Sq.size
  replace py := (Sq.cell (p := ⟨w4_.heap.size, 0, none⟩) zy).trans py
  replace qy := (Sq.cell (p := ⟨w4_.heap.size, 1, none⟩) zy).trans qy
  replace zy : w4_.heap.size < w11_.heap.size := Nat.lt_of_lt_of_le zy Sq.size
  replace pp := (Sq.cell (p := ⟨w5_.heap.size, 0, none⟩) zp).trans pp
  replace qp := (Sq.cell (p := ⟨w5_.heap.size, 1, none⟩) zp).trans qp
  replace zp : w5_.heap.size < w11_.heap.size := Nat.lt_of_lt_of_le zp Sq.size
  replace pq := (Sq.cell (p := ⟨w6_.heap.size, 0, none⟩) zq).trans pq
  replace qq := (Sq.cell (p := ⟨w6_.heap.size, 1, none⟩) zq).trans qq
  replace zq : w6_.heap.size < w11_.heap.size := Nat.lt_of_lt_of_le zq Sq.size
  replace ps := (Sq.cell (p := ⟨w7_.heap.size, 0, none⟩) zs).trans ps
  replace qs := (Sq.cell (p := ⟨w7_.heap.size, 1, none⟩) zs).trans qs
  replace zs : w7_.heap.size < w11_.heap.size := Nat.lt_of_lt_of_le zs Sq.size
  replace pt := (Sq.cell (p := ⟨w8_.heap.size, 0, none⟩) zt).trans pt
  replace qt := (Sq.cell (p := ⟨w8_.heap.size, 1, none⟩) zt).trans qt
  replace zt : w8_.heap.size < w11_.heap.size := Nat.lt_of_lt_of_le zt Sq.size
  replace RX : Hid (Rd w11_ w11_.heap.size A1 bX) := RX.out.on Sq
  replace RY : Hid (Rd w11_ w11_.heap.size A2 bY) := RY.out.on Sq
  replace RP : Hid (Rd w11_ w11_.heap.size A3 bP) := RP.out.on Sq
  replace RQ : Hid (Rd w11_ w11_.heap.size A4 bQ) := RQ.out.on Sq
  replace RS : Hid (Rd w11_ w11_.heap.size A5 bS) := RS.out.on Sq
  replace RT : Hid (Rd w11_ w11_.heap.size A6 bT) := RT.out.on Sq
  replace HB : Hid (Below w.heap.size w w11_) := HB.out.trans (Sq.mono HB.out.size)
  clear Bq Sq
  go_wp2_with fail
  refine (HH.out A2 c2 _ RY.out).mono ?_
  rintro e w12_ ⟨rfl, Bq⟩
  have Sq : Below w11_.heap.size w11_ w12_ := Bq
  replace px := (Sq.cell (p := ⟨w3_.heap.size, 0, none⟩) zx).trans px
  replace qx := (Sq.cell (p := ⟨w3_.heap.size, 1, none⟩) zx).trans qx
  replace zx : w3_.heap.size < w12_.heap.size := Nat.lt_of_lt_of_le zx Sq.size
  replace py := (Sq.cell (p := ⟨w4_.heap.size, 0, none⟩) zy).trans py
  replace qy := (Sq.cell (p := ⟨w4_.heap.size, 1, none⟩) zy).trans qy
  replace zy : w4_.heap.size < w12_.heap.size := Nat.lt_of_lt_of_le zy Sq.size
  replace pp := (Sq.cell (p := ⟨w5_.heap.size, 0, none⟩) zp).trans pp
  replace qp := (Sq.cell (p := ⟨w5_.heap.size, 1, none⟩) zp).trans qp
  replace zp : w5_.heap.size < w12_.heap.size := Nat.lt_of_lt_of_le zp Sq.size
  replace pq := (Sq.cell (p := ⟨w6_.heap.size, 0, none⟩) zq).trans pq
  replace qq := (Sq.cell (p := ⟨w6_.heap.size, 1, none⟩) zq).trans qq
  replace zq : w6_.heap.size < w12_.heap.size := Nat.lt_of_lt_of_le zq Sq.size
  replace ps := (Sq.cell (p := ⟨w7_.heap.size, 0, none⟩) zs).trans ps
  replace qs := (Sq.cell (p := ⟨w7_.heap.size, 1, none⟩) zs).trans qs
  replace zs : w7_.heap.size < w12_.heap.size := Nat.lt_of_lt_of_le zs Sq.size
  replace pt := (Sq.cell (p := ⟨w8_.heap.size, 0, none⟩) zt).trans pt
  replace qt := (Sq.cell (p := ⟨w8_.heap.size, 1, none⟩) zt).trans qt
  replace zt : w8_.heap.size < w12_.heap.size := Nat.lt_of_lt_of_le zt Sq.size
  replace RX : Hid (Rd w12_ w12_.heap.size A1 bX) := RX.out.on Sq
  replace RY : Hid (Rd w12_ w12_.heap.size A2 bY) := RY.out.on Sq
  replace RP : Hid (Rd w12_ w12_.heap.size A3 bP) := RP.out.on Sq
  replace RQ : Hid (Rd w12_ w12_.heap.size A4 bQ) := RQ.out.on Sq
  replace RS : Hid (Rd w12_ w12_.heap.size A5 bS) := RS.out.on Sq
  replace RT : Hid (Rd w12_ w12_.heap.size A6 bT) := RT.out.on Sq
  replace HB : Hid (Below w.heap.size w w12_) := HB.out.trans (Sq.mono HB.out.size)
  clear Bq Sq
  go_wp2
  go_ret
  exact ⟨rfl, HB.out⟩
set_option maxHeartbeats 600000 in
theorem eapart_es (a b lX lY lP lQ nX nY nP nQ nS nT gn gm : Nat) (bX bY bP bQ bS bT : List Nat) (hab : a < b) (hb : b ≤ 1099511627776) (h1 : lX ≤ lY) (h2 : lP ≤ lQ) (h3 : lX = lY) (h4 : lX ≤ 64) (h5 : gn < gm) (w : World)
    (HX : Hid (∀ V, Calls Try.prog 15 #[.int .u64 (a : Int)] V (Gv V (lX : Int) nX bX 0)))
    (HY : Hid (∀ V, Calls Try.prog 15 #[.int .u64 (b : Int)] V (Gv V (lY : Int) nY bY 0)))
    (HP : Hid (∀ V, Calls Try.prog 16 #[.int .u64 (a : Int)] V (Gv V (lP : Int) nP bP 0)))
    (HQ : Hid (∀ V, Calls Try.prog 16 #[.int .u64 (b : Int)] V (Gv V (lQ : Int) nQ bQ 0)))
    (HC : Hid (∀ A c V, Rd V V.heap.size A bY → Calls Try.prog 31 #[.agg #[.int .i64 (lY : Int), .slice A nY c], .int .i64 0, .int .i64 (lX : Int)] V (Gv V (lX : Int) nS bS 0)))
    (HD : Hid (∀ A c V, Rd V V.heap.size A bQ → Calls Try.prog 31 #[.agg #[.int .i64 (lQ : Int), .slice A nQ c], .int .i64 0, .int .i64 (lP : Int)] V (Gv V (lP : Int) nT bT 0)))
    (HS : Hid (∀ A B c d V, Rd V V.heap.size A bS → Rd V V.heap.size B bX → Calls Try.prog 28 #[.agg #[.int .i64 (lX : Int), .slice A nS c], .agg #[.int .i64 (lX : Int), .slice B nX d]] V fun e w' => e = .returned (.bool false) ∧ Below V.heap.size V w'))
    (HT : Hid (∀ A B c d V, Rd V V.heap.size A bT → Rd V V.heap.size B bP → Calls Try.prog 28 #[.agg #[.int .i64 (lP : Int), .slice A nT c], .agg #[.int .i64 (lP : Int), .slice B nP d]] V fun e w' => e = .returned (.bool false) ∧ Below V.heap.size V w'))
    (HG : Hid (∀ A c V, Rd V V.heap.size A bX → Calls Try.prog 32 #[.agg #[.int .i64 (lX : Int), .slice A nX c], .int .i64 0, .int .i64 (lX : Int)] V (Got V gn 0)))
    (HH : Hid (∀ A c V, Rd V V.heap.size A bY → Calls Try.prog 32 #[.agg #[.int .i64 (lY : Int), .slice A nY c], .int .i64 0, .int .i64 (lX : Int)] V (Got V gm 0))) :
    Calls Try.prog 6 #[.int .u64 (a : Int), .int .u64 (b : Int)] w fun e w' => e = .returned (.bool true) ∧ Below w.heap.size w w' := by
  have t0 : decide ((b : Int) ≤ (a : Int)) = false := by simp; omega
  have t1 : decide ((1099511627776 : Int) < (b : Int)) = false := by simp; omega
  have t2 : decide ((lY : Int) < (lX : Int)) = false := by simp; omega
  have t3 : decide ((lQ : Int) < (lP : Int)) = false := by simp; omega
  have t4 : ((lX : Int) != (lY : Int)) = false := by simp; omega
  have t5 : decide ((64 : Int) < (lX : Int)) = false := by simp; omega
  have t6 : min (lX : Int) 64 = (lX : Int) := by omega
  have t7 : decide ((gn : Int) < (gm : Int)) = true := by simp; omega
  clear h3
  go_enter Try.func6, Try.ntmps6
  go_wp2_with fail
  refine (ebegun_true _).mono ?_
  rintro e w1_ ⟨rfl, Bq⟩
  have Sq : Below w.heap.size w w1_ := Bq
  have HB : Hid (Below w.heap.size w w1_) := Sq
  clear Bq Sq
  go_wp2_with fail
  refine (begun_true _).mono ?_
  rintro e w2_ ⟨rfl, Bq⟩
  have Sq : Below w1_.heap.size w1_ w2_ := Bq
  replace HB : Hid (Below w.heap.size w w2_) := HB.out.trans (Sq.mono HB.out.size)
  clear Bq Sq
  go_wp2_with fail
  refine (HX.out _).mono ?_
  rintro e w3_ ⟨A1, c1, rfl, Rq, Bq⟩
  have Sq : Below w2_.heap.size w2_ w3_ := Bq
  replace HB : Hid (Below w.heap.size w w3_) := HB.out.trans (Sq.mono HB.out.size)
  clear Bq Sq
  have RX := Lib.hid Rq; clear Rq
  go_wp2_with fail
  refine (HY.out _).mono ?_
  rintro e w4_ ⟨A2, c2, rfl, Rq, Bq⟩
  rw [World.size_alloc] at Bq
  have Sq : Below w3_.heap.size w3_ w4_ := (one_below w3_ _).trans (Bq.mono (by omega))
  have zx : w3_.heap.size < w4_.heap.size := by have := Bq.size; rw [World.size_alloc] at this; omega
  obtain ⟨px, qx⟩ := box_at Bq
  replace RX : Hid (Rd w4_ w4_.heap.size A1 bX) := RX.out.on Sq
  replace HB : Hid (Below w.heap.size w w4_) := HB.out.trans (Sq.mono HB.out.size)
  clear Bq Sq
  have RY := Lib.hid Rq; clear Rq
  go_wp2_with fail
  refine (HP.out _).mono ?_
  rintro e w5_ ⟨A3, c3, rfl, Rq, Bq⟩
  rw [World.size_alloc] at Bq
  have Sq : Below w4_.heap.size w4_ w5_ := (one_below w4_ _).trans (Bq.mono (by omega))
  have zy : w4_.heap.size < w5_.heap.size := by have := Bq.size; rw [World.size_alloc] at this; omega
  obtain ⟨py, qy⟩ := box_at Bq
  replace px := (Sq.cell (p := ⟨w3_.heap.size, 0, none⟩) zx).trans px
  replace qx := (Sq.cell (p := ⟨w3_.heap.size, 1, none⟩) zx).trans qx
  replace zx : w3_.heap.size < w5_.heap.size := Nat.lt_of_lt_of_le zx Sq.size
  replace RX : Hid (Rd w5_ w5_.heap.size A1 bX) := RX.out.on Sq
  replace RY : Hid (Rd w5_ w5_.heap.size A2 bY) := RY.out.on Sq
  replace HB : Hid (Below w.heap.size w w5_) := HB.out.trans (Sq.mono HB.out.size)
  clear Bq Sq
  have RP := Lib.hid Rq; clear Rq
  go_wp2_with fail
  refine (HQ.out _).mono ?_
  rintro e w6_ ⟨A4, c4, rfl, Rq, Bq⟩
  rw [World.size_alloc] at Bq
  have Sq : Below w5_.heap.size w5_ w6_ := (one_below w5_ _).trans (Bq.mono (by omega))
  have zp : w5_.heap.size < w6_.heap.size := by have := Bq.size; rw [World.size_alloc] at this; omega
  obtain ⟨pp, qp⟩ := box_at Bq
  replace px := (Sq.cell (p := ⟨w3_.heap.size, 0, none⟩) zx).trans px
  replace qx := (Sq.cell (p := ⟨w3_.heap.size, 1, none⟩) zx).trans qx
  replace zx : w3_.heap.size < w6_.heap.size := Nat.lt_of_lt_of_le zx Sq.size
  replace py := (Sq.cell (p := ⟨w4_.heap.size, 0, none⟩) zy).trans py
  replace qy := (Sq.cell (p := ⟨w4_.heap.size, 1, none⟩) zy).trans qy
  replace zy : w4_.heap.size < w6_.heap.size := Nat.lt_of_lt_of_le zy Sq.size
  replace RX : Hid (Rd w6_ w6_.heap.size A1 bX) := RX.out.on Sq
  replace RY : Hid (Rd w6_ w6_.heap.size A2 bY) := RY.out.on Sq
  replace RP : Hid (Rd w6_ w6_.heap.size A3 bP) := RP.out.on Sq
  replace HB : Hid (Below w.heap.size w w6_) := HB.out.trans (Sq.mono HB.out.size)
  clear Bq Sq
  have RQ := Lib.hid Rq; clear Rq
  go_wp2_with fail
  refine (HC.out A2 c2 _ (RY.out.on (one_below w6_ _))).mono ?_
  rintro e w7_ ⟨A5, c5, rfl, Rq, Bq⟩
  rw [World.size_alloc] at Bq
  have Sq : Below w6_.heap.size w6_ w7_ := (one_below w6_ _).trans (Bq.mono (by omega))
  have zq : w6_.heap.size < w7_.heap.size := by have := Bq.size; rw [World.size_alloc] at this; omega
  obtain ⟨pq, qq⟩ := box_at Bq
  replace px := (Sq.cell (p := ⟨w3_.heap.size, 0, none⟩) zx).trans px
  replace qx := (Sq.cell (p := ⟨w3_.heap.size, 1, none⟩) zx).trans qx
  replace zx : w3_.heap.size < w7_.heap.size := Nat.lt_of_lt_of_le zx Sq.size
  replace py := (Sq.cell (p := ⟨w4_.heap.size, 0, none⟩) zy).trans py
  replace qy := (Sq.cell (p := ⟨w4_.heap.size, 1, none⟩) zy).trans qy
  replace zy : w4_.heap.size < w7_.heap.size := Nat.lt_of_lt_of_le zy Sq.size
  replace pp := (Sq.cell (p := ⟨w5_.heap.size, 0, none⟩) zp).trans pp
  replace qp := (Sq.cell (p := ⟨w5_.heap.size, 1, none⟩) zp).trans qp
  replace zp : w5_.heap.size < w7_.heap.size := Nat.lt_of_lt_of_le zp Sq.size
  replace RX : Hid (Rd w7_ w7_.heap.size A1 bX) := RX.out.on Sq
  replace RY : Hid (Rd w7_ w7_.heap.size A2 bY) := RY.out.on Sq
  replace RP : Hid (Rd w7_ w7_.heap.size A3 bP) := RP.out.on Sq
  replace RQ : Hid (Rd w7_ w7_.heap.size A4 bQ) := RQ.out.on Sq
  replace HB : Hid (Below w.heap.size w w7_) := HB.out.trans (Sq.mono HB.out.size)
  clear Bq Sq
  have RS := Lib.hid Rq; clear Rq
  go_wp2_with fail
  refine (HD.out A4 c4 _ (RQ.out.on (one_below w7_ _))).mono ?_
  rintro e w8_ ⟨A6, c6, rfl, Rq, Bq⟩
  rw [World.size_alloc] at Bq
  have Sq : Below w7_.heap.size w7_ w8_ := (one_below w7_ _).trans (Bq.mono (by omega))
  have zs : w7_.heap.size < w8_.heap.size := by have := Bq.size; rw [World.size_alloc] at this; omega
  obtain ⟨ps, qs⟩ := box_at Bq
  replace px := (Sq.cell (p := ⟨w3_.heap.size, 0, none⟩) zx).trans px
  replace qx := (Sq.cell (p := ⟨w3_.heap.size, 1, none⟩) zx).trans qx
  replace zx : w3_.heap.size < w8_.heap.size := Nat.lt_of_lt_of_le zx Sq.size
  replace py := (Sq.cell (p := ⟨w4_.heap.size, 0, none⟩) zy).trans py
  replace qy := (Sq.cell (p := ⟨w4_.heap.size, 1, none⟩) zy).trans qy
  replace zy : w4_.heap.size < w8_.heap.size := Nat.lt_of_lt_of_le zy Sq.size
  replace pp := (Sq.cell (p := ⟨w5_.heap.size, 0, none⟩) zp).trans pp
  replace qp := (Sq.cell (p := ⟨w5_.heap.size, 1, none⟩) zp).trans qp
  replace zp : w5_.heap.size < w8_.heap.size := Nat.lt_of_lt_of_le zp Sq.size
  replace pq := (Sq.cell (p := ⟨w6_.heap.size, 0, none⟩) zq).trans pq
  replace qq := (Sq.cell (p := ⟨w6_.heap.size, 1, none⟩) zq).trans qq
  replace zq : w6_.heap.size < w8_.heap.size := Nat.lt_of_lt_of_le zq Sq.size
  replace RX : Hid (Rd w8_ w8_.heap.size A1 bX) := RX.out.on Sq
  replace RY : Hid (Rd w8_ w8_.heap.size A2 bY) := RY.out.on Sq
  replace RP : Hid (Rd w8_ w8_.heap.size A3 bP) := RP.out.on Sq
  replace RQ : Hid (Rd w8_ w8_.heap.size A4 bQ) := RQ.out.on Sq
  replace RS : Hid (Rd w8_ w8_.heap.size A5 bS) := RS.out.on Sq
  replace HB : Hid (Below w.heap.size w w8_) := HB.out.trans (Sq.mono HB.out.size)
  clear Bq Sq
  have RT := Lib.hid Rq; clear Rq
  go_wp2_with fail
  refine (HS.out A5 A1 c5 c1 _ (RS.out.on (one_below w8_ _)) (RX.out.on (one_below w8_ _))).mono ?_
  rintro e w9_ ⟨rfl, Bq⟩
  rw [World.size_alloc] at Bq
  have Sq : Below w8_.heap.size w8_ w9_ := (one_below w8_ _).trans (Bq.mono (by omega))
  have zt : w8_.heap.size < w9_.heap.size := by have := Bq.size; rw [World.size_alloc] at this; omega
  obtain ⟨pt, qt⟩ := box_at Bq
  replace px := (Sq.cell (p := ⟨w3_.heap.size, 0, none⟩) zx).trans px
  replace qx := (Sq.cell (p := ⟨w3_.heap.size, 1, none⟩) zx).trans qx
  replace zx : w3_.heap.size < w9_.heap.size := Nat.lt_of_lt_of_le zx Sq.size
  replace py := (Sq.cell (p := ⟨w4_.heap.size, 0, none⟩) zy).trans py
  replace qy := (Sq.cell (p := ⟨w4_.heap.size, 1, none⟩) zy).trans qy
  replace zy : w4_.heap.size < w9_.heap.size := Nat.lt_of_lt_of_le zy Sq.size
  replace pp := (Sq.cell (p := ⟨w5_.heap.size, 0, none⟩) zp).trans pp
  replace qp := (Sq.cell (p := ⟨w5_.heap.size, 1, none⟩) zp).trans qp
  replace zp : w5_.heap.size < w9_.heap.size := Nat.lt_of_lt_of_le zp Sq.size
  replace pq := (Sq.cell (p := ⟨w6_.heap.size, 0, none⟩) zq).trans pq
  replace qq := (Sq.cell (p := ⟨w6_.heap.size, 1, none⟩) zq).trans qq
  replace zq : w6_.heap.size < w9_.heap.size := Nat.lt_of_lt_of_le zq Sq.size
  replace ps := (Sq.cell (p := ⟨w7_.heap.size, 0, none⟩) zs).trans ps
  replace qs := (Sq.cell (p := ⟨w7_.heap.size, 1, none⟩) zs).trans qs
  replace zs : w7_.heap.size < w9_.heap.size := Nat.lt_of_lt_of_le zs Sq.size
  replace RX : Hid (Rd w9_ w9_.heap.size A1 bX) := RX.out.on Sq
  replace RY : Hid (Rd w9_ w9_.heap.size A2 bY) := RY.out.on Sq
  replace RP : Hid (Rd w9_ w9_.heap.size A3 bP) := RP.out.on Sq
  replace RQ : Hid (Rd w9_ w9_.heap.size A4 bQ) := RQ.out.on Sq
  replace RS : Hid (Rd w9_ w9_.heap.size A5 bS) := RS.out.on Sq
  replace RT : Hid (Rd w9_ w9_.heap.size A6 bT) := RT.out.on Sq
  replace HB : Hid (Below w.heap.size w w9_) := HB.out.trans (Sq.mono HB.out.size)
  clear Bq Sq
  go_wp2_with fail
  refine (HT.out A6 A3 c6 c3 _ RT.out RP.out).mono ?_
  rintro e w10_ ⟨rfl, Bq⟩
  have Sq : Below w9_.heap.size w9_ w10_ := Bq
  replace px := (Sq.cell (p := ⟨w3_.heap.size, 0, none⟩) zx).trans px
  replace qx := (Sq.cell (p := ⟨w3_.heap.size, 1, none⟩) zx).trans qx
  replace zx : w3_.heap.size < w10_.heap.size := Nat.lt_of_lt_of_le zx Sq.size
  replace py := (Sq.cell (p := ⟨w4_.heap.size, 0, none⟩) zy).trans py
  replace qy := (Sq.cell (p := ⟨w4_.heap.size, 1, none⟩) zy).trans qy
  replace zy : w4_.heap.size < w10_.heap.size := Nat.lt_of_lt_of_le zy Sq.size
  replace pp := (Sq.cell (p := ⟨w5_.heap.size, 0, none⟩) zp).trans pp
  replace qp := (Sq.cell (p := ⟨w5_.heap.size, 1, none⟩) zp).trans qp
  replace zp : w5_.heap.size < w10_.heap.size := Nat.lt_of_lt_of_le zp Sq.size
  replace pq := (Sq.cell (p := ⟨w6_.heap.size, 0, none⟩) zq).trans pq
  replace qq := (Sq.cell (p := ⟨w6_.heap.size, 1, none⟩) zq).trans qq
  replace zq : w6_.heap.size < w10_.heap.size := Nat.lt_of_lt_of_le zq Sq.size
  replace ps := (Sq.cell (p := ⟨w7_.heap.size, 0, none⟩) zs).trans ps
  replace qs := (Sq.cell (p := ⟨w7_.heap.size, 1, none⟩) zs).trans qs
  replace zs : w7_.heap.size < w10_.heap.size := Nat.lt_of_lt_of_le zs Sq.size
  replace pt := (Sq.cell (p := ⟨w8_.heap.size, 0, none⟩) zt).trans pt
  replace qt := (Sq.cell (p := ⟨w8_.heap.size, 1, none⟩) zt).trans qt
  replace zt : w8_.heap.size < w10_.heap.size := Nat.lt_of_lt_of_le zt Sq.size
  replace RX : Hid (Rd w10_ w10_.heap.size A1 bX) := RX.out.on Sq
  replace RY : Hid (Rd w10_ w10_.heap.size A2 bY) := RY.out.on Sq
  replace RP : Hid (Rd w10_ w10_.heap.size A3 bP) := RP.out.on Sq
  replace RQ : Hid (Rd w10_ w10_.heap.size A4 bQ) := RQ.out.on Sq
  replace RS : Hid (Rd w10_ w10_.heap.size A5 bS) := RS.out.on Sq
  replace RT : Hid (Rd w10_ w10_.heap.size A6 bT) := RT.out.on Sq
  replace HB : Hid (Below w.heap.size w w10_) := HB.out.trans (Sq.mono HB.out.size)
  clear Bq Sq
  go_wp2_with fail
  refine (HG.out A1 c1 _ RX.out).mono ?_
  rintro e w11_ ⟨rfl, Bq⟩
  have Sq : Below w10_.heap.size w10_ w11_ := Bq
  replace px := (Sq.cell (p := ⟨w3_.heap.size, 0, none⟩) zx).trans px
  replace qx := (Sq.cell (p := ⟨w3_.heap.size, 1, none⟩) zx).trans qx
  replace zx : w3_.heap.size < w11_.heap.size := Nat.lt_of_lt_of_le zx Sq.size
  replace py := (Sq.cell (p := ⟨w4_.heap.size, 0, none⟩) zy).trans py
  replace qy := (Sq.cell (p := ⟨w4_.heap.size, 1, none⟩) zy).trans qy
  replace zy : w4_.heap.size < w11_.heap.size := Nat.lt_of_lt_of_le zy Sq.size
  replace pp := (Sq.cell (p := ⟨w5_.heap.size, 0, none⟩) zp).trans pp
  replace qp := (Sq.cell (p := ⟨w5_.heap.size, 1, none⟩) zp).trans qp
  replace zp : w5_.heap.size < w11_.heap.size := Nat.lt_of_lt_of_le zp Sq.size
  replace pq := (Sq.cell (p := ⟨w6_.heap.size, 0, none⟩) zq).trans pq
  replace qq := (Sq.cell (p := ⟨w6_.heap.size, 1, none⟩) zq).trans qq
  replace zq : w6_.heap.size < w11_.heap.size := Nat.lt_of_lt_of_le zq Sq.size
  replace ps := (Sq.cell (p := ⟨w7_.heap.size, 0, none⟩) zs).trans ps
  replace qs := (Sq.cell (p := ⟨w7_.heap.size, 1, none⟩) zs).trans qs
  replace zs : w7_.heap.size < w11_.heap.size := Nat.lt_of_lt_of_le zs Sq.size
  replace pt := (Sq.cell (p := ⟨w8_.heap.size, 0, none⟩) zt).trans pt
  replace qt := (Sq.cell (p := ⟨w8_.heap.size, 1, none⟩) zt).trans qt
  replace zt : w8_.heap.size < w11_.heap.size := Nat.lt_of_lt_of_le zt Sq.size
  replace RX : Hid (Rd w11_ w11_.heap.size A1 bX) := RX.out.on Sq
  replace RY : Hid (Rd w11_ w11_.heap.size A2 bY) := RY.out.on Sq
  replace RP : Hid (Rd w11_ w11_.heap.size A3 bP) := RP.out.on Sq
  replace RQ : Hid (Rd w11_ w11_.heap.size A4 bQ) := RQ.out.on Sq
  replace RS : Hid (Rd w11_ w11_.heap.size A5 bS) := RS.out.on Sq
  replace RT : Hid (Rd w11_ w11_.heap.size A6 bT) := RT.out.on Sq
  replace HB : Hid (Below w.heap.size w w11_) := HB.out.trans (Sq.mono HB.out.size)
  clear Bq Sq
  go_wp2_with fail
  refine (HH.out A2 c2 _ RY.out).mono ?_
  rintro e w12_ ⟨rfl, Bq⟩
  have Sq : Below w11_.heap.size w11_ w12_ := Bq
  replace px := (Sq.cell (p := ⟨w3_.heap.size, 0, none⟩) zx).trans px
  replace qx := (Sq.cell (p := ⟨w3_.heap.size, 1, none⟩) zx).trans qx
  replace zx : w3_.heap.size < w12_.heap.size := Nat.lt_of_lt_of_le zx Sq.size
  replace py := (Sq.cell (p := ⟨w4_.heap.size, 0, none⟩) zy).trans py
  replace qy := (Sq.cell (p := ⟨w4_.heap.size, 1, none⟩) zy).trans qy
  replace zy : w4_.heap.size < w12_.heap.size := Nat.lt_of_lt_of_le zy Sq.size
  replace pp := (Sq.cell (p := ⟨w5_.heap.size, 0, none⟩) zp).trans pp
  replace qp := (Sq.cell (p := ⟨w5_.heap.size, 1, none⟩) zp).trans qp
  replace zp : w5_.heap.size < w12_.heap.size := Nat.lt_of_lt_of_le zp Sq.size
  replace pq := (Sq.cell (p := ⟨w6_.heap.size, 0, none⟩) zq).trans pq
  replace qq := (Sq.cell (p := ⟨w6_.heap.size, 1, none⟩) zq).trans qq
  replace zq : w6_.heap.size < w12_.heap.size := Nat.lt_of_lt_of_le zq Sq.size
  replace ps := (Sq.cell (p := ⟨w7_.heap.size, 0, none⟩) zs).trans ps
  replace qs := (Sq.cell (p := ⟨w7_.heap.size, 1, none⟩) zs).trans qs
  replace zs : w7_.heap.size < w12_.heap.size := Nat.lt_of_lt_of_le zs Sq.size
  replace pt := (Sq.cell (p := ⟨w8_.heap.size, 0, none⟩) zt).trans pt
  replace qt := (Sq.cell (p := ⟨w8_.heap.size, 1, none⟩) zt).trans qt
  replace zt : w8_.heap.size < w12_.heap.size := Nat.lt_of_lt_of_le zt Sq.size
  replace RX : Hid (Rd w12_ w12_.heap.size A1 bX) := RX.out.on Sq
  replace RY : Hid (Rd w12_ w12_.heap.size A2 bY) := RY.out.on Sq
  replace RP : Hid (Rd w12_ w12_.heap.size A3 bP) := RP.out.on Sq
  replace RQ : Hid (Rd w12_ w12_.heap.size A4 bQ) := RQ.out.on Sq
  replace RS : Hid (Rd w12_ w12_.heap.size A5 bS) := RS.out.on Sq
  replace RT : Hid (Rd w12_ w12_.heap.size A6 bT) := RT.out.on Sq
  replace HB : Hid (Below w.heap.size w w12_) := HB.out.trans (Sq.mono HB.out.size)
  clear Bq Sq
  go_wp2
  go_ret
  exact ⟨rfl, HB.out⟩
end Go.Proofs.Ytcacbekdghlncaa
