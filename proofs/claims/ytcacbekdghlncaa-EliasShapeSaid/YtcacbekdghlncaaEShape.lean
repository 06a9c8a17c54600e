/- The law EliasShape: for whatever number it returns true. -/
import Derived.Test.YtcacbekdghlncaaEBegun
import Derived.Test.YtcacbekdghlncaaUBegun
import Derived.Test.YtcacbekdghlncaaOpen
namespace Go.Proofs.Ytcacbekdghlncaa
set_option maxRecDepth 100000
set_option linter.unusedVariables false
open Go.RowKit

set_option maxHeartbeats 2000000 in
theorem eshape_err (n : Nat) (w : World) (HX : Hid (∀ V, Calls Try.prog 15 #[.int .u64 (n : Int)] V (Gv V 0 0 [] 3)))
    (HY : Hid (∀ V, Calls Try.prog 16 #[.int .u64 (n : Int)] V (Gv V 0 0 [] 3))) :
    Calls Try.prog 7 #[.int .u64 (n : Int)] w fun e w' => e = .returned (.bool true) ∧ Below w.heap.size w w' := by
  go_enter Try.func7, Try.ntmps7
  go_wp2_with fail
  refine (HX.out _).mono ?_
  rintro e w1_ ⟨A1, c1, rfl, Rq, Bq⟩
  have Sq : Below w.heap.size w w1_ := Bq
  have HB : Hid (Below w.heap.size w w1_) := Sq
  clear Bq Sq
  have RX := Lib.hid Rq; clear Rq
  go_wp2_with fail
  refine (HY.out _).mono ?_
  rintro e w2_ ⟨A2, c2, rfl, Rq, Bq⟩
  rw [World.size_alloc] at Bq
  have Sq : Below w1_.heap.size w1_ w2_ := (one_below w1_ _).trans (Bq.mono (by omega))
  have zx : w1_.heap.size < w2_.heap.size := by have := Bq.size; rw [World.size_alloc] at this; omega
  obtain ⟨px, qx⟩ := box_at Bq
  replace RX : Hid (Rd w2_ w2_.heap.size A1 []) := RX.out.on Sq
  replace HB : Hid (Below w.heap.size w w2_) := HB.out.trans (Sq.mono HB.out.size)
  clear Bq Sq
  have RY := Lib.hid Rq; clear Rq
  go_wp2_with fail
  refine (ebegun_true _).mono ?_
  rintro e w3_ ⟨rfl, Bq⟩
  rw [World.size_alloc] at Bq
  have Sq : Below w2_.heap.size w2_ w3_ := (one_below w2_ _).trans (Bq.mono (by omega))
  have zy : w2_.heap.size < w3_.heap.size := by have := Bq.size; rw [World.size_alloc] at this; omega
  obtain ⟨py, qy⟩ := box_at Bq
  replace px := (Sq.cell (p := ⟨w1_.heap.size, 0, none⟩) zx).trans px
  replace qx := (Sq.cell (p := ⟨w1_.heap.size, 1, none⟩) zx).trans qx
  replace zx : w1_.heap.size < w3_.heap.size := Nat.lt_of_lt_of_le zx Sq.size
  replace RX : Hid (Rd w3_ w3_.heap.size A1 []) := RX.out.on Sq
  replace RY : Hid (Rd w3_ w3_.heap.size A2 []) := RY.out.on Sq
  replace HB : Hid (Below w.heap.size w w3_) := HB.out.trans (Sq.mono HB.out.size)
  clear Bq Sq
  go_wp2_with fail
  refine (ubegun_true _).mono ?_
  rintro e w4_ ⟨rfl, Bq⟩
  have Sq : Below w3_.heap.size w3_ w4_ := Bq
  replace px := (Sq.cell (p := ⟨w1_.heap.size, 0, none⟩) zx).trans px
  replace qx := (Sq.cell (p := ⟨w1_.heap.size, 1, none⟩) zx).trans qx
  replace zx : w1_.heap.size < w4_.heap.size := Nat.lt_of_lt_of_le zx Sq.size
  replace py := (Sq.cell (p := ⟨w2_.heap.size, 0, none⟩) zy).trans py
  replace qy := (Sq.cell (p := ⟨w2_.heap.size, 1, none⟩) zy).trans qy
  replace zy : w2_.heap.size < w4_.heap.size := Nat.lt_of_lt_of_le zy Sq.size
  replace RX : Hid (Rd w4_ w4_.heap.size A1 []) := RX.out.on Sq
  replace RY : Hid (Rd w4_ w4_.heap.size A2 []) := RY.out.on Sq
  replace HB : Hid (Below w.heap.size w w4_) := HB.out.trans (Sq.mono HB.out.size)
  clear Bq Sq
  go_wp2_with fail
  refine (begun_true _).mono ?_
  rintro e w5_ ⟨rfl, Bq⟩
  have Sq : Below w4_.heap.size w4_ w5_ := Bq
  replace px := (Sq.cell (p := ⟨w1_.heap.size, 0, none⟩) zx).trans px
  replace qx := (Sq.cell (p := ⟨w1_.heap.size, 1, none⟩) zx).trans qx
  replace zx : w1_.heap.size < w5_.heap.size := Nat.lt_of_lt_of_le zx Sq.size
  replace py := (Sq.cell (p := ⟨w2_.heap.size, 0, none⟩) zy).trans py
  replace qy := (Sq.cell (p := ⟨w2_.heap.size, 1, none⟩) zy).trans qy
  replace zy : w2_.heap.size < w5_.heap.size := Nat.lt_of_lt_of_le zy Sq.size
  replace RX : Hid (Rd w5_ w5_.heap.size A1 []) := RX.out.on Sq
  replace RY : Hid (Rd w5_ w5_.heap.size A2 []) := RY.out.on Sq
  replace HB : Hid (Below w.heap.size w w5_) := HB.out.trans (Sq.mono HB.out.size)
  clear Bq Sq
  go_wp2
  go_ret
  exact ⟨rfl, HB.out⟩

set_option maxHeartbeats 2000000 in
theorem eshape_ok (n k p q nX nY nT : Nat) (hk : k ≤ 100) (hp : p ≤ 1000) (hq : q ≤ 1000) (bX bY bT : List Nat) (lT : Int) (w : World) (HX : Hid (∀ V, Calls Try.prog 15 #[.int .u64 (n : Int)] V (Gv V ((p : Int) + (k : Int)) nX bX 0)))
    (HY : Hid (∀ V, Calls Try.prog 16 #[.int .u64 (n : Int)] V (Gv V ((q : Int) + (k : Int)) nY bY 0)))
    (HU : Hid (∀ A c V, Rd V V.heap.size A bX → Calls Try.prog 34 #[.agg #[.int .i64 ((p : Int) + (k : Int)), .slice A nX c], .int .i64 0] V (ReadP V k p 0)))
    (HG : Hid (∀ A c V, Rd V V.heap.size A bY → Calls Try.prog 17 #[.agg #[.int .i64 ((q : Int) + (k : Int)), .slice A nY c], .int .i64 0] V (ReadP V k q 0)))
    (HC : Hid (∀ A c V, Rd V V.heap.size A bX → Calls Try.prog 31 #[.agg #[.int .i64 ((p : Int) + (k : Int)), .slice A nX c], .int .i64 (p : Int), .int .i64 ((p : Int) + (k : Int))] V (Gv V lT nT bT 0)))
    (HD : Hid (∀ A c V, Rd V V.heap.size A bY → Calls Try.prog 31 #[.agg #[.int .i64 ((q : Int) + (k : Int)), .slice A nY c], .int .i64 (q : Int), .int .i64 ((q : Int) + (k : Int))] V (Gv V lT nT bT 0)))
    (HS : Hid (∀ A B c d V, Rd V V.heap.size A bT → Rd V V.heap.size B bT → Calls Try.prog 28 #[.agg #[.int .i64 lT, .slice A nT c], .agg #[.int .i64 lT, .slice B nT d]] V fun e w' => e = .returned (.bool true) ∧ Below V.heap.size V w')) :
    Calls Try.prog 7 #[.int .u64 (n : Int)] w fun e w' => e = .returned (.bool true) ∧ Below w.heap.size w w' := by
  have d1 : ((k : Int) != (k : Int)) = false := by simp
  go_enter Try.func7, Try.ntmps7
  go_wp2_with fail
  refine (HX.out _).mono ?_
  rintro e w1_ ⟨A1, c1, rfl, Rq, Bq⟩
  have Sq : Below w.heap.size w w1_ := Bq
  have HB : Hid (Below w.heap.size w w1_) := Sq
  clear Bq Sq
  have RX := Lib.hid Rq; clear Rq
  go_wp2_with fail
  refine (HY.out _).mono ?_
  rintro e w2_ ⟨A2, c2, rfl, Rq, Bq⟩
  rw [World.size_alloc] at Bq
  have Sq : Below w1_.heap.size w1_ w2_ := (one_below w1_ _).trans (Bq.mono (by omega))
  have zx : w1_.heap.size < w2_.heap.size := by have := Bq.size; rw [World.size_alloc] at this; omega
  obtain ⟨px, qx⟩ := box_at Bq
  replace RX : Hid (Rd w2_ w2_.heap.size A1 bX) := RX.out.on Sq
  replace HB : Hid (Below w.heap.size w w2_) := HB.out.trans (Sq.mono HB.out.size)
  clear Bq Sq
  have RY := Lib.hid Rq; clear Rq
  go_wp2_with fail
  refine (ebegun_true _).mono ?_
  rintro e w3_ ⟨rfl, Bq⟩
  rw [World.size_alloc] at Bq
  have Sq : Below w2_.heap.size w2_ w3_ := (one_below w2_ _).trans (Bq.mono (by omega))
  have zy : w2_.heap.size < w3_.heap.size := by have := Bq.size; rw [World.size_alloc] at this; omega
  obtain ⟨py, qy⟩ := box_at Bq
  replace px := (Sq.cell (p := ⟨w1_.heap.size, 0, none⟩) zx).trans px
  replace qx := (Sq.cell (p := ⟨w1_.heap.size, 1, none⟩) zx).trans qx
  replace zx : w1_.heap.size < w3_.heap.size := Nat.lt_of_lt_of_le zx Sq.size
  replace RX : Hid (Rd w3_ w3_.heap.size A1 bX) := RX.out.on Sq
  replace RY : Hid (Rd w3_ w3_.heap.size A2 bY) := RY.out.on Sq
  replace HB : Hid (Below w.heap.size w w3_) := HB.out.trans (Sq.mono HB.out.size)
  clear Bq Sq
  go_wp2_with fail
  refine (ubegun_true _).mono ?_
  rintro e w4_ ⟨rfl, Bq⟩
  have Sq : Below w3_.heap.size w3_ w4_ := Bq
  replace px := (Sq.cell (p := ⟨w1_.heap.size, 0, none⟩) zx).trans px
  replace qx := (Sq.cell (p := ⟨w1_.heap.size, 1, none⟩) zx).trans qx
  replace zx : w1_.heap.size < w4_.heap.size := Nat.lt_of_lt_of_le zx Sq.size
  replace py := (Sq.cell (p := ⟨w2_.heap.size, 0, none⟩) zy).trans py
  replace qy := (Sq.cell (p := ⟨w2_.heap.size, 1, none⟩) zy).trans qy
  replace zy : w2_.heap.size < w4_.heap.size := Nat.lt_of_lt_of_le zy Sq.size
  replace RX : Hid (Rd w4_ w4_.heap.size A1 bX) := RX.out.on Sq
  replace RY : Hid (Rd w4_ w4_.heap.size A2 bY) := RY.out.on Sq
  replace HB : Hid (Below w.heap.size w w4_) := HB.out.trans (Sq.mono HB.out.size)
  clear Bq Sq
  go_wp2_with fail
  refine (begun_true _).mono ?_
  rintro e w5_ ⟨rfl, Bq⟩
  have Sq : Below w4_.heap.size w4_ w5_ := Bq
  replace px := (Sq.cell (p := ⟨w1_.heap.size, 0, none⟩) zx).trans px
  replace qx := (Sq.cell (p := ⟨w1_.heap.size, 1, none⟩) zx).trans qx
  replace zx : w1_.heap.size < w5_.heap.size := Nat.lt_of_lt_of_le zx Sq.size
  replace py := (Sq.cell (p := ⟨w2_.heap.size, 0, none⟩) zy).trans py
  replace qy := (Sq.cell (p := ⟨w2_.heap.size, 1, none⟩) zy).trans qy
  replace zy : w2_.heap.size < w5_.heap.size := Nat.lt_of_lt_of_le zy Sq.size
  replace RX : Hid (Rd w5_ w5_.heap.size A1 bX) := RX.out.on Sq
  replace RY : Hid (Rd w5_ w5_.heap.size A2 bY) := RY.out.on Sq
  replace HB : Hid (Below w.heap.size w w5_) := HB.out.trans (Sq.mono HB.out.size)
  clear Bq Sq
  go_wp2_with fail
  refine (HU.out A1 c1 _ RX.out).mono ?_
  rintro e w6_ ⟨rfl, Bq⟩
  have Sq : Below w5_.heap.size w5_ w6_ := Bq
  replace px := (Sq.cell (p := ⟨w1_.heap.size, 0, none⟩) zx).trans px
  replace qx := (Sq.cell (p := ⟨w1_.heap.size, 1, none⟩) zx).trans qx
  replace zx : w1_.heap.size < w6_.heap.size := Nat.lt_of_lt_of_le zx Sq.size
  replace py := (Sq.cell (p := ⟨w2_.heap.size, 0, none⟩) zy).trans py
  replace qy := (Sq.cell (p := ⟨w2_.heap.size, 1, none⟩) zy).trans qy
  replace zy : w2_.heap.size < w6_.heap.size := Nat.lt_of_lt_of_le zy Sq.size
  replace RX : Hid (Rd w6_ w6_.heap.size A1 bX) := RX.out.on Sq
  replace RY : Hid (Rd w6_ w6_.heap.size A2 bY) := RY.out.on Sq
  replace HB : Hid (Below w.heap.size w w6_) := HB.out.trans (Sq.mono HB.out.size)
  clear Bq Sq
  go_wp2_with fail
  refine (HG.out A2 c2 _ RY.out).mono ?_
  rintro e w7_ ⟨rfl, Bq⟩
  have Sq : Below w6_.heap.size w6_ w7_ := Bq
  replace px := (Sq.cell (p := ⟨w1_.heap.size, 0, none⟩) zx).trans px
  replace qx := (Sq.cell (p := ⟨w1_.heap.size, 1, none⟩) zx).trans qx
  replace zx : w1_.heap.size < w7_.heap.size := Nat.lt_of_lt_of_le zx Sq.size
  replace py := (Sq.cell (p := ⟨w2_.heap.size, 0, none⟩) zy).trans py
  replace qy := (Sq.cell (p := ⟨w2_.heap.size, 1, none⟩) zy).trans qy
  replace zy : w2_.heap.size < w7_.heap.size := Nat.lt_of_lt_of_le zy Sq.size
  replace RX : Hid (Rd w7_ w7_.heap.size A1 bX) := RX.out.on Sq
  replace RY : Hid (Rd w7_ w7_.heap.size A2 bY) := RY.out.on Sq
  replace HB : Hid (Below w.heap.size w w7_) := HB.out.trans (Sq.mono HB.out.size)
  clear Bq Sq
  go_wp2_with fail
  refine (HC.out A1 c1 _ RX.out).mono ?_
  rintro e w8_ ⟨A3, c3, rfl, Rq, Bq⟩
  have Sq : Below w7_.heap.size w7_ w8_ := Bq
  replace px := (Sq.cell (p := ⟨w1_.heap.size, 0, none⟩) zx).trans px
  replace qx := (Sq.cell (p := ⟨w1_.heap.size, 1, none⟩) zx).trans qx
  replace zx : w1_.heap.size < w8_.heap.size := Nat.lt_of_lt_of_le zx Sq.size
  replace py := (Sq.cell (p := ⟨w2_.heap.size, 0, none⟩) zy).trans py
  replace qy := (Sq.cell (p := ⟨w2_.heap.size, 1, none⟩) zy).trans qy
  replace zy : w2_.heap.size < w8_.heap.size := Nat.lt_of_lt_of_le zy Sq.size
  replace RX : Hid (Rd w8_ w8_.heap.size A1 bX) := RX.out.on Sq
  replace RY : Hid (Rd w8_ w8_.heap.size A2 bY) := RY.out.on Sq
  replace HB : Hid (Below w.heap.size w w8_) := HB.out.trans (Sq.mono HB.out.size)
  clear Bq Sq
  have RA := Lib.hid Rq; clear Rq
  go_wp2_with fail
  refine (HD.out A2 c2 _ (RY.out.on (one_below w8_ _))).mono ?_
  rintro e w9_ ⟨A4, c4, rfl, Rq, Bq⟩
  rw [World.size_alloc] at Bq
  have Sq : Below w8_.heap.size w8_ w9_ := (one_below w8_ _).trans (Bq.mono (by omega))
  have za : w8_.heap.size < w9_.heap.size := by have := Bq.size; rw [World.size_alloc] at this; omega
  obtain ⟨pa, qa⟩ := box_at Bq
  replace px := (Sq.cell (p := ⟨w1_.heap.size, 0, none⟩) zx).trans px
  replace qx := (Sq.cell (p := ⟨w1_.heap.size, 1, none⟩) zx).trans qx
  replace zx : w1_.heap.size < w9_.heap.size := Nat.lt_of_lt_of_le zx Sq.size
  replace py := (Sq.cell (p := ⟨w2_.heap.size, 0, none⟩) zy).trans py
  replace qy := (Sq.cell (p := ⟨w2_.heap.size, 1, none⟩) zy).trans qy
  replace zy : w2_.heap.size < w9_.heap.size := Nat.lt_of_lt_of_le zy Sq.size
  replace RX : Hid (Rd w9_ w9_.heap.size A1 bX) := RX.out.on Sq
  replace RY : Hid (Rd w9_ w9_.heap.size A2 bY) := RY.out.on Sq
  replace RA : Hid (Rd w9_ w9_.heap.size A3 bT) := RA.out.on Sq
  replace HB : Hid (Below w.heap.size w w9_) := HB.out.trans (Sq.mono HB.out.size)
  clear Bq Sq
  have RB := Lib.hid Rq; clear Rq
  go_wp2_with fail
  refine (HS.out A3 A4 c3 c4 _ (RA.out.on (one_below w9_ _)) (RB.out.on (one_below w9_ _))).mono ?_
  rintro e w10_ ⟨rfl, Bq⟩
  rw [World.size_alloc] at Bq
  have Sq : Below w9_.heap.size w9_ w10_ := (one_below w9_ _).trans (Bq.mono (by omega))
  have zb : w9_.heap.size < w10_.heap.size := by have := Bq.size; rw [World.size_alloc] at this; omega
  obtain ⟨pb, qb⟩ := box_at Bq
  replace px := (Sq.cell (p := ⟨w1_.heap.size, 0, none⟩) zx).trans px
  replace qx := (Sq.cell (p := ⟨w1_.heap.size, 1, none⟩) zx).trans qx
  replace zx : w1_.heap.size < w10_.heap.size := Nat.lt_of_lt_of_le zx Sq.size
  replace py := (Sq.cell (p := ⟨w2_.heap.size, 0, none⟩) zy).trans py
  replace qy := (Sq.cell (p := ⟨w2_.heap.size, 1, none⟩) zy).trans qy
  replace zy : w2_.heap.size < w10_.heap.size := Nat.lt_of_lt_of_le zy Sq.size
  replace pa := (Sq.cell (p := ⟨w8_.heap.size, 0, none⟩) za).trans pa
  replace qa := (Sq.cell (p := ⟨w8_.heap.size, 1, none⟩) za).trans qa
  replace za : w8_.heap.size < w10_.heap.size := Nat.lt_of_lt_of_le za Sq.size
  replace RX : Hid (Rd w10_ w10_.heap.size A1 bX) := RX.out.on Sq
  replace RY : Hid (Rd w10_ w10_.heap.size A2 bY) := RY.out.on Sq
  replace RA : Hid (Rd w10_ w10_.heap.size A3 bT) := RA.out.on Sq
  replace RB : Hid (Rd w10_ w10_.heap.size A4 bT) := RB.out.on Sq
  replace HB : Hid (Below w.heap.size w w10_) := HB.out.trans (Sq.mono HB.out.size)
  clear Bq Sq
  go_wp2
  go_ret
  exact ⟨rfl, HB.out⟩

theorem eshape_law (n : Nat) (w : World) (_ : n < 18446744073709551616) :
    Calls Try.prog 7 #[.int .u64 (n : Int)] w fun e w' => e = .returned (.bool true) ∧ Below w.heap.size w w' := by
  by_cases hn : 1099511627776 < n
  · exact eshape_err n w (fun V => gamma_e n hn V) (fun V => delta_e n hn V)
  · have hn' : n ≤ 1099511627776 := by omega
    have k40 := lg_lt_of n 41 (by omega)
    have k6 := lg_lt_of (lg n) 6 (by omega)
    have eX : ((gam n).length : Int) = ((lg n + 1 : Nat) : Int) + (lg n : Int) := by rw [gam_length]; omega
    have eY : ((del n).length : Int) = (((gam (lg n)).length : Nat) : Int) + (lg n : Int) := by rw [del_length, gam_length]; omega
    have l1 : (gam n).length ≤ 8192 := by rw [gam_length]; omega
    have l2 : (del n).length ≤ 8192 := by rw [del_length]; omega
    have gl : (gam (lg n)).length ≤ 100 := by rw [gam_length]; omega
    have hx : gam n = [] ++ (uc (lg n) ++ nb (n + 1) (lg n)) := rfl
    have hu : uR (gam n) 0 = (lg n, lg n + 1, 0) := by
      have := uR_uc [] (nb (n + 1) (lg n)) (lg n)
      rw [← hx] at this
      simpa using this
    have hy : gamR (del n) 0 = (lg n, (gam (lg n)).length, 0) := by
      have := gamR_gam [] (nb (n + 1) (lg n)) (lg n) (by omega)
      show gamR (gam (lg n) ++ nb (n + 1) (lg n)) 0 = _
      simpa using this
    have d1 : nb (n + 1) (lg n) = ((gam n).drop (lg n + 1)).take ((gam n).length - (lg n + 1)) := by
      have e : (gam n).drop (lg n + 1) = nb (n + 1) (lg n) := by
        have := List.drop_left (l₁ := uc (lg n)) (l₂ := nb (n + 1) (lg n))
        rwa [uc_length] at this
      rw [e, gam_length, List.take_of_length_le (by rw [nb_length]; omega)]
    have d2 : nb (n + 1) (lg n) = ((del n).drop (gam (lg n)).length).take ((del n).length - (gam (lg n)).length) := by
      have e : (del n).drop (gam (lg n)).length = nb (n + 1) (lg n) := List.drop_left
      rw [e, List.take_of_length_le (by rw [nb_length, del_length, gam_length]; omega)]
    refine eshape_ok n (lg n) (lg n + 1) (gam (lg n)).length (pack (gam n)).length (pack (del n)).length (pack (nb (n + 1) (lg n))).length (by omega) (by omega) (by omega) (pack (gam n)) (pack (del n)) (pack (nb (n + 1) (lg n))) ((nb (n + 1) (lg n)).length : Int) w ?_ ?_ ?_ ?_ ?_ ?_ ?_
    · rw [← eX]; exact fun V => gamma_ok n hn' _ rfl V
    · rw [← eY]; exact fun V => delta_ok n hn' _ rfl V
    · rw [← eX]; exact fun A c V h => read_to (s := (lg n, lg n + 1, 0)) (readU_l (gam n) l1 A c 0 (Nat.zero_le _) V h) hu
    · rw [← eY]; exact fun A c V h => read_to (s := (lg n, (gam (lg n)).length, 0)) (rgamma_l (del n) l2 A c 0 (Nat.zero_le _) V h) hy
    · rw [← eX]; exact fun A c V h => cut_l (gam n) _ l1 A c (lg n + 1) (gam n).length (by rw [gam_length]; omega) (Nat.le_refl _) d1 V h
    · rw [← eY]; exact fun A c V h => cut_l (del n) _ l2 A c (gam (lg n)).length (del n).length (by rw [del_length, gam_length]; omega) (Nat.le_refl _) d2 V h
    · exact fun A B c d V hA hB => same_l _ (by rw [nb_length]; omega) A B c d V hA hB
end Go.Proofs.Ytcacbekdghlncaa
