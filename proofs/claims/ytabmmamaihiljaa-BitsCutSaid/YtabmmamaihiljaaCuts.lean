/- The law BitsCut: for whatever bits and positions it returns true and leaves what it was handed as it was. -/
import Derived.Test.YtabmmamaihiljaaLists
namespace Go.Proofs.Ytabmmamaihiljaa
open Go.RowKit

theorem three_parts (l C : List Bool) (f t : Nat) (h1 : f ≤ t) (hC : C = (l.drop f).take (t - f)) : l = (l.take f ++ C) ++ (l.drop t).take (l.length - t) := by
  rw [hC, List.take_of_length_le (show (l.drop t).length ≤ l.length - t by rw [List.length_drop]; omega), List.append_assoc]
  have e : l.drop t = (l.drop f).drop (t - f) := by rw [List.drop_drop]; congr 1; omega
  rw [e, List.take_append_drop, List.take_append_drop]

theorem part_of_part (l C D : List Bool) (f t x y : Nat) (hC : C = (l.drop f).take (t - f)) (h4 : y ≤ t - f) (hD : D = (C.drop x).take (y - x)) : D = (l.drop (f + x)).take (f + y - (f + x)) := by
  rw [hD, hC, List.drop_take, List.drop_drop, List.take_take]
  congr 1
  omega

set_option maxRecDepth 100000 in
set_option maxHeartbeats 1000000 in
theorem cuts_err (len : Int) (A : Option Addr) (c : Nat) (bs : List Nat) (fr to x y : Int) (w : World) (hb : ∀ b ∈ bs, b < 256) (h : Rd w w.heap.size A bs) (e0 : Int) (he : cutE len bs fr to = e0) (h0 : e0 ≠ 0) :
    Calls Try.prog 7 #[.agg #[.int .i64 len, .slice A bs.length c], .int .i64 fr, .int .i64 to, .int .i64 x, .int .i64 y] w fun e w' => e = .returned (.bool true) ∧ Below w.heap.size w w' := by
  have HA := Lib.hid h; clear h
  have HE := Lib.hid he; clear he
  have t0 : (e0 != 0) = true := by simpa using h0
  have HE0 := Lib.hid h0; clear h0
  go_enter Try.func7, Try.ntmps7
  go_wp2_with fail
  refine (cut_e len A c bs fr to e0 hb HE.out HE0.out _ (HA.out.on (one_below w _))).mono ?_
  rintro e w1_ ⟨A1, c1, rfl, Rq, Bq⟩
  rw [World.size_alloc] at Bq
  have Sq : Below w.heap.size w w1_ := (one_below w _).trans (Bq.mono (by omega))
  have zb : w.heap.size < w1_.heap.size := by have := Bq.size; rw [World.size_alloc] at this; omega
  obtain ⟨pb, qb⟩ := box_at Bq
  replace HA : Hid (Rd w1_ w1_.heap.size A bs) := HA.out.on Sq
  have HB : Hid (Below w.heap.size w w1_) := Sq
  clear Bq Sq
  have HP := Lib.hid Rq; clear Rq
  go_wp2_with fail
  refine (begun_true _).mono ?_
  rintro e w2_ ⟨rfl, Bq⟩
  rw [World.size_alloc] at Bq
  have Sq : Below w1_.heap.size w1_ w2_ := (one_below w1_ _).trans (Bq.mono (by omega))
  have zp : w1_.heap.size < w2_.heap.size := by have := Bq.size; rw [World.size_alloc] at this; omega
  obtain ⟨pp, qp⟩ := box_at Bq
  replace pb := (Sq.cell (p := ⟨w.heap.size, 0, none⟩) zb).trans pb
  replace qb := (Sq.cell (p := ⟨w.heap.size, 1, none⟩) zb).trans qb
  replace zb : w.heap.size < w2_.heap.size := Nat.lt_of_lt_of_le zb Sq.size
  replace HA : Hid (Rd w2_ w2_.heap.size A bs) := HA.out.on Sq
  replace HP : Hid (Rd w2_ w2_.heap.size A1 (pack [])) := HP.out.on Sq
  replace HB : Hid (Below w.heap.size w w2_) := HB.out.trans (Sq.mono HB.out.size)
  clear Bq Sq
  go_wp2_with fail
  refine (same_0 A1 none c1 0 _ HP.out).mono ?_
  rintro e w3_ ⟨rfl, Bq⟩
  have Sq : Below w2_.heap.size w2_ w3_ := Bq
  replace pb := (Sq.cell (p := ⟨w.heap.size, 0, none⟩) zb).trans pb
  replace qb := (Sq.cell (p := ⟨w.heap.size, 1, none⟩) zb).trans qb
  replace zb : w.heap.size < w3_.heap.size := Nat.lt_of_lt_of_le zb Sq.size
  replace pp := (Sq.cell (p := ⟨w1_.heap.size, 0, none⟩) zp).trans pp
  replace qp := (Sq.cell (p := ⟨w1_.heap.size, 1, none⟩) zp).trans qp
  replace zp : w1_.heap.size < w3_.heap.size := Nat.lt_of_lt_of_le zp Sq.size
  replace HA : Hid (Rd w3_ w3_.heap.size A bs) := HA.out.on Sq
  replace HP : Hid (Rd w3_ w3_.heap.size A1 (pack [])) := HP.out.on Sq
  replace HB : Hid (Below w.heap.size w w3_) := HB.out.trans (Sq.mono HB.out.size)
  clear Bq Sq
  go_wp2
  go_ret
  exact ⟨rfl, HB.out⟩

set_option maxRecDepth 100000 in
set_option maxHeartbeats 2000000 in
theorem cuts_one (l C : List Bool) (hl : l.length ≤ 8192) (A : Option Addr) (c f t : Nat) (x y : Int) (w : World) (h : Rd w w.heap.size A (pack l)) (h1 : f ≤ t) (h2 : t ≤ l.length) (hC : C = (l.drop f).take (t - f)) (he : cutE (C.length : Int) (pack C) x y = 3) :
    Calls Try.prog 7 #[.agg #[.int .i64 (l.length : Int), .slice A (pack l).length c], .int .i64 (f : Int), .int .i64 (t : Int), .int .i64 x, .int .i64 y] w fun e w' => e = .returned (.bool true) ∧ Below w.heap.size w w' := by
  have HA := Lib.hid h; clear h
  have hCe : C.length = t - f := by rw [hC, List.length_take, List.length_drop]; omega
  have hHe : (l.take f).length = f := by rw [List.length_take]; omega
  have hTe : ((l.drop t).take (l.length - t)).length = l.length - t := by rw [List.length_take, List.length_drop]; omega
  have hl3 : l = (l.take f ++ C) ++ (l.drop t).take (l.length - t) := three_parts l C f t h1 hC
  obtain ⟨H, hH⟩ : ∃ H, H = l.take f := ⟨_, rfl⟩
  obtain ⟨T, hT⟩ : ∃ T, T = (l.drop t).take (l.length - t) := ⟨_, rfl⟩
  rw [← hH] at hHe hl3
  rw [← hT] at hTe hl3
  obtain ⟨X, hX⟩ : ∃ X, X = H ++ C := ⟨_, rfl⟩
  rw [← hX] at hl3
  have hXe : X.length = H.length + C.length := by rw [hX, List.length_append]
  have HC := Lib.hid hC; clear hC
  have HH := Lib.hid hH; clear hH
  have HT := Lib.hid hT; clear hT
  have HX := Lib.hid hX; clear hX
  have HL := Lib.hid hl3; clear hl3
  have g1 : C.length ≤ t - f := by omega
  have g2 : H.length ≤ f := by omega
  have g3 : T.length ≤ l.length - t := by omega
  have g4 : X.length ≤ H.length + C.length := by omega
  have g5 : X.length + T.length ≤ l.length := by omega
  have hCl : C.length ≤ 8192 := by omega
  clear hCe hHe hTe hXe
  have HE := Lib.hid he; clear he
  go_enter Try.func7, Try.ntmps7
  go_wp2_with fail
  refine (cut_l l C hl A c f t h1 h2 HC.out _ (HA.out.on (one_below w _))).mono ?_
  rintro e w1_ ⟨A1, c1, rfl, Rq, Bq⟩
  rw [World.size_alloc] at Bq
  have Sq : Below w.heap.size w w1_ := (one_below w _).trans (Bq.mono (by omega))
  have zb : w.heap.size < w1_.heap.size := by have := Bq.size; rw [World.size_alloc] at this; omega
  obtain ⟨pb, qb⟩ := box_at Bq
  replace HA : Hid (Rd w1_ w1_.heap.size A (pack l)) := HA.out.on Sq
  have HB : Hid (Below w.heap.size w w1_) := Sq
  clear Bq Sq
  have HP := Lib.hid Rq; clear Rq
  go_wp2_with fail
  refine (begun_true _).mono ?_
  rintro e w2_ ⟨rfl, Bq⟩
  rw [World.size_alloc] at Bq
  have Sq : Below w1_.heap.size w1_ w2_ := (one_below w1_ _).trans (Bq.mono (by omega))
  have zp : w1_.heap.size < w2_.heap.size := by have := Bq.size; rw [World.size_alloc] at this; omega
  obtain ⟨pp, qp⟩ := box_at Bq
  replace pb := (Sq.cell (p := ⟨w.heap.size, 0, none⟩) zb).trans pb
  replace qb := (Sq.cell (p := ⟨w.heap.size, 1, none⟩) zb).trans qb
  replace zb : w.heap.size < w2_.heap.size := Nat.lt_of_lt_of_le zb Sq.size
  replace HA : Hid (Rd w2_ w2_.heap.size A (pack l)) := HA.out.on Sq
  replace HP : Hid (Rd w2_ w2_.heap.size A1 (pack C)) := HP.out.on Sq
  replace HB : Hid (Below w.heap.size w w2_) := HB.out.trans (Sq.mono HB.out.size)
  clear Bq Sq
  go_wp2_with fail
  refine (cut_l0 l H hl A c f (by omega) HH.out _ HA.out).mono ?_
  rintro e w3_ ⟨A2, c2, rfl, Rq, Bq⟩
  have Sq : Below w2_.heap.size w2_ w3_ := Bq
  replace pb := (Sq.cell (p := ⟨w.heap.size, 0, none⟩) zb).trans pb
  replace qb := (Sq.cell (p := ⟨w.heap.size, 1, none⟩) zb).trans qb
  replace zb : w.heap.size < w3_.heap.size := Nat.lt_of_lt_of_le zb Sq.size
  replace pp := (Sq.cell (p := ⟨w1_.heap.size, 0, none⟩) zp).trans pp
  replace qp := (Sq.cell (p := ⟨w1_.heap.size, 1, none⟩) zp).trans qp
  replace zp : w1_.heap.size < w3_.heap.size := Nat.lt_of_lt_of_le zp Sq.size
  replace HA : Hid (Rd w3_ w3_.heap.size A (pack l)) := HA.out.on Sq
  replace HP : Hid (Rd w3_ w3_.heap.size A1 (pack C)) := HP.out.on Sq
  replace HB : Hid (Below w.heap.size w w3_) := HB.out.trans (Sq.mono HB.out.size)
  clear Bq Sq
  have HQ := Lib.hid Rq; clear Rq
  go_wp2_with fail
  refine (cut_l l T hl A c t l.length h2 (by omega) HT.out _ (HA.out.on (one_below w3_ _))).mono ?_
  rintro e w4_ ⟨A3, c3, rfl, Rq, Bq⟩
  rw [World.size_alloc] at Bq
  have Sq : Below w3_.heap.size w3_ w4_ := (one_below w3_ _).trans (Bq.mono (by omega))
  have zh : w3_.heap.size < w4_.heap.size := by have := Bq.size; rw [World.size_alloc] at this; omega
  obtain ⟨ph, qh⟩ := box_at Bq
  replace pb := (Sq.cell (p := ⟨w.heap.size, 0, none⟩) zb).trans pb
  replace qb := (Sq.cell (p := ⟨w.heap.size, 1, none⟩) zb).trans qb
  replace zb : w.heap.size < w4_.heap.size := Nat.lt_of_lt_of_le zb Sq.size
  replace pp := (Sq.cell (p := ⟨w1_.heap.size, 0, none⟩) zp).trans pp
  replace qp := (Sq.cell (p := ⟨w1_.heap.size, 1, none⟩) zp).trans qp
  replace zp : w1_.heap.size < w4_.heap.size := Nat.lt_of_lt_of_le zp Sq.size
  replace HA : Hid (Rd w4_ w4_.heap.size A (pack l)) := HA.out.on Sq
  replace HP : Hid (Rd w4_ w4_.heap.size A1 (pack C)) := HP.out.on Sq
  replace HQ : Hid (Rd w4_ w4_.heap.size A2 (pack H)) := HQ.out.on Sq
  replace HB : Hid (Below w.heap.size w w4_) := HB.out.trans (Sq.mono HB.out.size)
  clear Bq Sq
  have HR := Lib.hid Rq; clear Rq
  go_wp2_with fail
  refine (join_l H C X A2 A1 c2 c1 (by omega) HX.out _ (HQ.out.on (one_below w4_ _)) (HP.out.on (one_below w4_ _))).mono ?_
  rintro e w5_ ⟨A4, c4, rfl, Rq, Bq⟩
  rw [World.size_alloc] at Bq
  have Sq : Below w4_.heap.size w4_ w5_ := (one_below w4_ _).trans (Bq.mono (by omega))
  have zt : w4_.heap.size < w5_.heap.size := by have := Bq.size; rw [World.size_alloc] at this; omega
  obtain ⟨pt, qt⟩ := box_at Bq
  replace pb := (Sq.cell (p := ⟨w.heap.size, 0, none⟩) zb).trans pb
  replace qb := (Sq.cell (p := ⟨w.heap.size, 1, none⟩) zb).trans qb
  replace zb : w.heap.size < w5_.heap.size := Nat.lt_of_lt_of_le zb Sq.size
  replace pp := (Sq.cell (p := ⟨w1_.heap.size, 0, none⟩) zp).trans pp
  replace qp := (Sq.cell (p := ⟨w1_.heap.size, 1, none⟩) zp).trans qp
  replace zp : w1_.heap.size < w5_.heap.size := Nat.lt_of_lt_of_le zp Sq.size
  replace ph := (Sq.cell (p := ⟨w3_.heap.size, 0, none⟩) zh).trans ph
  replace qh := (Sq.cell (p := ⟨w3_.heap.size, 1, none⟩) zh).trans qh
  replace zh : w3_.heap.size < w5_.heap.size := Nat.lt_of_lt_of_le zh Sq.size
  replace HA : Hid (Rd w5_ w5_.heap.size A (pack l)) := HA.out.on Sq
  replace HP : Hid (Rd w5_ w5_.heap.size A1 (pack C)) := HP.out.on Sq
  replace HQ : Hid (Rd w5_ w5_.heap.size A2 (pack H)) := HQ.out.on Sq
  replace HR : Hid (Rd w5_ w5_.heap.size A3 (pack T)) := HR.out.on Sq
  replace HB : Hid (Below w.heap.size w w5_) := HB.out.trans (Sq.mono HB.out.size)
  clear Bq Sq
  have HS := Lib.hid Rq; clear Rq
  go_wp2_with fail
  refine (join_l X T l A4 A3 c4 c3 (by omega) HL.out _ (HS.out.on (one_below w5_ _)) (HR.out.on (one_below w5_ _))).mono ?_
  rintro e w6_ ⟨A5, c5, rfl, Rq, Bq⟩
  rw [World.size_alloc] at Bq
  have Sq : Below w5_.heap.size w5_ w6_ := (one_below w5_ _).trans (Bq.mono (by omega))
  have zx : w5_.heap.size < w6_.heap.size := by have := Bq.size; rw [World.size_alloc] at this; omega
  obtain ⟨px, qx⟩ := box_at Bq
  replace pb := (Sq.cell (p := ⟨w.heap.size, 0, none⟩) zb).trans pb
  replace qb := (Sq.cell (p := ⟨w.heap.size, 1, none⟩) zb).trans qb
  replace zb : w.heap.size < w6_.heap.size := Nat.lt_of_lt_of_le zb Sq.size
  replace pp := (Sq.cell (p := ⟨w1_.heap.size, 0, none⟩) zp).trans pp
  replace qp := (Sq.cell (p := ⟨w1_.heap.size, 1, none⟩) zp).trans qp
  replace zp : w1_.heap.size < w6_.heap.size := Nat.lt_of_lt_of_le zp Sq.size
  replace ph := (Sq.cell (p := ⟨w3_.heap.size, 0, none⟩) zh).trans ph
  replace qh := (Sq.cell (p := ⟨w3_.heap.size, 1, none⟩) zh).trans qh
  replace zh : w3_.heap.size < w6_.heap.size := Nat.lt_of_lt_of_le zh Sq.size
  replace pt := (Sq.cell (p := ⟨w4_.heap.size, 0, none⟩) zt).trans pt
  replace qt := (Sq.cell (p := ⟨w4_.heap.size, 1, none⟩) zt).trans qt
  replace zt : w4_.heap.size < w6_.heap.size := Nat.lt_of_lt_of_le zt Sq.size
  replace HA : Hid (Rd w6_ w6_.heap.size A (pack l)) := HA.out.on Sq
  replace HP : Hid (Rd w6_ w6_.heap.size A1 (pack C)) := HP.out.on Sq
  replace HQ : Hid (Rd w6_ w6_.heap.size A2 (pack H)) := HQ.out.on Sq
  replace HR : Hid (Rd w6_ w6_.heap.size A3 (pack T)) := HR.out.on Sq
  replace HS : Hid (Rd w6_ w6_.heap.size A4 (pack X)) := HS.out.on Sq
  replace HB : Hid (Below w.heap.size w w6_) := HB.out.trans (Sq.mono HB.out.size)
  clear Bq Sq
  have HU := Lib.hid Rq; clear Rq
  go_wp2_with fail
  refine (same_l l hl A5 A c5 c _ (HU.out.on (one_below w6_ _)) (HA.out.on (one_below w6_ _))).mono ?_
  rintro e w7_ ⟨rfl, Bq⟩
  rw [World.size_alloc] at Bq
  have Sq : Below w6_.heap.size w6_ w7_ := (one_below w6_ _).trans (Bq.mono (by omega))
  have zu : w6_.heap.size < w7_.heap.size := by have := Bq.size; rw [World.size_alloc] at this; omega
  obtain ⟨pu, qu⟩ := box_at Bq
  replace pb := (Sq.cell (p := ⟨w.heap.size, 0, none⟩) zb).trans pb
  replace qb := (Sq.cell (p := ⟨w.heap.size, 1, none⟩) zb).trans qb
  replace zb : w.heap.size < w7_.heap.size := Nat.lt_of_lt_of_le zb Sq.size
  replace pp := (Sq.cell (p := ⟨w1_.heap.size, 0, none⟩) zp).trans pp
  replace qp := (Sq.cell (p := ⟨w1_.heap.size, 1, none⟩) zp).trans qp
  replace zp : w1_.heap.size < w7_.heap.size := Nat.lt_of_lt_of_le zp Sq.size
  replace ph := (Sq.cell (p := ⟨w3_.heap.size, 0, none⟩) zh).trans ph
  replace qh := (Sq.cell (p := ⟨w3_.heap.size, 1, none⟩) zh).trans qh
  replace zh : w3_.heap.size < w7_.heap.size := Nat.lt_of_lt_of_le zh Sq.size
  replace pt := (Sq.cell (p := ⟨w4_.heap.size, 0, none⟩) zt).trans pt
  replace qt := (Sq.cell (p := ⟨w4_.heap.size, 1, none⟩) zt).trans qt
  replace zt : w4_.heap.size < w7_.heap.size := Nat.lt_of_lt_of_le zt Sq.size
  replace px := (Sq.cell (p := ⟨w5_.heap.size, 0, none⟩) zx).trans px
  replace qx := (Sq.cell (p := ⟨w5_.heap.size, 1, none⟩) zx).trans qx
  replace zx : w5_.heap.size < w7_.heap.size := Nat.lt_of_lt_of_le zx Sq.size
  replace HA : Hid (Rd w7_ w7_.heap.size A (pack l)) := HA.out.on Sq
  replace HP : Hid (Rd w7_ w7_.heap.size A1 (pack C)) := HP.out.on Sq
  replace HQ : Hid (Rd w7_ w7_.heap.size A2 (pack H)) := HQ.out.on Sq
  replace HR : Hid (Rd w7_ w7_.heap.size A3 (pack T)) := HR.out.on Sq
  replace HS : Hid (Rd w7_ w7_.heap.size A4 (pack X)) := HS.out.on Sq
  replace HU : Hid (Rd w7_ w7_.heap.size A5 (pack l)) := HU.out.on Sq
  replace HB : Hid (Below w.heap.size w w7_) := HB.out.trans (Sq.mono HB.out.size)
  clear Bq Sq
  go_wp2_with fail
  refine (cut_e (C.length : Int) A1 c1 (pack C) x y 3 (pack_lt C) HE.out (by decide) _ HP.out).mono ?_
  rintro e w8_ ⟨A6, c6, rfl, Rq, Bq⟩
  have Sq : Below w7_.heap.size w7_ w8_ := Bq
  replace pb := (Sq.cell (p := ⟨w.heap.size, 0, none⟩) zb).trans pb
  replace qb := (Sq.cell (p := ⟨w.heap.size, 1, none⟩) zb).trans qb
  replace zb : w.heap.size < w8_.heap.size := Nat.lt_of_lt_of_le zb Sq.size
  replace pp := (Sq.cell (p := ⟨w1_.heap.size, 0, none⟩) zp).trans pp
  replace qp := (Sq.cell (p := ⟨w1_.heap.size, 1, none⟩) zp).trans qp
  replace zp : w1_.heap.size < w8_.heap.size := Nat.lt_of_lt_of_le zp Sq.size
  replace ph := (Sq.cell (p := ⟨w3_.heap.size, 0, none⟩) zh).trans ph
  replace qh := (Sq.cell (p := ⟨w3_.heap.size, 1, none⟩) zh).trans qh
  replace zh : w3_.heap.size < w8_.heap.size := Nat.lt_of_lt_of_le zh Sq.size
  replace pt := (Sq.cell (p := ⟨w4_.heap.size, 0, none⟩) zt).trans pt
  replace qt := (Sq.cell (p := ⟨w4_.heap.size, 1, none⟩) zt).trans qt
  replace zt : w4_.heap.size < w8_.heap.size := Nat.lt_of_lt_of_le zt Sq.size
  replace px := (Sq.cell (p := ⟨w5_.heap.size, 0, none⟩) zx).trans px
  replace qx := (Sq.cell (p := ⟨w5_.heap.size, 1, none⟩) zx).trans qx
  replace zx : w5_.heap.size < w8_.heap.size := Nat.lt_of_lt_of_le zx Sq.size
  replace pu := (Sq.cell (p := ⟨w6_.heap.size, 0, none⟩) zu).trans pu
  replace qu := (Sq.cell (p := ⟨w6_.heap.size, 1, none⟩) zu).trans qu
  replace zu : w6_.heap.size < w8_.heap.size := Nat.lt_of_lt_of_le zu Sq.size
  replace HA : Hid (Rd w8_ w8_.heap.size A (pack l)) := HA.out.on Sq
  replace HP : Hid (Rd w8_ w8_.heap.size A1 (pack C)) := HP.out.on Sq
  replace HQ : Hid (Rd w8_ w8_.heap.size A2 (pack H)) := HQ.out.on Sq
  replace HR : Hid (Rd w8_ w8_.heap.size A3 (pack T)) := HR.out.on Sq
  replace HS : Hid (Rd w8_ w8_.heap.size A4 (pack X)) := HS.out.on Sq
  replace HU : Hid (Rd w8_ w8_.heap.size A5 (pack l)) := HU.out.on Sq
  replace HB : Hid (Below w.heap.size w w8_) := HB.out.trans (Sq.mono HB.out.size)
  clear Bq Sq
  have HD := Lib.hid Rq; clear Rq
  go_wp2
  go_ret
  exact ⟨rfl, HB.out.alloc HB.out.size _⟩

set_option maxRecDepth 100000 in
set_option maxHeartbeats 2000000 in
theorem cuts_two (l C D : List Bool) (hl : l.length ≤ 8192) (A : Option Addr) (c f t x y : Nat) (w : World) (h : Rd w w.heap.size A (pack l)) (h1 : f ≤ t) (h2 : t ≤ l.length) (hC : C = (l.drop f).take (t - f)) (h3 : x ≤ y) (h4 : y ≤ C.length) (hD : D = (C.drop x).take (y - x)) :
    Calls Try.prog 7 #[.agg #[.int .i64 (l.length : Int), .slice A (pack l).length c], .int .i64 (f : Int), .int .i64 (t : Int), .int .i64 (x : Int), .int .i64 (y : Int)] w fun e w' => e = .returned (.bool true) ∧ Below w.heap.size w w' := by
  have HA := Lib.hid h; clear h
  have hCe : C.length = t - f := by rw [hC, List.length_take, List.length_drop]; omega
  have hHe : (l.take f).length = f := by rw [List.length_take]; omega
  have hTe : ((l.drop t).take (l.length - t)).length = l.length - t := by rw [List.length_take, List.length_drop]; omega
  have hl3 : l = (l.take f ++ C) ++ (l.drop t).take (l.length - t) := three_parts l C f t h1 hC
  obtain ⟨H, hH⟩ : ∃ H, H = l.take f := ⟨_, rfl⟩
  obtain ⟨T, hT⟩ : ∃ T, T = (l.drop t).take (l.length - t) := ⟨_, rfl⟩
  rw [← hH] at hHe hl3
  rw [← hT] at hTe hl3
  obtain ⟨X, hX⟩ : ∃ X, X = H ++ C := ⟨_, rfl⟩
  rw [← hX] at hl3
  have hXe : X.length = H.length + C.length := by rw [hX, List.length_append]
  have HD1 : Hid (D = (l.drop (f + x)).take (f + y - (f + x))) := part_of_part l C D f t x y hC (by omega) hD
  have hDl : D.length ≤ 8192 := by rw [hD, List.length_take]; omega
  have HD0 := Lib.hid hD; clear hD
  have HC := Lib.hid hC; clear hC
  have HH := Lib.hid hH; clear hH
  have HT := Lib.hid hT; clear hT
  have HX := Lib.hid hX; clear hX
  have HL := Lib.hid hl3; clear hl3
  have g1 : C.length ≤ t - f := by omega
  have g2 : H.length ≤ f := by omega
  have g3 : T.length ≤ l.length - t := by omega
  have g4 : X.length ≤ H.length + C.length := by omega
  have g5 : X.length + T.length ≤ l.length := by omega
  have hCl : C.length ≤ 8192 := by omega
  clear hCe hHe hTe hXe
  have HS1 : Hid ((f : Int) + (x : Int) = ((f + x : Nat) : Int)) := by show _ = _; omega
  have HS2 : Hid ((f : Int) + (y : Int) = ((f + y : Nat) : Int)) := by show _ = _; omega
  go_enter Try.func7, Try.ntmps7
  go_wp2_with fail
  refine (cut_l l C hl A c f t h1 h2 HC.out _ (HA.out.on (one_below w _))).mono ?_
  rintro e w1_ ⟨A1, c1, rfl, Rq, Bq⟩
  rw [World.size_alloc] at Bq
  have Sq : Below w.heap.size w w1_ := (one_below w _).trans (Bq.mono (by omega))
  have zb : w.heap.size < w1_.heap.size := by have := Bq.size; rw [World.size_alloc] at this; omega
  obtain ⟨pb, qb⟩ := box_at Bq
  replace HA : Hid (Rd w1_ w1_.heap.size A (pack l)) := HA.out.on Sq
  have HB : Hid (Below w.heap.size w w1_) := Sq
  clear Bq Sq
  have HP := Lib.hid Rq; clear Rq
  go_wp2_with fail
  refine (begun_true _).mono ?_
  rintro e w2_ ⟨rfl, Bq⟩
  rw [World.size_alloc] at Bq
  have Sq : Below w1_.heap.size w1_ w2_ := (one_below w1_ _).trans (Bq.mono (by omega))
  have zp : w1_.heap.size < w2_.heap.size := by have := Bq.size; rw [World.size_alloc] at this; omega
  obtain ⟨pp, qp⟩ := box_at Bq
  replace pb := (Sq.cell (p := ⟨w.heap.size, 0, none⟩) zb).trans pb
  replace qb := (Sq.cell (p := ⟨w.heap.size, 1, none⟩) zb).trans qb
  replace zb : w.heap.size < w2_.heap.size := Nat.lt_of_lt_of_le zb Sq.size
  replace HA : Hid (Rd w2_ w2_.heap.size A (pack l)) := HA.out.on Sq
  replace HP : Hid (Rd w2_ w2_.heap.size A1 (pack C)) := HP.out.on Sq
  replace HB : Hid (Below w.heap.size w w2_) := HB.out.trans (Sq.mono HB.out.size)
  clear Bq Sq
  go_wp2_with fail
  refine (cut_l0 l H hl A c f (by omega) HH.out _ HA.out).mono ?_
  rintro e w3_ ⟨A2, c2, rfl, Rq, Bq⟩
  have Sq : Below w2_.heap.size w2_ w3_ := Bq
  replace pb := (Sq.cell (p := ⟨w.heap.size, 0, none⟩) zb).trans pb
  replace qb := (Sq.cell (p := ⟨w.heap.size, 1, none⟩) zb).trans qb
  replace zb : w.heap.size < w3_.heap.size := Nat.lt_of_lt_of_le zb Sq.size
  replace pp := (Sq.cell (p := ⟨w1_.heap.size, 0, none⟩) zp).trans pp
  replace qp := (Sq.cell (p := ⟨w1_.heap.size, 1, none⟩) zp).trans qp
  replace zp : w1_.heap.size < w3_.heap.size := Nat.lt_of_lt_of_le zp Sq.size
  replace HA : Hid (Rd w3_ w3_.heap.size A (pack l)) := HA.out.on Sq
  replace HP : Hid (Rd w3_ w3_.heap.size A1 (pack C)) := HP.out.on Sq
  replace HB : Hid (Below w.heap.size w w3_) := HB.out.trans (Sq.mono HB.out.size)
  clear Bq Sq
  have HQ := Lib.hid Rq; clear Rq
  go_wp2_with fail
  refine (cut_l l T hl A c t l.length h2 (by omega) HT.out _ (HA.out.on (one_below w3_ _))).mono ?_
  rintro e w4_ ⟨A3, c3, rfl, Rq, Bq⟩
  rw [World.size_alloc] at Bq
  have Sq : Below w3_.heap.size w3_ w4_ := (one_below w3_ _).trans (Bq.mono (by omega))
  have zh : w3_.heap.size < w4_.heap.size := by have := Bq.size; rw [World.size_alloc] at this; omega
  obtain ⟨ph, qh⟩ := box_at Bq
  replace pb := (Sq.cell (p := ⟨w.heap.size, 0, none⟩) zb).trans pb
  replace qb := (Sq.cell (p := ⟨w.heap.size, 1, none⟩) zb).trans qb
  replace zb : w.heap.size < w4_.heap.size := Nat.lt_of_lt_of_le zb Sq.size
  replace pp := (Sq.cell (p := ⟨w1_.heap.size, 0, none⟩) zp).trans pp
  replace qp := (Sq.cell (p := ⟨w1_.heap.size, 1, none⟩) zp).trans qp
  replace zp : w1_.heap.size < w4_.heap.size := Nat.lt_of_lt_of_le zp Sq.size
  replace HA : Hid (Rd w4_ w4_.heap.size A (pack l)) := HA.out.on Sq
  replace HP : Hid (Rd w4_ w4_.heap.size A1 (pack C)) := HP.out.on Sq
  replace HQ : Hid (Rd w4_ w4_.heap.size A2 (pack H)) := HQ.out.on Sq
  replace HB : Hid (Below w.heap.size w w4_) := HB.out.trans (Sq.mono HB.out.size)
  clear Bq Sq
  have HR := Lib.hid Rq; clear Rq
  go_wp2_with fail
  refine (join_l H C X A2 A1 c2 c1 (by omega) HX.out _ (HQ.out.on (one_below w4_ _)) (HP.out.on (one_below w4_ _))).mono ?_
  rintro e w5_ ⟨A4, c4, rfl, Rq, Bq⟩
  rw [World.size_alloc] at Bq
  have Sq : Below w4_.heap.size w4_ w5_ := (one_below w4_ _).trans (Bq.mono (by omega))
  have zt : w4_.heap.size < w5_.heap.size := by have := Bq.size; rw [World.size_alloc] at this; omega
  obtain ⟨pt, qt⟩ := box_at Bq
  replace pb := (Sq.cell (p := ⟨w.heap.size, 0, none⟩) zb).trans pb
  replace qb := (Sq.cell (p := ⟨w.heap.size, 1, none⟩) zb).trans qb
  replace zb : w.heap.size < w5_.heap.size := Nat.lt_of_lt_of_le zb Sq.size
  replace pp := (Sq.cell (p := ⟨w1_.heap.size, 0, none⟩) zp).trans pp
  replace qp := (Sq.cell (p := ⟨w1_.heap.size, 1, none⟩) zp).trans qp
  replace zp : w1_.heap.size < w5_.heap.size := Nat.lt_of_lt_of_le zp Sq.size
  replace ph := (Sq.cell (p := ⟨w3_.heap.size, 0, none⟩) zh).trans ph
  replace qh := (Sq.cell (p := ⟨w3_.heap.size, 1, none⟩) zh).trans qh
  replace zh : w3_.heap.size < w5_.heap.size := Nat.lt_of_lt_of_le zh Sq.size
  replace HA : Hid (Rd w5_ w5_.heap.size A (pack l)) := HA.out.on Sq
  replace HP : Hid (Rd w5_ w5_.heap.size A1 (pack C)) := HP.out.on Sq
  replace HQ : Hid (Rd w5_ w5_.heap.size A2 (pack H)) := HQ.out.on Sq
  replace HR : Hid (Rd w5_ w5_.heap.size A3 (pack T)) := HR.out.on Sq
  replace HB : Hid (Below w.heap.size w w5_) := HB.out.trans (Sq.mono HB.out.size)
  clear Bq Sq
  have HS := Lib.hid Rq; clear Rq
  go_wp2_with fail
  refine (join_l X T l A4 A3 c4 c3 (by omega) HL.out _ (HS.out.on (one_below w5_ _)) (HR.out.on (one_below w5_ _))).mono ?_
  rintro e w6_ ⟨A5, c5, rfl, Rq, Bq⟩
  rw [World.size_alloc] at Bq
  have Sq : Below w5_.heap.size w5_ w6_ := (one_below w5_ _).trans (Bq.mono (by omega))
  have zx : w5_.heap.size < w6_.heap.size := by have := Bq.size; rw [World.size_alloc] at this; omega
  obtain ⟨px, qx⟩ := box_at Bq
  replace pb := (Sq.cell (p := ⟨w.heap.size, 0, none⟩) zb).trans pb
  replace qb := (Sq.cell (p := ⟨w.heap.size, 1, none⟩) zb).trans qb
  replace zb : w.heap.size < w6_.heap.size := Nat.lt_of_lt_of_le zb Sq.size
  replace pp := (Sq.cell (p := ⟨w1_.heap.size, 0, none⟩) zp).trans pp
  replace qp := (Sq.cell (p := ⟨w1_.heap.size, 1, none⟩) zp).trans qp
  replace zp : w1_.heap.size < w6_.heap.size := Nat.lt_of_lt_of_le zp Sq.size
  replace ph := (Sq.cell (p := ⟨w3_.heap.size, 0, none⟩) zh).trans ph
  replace qh := (Sq.cell (p := ⟨w3_.heap.size, 1, none⟩) zh).trans qh
  replace zh : w3_.heap.size < w6_.heap.size := Nat.lt_of_lt_of_le zh Sq.size
  replace pt := (Sq.cell (p := ⟨w4_.heap.size, 0, none⟩) zt).trans pt
  replace qt := (Sq.cell (p := ⟨w4_.heap.size, 1, none⟩) zt).trans qt
  replace zt : w4_.heap.size < w6_.heap.size := Nat.lt_of_lt_of_le zt Sq.size
  replace HA : Hid (Rd w6_ w6_.heap.size A (pack l)) := HA.out.on Sq
  replace HP : Hid (Rd w6_ w6_.heap.size A1 (pack C)) := HP.out.on Sq
  replace HQ : Hid (Rd w6_ w6_.heap.size A2 (pack H)) := HQ.out.on Sq
  replace HR : Hid (Rd w6_ w6_.heap.size A3 (pack T)) := HR.out.on Sq
  replace HS : Hid (Rd w6_ w6_.heap.size A4 (pack X)) := HS.out.on Sq
  replace HB : Hid (Below w.heap.size w w6_) := HB.out.trans (Sq.mono HB.out.size)
  clear Bq Sq
  have HU := Lib.hid Rq; clear Rq
  go_wp2_with fail
  refine (same_l l hl A5 A c5 c _ (HU.out.on (one_below w6_ _)) (HA.out.on (one_below w6_ _))).mono ?_
  rintro e w7_ ⟨rfl, Bq⟩
  rw [World.size_alloc] at Bq
  have Sq : Below w6_.heap.size w6_ w7_ := (one_below w6_ _).trans (Bq.mono (by omega))
  have zu : w6_.heap.size < w7_.heap.size := by have := Bq.size; rw [World.size_alloc] at this; omega
  obtain ⟨pu, qu⟩ := box_at Bq
  replace pb := (Sq.cell (p := ⟨w.heap.size, 0, none⟩) zb).trans pb
  replace qb := (Sq.cell (p := ⟨w.heap.size, 1, none⟩) zb).trans qb
  replace zb : w.heap.size < w7_.heap.size := Nat.lt_of_lt_of_le zb Sq.size
  replace pp := (Sq.cell (p := ⟨w1_.heap.size, 0, none⟩) zp).trans pp
  replace qp := (Sq.cell (p := ⟨w1_.heap.size, 1, none⟩) zp).trans qp
  replace zp : w1_.heap.size < w7_.heap.size := Nat.lt_of_lt_of_le zp Sq.size
  replace ph := (Sq.cell (p := ⟨w3_.heap.size, 0, none⟩) zh).trans ph
  replace qh := (Sq.cell (p := ⟨w3_.heap.size, 1, none⟩) zh).trans qh
  replace zh : w3_.heap.size < w7_.heap.size := Nat.lt_of_lt_of_le zh Sq.size
  replace pt := (Sq.cell (p := ⟨w4_.heap.size, 0, none⟩) zt).trans pt
  replace qt := (Sq.cell (p := ⟨w4_.heap.size, 1, none⟩) zt).trans qt
  replace zt : w4_.heap.size < w7_.heap.size := Nat.lt_of_lt_of_le zt Sq.size
  replace px := (Sq.cell (p := ⟨w5_.heap.size, 0, none⟩) zx).trans px
  replace qx := (Sq.cell (p := ⟨w5_.heap.size, 1, none⟩) zx).trans qx
  replace zx : w5_.heap.size < w7_.heap.size := Nat.lt_of_lt_of_le zx Sq.size
  replace HA : Hid (Rd w7_ w7_.heap.size A (pack l)) := HA.out.on Sq
  replace HP : Hid (Rd w7_ w7_.heap.size A1 (pack C)) := HP.out.on Sq
  replace HQ : Hid (Rd w7_ w7_.heap.size A2 (pack H)) := HQ.out.on Sq
  replace HR : Hid (Rd w7_ w7_.heap.size A3 (pack T)) := HR.out.on Sq
  replace HS : Hid (Rd w7_ w7_.heap.size A4 (pack X)) := HS.out.on Sq
  replace HU : Hid (Rd w7_ w7_.heap.size A5 (pack l)) := HU.out.on Sq
  replace HB : Hid (Below w.heap.size w w7_) := HB.out.trans (Sq.mono HB.out.size)
  clear Bq Sq
  go_wp2_with fail
  refine (cut_l C D hCl A1 c1 x y h3 h4 HD0.out _ HP.out).mono ?_
  rintro e w8_ ⟨A6, c6, rfl, Rq, Bq⟩
  have Sq : Below w7_.heap.size w7_ w8_ := Bq
  replace pb := (Sq.cell (p := ⟨w.heap.size, 0, none⟩) zb).trans pb
  replace qb := (Sq.cell (p := ⟨w.heap.size, 1, none⟩) zb).trans qb
  replace zb : w.heap.size < w8_.heap.size := Nat.lt_of_lt_of_le zb Sq.size
  replace pp := (Sq.cell (p := ⟨w1_.heap.size, 0, none⟩) zp).trans pp
  replace qp := (Sq.cell (p := ⟨w1_.heap.size, 1, none⟩) zp).trans qp
  replace zp : w1_.heap.size < w8_.heap.size := Nat.lt_of_lt_of_le zp Sq.size
  replace ph := (Sq.cell (p := ⟨w3_.heap.size, 0, none⟩) zh).trans ph
  replace qh := (Sq.cell (p := ⟨w3_.heap.size, 1, none⟩) zh).trans qh
  replace zh : w3_.heap.size < w8_.heap.size := Nat.lt_of_lt_of_le zh Sq.size
  replace pt := (Sq.cell (p := ⟨w4_.heap.size, 0, none⟩) zt).trans pt
  replace qt := (Sq.cell (p := ⟨w4_.heap.size, 1, none⟩) zt).trans qt
  replace zt : w4_.heap.size < w8_.heap.size := Nat.lt_of_lt_of_le zt Sq.size
  replace px := (Sq.cell (p := ⟨w5_.heap.size, 0, none⟩) zx).trans px
  replace qx := (Sq.cell (p := ⟨w5_.heap.size, 1, none⟩) zx).trans qx
  replace zx : w5_.heap.size < w8_.heap.size := Nat.lt_of_lt_of_le zx Sq.size
  replace pu := (Sq.cell (p := ⟨w6_.heap.size, 0, none⟩) zu).trans pu
  replace qu := (Sq.cell (p := ⟨w6_.heap.size, 1, none⟩) zu).trans qu
  replace zu : w6_.heap.size < w8_.heap.size := Nat.lt_of_lt_of_le zu Sq.size
  replace HA : Hid (Rd w8_ w8_.heap.size A (pack l)) := HA.out.on Sq
  replace HP : Hid (Rd w8_ w8_.heap.size A1 (pack C)) := HP.out.on Sq
  replace HQ : Hid (Rd w8_ w8_.heap.size A2 (pack H)) := HQ.out.on Sq
  replace HR : Hid (Rd w8_ w8_.heap.size A3 (pack T)) := HR.out.on Sq
  replace HS : Hid (Rd w8_ w8_.heap.size A4 (pack X)) := HS.out.on Sq
  replace HU : Hid (Rd w8_ w8_.heap.size A5 (pack l)) := HU.out.on Sq
  replace HB : Hid (Below w.heap.size w w8_) := HB.out.trans (Sq.mono HB.out.size)
  clear Bq Sq
  have HD := Lib.hid Rq; clear Rq
  go_wp2_with fail
  rw [HS1.out, HS2.out]
  refine (cut_l l D hl A c (f + x) (f + y) (by omega) (by omega) HD1.out _ (HA.out.on (one_below w8_ _))).mono ?_
  rintro e w9_ ⟨A7, c7, rfl, Rq, Bq⟩
  rw [World.size_alloc] at Bq
  have Sq : Below w8_.heap.size w8_ w9_ := (one_below w8_ _).trans (Bq.mono (by omega))
  have zd : w8_.heap.size < w9_.heap.size := by have := Bq.size; rw [World.size_alloc] at this; omega
  obtain ⟨pd, qd⟩ := box_at Bq
  replace pb := (Sq.cell (p := ⟨w.heap.size, 0, none⟩) zb).trans pb
  replace qb := (Sq.cell (p := ⟨w.heap.size, 1, none⟩) zb).trans qb
  replace zb : w.heap.size < w9_.heap.size := Nat.lt_of_lt_of_le zb Sq.size
  replace pp := (Sq.cell (p := ⟨w1_.heap.size, 0, none⟩) zp).trans pp
  replace qp := (Sq.cell (p := ⟨w1_.heap.size, 1, none⟩) zp).trans qp
  replace zp : w1_.heap.size < w9_.heap.size := Nat.lt_of_lt_of_le zp Sq.size
  replace ph := (Sq.cell (p := ⟨w3_.heap.size, 0, none⟩) zh).trans ph
  replace qh := (Sq.cell (p := ⟨w3_.heap.size, 1, none⟩) zh).trans qh
  replace zh : w3_.heap.size < w9_.heap.size := Nat.lt_of_lt_of_le zh Sq.size
  replace pt := (Sq.cell (p := ⟨w4_.heap.size, 0, none⟩) zt).trans pt
  replace qt := (Sq.cell (p := ⟨w4_.heap.size, 1, none⟩) zt).trans qt
  replace zt : w4_.heap.size < w9_.heap.size := Nat.lt_of_lt_of_le zt Sq.size
  replace px := (Sq.cell (p := ⟨w5_.heap.size, 0, none⟩) zx).trans px
  replace qx := (Sq.cell (p := ⟨w5_.heap.size, 1, none⟩) zx).trans qx
  replace zx : w5_.heap.size < w9_.heap.size := Nat.lt_of_lt_of_le zx Sq.size
  replace pu := (Sq.cell (p := ⟨w6_.heap.size, 0, none⟩) zu).trans pu
  replace qu := (Sq.cell (p := ⟨w6_.heap.size, 1, none⟩) zu).trans qu
  replace zu : w6_.heap.size < w9_.heap.size := Nat.lt_of_lt_of_le zu Sq.size
  replace HA : Hid (Rd w9_ w9_.heap.size A (pack l)) := HA.out.on Sq
  replace HP : Hid (Rd w9_ w9_.heap.size A1 (pack C)) := HP.out.on Sq
  replace HQ : Hid (Rd w9_ w9_.heap.size A2 (pack H)) := HQ.out.on Sq
  replace HR : Hid (Rd w9_ w9_.heap.size A3 (pack T)) := HR.out.on Sq
  replace HS : Hid (Rd w9_ w9_.heap.size A4 (pack X)) := HS.out.on Sq
  replace HU : Hid (Rd w9_ w9_.heap.size A5 (pack l)) := HU.out.on Sq
  replace HD : Hid (Rd w9_ w9_.heap.size A6 (pack D)) := HD.out.on Sq
  replace HB : Hid (Below w.heap.size w w9_) := HB.out.trans (Sq.mono HB.out.size)
  clear Bq Sq
  have HK := Lib.hid Rq; clear Rq
  go_wp2_with fail
  refine (same_l D hDl A6 A7 c6 c7 _ (HD.out.on (one_below w9_ _)) (HK.out.on (one_below w9_ _))).mono ?_
  rintro e w10_ ⟨rfl, Bq⟩
  rw [World.size_alloc] at Bq
  have Sq : Below w9_.heap.size w9_ w10_ := (one_below w9_ _).trans (Bq.mono (by omega))
  have zk : w9_.heap.size < w10_.heap.size := by have := Bq.size; rw [World.size_alloc] at this; omega
  obtain ⟨pk, qk⟩ := box_at Bq
  replace pb := (Sq.cell (p := ⟨w.heap.size, 0, none⟩) zb).trans pb
  replace qb := (Sq.cell (p := ⟨w.heap.size, 1, none⟩) zb).trans qb
  replace zb : w.heap.size < w10_.heap.size := Nat.lt_of_lt_of_le zb Sq.size
  replace pp := (Sq.cell (p := ⟨w1_.heap.size, 0, none⟩) zp).trans pp
  replace qp := (Sq.cell (p := ⟨w1_.heap.size, 1, none⟩) zp).trans qp
  replace zp : w1_.heap.size < w10_.heap.size := Nat.lt_of_lt_of_le zp Sq.size
  replace ph := (Sq.cell (p := ⟨w3_.heap.size, 0, none⟩) zh).trans ph
  replace qh := (Sq.cell (p := ⟨w3_.heap.size, 1, none⟩) zh).trans qh
  replace zh : w3_.heap.size < w10_.heap.size := Nat.lt_of_lt_of_le zh Sq.size
  replace pt := (Sq.cell (p := ⟨w4_.heap.size, 0, none⟩) zt).trans pt
  replace qt := (Sq.cell (p := ⟨w4_.heap.size, 1, none⟩) zt).trans qt
  replace zt : w4_.heap.size < w10_.heap.size := Nat.lt_of_lt_of_le zt Sq.size
  replace px := (Sq.cell (p := ⟨w5_.heap.size, 0, none⟩) zx).trans px
  replace qx := (Sq.cell (p := ⟨w5_.heap.size, 1, none⟩) zx).trans qx
  replace zx : w5_.heap.size < w10_.heap.size := Nat.lt_of_lt_of_le zx Sq.size
  replace pu := (Sq.cell (p := ⟨w6_.heap.size, 0, none⟩) zu).trans pu
  replace qu := (Sq.cell (p := ⟨w6_.heap.size, 1, none⟩) zu).trans qu
  replace zu : w6_.heap.size < w10_.heap.size := Nat.lt_of_lt_of_le zu Sq.size
  replace pd := (Sq.cell (p := ⟨w8_.heap.size, 0, none⟩) zd).trans pd
  replace qd := (Sq.cell (p := ⟨w8_.heap.size, 1, none⟩) zd).trans qd
  replace zd : w8_.heap.size < w10_.heap.size := Nat.lt_of_lt_of_le zd Sq.size
  replace HA : Hid (Rd w10_ w10_.heap.size A (pack l)) := HA.out.on Sq
  replace HP : Hid (Rd w10_ w10_.heap.size A1 (pack C)) := HP.out.on Sq
  replace HQ : Hid (Rd w10_ w10_.heap.size A2 (pack H)) := HQ.out.on Sq
  replace HR : Hid (Rd w10_ w10_.heap.size A3 (pack T)) := HR.out.on Sq
  replace HS : Hid (Rd w10_ w10_.heap.size A4 (pack X)) := HS.out.on Sq
  replace HU : Hid (Rd w10_ w10_.heap.size A5 (pack l)) := HU.out.on Sq
  replace HD : Hid (Rd w10_ w10_.heap.size A6 (pack D)) := HD.out.on Sq
  replace HK : Hid (Rd w10_ w10_.heap.size A7 (pack D)) := HK.out.on Sq
  replace HB : Hid (Below w.heap.size w w10_) := HB.out.trans (Sq.mono HB.out.size)
  clear Bq Sq
  go_wp2
  go_ret
  exact ⟨rfl, HB.out⟩

theorem cuts_law (len : Int) (A : Option Addr) (c : Nat) (bs : List Nat) (fr to x y : Int) (w : World) (hb : ∀ b ∈ bs, b < 256) (h : Rd w w.heap.size A bs) (_ : -9223372036854775808 ≤ fr ∧ fr ≤ 9223372036854775807) (_ : -9223372036854775808 ≤ to ∧ to ≤ 9223372036854775807) (_ : -9223372036854775808 ≤ x ∧ x ≤ 9223372036854775807) (_ : -9223372036854775808 ≤ y ∧ y ≤ 9223372036854775807) :
    Calls Try.prog 7 #[.agg #[.int .i64 len, .slice A bs.length c], .int .i64 fr, .int .i64 to, .int .i64 x, .int .i64 y] w fun e w' => e = .returned (.bool true) ∧ Below w.heap.size w w' := by
  by_cases he : cutE len bs fr to = 0
  · obtain ⟨l, f, t, rfl, rfl, rfl, rfl, h1, h2, hl⟩ := cutE_zero len bs fr to hb he
    obtain ⟨C, hC⟩ : ∃ C, C = (l.drop f).take (t - f) := ⟨_, rfl⟩
    have hCl : C.length ≤ 8192 := by rw [hC, List.length_take, List.length_drop]; omega
    by_cases hw : x < 0 ∨ y < x ∨ (C.length : Int) < y
    · refine cuts_one l C hl A c f t x y w h h1 h2 hC ?_
      unfold cutE
      rw [chk_pack C hCl, if_neg (by decide), if_pos hw]
    · obtain ⟨u, rfl⟩ := Int.eq_ofNat_of_zero_le (show 0 ≤ x by omega)
      obtain ⟨v, rfl⟩ := Int.eq_ofNat_of_zero_le (show 0 ≤ y by omega)
      exact cuts_two l C _ hl A c f t u v w h h1 h2 hC (by omega) (by omega) rfl
  · exact cuts_err len A c bs fr to x y w hb h _ rfl he
end Go.Proofs.Ytabmmamaihiljaa
