/- The law GolombApart: for whatever numbers it returns true. -/
import Derived.Test.YtcacbekdghlncaaGBegun
import Derived.Test.YtcacbekdghlncaaGRises
import Derived.Test.YtcacbekdghlncaaEApart
import Derived.Test.YtcacbekdghlncaaOpen
namespace Go.Proofs.Ytcacbekdghlncaa
set_option maxRecDepth 100000
set_option linter.unusedVariables false
open Go.RowKit

theorem two_boxes {w V : World} {a b c d : Value} (h : Below ((w.alloc (.cells #[a, b] 25)).alloc (.cells #[c, d] 25)).heap.size ((w.alloc (.cells #[a, b] 25)).alloc (.cells #[c, d] 25)) V) :
    (V.cell? ⟨w.heap.size, 0, none⟩ = some a ∧ V.cell? ⟨w.heap.size, 1, none⟩ = some b) ∧ (V.cell? ⟨w.heap.size + 1, 0, none⟩ = some c ∧ V.cell? ⟨w.heap.size + 1, 1, none⟩ = some d) ∧ w.heap.size + 1 < V.heap.size ∧ Below w.heap.size w V := by
  have hs := h.size
  have e : ((w.alloc (.cells #[a, b] 25)).alloc (.cells #[c, d] 25)).heap.size = w.heap.size + 2 := by rw [World.size_alloc, World.size_alloc]
  rw [e] at h hs
  have hx : V.heap[w.heap.size]? = some (.cells #[a, b] 25 (0, 0)) := (h.block _ (by omega)).trans ((Below.heap_alloc _ _ _ (by simp)).trans (World.alloc_heap_new w _))
  have hy : V.heap[w.heap.size + 1]? = some (.cells #[c, d] 25 (0, 0)) := (h.block _ (by omega)).trans (by have := World.alloc_heap_new (w.alloc (.cells #[a, b] 25)) (.cells #[c, d] 25); rwa [World.size_alloc] at this)
  exact ⟨⟨(blk_cells hx).1, (blk_cells hx).2.1⟩, ⟨(blk_cells hy).1, (blk_cells hy).2.1⟩, by omega, (up2 w _ _).trans (h.mono (by omega))⟩

set_option maxHeartbeats 600000 in
theorem apart_e (lX lY nX nY c d : Nat) (A B : Option Addr) (e0 f0 : Int) (h0 : e0 ≠ 0) (w : World) : Calls Try.prog 52 #[.agg #[.int .i64 (lX : Int), .slice A nX c], .agg #[.int .i64 (lY : Int), .slice B nY d], .int .i64 e0, .int .i64 f0] w fun e w' => e = .returned (.bool true) ∧ Below w.heap.size w w' := by
  have t0 : (e0 != 0) = true := by simpa using h0
  go_enter Try.func52, Try.ntmps52
  go_wp2
  go_ret
  exact ⟨rfl, up2 w _ _⟩
set_option maxHeartbeats 600000 in
theorem apart_f (lX lY nX nY c d : Nat) (A B : Option Addr) (f0 : Int) (h0 : f0 ≠ 0) (w : World) : Calls Try.prog 52 #[.agg #[.int .i64 (lX : Int), .slice A nX c], .agg #[.int .i64 (lY : Int), .slice B nY d], .int .i64 0, .int .i64 f0] w fun e w' => e = .returned (.bool true) ∧ Below w.heap.size w w' := by
  have t0 : (f0 != 0) = true := by simpa using h0
  go_enter Try.func52, Try.ntmps52
  go_wp2
  go_ret
  exact ⟨rfl, up2 w _ _⟩
set_option maxHeartbeats 600000 in
theorem apart_g (lX lY nX nY c d : Nat) (A B : Option Addr) (h0 : lY < lX) (w : World) : Calls Try.prog 52 #[.agg #[.int .i64 (lX : Int), .slice A nX c], .agg #[.int .i64 (lY : Int), .slice B nY d], .int .i64 0, .int .i64 0] w fun e w' => e = .returned (.bool true) ∧ Below w.heap.size w w' := by
  have t0 : decide ((lY : Int) < (lX : Int)) = true := by simp; omega
  go_enter Try.func52, Try.ntmps52
  go_wp2
  go_ret
  exact ⟨rfl, up2 w _ _⟩
set_option maxHeartbeats 600000 in
theorem apart_n (lX lY nX nY nS c d : Nat) (A B : Option Addr) (bX bY bS : List Nat) (h0 : lX ≤ lY) (w : World) (hA : Rd w w.heap.size A bX) (hB : Rd w w.heap.size B bY)
    (HC : Hid (∀ A c V, Rd V V.heap.size A bY → Calls Try.prog 31 #[.agg #[.int .i64 (lY : Int), .slice A nY c], .int .i64 0, .int .i64 (lX : Int)] V (Gv V (lX : Int) nS bS 0)))
    (HS : Hid (∀ A B c d V, Rd V V.heap.size A bS → Rd V V.heap.size B bX → Calls Try.prog 28 #[.agg #[.int .i64 (lX : Int), .slice A nS c], .agg #[.int .i64 (lX : Int), .slice B nX d]] V fun e w' => e = .returned (.bool false) ∧ Below V.heap.size V w')) : Calls Try.prog 52 #[.agg #[.int .i64 (lX : Int), .slice A nX c], .agg #[.int .i64 (lY : Int), .slice B nY d], .int .i64 0, .int .i64 0] w fun e w' => e = .returned (.bool true) ∧ Below w.heap.size w w' := by
  have HA := Lib.hid hA; clear hA
  have HD := Lib.hid hB; clear hB
  go_enter Try.func52, Try.ntmps52
  go_wp2_with fail
  refine (HC.out B d _ (HD.out.on (up2 w _ _))).mono ?_
  rintro e w1 ⟨A1, c1, rfl, R1, B1⟩
  obtain ⟨⟨p0, q0⟩, ⟨p1, q1⟩, hz, hb⟩ := two_boxes B1
  have HR := Lib.hid R1
  have HB := Lib.hid hb
  have hz1 : w.heap.size < w1.heap.size := by omega
  clear R1 B1 hb hz p1 q1
  go_wp2_with fail
  refine (HS.out A1 A c1 c _ (HR.out.on (one_below _ _)) (HA.out.on (HB.out.trans ((one_below w1 _).mono HB.out.size)))).mono ?_
  rintro e w2 ⟨rfl, B2⟩
  rw [World.size_alloc] at B2
  have HB2 : Hid (Below w.heap.size w w2) := HB.out.trans (((one_below w1 _).trans (B2.mono (by omega))).mono HB.out.size)
  clear B2
  go_wp2
  go_ret
  exact ⟨rfl, HB2.out⟩
theorem apart_l (X Y : List Bool) (hX : X.length ≤ 8192) (hY : Y.length ≤ 8192) (e0 f0 : Int) (h : e0 = 0 → f0 = 0 → X.length ≤ Y.length → Y.take X.length ≠ X) (A B : Option Addr) (c d : Nat) (w : World) (hA : Rd w w.heap.size A (pack X)) (hB : Rd w w.heap.size B (pack Y)) :
    Calls Try.prog 52 #[.agg #[.int .i64 (X.length : Int), .slice A (pack X).length c], .agg #[.int .i64 (Y.length : Int), .slice B (pack Y).length d], .int .i64 e0, .int .i64 f0] w fun e w' => e = .returned (.bool true) ∧ Below w.heap.size w w' := by
  by_cases he : e0 = 0
  · subst he
    by_cases hf : f0 = 0
    · subst hf
      by_cases hl : X.length ≤ Y.length
      · have tX : (Y.take X.length).length = X.length := by rw [List.length_take]; omega
        refine apart_n _ _ _ _ (pack (Y.take X.length)).length c d A B _ _ (pack (Y.take X.length)) hl w hA hB (fun A c V h => ?_) (fun A B c d V h1 h2 => ?_)
        · have := cut_l0 Y (Y.take X.length) hY A c X.length hl rfl V h
          rwa [tX] at this
        · have := same_no (Y.take X.length) X tX hX (h rfl rfl hl) A B c d V h1 h2
          rwa [tX] at this
      · exact apart_g _ _ _ _ c d A B (by omega) w
    · exact apart_f _ _ _ _ c d A B f0 hf w
  · exact apart_e _ _ _ _ c d A B e0 f0 he w

set_option maxHeartbeats 600000 in
theorem gapart_eq (a b m : Nat) (k : Int) (h : a = b) (w : World) : Calls Try.prog 14 #[.int .u64 (a : Int), .int .u64 (b : Int), .int .u64 (m : Int), .int .i64 k] w fun e w' => e = .returned (.bool true) ∧ Below w.heap.size w w' := by
  subst h
  go_enter Try.func14, Try.ntmps14
  go_wp2_with fail
  refine (gbegun_true _).mono ?_
  rintro e w1_ ⟨rfl, Bq⟩
  have Sq : Below w.heap.size w w1_ := Bq
  have HB : Hid (Below w.heap.size w w1_) := Sq
  clear Bq Sq
  go_wp2_with fail
  refine (begun_true _).mono ?_
  rintro e w2_ ⟨rfl, Bq⟩
  have Sq : Below w1_.heap.size w1_ w2_ := Bq
  replace HB : Hid (Below w.heap.size w w2_) := HB.out.trans (Sq.mono HB.out.size)
  clear Bq Sq
  go_wp2
  go_ret
  exact ⟨rfl, HB.out⟩
set_option maxHeartbeats 1000000 in
theorem gapart_w (a b m : Nat) (k : Int) (h : a ≠ b) (w : World) (lP lQ lR lS lT lU eP eQ eR eS eT eU : Int) (nP nQ nR nS nT nU : Nat) (bP bQ bR bS bT bU : List Nat)
    (HP : Hid (∀ V, Calls Try.prog 35 #[.int .u64 (a : Int), .int .u64 (m : Int)] V (Gv V lP nP bP eP)))
    (HQ : Hid (∀ V, Calls Try.prog 35 #[.int .u64 (b : Int), .int .u64 (m : Int)] V (Gv V lQ nQ bQ eQ)))
    (HR : Hid (∀ V, Calls Try.prog 36 #[.int .u64 (a : Int), .int .u64 (m : Int)] V (Gv V lR nR bR eR)))
    (HS : Hid (∀ V, Calls Try.prog 36 #[.int .u64 (b : Int), .int .u64 (m : Int)] V (Gv V lS nS bS eS)))
    (HT : Hid (∀ V, Calls Try.prog 44 #[.int .u64 (a : Int), .int .i64 k] V (Gv V lT nT bT eT)))
    (HU : Hid (∀ V, Calls Try.prog 44 #[.int .u64 (b : Int), .int .i64 k] V (Gv V lU nU bU eU)))
    (K1 : Hid (∀ A B c d V, Rd V V.heap.size A bP → Rd V V.heap.size B bQ → Calls Try.prog 52 #[.agg #[.int .i64 lP, .slice A nP c], .agg #[.int .i64 lQ, .slice B nQ d], .int .i64 eP, .int .i64 eQ] V fun e w' => e = .returned (.bool true) ∧ Below V.heap.size V w'))
    (K2 : Hid (∀ A B c d V, Rd V V.heap.size A bR → Rd V V.heap.size B bS → Calls Try.prog 52 #[.agg #[.int .i64 lR, .slice A nR c], .agg #[.int .i64 lS, .slice B nS d], .int .i64 eR, .int .i64 eS] V fun e w' => e = .returned (.bool true) ∧ Below V.heap.size V w'))
    (K3 : Hid (∀ A B c d V, Rd V V.heap.size A bT → Rd V V.heap.size B bU → Calls Try.prog 52 #[.agg #[.int .i64 lT, .slice A nT c], .agg #[.int .i64 lU, .slice B nU d], .int .i64 eT, .int .i64 eU] V fun e w' => e = .returned (.bool true) ∧ Below V.heap.size V w')) : Calls Try.prog 14 #[.int .u64 (a : Int), .int .u64 (b : Int), .int .u64 (m : Int), .int .i64 k] w fun e w' => e = .returned (.bool true) ∧ Below w.heap.size w w' := by
  have t0 : ((a : Int) == (b : Int)) = false := by simp; omega
  go_enter Try.func14, Try.ntmps14
  go_wp2_with fail
  refine (gbegun_true _).mono ?_
  rintro e w1_ ⟨rfl, Bq⟩
  have Sq : Below w.heap.size w w1_ := Bq
  have HB : Hid (Below w.heap.size w w1_) := Sq
  clear Bq Sq
  go_wp2_with fail
  refine (begun_true _).mono ?_
  rintro e w2_ ⟨rfl, Bq⟩
  have Sq : Below w1_.heap.size w1_ w2_ := Bq
  replace HB : Hid (Below w.heap.size w w2_) := HB.out.trans (Sq.mono HB.out.size)
  clear Bq Sq
  go_wp2_with fail
  refine (HP.out _).mono ?_
  rintro e w3_ ⟨A0, c0, rfl, Rq, Bq⟩
  have Sq : Below w2_.heap.size w2_ w3_ := Bq
  replace HB : Hid (Below w.heap.size w w3_) := HB.out.trans (Sq.mono HB.out.size)
  clear Bq Sq
  have RP := Lib.hid Rq; clear Rq
  go_wp2_with fail
  refine (HQ.out _).mono ?_
  rintro e w4_ ⟨A1, c1, rfl, Rq, Bq⟩
  rw [World.size_alloc] at Bq
  have Sq : Below w3_.heap.size w3_ w4_ := (one_below w3_ _).trans (Bq.mono (by omega))
  have zp : w3_.heap.size < w4_.heap.size := by have := Bq.size; rw [World.size_alloc] at this; omega
  obtain ⟨pp, qp⟩ := box_at Bq
  replace RP : Hid (Rd w4_ w4_.heap.size A0 bP) := RP.out.on Sq
  replace HB : Hid (Below w.heap.size w w4_) := HB.out.trans (Sq.mono HB.out.size)
  clear Bq Sq
  have RQ := Lib.hid Rq; clear Rq
  go_wp2_with fail
  refine (HR.out _).mono ?_
  rintro e w5_ ⟨A2, c2, rfl, Rq, Bq⟩
  rw [World.size_alloc] at Bq
  have Sq : Below w4_.heap.size w4_ w5_ := (one_below w4_ _).trans (Bq.mono (by omega))
  have zq : w4_.heap.size < w5_.heap.size := by have := Bq.size; rw [World.size_alloc] at this; omega
  obtain ⟨pq, qq⟩ := box_at Bq
  replace pp := (Sq.cell (p := ⟨w3_.heap.size, 0, none⟩) zp).trans pp
  replace qp := (Sq.cell (p := ⟨w3_.heap.size, 1, none⟩) zp).trans qp
  replace zp : w3_.heap.size < w5_.heap.size := Nat.lt_of_lt_of_le zp Sq.size
  replace RP : Hid (Rd w5_ w5_.heap.size A0 bP) := RP.out.on Sq
  replace RQ : Hid (Rd w5_ w5_.heap.size A1 bQ) := RQ.out.on Sq
  replace HB : Hid (Below w.heap.size w w5_) := HB.out.trans (Sq.mono HB.out.size)
  clear Bq Sq
  have RR := Lib.hid Rq; clear Rq
  go_wp2_with fail
  refine (HS.out _).mono ?_
  rintro e w6_ ⟨A3, c3, rfl, Rq, Bq⟩
  rw [World.size_alloc] at Bq
  have Sq : Below w5_.heap.size w5_ w6_ := (one_below w5_ _).trans (Bq.mono (by omega))
  have zr : w5_.heap.size < w6_.heap.size := by have := Bq.size; rw [World.size_alloc] at this; omega
  obtain ⟨pr, qr⟩ := box_at Bq
  replace pp := (Sq.cell (p := ⟨w3_.heap.size, 0, none⟩) zp).trans pp
  replace qp := (Sq.cell (p := ⟨w3_.heap.size, 1, none⟩) zp).trans qp
  replace zp : w3_.heap.size < w6_.heap.size := Nat.lt_of_lt_of_le zp Sq.size
  replace pq := (Sq.cell (p := ⟨w4_.heap.size, 0, none⟩) zq).trans pq
  replace qq := (Sq.cell (p := ⟨w4_.heap.size, 1, none⟩) zq).trans qq
  replace zq : w4_.heap.size < w6_.heap.size := Nat.lt_of_lt_of_le zq Sq.size
  replace RP : Hid (Rd w6_ w6_.heap.size A0 bP) := RP.out.on Sq
  replace RQ : Hid (Rd w6_ w6_.heap.size A1 bQ) := RQ.out.on Sq
  replace RR : Hid (Rd w6_ w6_.heap.size A2 bR) := RR.out.on Sq
  replace HB : Hid (Below w.heap.size w w6_) := HB.out.trans (Sq.mono HB.out.size)
  clear Bq Sq
  have RS := Lib.hid Rq; clear Rq
  go_wp2_with fail
  refine (HT.out _).mono ?_
  rintro e w7_ ⟨A4, c4, rfl, Rq, Bq⟩
  rw [World.size_alloc] at Bq
  have Sq : Below w6_.heap.size w6_ w7_ := (one_below w6_ _).trans (Bq.mono (by omega))
  have zs : w6_.heap.size < w7_.heap.size := by have := Bq.size; rw [World.size_alloc] at this; omega
  obtain ⟨ps, qs⟩ := box_at Bq
  replace pp := (Sq.cell (p := ⟨w3_.heap.size, 0, none⟩) zp).trans pp
  replace qp := (Sq.cell (p := ⟨w3_.heap.size, 1, none⟩) zp).trans qp
  replace zp : w3_.heap.size < w7_.heap.size := Nat.lt_of_lt_of_le zp Sq.size
  replace pq := (Sq.cell (p := ⟨w4_.heap.size, 0, none⟩) zq).trans pq
  replace qq := (Sq.cell (p := ⟨w4_.heap.size, 1, none⟩) zq).trans qq
  replace zq : w4_.heap.size < w7_.heap.size := Nat.lt_of_lt_of_le zq Sq.size
  replace pr := (Sq.cell (p := ⟨w5_.heap.size, 0, none⟩) zr).trans pr
  replace qr := (Sq.cell (p := ⟨w5_.heap.size, 1, none⟩) zr).trans qr
  replace zr : w5_.heap.size < w7_.heap.size := Nat.lt_of_lt_of_le zr Sq.size
  replace RP : Hid (Rd w7_ w7_.heap.size A0 bP) := RP.out.on Sq
  replace RQ : Hid (Rd w7_ w7_.heap.size A1 bQ) := RQ.out.on Sq
  replace RR : Hid (Rd w7_ w7_.heap.size A2 bR) := RR.out.on Sq
  replace RS : Hid (Rd w7_ w7_.heap.size A3 bS) := RS.out.on Sq
  replace HB : Hid (Below w.heap.size w w7_) := HB.out.trans (Sq.mono HB.out.size)
  clear Bq Sq
  have RT := Lib.hid Rq; clear Rq
  go_wp2_with fail
  refine (HU.out _).mono ?_
  rintro e w8_ ⟨A5, c5, rfl, Rq, Bq⟩
  rw [World.size_alloc] at Bq
  have Sq : Below w7_.heap.size w7_ w8_ := (one_below w7_ _).trans (Bq.mono (by omega))
  have zt : w7_.heap.size < w8_.heap.size := by have := Bq.size; rw [World.size_alloc] at this; omega
  obtain ⟨pt, qt⟩ := box_at Bq
  replace pp := (Sq.cell (p := ⟨w3_.heap.size, 0, none⟩) zp).trans pp
  replace qp := (Sq.cell (p := ⟨w3_.heap.size, 1, none⟩) zp).trans qp
  replace zp : w3_.heap.size < w8_.heap.size := Nat.lt_of_lt_of_le zp Sq.size
  replace pq := (Sq.cell (p := ⟨w4_.heap.size, 0, none⟩) zq).trans pq
  replace qq := (Sq.cell (p := ⟨w4_.heap.size, 1, none⟩) zq).trans qq
  replace zq : w4_.heap.size < w8_.heap.size := Nat.lt_of_lt_of_le zq Sq.size
  replace pr := (Sq.cell (p := ⟨w5_.heap.size, 0, none⟩) zr).trans pr
  replace qr := (Sq.cell (p := ⟨w5_.heap.size, 1, none⟩) zr).trans qr
  replace zr : w5_.heap.size < w8_.heap.size := Nat.lt_of_lt_of_le zr Sq.size
  replace ps := (Sq.cell (p := ⟨w6_.heap.size, 0, none⟩) zs).trans ps
  replace qs := (Sq.cell (p := ⟨w6_.heap.size, 1, none⟩) zs).trans qs
  replace zs : w6_.heap.size < w8_.heap.size := Nat.lt_of_lt_of_le zs Sq.size
  replace RP : Hid (Rd w8_ w8_.heap.size A0 bP) := RP.out.on Sq
  replace RQ : Hid (Rd w8_ w8_.heap.size A1 bQ) := RQ.out.on Sq
  replace RR : Hid (Rd w8_ w8_.heap.size A2 bR) := RR.out.on Sq
  replace RS : Hid (Rd w8_ w8_.heap.size A3 bS) := RS.out.on Sq
  replace RT : Hid (Rd w8_ w8_.heap.size A4 bT) := RT.out.on Sq
  replace HB : Hid (Below w.heap.size w w8_) := HB.out.trans (Sq.mono HB.out.size)
  clear Bq Sq
  have RU := Lib.hid Rq; clear Rq
  go_wp2_with fail
  refine (K1.out A0 A1 c0 c1 _ (RP.out.on (one_below w8_ _)) (RQ.out.on (one_below w8_ _))).mono ?_
  rintro e w9_ ⟨rfl, Bq⟩
  rw [World.size_alloc] at Bq
  have Sq : Below w8_.heap.size w8_ w9_ := (one_below w8_ _).trans (Bq.mono (by omega))
  have zu : w8_.heap.size < w9_.heap.size := by have := Bq.size; rw [World.size_alloc] at this; omega
  obtain ⟨pu, qu⟩ := box_at Bq
  replace pp := (Sq.cell (p := ⟨w3_.heap.size, 0, none⟩) zp).trans pp
  replace qp := (Sq.cell (p := ⟨w3_.heap.size, 1, none⟩) zp).trans qp
  replace zp : w3_.heap.size < w9_.heap.size := Nat.lt_of_lt_of_le zp Sq.size
  replace pq := (Sq.cell (p := ⟨w4_.heap.size, 0, none⟩) zq).trans pq
  replace qq := (Sq.cell (p := ⟨w4_.heap.size, 1, none⟩) zq).trans qq
  replace zq : w4_.heap.size < w9_.heap.size := Nat.lt_of_lt_of_le zq Sq.size
  replace pr := (Sq.cell (p := ⟨w5_.heap.size, 0, none⟩) zr).trans pr
  replace qr := (Sq.cell (p := ⟨w5_.heap.size, 1, none⟩) zr).trans qr
  replace zr : w5_.heap.size < w9_.heap.size := Nat.lt_of_lt_of_le zr Sq.size
  replace ps := (Sq.cell (p := ⟨w6_.heap.size, 0, none⟩) zs).trans ps
  replace qs := (Sq.cell (p := ⟨w6_.heap.size, 1, none⟩) zs).trans qs
  replace zs : w6_.heap.size < w9_.heap.size := Nat.lt_of_lt_of_le zs Sq.size
  replace pt := (Sq.cell (p := ⟨w7_.heap.size, 0, none⟩) zt).trans pt
  replace qt := (Sq.cell (p := ⟨w7_.heap.size, 1, none⟩) zt).trans qt
  replace zt : w7_.heap.size < w9_.heap.size := Nat.lt_of_lt_of_le zt Sq.size
  replace RP : Hid (Rd w9_ w9_.heap.size A0 bP) := RP.out.on Sq
  replace RQ : Hid (Rd w9_ w9_.heap.size A1 bQ) := RQ.out.on Sq
  replace RR : Hid (Rd w9_ w9_.heap.size A2 bR) := RR.out.on Sq
  replace RS : Hid (Rd w9_ w9_.heap.size A3 bS) := RS.out.on Sq
  replace RT : Hid (Rd w9_ w9_.heap.size A4 bT) := RT.out.on Sq
  replace RU : Hid (Rd w9_ w9_.heap.size A5 bU) := RU.out.on Sq
  replace HB : Hid (Below w.heap.size w w9_) := HB.out.trans (Sq.mono HB.out.size)
  clear Bq Sq
  go_wp2_with fail
  refine (K2.out A2 A3 c2 c3 _ RR.out RS.out).mono ?_
  rintro e w10_ ⟨rfl, Bq⟩
  have Sq : Below w9_.heap.size w9_ w10_ := Bq
  replace pp := (Sq.cell (p := ⟨w3_.heap.size, 0, none⟩) zp).trans pp
  replace qp := (Sq.cell (p := ⟨w3_.heap.size, 1, none⟩) zp).trans qp
  replace zp : w3_.heap.size < w10_.heap.size := Nat.lt_of_lt_of_le zp Sq.size
  replace pq := (Sq.cell (p := ⟨w4_.heap.size, 0, none⟩) zq).trans pq
  replace qq := (Sq.cell (p := ⟨w4_.heap.size, 1, none⟩) zq).trans qq
  replace zq : w4_.heap.size < w10_.heap.size := Nat.lt_of_lt_of_le zq Sq.size
  replace pr := (Sq.cell (p := ⟨w5_.heap.size, 0, none⟩) zr).trans pr
  replace qr := (Sq.cell (p := ⟨w5_.heap.size, 1, none⟩) zr).trans qr
  replace zr : w5_.heap.size < w10_.heap.size := Nat.lt_of_lt_of_le zr Sq.size
  replace ps := (Sq.cell (p := ⟨w6_.heap.size, 0, none⟩) zs).trans ps
  replace qs := (Sq.cell (p := ⟨w6_.heap.size, 1, none⟩) zs).trans qs
  replace zs : w6_.heap.size < w10_.heap.size := Nat.lt_of_lt_of_le zs Sq.size
  replace pt := (Sq.cell (p := ⟨w7_.heap.size, 0, none⟩) zt).trans pt
  replace qt := (Sq.cell (p := ⟨w7_.heap.size, 1, none⟩) zt).trans qt
  replace zt : w7_.heap.size < w10_.heap.size := Nat.lt_of_lt_of_le zt Sq.size
  replace pu := (Sq.cell (p := ⟨w8_.heap.size, 0, none⟩) zu).trans pu
  replace qu := (Sq.cell (p := ⟨w8_.heap.size, 1, none⟩) zu).trans qu
  replace zu : w8_.heap.size < w10_.heap.size := Nat.lt_of_lt_of_le zu Sq.size
  replace RP : Hid (Rd w10_ w10_.heap.size A0 bP) := RP.out.on Sq
  replace RQ : Hid (Rd w10_ w10_.heap.size A1 bQ) := RQ.out.on Sq
  replace RR : Hid (Rd w10_ w10_.heap.size A2 bR) := RR.out.on Sq
  replace RS : Hid (Rd w10_ w10_.heap.size A3 bS) := RS.out.on Sq
  replace RT : Hid (Rd w10_ w10_.heap.size A4 bT) := RT.out.on Sq
  replace RU : Hid (Rd w10_ w10_.heap.size A5 bU) := RU.out.on Sq
  replace HB : Hid (Below w.heap.size w w10_) := HB.out.trans (Sq.mono HB.out.size)
  clear Bq Sq
  go_wp2_with fail
  refine (K3.out A4 A5 c4 c5 _ RT.out RU.out).mono ?_
  rintro e w11_ ⟨rfl, Bq⟩
  have Sq : Below w10_.heap.size w10_ w11_ := Bq
  replace pp := (Sq.cell (p := ⟨w3_.heap.size, 0, none⟩) zp).trans pp
  replace qp := (Sq.cell (p := ⟨w3_.heap.size, 1, none⟩) zp).trans qp
  replace zp : w3_.heap.size < w11_.heap.size := Nat.lt_of_lt_of_le zp Sq.size
  replace pq := (Sq.cell (p := ⟨w4_.heap.size, 0, none⟩) zq).trans pq
  replace qq := (Sq.cell (p := ⟨w4_.heap.size, 1, none⟩) zq).trans qq
  replace zq : w4_.heap.size < w11_.heap.size := Nat.lt_of_lt_of_le zq Sq.size
  replace pr := (Sq.cell (p := ⟨w5_.heap.size, 0, none⟩) zr).trans pr
  replace qr := (Sq.cell (p := ⟨w5_.heap.size, 1, none⟩) zr).trans qr
  replace zr : w5_.heap.size < w11_.heap.size := Nat.lt_of_lt_of_le zr Sq.size
  replace ps := (Sq.cell (p := ⟨w6_.heap.size, 0, none⟩) zs).trans ps
  replace qs := (Sq.cell (p := ⟨w6_.heap.size, 1, none⟩) zs).trans qs
  replace zs : w6_.heap.size < w11_.heap.size := Nat.lt_of_lt_of_le zs Sq.size
  replace pt := (Sq.cell (p := ⟨w7_.heap.size, 0, none⟩) zt).trans pt
  replace qt := (Sq.cell (p := ⟨w7_.heap.size, 1, none⟩) zt).trans qt
  replace zt : w7_.heap.size < w11_.heap.size := Nat.lt_of_lt_of_le zt Sq.size
  replace pu := (Sq.cell (p := ⟨w8_.heap.size, 0, none⟩) zu).trans pu
  replace qu := (Sq.cell (p := ⟨w8_.heap.size, 1, none⟩) zu).trans qu
  replace zu : w8_.heap.size < w11_.heap.size := Nat.lt_of_lt_of_le zu Sq.size
  replace RP : Hid (Rd w11_ w11_.heap.size A0 bP) := RP.out.on Sq
  replace RQ : Hid (Rd w11_ w11_.heap.size A1 bQ) := RQ.out.on Sq
  replace RR : Hid (Rd w11_ w11_.heap.size A2 bR) := RR.out.on Sq
  replace RS : Hid (Rd w11_ w11_.heap.size A3 bS) := RS.out.on Sq
  replace RT : Hid (Rd w11_ w11_.heap.size A4 bT) := RT.out.on Sq
  replace RU : Hid (Rd w11_ w11_.heap.size A5 bU) := RU.out.on Sq
  replace HB : Hid (Below w.heap.size w w11_) := HB.out.trans (Sq.mono HB.out.size)
  clear Bq Sq
  go_wp2
  go_ret
  exact ⟨rfl, HB.out⟩

theorem lst_apart (a b m : Nat) (ha : a < m) (hb : b < m) (h : a ≠ b) : (lst b m).take (lst a m).length ≠ lst a m := by
  intro e
  have e1 : lst b m = lst a m ++ (lst b m).drop (lst a m).length := by
    have := List.take_append_drop (lst a m).length (lst b m)
    rwa [e, eq_comm] at this
  have r1 := lstR_lst [] ((lst b m).drop (lst a m).length) a m ha
  have r2 := lstR_lst [] [] b m hb
  rw [List.nil_append, ← e1] at r1
  rw [List.nil_append, List.append_nil, r1] at r2
  exact h (congrArg Prod.fst r2)
theorem gol_apart (a b m : Nat) (hm : 1 ≤ m) (ha : a ≤ 1099511627776) (hb : b ≤ 1099511627776) (qa : a / m < 8128) (qb : b / m < 8128) (h : a ≠ b) : (gol b m).take (gol a m).length ≠ gol a m := by
  intro e
  have e1 : gol b m = gol a m ++ (gol b m).drop (gol a m).length := by
    have := List.take_append_drop (gol a m).length (gol b m)
    rwa [e, eq_comm] at this
  have r1 := golR_gol [] ((gol b m).drop (gol a m).length) a m hm ha qa
  have r2 := golR_gol [] [] b m hm hb qb
  rw [List.nil_append, ← e1] at r1
  rw [List.nil_append, List.append_nil, r1] at r2
  exact h (congrArg Prod.fst r2)
theorem zet_apart (a b k : Nat) (hk : 1 ≤ k) (ha : a ≤ 1099511627776) (hb : b ≤ 1099511627776) (h : a ≠ b) : (zet b k).take (zet a k).length ≠ zet a k := by
  intro e
  have e1 : zet b k = zet a k ++ (zet b k).drop (zet a k).length := by
    have := List.take_append_drop (zet a k).length (zet b k)
    rwa [e, eq_comm] at this
  have r1 := zetR_zet [] ((zet b k).drop (zet a k).length) a k hk ha
  have r2 := zetR_zet [] [] b k hk hb
  rw [List.nil_append, ← e1] at r1
  rw [List.nil_append, List.append_nil, r1] at r2
  exact h (congrArg Prod.fst r2)
theorem zet_len_le (n k : Nat) (hk : 1 ≤ k) (hk2 : k ≤ 16) (hn : n ≤ 1099511627776) : (zet n k).length ≤ 8192 := by
  have k40 := lg_lt_of n 41 (by omega)
  have hd := Nat.div_le_self (lg n) k
  have zl := zq_le (lg n / k) k (zet_40 n k hn) hk2
  have := sz_le (zq (lg n / k) k) 56 (by omega)
  have := lst_length_le (n + 1 - 2 ^ (lg n / k * k)) (zq (lg n / k) k)
  unfold zet
  rw [List.length_append, uc_length]; omega
theorem least_both (n m : Nat) : ∃ (L : List Bool) (e0 : Int), (∀ V, Calls Try.prog 35 #[.int .u64 (n : Int), .int .u64 (m : Int)] V (Gv V (L.length : Int) (pack L).length (pack L) e0)) ∧ L.length ≤ 8192 ∧
    (e0 = 0 ∧ 1 ≤ m ∧ m ≤ 1099511627776 ∧ n < m ∧ L = lst n m ∨ e0 = 3 ∧ L = [] ∧ ¬ (1 ≤ m ∧ m ≤ 1099511627776 ∧ n < m)) := by
  by_cases h : 1 ≤ m ∧ m ≤ 1099511627776 ∧ n < m
  · exact ⟨lst n m, 0, fun V => least_ok n m h.1 h.2.1 h.2.2 _ rfl V, Nat.le_trans (lst_length_le n m) (Nat.le_trans (sz_le m 40 (by omega)) (by omega)), .inl ⟨rfl, h.1, h.2.1, h.2.2, rfl⟩⟩
  · exact ⟨[], 3, fun V => least_no n m h V, by simp, .inr ⟨rfl, rfl, h⟩⟩
theorem zeta_both (n : Nat) (k : Int) : ∃ (L : List Bool) (e0 : Int), (∀ V, Calls Try.prog 44 #[.int .u64 (n : Int), .int .i64 k] V (Gv V (L.length : Int) (pack L).length (pack L) e0)) ∧ L.length ≤ 8192 ∧
    (e0 = 0 ∧ n ≤ 1099511627776 ∧ (∃ j : Nat, k = (j : Int) ∧ 1 ≤ j ∧ j ≤ 16 ∧ L = zet n j) ∨ e0 = 3 ∧ L = [] ∧ ¬ (1 ≤ k ∧ k ≤ 16 ∧ n ≤ 1099511627776)) := by
  by_cases h : 1 ≤ k ∧ k ≤ 16 ∧ n ≤ 1099511627776
  · obtain ⟨j, rfl⟩ := Int.eq_ofNat_of_zero_le (show 0 ≤ k by omega)
    exact ⟨zet n j, 0, fun V => zeta_ok n j (by omega) (by omega) h.2.2 _ rfl V, zet_len_le n j (by omega) (by omega) h.2.2, .inl ⟨rfl, h.2.2, j, rfl, by omega, by omega, rfl⟩⟩
  · exact ⟨[], 3, fun V => zeta_no n k h V, by simp, .inr ⟨rfl, rfl, h⟩⟩
theorem gapart_law (a b m : Nat) (k : Int) (w : World) (ha : a < 18446744073709551616) (hb : b < 18446744073709551616) (hm : m < 18446744073709551616) (_ : -9223372036854775808 ≤ k ∧ k ≤ 9223372036854775807) : Calls Try.prog 14 #[.int .u64 (a : Int), .int .u64 (b : Int), .int .u64 (m : Int), .int .i64 k] w fun e w' => e = .returned (.bool true) ∧ Below w.heap.size w w' := by
  by_cases hab : a = b
  · exact gapart_eq a b m k hab w
  · obtain ⟨lp, ep, p1, p2, p3⟩ := least_both a m
    obtain ⟨lq, eq, q1, q2, q3⟩ := least_both b m
    obtain ⟨lr, er, r1, r2, r3⟩ := code_both a m ha
    obtain ⟨ls, es, s1, s2, s3⟩ := code_both b m hb
    obtain ⟨lt, et, t1, t2, t3⟩ := zeta_both a k
    obtain ⟨lu, eu, u1, u2, u3⟩ := zeta_both b k
    refine gapart_w a b m k hab w _ _ _ _ _ _ _ _ _ _ _ _ _ _ _ _ _ _ _ _ _ _ _ _ p1 q1 r1 s1 t1 u1 (fun A B c d V h1 h2 => apart_l lp lq p2 q2 _ _ (fun he hf _ => ?_) A B c d V h1 h2) (fun A B c d V h1 h2 => apart_l lr ls r2 s2 _ _ (fun he hf _ => ?_) A B c d V h1 h2) (fun A B c d V h1 h2 => apart_l lt lu t2 u2 _ _ (fun he hf _ => ?_) A B c d V h1 h2)
    · rcases p3 with ⟨_, _, _, x1, rfl⟩ | ⟨h, _⟩
      · rcases q3 with ⟨_, _, _, x2, rfl⟩ | ⟨h, _⟩
        · exact lst_apart a b m x1 x2 hab
        · omega
      · omega
    · rcases r3 with ⟨_, y1, _, x1, z1, rfl⟩ | ⟨h, _⟩
      · rcases s3 with ⟨_, _, _, x2, z2, rfl⟩ | ⟨h, _⟩
        · exact gol_apart a b m y1 x1 x2 z1 z2 hab
        · omega
      · omega
    · rcases t3 with ⟨_, x1, j, rfl, j1, j2, rfl⟩ | ⟨h, _⟩
      · rcases u3 with ⟨_, x2, j', hj, _, _, rfl⟩ | ⟨h, _⟩
        · obtain rfl : j = j' := by omega
          exact zet_apart a b j j1 x1 x2 hab
        · omega
      · omega
end Go.Proofs.Ytcacbekdghlncaa
