/- The law FanoBack: for whatever list, top and FANO it returns true. -/
import Derived.Test.YtkbelhclcpepaaaJYYSev
import Derived.Test.YtkbelhclcpepaaaJYYOpen
namespace Go.Proofs.Ytkbelhclcpepaaa
set_option maxRecDepth 100000
set_option linter.unusedVariables false
open Go.RowKit Go.Shelf

/-- What is read: an error, or what was written just so. -/
theorem readP (N T kw ll : Int) (A1 : Option Addr) (c1 : Nat) (bs1 : List Nat) (hb1 : ∀ b ∈ bs1, b < 256) (lh : Int) (A2 : Option Addr) (c2 : Nat) (bs2 : List Nat) (hb2 : ∀ b ∈ bs2, b < 256) (w : World) (h1 : Rd w w.heap.size A1 bs1) (h2 : Rd w w.heap.size A2 bs2) :
    (∃ er : Int, (er != 0) = true ∧ Hid (∀ V, Below w.heap.size w V → Calls Try.prog 50 #[.agg #[.int .i64 N, .int .i64 T, .int .i64 kw, .int .i64 ll, .slice A1 bs1.length c1, .int .i64 lh, .slice A2 bs2.length c2]] V (RdP V 0 [] er))) ∨
    (∃ (l : List Nat) (n t k : Nat), N = (n : Int) ∧ T = (t : Int) ∧ kw = (k : Int) ∧ l.length = n ∧ n ≤ 300 ∧ t ≤ 1048576 ∧ (∀ x ∈ l, x ≤ t) ∧ Up 0 l ∧ fw n t = k ∧ n + t / 2 ^ k + 1 ≤ 8192 ∧ ll = ((loP k l).length : Int) ∧ bs1 = pack (loP k l) ∧ lh = ((fhi k l t).length : Int) ∧ bs2 = pack (fhi k l t)) := by
  by_cases h0 : frE N T kw ll bs1 lh bs2 = 0
  · right
    unfold frE at h0
    split at h0
    · rename_i q1
      obtain ⟨n, rfl⟩ := Int.eq_ofNat_of_zero_le q1.1
      obtain ⟨t, rfl⟩ := Int.eq_ofNat_of_zero_le q1.2.2.1
      simp only [Int.toNat_natCast] at h0
      split at h0
      · rename_i hs
        obtain ⟨e1, e2, e3, e4, e5, e6⟩ := hs
        split at h0
        · rename_i hf
          obtain ⟨L, rfl, hL8, rfl⟩ := chk_zero ll bs1 hb1 e6
          obtain ⟨H, rfl, hH8, rfl⟩ := chk_zero lh bs2 hb2 e4
          simp only [Int.toNat_natCast, unpack_pack] at e5 hf
          have e2' : L.length = n * fw n t := by omega
          have e3' : H.length = n + t / 2 ^ fw n t + 1 := by omega
          have d1 := floP_read (fw n t) L H (by rw [e5]; exact e2')
          have d2 := fhi_read (fw n t) L H t (by rw [e5]; omega)
          have d3 : (fdec (fw n t) L H).length = n := by rw [fdec_len]; exact e5
          obtain ⟨l', t', z1, z2, z3, z4, z5, z6⟩ := fE_zero hf
          have z7 : l' = fdec (fw n t) L H := (ns_inj z1).symm
          have z8 : t' = t := by omega
          subst z7; subst z8
          exact ⟨fdec (fw n t') L H, n, t', fw n t', rfl, rfl, e1, d3, by omega, by omega, z5, z6, rfl, by omega, by rw [d1], by rw [d1], by rw [d2], by rw [d2]⟩
        · cases h0
      · cases h0
    · cases h0
  · refine .inl ⟨frE N T kw ll bs1 lh bs2, by simpa using h0, fun V hV => ?_⟩
    have := fread_any N T kw ll A1 c1 bs1 hb1 lh A2 c2 bs2 hb2 V (h1.on hV) (h2.on hV)
    rw [show frL N T kw ll bs1 lh bs2 = [] by unfold frL; rw [if_neg h0]] at this
    exact this
set_option maxHeartbeats 4000000 in
theorem fback_ee (A G1 G2 : Option Addr) (s c n1 n2 g1 g2 a1 a2 m : Nat) (n t k ll lh top e0 er gN gT gk gl gh : Int) (b1 b2 p1 p2 : List Nat) (xs ys : List Int) (w : World)
    (HW : Hid (∀ V, Below w.heap.size w V → Calls Try.prog 49 #[.slice A s c, .int .i64 top] V (WrP V 0 0 0 0 0 0 0 [] [] e0)))
    (HR : Hid (∀ V, Below w.heap.size w V → Calls Try.prog 50 #[.agg #[.int .i64 gN, .int .i64 gT, .int .i64 gk, .int .i64 gl, .slice G1 g1 a1, .int .i64 gh, .slice G2 g2 a2]] V (RdP V 0 [] er)))
     (t0 : (e0 == 0) = false) (t1 : (er != 0) = true) :
    Calls Try.prog 14 #[.slice A s c, .int .i64 top, .agg #[.int .i64 gN, .int .i64 gT, .int .i64 gk, .int .i64 gl, .slice G1 g1 a1, .int .i64 gh, .slice G2 g2 a2]] w fun e w' => e = .returned (.bool true) ∧ Below w.heap.size w w' := by
  go_enter Try.func14, Try.ntmps14
  go_wp2_with fail
  refine (HW.out _ (one_below w _)).mono ?_
  rintro e w1_ ⟨A1, c1, A2, c2, rfl, Rq, Rq_HH, Bq⟩
  rw [World.size_alloc] at Bq
  have Sq : Below w.heap.size w w1_ := (one_below w _).trans (Bq.mono (by omega))
  have HB : Hid (Below w.heap.size w w1_) := Sq
  have zg : w.heap.size < w1_.heap.size := by have := Bq.size; rw [World.size_alloc] at this; omega
  obtain ⟨pg0, pg1, pg2, pg3, pg4, pg5, pg6⟩ := box7_at Bq
  clear Bq Sq
  have HL := Lib.hid Rq; clear Rq
  have HH := Lib.hid Rq_HH; clear Rq_HH
  go_wp2_with fail
  refine (HR.out _ (HB.out.alloc HB.out.size _)).mono ?_
  rintro e w2_ ⟨A3, c3, rfl, Rq, Bq⟩
  rw [World.size_alloc] at Bq
  have Sq : Below w1_.heap.size w1_ w2_ := (one_below w1_ _).trans (Bq.mono (by omega))
  replace HL : Hid (Rd w2_ w2_.heap.size A1 []) := HL.out.on Sq
  replace HH : Hid (Rd w2_ w2_.heap.size A2 []) := HH.out.on Sq
  replace HB : Hid (Below w.heap.size w w2_) := HB.out.trans (Sq.mono HB.out.size)
  have zf : w1_.heap.size < w2_.heap.size := by have := Bq.size; rw [World.size_alloc] at this; omega
  obtain ⟨pf0, pf1, pf2, pf3, pf4, pf5, pf6⟩ := box7_at Bq
  replace pg0 := (Sq.cell (p := ⟨w.heap.size, 0, none⟩) zg).trans pg0
  replace pg1 := (Sq.cell (p := ⟨w.heap.size, 1, none⟩) zg).trans pg1
  replace pg2 := (Sq.cell (p := ⟨w.heap.size, 2, none⟩) zg).trans pg2
  replace pg3 := (Sq.cell (p := ⟨w.heap.size, 3, none⟩) zg).trans pg3
  replace pg4 := (Sq.cell (p := ⟨w.heap.size, 4, none⟩) zg).trans pg4
  replace pg5 := (Sq.cell (p := ⟨w.heap.size, 5, none⟩) zg).trans pg5
  replace pg6 := (Sq.cell (p := ⟨w.heap.size, 6, none⟩) zg).trans pg6
  replace zg : w.heap.size < w2_.heap.size := Nat.lt_of_lt_of_le zg Sq.size
  clear Bq Sq
  have HX := Lib.hid Rq; clear Rq
  go_wp2_with fail
  refine (ybegun_true _).mono ?_
  rintro e w3_ ⟨rfl, Bq⟩
  have Sq : Below w2_.heap.size w2_ w3_ := Bq
  replace HL : Hid (Rd w3_ w3_.heap.size A1 []) := HL.out.on Sq
  replace HH : Hid (Rd w3_ w3_.heap.size A2 []) := HH.out.on Sq
  replace HX : Hid (RdV w3_ w3_.heap.size A3 (zc [])) := HX.out.on Sq
  replace HB : Hid (Below w.heap.size w w3_) := HB.out.trans (Sq.mono HB.out.size)
  replace pg0 := (Sq.cell (p := ⟨w.heap.size, 0, none⟩) zg).trans pg0
  replace pg1 := (Sq.cell (p := ⟨w.heap.size, 1, none⟩) zg).trans pg1
  replace pg2 := (Sq.cell (p := ⟨w.heap.size, 2, none⟩) zg).trans pg2
  replace pg3 := (Sq.cell (p := ⟨w.heap.size, 3, none⟩) zg).trans pg3
  replace pg4 := (Sq.cell (p := ⟨w.heap.size, 4, none⟩) zg).trans pg4
  replace pg5 := (Sq.cell (p := ⟨w.heap.size, 5, none⟩) zg).trans pg5
  replace pg6 := (Sq.cell (p := ⟨w.heap.size, 6, none⟩) zg).trans pg6
  replace zg : w.heap.size < w3_.heap.size := Nat.lt_of_lt_of_le zg Sq.size
  replace pf0 := (Sq.cell (p := ⟨w1_.heap.size, 0, none⟩) zf).trans pf0
  replace pf1 := (Sq.cell (p := ⟨w1_.heap.size, 1, none⟩) zf).trans pf1
  replace pf2 := (Sq.cell (p := ⟨w1_.heap.size, 2, none⟩) zf).trans pf2
  replace pf3 := (Sq.cell (p := ⟨w1_.heap.size, 3, none⟩) zf).trans pf3
  replace pf4 := (Sq.cell (p := ⟨w1_.heap.size, 4, none⟩) zf).trans pf4
  replace pf5 := (Sq.cell (p := ⟨w1_.heap.size, 5, none⟩) zf).trans pf5
  replace pf6 := (Sq.cell (p := ⟨w1_.heap.size, 6, none⟩) zf).trans pf6
  replace zf : w1_.heap.size < w3_.heap.size := Nat.lt_of_lt_of_le zf Sq.size
  clear Bq Sq
  go_wp2
  go_ret
  exact ⟨rfl, HB.out⟩
set_option maxHeartbeats 4000000 in
theorem fback_ek (A G1 G2 : Option Addr) (s c n1 n2 g1 g2 a1 a2 m : Nat) (n t k ll lh top e0 er gN gT gk gl gh : Int) (b1 b2 p1 p2 : List Nat) (xs ys : List Int) (w : World)
    (HW : Hid (∀ V, Below w.heap.size w V → Calls Try.prog 49 #[.slice A s c, .int .i64 top] V (WrP V 0 0 0 0 0 0 0 [] [] e0)))
    (HR : Hid (∀ V, Below w.heap.size w V → Calls Try.prog 50 #[.agg #[.int .i64 gN, .int .i64 gT, .int .i64 gk, .int .i64 gl, .slice G1 g1 a1, .int .i64 gh, .slice G2 g2 a2]] V (RdP V m xs 0)))
    (HQ : Hid (∀ A3 c3 V, RdV V V.heap.size A3 (zc xs) → Calls Try.prog 49 #[.slice A3 m c3, .int .i64 gT] V (WrP V gN gT gk gl gh g1 g2 p1 p2 0)))
    (HS : Hid (∀ B1 d1 B2 d2 V, Rd V V.heap.size B1 p1 → Rd V V.heap.size B2 p2 → Below w.heap.size w V → Calls Try.prog 56 #[.agg #[.int .i64 gN, .int .i64 gT, .int .i64 gk, .int .i64 gl, .slice B1 g1 d1, .int .i64 gh, .slice B2 g2 d2], .agg #[.int .i64 gN, .int .i64 gT, .int .i64 gk, .int .i64 gl, .slice G1 g1 a1, .int .i64 gh, .slice G2 g2 a2]] V fun e w' => e = .returned (.bool true) ∧ Below V.heap.size V w'))
     (t0 : (e0 == 0) = false) :
    Calls Try.prog 14 #[.slice A s c, .int .i64 top, .agg #[.int .i64 gN, .int .i64 gT, .int .i64 gk, .int .i64 gl, .slice G1 g1 a1, .int .i64 gh, .slice G2 g2 a2]] w fun e w' => e = .returned (.bool true) ∧ Below w.heap.size w w' := by
  go_enter Try.func14, Try.ntmps14
  go_wp2_with fail
  refine (HW.out _ (one_below w _)).mono ?_
  rintro e w1_ ⟨A1, c1, A2, c2, rfl, Rq, Rq_HH, Bq⟩
  rw [World.size_alloc] at Bq
  have Sq : Below w.heap.size w w1_ := (one_below w _).trans (Bq.mono (by omega))
  have HB : Hid (Below w.heap.size w w1_) := Sq
  have zg : w.heap.size < w1_.heap.size := by have := Bq.size; rw [World.size_alloc] at this; omega
  obtain ⟨pg0, pg1, pg2, pg3, pg4, pg5, pg6⟩ := box7_at Bq
  clear Bq Sq
  have HL := Lib.hid Rq; clear Rq
  have HH := Lib.hid Rq_HH; clear Rq_HH
  go_wp2_with fail
  refine (HR.out _ (HB.out.alloc HB.out.size _)).mono ?_
  rintro e w2_ ⟨A3, c3, rfl, Rq, Bq⟩
  rw [World.size_alloc] at Bq
  have Sq : Below w1_.heap.size w1_ w2_ := (one_below w1_ _).trans (Bq.mono (by omega))
  replace HL : Hid (Rd w2_ w2_.heap.size A1 []) := HL.out.on Sq
  replace HH : Hid (Rd w2_ w2_.heap.size A2 []) := HH.out.on Sq
  replace HB : Hid (Below w.heap.size w w2_) := HB.out.trans (Sq.mono HB.out.size)
  have zf : w1_.heap.size < w2_.heap.size := by have := Bq.size; rw [World.size_alloc] at this; omega
  obtain ⟨pf0, pf1, pf2, pf3, pf4, pf5, pf6⟩ := box7_at Bq
  replace pg0 := (Sq.cell (p := ⟨w.heap.size, 0, none⟩) zg).trans pg0
  replace pg1 := (Sq.cell (p := ⟨w.heap.size, 1, none⟩) zg).trans pg1
  replace pg2 := (Sq.cell (p := ⟨w.heap.size, 2, none⟩) zg).trans pg2
  replace pg3 := (Sq.cell (p := ⟨w.heap.size, 3, none⟩) zg).trans pg3
  replace pg4 := (Sq.cell (p := ⟨w.heap.size, 4, none⟩) zg).trans pg4
  replace pg5 := (Sq.cell (p := ⟨w.heap.size, 5, none⟩) zg).trans pg5
  replace pg6 := (Sq.cell (p := ⟨w.heap.size, 6, none⟩) zg).trans pg6
  replace zg : w.heap.size < w2_.heap.size := Nat.lt_of_lt_of_le zg Sq.size
  clear Bq Sq
  have HX := Lib.hid Rq; clear Rq
  go_wp2_with fail
  refine (ybegun_true _).mono ?_
  rintro e w3_ ⟨rfl, Bq⟩
  have Sq : Below w2_.heap.size w2_ w3_ := Bq
  replace HL : Hid (Rd w3_ w3_.heap.size A1 []) := HL.out.on Sq
  replace HH : Hid (Rd w3_ w3_.heap.size A2 []) := HH.out.on Sq
  replace HX : Hid (RdV w3_ w3_.heap.size A3 (zc xs)) := HX.out.on Sq
  replace HB : Hid (Below w.heap.size w w3_) := HB.out.trans (Sq.mono HB.out.size)
  replace pg0 := (Sq.cell (p := ⟨w.heap.size, 0, none⟩) zg).trans pg0
  replace pg1 := (Sq.cell (p := ⟨w.heap.size, 1, none⟩) zg).trans pg1
  replace pg2 := (Sq.cell (p := ⟨w.heap.size, 2, none⟩) zg).trans pg2
  replace pg3 := (Sq.cell (p := ⟨w.heap.size, 3, none⟩) zg).trans pg3
  replace pg4 := (Sq.cell (p := ⟨w.heap.size, 4, none⟩) zg).trans pg4
  replace pg5 := (Sq.cell (p := ⟨w.heap.size, 5, none⟩) zg).trans pg5
  replace pg6 := (Sq.cell (p := ⟨w.heap.size, 6, none⟩) zg).trans pg6
  replace zg : w.heap.size < w3_.heap.size := Nat.lt_of_lt_of_le zg Sq.size
  replace pf0 := (Sq.cell (p := ⟨w1_.heap.size, 0, none⟩) zf).trans pf0
  replace pf1 := (Sq.cell (p := ⟨w1_.heap.size, 1, none⟩) zf).trans pf1
  replace pf2 := (Sq.cell (p := ⟨w1_.heap.size, 2, none⟩) zf).trans pf2
  replace pf3 := (Sq.cell (p := ⟨w1_.heap.size, 3, none⟩) zf).trans pf3
  replace pf4 := (Sq.cell (p := ⟨w1_.heap.size, 4, none⟩) zf).trans pf4
  replace pf5 := (Sq.cell (p := ⟨w1_.heap.size, 5, none⟩) zf).trans pf5
  replace pf6 := (Sq.cell (p := ⟨w1_.heap.size, 6, none⟩) zf).trans pf6
  replace zf : w1_.heap.size < w3_.heap.size := Nat.lt_of_lt_of_le zf Sq.size
  clear Bq Sq
  go_wp2_with fail
  refine (HQ.out A3 c3 _ HX.out).mono ?_
  rintro e w4_ ⟨A5, c5, A6, c6, rfl, Rq, Rq_HK, Bq⟩
  have Sq : Below w3_.heap.size w3_ w4_ := Bq
  replace HL : Hid (Rd w4_ w4_.heap.size A1 []) := HL.out.on Sq
  replace HH : Hid (Rd w4_ w4_.heap.size A2 []) := HH.out.on Sq
  replace HX : Hid (RdV w4_ w4_.heap.size A3 (zc xs)) := HX.out.on Sq
  replace HB : Hid (Below w.heap.size w w4_) := HB.out.trans (Sq.mono HB.out.size)
  replace pg0 := (Sq.cell (p := ⟨w.heap.size, 0, none⟩) zg).trans pg0
  replace pg1 := (Sq.cell (p := ⟨w.heap.size, 1, none⟩) zg).trans pg1
  replace pg2 := (Sq.cell (p := ⟨w.heap.size, 2, none⟩) zg).trans pg2
  replace pg3 := (Sq.cell (p := ⟨w.heap.size, 3, none⟩) zg).trans pg3
  replace pg4 := (Sq.cell (p := ⟨w.heap.size, 4, none⟩) zg).trans pg4
  replace pg5 := (Sq.cell (p := ⟨w.heap.size, 5, none⟩) zg).trans pg5
  replace pg6 := (Sq.cell (p := ⟨w.heap.size, 6, none⟩) zg).trans pg6
  replace zg : w.heap.size < w4_.heap.size := Nat.lt_of_lt_of_le zg Sq.size
  replace pf0 := (Sq.cell (p := ⟨w1_.heap.size, 0, none⟩) zf).trans pf0
  replace pf1 := (Sq.cell (p := ⟨w1_.heap.size, 1, none⟩) zf).trans pf1
  replace pf2 := (Sq.cell (p := ⟨w1_.heap.size, 2, none⟩) zf).trans pf2
  replace pf3 := (Sq.cell (p := ⟨w1_.heap.size, 3, none⟩) zf).trans pf3
  replace pf4 := (Sq.cell (p := ⟨w1_.heap.size, 4, none⟩) zf).trans pf4
  replace pf5 := (Sq.cell (p := ⟨w1_.heap.size, 5, none⟩) zf).trans pf5
  replace pf6 := (Sq.cell (p := ⟨w1_.heap.size, 6, none⟩) zf).trans pf6
  replace zf : w1_.heap.size < w4_.heap.size := Nat.lt_of_lt_of_le zf Sq.size
  clear Bq Sq
  have HJ := Lib.hid Rq; clear Rq
  have HK := Lib.hid Rq_HK; clear Rq_HK
  go_wp2_with fail
  refine (HS.out A5 c5 A6 c6 _ (HJ.out.on (one_below w4_ _)) (HK.out.on (one_below w4_ _)) (HB.out.alloc HB.out.size _)).mono ?_
  rintro e w5_ ⟨rfl, Bq⟩
  rw [World.size_alloc] at Bq
  have Sq : Below w4_.heap.size w4_ w5_ := (one_below w4_ _).trans (Bq.mono (by omega))
  replace HL : Hid (Rd w5_ w5_.heap.size A1 []) := HL.out.on Sq
  replace HH : Hid (Rd w5_ w5_.heap.size A2 []) := HH.out.on Sq
  replace HX : Hid (RdV w5_ w5_.heap.size A3 (zc xs)) := HX.out.on Sq
  replace HJ : Hid (Rd w5_ w5_.heap.size A5 p1) := HJ.out.on Sq
  replace HK : Hid (Rd w5_ w5_.heap.size A6 p2) := HK.out.on Sq
  replace HB : Hid (Below w.heap.size w w5_) := HB.out.trans (Sq.mono HB.out.size)
  have zq : w4_.heap.size < w5_.heap.size := by have := Bq.size; rw [World.size_alloc] at this; omega
  obtain ⟨pq0, pq1, pq2, pq3, pq4, pq5, pq6⟩ := box7_at Bq
  replace pg0 := (Sq.cell (p := ⟨w.heap.size, 0, none⟩) zg).trans pg0
  replace pg1 := (Sq.cell (p := ⟨w.heap.size, 1, none⟩) zg).trans pg1
  replace pg2 := (Sq.cell (p := ⟨w.heap.size, 2, none⟩) zg).trans pg2
  replace pg3 := (Sq.cell (p := ⟨w.heap.size, 3, none⟩) zg).trans pg3
  replace pg4 := (Sq.cell (p := ⟨w.heap.size, 4, none⟩) zg).trans pg4
  replace pg5 := (Sq.cell (p := ⟨w.heap.size, 5, none⟩) zg).trans pg5
  replace pg6 := (Sq.cell (p := ⟨w.heap.size, 6, none⟩) zg).trans pg6
  replace zg : w.heap.size < w5_.heap.size := Nat.lt_of_lt_of_le zg Sq.size
  replace pf0 := (Sq.cell (p := ⟨w1_.heap.size, 0, none⟩) zf).trans pf0
  replace pf1 := (Sq.cell (p := ⟨w1_.heap.size, 1, none⟩) zf).trans pf1
  replace pf2 := (Sq.cell (p := ⟨w1_.heap.size, 2, none⟩) zf).trans pf2
  replace pf3 := (Sq.cell (p := ⟨w1_.heap.size, 3, none⟩) zf).trans pf3
  replace pf4 := (Sq.cell (p := ⟨w1_.heap.size, 4, none⟩) zf).trans pf4
  replace pf5 := (Sq.cell (p := ⟨w1_.heap.size, 5, none⟩) zf).trans pf5
  replace pf6 := (Sq.cell (p := ⟨w1_.heap.size, 6, none⟩) zf).trans pf6
  replace zf : w1_.heap.size < w5_.heap.size := Nat.lt_of_lt_of_le zf Sq.size
  clear Bq Sq
  go_wp2
  go_ret
  exact ⟨rfl, HB.out⟩
set_option maxHeartbeats 4000000 in
theorem fback_ke (A G1 G2 : Option Addr) (s c n1 n2 g1 g2 a1 a2 m : Nat) (n t k ll lh top e0 er gN gT gk gl gh : Int) (b1 b2 p1 p2 : List Nat) (xs ys : List Int) (w : World)
    (HW : Hid (∀ V, Below w.heap.size w V → Calls Try.prog 49 #[.slice A s c, .int .i64 top] V (WrP V n t k ll lh n1 n2 b1 b2 0)))
    (HR : Hid (∀ V, Below w.heap.size w V → Calls Try.prog 50 #[.agg #[.int .i64 gN, .int .i64 gT, .int .i64 gk, .int .i64 gl, .slice G1 g1 a1, .int .i64 gh, .slice G2 g2 a2]] V (RdP V 0 [] er)))
    (HY : Hid (∀ A1 c1 A2 c2 V, Rd V V.heap.size A1 b1 → Rd V V.heap.size A2 b2 → Calls Try.prog 50 #[.agg #[.int .i64 n, .int .i64 t, .int .i64 k, .int .i64 ll, .slice A1 n1 c1, .int .i64 lh, .slice A2 n2 c2]] V (RdP V s ys 0)))
    (HI : Hid (∀ A3 c3 V, RdV V V.heap.size A3 (zc ys) → Below w.heap.size w V → Calls Try.prog 45 #[.slice A3 s c3, .slice A s c] V fun e w' => e = .returned (.bool true) ∧ Below V.heap.size V w'))
     (t1 : (er != 0) = true) :
    Calls Try.prog 14 #[.slice A s c, .int .i64 top, .agg #[.int .i64 gN, .int .i64 gT, .int .i64 gk, .int .i64 gl, .slice G1 g1 a1, .int .i64 gh, .slice G2 g2 a2]] w fun e w' => e = .returned (.bool true) ∧ Below w.heap.size w w' := by
  go_enter Try.func14, Try.ntmps14
  go_wp2_with fail
  refine (HW.out _ (one_below w _)).mono ?_
  rintro e w1_ ⟨A1, c1, A2, c2, rfl, Rq, Rq_HH, Bq⟩
  rw [World.size_alloc] at Bq
  have Sq : Below w.heap.size w w1_ := (one_below w _).trans (Bq.mono (by omega))
  have HB : Hid (Below w.heap.size w w1_) := Sq
  have zg : w.heap.size < w1_.heap.size := by have := Bq.size; rw [World.size_alloc] at this; omega
  obtain ⟨pg0, pg1, pg2, pg3, pg4, pg5, pg6⟩ := box7_at Bq
  clear Bq Sq
  have HL := Lib.hid Rq; clear Rq
  have HH := Lib.hid Rq_HH; clear Rq_HH
  go_wp2_with fail
  refine (HR.out _ (HB.out.alloc HB.out.size _)).mono ?_
  rintro e w2_ ⟨A3, c3, rfl, Rq, Bq⟩
  rw [World.size_alloc] at Bq
  have Sq : Below w1_.heap.size w1_ w2_ := (one_below w1_ _).trans (Bq.mono (by omega))
  replace HL : Hid (Rd w2_ w2_.heap.size A1 b1) := HL.out.on Sq
  replace HH : Hid (Rd w2_ w2_.heap.size A2 b2) := HH.out.on Sq
  replace HB : Hid (Below w.heap.size w w2_) := HB.out.trans (Sq.mono HB.out.size)
  have zf : w1_.heap.size < w2_.heap.size := by have := Bq.size; rw [World.size_alloc] at this; omega
  obtain ⟨pf0, pf1, pf2, pf3, pf4, pf5, pf6⟩ := box7_at Bq
  replace pg0 := (Sq.cell (p := ⟨w.heap.size, 0, none⟩) zg).trans pg0
  replace pg1 := (Sq.cell (p := ⟨w.heap.size, 1, none⟩) zg).trans pg1
  replace pg2 := (Sq.cell (p := ⟨w.heap.size, 2, none⟩) zg).trans pg2
  replace pg3 := (Sq.cell (p := ⟨w.heap.size, 3, none⟩) zg).trans pg3
  replace pg4 := (Sq.cell (p := ⟨w.heap.size, 4, none⟩) zg).trans pg4
  replace pg5 := (Sq.cell (p := ⟨w.heap.size, 5, none⟩) zg).trans pg5
  replace pg6 := (Sq.cell (p := ⟨w.heap.size, 6, none⟩) zg).trans pg6
  replace zg : w.heap.size < w2_.heap.size := Nat.lt_of_lt_of_le zg Sq.size
  clear Bq Sq
  have HX := Lib.hid Rq; clear Rq
  go_wp2_with fail
  refine (ybegun_true _).mono ?_
  rintro e w3_ ⟨rfl, Bq⟩
  have Sq : Below w2_.heap.size w2_ w3_ := Bq
  replace HL : Hid (Rd w3_ w3_.heap.size A1 b1) := HL.out.on Sq
  replace HH : Hid (Rd w3_ w3_.heap.size A2 b2) := HH.out.on Sq
  replace HX : Hid (RdV w3_ w3_.heap.size A3 (zc [])) := HX.out.on Sq
  replace HB : Hid (Below w.heap.size w w3_) := HB.out.trans (Sq.mono HB.out.size)
  replace pg0 := (Sq.cell (p := ⟨w.heap.size, 0, none⟩) zg).trans pg0
  replace pg1 := (Sq.cell (p := ⟨w.heap.size, 1, none⟩) zg).trans pg1
  replace pg2 := (Sq.cell (p := ⟨w.heap.size, 2, none⟩) zg).trans pg2
  replace pg3 := (Sq.cell (p := ⟨w.heap.size, 3, none⟩) zg).trans pg3
  replace pg4 := (Sq.cell (p := ⟨w.heap.size, 4, none⟩) zg).trans pg4
  replace pg5 := (Sq.cell (p := ⟨w.heap.size, 5, none⟩) zg).trans pg5
  replace pg6 := (Sq.cell (p := ⟨w.heap.size, 6, none⟩) zg).trans pg6
  replace zg : w.heap.size < w3_.heap.size := Nat.lt_of_lt_of_le zg Sq.size
  replace pf0 := (Sq.cell (p := ⟨w1_.heap.size, 0, none⟩) zf).trans pf0
  replace pf1 := (Sq.cell (p := ⟨w1_.heap.size, 1, none⟩) zf).trans pf1
  replace pf2 := (Sq.cell (p := ⟨w1_.heap.size, 2, none⟩) zf).trans pf2
  replace pf3 := (Sq.cell (p := ⟨w1_.heap.size, 3, none⟩) zf).trans pf3
  replace pf4 := (Sq.cell (p := ⟨w1_.heap.size, 4, none⟩) zf).trans pf4
  replace pf5 := (Sq.cell (p := ⟨w1_.heap.size, 5, none⟩) zf).trans pf5
  replace pf6 := (Sq.cell (p := ⟨w1_.heap.size, 6, none⟩) zf).trans pf6
  replace zf : w1_.heap.size < w3_.heap.size := Nat.lt_of_lt_of_le zf Sq.size
  clear Bq Sq
  go_wp2_with fail
  refine (HY.out A1 c1 A2 c2 _ HL.out HH.out).mono ?_
  rintro e w4_ ⟨A4, c4, rfl, Rq, Bq⟩
  have Sq : Below w3_.heap.size w3_ w4_ := Bq
  replace HL : Hid (Rd w4_ w4_.heap.size A1 b1) := HL.out.on Sq
  replace HH : Hid (Rd w4_ w4_.heap.size A2 b2) := HH.out.on Sq
  replace HX : Hid (RdV w4_ w4_.heap.size A3 (zc [])) := HX.out.on Sq
  replace HB : Hid (Below w.heap.size w w4_) := HB.out.trans (Sq.mono HB.out.size)
  replace pg0 := (Sq.cell (p := ⟨w.heap.size, 0, none⟩) zg).trans pg0
  replace pg1 := (Sq.cell (p := ⟨w.heap.size, 1, none⟩) zg).trans pg1
  replace pg2 := (Sq.cell (p := ⟨w.heap.size, 2, none⟩) zg).trans pg2
  replace pg3 := (Sq.cell (p := ⟨w.heap.size, 3, none⟩) zg).trans pg3
  replace pg4 := (Sq.cell (p := ⟨w.heap.size, 4, none⟩) zg).trans pg4
  replace pg5 := (Sq.cell (p := ⟨w.heap.size, 5, none⟩) zg).trans pg5
  replace pg6 := (Sq.cell (p := ⟨w.heap.size, 6, none⟩) zg).trans pg6
  replace zg : w.heap.size < w4_.heap.size := Nat.lt_of_lt_of_le zg Sq.size
  replace pf0 := (Sq.cell (p := ⟨w1_.heap.size, 0, none⟩) zf).trans pf0
  replace pf1 := (Sq.cell (p := ⟨w1_.heap.size, 1, none⟩) zf).trans pf1
  replace pf2 := (Sq.cell (p := ⟨w1_.heap.size, 2, none⟩) zf).trans pf2
  replace pf3 := (Sq.cell (p := ⟨w1_.heap.size, 3, none⟩) zf).trans pf3
  replace pf4 := (Sq.cell (p := ⟨w1_.heap.size, 4, none⟩) zf).trans pf4
  replace pf5 := (Sq.cell (p := ⟨w1_.heap.size, 5, none⟩) zf).trans pf5
  replace pf6 := (Sq.cell (p := ⟨w1_.heap.size, 6, none⟩) zf).trans pf6
  replace zf : w1_.heap.size < w4_.heap.size := Nat.lt_of_lt_of_le zf Sq.size
  clear Bq Sq
  have HZ := Lib.hid Rq; clear Rq
  go_wp2_with fail
  refine (HI.out A4 c4 _ HZ.out HB.out).mono ?_
  rintro e w5_ ⟨rfl, Bq⟩
  have Sq : Below w4_.heap.size w4_ w5_ := Bq
  replace HL : Hid (Rd w5_ w5_.heap.size A1 b1) := HL.out.on Sq
  replace HH : Hid (Rd w5_ w5_.heap.size A2 b2) := HH.out.on Sq
  replace HX : Hid (RdV w5_ w5_.heap.size A3 (zc [])) := HX.out.on Sq
  replace HZ : Hid (RdV w5_ w5_.heap.size A4 (zc ys)) := HZ.out.on Sq
  replace HB : Hid (Below w.heap.size w w5_) := HB.out.trans (Sq.mono HB.out.size)
  replace pg0 := (Sq.cell (p := ⟨w.heap.size, 0, none⟩) zg).trans pg0
  replace pg1 := (Sq.cell (p := ⟨w.heap.size, 1, none⟩) zg).trans pg1
  replace pg2 := (Sq.cell (p := ⟨w.heap.size, 2, none⟩) zg).trans pg2
  replace pg3 := (Sq.cell (p := ⟨w.heap.size, 3, none⟩) zg).trans pg3
  replace pg4 := (Sq.cell (p := ⟨w.heap.size, 4, none⟩) zg).trans pg4
  replace pg5 := (Sq.cell (p := ⟨w.heap.size, 5, none⟩) zg).trans pg5
  replace pg6 := (Sq.cell (p := ⟨w.heap.size, 6, none⟩) zg).trans pg6
  replace zg : w.heap.size < w5_.heap.size := Nat.lt_of_lt_of_le zg Sq.size
  replace pf0 := (Sq.cell (p := ⟨w1_.heap.size, 0, none⟩) zf).trans pf0
  replace pf1 := (Sq.cell (p := ⟨w1_.heap.size, 1, none⟩) zf).trans pf1
  replace pf2 := (Sq.cell (p := ⟨w1_.heap.size, 2, none⟩) zf).trans pf2
  replace pf3 := (Sq.cell (p := ⟨w1_.heap.size, 3, none⟩) zf).trans pf3
  replace pf4 := (Sq.cell (p := ⟨w1_.heap.size, 4, none⟩) zf).trans pf4
  replace pf5 := (Sq.cell (p := ⟨w1_.heap.size, 5, none⟩) zf).trans pf5
  replace pf6 := (Sq.cell (p := ⟨w1_.heap.size, 6, none⟩) zf).trans pf6
  replace zf : w1_.heap.size < w5_.heap.size := Nat.lt_of_lt_of_le zf Sq.size
  clear Bq Sq
  go_wp2
  go_ret
  exact ⟨rfl, HB.out⟩
set_option maxHeartbeats 4000000 in
theorem fback_kk (A G1 G2 : Option Addr) (s c n1 n2 g1 g2 a1 a2 m : Nat) (n t k ll lh top e0 er gN gT gk gl gh : Int) (b1 b2 p1 p2 : List Nat) (xs ys : List Int) (w : World)
    (HW : Hid (∀ V, Below w.heap.size w V → Calls Try.prog 49 #[.slice A s c, .int .i64 top] V (WrP V n t k ll lh n1 n2 b1 b2 0)))
    (HR : Hid (∀ V, Below w.heap.size w V → Calls Try.prog 50 #[.agg #[.int .i64 gN, .int .i64 gT, .int .i64 gk, .int .i64 gl, .slice G1 g1 a1, .int .i64 gh, .slice G2 g2 a2]] V (RdP V m xs 0)))
    (HY : Hid (∀ A1 c1 A2 c2 V, Rd V V.heap.size A1 b1 → Rd V V.heap.size A2 b2 → Calls Try.prog 50 #[.agg #[.int .i64 n, .int .i64 t, .int .i64 k, .int .i64 ll, .slice A1 n1 c1, .int .i64 lh, .slice A2 n2 c2]] V (RdP V s ys 0)))
    (HI : Hid (∀ A3 c3 V, RdV V V.heap.size A3 (zc ys) → Below w.heap.size w V → Calls Try.prog 45 #[.slice A3 s c3, .slice A s c] V fun e w' => e = .returned (.bool true) ∧ Below V.heap.size V w'))
    (HQ : Hid (∀ A3 c3 V, RdV V V.heap.size A3 (zc xs) → Calls Try.prog 49 #[.slice A3 m c3, .int .i64 gT] V (WrP V gN gT gk gl gh g1 g2 p1 p2 0)))
    (HS : Hid (∀ B1 d1 B2 d2 V, Rd V V.heap.size B1 p1 → Rd V V.heap.size B2 p2 → Below w.heap.size w V → Calls Try.prog 56 #[.agg #[.int .i64 gN, .int .i64 gT, .int .i64 gk, .int .i64 gl, .slice B1 g1 d1, .int .i64 gh, .slice B2 g2 d2], .agg #[.int .i64 gN, .int .i64 gT, .int .i64 gk, .int .i64 gl, .slice G1 g1 a1, .int .i64 gh, .slice G2 g2 a2]] V fun e w' => e = .returned (.bool true) ∧ Below V.heap.size V w'))
     :
    Calls Try.prog 14 #[.slice A s c, .int .i64 top, .agg #[.int .i64 gN, .int .i64 gT, .int .i64 gk, .int .i64 gl, .slice G1 g1 a1, .int .i64 gh, .slice G2 g2 a2]] w fun e w' => e = .returned (.bool true) ∧ Below w.heap.size w w' := by
  go_enter Try.func14, Try.ntmps14
  go_wp2_with fail
  refine (HW.out _ (one_below w _)).mono ?_
  rintro e w1_ ⟨A1, c1, A2, c2, rfl, Rq, Rq_HH, Bq⟩
  rw [World.size_alloc] at Bq
  have Sq : Below w.heap.size w w1_ := (one_below w _).trans (Bq.mono (by omega))
  have HB : Hid (Below w.heap.size w w1_) := Sq
  have zg : w.heap.size < w1_.heap.size := by have := Bq.size; rw [World.size_alloc] at this; omega
  obtain ⟨pg0, pg1, pg2, pg3, pg4, pg5, pg6⟩ := box7_at Bq
  clear Bq Sq
  have HL := Lib.hid Rq; clear Rq
  have HH := Lib.hid Rq_HH; clear Rq_HH
  go_wp2_with fail
  refine (HR.out _ (HB.out.alloc HB.out.size _)).mono ?_
  rintro e w2_ ⟨A3, c3, rfl, Rq, Bq⟩
  rw [World.size_alloc] at Bq
  have Sq : Below w1_.heap.size w1_ w2_ := (one_below w1_ _).trans (Bq.mono (by omega))
  replace HL : Hid (Rd w2_ w2_.heap.size A1 b1) := HL.out.on Sq
  replace HH : Hid (Rd w2_ w2_.heap.size A2 b2) := HH.out.on Sq
  replace HB : Hid (Below w.heap.size w w2_) := HB.out.trans (Sq.mono HB.out.size)
  have zf : w1_.heap.size < w2_.heap.size := by have := Bq.size; rw [World.size_alloc] at this; omega
  obtain ⟨pf0, pf1, pf2, pf3, pf4, pf5, pf6⟩ := box7_at Bq
  replace pg0 := (Sq.cell (p := ⟨w.heap.size, 0, none⟩) zg).trans pg0
  replace pg1 := (Sq.cell (p := ⟨w.heap.size, 1, none⟩) zg).trans pg1
  replace pg2 := (Sq.cell (p := ⟨w.heap.size, 2, none⟩) zg).trans pg2
  replace pg3 := (Sq.cell (p := ⟨w.heap.size, 3, none⟩) zg).trans pg3
  replace pg4 := (Sq.cell (p := ⟨w.heap.size, 4, none⟩) zg).trans pg4
  replace pg5 := (Sq.cell (p := ⟨w.heap.size, 5, none⟩) zg).trans pg5
  replace pg6 := (Sq.cell (p := ⟨w.heap.size, 6, none⟩) zg).trans pg6
  replace zg : w.heap.size < w2_.heap.size := Nat.lt_of_lt_of_le zg Sq.size
  clear Bq Sq
  have HX := Lib.hid Rq; clear Rq
  go_wp2_with fail
  refine (ybegun_true _).mono ?_
  rintro e w3_ ⟨rfl, Bq⟩
  have Sq : Below w2_.heap.size w2_ w3_ := Bq
  replace HL : Hid (Rd w3_ w3_.heap.size A1 b1) := HL.out.on Sq
  replace HH : Hid (Rd w3_ w3_.heap.size A2 b2) := HH.out.on Sq
  replace HX : Hid (RdV w3_ w3_.heap.size A3 (zc xs)) := HX.out.on Sq
  replace HB : Hid (Below w.heap.size w w3_) := HB.out.trans (Sq.mono HB.out.size)
  replace pg0 := (Sq.cell (p := ⟨w.heap.size, 0, none⟩) zg).trans pg0
  replace pg1 := (Sq.cell (p := ⟨w.heap.size, 1, none⟩) zg).trans pg1
  replace pg2 := (Sq.cell (p := ⟨w.heap.size, 2, none⟩) zg).trans pg2
  replace pg3 := (Sq.cell (p := ⟨w.heap.size, 3, none⟩) zg).trans pg3
  replace pg4 := (Sq.cell (p := ⟨w.heap.size, 4, none⟩) zg).trans pg4
  replace pg5 := (Sq.cell (p := ⟨w.heap.size, 5, none⟩) zg).trans pg5
  replace pg6 := (Sq.cell (p := ⟨w.heap.size, 6, none⟩) zg).trans pg6
  replace zg : w.heap.size < w3_.heap.size := Nat.lt_of_lt_of_le zg Sq.size
  replace pf0 := (Sq.cell (p := ⟨w1_.heap.size, 0, none⟩) zf).trans pf0
  replace pf1 := (Sq.cell (p := ⟨w1_.heap.size, 1, none⟩) zf).trans pf1
  replace pf2 := (Sq.cell (p := ⟨w1_.heap.size, 2, none⟩) zf).trans pf2
  replace pf3 := (Sq.cell (p := ⟨w1_.heap.size, 3, none⟩) zf).trans pf3
  replace pf4 := (Sq.cell (p := ⟨w1_.heap.size, 4, none⟩) zf).trans pf4
  replace pf5 := (Sq.cell (p := ⟨w1_.heap.size, 5, none⟩) zf).trans pf5
  replace pf6 := (Sq.cell (p := ⟨w1_.heap.size, 6, none⟩) zf).trans pf6
  replace zf : w1_.heap.size < w3_.heap.size := Nat.lt_of_lt_of_le zf Sq.size
  clear Bq Sq
  go_wp2_with fail
  refine (HY.out A1 c1 A2 c2 _ HL.out HH.out).mono ?_
  rintro e w4_ ⟨A4, c4, rfl, Rq, Bq⟩
  have Sq : Below w3_.heap.size w3_ w4_ := Bq
  replace HL : Hid (Rd w4_ w4_.heap.size A1 b1) := HL.out.on Sq
  replace HH : Hid (Rd w4_ w4_.heap.size A2 b2) := HH.out.on Sq
  replace HX : Hid (RdV w4_ w4_.heap.size A3 (zc xs)) := HX.out.on Sq
  replace HB : Hid (Below w.heap.size w w4_) := HB.out.trans (Sq.mono HB.out.size)
  replace pg0 := (Sq.cell (p := ⟨w.heap.size, 0, none⟩) zg).trans pg0
  replace pg1 := (Sq.cell (p := ⟨w.heap.size, 1, none⟩) zg).trans pg1
  replace pg2 := (Sq.cell (p := ⟨w.heap.size, 2, none⟩) zg).trans pg2
  replace pg3 := (Sq.cell (p := ⟨w.heap.size, 3, none⟩) zg).trans pg3
  replace pg4 := (Sq.cell (p := ⟨w.heap.size, 4, none⟩) zg).trans pg4
  replace pg5 := (Sq.cell (p := ⟨w.heap.size, 5, none⟩) zg).trans pg5
  replace pg6 := (Sq.cell (p := ⟨w.heap.size, 6, none⟩) zg).trans pg6
  replace zg : w.heap.size < w4_.heap.size := Nat.lt_of_lt_of_le zg Sq.size
  replace pf0 := (Sq.cell (p := ⟨w1_.heap.size, 0, none⟩) zf).trans pf0
  replace pf1 := (Sq.cell (p := ⟨w1_.heap.size, 1, none⟩) zf).trans pf1
  replace pf2 := (Sq.cell (p := ⟨w1_.heap.size, 2, none⟩) zf).trans pf2
  replace pf3 := (Sq.cell (p := ⟨w1_.heap.size, 3, none⟩) zf).trans pf3
  replace pf4 := (Sq.cell (p := ⟨w1_.heap.size, 4, none⟩) zf).trans pf4
  replace pf5 := (Sq.cell (p := ⟨w1_.heap.size, 5, none⟩) zf).trans pf5
  replace pf6 := (Sq.cell (p := ⟨w1_.heap.size, 6, none⟩) zf).trans pf6
  replace zf : w1_.heap.size < w4_.heap.size := Nat.lt_of_lt_of_le zf Sq.size
  clear Bq Sq
  have HZ := Lib.hid Rq; clear Rq
  go_wp2_with fail
  refine (HI.out A4 c4 _ HZ.out HB.out).mono ?_
  rintro e w5_ ⟨rfl, Bq⟩
  have Sq : Below w4_.heap.size w4_ w5_ := Bq
  replace HL : Hid (Rd w5_ w5_.heap.size A1 b1) := HL.out.on Sq
  replace HH : Hid (Rd w5_ w5_.heap.size A2 b2) := HH.out.on Sq
  replace HX : Hid (RdV w5_ w5_.heap.size A3 (zc xs)) := HX.out.on Sq
  replace HZ : Hid (RdV w5_ w5_.heap.size A4 (zc ys)) := HZ.out.on Sq
  replace HB : Hid (Below w.heap.size w w5_) := HB.out.trans (Sq.mono HB.out.size)
  replace pg0 := (Sq.cell (p := ⟨w.heap.size, 0, none⟩) zg).trans pg0
  replace pg1 := (Sq.cell (p := ⟨w.heap.size, 1, none⟩) zg).trans pg1
  replace pg2 := (Sq.cell (p := ⟨w.heap.size, 2, none⟩) zg).trans pg2
  replace pg3 := (Sq.cell (p := ⟨w.heap.size, 3, none⟩) zg).trans pg3
  replace pg4 := (Sq.cell (p := ⟨w.heap.size, 4, none⟩) zg).trans pg4
  replace pg5 := (Sq.cell (p := ⟨w.heap.size, 5, none⟩) zg).trans pg5
  replace pg6 := (Sq.cell (p := ⟨w.heap.size, 6, none⟩) zg).trans pg6
  replace zg : w.heap.size < w5_.heap.size := Nat.lt_of_lt_of_le zg Sq.size
  replace pf0 := (Sq.cell (p := ⟨w1_.heap.size, 0, none⟩) zf).trans pf0
  replace pf1 := (Sq.cell (p := ⟨w1_.heap.size, 1, none⟩) zf).trans pf1
  replace pf2 := (Sq.cell (p := ⟨w1_.heap.size, 2, none⟩) zf).trans pf2
  replace pf3 := (Sq.cell (p := ⟨w1_.heap.size, 3, none⟩) zf).trans pf3
  replace pf4 := (Sq.cell (p := ⟨w1_.heap.size, 4, none⟩) zf).trans pf4
  replace pf5 := (Sq.cell (p := ⟨w1_.heap.size, 5, none⟩) zf).trans pf5
  replace pf6 := (Sq.cell (p := ⟨w1_.heap.size, 6, none⟩) zf).trans pf6
  replace zf : w1_.heap.size < w5_.heap.size := Nat.lt_of_lt_of_le zf Sq.size
  clear Bq Sq
  go_wp2_with fail
  refine (HQ.out A3 c3 _ HX.out).mono ?_
  rintro e w6_ ⟨A5, c5, A6, c6, rfl, Rq, Rq_HK, Bq⟩
  have Sq : Below w5_.heap.size w5_ w6_ := Bq
  replace HL : Hid (Rd w6_ w6_.heap.size A1 b1) := HL.out.on Sq
  replace HH : Hid (Rd w6_ w6_.heap.size A2 b2) := HH.out.on Sq
  replace HX : Hid (RdV w6_ w6_.heap.size A3 (zc xs)) := HX.out.on Sq
  replace HZ : Hid (RdV w6_ w6_.heap.size A4 (zc ys)) := HZ.out.on Sq
  replace HB : Hid (Below w.heap.size w w6_) := HB.out.trans (Sq.mono HB.out.size)
  replace pg0 := (Sq.cell (p := ⟨w.heap.size, 0, none⟩) zg).trans pg0
  replace pg1 := (Sq.cell (p := ⟨w.heap.size, 1, none⟩) zg).trans pg1
  replace pg2 := (Sq.cell (p := ⟨w.heap.size, 2, none⟩) zg).trans pg2
  replace pg3 := (Sq.cell (p := ⟨w.heap.size, 3, none⟩) zg).trans pg3
  replace pg4 := (Sq.cell (p := ⟨w.heap.size, 4, none⟩) zg).trans pg4
  replace pg5 := (Sq.cell (p := ⟨w.heap.size, 5, none⟩) zg).trans pg5
  replace pg6 := (Sq.cell (p := ⟨w.heap.size, 6, none⟩) zg).trans pg6
  replace zg : w.heap.size < w6_.heap.size := Nat.lt_of_lt_of_le zg Sq.size
  replace pf0 := (Sq.cell (p := ⟨w1_.heap.size, 0, none⟩) zf).trans pf0
  replace pf1 := (Sq.cell (p := ⟨w1_.heap.size, 1, none⟩) zf).trans pf1
  replace pf2 := (Sq.cell (p := ⟨w1_.heap.size, 2, none⟩) zf).trans pf2
  replace pf3 := (Sq.cell (p := ⟨w1_.heap.size, 3, none⟩) zf).trans pf3
  replace pf4 := (Sq.cell (p := ⟨w1_.heap.size, 4, none⟩) zf).trans pf4
  replace pf5 := (Sq.cell (p := ⟨w1_.heap.size, 5, none⟩) zf).trans pf5
  replace pf6 := (Sq.cell (p := ⟨w1_.heap.size, 6, none⟩) zf).trans pf6
  replace zf : w1_.heap.size < w6_.heap.size := Nat.lt_of_lt_of_le zf Sq.size
  clear Bq Sq
  have HJ := Lib.hid Rq; clear Rq
  have HK := Lib.hid Rq_HK; clear Rq_HK
  go_wp2_with fail
  refine (HS.out A5 c5 A6 c6 _ (HJ.out.on (one_below w6_ _)) (HK.out.on (one_below w6_ _)) (HB.out.alloc HB.out.size _)).mono ?_
  rintro e w7_ ⟨rfl, Bq⟩
  rw [World.size_alloc] at Bq
  have Sq : Below w6_.heap.size w6_ w7_ := (one_below w6_ _).trans (Bq.mono (by omega))
  replace HL : Hid (Rd w7_ w7_.heap.size A1 b1) := HL.out.on Sq
  replace HH : Hid (Rd w7_ w7_.heap.size A2 b2) := HH.out.on Sq
  replace HX : Hid (RdV w7_ w7_.heap.size A3 (zc xs)) := HX.out.on Sq
  replace HZ : Hid (RdV w7_ w7_.heap.size A4 (zc ys)) := HZ.out.on Sq
  replace HJ : Hid (Rd w7_ w7_.heap.size A5 p1) := HJ.out.on Sq
  replace HK : Hid (Rd w7_ w7_.heap.size A6 p2) := HK.out.on Sq
  replace HB : Hid (Below w.heap.size w w7_) := HB.out.trans (Sq.mono HB.out.size)
  have zq : w6_.heap.size < w7_.heap.size := by have := Bq.size; rw [World.size_alloc] at this; omega
  obtain ⟨pq0, pq1, pq2, pq3, pq4, pq5, pq6⟩ := box7_at Bq
  replace pg0 := (Sq.cell (p := ⟨w.heap.size, 0, none⟩) zg).trans pg0
  replace pg1 := (Sq.cell (p := ⟨w.heap.size, 1, none⟩) zg).trans pg1
  replace pg2 := (Sq.cell (p := ⟨w.heap.size, 2, none⟩) zg).trans pg2
  replace pg3 := (Sq.cell (p := ⟨w.heap.size, 3, none⟩) zg).trans pg3
  replace pg4 := (Sq.cell (p := ⟨w.heap.size, 4, none⟩) zg).trans pg4
  replace pg5 := (Sq.cell (p := ⟨w.heap.size, 5, none⟩) zg).trans pg5
  replace pg6 := (Sq.cell (p := ⟨w.heap.size, 6, none⟩) zg).trans pg6
  replace zg : w.heap.size < w7_.heap.size := Nat.lt_of_lt_of_le zg Sq.size
  replace pf0 := (Sq.cell (p := ⟨w1_.heap.size, 0, none⟩) zf).trans pf0
  replace pf1 := (Sq.cell (p := ⟨w1_.heap.size, 1, none⟩) zf).trans pf1
  replace pf2 := (Sq.cell (p := ⟨w1_.heap.size, 2, none⟩) zf).trans pf2
  replace pf3 := (Sq.cell (p := ⟨w1_.heap.size, 3, none⟩) zf).trans pf3
  replace pf4 := (Sq.cell (p := ⟨w1_.heap.size, 4, none⟩) zf).trans pf4
  replace pf5 := (Sq.cell (p := ⟨w1_.heap.size, 5, none⟩) zf).trans pf5
  replace pf6 := (Sq.cell (p := ⟨w1_.heap.size, 6, none⟩) zf).trans pf6
  replace zf : w1_.heap.size < w7_.heap.size := Nat.lt_of_lt_of_le zf Sq.size
  clear Bq Sq
  go_wp2
  go_ret
  exact ⟨rfl, HB.out⟩
theorem fanoBack_law (A : Option Addr) (c : Nat) (xs : List Int) (top gN gT gk gl : Int) (G1 : Option Addr) (a1 : Nat) (bs1 : List Nat) (gh : Int) (G2 : Option Addr) (a2 : Nat) (bs2 : List Nat) (w : World) (hcp : xs.length ≤ c) (hnl : A = none → c = 0) (hb : ∀ x ∈ xs, -9223372036854775808 ≤ x ∧ x ≤ 9223372036854775807) (h : RdV w w.heap.size A (zc xs)) (hs : xs.length ≤ 9223372036854775807) (hp : -9223372036854775808 ≤ top ∧ top ≤ 9223372036854775807) (hb1 : ∀ b ∈ bs1, b < 256) (h1 : Rd w w.heap.size G1 bs1) (hb2 : ∀ b ∈ bs2, b < 256) (h2 : Rd w w.heap.size G2 bs2) :
    Calls Try.prog 14 #[.slice A xs.length c, .int .i64 top, .agg #[.int .i64 gN, .int .i64 gT, .int .i64 gk, .int .i64 gl, .slice G1 bs1.length a1, .int .i64 gh, .slice G2 bs2.length a2]] w fun e w' => e = .returned (.bool true) ∧ Below w.heap.size w w' := by
  rcases readP gN gT gk gl G1 a1 bs1 hb1 gh G2 a2 bs2 hb2 w h1 h2 with ⟨er, r0, HR⟩ | ⟨l2, n2, t2, k2, rfl, rfl, rfl, rn, rn3, rt, rle, ru, rk, rz, rfl, rfl, rfl, rfl⟩
  · rcases writeP xs _ rfl hs top A c w h with ⟨e0, t0, _, HW⟩ | ⟨l, t, k, rfl, rfl, hn, hn3, ht, hle, hu, hk, hz, HW⟩
    · exact fback_ee A G1 G2 _ c 0 0 _ _ a1 a2 0 0 0 0 0 0 top e0 er gN gT gk gl gh [] [] [] [] [] [] w HW HR (by simpa using t0) r0
    · obtain ⟨n, hnn⟩ : ∃ n, (ns l).length = n := ⟨_, rfl⟩
      rw [hnn] at HW hn hn3 hk hz hs ⊢
      exact fback_ke A G1 G2 n c _ _ _ _ a1 a2 0 (n : Int) (t : Int) (k : Int) _ _ (t : Int) 0 er gN gT gk gl gh _ _ [] [] [] (ns l) w HW HR (fun A1 c1 A2 c2 V R1 R2 => fread_w l n t k hn hn3 ht hle hu hk hz A1 c1 A2 c2 V R1 R2) (fun A3 c3 V R hV => isame (ns l) n hnn hs A3 A c3 c V R (h.on hV)) r0
  · have HR : Hid (∀ V, Below w.heap.size w V → Calls Try.prog 50 #[.agg #[.int .i64 (n2 : Int), .int .i64 (t2 : Int), .int .i64 (k2 : Int), .int .i64 ((loP k2 l2).length : Int), .slice G1 (pack (loP k2 l2)).length a1, .int .i64 ((fhi k2 l2 t2).length : Int), .slice G2 (pack (fhi k2 l2 t2)).length a2]] V (RdP V n2 (ns l2) 0)) := fun V hV => fread_w l2 n2 t2 k2 rn rn3 rt rle ru rk rz G1 a1 G2 a2 V (h1.on hV) (h2.on hV)
    have HQ : Hid (∀ A3 c3 V, RdV V V.heap.size A3 (zc (ns l2)) → Calls Try.prog 49 #[.slice A3 n2 c3, .int .i64 (t2 : Int)] V (WrP V (n2 : Int) (t2 : Int) (k2 : Int) ((loP k2 l2).length : Int) ((fhi k2 l2 t2).length : Int) (pack (loP k2 l2)).length (pack (fhi k2 l2 t2)).length (pack (loP k2 l2)) (pack (fhi k2 l2 t2)) 0)) := fun A3 c3 V R => fwrite_ok l2 n2 t2 k2 _ rn rn3 rt rle ru rk rfl rz A3 c3 V R
    have hk20 : k2 ≤ 20 := by rw [← rk]; exact fw_bound n2 t2 rt
    have hll : n2 * k2 ≤ 300 * 20 := Nat.mul_le_mul rn3 hk20
    have q1 : (loP k2 l2).length ≤ 8192 := by rw [loP_len, rn]; omega
    have q2 : (fhi k2 l2 t2).length ≤ 8192 := by rw [fhi_len k2 l2 t2 ru rle, rn]; omega
    have HS : Hid (∀ B1 d1 B2 d2 V, Rd V V.heap.size B1 (pack (loP k2 l2)) → Rd V V.heap.size B2 (pack (fhi k2 l2 t2)) → Below w.heap.size w V → Calls Try.prog 56 #[.agg #[.int .i64 (n2 : Int), .int .i64 (t2 : Int), .int .i64 (k2 : Int), .int .i64 ((loP k2 l2).length : Int), .slice B1 (pack (loP k2 l2)).length d1, .int .i64 ((fhi k2 l2 t2).length : Int), .slice B2 (pack (fhi k2 l2 t2)).length d2], .agg #[.int .i64 (n2 : Int), .int .i64 (t2 : Int), .int .i64 (k2 : Int), .int .i64 ((loP k2 l2).length : Int), .slice G1 (pack (loP k2 l2)).length a1, .int .i64 ((fhi k2 l2 t2).length : Int), .slice G2 (pack (fhi k2 l2 t2)).length a2]] V fun e w' => e = .returned (.bool true) ∧ Below V.heap.size V w') := fun B1 d1 B2 d2 V R1 R2 hV => sfano_true _ _ _ _ _ _ _ d1 d2 a1 a2 B1 B2 G1 G2 V (fun U hU => same_l _ q1 B1 G1 d1 a1 U (R1.on hU) ((h1.on hV).on hU)) (fun U hU => same_l _ q2 B2 G2 d2 a2 U (R2.on hU) ((h2.on hV).on hU))
    rcases writeP xs _ rfl hs top A c w h with ⟨e0, t0, _, HW⟩ | ⟨l, t, k, rfl, rfl, hn, hn3, ht, hle, hu, hk, hz, HW⟩
    · exact fback_ek A G1 G2 _ c 0 0 _ _ a1 a2 n2 0 0 0 0 0 top e0 0 (n2 : Int) (t2 : Int) (k2 : Int) _ _ [] [] _ _ (ns l2) [] w HW HR HQ HS (by simpa using t0)
    · obtain ⟨n, hnn⟩ : ∃ n, (ns l).length = n := ⟨_, rfl⟩
      rw [hnn] at HW hn hn3 hk hz hs ⊢
      exact fback_kk A G1 G2 n c _ _ _ _ a1 a2 n2 (n : Int) (t : Int) (k : Int) _ _ (t : Int) 0 0 (n2 : Int) (t2 : Int) (k2 : Int) _ _ _ _ _ _ (ns l2) (ns l) w HW HR (fun A1 c1 A2 c2 V R1 R2 => fread_w l n t k hn hn3 ht hle hu hk hz A1 c1 A2 c2 V R1 R2) (fun A3 c3 V R hV => isame (ns l) n hnn hs A3 A c3 c V R (h.on hV)) HQ HS
end Go.Proofs.Ytkbelhclcpepaaa
