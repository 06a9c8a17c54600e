/- The law FanoNext: for whatever list, top and number it returns true. -/
import Derived.Test.YtkbelhclcpepaaaJYYSev
namespace Go.Proofs.Ytkbelhclcpepaaa
set_option maxRecDepth 100000
set_option linter.unusedVariables false
open Go.RowKit Go.Shelf

set_option maxHeartbeats 4000000 in
theorem next_e (A : Option Addr) (N c n1 n2 b o y p i j : Nat) (n t k ll lh x top e0 : Int) (b1 b2 : List Nat) (w : World)
    (HW : Hid (∀ V, Below w.heap.size w V → Calls Try.prog 49 #[.slice A N c, .int .i64 top] V (WrP V 0 0 0 0 0 0 0 [] [] e0)))
    (t0 : (e0 != 0) = true) :
    Calls Try.prog 17 #[.slice A N c, .int .i64 top, .int .i64 x] w fun e w' => e = .returned (.bool true) ∧ Below w.heap.size w w' := by
  go_enter Try.func17, Try.ntmps17
  go_wp2_with fail
  refine (HW.out _ (Below.refl _ _)).mono ?_
  rintro e w1_ ⟨A1, c1, A2, c2, rfl, Rq, Rq_HH, Bq⟩
  have Sq : Below w.heap.size w w1_ := Bq
  have HB : Hid (Below w.heap.size w w1_) := Sq
  clear Bq Sq
  have HL := Lib.hid Rq; clear Rq
  have HH := Lib.hid Rq_HH; clear Rq_HH
  go_wp2_with fail
  refine (ybegun_true _).mono ?_
  rintro e w2_ ⟨rfl, Bq⟩
  rw [World.size_alloc] at Bq
  have Sq : Below w1_.heap.size w1_ w2_ := (one_below w1_ _).trans (Bq.mono (by omega))
  replace HL : Hid (Rd w2_ w2_.heap.size A1 []) := HL.out.on Sq
  replace HH : Hid (Rd w2_ w2_.heap.size A2 []) := HH.out.on Sq
  replace HB : Hid (Below w.heap.size w w2_) := HB.out.trans (Sq.mono HB.out.size)
  have zf : w1_.heap.size < w2_.heap.size := by have := Bq.size; rw [World.size_alloc] at this; omega
  obtain ⟨pf0, pf1, pf2, pf3, pf4, pf5, pf6⟩ := box7_at Bq
  clear Bq Sq
  go_wp2
  go_ret
  exact ⟨rfl, HB.out⟩
set_option maxHeartbeats 4000000 in
theorem next_b0 (A : Option Addr) (N c n1 n2 b o y p i j : Nat) (n t k ll lh x top e0 : Int) (b1 b2 : List Nat) (w : World)
    (HW : Hid (∀ V, Below w.heap.size w V → Calls Try.prog 49 #[.slice A 0 c, .int .i64 t] V (WrP V n t k ll lh n1 n2 b1 b2 0)))
    (HN : Hid (∀ A1 c1 A2 c2 V, Rd V V.heap.size A1 b1 → Rd V V.heap.size A2 b2 → Calls Try.prog 52 #[.agg #[.int .i64 n, .int .i64 t, .int .i64 k, .int .i64 ll, .slice A1 n1 c1, .int .i64 lh, .slice A2 n2 c2], .int .i64 x] V (NxP V 0 0 5)))
     :
    Calls Try.prog 17 #[.slice A 0 c, .int .i64 t, .int .i64 x] w fun e w' => e = .returned (.bool true) ∧ Below w.heap.size w w' := by
  go_enter Try.func17, Try.ntmps17
  go_wp2_with fail
  refine (HW.out _ (Below.refl _ _)).mono ?_
  rintro e w1_ ⟨A1, c1, A2, c2, rfl, Rq, Rq_HH, Bq⟩
  have Sq : Below w.heap.size w w1_ := Bq
  have HB : Hid (Below w.heap.size w w1_) := Sq
  clear Bq Sq
  have HL := Lib.hid Rq; clear Rq
  have HH := Lib.hid Rq_HH; clear Rq_HH
  go_wp2_with fail
  refine (ybegun_true _).mono ?_
  rintro e w2_ ⟨rfl, Bq⟩
  rw [World.size_alloc] at Bq
  have Sq : Below w1_.heap.size w1_ w2_ := (one_below w1_ _).trans (Bq.mono (by omega))
  replace HL : Hid (Rd w2_ w2_.heap.size A1 b1) := HL.out.on Sq
  replace HH : Hid (Rd w2_ w2_.heap.size A2 b2) := HH.out.on Sq
  replace HB : Hid (Below w.heap.size w w2_) := HB.out.trans (Sq.mono HB.out.size)
  have zf : w1_.heap.size < w2_.heap.size := by have := Bq.size; rw [World.size_alloc] at this; omega
  obtain ⟨pf0, pf1, pf2, pf3, pf4, pf5, pf6⟩ := box7_at Bq
  clear Bq Sq
  go_wp2_with fail
  refine (HN.out A1 c1 A2 c2 _ HL.out HH.out).mono ?_
  rintro e w3_ ⟨rfl, Bq⟩
  have Sq : Below w2_.heap.size w2_ w3_ := Bq
  replace HL : Hid (Rd w3_ w3_.heap.size A1 b1) := HL.out.on Sq
  replace HH : Hid (Rd w3_ w3_.heap.size A2 b2) := HH.out.on Sq
  replace HB : Hid (Below w.heap.size w w3_) := HB.out.trans (Sq.mono HB.out.size)
  replace pf0 := (Sq.cell (p := ⟨w1_.heap.size, 0, none⟩) zf).trans pf0
  replace pf1 := (Sq.cell (p := ⟨w1_.heap.size, 1, none⟩) zf).trans pf1
  replace pf2 := (Sq.cell (p := ⟨w1_.heap.size, 2, none⟩) zf).trans pf2
  replace pf3 := (Sq.cell (p := ⟨w1_.heap.size, 3, none⟩) zf).trans pf3
  replace pf4 := (Sq.cell (p := ⟨w1_.heap.size, 4, none⟩) zf).trans pf4
  replace pf5 := (Sq.cell (p := ⟨w1_.heap.size, 5, none⟩) zf).trans pf5
  replace pf6 := (Sq.cell (p := ⟨w1_.heap.size, 6, none⟩) zf).trans pf6
  replace zf : w1_.heap.size < w3_.heap.size := Nat.lt_of_lt_of_le zf Sq.size
  clear Bq Sq
  go_wp2
  go_ret
  exact ⟨rfl, HB.out⟩
set_option maxHeartbeats 4000000 in
theorem next_b1 (A : Option Addr) (N c n1 n2 b o y p i j : Nat) (n t k ll lh x top e0 : Int) (b1 b2 : List Nat) (w : World)
    (HW : Hid (∀ V, Below w.heap.size w V → Calls Try.prog 49 #[.slice (some ⟨b, o, none⟩) N c, .int .i64 t] V (WrP V n t k ll lh n1 n2 b1 b2 0)))
    (HN : Hid (∀ A1 c1 A2 c2 V, Rd V V.heap.size A1 b1 → Rd V V.heap.size A2 b2 → Calls Try.prog 52 #[.agg #[.int .i64 n, .int .i64 t, .int .i64 k, .int .i64 ll, .slice A1 n1 c1, .int .i64 lh, .slice A2 n2 c2], .int .i64 x] V (NxP V 0 0 5)))
    (HC : Hid (∀ V, Below w.heap.size w V → V.cell? ⟨b, o + j, none⟩ = some (.int .i64 (y : Int))))
    (t0 : ((N : Int) == 0) = false) (t1 : (N : Int) - 1 = (j : Int)) (tw : IntKind.i64.wrap (j : Int) = (j : Int)) (tw2 : wrap64 (j : Int) = (j : Int)) (i0 : (0 : Int) ≤ (j : Int)) (i1 : (j : Int) < (N : Int)) (i2 : j < N) (t2 : decide ((y : Int) < x) = true) :
    Calls Try.prog 17 #[.slice (some ⟨b, o, none⟩) N c, .int .i64 t, .int .i64 x] w fun e w' => e = .returned (.bool true) ∧ Below w.heap.size w w' := by
  go_enter Try.func17, Try.ntmps17
  go_wp2_with fail
  refine (HW.out _ (Below.refl _ _)).mono ?_
  rintro e w1_ ⟨A1, c1, A2, c2, rfl, Rq, Rq_HH, Bq⟩
  have Sq : Below w.heap.size w w1_ := Bq
  have HB : Hid (Below w.heap.size w w1_) := Sq
  clear Bq Sq
  have HL := Lib.hid Rq; clear Rq
  have HH := Lib.hid Rq_HH; clear Rq_HH
  go_wp2_with fail
  refine (ybegun_true _).mono ?_
  rintro e w2_ ⟨rfl, Bq⟩
  rw [World.size_alloc] at Bq
  have Sq : Below w1_.heap.size w1_ w2_ := (one_below w1_ _).trans (Bq.mono (by omega))
  replace HL : Hid (Rd w2_ w2_.heap.size A1 b1) := HL.out.on Sq
  replace HH : Hid (Rd w2_ w2_.heap.size A2 b2) := HH.out.on Sq
  replace HB : Hid (Below w.heap.size w w2_) := HB.out.trans (Sq.mono HB.out.size)
  have zf : w1_.heap.size < w2_.heap.size := by have := Bq.size; rw [World.size_alloc] at this; omega
  obtain ⟨pf0, pf1, pf2, pf3, pf4, pf5, pf6⟩ := box7_at Bq
  clear Bq Sq
  go_wp2_with fail
  refine (HN.out A1 c1 A2 c2 _ HL.out HH.out).mono ?_
  rintro e w3_ ⟨rfl, Bq⟩
  have Sq : Below w2_.heap.size w2_ w3_ := Bq
  replace HL : Hid (Rd w3_ w3_.heap.size A1 b1) := HL.out.on Sq
  replace HH : Hid (Rd w3_ w3_.heap.size A2 b2) := HH.out.on Sq
  replace HB : Hid (Below w.heap.size w w3_) := HB.out.trans (Sq.mono HB.out.size)
  replace pf0 := (Sq.cell (p := ⟨w1_.heap.size, 0, none⟩) zf).trans pf0
  replace pf1 := (Sq.cell (p := ⟨w1_.heap.size, 1, none⟩) zf).trans pf1
  replace pf2 := (Sq.cell (p := ⟨w1_.heap.size, 2, none⟩) zf).trans pf2
  replace pf3 := (Sq.cell (p := ⟨w1_.heap.size, 3, none⟩) zf).trans pf3
  replace pf4 := (Sq.cell (p := ⟨w1_.heap.size, 4, none⟩) zf).trans pf4
  replace pf5 := (Sq.cell (p := ⟨w1_.heap.size, 5, none⟩) zf).trans pf5
  replace pf6 := (Sq.cell (p := ⟨w1_.heap.size, 6, none⟩) zf).trans pf6
  replace zf : w1_.heap.size < w3_.heap.size := Nat.lt_of_lt_of_le zf Sq.size
  clear Bq Sq
  have hHC := HC.out _ HB.out
  go_wp2
  go_ret
  exact ⟨rfl, HB.out⟩
set_option maxHeartbeats 4000000 in
theorem next_c0 (A : Option Addr) (N c n1 n2 b o y p i j : Nat) (n t k ll lh x top e0 : Int) (b1 b2 : List Nat) (w : World)
    (HW : Hid (∀ V, Below w.heap.size w V → Calls Try.prog 49 #[.slice (some ⟨b, o, none⟩) N c, .int .i64 t] V (WrP V n t k ll lh n1 n2 b1 b2 0)))
    (HN : Hid (∀ A1 c1 A2 c2 V, Rd V V.heap.size A1 b1 → Rd V V.heap.size A2 b2 → Calls Try.prog 52 #[.agg #[.int .i64 n, .int .i64 t, .int .i64 k, .int .i64 ll, .slice A1 n1 c1, .int .i64 lh, .slice A2 n2 c2], .int .i64 x] V (NxP V 0 y 0)))
    (HC : Hid (∀ V, Below w.heap.size w V → V.cell? ⟨b, o, none⟩ = some (.int .i64 (y : Int))))
    (i1 : (0 : Int) < (N : Int)) (i2 : 0 < N) (t2 : decide (x ≤ (y : Int)) = true) :
    Calls Try.prog 17 #[.slice (some ⟨b, o, none⟩) N c, .int .i64 t, .int .i64 x] w fun e w' => e = .returned (.bool true) ∧ Below w.heap.size w w' := by
  go_enter Try.func17, Try.ntmps17
  go_wp2_with fail
  refine (HW.out _ (Below.refl _ _)).mono ?_
  rintro e w1_ ⟨A1, c1, A2, c2, rfl, Rq, Rq_HH, Bq⟩
  have Sq : Below w.heap.size w w1_ := Bq
  have HB : Hid (Below w.heap.size w w1_) := Sq
  clear Bq Sq
  have HL := Lib.hid Rq; clear Rq
  have HH := Lib.hid Rq_HH; clear Rq_HH
  go_wp2_with fail
  refine (ybegun_true _).mono ?_
  rintro e w2_ ⟨rfl, Bq⟩
  rw [World.size_alloc] at Bq
  have Sq : Below w1_.heap.size w1_ w2_ := (one_below w1_ _).trans (Bq.mono (by omega))
  replace HL : Hid (Rd w2_ w2_.heap.size A1 b1) := HL.out.on Sq
  replace HH : Hid (Rd w2_ w2_.heap.size A2 b2) := HH.out.on Sq
  replace HB : Hid (Below w.heap.size w w2_) := HB.out.trans (Sq.mono HB.out.size)
  have zf : w1_.heap.size < w2_.heap.size := by have := Bq.size; rw [World.size_alloc] at this; omega
  obtain ⟨pf0, pf1, pf2, pf3, pf4, pf5, pf6⟩ := box7_at Bq
  clear Bq Sq
  go_wp2_with fail
  refine (HN.out A1 c1 A2 c2 _ HL.out HH.out).mono ?_
  rintro e w3_ ⟨rfl, Bq⟩
  have Sq : Below w2_.heap.size w2_ w3_ := Bq
  replace HL : Hid (Rd w3_ w3_.heap.size A1 b1) := HL.out.on Sq
  replace HH : Hid (Rd w3_ w3_.heap.size A2 b2) := HH.out.on Sq
  replace HB : Hid (Below w.heap.size w w3_) := HB.out.trans (Sq.mono HB.out.size)
  replace pf0 := (Sq.cell (p := ⟨w1_.heap.size, 0, none⟩) zf).trans pf0
  replace pf1 := (Sq.cell (p := ⟨w1_.heap.size, 1, none⟩) zf).trans pf1
  replace pf2 := (Sq.cell (p := ⟨w1_.heap.size, 2, none⟩) zf).trans pf2
  replace pf3 := (Sq.cell (p := ⟨w1_.heap.size, 3, none⟩) zf).trans pf3
  replace pf4 := (Sq.cell (p := ⟨w1_.heap.size, 4, none⟩) zf).trans pf4
  replace pf5 := (Sq.cell (p := ⟨w1_.heap.size, 5, none⟩) zf).trans pf5
  replace pf6 := (Sq.cell (p := ⟨w1_.heap.size, 6, none⟩) zf).trans pf6
  replace zf : w1_.heap.size < w3_.heap.size := Nat.lt_of_lt_of_le zf Sq.size
  clear Bq Sq
  have hHC := HC.out _ HB.out
  go_wp2
  go_ret
  exact ⟨rfl, HB.out⟩
set_option maxHeartbeats 4000000 in
theorem next_c1 (A : Option Addr) (N c n1 n2 b o y p i j : Nat) (n t k ll lh x top e0 : Int) (b1 b2 : List Nat) (w : World)
    (HW : Hid (∀ V, Below w.heap.size w V → Calls Try.prog 49 #[.slice (some ⟨b, o, none⟩) N c, .int .i64 t] V (WrP V n t k ll lh n1 n2 b1 b2 0)))
    (HN : Hid (∀ A1 c1 A2 c2 V, Rd V V.heap.size A1 b1 → Rd V V.heap.size A2 b2 → Calls Try.prog 52 #[.agg #[.int .i64 n, .int .i64 t, .int .i64 k, .int .i64 ll, .slice A1 n1 c1, .int .i64 lh, .slice A2 n2 c2], .int .i64 x] V (NxP V i y 0)))
    (HC : Hid (∀ V, Below w.heap.size w V → V.cell? ⟨b, o + i, none⟩ = some (.int .i64 (y : Int))))
    (HD : Hid (∀ V, Below w.heap.size w V → V.cell? ⟨b, o + j, none⟩ = some (.int .i64 (p : Int))))
    (t0 : ((i : Int) == 0) = false) (t1 : (i : Int) - 1 = (j : Int)) (tw : IntKind.i64.wrap (j : Int) = (j : Int)) (tw2 : wrap64 (j : Int) = (j : Int)) (i0 : (0 : Int) ≤ (i : Int)) (i1 : (i : Int) < (N : Int)) (i2 : i < N) (i3 : (0 : Int) ≤ (j : Int)) (i4 : (j : Int) < (N : Int)) (i5 : j < N) (t2 : decide (x ≤ (y : Int)) = true) (t3 : decide ((p : Int) < x) = true) :
    Calls Try.prog 17 #[.slice (some ⟨b, o, none⟩) N c, .int .i64 t, .int .i64 x] w fun e w' => e = .returned (.bool true) ∧ Below w.heap.size w w' := by
  go_enter Try.func17, Try.ntmps17
  go_wp2_with fail
  refine (HW.out _ (Below.refl _ _)).mono ?_
  rintro e w1_ ⟨A1, c1, A2, c2, rfl, Rq, Rq_HH, Bq⟩
  have Sq : Below w.heap.size w w1_ := Bq
  have HB : Hid (Below w.heap.size w w1_) := Sq
  clear Bq Sq
  have HL := Lib.hid Rq; clear Rq
  have HH := Lib.hid Rq_HH; clear Rq_HH
  go_wp2_with fail
  refine (ybegun_true _).mono ?_
  rintro e w2_ ⟨rfl, Bq⟩
  rw [World.size_alloc] at Bq
  have Sq : Below w1_.heap.size w1_ w2_ := (one_below w1_ _).trans (Bq.mono (by omega))
  replace HL : Hid (Rd w2_ w2_.heap.size A1 b1) := HL.out.on Sq
  replace HH : Hid (Rd w2_ w2_.heap.size A2 b2) := HH.out.on Sq
  replace HB : Hid (Below w.heap.size w w2_) := HB.out.trans (Sq.mono HB.out.size)
  have zf : w1_.heap.size < w2_.heap.size := by have := Bq.size; rw [World.size_alloc] at this; omega
  obtain ⟨pf0, pf1, pf2, pf3, pf4, pf5, pf6⟩ := box7_at Bq
  clear Bq Sq
  go_wp2_with fail
  refine (HN.out A1 c1 A2 c2 _ HL.out HH.out).mono ?_
  rintro e w3_ ⟨rfl, Bq⟩
  have Sq : Below w2_.heap.size w2_ w3_ := Bq
  replace HL : Hid (Rd w3_ w3_.heap.size A1 b1) := HL.out.on Sq
  replace HH : Hid (Rd w3_ w3_.heap.size A2 b2) := HH.out.on Sq
  replace HB : Hid (Below w.heap.size w w3_) := HB.out.trans (Sq.mono HB.out.size)
  replace pf0 := (Sq.cell (p := ⟨w1_.heap.size, 0, none⟩) zf).trans pf0
  replace pf1 := (Sq.cell (p := ⟨w1_.heap.size, 1, none⟩) zf).trans pf1
  replace pf2 := (Sq.cell (p := ⟨w1_.heap.size, 2, none⟩) zf).trans pf2
  replace pf3 := (Sq.cell (p := ⟨w1_.heap.size, 3, none⟩) zf).trans pf3
  replace pf4 := (Sq.cell (p := ⟨w1_.heap.size, 4, none⟩) zf).trans pf4
  replace pf5 := (Sq.cell (p := ⟨w1_.heap.size, 5, none⟩) zf).trans pf5
  replace pf6 := (Sq.cell (p := ⟨w1_.heap.size, 6, none⟩) zf).trans pf6
  replace zf : w1_.heap.size < w3_.heap.size := Nat.lt_of_lt_of_le zf Sq.size
  clear Bq Sq
  have hHC := HC.out _ HB.out
  have hHD := HD.out _ HB.out
  go_wp2
  go_ret
  exact ⟨rfl, HB.out⟩
theorem fanoNext_law (A : Option Addr) (c : Nat) (xs : List Int) (top x : Int) (w : World) (hcp : xs.length ≤ c) (hnl : A = none → c = 0) (hb : ∀ x ∈ xs, -9223372036854775808 ≤ x ∧ x ≤ 9223372036854775807) (h : RdV w w.heap.size A (zc xs)) (hs : xs.length ≤ 9223372036854775807) (hp : -9223372036854775808 ≤ top ∧ top ≤ 9223372036854775807) (hx : -9223372036854775808 ≤ x ∧ x ≤ 9223372036854775807) :
    Calls Try.prog 17 #[.slice A xs.length c, .int .i64 top, .int .i64 x] w fun e w' => e = .returned (.bool true) ∧ Below w.heap.size w w' := by
  rcases writeP xs _ rfl hs top A c w h with ⟨e0, t0, _, HW⟩ | ⟨l, t, k, rfl, rfl, hn, hn3, ht, hle, hu, hk, hz, HW⟩
  · exact next_e A _ c 0 0 0 0 0 0 0 0 0 0 0 0 0 x top e0 [] [] w HW t0
  · obtain ⟨n, hnn⟩ : ∃ n, (ns l).length = n := ⟨_, rfl⟩
    rw [hnn] at HW hn hn3 hk hz hs ⊢
    have hcell : ∀ i, i < n → ∃ b o, A = some ⟨b, o, none⟩ ∧ Hid (∀ V, Below w.heap.size w V → ∀ j, j < n → V.cell? ⟨b, o + j, none⟩ = some (.int .i64 ((l[j]?.getD 0 : Nat) : Int))) := fun i hi => by
      obtain ⟨b, o, hA, hb, hc⟩ := h.at_ (ns_get l i (by omega))
      refine ⟨b, o, hA, fun V hV j hj => ?_⟩
      obtain ⟨b', o', hA', hb', hc'⟩ := h.at_ (ns_get l j (by omega))
      rw [hA] at hA'
      injection hA' with hA'
      injection hA' with e1 e2
      subst e1 e2
      exact (hV.cell (p := ⟨b, o + j, none⟩) hb').trans hc'
    rcases fnext_w l n t k hn hn3 ht hle hu hk hz x with ⟨hall, HN⟩ | ⟨i, hi, hxi, hmin, HN⟩
    · rcases Nat.eq_zero_or_pos n with rfl | hpos
      · exact next_b0 A 0 c _ _ 0 0 0 0 0 0 0 (t : Int) (k : Int) _ _ x 0 0 _ _ w HW HN
      · obtain ⟨b, o, rfl, HC⟩ := hcell 0 hpos
        exact next_b1 none n c _ _ b o _ 0 0 (n - 1) (n : Int) (t : Int) (k : Int) _ _ x 0 0 _ _ w HW HN (fun V hV => HC.out V hV (n - 1) (by omega)) (by simp; omega) (by omega) (by rw [IntKind.wrap_i64]; omega) (by unfold wrap64; omega) (by omega) (by omega) (by omega) (by simpa using hall (n - 1) (by omega))
    · obtain ⟨b, o, rfl, HC⟩ := hcell i hi
      rcases Nat.eq_zero_or_pos i with rfl | hpos
      · exact next_c0 none n c _ _ b o _ 0 0 0 (n : Int) (t : Int) (k : Int) _ _ x 0 0 _ _ w HW HN (fun V hV => HC.out V hV 0 hi) (by omega) hi (by simpa using hxi)
      · exact next_c1 none n c _ _ b o _ (l[i - 1]?.getD 0) i (i - 1) (n : Int) (t : Int) (k : Int) _ _ x 0 0 _ _ w HW HN (fun V hV => HC.out V hV i hi) (fun V hV => HC.out V hV (i - 1) (by omega)) (by simp; omega) (by omega) (by rw [IntKind.wrap_i64]; omega) (by unfold wrap64; omega) (by omega) (by omega) (by omega) (by omega) (by omega) (by omega) (by simpa using hxi) (by simpa using hmin (i - 1) (by omega))
end Go.Proofs.Ytkbelhclcpepaaa
