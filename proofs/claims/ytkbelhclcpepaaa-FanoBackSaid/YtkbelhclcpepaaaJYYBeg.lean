/- What is asked in any case of lists that do not fall: it answers true, in whatever world. -/
import Derived.Test.YtkbelhclcpepaaaJYYNext
import Derived.Test.YtkbelhclcpepaaaJYOBeg
namespace Go.Proofs.Ytkbelhclcpepaaa
set_option maxRecDepth 100000
set_option linter.unusedVariables false
open Go.RowKit Go.Shelf

theorem box7_at {w V : World} {a b c d e f g : Value} {t : TypeId} (h : Below (w.heap.size + 1) (w.alloc (.cells #[a, b, c, d, e, f, g] t)) V) :
    V.cell? ⟨w.heap.size, 0, none⟩ = some a ∧ V.cell? ⟨w.heap.size, 1, none⟩ = some b ∧ V.cell? ⟨w.heap.size, 2, none⟩ = some c ∧ V.cell? ⟨w.heap.size, 3, none⟩ = some d ∧ V.cell? ⟨w.heap.size, 4, none⟩ = some e ∧ V.cell? ⟨w.heap.size, 5, none⟩ = some f ∧ V.cell? ⟨w.heap.size, 6, none⟩ = some g :=
  (cells7 ((h.block w.heap.size (by omega)).trans (World.alloc_heap_new w (.cells #[a, b, c, d, e, f, g] t)))).1
theorem rdv_ints (w : World) (xs : List Int) : RdV (w.alloc (.cells (zc xs).toArray 3)) (w.alloc (.cells (zc xs).toArray 3)).heap.size (some ⟨w.heap.size, 0, none⟩) (zc xs) := by
  refine .inr ⟨w.heap.size, 0, rfl, by simp, fun i v hi => ?_⟩
  rw [cell_at (World.alloc_heap_new w (.cells (zc xs).toArray 3)), Nat.zero_add]
  simpa using hi
theorem yb1 (A : Option Addr) (c : Nat) (w : World) (h : RdV w w.heap.size A (zc [1, 1, 5, 12])) : Calls Try.prog 49 #[.slice A 4 c, .int .i64 15] w fun e w' => ∃ A1 c1 A2 c2, e = .returned (.tuple #[.agg #[.int .i64 4, .int .i64 15, .int .i64 2, .int .i64 8, .slice A1 1 c1, .int .i64 8, .slice A2 1 c2], .int .i64 0]) ∧ Rd w' w'.heap.size A1 [84] ∧ Rd w' w'.heap.size A2 [210] ∧ Below w.heap.size w w' := by
  have := fwrite_ok [1, 1, 5, 12] 4 15 2 8 rfl (by decide) (by decide) (by decide) ⟨by decide, by decide, by decide, by decide, trivial⟩ (by decide +kernel) (by decide) (by decide) A c w h
  have e1 : pack (loP 2 [1, 1, 5, 12]) = [84] := by decide +kernel
  have e2 : pack (fhi 2 [1, 1, 5, 12] 15) = [210] := by decide +kernel
  have e3 : (loP 2 [1, 1, 5, 12]).length = 8 := by decide +kernel
  have e4 : (fhi 2 [1, 1, 5, 12] 15).length = 8 := by decide +kernel
  unfold FnP at this
  rw [e1, e2, e3, e4] at this
  exact this
theorem yb2 (A1 A2 : Option Addr) (c1 c2 : Nat) (w : World) (h1 : Rd w w.heap.size A1 [84]) (h2 : Rd w w.heap.size A2 [210]) : Calls Try.prog 50 #[.agg #[.int .i64 4, .int .i64 15, .int .i64 2, .int .i64 8, .slice A1 1 c1, .int .i64 8, .slice A2 1 c2]] w (RdP w 4 [1, 1, 5, 12] 0) := by
  have := fread_any 4 15 2 8 A1 c1 [84] (by decide) 8 A2 c2 [210] (by decide) w h1 h2
  rw [show frL 4 15 2 8 [84] 8 [210] = [1, 1, 5, 12] by decide +kernel, show frE 4 15 2 8 [84] 8 [210] = 0 by decide +kernel] at this
  exact this
theorem yb3 (A1 A2 : Option Addr) (c1 c2 : Nat) (w : World) (h1 : Rd w w.heap.size A1 [84]) (h2 : Rd w w.heap.size A2 [210]) : Calls Try.prog 51 #[.agg #[.int .i64 4, .int .i64 15, .int .i64 2, .int .i64 8, .slice A1 1 c1, .int .i64 8, .slice A2 1 c2], .int .i64 2] w (RkP w 5 0) :=
  fget_ok [1, 1, 5, 12] 4 15 2 8 8 A1 A2 1 c1 1 c2 4 rfl rfl 2 (by decide) 5 rfl w (fun V hV => yb2 A1 A2 c1 c2 V (h1.on hV) (h2.on hV))
theorem up_get : ∀ (l : List Nat) (p : Nat), Up p l → ∀ i j, i < j → j < l.length → l[i]?.getD 0 ≤ l[j]?.getD 0
  | [], _, _, i, j, _, hj => by simp at hj
  | x :: t, p, hu, 0, j + 1, _, hj => by
    have := up_all t x hu.2 (t[j]?.getD 0) (by rw [List.getElem?_eq_getElem (by simpa using hj)]; exact List.getElem_mem _)
    simpa using this
  | x :: t, p, hu, i + 1, j + 1, h, hj => by
    have := up_get t x hu.2 i j (by omega) (by simpa using hj)
    simpa using this
theorem yb4 (A1 A2 : Option Addr) (c1 c2 : Nat) (w : World) (h1 : Rd w w.heap.size A1 [84]) (h2 : Rd w w.heap.size A2 [210]) : Calls Try.prog 52 #[.agg #[.int .i64 4, .int .i64 15, .int .i64 2, .int .i64 8, .slice A1 1 c1, .int .i64 8, .slice A2 1 c2], .int .i64 6] w (NxP w 3 12 0) := by
  refine fnext_ok [1, 1, 5, 12] (up_get _ 0 ⟨by decide, by decide, by decide, by decide, trivial⟩) (by decide) 4 15 2 8 8 A1 A2 1 c1 1 c2 4 rfl (by decide) rfl 6 3 12 0 (fun i hi q1 q2 => ?_) w (fun V hV => yb2 A1 A2 c1 c2 V (h1.on hV) (h2.on hV))
  rcases (show i = 0 ∨ i = 1 ∨ i = 2 ∨ i = 3 ∨ i = 4 by omega) with rfl | rfl | rfl | rfl | rfl
  · have := q2 0 (by decide) (by decide); simp at this
  · have := q2 1 (by decide) (by decide); simp at this
  · have := q2 2 (by decide) (by decide); simp at this
  · exact .inr ⟨by decide, rfl, rfl, rfl⟩
  · have := q1 3 (by decide); simp at this
theorem yb5 (A1 A2 : Option Addr) (c1 c2 : Nat) (w : World) (h1 : Rd w w.heap.size A1 [84]) (h2 : Rd w w.heap.size A2 [210]) : Calls Try.prog 52 #[.agg #[.int .i64 4, .int .i64 15, .int .i64 2, .int .i64 8, .slice A1 1 c1, .int .i64 8, .slice A2 1 c2], .int .i64 13] w (NxP w 0 0 5) := by
  refine fnext_ok [1, 1, 5, 12] (up_get _ 0 ⟨by decide, by decide, by decide, by decide, trivial⟩) (by decide) 4 15 2 8 8 A1 A2 1 c1 1 c2 4 rfl (by decide) rfl 13 0 0 5 (fun i hi q1 q2 => ?_) w (fun V hV => yb2 A1 A2 c1 c2 V (h1.on hV) (h2.on hV))
  rcases (show i = 0 ∨ i = 1 ∨ i = 2 ∨ i = 3 ∨ i = 4 by omega) with rfl | rfl | rfl | rfl | rfl
  · have := q2 0 (by decide) (by decide); simp at this
  · have := q2 1 (by decide) (by decide); simp at this
  · have := q2 2 (by decide) (by decide); simp at this
  · have := q2 3 (by decide) (by decide); simp at this
  · exact .inl ⟨rfl, rfl, rfl, rfl⟩
theorem yb6 (A : Option Addr) (c : Nat) (w : World) (h : RdV w w.heap.size A (zc [2, 1])) : Calls Try.prog 49 #[.slice A 2 c, .int .i64 5] w fun e w' => ∃ A1 c1 A2 c2, e = .returned (.tuple #[.agg #[.int .i64 0, .int .i64 0, .int .i64 0, .int .i64 0, .slice A1 0 c1, .int .i64 0, .slice A2 0 c2], .int .i64 4]) ∧ Rd w' w'.heap.size A1 [] ∧ Rd w' w'.heap.size A2 [] ∧ Below w.heap.size w w' :=
  fwrite_e [2, 1] 2 rfl (by decide) 5 4 (by decide +kernel) (by decide) A c w h
theorem yb7 (w : World) : Calls Try.prog 57 #[.agg #[.int .i64 0, .int .i64 0, .int .i64 0, .int .i64 0, .slice none 0 0, .int .i64 0, .slice none 0 0]] w fun e w' => e = .returned (.int .i64 1) ∧ Below w.heap.size w w' :=
  fcheckF_any 0 0 0 0 0 none none 0 0 0 0 0 [] 1 w (fun V hV => by
    have := fread_any 0 0 0 0 none 0 [] (by decide) 0 none 0 [] (by decide) V (.inl rfl) (.inl rfl)
    rw [show frL 0 0 0 0 [] 0 [] = [] by decide +kernel, show frE 0 0 0 0 [] 0 [] = 1 by decide +kernel] at this
    exact this)
set_option maxHeartbeats 4000000 in
theorem ybegun_true (w : World) : Calls Try.prog 55 #[] w fun e w' => e = .returned (.bool true) ∧ Below w.heap.size w w' := by
  go_enter Try.func55, Try.ntmps55
  go_wp2_with fail
  refine (yb1 (some ⟨w.heap.size, 0, none⟩) 4 _ (rdv_ints w [1, 1, 5, 12])).mono ?_
  rintro e w1_ ⟨A1, c1, A2, c2, rfl, Rq, Rq_HH, Bq⟩
  rw [World.size_alloc] at Bq
  have Sq : Below w.heap.size w w1_ := (one_below w _).trans (Bq.mono (by omega))
  have HB : Hid (Below w.heap.size w w1_) := Sq
  clear Bq Sq
  have HL := Lib.hid Rq; clear Rq
  have HH := Lib.hid Rq_HH; clear Rq_HH
  go_wp2_with fail
  refine (yb2 A1 A2 c1 c2 _ (HL.out.on (one_below w1_ _)) (HH.out.on (one_below w1_ _))).mono ?_
  rintro e w2_ ⟨A3, c3, rfl, Rq, Bq⟩
  rw [World.size_alloc] at Bq
  have Sq : Below w1_.heap.size w1_ w2_ := (one_below w1_ _).trans (Bq.mono (by omega))
  replace HL : Hid (Rd w2_ w2_.heap.size A1 [84]) := HL.out.on Sq
  replace HH : Hid (Rd w2_ w2_.heap.size A2 [210]) := HH.out.on Sq
  replace HB : Hid (Below w.heap.size w w2_) := HB.out.trans (Sq.mono HB.out.size)
  have zf : w1_.heap.size < w2_.heap.size := by have := Bq.size; rw [World.size_alloc] at this; omega
  obtain ⟨pf0, pf1, pf2, pf3, pf4, pf5, pf6⟩ := box7_at Bq
  clear Bq Sq
  have HX := Lib.hid Rq; clear Rq
  go_wp2_with fail
  refine (yb3 A1 A2 c1 c2 _ HL.out HH.out).mono ?_
  rintro e w3_ ⟨rfl, Bq⟩
  have Sq : Below w2_.heap.size w2_ w3_ := Bq
  replace HL : Hid (Rd w3_ w3_.heap.size A1 [84]) := HL.out.on Sq
  replace HH : Hid (Rd w3_ w3_.heap.size A2 [210]) := HH.out.on Sq
  replace HX : Hid (RdV w3_ w3_.heap.size A3 (zc [1, 1, 5, 12])) := HX.out.on Sq
  replace HB : Hid (Below w.heap.size w w3_) := HB.out.trans (Sq.mono HB.out.size)
  replace pf0 := (Sq.cell (p := ⟨w1_.heap.size, 0, none⟩) zf).trans pf0
  replace pf1 := (Sq.cell (p := ⟨w1_.heap.size, 1, none⟩) zf).trans pf1
  replace pf2 := (Sq.cell (p := ⟨w1_.heap.size, 2, none⟩) zf).trans pf2
  replace pf3 := (Sq.cell (p := ⟨w1_.heap.size, 3, none⟩) zf).trans pf3
  replace pf4 := (Sq.cell (p := ⟨w1_.heap.size, 4, none⟩) zf).trans pf4
  replace pf5 := (Sq.cell (p := ⟨w1_.heap.size, 5, none⟩) zf).trans pf5
  replace pf6 := (Sq.cell (p := ⟨w1_.heap.size, 6, none⟩) zf).trans pf6
  replace zf : w1_.heap.size < w3_.heap.size := Nat.lt_of_lt_of_le zf Sq.size
  clear Bq Sq
  go_wp2_with fail
  refine (yb4 A1 A2 c1 c2 _ HL.out HH.out).mono ?_
  rintro e w4_ ⟨rfl, Bq⟩
  have Sq : Below w3_.heap.size w3_ w4_ := Bq
  replace HL : Hid (Rd w4_ w4_.heap.size A1 [84]) := HL.out.on Sq
  replace HH : Hid (Rd w4_ w4_.heap.size A2 [210]) := HH.out.on Sq
  replace HX : Hid (RdV w4_ w4_.heap.size A3 (zc [1, 1, 5, 12])) := HX.out.on Sq
  replace HB : Hid (Below w.heap.size w w4_) := HB.out.trans (Sq.mono HB.out.size)
  replace pf0 := (Sq.cell (p := ⟨w1_.heap.size, 0, none⟩) zf).trans pf0
  replace pf1 := (Sq.cell (p := ⟨w1_.heap.size, 1, none⟩) zf).trans pf1
  replace pf2 := (Sq.cell (p := ⟨w1_.heap.size, 2, none⟩) zf).trans pf2
  replace pf3 := (Sq.cell (p := ⟨w1_.heap.size, 3, none⟩) zf).trans pf3
  replace pf4 := (Sq.cell (p := ⟨w1_.heap.size, 4, none⟩) zf).trans pf4
  replace pf5 := (Sq.cell (p := ⟨w1_.heap.size, 5, none⟩) zf).trans pf5
  replace pf6 := (Sq.cell (p := ⟨w1_.heap.size, 6, none⟩) zf).trans pf6
  replace zf : w1_.heap.size < w4_.heap.size := Nat.lt_of_lt_of_le zf Sq.size
  clear Bq Sq
  go_wp2_with fail
  refine (yb5 A1 A2 c1 c2 _ HL.out HH.out).mono ?_
  rintro e w5_ ⟨rfl, Bq⟩
  have Sq : Below w4_.heap.size w4_ w5_ := Bq
  replace HL : Hid (Rd w5_ w5_.heap.size A1 [84]) := HL.out.on Sq
  replace HH : Hid (Rd w5_ w5_.heap.size A2 [210]) := HH.out.on Sq
  replace HX : Hid (RdV w5_ w5_.heap.size A3 (zc [1, 1, 5, 12])) := HX.out.on Sq
  replace HB : Hid (Below w.heap.size w w5_) := HB.out.trans (Sq.mono HB.out.size)
  replace pf0 := (Sq.cell (p := ⟨w1_.heap.size, 0, none⟩) zf).trans pf0
  replace pf1 := (Sq.cell (p := ⟨w1_.heap.size, 1, none⟩) zf).trans pf1
  replace pf2 := (Sq.cell (p := ⟨w1_.heap.size, 2, none⟩) zf).trans pf2
  replace pf3 := (Sq.cell (p := ⟨w1_.heap.size, 3, none⟩) zf).trans pf3
  replace pf4 := (Sq.cell (p := ⟨w1_.heap.size, 4, none⟩) zf).trans pf4
  replace pf5 := (Sq.cell (p := ⟨w1_.heap.size, 5, none⟩) zf).trans pf5
  replace pf6 := (Sq.cell (p := ⟨w1_.heap.size, 6, none⟩) zf).trans pf6
  replace zf : w1_.heap.size < w5_.heap.size := Nat.lt_of_lt_of_le zf Sq.size
  clear Bq Sq
  go_wp2_with fail
  refine (yb6 (some ⟨w5_.heap.size, 0, none⟩) 2 _ (rdv_ints w5_ [2, 1])).mono ?_
  rintro e w6_ ⟨A4, c4, A5, c5, rfl, Rq4, Rq5, Bq⟩
  rw [World.size_alloc] at Bq
  have Sq : Below w5_.heap.size w5_ w6_ := (one_below w5_ _).trans (Bq.mono (by omega))
  replace HL : Hid (Rd w6_ w6_.heap.size A1 [84]) := HL.out.on Sq
  replace HH : Hid (Rd w6_ w6_.heap.size A2 [210]) := HH.out.on Sq
  replace HX : Hid (RdV w6_ w6_.heap.size A3 (zc [1, 1, 5, 12])) := HX.out.on Sq
  replace HB : Hid (Below w.heap.size w w6_) := HB.out.trans (Sq.mono HB.out.size)
  replace pf0 := (Sq.cell (p := ⟨w1_.heap.size, 0, none⟩) zf).trans pf0
  replace pf1 := (Sq.cell (p := ⟨w1_.heap.size, 1, none⟩) zf).trans pf1
  replace pf2 := (Sq.cell (p := ⟨w1_.heap.size, 2, none⟩) zf).trans pf2
  replace pf3 := (Sq.cell (p := ⟨w1_.heap.size, 3, none⟩) zf).trans pf3
  replace pf4 := (Sq.cell (p := ⟨w1_.heap.size, 4, none⟩) zf).trans pf4
  replace pf5 := (Sq.cell (p := ⟨w1_.heap.size, 5, none⟩) zf).trans pf5
  replace pf6 := (Sq.cell (p := ⟨w1_.heap.size, 6, none⟩) zf).trans pf6
  replace zf : w1_.heap.size < w6_.heap.size := Nat.lt_of_lt_of_le zf Sq.size
  clear Bq Sq
  clear Rq4 Rq5
  go_wp2_with fail
  have Lz : (w6_.alloc (.cells #[.int .i64 0, .int .i64 0, .int .i64 0, .int .i64 0, .slice A4 0 c4, .int .i64 0, .slice A5 0 c5] 70)).heap.size = w6_.heap.size + 1 := World.size_alloc _ _
  have Lb : Below w6_.heap.size w6_ (w6_.alloc (.cells #[.int .i64 0, .int .i64 0, .int .i64 0, .int .i64 0, .slice A4 0 c4, .int .i64 0, .slice A5 0 c5] 70)) := one_below _ _
  obtain ⟨U, hU⟩ : ∃ U, U = w6_.alloc (.cells #[.int .i64 0, .int .i64 0, .int .i64 0, .int .i64 0, .slice A4 0 c4, .int .i64 0, .slice A5 0 c5] 70) := ⟨_, rfl⟩
  rw [← hU] at Lz Lb ⊢
  clear hU
  rw [← Lz]
  replace pf0 := (Lb.cell (p := ⟨w1_.heap.size, 0, none⟩) zf).trans pf0
  replace pf1 := (Lb.cell (p := ⟨w1_.heap.size, 1, none⟩) zf).trans pf1
  replace pf2 := (Lb.cell (p := ⟨w1_.heap.size, 2, none⟩) zf).trans pf2
  replace pf3 := (Lb.cell (p := ⟨w1_.heap.size, 3, none⟩) zf).trans pf3
  replace pf4 := (Lb.cell (p := ⟨w1_.heap.size, 4, none⟩) zf).trans pf4
  replace pf5 := (Lb.cell (p := ⟨w1_.heap.size, 5, none⟩) zf).trans pf5
  replace pf6 := (Lb.cell (p := ⟨w1_.heap.size, 6, none⟩) zf).trans pf6
  replace zf : w1_.heap.size < U.heap.size := Nat.lt_of_lt_of_le zf Lb.size
  replace HL : Hid (Rd U U.heap.size A1 [84]) := HL.out.on Lb
  replace HH : Hid (Rd U U.heap.size A2 [210]) := HH.out.on Lb
  replace HX : Hid (RdV U U.heap.size A3 (zc [1, 1, 5, 12])) := HX.out.on Lb
  replace HB : Hid (Below w.heap.size w U) := HB.out.trans (Lb.mono HB.out.size)
  clear Lb Lz
  refine (bsame 8 [84] 1 rfl (by decide) A1 (some ⟨U.heap.size, 0, none⟩) c1 1 _ (HL.out.on (one_below U _)) (rd_lit1 U 84)).mono ?_
  rintro e w7_ ⟨rfl, Bq⟩
  rw [World.size_alloc] at Bq
  have Sq : Below U.heap.size U w7_ := (one_below U _).trans (Bq.mono (by omega))
  replace HL : Hid (Rd w7_ w7_.heap.size A1 [84]) := HL.out.on Sq
  replace HH : Hid (Rd w7_ w7_.heap.size A2 [210]) := HH.out.on Sq
  replace HX : Hid (RdV w7_ w7_.heap.size A3 (zc [1, 1, 5, 12])) := HX.out.on Sq
  replace HB : Hid (Below w.heap.size w w7_) := HB.out.trans (Sq.mono HB.out.size)
  replace pf0 := (Sq.cell (p := ⟨w1_.heap.size, 0, none⟩) zf).trans pf0
  replace pf1 := (Sq.cell (p := ⟨w1_.heap.size, 1, none⟩) zf).trans pf1
  replace pf2 := (Sq.cell (p := ⟨w1_.heap.size, 2, none⟩) zf).trans pf2
  replace pf3 := (Sq.cell (p := ⟨w1_.heap.size, 3, none⟩) zf).trans pf3
  replace pf4 := (Sq.cell (p := ⟨w1_.heap.size, 4, none⟩) zf).trans pf4
  replace pf5 := (Sq.cell (p := ⟨w1_.heap.size, 5, none⟩) zf).trans pf5
  replace pf6 := (Sq.cell (p := ⟨w1_.heap.size, 6, none⟩) zf).trans pf6
  replace zf : w1_.heap.size < w7_.heap.size := Nat.lt_of_lt_of_le zf Sq.size
  clear Bq Sq
  go_wp2_with fail
  refine (bsame 8 [210] 1 rfl (by decide) A2 (some ⟨w7_.heap.size, 0, none⟩) c2 1 _ (HH.out.on (one_below w7_ _)) (rd_lit1 w7_ 210)).mono ?_
  rintro e w8_ ⟨rfl, Bq⟩
  rw [World.size_alloc] at Bq
  have Sq : Below w7_.heap.size w7_ w8_ := (one_below w7_ _).trans (Bq.mono (by omega))
  replace HL : Hid (Rd w8_ w8_.heap.size A1 [84]) := HL.out.on Sq
  replace HH : Hid (Rd w8_ w8_.heap.size A2 [210]) := HH.out.on Sq
  replace HX : Hid (RdV w8_ w8_.heap.size A3 (zc [1, 1, 5, 12])) := HX.out.on Sq
  replace HB : Hid (Below w.heap.size w w8_) := HB.out.trans (Sq.mono HB.out.size)
  replace pf0 := (Sq.cell (p := ⟨w1_.heap.size, 0, none⟩) zf).trans pf0
  replace pf1 := (Sq.cell (p := ⟨w1_.heap.size, 1, none⟩) zf).trans pf1
  replace pf2 := (Sq.cell (p := ⟨w1_.heap.size, 2, none⟩) zf).trans pf2
  replace pf3 := (Sq.cell (p := ⟨w1_.heap.size, 3, none⟩) zf).trans pf3
  replace pf4 := (Sq.cell (p := ⟨w1_.heap.size, 4, none⟩) zf).trans pf4
  replace pf5 := (Sq.cell (p := ⟨w1_.heap.size, 5, none⟩) zf).trans pf5
  replace pf6 := (Sq.cell (p := ⟨w1_.heap.size, 6, none⟩) zf).trans pf6
  replace zf : w1_.heap.size < w8_.heap.size := Nat.lt_of_lt_of_le zf Sq.size
  clear Bq Sq
  go_wp2_with fail
  refine (isame [1, 1, 5, 12] 4 rfl (by decide) A3 (some ⟨w8_.heap.size, 0, none⟩) c3 4 _ (HX.out.on (one_below w8_ _)) (rdv_ints w8_ [1, 1, 5, 12])).mono ?_
  rintro e w9_ ⟨rfl, Bq⟩
  rw [World.size_alloc] at Bq
  have Sq : Below w8_.heap.size w8_ w9_ := (one_below w8_ _).trans (Bq.mono (by omega))
  replace HL : Hid (Rd w9_ w9_.heap.size A1 [84]) := HL.out.on Sq
  replace HH : Hid (Rd w9_ w9_.heap.size A2 [210]) := HH.out.on Sq
  replace HX : Hid (RdV w9_ w9_.heap.size A3 (zc [1, 1, 5, 12])) := HX.out.on Sq
  replace HB : Hid (Below w.heap.size w w9_) := HB.out.trans (Sq.mono HB.out.size)
  replace pf0 := (Sq.cell (p := ⟨w1_.heap.size, 0, none⟩) zf).trans pf0
  replace pf1 := (Sq.cell (p := ⟨w1_.heap.size, 1, none⟩) zf).trans pf1
  replace pf2 := (Sq.cell (p := ⟨w1_.heap.size, 2, none⟩) zf).trans pf2
  replace pf3 := (Sq.cell (p := ⟨w1_.heap.size, 3, none⟩) zf).trans pf3
  replace pf4 := (Sq.cell (p := ⟨w1_.heap.size, 4, none⟩) zf).trans pf4
  replace pf5 := (Sq.cell (p := ⟨w1_.heap.size, 5, none⟩) zf).trans pf5
  replace pf6 := (Sq.cell (p := ⟨w1_.heap.size, 6, none⟩) zf).trans pf6
  replace zf : w1_.heap.size < w9_.heap.size := Nat.lt_of_lt_of_le zf Sq.size
  clear Bq Sq
  go_wp2_with fail
  refine (yb7 _).mono ?_
  rintro e w10_ ⟨rfl, Bq⟩
  have Sq : Below w9_.heap.size w9_ w10_ := Bq
  replace HL : Hid (Rd w10_ w10_.heap.size A1 [84]) := HL.out.on Sq
  replace HH : Hid (Rd w10_ w10_.heap.size A2 [210]) := HH.out.on Sq
  replace HX : Hid (RdV w10_ w10_.heap.size A3 (zc [1, 1, 5, 12])) := HX.out.on Sq
  replace HB : Hid (Below w.heap.size w w10_) := HB.out.trans (Sq.mono HB.out.size)
  replace pf0 := (Sq.cell (p := ⟨w1_.heap.size, 0, none⟩) zf).trans pf0
  replace pf1 := (Sq.cell (p := ⟨w1_.heap.size, 1, none⟩) zf).trans pf1
  replace pf2 := (Sq.cell (p := ⟨w1_.heap.size, 2, none⟩) zf).trans pf2
  replace pf3 := (Sq.cell (p := ⟨w1_.heap.size, 3, none⟩) zf).trans pf3
  replace pf4 := (Sq.cell (p := ⟨w1_.heap.size, 4, none⟩) zf).trans pf4
  replace pf5 := (Sq.cell (p := ⟨w1_.heap.size, 5, none⟩) zf).trans pf5
  replace pf6 := (Sq.cell (p := ⟨w1_.heap.size, 6, none⟩) zf).trans pf6
  replace zf : w1_.heap.size < w10_.heap.size := Nat.lt_of_lt_of_le zf Sq.size
  clear Bq Sq
  go_wp2
  go_ret
  exact ⟨rfl, HB.out⟩
end Go.Proofs.Ytkbelhclcpepaaa
