/- The law FanoSame: for whatever number, how often and top it returns true. -/
import Derived.Test.YtkbelhclcpepaaaJYYSev
namespace Go.Proofs.Ytkbelhclcpepaaa
set_option maxRecDepth 100000
set_option linter.unusedVariables false
open Go.RowKit Go.Shelf

set_option maxHeartbeats 4000000 in
theorem same_r0 (n many top : Int) (w : World)
    
    (t0 : decide (many < 1) = true) :
    Calls Try.prog 18 #[.int .i64 n, .int .i64 many, .int .i64 top] w fun e w' => e = .returned (.bool true) ∧ Below w.heap.size w w' := by
  go_enter Try.func18, Try.ntmps18
  go_wp2_with fail
  refine (ybegun_true _).mono ?_
  rintro e w1_ ⟨rfl, Bq⟩
  have Sq : Below w.heap.size w w1_ := Bq
  have HB : Hid (Below w.heap.size w w1_) := Sq
  clear Bq Sq
  go_wp2
  go_ret
  exact ⟨rfl, HB.out⟩
set_option maxHeartbeats 4000000 in
theorem same_r1 (n many top : Int) (w : World)
    
    (t0 : decide (many < 1) = false) (t1 : decide (300 < many) = true) :
    Calls Try.prog 18 #[.int .i64 n, .int .i64 many, .int .i64 top] w fun e w' => e = .returned (.bool true) ∧ Below w.heap.size w w' := by
  go_enter Try.func18, Try.ntmps18
  go_wp2_with fail
  refine (ybegun_true _).mono ?_
  rintro e w1_ ⟨rfl, Bq⟩
  have Sq : Below w.heap.size w w1_ := Bq
  have HB : Hid (Below w.heap.size w w1_) := Sq
  clear Bq Sq
  go_wp2
  go_ret
  exact ⟨rfl, HB.out⟩
set_option maxHeartbeats 4000000 in
theorem same_r2 (n many top : Int) (w : World)
    
    (t0 : decide (many < 1) = false) (t1 : decide (300 < many) = false) (t2 : decide (n < 0) = true) :
    Calls Try.prog 18 #[.int .i64 n, .int .i64 many, .int .i64 top] w fun e w' => e = .returned (.bool true) ∧ Below w.heap.size w w' := by
  go_enter Try.func18, Try.ntmps18
  go_wp2_with fail
  refine (ybegun_true _).mono ?_
  rintro e w1_ ⟨rfl, Bq⟩
  have Sq : Below w.heap.size w w1_ := Bq
  have HB : Hid (Below w.heap.size w w1_) := Sq
  clear Bq Sq
  go_wp2
  go_ret
  exact ⟨rfl, HB.out⟩
set_option maxHeartbeats 4000000 in
theorem same_r3 (n many top : Int) (w : World)
    
    (t0 : decide (many < 1) = false) (t1 : decide (300 < many) = false) (t2 : decide (n < 0) = false) (t3 : decide (top < n) = true) :
    Calls Try.prog 18 #[.int .i64 n, .int .i64 many, .int .i64 top] w fun e w' => e = .returned (.bool true) ∧ Below w.heap.size w w' := by
  go_enter Try.func18, Try.ntmps18
  go_wp2_with fail
  refine (ybegun_true _).mono ?_
  rintro e w1_ ⟨rfl, Bq⟩
  have Sq : Below w.heap.size w w1_ := Bq
  have HB : Hid (Below w.heap.size w w1_) := Sq
  clear Bq Sq
  go_wp2
  go_ret
  exact ⟨rfl, HB.out⟩
set_option maxHeartbeats 4000000 in
theorem same_r4 (n many top : Int) (w : World)
    
    (t0 : decide (many < 1) = false) (t1 : decide (300 < many) = false) (t2 : decide (n < 0) = false) (t3 : decide (top < n) = false) (t4 : decide (1048576 < top) = true) :
    Calls Try.prog 18 #[.int .i64 n, .int .i64 many, .int .i64 top] w fun e w' => e = .returned (.bool true) ∧ Below w.heap.size w w' := by
  go_enter Try.func18, Try.ntmps18
  go_wp2_with fail
  refine (ybegun_true _).mono ?_
  rintro e w1_ ⟨rfl, Bq⟩
  have Sq : Below w.heap.size w w1_ := Bq
  have HB : Hid (Below w.heap.size w w1_) := Sq
  clear Bq Sq
  go_wp2
  go_ret
  exact ⟨rfl, HB.out⟩
/-- So many of one number, in a row of the call's own. -/
def RepRel (w1 : World) (m x : Nat) (v p : Value) (wr : World) : Prop :=
  ∃ i : Nat, i ≤ m ∧ p = .int .i64 (i : Int) ∧ wr.ownsRow w1.heap.size 3 1 v i (zc (ns (List.replicate i x))) ∧ Below w1.heap.size w1 wr
theorem rep_snoc (i x : Nat) : zc (ns (List.replicate (i + 1) x)) = zc (ns (List.replicate i x)) ++ [.int .i64 (x : Int)] := by
  rw [List.replicate_succ']; simp [zc, ns]
set_option maxHeartbeats 4000000 in
theorem same_f (m x t n1 n2 j : Nat) (k ll lh er : Int) (b1 b2 : List Nat) (w : World)
    (HW : Hid (∀ A c V, RdV V V.heap.size A (zc (ns (List.replicate m x))) → Calls Try.prog 49 #[.slice A m c, .int .i64 (t : Int)] V (WrP V 0 0 0 0 0 0 0 [] [] 8)))
    (hm : 1 ≤ m ∧ m ≤ 300) (hx : x ≤ t) (ht : t ≤ 1048576)  :
    Calls Try.prog 18 #[.int .i64 (x : Int), .int .i64 (m : Int), .int .i64 (t : Int)] w fun e w' => e = .returned (.bool true) ∧ Below w.heap.size w w' := by
  obtain ⟨i0, hi, hz0, hz1, hz2⟩ := info_parts info3
  have u1 : decide ((m : Int) < 1) = false := by simp; omega
  have u2 : decide ((300 : Int) < (m : Int)) = false := by simp; omega
  have u0 : decide ((x : Int) < 0) = false := by simp
  have u3 : decide (t < x) = false := by simp; omega
  have u5 : decide ((t : Int) < (x : Int)) = false := by simp; omega
  have u4 : decide ((1048576 : Int) < (t : Int)) = false := by simp; omega
  go_enter Try.func18, Try.ntmps18
  go_wp2_with fail
  refine (ybegun_true _).mono ?_
  rintro e w1 ⟨rfl, Bq⟩
  have HB1 : Hid (Below w.heap.size w w1) := Bq
  clear Bq
  go_wp2_with fail
  go_loopw [7, 8] (fun v p wr => RepRel w1 m x v p wr) (fun _ p _ => m - (intOf p).toNat)
  case atStart => exact ⟨0, Nat.zero_le _, rfl, ⟨rfl, .inl ⟨rfl, rfl⟩⟩, Below.refl _ _⟩
  case round =>
    obtain ⟨i, him, rfl, hrow, hbel⟩ := hrel
    obtain ⟨Av, cv, rfl⟩ := own_slice3 hrow
    have HBel := Lib.hid hbel; clear hbel
    by_cases hlt : i < m
    · have c1 : (i : Int) < (m : Int) := by omega
      go_wp2_with (at_builtin; refine wpList_append_own _ rfl _ _ 38 rfl w1.heap.size 3 i0 (.int .i64 0) 1 8 Try.underlying38 hi hz0 hz1 hz2 rfl (by decide) _ _ _ rfl (hrow.alloc _) ⟨wr.heap.size, 0, none⟩ 1 1 [.int .i64 (x : Int)] rfl rfl (cell_one_new _ _ _) (by simp [Value.oneCell']) (by unfold maxLen; omega) (by omega) (by have := HBel.out.size; simp; omega) ?_; intro v' w3 hown' hgrow _; obtain ⟨g', cap', rfl⟩ := ownsRow_succ hown')
      have HGr := Lib.hid hgrow; clear hgrow
      have HOw := Lib.hid hown'; clear hown'
      go_roundw
      case rel =>
        refine ⟨i + 1, by omega, by go_num, ?_, (HBel.out.alloc HBel.out.size _).grown HGr.out (by have := HBel.out.size; simp; omega) (fun k hk => (hrow.lt k hk).1)⟩
        rw [rep_snoc]
        exact HOw.out
      case measure => simp [intOf]; omega
    · have e : i = m := by omega
      subst e
      have c1 : ¬ (i : Int) < (i : Int) := by omega
      have HRw := Lib.hid (own_rdv hrow)
      have HB : Hid (Below w.heap.size w wr) := HB1.out.trans (HBel.out.mono HB1.out.size)
      clear hrow HBel hlt
      go_wp2_with fail
      refine (HW.out Av cv _ HRw.out).mono ?_
      rintro e w1_ ⟨A1, c1_, A2, c2, rfl, Rq, Rq_HH, Bq⟩
      have Sq : Below wr.heap.size wr w1_ := Bq
      replace HB : Hid (Below w.heap.size w w1_) := HB.out.trans (Sq.mono HB.out.size)
      clear Bq Sq
      have HL := Lib.hid Rq; clear Rq
      have HH := Lib.hid Rq_HH; clear Rq_HH
      go_wp2
      go_ret
      exact ⟨rfl, HB.out.alloc HB.out.size _⟩
set_option maxHeartbeats 4000000 in
theorem same_k (m x t n1 n2 j : Nat) (k ll lh er : Int) (b1 b2 : List Nat) (w : World)
    (HW : Hid (∀ A c V, RdV V V.heap.size A (zc (ns (List.replicate m x))) → Calls Try.prog 49 #[.slice A m c, .int .i64 (t : Int)] V (WrP V (m : Int) (t : Int) k ll lh n1 n2 b1 b2 0)))
    (HG : Hid (∀ A1 c1 A2 c2 V, Rd V V.heap.size A1 b1 → Rd V V.heap.size A2 b2 → Calls Try.prog 51 #[.agg #[.int .i64 (m : Int), .int .i64 (t : Int), .int .i64 k, .int .i64 ll, .slice A1 n1 c1, .int .i64 lh, .slice A2 n2 c2], .int .i64 (j : Int)] V (RkP V x 0)))
    (HN : Hid (∀ A1 c1 A2 c2 V, Rd V V.heap.size A1 b1 → Rd V V.heap.size A2 b2 → Calls Try.prog 52 #[.agg #[.int .i64 (m : Int), .int .i64 (t : Int), .int .i64 k, .int .i64 ll, .slice A1 n1 c1, .int .i64 lh, .slice A2 n2 c2], .int .i64 (x : Int)] V (NxP V 0 x 0)))
    (HO : Hid (∀ A1 c1 A2 c2 V, Rd V V.heap.size A1 b1 → Rd V V.heap.size A2 b2 → Calls Try.prog 52 #[.agg #[.int .i64 (m : Int), .int .i64 (t : Int), .int .i64 k, .int .i64 ll, .slice A1 n1 c1, .int .i64 lh, .slice A2 n2 c2], .int .i64 0] V (NxP V 0 x 0)))
    (hm : 1 ≤ m ∧ m ≤ 300) (hx : x ≤ t) (ht : t ≤ 1048576) (tj : (m : Int) - 1 = (j : Int)) (tw : IntKind.i64.wrap (j : Int) = (j : Int)) (tw2 : wrap64 (j : Int) = (j : Int)) :
    Calls Try.prog 18 #[.int .i64 (x : Int), .int .i64 (m : Int), .int .i64 (t : Int)] w fun e w' => e = .returned (.bool true) ∧ Below w.heap.size w w' := by
  obtain ⟨i0, hi, hz0, hz1, hz2⟩ := info_parts info3
  have u1 : decide ((m : Int) < 1) = false := by simp; omega
  have u2 : decide ((300 : Int) < (m : Int)) = false := by simp; omega
  have u0 : decide ((x : Int) < 0) = false := by simp
  have u3 : decide (t < x) = false := by simp; omega
  have u5 : decide ((t : Int) < (x : Int)) = false := by simp; omega
  have u4 : decide ((1048576 : Int) < (t : Int)) = false := by simp; omega
  go_enter Try.func18, Try.ntmps18
  go_wp2_with fail
  refine (ybegun_true _).mono ?_
  rintro e w1 ⟨rfl, Bq⟩
  have HB1 : Hid (Below w.heap.size w w1) := Bq
  clear Bq
  go_wp2_with fail
  go_loopw [7, 8] (fun v p wr => RepRel w1 m x v p wr) (fun _ p _ => m - (intOf p).toNat)
  case atStart => exact ⟨0, Nat.zero_le _, rfl, ⟨rfl, .inl ⟨rfl, rfl⟩⟩, Below.refl _ _⟩
  case round =>
    obtain ⟨i, him, rfl, hrow, hbel⟩ := hrel
    obtain ⟨Av, cv, rfl⟩ := own_slice3 hrow
    have HBel := Lib.hid hbel; clear hbel
    by_cases hlt : i < m
    · have c1 : (i : Int) < (m : Int) := by omega
      go_wp2_with (at_builtin; refine wpList_append_own _ rfl _ _ 38 rfl w1.heap.size 3 i0 (.int .i64 0) 1 8 Try.underlying38 hi hz0 hz1 hz2 rfl (by decide) _ _ _ rfl (hrow.alloc _) ⟨wr.heap.size, 0, none⟩ 1 1 [.int .i64 (x : Int)] rfl rfl (cell_one_new _ _ _) (by simp [Value.oneCell']) (by unfold maxLen; omega) (by omega) (by have := HBel.out.size; simp; omega) ?_; intro v' w3 hown' hgrow _; obtain ⟨g', cap', rfl⟩ := ownsRow_succ hown')
      have HGr := Lib.hid hgrow; clear hgrow
      have HOw := Lib.hid hown'; clear hown'
      go_roundw
      case rel =>
        refine ⟨i + 1, by omega, by go_num, ?_, (HBel.out.alloc HBel.out.size _).grown HGr.out (by have := HBel.out.size; simp; omega) (fun k hk => (hrow.lt k hk).1)⟩
        rw [rep_snoc]
        exact HOw.out
      case measure => simp [intOf]; omega
    · have e : i = m := by omega
      subst e
      have c1 : ¬ (i : Int) < (i : Int) := by omega
      have HRw := Lib.hid (own_rdv hrow)
      have HB : Hid (Below w.heap.size w wr) := HB1.out.trans (HBel.out.mono HB1.out.size)
      clear hrow HBel hlt
      go_wp2_with fail
      refine (HW.out Av cv _ HRw.out).mono ?_
      rintro e w1_ ⟨A1, c1_, A2, c2, rfl, Rq, Rq_HH, Bq⟩
      have Sq : Below wr.heap.size wr w1_ := Bq
      replace HB : Hid (Below w.heap.size w w1_) := HB.out.trans (Sq.mono HB.out.size)
      clear Bq Sq
      have HL := Lib.hid Rq; clear Rq
      have HH := Lib.hid Rq_HH; clear Rq_HH
      go_wp2_with fail
      refine (HG.out A1 c1_ A2 c2 _ (HL.out.on (one_below w1_ _)) (HH.out.on (one_below w1_ _))).mono ?_
      rintro e w2_ ⟨rfl, Bq⟩
      rw [World.size_alloc] at Bq
      have Sq : Below w1_.heap.size w1_ w2_ := (one_below w1_ _).trans (Bq.mono (by omega))
      replace HL : Hid (Rd w2_ w2_.heap.size A1 b1) := HL.out.on Sq
      replace HH : Hid (Rd w2_ w2_.heap.size A2 b2) := HH.out.on Sq
      replace HB : Hid (Below w.heap.size w w2_) := HB.out.trans (Sq.mono HB.out.size)
      have zf : w1_.heap.size < w2_.heap.size := by have := Bq.size; rw [World.size_alloc] at this; omega
      obtain ⟨pf0, pf1, pf2, pf3, pf4, pf5, pf6⟩ := box7_at Bq
      clear Bq Sq
      go_wp2_with fail
      refine (HN.out A1 c1_ A2 c2 _ HL.out HH.out).mono ?_
      rintro e w3_ ⟨rfl, Bq⟩
      have Sq : Below w2_.heap.size w2_ w3_ := Bq
      replace HL : Hid (Rd w3_ w3_.heap.size A1 b1) := HL.out.on Sq
      replace HH : Hid (Rd w3_ w3_.heap.size A2 b2) := HH.out.on Sq
      replace HB : Hid (Below w.heap.size w w3_) := HB.out.trans (Sq.mono HB.out.size)
      replace pf0 := (Sq.cell (p := ⟨w1_.heap.size, 0, none⟩) zf).trans pf0
      replace pf1 := (Sq.cell (p := ⟨w1_.heap.size, 1, none⟩) zf).trans pf1
      replace pf2 := (Sq.cell (p := ⟨w1_.heap.size, 2, none⟩) zf).trans pf2
      replace pf3 := (Sq.cell (p := ⟨w1_.heap.size, 3, none⟩) zf).trans pf3
      replace pf4 := (Sq.cell (p := ⟨w1_.heap.size, 4, none⟩) zf).trans pf4
      replace pf5 := (Sq.cell (p := ⟨w1_.heap.size, 5, none⟩) zf).trans pf5
      replace pf6 := (Sq.cell (p := ⟨w1_.heap.size, 6, none⟩) zf).trans pf6
      replace zf : w1_.heap.size < w3_.heap.size := Nat.lt_of_lt_of_le zf Sq.size
      clear Bq Sq
      go_wp2_with fail
      refine (HO.out A1 c1_ A2 c2 _ HL.out HH.out).mono ?_
      rintro e w4_ ⟨rfl, Bq⟩
      have Sq : Below w3_.heap.size w3_ w4_ := Bq
      replace HL : Hid (Rd w4_ w4_.heap.size A1 b1) := HL.out.on Sq
      replace HH : Hid (Rd w4_ w4_.heap.size A2 b2) := HH.out.on Sq
      replace HB : Hid (Below w.heap.size w w4_) := HB.out.trans (Sq.mono HB.out.size)
      replace pf0 := (Sq.cell (p := ⟨w1_.heap.size, 0, none⟩) zf).trans pf0
      replace pf1 := (Sq.cell (p := ⟨w1_.heap.size, 1, none⟩) zf).trans pf1
      replace pf2 := (Sq.cell (p := ⟨w1_.heap.size, 2, none⟩) zf).trans pf2
      replace pf3 := (Sq.cell (p := ⟨w1_.heap.size, 3, none⟩) zf).trans pf3
      replace pf4 := (Sq.cell (p := ⟨w1_.heap.size, 4, none⟩) zf).trans pf4
      replace pf5 := (Sq.cell (p := ⟨w1_.heap.size, 5, none⟩) zf).trans pf5
      replace pf6 := (Sq.cell (p := ⟨w1_.heap.size, 6, none⟩) zf).trans pf6
      replace zf : w1_.heap.size < w4_.heap.size := Nat.lt_of_lt_of_le zf Sq.size
      clear Bq Sq
      go_wp2
      go_ret
      exact ⟨rfl, HB.out⟩
theorem up_rep (x : Nat) : ∀ (m p : Nat), p ≤ x → Up p (List.replicate m x)
  | 0, _, _ => trivial
  | m + 1, _, h => ⟨h, up_rep x m x (Nat.le_refl _)⟩
theorem rep_get (m x i : Nat) (h : i < m) : (List.replicate m x)[i]?.getD 0 = x := by
  rw [List.getElem?_replicate, if_pos h]; rfl
theorem fanoSame_law (n many top : Int) (w : World) (hn : -9223372036854775808 ≤ n ∧ n ≤ 9223372036854775807) (hm : -9223372036854775808 ≤ many ∧ many ≤ 9223372036854775807) (hp : -9223372036854775808 ≤ top ∧ top ≤ 9223372036854775807) :
    Calls Try.prog 18 #[.int .i64 n, .int .i64 many, .int .i64 top] w fun e w' => e = .returned (.bool true) ∧ Below w.heap.size w w' := by
  by_cases h0 : many < 1
  · exact same_r0 n many top w (by simpa using h0)
  by_cases h1 : 300 < many
  · exact same_r1 n many top w (by simpa using h0) (by simpa using h1)
  by_cases h2 : n < 0
  · exact same_r2 n many top w (by simpa using h0) (by simpa using h1) (by simpa using h2)
  by_cases h3 : top < n
  · exact same_r3 n many top w (by simpa using h0) (by simpa using h1) (by simpa using h2) (by simpa using h3)
  by_cases h4 : 1048576 < top
  · exact same_r4 n many top w (by simpa using h0) (by simpa using h1) (by simpa using h2) (by simpa using h3) (by simpa using h4)
  obtain ⟨x, rfl⟩ := Int.eq_ofNat_of_zero_le (show 0 ≤ n by omega)
  obtain ⟨m, rfl⟩ := Int.eq_ofNat_of_zero_le (show 0 ≤ many by omega)
  obtain ⟨t, rfl⟩ := Int.eq_ofNat_of_zero_le (show 0 ≤ top by omega)
  have ht : t ≤ 1048576 := by omega
  have hx : x ≤ t := by omega
  have hm3 : m ≤ 300 := by omega
  have hlen : (List.replicate m x).length = m := List.length_replicate
  have hle : ∀ y ∈ List.replicate m x, y ≤ t := fun y hy => by rw [(List.mem_replicate.1 hy).2]; exact hx
  have hu := up_rep x m 0 (Nat.zero_le _)
  by_cases hz : m + t / 2 ^ fw m t + 1 ≤ 8192
  · have HW : Hid (∀ A c V, RdV V V.heap.size A (zc (ns (List.replicate m x))) → Calls Try.prog 49 #[.slice A m c, .int .i64 (t : Int)] V (WrP V (m : Int) (t : Int) (fw m t : Int) ((loP (fw m t) (List.replicate m x)).length : Int) ((fhi (fw m t) (List.replicate m x) t).length : Int) (pack (loP (fw m t) (List.replicate m x))).length (pack (fhi (fw m t) (List.replicate m x) t)).length (pack (loP (fw m t) (List.replicate m x))) (pack (fhi (fw m t) (List.replicate m x) t)) 0)) := fun A c V R => fwrite_ok _ m t _ _ hlen hm3 ht hle hu rfl rfl hz A c V R
    have HN := fun (y : Int) (hy : y ≤ (x : Int)) => (fnext_w _ m t _ hlen hm3 ht hle hu rfl hz y)
    have key : ∀ y : Int, y ≤ (x : Int) → Hid (∀ A1 c1 A2 c2 V, Rd V V.heap.size A1 (pack (loP (fw m t) (List.replicate m x))) → Rd V V.heap.size A2 (pack (fhi (fw m t) (List.replicate m x) t)) → Calls Try.prog 52 #[.agg #[.int .i64 (m : Int), .int .i64 (t : Int), .int .i64 (fw m t : Int), .int .i64 ((loP (fw m t) (List.replicate m x)).length : Int), .slice A1 (pack (loP (fw m t) (List.replicate m x))).length c1, .int .i64 ((fhi (fw m t) (List.replicate m x) t).length : Int), .slice A2 (pack (fhi (fw m t) (List.replicate m x) t)).length c2], .int .i64 y] V (NxP V 0 x 0)) := fun y hy => by
      rcases HN y hy with ⟨hall, _⟩ | ⟨i, hi, hxi, hmin, H⟩
      · have := hall 0 (by omega)
        rw [rep_get m x 0 (by omega)] at this
        omega
      · rcases Nat.eq_zero_or_pos i with rfl | hpos
        · rw [rep_get m x 0 (by omega)] at H
          exact H
        · have := hmin 0 hpos
          rw [rep_get m x 0 (by omega)] at this
          omega
    exact same_k m x t _ _ (m - 1) _ _ _ 0 _ _ w HW (fun A1 c1 A2 c2 V R1 R2 => fget_w _ m t _ hlen hm3 ht hle hu rfl hz (m - 1) (by omega) x (rep_get m x _ (by omega)) A1 c1 A2 c2 V R1 R2) (key _ (Int.le_refl _)) (key 0 (by omega)) ⟨by omega, hm3⟩ hx ht (by omega) (by rw [IntKind.wrap_i64]; omega) (by unfold wrap64; omega)
  · exact same_f m x t 0 0 0 0 0 0 0 [] [] w (fun A c V R => fwrite_full _ m t _ _ hlen hm3 ht hle hu rfl rfl (by omega) A c V R) ⟨by omega, hm3⟩ hx ht
end Go.Proofs.Ytkbelhclcpepaaa
