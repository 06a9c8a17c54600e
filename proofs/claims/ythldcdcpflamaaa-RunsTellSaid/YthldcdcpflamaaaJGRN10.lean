/- Two lists of runs are compared; what is asked in any case of runs. -/
import Derived.Test.YthldcdcpflamaaaJGRN9
import Derived.Test.YthldcdcpflamaaaJGNSame
import Derived.Laws.StructEq
namespace Go.Proofs.Ythldcdcpflamaaa
set_option maxRecDepth 100000
set_option linter.unusedVariables false
open Go.RowKit Go.Shelf

theorem neq_run (a b c d : Int) (w : World) : (binOp .neq 60 (.agg #[.int .i64 a, .int .i64 b]) (.agg #[.int .i64 c, .int .i64 d])).run Try.prog w = .ok (.bool (!(a == c && b == d))) w := by
  have h60 := Try.underlying60
  have h3 := Try.underlying3
  by_cases h1 : a = c <;> by_cases h2 : b = d <;> simp [go_sem, h60, h3, h1, h2]
/-- At each round's head: so many bytes are alike. -/
def SameRelR (w : World) (xs ys : List Ri) (p : Value) (wr : World) : Prop := ∃ i : Nat, i ≤ xs.length ∧ p = .int .i64 (i : Int) ∧ xs.take i = ys.take i ∧ Below w.heap.size w wr
theorem take_succ_sameR (xs ys : List Ri) (i : Nat) (h1 : i < xs.length) (h2 : i < ys.length) (h : xs.take i = ys.take i) (he : xs[i]?.getD (0, 0) = ys[i]?.getD (0, 0)) : xs.take (i + 1) = ys.take (i + 1) := by
  rw [List.take_succ_eq_append_getElem h1, List.take_succ_eq_append_getElem h2, h]
  rw [List.getElem?_eq_getElem h1, List.getElem?_eq_getElem h2] at he
  simp only [Option.getD_some] at he
  rw [he]
theorem ne_of_atR (xs ys : List Ri) (i : Nat) (he : xs[i]?.getD (0, 0) ≠ ys[i]?.getD (0, 0)) : ¬ xs = ys := fun h => he (by rw [h])
set_option maxHeartbeats 400000 in
theorem sameR_len (w : World) (A B : Option Addr) (n m c d : Nat) (hl : n ≠ m) :
    Calls Try.prog 37 #[.slice A n c, .slice B m d] w fun e w' => e = .returned (.bool false) ∧ Below w.heap.size w w' := by
  have h1 : ((n : Int) != (m : Int)) = true := by simp; omega
  clear hl
  go_enter Try.func37, Try.ntmps37
  go_wp2
  go_ret
  exact ⟨rfl, Below.refl _ _⟩
set_option maxHeartbeats 1000000 in
theorem same_runs (w : World) (A B : Option Addr) (c d : Nat) (xs ys : List Ri) (n : Nat) (hn : xs.length = n) (hm : ys.length = n) (h2 : n ≤ 1000000000) (hA : RdV w w.heap.size A (rcs xs)) (hB : RdV w w.heap.size B (rcs ys)) :
    Calls Try.prog 37 #[.slice A n c, .slice B n d] w fun e w' => e = .returned (.bool (decide (xs = ys))) ∧ Below w.heap.size w w' := by
  have HA := Lib.hid hA; clear hA
  have HB := Lib.hid hB; clear hB
  have HN := Lib.hid hn; clear hn
  have HM := Lib.hid hm; clear hm
  have t0 : ((n : Int) != (n : Int)) = false := by simp
  go_enter Try.func37, Try.ntmps37
  go_wp2
  go_loopw [5] (fun p wr => SameRelR w xs ys p wr) (fun p _ => n - (intOf p).toNat)
  case atStart => exact ⟨0, Nat.zero_le _, rfl, rfl, Below.refl _ _⟩
  case round =>
    obtain ⟨i, hi, hp, ht, hb⟩ := hrel
    subst hp
    rw [HN.out] at hi
    by_cases hlt : i < n
    · obtain ⟨q1, q1'⟩ := rcs_at xs i (by rw [HN.out]; exact hlt)
      obtain ⟨q2, q2'⟩ := rcs_at ys i (by rw [HM.out]; exact hlt)
      obtain ⟨b1, o1, rfl, hb1, hc1⟩ := HA.out.at_ q1
      obtain ⟨b1', o1', e1', hb1', hc1'⟩ := HA.out.at_ q1'
      simp only [Option.some.injEq, Addr.mk.injEq, and_true] at e1'
      obtain ⟨rfl, rfl⟩ := e1'
      obtain ⟨b2, o2, rfl, hb2, hc2⟩ := HB.out.at_ q2
      obtain ⟨b2', o2', e2', hb2', hc2'⟩ := HB.out.at_ q2'
      simp only [Option.some.injEq, Addr.mk.injEq, and_true] at e2'
      obtain ⟨rfl, rfl⟩ := e2'
      rw [← Nat.add_assoc] at hc1' hc2'
      have e1 := (hb.cell (p := ⟨b1, o1 + i * 2, none⟩) hb1).trans hc1
      have e2 := (hb.cell (p := ⟨b2, o2 + i * 2, none⟩) hb2).trans hc2
      have e3 := (hb.cell (p := ⟨b1, o1 + i * 2 + 1, none⟩) hb1).trans hc1'
      have e4 := (hb.cell (p := ⟨b2, o2 + i * 2 + 1, none⟩) hb2).trans hc2'
      clear q1 q1' q2 q2' hc1' hc2'
      have hstep := fun he => take_succ_sameR xs ys i (by rw [HN.out]; exact hlt) (by rw [HM.out]; exact hlt) ht he
      have hno := ne_of_atR xs ys i
      clear hc1 hc2 ht
      generalize xs[i]?.getD (0, 0) = x at *
      generalize ys[i]?.getD (0, 0) = y at *
      by_cases hxy : x = y
      · subst hxy
        have HT := Lib.hid (hstep rfl)
        clear hstep hno
        obtain ⟨x1, x2⟩ := x
        simp only at e1 e2 e3 e4
        have hq : ∀ V : World, (binOp .neq 60 (.agg #[.int .i64 x1, .int .i64 x2]) (.agg #[.int .i64 x1, .int .i64 x2])).run Try.prog V = .ok (.bool false) V := fun V => by rw [neq_run]; simp
        go_wp2
        go_quiet (fail)
        go_wp2
        go_roundw
        case rel => exact ⟨i + 1, by rw [HN.out]; omega, by go_num, HT.out, below_drewN hb _⟩
        case measure => simp [intOf]; omega
      · have HT := Lib.hid (hno hxy)
        clear hstep hno
        obtain ⟨x1, x2⟩ := x
        obtain ⟨y1, y2⟩ := y
        simp only at e1 e2 e3 e4
        have t1 : (x1 == y1 && x2 == y2) = false := by
          rw [Bool.and_eq_false_iff]
          by_cases h : x1 = y1
          · right; simp; intro h2; exact hxy (by rw [h, h2])
          · left; simpa using h
        have hq : ∀ V : World, (binOp .neq 60 (.agg #[.int .i64 x1, .int .i64 x2]) (.agg #[.int .i64 y1, .int .i64 y2])).run Try.prog V = .ok (.bool true) V := fun V => by rw [neq_run, t1]; rfl
        clear hxy t1
        go_wp2
        go_quiet (fail)
        go_wp2
        go_ret
        exact ⟨by rw [decide_eq_false HT.out]; rfl, below_drewN hb _⟩
    · have HT : Hid (xs = ys) := by
        have e : i = n := by omega
        rw [e, List.take_of_length_le (by rw [HN.out]; omega), List.take_of_length_le (by rw [HM.out]; omega)] at ht
        exact ht
      clear ht
      go_wp2
      go_ret
      exact ⟨by rw [decide_eq_true HT.out]; rfl, hb⟩
theorem sameR_any (w : World) (A B : Option Addr) (c d : Nat) (xs ys : List Ri) (h2 : xs.length ≤ 1000000000) (hA : RdV w w.heap.size A (rcs xs)) (hB : RdV w w.heap.size B (rcs ys)) :
    Calls Try.prog 37 #[.slice A xs.length c, .slice B ys.length d] w fun e w' => e = .returned (.bool (decide (xs = ys))) ∧ Below w.heap.size w w' := by
  by_cases h : xs.length = ys.length
  · rw [← h]; exact same_runs w A B c d xs ys xs.length rfl h.symm h2 hA hB
  · have e : decide (xs = ys) = false := by rw [decide_eq_false_iff_not]; intro he; exact h (by rw [he])
    rw [e]
    exact sameR_len w A B _ _ c d h

/-! begun -/
theorem ris6 : Rising [1, 3, 4, 5, 8, 9] := ⟨by decide, by decide, by decide, by decide, by decide, by decide, by decide, by decide, by decide, by decide, by decide, by decide, by decide, trivial⟩
theorem ris3 : Rising [1, 8, 9] := ⟨by decide, by decide, by decide, by decide, by decide, by decide, by decide, trivial⟩
theorem ris1 : Rising [4] := ⟨by decide, by decide, by decide, trivial⟩
theorem okR1 : OkR [(3, 3)] := ⟨by decide, ⟨by decide, by decide, trivial⟩, by intro p hp; simp at hp; subst hp; decide⟩
theorem rdr_new (w : World) (r : List Ri) : RdV (w.alloc (.cells (rcs r).toArray 60)) (w.alloc (.cells (rcs r).toArray 60)).heap.size (some ⟨w.heap.size, 0, none⟩) (rcs r) := by
  refine .inr ⟨w.heap.size, 0, rfl, by simp, fun i v hi => ?_⟩
  rw [Nat.zero_add, cell_at (World.alloc_heap_new w _)]
  simpa using hi
theorem q1 (w : World) : Calls Try.prog 31 #[.slice (some ⟨w.heap.size, 0, none⟩) 6 6, .int .i64 3] (w.alloc (.cells #[.int .i64 1, .int .i64 3, .int .i64 4, .int .i64 5, .int .i64 8, .int .i64 9] 3)) (SpP (w.alloc (.cells #[.int .i64 1, .int .i64 3, .int .i64 4, .int .i64 5, .int .i64 8, .int .i64 9] 3)) [(3, 3)] [1, 8, 9] 0) :=
  split_in [1, 3, 4, 5, 8, 9] ris6 6 rfl 3 (by decide) (by decide) _ 6 (by decide) _ (rdz_new w [1, 3, 4, 5, 8, 9])
theorem q2 (A B : Option Addr) (c d : Nat) (hB : B = none → d = 0) (w : World) (h : RdV w w.heap.size A (rcs [(3, 3)])) (h2 : RdV w w.heap.size B (zc (ns [1, 8, 9]))) : Calls Try.prog 32 #[.slice A 1 c, .slice B 3 d] w (IntsP w [1, 3, 4, 5, 8, 9] 0) :=
  merge_in [(3, 3)] okR1 [1, 3, 4, 5, 8, 9] 0 1 rfl [1, 8, 9] ris3 (by decide +kernel) 3 rfl A B c d hB w h h2
theorem q3 (A : Option Addr) (c : Nat) (w : World) (h : RdV w w.heap.size A (rcs [(3, 3)])) : Calls Try.prog 33 #[.slice A 1 c] w fun e w' => e = .returned (.tuple #[.int .i64 3, .int .i64 0]) ∧ Below w.heap.size w w' :=
  count_any [(3, 3)] 1 rfl (by decide) [3, 4, 5] 0 (by decide +kernel) A c w h
theorem q4 (w : World) : Calls Try.prog 32 #[.slice (some ⟨w.heap.size, 0, none⟩) 2 2, .slice none 0 0] (w.alloc (.cells #[.int .i64 3, .int .i64 2, .int .i64 5, .int .i64 1] 60)) (IntsP (w.alloc (.cells #[.int .i64 3, .int .i64 2, .int .i64 5, .int .i64 1] 60)) [] 4) := by
  have h := merge_any [(3, 2), (5, 1)] 2 rfl (by decide) [] 0 rfl (by decide) _ none 2 0 (fun _ => rfl) _ (rdr_new w [(3, 2), (5, 1)]) (.inl rfl)
  have e : mgA [(3, 2), (5, 1)] [] = ([], 4) := by decide +kernel
  rw [e] at h
  exact h
theorem q5 (A : Option Addr) (c : Nat) (w : World) (h : RdV w w.heap.size A (rcs [(3, 3)])) : Calls Try.prog 32 #[.slice A 1 c, .slice (some ⟨w.heap.size, 0, none⟩) 1 1] (w.alloc (.cells #[.int .i64 4] 3)) (IntsP (w.alloc (.cells #[.int .i64 4] 3)) [] 6) :=
  merge_in [(3, 3)] okR1 [] 6 1 rfl [4] ris1 (by decide +kernel) 1 rfl A _ c 1 (fun h => by cases h) _ (h.on (one_below w _)) (rdz_new w [4])
theorem q6 (A : Option Addr) (c : Nat) (w : World) (h : RdV w w.heap.size A (rcs [(3, 3)])) : Calls Try.prog 37 #[.slice A 1 c, .slice (some ⟨w.heap.size, 0, none⟩) 1 1] (w.alloc (.cells #[.int .i64 3, .int .i64 3] 60)) fun e w' => e = .returned (.bool true) ∧ Below (w.alloc (.cells #[.int .i64 3, .int .i64 3] 60)).heap.size (w.alloc (.cells #[.int .i64 3, .int .i64 3] 60)) w' :=
  sameR_any _ A _ c 1 [(3, 3)] [(3, 3)] (by decide) (h.on (one_below w _)) (rdr_new w [(3, 3)])
theorem q7 (A : Option Addr) (c : Nat) (w : World) (h : RdV w w.heap.size A (zc (ns [1, 8, 9]))) : Calls Try.prog 25 #[.slice A 3 c, .slice (some ⟨w.heap.size, 0, none⟩) 3 3] (w.alloc (.cells #[.int .i64 1, .int .i64 8, .int .i64 9] 3)) fun e w' => e = .returned (.bool true) ∧ Below (w.alloc (.cells #[.int .i64 1, .int .i64 8, .int .i64 9] 3)).heap.size (w.alloc (.cells #[.int .i64 1, .int .i64 8, .int .i64 9] 3)) w' := by
  have h := sameI_l [1, 8, 9] [1, 8, 9] 3 3 rfl rfl (by decide) A _ c 3 _ (h.on (one_below w _)) (rdz_new w [1, 8, 9])
  rw [show decide (([1, 8, 9] : List Nat) = [1, 8, 9]) = true from by decide] at h
  exact h
theorem q8 (A : Option Addr) (c : Nat) (w : World) (h : RdV w w.heap.size A (zc (ns [1, 3, 4, 5, 8, 9]))) : Calls Try.prog 25 #[.slice A 6 c, .slice (some ⟨w.heap.size, 0, none⟩) 6 6] (w.alloc (.cells #[.int .i64 1, .int .i64 3, .int .i64 4, .int .i64 5, .int .i64 8, .int .i64 9] 3)) fun e w' => e = .returned (.bool true) ∧ Below (w.alloc (.cells #[.int .i64 1, .int .i64 3, .int .i64 4, .int .i64 5, .int .i64 8, .int .i64 9] 3)).heap.size (w.alloc (.cells #[.int .i64 1, .int .i64 3, .int .i64 4, .int .i64 5, .int .i64 8, .int .i64 9] 3)) w' := by
  have h := sameI_l [1, 3, 4, 5, 8, 9] [1, 3, 4, 5, 8, 9] 6 6 rfl rfl (by decide) A _ c 6 _ (h.on (one_below w _)) (rdz_new w [1, 3, 4, 5, 8, 9])
  rw [show decide (([1, 3, 4, 5, 8, 9] : List Nat) = [1, 3, 4, 5, 8, 9]) = true from by decide] at h
  exact h
set_option maxHeartbeats 4000000 in
theorem runsbegun_true (w : World) : Calls Try.prog 36 #[] w fun e w' => e = .returned (.bool true) ∧ Below w.heap.size w w' := by
  go_enter Try.func36, Try.ntmps36
  go_wp2_with fail
  refine (q1 w).mono ?_
  rintro e w1_ ⟨A1, c1, A2, c2, rfl, -, ⟨-, hA2⟩, Rq, Rq2, Bq⟩
  rw [World.size_alloc] at Bq
  have Sq : Below w.heap.size w w1_ := (one_below w _).trans (Bq.mono (by omega))
  have HB : Hid (Below w.heap.size w w1_) := Sq
  clear Bq Sq
  have HR1 := Lib.hid Rq; clear Rq
  have HR2 := Lib.hid Rq2; clear Rq2
  go_wp2_with fail
  refine (q2 A1 A2 c1 c2 hA2 w1_ HR1.out HR2.out).mono ?_
  rintro e w2_ ⟨A3, c3, rfl, -, -, Rq, Bq⟩
  have Sq : Below w1_.heap.size w1_ w2_ := Bq
  replace HR1 : Hid (RdV w2_ w2_.heap.size A1 (rcs [(3, 3)])) := HR1.out.on Sq
  replace HR2 : Hid (RdV w2_ w2_.heap.size A2 (zc (ns [1, 8, 9]))) := HR2.out.on Sq
  replace HB : Hid (Below w.heap.size w w2_) := HB.out.trans (Sq.mono HB.out.size)
  clear Bq Sq
  have HR3 := Lib.hid Rq; clear Rq
  go_wp2_with fail
  refine (q3 A1 c1 w2_ HR1.out).mono ?_
  rintro e w3_ ⟨rfl, Bq⟩
  have Sq : Below w2_.heap.size w2_ w3_ := Bq
  replace HR1 : Hid (RdV w3_ w3_.heap.size A1 (rcs [(3, 3)])) := HR1.out.on Sq
  replace HR2 : Hid (RdV w3_ w3_.heap.size A2 (zc (ns [1, 8, 9]))) := HR2.out.on Sq
  replace HR3 : Hid (RdV w3_ w3_.heap.size A3 (zc (ns [1, 3, 4, 5, 8, 9]))) := HR3.out.on Sq
  replace HB : Hid (Below w.heap.size w w3_) := HB.out.trans (Sq.mono HB.out.size)
  clear Bq Sq
  go_wp2_with fail
  refine (q4 w3_).mono ?_
  rintro e w4_ ⟨A4, c4, rfl, -, -, -, Bq⟩
  rw [World.size_alloc] at Bq
  have Sq : Below w3_.heap.size w3_ w4_ := (one_below w3_ _).trans (Bq.mono (by omega))
  replace HR1 : Hid (RdV w4_ w4_.heap.size A1 (rcs [(3, 3)])) := HR1.out.on Sq
  replace HR2 : Hid (RdV w4_ w4_.heap.size A2 (zc (ns [1, 8, 9]))) := HR2.out.on Sq
  replace HR3 : Hid (RdV w4_ w4_.heap.size A3 (zc (ns [1, 3, 4, 5, 8, 9]))) := HR3.out.on Sq
  replace HB : Hid (Below w.heap.size w w4_) := HB.out.trans (Sq.mono HB.out.size)
  clear Bq Sq
  go_wp2_with fail
  refine (q5 A1 c1 w4_ HR1.out).mono ?_
  rintro e w5_ ⟨A5, c5, rfl, -, -, -, Bq⟩
  rw [World.size_alloc] at Bq
  have Sq : Below w4_.heap.size w4_ w5_ := (one_below w4_ _).trans (Bq.mono (by omega))
  replace HR1 : Hid (RdV w5_ w5_.heap.size A1 (rcs [(3, 3)])) := HR1.out.on Sq
  replace HR2 : Hid (RdV w5_ w5_.heap.size A2 (zc (ns [1, 8, 9]))) := HR2.out.on Sq
  replace HR3 : Hid (RdV w5_ w5_.heap.size A3 (zc (ns [1, 3, 4, 5, 8, 9]))) := HR3.out.on Sq
  replace HB : Hid (Below w.heap.size w w5_) := HB.out.trans (Sq.mono HB.out.size)
  clear Bq Sq
  go_wp2_with fail
  refine (q6 A1 c1 w5_ HR1.out).mono ?_
  rintro e w6_ ⟨rfl, Bq⟩
  rw [World.size_alloc] at Bq
  have Sq : Below w5_.heap.size w5_ w6_ := (one_below w5_ _).trans (Bq.mono (by omega))
  replace HR1 : Hid (RdV w6_ w6_.heap.size A1 (rcs [(3, 3)])) := HR1.out.on Sq
  replace HR2 : Hid (RdV w6_ w6_.heap.size A2 (zc (ns [1, 8, 9]))) := HR2.out.on Sq
  replace HR3 : Hid (RdV w6_ w6_.heap.size A3 (zc (ns [1, 3, 4, 5, 8, 9]))) := HR3.out.on Sq
  replace HB : Hid (Below w.heap.size w w6_) := HB.out.trans (Sq.mono HB.out.size)
  clear Bq Sq
  go_wp2_with fail
  refine (q7 A2 c2 w6_ HR2.out).mono ?_
  rintro e w7_ ⟨rfl, Bq⟩
  rw [World.size_alloc] at Bq
  have Sq : Below w6_.heap.size w6_ w7_ := (one_below w6_ _).trans (Bq.mono (by omega))
  replace HR1 : Hid (RdV w7_ w7_.heap.size A1 (rcs [(3, 3)])) := HR1.out.on Sq
  replace HR2 : Hid (RdV w7_ w7_.heap.size A2 (zc (ns [1, 8, 9]))) := HR2.out.on Sq
  replace HR3 : Hid (RdV w7_ w7_.heap.size A3 (zc (ns [1, 3, 4, 5, 8, 9]))) := HR3.out.on Sq
  replace HB : Hid (Below w.heap.size w w7_) := HB.out.trans (Sq.mono HB.out.size)
  clear Bq Sq
  go_wp2_with fail
  refine (q8 A3 c3 w7_ HR3.out).mono ?_
  rintro e w8_ ⟨rfl, Bq⟩
  rw [World.size_alloc] at Bq
  have Sq : Below w7_.heap.size w7_ w8_ := (one_below w7_ _).trans (Bq.mono (by omega))
  replace HR1 : Hid (RdV w8_ w8_.heap.size A1 (rcs [(3, 3)])) := HR1.out.on Sq
  replace HR2 : Hid (RdV w8_ w8_.heap.size A2 (zc (ns [1, 8, 9]))) := HR2.out.on Sq
  replace HR3 : Hid (RdV w8_ w8_.heap.size A3 (zc (ns [1, 3, 4, 5, 8, 9]))) := HR3.out.on Sq
  replace HB : Hid (Below w.heap.size w w8_) := HB.out.trans (Sq.mono HB.out.size)
  clear Bq Sq
  go_wp2
  go_ret
  exact ⟨rfl, HB.out⟩
end Go.Proofs.Ythldcdcpflamaaa
