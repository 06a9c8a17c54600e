/- The document's comparisons of lists, of arcs, of graphs; is a number in a list, an arc in a graph. -/
import Derived.Test.YtnbjhldpadjgfaaWDeg
import Derived.Laws.StructEq
import Derived.Test.YtnbjhldpadjgfaaWGok
namespace Go.Proofs.Ytnbjhldpadjgfaa

section
set_option maxRecDepth 100000
set_option linter.unusedVariables false
open Go.RowKit Go.Shelf

/-- At each round's head: so many bytes are alike. -/
def SameRelI (w : World) (xs ys : List Int) (p : Value) (wr : World) : Prop := ∃ i : Nat, i ≤ xs.length ∧ p = .int .i64 (i : Int) ∧ xs.take i = ys.take i ∧ Below w.heap.size w wr
theorem take_succ_sameI (xs ys : List Int) (i : Nat) (h1 : i < xs.length) (h2 : i < ys.length) (h : xs.take i = ys.take i) (he : xs[i]?.getD 0 = ys[i]?.getD 0) : xs.take (i + 1) = ys.take (i + 1) := by
  rw [List.take_succ_eq_append_getElem h1, List.take_succ_eq_append_getElem h2, h]
  rw [List.getElem?_eq_getElem h1, List.getElem?_eq_getElem h2] at he
  simp only [Option.getD_some] at he
  rw [he]
theorem ne_of_atI (xs ys : List Int) (i : Nat) (he : xs[i]?.getD 0 ≠ ys[i]?.getD 0) : ¬ xs = ys := fun h => he (by rw [h])
set_option maxHeartbeats 400000 in
theorem sameI_len (w : World) (A B : Option Addr) (n m c d : Nat) (hl : n ≠ m) :
    Calls Try.prog 22 #[.slice A n c, .slice B m d] w fun e w' => e = .returned (.bool false) ∧ Below w.heap.size w w' := by
  have h1 : ((n : Int) != (m : Int)) = true := by simp; omega
  clear hl
  go_enter Try.func22, Try.ntmps22
  go_wp2
  go_ret
  exact ⟨rfl, Below.refl _ _⟩
set_option maxHeartbeats 1000000 in
theorem same_ints (w : World) (A B : Option Addr) (c d : Nat) (xs ys : List Int) (n : Nat) (hn : xs.length = n) (hm : ys.length = n) (h2 : n ≤ 9223372036854775807) (hA : RdV w w.heap.size A (zc xs)) (hB : RdV w w.heap.size B (zc ys)) :
    Calls Try.prog 22 #[.slice A n c, .slice B n d] w fun e w' => e = .returned (.bool (decide (xs = ys))) ∧ Below w.heap.size w w' := by
  have HA := Lib.hid hA; clear hA
  have HB := Lib.hid hB; clear hB
  have HN := Lib.hid hn; clear hn
  have HM := Lib.hid hm; clear hm
  have t0 : ((n : Int) != (n : Int)) = false := by simp
  go_enter Try.func22, Try.ntmps22
  go_wp2
  go_loopw [5] (fun p wr => SameRelI w xs ys p wr) (fun p _ => n - (intOf p).toNat)
  case atStart => exact ⟨0, Nat.zero_le _, rfl, rfl, Below.refl _ _⟩
  case round =>
    obtain ⟨i, hi, hp, ht, hb⟩ := hrel
    subst hp
    rw [HN.out] at hi
    by_cases hlt : i < n
    · obtain ⟨b1, o1, rfl, hb1, hc1⟩ := HA.out.at_ (zc_get xs i (by rw [HN.out]; exact hlt))
      obtain ⟨b2, o2, rfl, hb2, hc2⟩ := HB.out.at_ (zc_get ys i (by rw [HM.out]; exact hlt))
      have e1 := (hb.cell (p := ⟨b1, o1 + i, none⟩) hb1).trans hc1
      have e2 := (hb.cell (p := ⟨b2, o2 + i, none⟩) hb2).trans hc2
      have hstep := fun he => take_succ_sameI xs ys i (by rw [HN.out]; exact hlt) (by rw [HM.out]; exact hlt) ht he
      have hno := ne_of_atI xs ys i
      clear hc1 hc2 ht
      generalize xs[i]?.getD 0 = x at *
      generalize ys[i]?.getD 0 = y at *
      by_cases hxy : x = y
      · subst hxy
        have HT := Lib.hid (hstep rfl)
        clear hstep hno
        have t1 : (x != x) = false := by simp
        go_wp2
        go_region
        go_wp2
        go_roundw
        case rel => exact ⟨i + 1, by rw [HN.out]; omega, by go_num, HT.out, hb.drew⟩
        case measure => simp [intOf]; omega
      · have HT := Lib.hid (hno hxy)
        clear hstep hno
        have t1 : (x != y) = true := by simpa using hxy
        clear hxy
        go_wp2
        go_region
        go_wp2
        go_ret
        exact ⟨by rw [decide_eq_false HT.out]; rfl, hb.drew⟩
    · have HT : Hid (xs = ys) := by
        have e : i = n := by omega
        rw [e, List.take_of_length_le (by rw [HN.out]; omega), List.take_of_length_le (by rw [HM.out]; omega)] at ht
        exact ht
      clear ht
      go_wp2
      go_ret
      exact ⟨by rw [decide_eq_true HT.out]; rfl, hb⟩
theorem sameI_any (w : World) (A B : Option Addr) (c d : Nat) (xs ys : List Int) (h2 : xs.length ≤ 9223372036854775807) (hA : RdV w w.heap.size A (zc xs)) (hB : RdV w w.heap.size B (zc ys)) :
    Calls Try.prog 22 #[.slice A xs.length c, .slice B ys.length d] w fun e w' => e = .returned (.bool (decide (xs = ys))) ∧ Below w.heap.size w w' := by
  by_cases h : xs.length = ys.length
  · rw [← h]; exact same_ints w A B c d xs ys xs.length rfl h.symm h2 hA hB
  · have e : decide (xs = ys) = false := by rw [decide_eq_false_iff_not]; intro he; exact h (by rw [he])
    rw [e]
    exact sameI_len w A B _ _ c d h
theorem rdz_new (w : World) (l : List Nat) : RdV (w.alloc (.cells (zc (ns l)).toArray 3)) (w.alloc (.cells (zc (ns l)).toArray 3)).heap.size (some ⟨w.heap.size, 0, none⟩) (zc (ns l)) := by
  refine .inr ⟨w.heap.size, 0, rfl, by simp, fun i v hi => ?_⟩
  rw [cell_of_row _ _ _ _ _ _ (World.alloc_heap_new w (.cells (zc (ns l)).toArray 3))]
  simpa using hi
theorem sameI_l (l m : List Nat) (n k : Nat) (hn : l.length = n) (hk : m.length = k) (h2 : n ≤ 9223372036854775807) (A B : Option Addr) (c d : Nat) (w : World) (hA : RdV w w.heap.size A (zc (ns l))) (hB : RdV w w.heap.size B (zc (ns m))) :
    Calls Try.prog 22 #[.slice A n c, .slice B k d] w fun e w' => e = .returned (.bool (decide (l = m))) ∧ Below w.heap.size w w' := by
  have h := sameI_any w A B c d (ns l) (ns m) (by rw [ns_length]; omega) hA hB
  rw [ns_length, ns_length, hn, hk] at h
  have e : decide (ns l = ns m) = decide (l = m) := by
    by_cases h : l = m
    · rw [h]; simp
    · rw [decide_eq_false h, decide_eq_false (fun e => h (ns_inj e))]
  rwa [e] at h

theorem neq_run (a b c d : Int) (w : World) : (binOp .neq 36 (.agg #[.int .i64 a, .int .i64 b]) (.agg #[.int .i64 c, .int .i64 d])).run Try.prog w = .ok (.bool (!(a == c && b == d))) w := by
  have h60 := Try.underlying36
  have h3 := Try.underlying3
  by_cases h1 : a = c <;> by_cases h2 : b = d <;> simp [go_sem, h60, h3, h1, h2]
/-- At each round's head: so many bytes are alike. -/
def SameRelR (w : World) (xs ys : List Ri) (p : Value) (wr : World) : Prop := ∃ i : Nat, i ≤ xs.length ∧ p = .int .i64 (i : Int) ∧ xs.take i = ys.take i ∧ Below w.heap.size w wr
theorem take_succ_sameR (xs ys : List Ri) (i : Nat) (h1 : i < xs.length) (h2 : i < ys.length) (h : xs.take i = ys.take i) (he : xs[i]?.getD (0, 0) = ys[i]?.getD (0, 0)) : xs.take (i + 1) = ys.take (i + 1) := by
  rw [List.take_succ_eq_append_getElem h1, List.take_succ_eq_append_getElem h2, h]
  rw [List.getElem?_eq_getElem h1, List.getElem?_eq_getElem h2] at he
  simp only [Option.getD_some] at he
  rw [he]
theorem ne_of_atR (xs ys : List Ri) (i : Nat) (he : xs[i]?.getD (0, 0) ≠ ys[i]?.getD (0, 0)) : ¬ xs = ys := fun h => he (by rw [h])
set_option maxHeartbeats 400000 in
theorem sameR_len (w : World) (A B : Option Addr) (n m c d : Nat) (hl : n ≠ m) :
    Calls Try.prog 49 #[.slice A n c, .slice B m d] w fun e w' => e = .returned (.bool false) ∧ Below w.heap.size w w' := by
  have h1 : ((n : Int) != (m : Int)) = true := by simp; omega
  clear hl
  go_enter Try.func49, Try.ntmps49
  go_wp2
  go_ret
  exact ⟨rfl, Below.refl _ _⟩
set_option maxHeartbeats 1000000 in
theorem same_runs (w : World) (A B : Option Addr) (c d : Nat) (xs ys : List Ri) (n : Nat) (hn : xs.length = n) (hm : ys.length = n) (h2 : n ≤ 1000000000) (hA : RdV w w.heap.size A (rcs xs)) (hB : RdV w w.heap.size B (rcs ys)) :
    Calls Try.prog 49 #[.slice A n c, .slice B n d] w fun e w' => e = .returned (.bool (decide (xs = ys))) ∧ Below w.heap.size w w' := by
  have HA := Lib.hid hA; clear hA
  have HB := Lib.hid hB; clear hB
  have HN := Lib.hid hn; clear hn
  have HM := Lib.hid hm; clear hm
  have t0 : ((n : Int) != (n : Int)) = false := by simp
  go_enter Try.func49, Try.ntmps49
  go_wp2
  go_loopw [5] (fun p wr => SameRelR w xs ys p wr) (fun p _ => n - (intOf p).toNat)
  case atStart => exact ⟨0, Nat.zero_le _, rfl, rfl, Below.refl _ _⟩
  case round =>
    obtain ⟨i, hi, hp, ht, hb⟩ := hrel
    subst hp
    rw [HN.out] at hi
    by_cases hlt : i < n
    · obtain ⟨q1, q1'⟩ := rcs_at xs i (by rw [HN.out]; exact hlt)
      obtain ⟨q2, q2'⟩ := rcs_at ys i (by rw [HM.out]; exact hlt)
      obtain ⟨b1, o1, rfl, hb1, hc1⟩ := HA.out.at_ q1
      obtain ⟨b1', o1', e1', hb1', hc1'⟩ := HA.out.at_ q1'
      simp only [Option.some.injEq, Addr.mk.injEq, and_true] at e1'
      obtain ⟨rfl, rfl⟩ := e1'
      obtain ⟨b2, o2, rfl, hb2, hc2⟩ := HB.out.at_ q2
      obtain ⟨b2', o2', e2', hb2', hc2'⟩ := HB.out.at_ q2'
      simp only [Option.some.injEq, Addr.mk.injEq, and_true] at e2'
      obtain ⟨rfl, rfl⟩ := e2'
      rw [← Nat.add_assoc] at hc1' hc2'
      have e1 := (hb.cell (p := ⟨b1, o1 + i * 2, none⟩) hb1).trans hc1
      have e2 := (hb.cell (p := ⟨b2, o2 + i * 2, none⟩) hb2).trans hc2
      have e3 := (hb.cell (p := ⟨b1, o1 + i * 2 + 1, none⟩) hb1).trans hc1'
      have e4 := (hb.cell (p := ⟨b2, o2 + i * 2 + 1, none⟩) hb2).trans hc2'
      clear q1 q1' q2 q2' hc1' hc2'
      have hstep := fun he => take_succ_sameR xs ys i (by rw [HN.out]; exact hlt) (by rw [HM.out]; exact hlt) ht he
      have hno := ne_of_atR xs ys i
      clear hc1 hc2 ht
      generalize xs[i]?.getD (0, 0) = x at *
      generalize ys[i]?.getD (0, 0) = y at *
      by_cases hxy : x = y
      · subst hxy
        have HT := Lib.hid (hstep rfl)
        clear hstep hno
        obtain ⟨x1, x2⟩ := x
        simp only at e1 e2 e3 e4
        have hq : ∀ V : World, (binOp .neq 36 (.agg #[.int .i64 x1, .int .i64 x2]) (.agg #[.int .i64 x1, .int .i64 x2])).run Try.prog V = .ok (.bool false) V := fun V => by rw [neq_run]; simp
        go_wp2
        go_quiet (fail)
        go_wp2
        go_roundw
        case rel => exact ⟨i + 1, by rw [HN.out]; omega, by go_num, HT.out, below_drewN hb _⟩
        case measure => simp [intOf]; omega
      · have HT := Lib.hid (hno hxy)
        clear hstep hno
        obtain ⟨x1, x2⟩ := x
        obtain ⟨y1, y2⟩ := y
        simp only at e1 e2 e3 e4
        have t1 : (x1 == y1 && x2 == y2) = false := by
          rw [Bool.and_eq_false_iff]
          by_cases h : x1 = y1
          · right; simp; intro h2; exact hxy (by rw [h, h2])
          · left; simpa using h
        have hq : ∀ V : World, (binOp .neq 36 (.agg #[.int .i64 x1, .int .i64 x2]) (.agg #[.int .i64 y1, .int .i64 y2])).run Try.prog V = .ok (.bool true) V := fun V => by rw [neq_run, t1]; rfl
        clear hxy t1
        go_wp2
        go_quiet (fail)
        go_wp2
        go_ret
        exact ⟨by rw [decide_eq_false HT.out]; rfl, below_drewN hb _⟩
    · have HT : Hid (xs = ys) := by
        have e : i = n := by omega
        rw [e, List.take_of_length_le (by rw [HN.out]; omega), List.take_of_length_le (by rw [HM.out]; omega)] at ht
        exact ht
      clear ht
      go_wp2
      go_ret
      exact ⟨by rw [decide_eq_true HT.out]; rfl, hb⟩
theorem sameR_any (w : World) (A B : Option Addr) (c d : Nat) (xs ys : List Ri) (h2 : xs.length ≤ 1000000000) (hA : RdV w w.heap.size A (rcs xs)) (hB : RdV w w.heap.size B (rcs ys)) :
    Calls Try.prog 49 #[.slice A xs.length c, .slice B ys.length d] w fun e w' => e = .returned (.bool (decide (xs = ys))) ∧ Below w.heap.size w w' := by
  by_cases h : xs.length = ys.length
  · rw [← h]; exact same_runs w A B c d xs ys xs.length rfl h.symm h2 hA hB
  · have e : decide (xs = ys) = false := by rw [decide_eq_false_iff_not]; intro he; exact h (by rw [he])
    rw [e]
    exact sameR_len w A B _ _ c d h

theorem rdr_new (w : World) (r : List Ri) : RdV (w.alloc (.cells (rcs r).toArray 36)) (w.alloc (.cells (rcs r).toArray 36)).heap.size (some ⟨w.heap.size, 0, none⟩) (rcs r) := by
  refine .inr ⟨w.heap.size, 0, rfl, by simp, fun i v hi => ?_⟩
  rw [Nat.zero_add, cell_at (World.alloc_heap_new w _)]
  simpa using hi
def HiRel (xs : List Int) (z : Int) (w : World) (p : Value) (wr : World) : Prop := ∃ i : Nat, i ≤ xs.length ∧ p = .int .i64 (i : Int) ∧ (∀ j, j < i → xs[j]?.getD 0 ≠ z) ∧ wr = w
set_option maxHeartbeats 1000000 in
theorem hasInt_any (xs : List Int) (n : Nat) (hn : xs.length = n) (hn2 : n ≤ 9223372036854775807) (z : Int) (r : Bool) (hr : (r = true ∧ z ∈ xs) ∨ (r = false ∧ z ∉ xs)) (A : Option Addr) (c : Nat) (w : World) (h : RdV w w.heap.size A (zc xs)) :
    Calls Try.prog 92 #[.slice A n c, .int .i64 z] w fun e w' => e = .returned (.bool r) ∧ w' = w := by
  have HX := Lib.hid h; have HN := Lib.hid hn; have HR := Lib.hid hr
  clear h hn hr
  go_enter Try.func92, Try.ntmps92
  go_wp2
  go_loopw [5] (fun p wr => HiRel xs z w p wr) (fun p _ => n - (intOf p).toNat)
  case atStart => exact ⟨0, Nat.zero_le _, rfl, fun j hj => absurd hj (Nat.not_lt_zero _), rfl⟩
  case round =>
    obtain ⟨i, hi, rfl, hno, rfl⟩ := hrel
    rw [HN.out] at hi
    by_cases hlt : i < n
    · have hin : i < xs.length := by rw [HN.out]; exact hlt
      obtain ⟨b, off, rfl, hb, hc⟩ := HX.out.at_ (zc_get xs i hin)
      have hmem : xs[i]?.getD 0 ∈ xs := by rw [List.getElem?_eq_getElem hin]; exact List.getElem_mem hin
      have HNo := Lib.hid hno
      have hstep : xs[i]?.getD 0 ≠ z → ∀ j, j < i + 1 → xs[j]?.getD 0 ≠ z := fun hne j hj => by
        rcases Nat.lt_or_ge j i with h | h
        · exact HNo.out j h
        · obtain rfl : j = i := by omega
          exact hne
      clear hno HNo
      generalize xs[i]?.getD 0 = x at *
      by_cases hx : x = z
      · have hr : r = true := by
          rcases HR.out with ⟨h, _⟩ | ⟨_, h⟩
          · exact h
          · exact absurd (hx ▸ hmem) h
        have t1 : (x == z) = true := by simpa using hx
        have HRr := Lib.hid hr
        clear hr hstep hmem hx HR
        go_wp2
        go_ret
        exact ⟨by rw [HRr.out]; rfl, rfl⟩
      · have HSt := Lib.hid (hstep hx)
        have t1 : (x == z) = false := by simpa using hx
        clear hstep hmem hx
        go_wp2
        go_roundw
        case rel => exact ⟨i + 1, by rw [HN.out]; omega, by go_num, HSt.out, rfl⟩
        case measure => simp [intOf]; omega
    · have hr : r = false := by
        rcases HR.out with ⟨_, h⟩ | ⟨h, _⟩
        · obtain ⟨j, hj, he⟩ := List.getElem_of_mem h
          exact absurd (by rw [List.getElem?_eq_getElem hj]; exact he) (hno j (by rw [HN.out] at hj; omega))
        · exact h
      have HRr := Lib.hid hr
      clear hr hno HR
      go_wp2
      go_ret
      exact ⟨by rw [HRr.out]; rfl, rfl⟩
def SameRelL (w : World) (R S : List Rw) (p : Value) (wr : World) : Prop := ∃ i : Nat, i ≤ R.length ∧ p = .int .i64 (i : Int) ∧ (gs R).take i = (gs S).take i ∧ Below w.heap.size w wr
theorem take_succ_sameL (xs ys : List (List Int)) (i : Nat) (h1 : i < xs.length) (h2 : i < ys.length) (h : xs.take i = ys.take i) (he : xs[i]?.getD [] = ys[i]?.getD []) : xs.take (i + 1) = ys.take (i + 1) := by
  rw [List.take_succ_eq_append_getElem h1, List.take_succ_eq_append_getElem h2, h]
  rw [List.getElem?_eq_getElem h1, List.getElem?_eq_getElem h2] at he
  simp only [Option.getD_some] at he
  rw [he]
theorem gs_at (R : List Rw) (i : Nat) (h : i < R.length) : (gs R)[i]?.getD [] = (R[i]?.getD (none, 0, [])).2.2 := by
  unfold gs; rw [List.getElem?_map, List.getElem?_eq_getElem h]; rfl
set_option maxHeartbeats 400000 in
theorem sameL_len (w : World) (A B : Option Addr) (n m c d : Nat) (hl : n ≠ m) :
    Calls Try.prog 48 #[.slice A n c, .slice B m d] w fun e w' => e = .returned (.bool false) ∧ Below w.heap.size w w' := by
  have h1 : ((n : Int) != (m : Int)) = true := by simp; omega
  clear hl
  go_enter Try.func48, Try.ntmps48
  go_wp2
  go_ret
  exact ⟨rfl, Below.refl _ _⟩
set_option maxHeartbeats 2000000 in
theorem same_lists (w : World) (A B : Option Addr) (c d : Nat) (R S : List Rw) (n : Nat) (hn : R.length = n) (hm : S.length = n) (h2 : n ≤ 9223372036854775807) (hA : RdG w w.heap.size A R) (hB : RdG w w.heap.size B S) :
    Calls Try.prog 48 #[.slice A n c, .slice B n d] w fun e w' => e = .returned (.bool (decide (gs R = gs S))) ∧ Below w.heap.size w w' := by
  have HA := Lib.hid hA; clear hA
  have HB := Lib.hid hB; clear hB
  have HN := Lib.hid hn; clear hn
  have HM := Lib.hid hm; clear hm
  have t0 : ((n : Int) != (n : Int)) = false := by simp
  go_enter Try.func48, Try.ntmps48
  go_wp2
  go_loopw [5] (fun p wr => SameRelL w R S p wr) (fun p _ => n - (intOf p).toNat)
  case atStart => exact ⟨0, Nat.zero_le _, rfl, rfl, Below.refl _ _⟩
  case round =>
    obtain ⟨i, hi, hp, ht, hb⟩ := hrel
    subst hp
    rw [HN.out] at hi
    by_cases hlt : i < n
    · have hi1 : i < R.length := by rw [HN.out]; exact hlt
      have hi2 : i < S.length := by rw [HM.out]; exact hlt
      obtain ⟨b1, o1, rfl, hb1, hc1⟩ := HA.out.1.at_ (rcl_get R i hi1)
      obtain ⟨b2, o2, rfl, hb2, hc2⟩ := HB.out.1.at_ (rcl_get S i hi2)
      have e1 := (hb.cell (p := ⟨b1, o1 + i, none⟩) hb1).trans hc1
      have e2 := (hb.cell (p := ⟨b2, o2 + i, none⟩) hb2).trans hc2
      have hr1 := HA.out.2 _ (rw_mem R i hi1)
      have hr2 := HB.out.2 _ (rw_mem S i hi2)
      have hstep := fun he => take_succ_sameL (gs R) (gs S) i (by rw [gs_length]; exact hi1) (by rw [gs_length]; exact hi2) ht he
      rw [gs_at R i hi1, gs_at S i hi2] at hstep
      have hno : (R[i]?.getD (none, 0, [])).2.2 ≠ (S[i]?.getD (none, 0, [])).2.2 → ¬ gs R = gs S := fun hne he => hne (by rw [← gs_at R i hi1, ← gs_at S i hi2, he])
      clear hc1 hc2 ht
      generalize R[i]?.getD (none, 0, []) = x at *
      generalize S[i]?.getD (none, 0, []) = y at *
      obtain ⟨A1, c1, xs⟩ := x
      obtain ⟨A2, c2, ys⟩ := y
      unfold sl at e1 e2
      simp only at e1 e2 hr1 hr2 hstep hno
      have hbd := hb.drew
      have HC := Lib.hid (sameI_any wr.drew A1 A2 c1 c2 xs ys (by omega) (hr1.1.below hbd hbd.size) (hr2.1.below hbd hbd.size))
      have HBd := Lib.hid hbd
      generalize xs.length = l1 at *
      generalize ys.length = l2 at *
      clear hr1 hr2 hb hbd
      by_cases hxy : xs = ys
      · have HT := Lib.hid (hstep hxy)
        rw [decide_eq_true hxy] at HC
        clear hstep hno hxy
        go_wp2_with fail
        go_region_held3 (fun w' => w'.cell? ⟨b1, o1 + i, none⟩ = some (.slice A1 l1 c1) ∧ w'.cell? ⟨b2, o2 + i, none⟩ = some (.slice A2 l2 c2))
          (first | exact ⟨e1, e2⟩ | exact ⟨HQ.out.1, HQ.out.2.1⟩)
          (first | (go_at_call 22; refine HC.out.mono ?_; rintro e wq ⟨rfl, bq⟩; have HQ : Hid (wq.cell? ⟨b1, o1 + i, none⟩ = some (.slice A1 l1 c1) ∧ wq.cell? ⟨b2, o2 + i, none⟩ = some (.slice A2 l2 c2) ∧ Below w.heap.size w wq) := ⟨(bq.cell (p := ⟨b1, o1 + i, none⟩) (World.block_lt_of_cell? wr.drew _ e1)).trans e1, (bq.cell (p := ⟨b2, o2 + i, none⟩) (World.block_lt_of_cell? wr.drew _ e2)).trans e2, HBd.out.trans (bq.mono HBd.out.size)⟩; clear bq))
        all_goals (
          go_wp2
          go_roundw
          case rel => exact ⟨i + 1, by rw [HN.out]; omega, by go_num, HT.out, HQ.out.2.2⟩
          case measure => simp [intOf]; omega)
      · have HT := Lib.hid (hno hxy)
        rw [decide_eq_false hxy] at HC
        clear hstep hno hxy
        go_wp2_with fail
        go_region_held3 (fun w' => w'.cell? ⟨b1, o1 + i, none⟩ = some (.slice A1 l1 c1) ∧ w'.cell? ⟨b2, o2 + i, none⟩ = some (.slice A2 l2 c2))
          (first | exact ⟨e1, e2⟩ | exact ⟨HQ.out.1, HQ.out.2.1⟩)
          (first | (go_at_call 22; refine HC.out.mono ?_; rintro e wq ⟨rfl, bq⟩; have HQ : Hid (wq.cell? ⟨b1, o1 + i, none⟩ = some (.slice A1 l1 c1) ∧ wq.cell? ⟨b2, o2 + i, none⟩ = some (.slice A2 l2 c2) ∧ Below w.heap.size w wq) := ⟨(bq.cell (p := ⟨b1, o1 + i, none⟩) (World.block_lt_of_cell? wr.drew _ e1)).trans e1, (bq.cell (p := ⟨b2, o2 + i, none⟩) (World.block_lt_of_cell? wr.drew _ e2)).trans e2, HBd.out.trans (bq.mono HBd.out.size)⟩; clear bq))
        all_goals (
          go_wp2
          go_ret
          exact ⟨by rw [decide_eq_false HT.out]; rfl, HQ.out.2.2⟩)
    · have HT : Hid (gs R = gs S) := by
        have e : i = n := by omega
        rw [e, List.take_of_length_le (by rw [gs_length, HN.out]; omega), List.take_of_length_le (by rw [gs_length, HM.out]; omega)] at ht
        exact ht
      clear ht
      go_wp2
      go_ret
      exact ⟨by rw [decide_eq_true HT.out]; rfl, hb⟩
theorem sameL_any (w : World) (A B : Option Addr) (c d : Nat) (R S : List Rw) (n m : Nat) (hn : R.length = n) (hm : S.length = m) (h2 : n ≤ 9223372036854775807) (hA : RdG w w.heap.size A R) (hB : RdG w w.heap.size B S) :
    Calls Try.prog 48 #[.slice A n c, .slice B m d] w fun e w' => e = .returned (.bool (decide (gs R = gs S))) ∧ Below w.heap.size w w' := by
  by_cases h : n = m
  · subst h; exact same_lists w A B c d R S n hn hm h2 hA hB
  · have e : decide (gs R = gs S) = false := by rw [decide_eq_false_iff_not]; intro he; have := congrArg List.length he; rw [gs_length, gs_length] at this; omega
    rw [e]
    exact sameL_len w A B _ _ c d h
end

section
set_option maxRecDepth 100000
set_option linter.unusedVariables false
open Go.RowKit Go.Shelf

set_option maxHeartbeats 1000000 in
theorem leads_any (R : List Rw) (N : Nat) (hN : R.length = N) (A : Option Addr) (c : Nat) (i : Nat) (hi : i < N) (z : Int) (w : World) (h : RdG w w.heap.size A R) :
    Calls Try.prog 66 #[.agg #[.slice A N c], .int .i64 (i : Int), .int .i64 z] w fun e w' => e = .returned (.bool (decide (z ∈ (R[i]?.getD (none, 0, [])).2.2))) ∧ Below w.heap.size w w' := by
  have hi1 : i < R.length := by omega
  obtain ⟨b1, o1, rfl, hb1, hc1⟩ := h.1.at_ (rcl_get R i hi1)
  have hr1 := h.2 _ (rw_mem R i hi1)
  have hb := one_below w (.cells #[.slice (some ⟨b1, o1, none⟩) N c] 24)
  have e1 := (hb.cell (p := ⟨b1, o1 + i, none⟩) hb1).trans hc1
  generalize R[i]?.getD (none, 0, []) = x at *
  obtain ⟨A1, c1, xs⟩ := x
  unfold sl at e1
  simp only at e1 hr1 ⊢
  obtain ⟨r, hr⟩ : ∃ r, decide (z ∈ xs) = r := ⟨_, rfl⟩
  have hrr : (r = true ∧ z ∈ xs) ∨ (r = false ∧ z ∉ xs) := by
    by_cases q : z ∈ xs
    · left; exact ⟨by rw [← hr, decide_eq_true q], q⟩
    · right; exact ⟨by rw [← hr, decide_eq_false q], q⟩
  rw [hr]
  have HC := Lib.hid (hasInt_any xs xs.length rfl (by omega) z r hrr A1 c1 _ (hr1.1.on hb))
  have HB := Lib.hid hb
  have t1 : (0 : Int) ≤ (i : Int) := by omega
  have t2 : (i : Int) < (N : Int) := by omega
  generalize xs.length = l1 at *
  clear hrr hr hr1 h hc1 hb1 hb hN hi1
  go_enter Try.func66, Try.ntmps66
  go_wp2_with fail
  refine HC.out.mono ?_
  rintro e w1 ⟨rfl, rfl⟩
  go_wp2
  go_ret
  exact ⟨rfl, HB.out⟩
end

section
set_option maxRecDepth 100000
set_option linter.unusedVariables false
open Go.RowKit Go.Shelf

/-- The graph that graphBegun asks about. -/
def bG : List (List Nat) := [[0, 1], [], [0]]
theorem bG_wa : wa 3 [(2, 0), (0, 1), (0, 0)] = bG := by decide +kernel
theorem bG_ok : GOk bG := by rw [← bG_wa]; exact wa_ok (by decide) (by decide) (by decide) (by decide)
theorem bG_arcs : arcs 0 bG = [(0, 0), (0, 1), (2, 0)] := by decide +kernel
theorem bG_turn : gturn bG = [[0, 2], [0], []] := by decide +kernel
theorem bG_both : gboth bG = [[0, 1, 2], [0], [0]] := by decide +kernel
theorem bG_bth : ¬ 600 < (bth (arcs 0 bG)).length := by decide +kernel
theorem bG_from : dFrom 3 (arcs 0 bG) = [2, 0, 1] := by decide +kernel
theorem bG_to : dTo 3 (arcs 0 bG) = [2, 1, 0] := by decide +kernel
theorem bG_len (R : List Rw) (h : gs R = bG.map ns) : R.length = 3 := by have := congrArg List.length h; rwa [gs_length] at this
/-- A literal list of lists. -/
theorem rdg_lit (V : World) (R : List Rw) (h : ∀ r ∈ R, RdV V V.heap.size r.1 (zc r.2.2) ∧ r.2.2.length ≤ 140737488355328) : RdG (V.alloc (.cells (rcl R).toArray 25)) (V.alloc (.cells (rcl R).toArray 25)).heap.size (some ⟨V.heap.size, 0, none⟩) R := by
  refine ⟨.inr ⟨V.heap.size, 0, rfl, by simp, fun i v hi => ?_⟩, fun r hr => ⟨(h r hr).1.on (one_below V _), (h r hr).2⟩⟩
  rw [Nat.zero_add, cell_at (World.alloc_heap_new V _)]
  simpa using hi
theorem gb1 (w : World) : Calls Try.prog 17 #[.int .i64 3, .slice (some ⟨w.heap.size, 0, none⟩) 3 3] (w.alloc (.cells #[.int .i64 2, .int .i64 0, .int .i64 0, .int .i64 1, .int .i64 0, .int .i64 0] 36))
    fun e w' => ∃ A R c, e = .returned (.tuple #[.agg #[.slice A 3 c], .int .i64 0]) ∧ gs R = bG.map ns ∧ RdG w' w'.heap.size A R ∧ Below (w.alloc (.cells #[.int .i64 2, .int .i64 0, .int .i64 0, .int .i64 1, .int .i64 0, .int .i64 0] 36)).heap.size (w.alloc (.cells #[.int .i64 2, .int .i64 0, .int .i64 0, .int .i64 1, .int .i64 0, .int .i64 0] 36)) w' :=
  (gof_ok 3 (by decide) [(2, 0), (0, 1), (0, 0)] (by decide) (by decide) 3 rfl (by decide) _ 3 _ (rdr_new w [(2, 0), (0, 1), (0, 0)])).mono fun e w' ⟨A, R, c, h1, h2, h3, h4⟩ => ⟨A, R, c, by rw [h1, bG_wa]; rfl, by rw [h2, bG_wa], h3, h4⟩
theorem gb2 (R : List Rw) (hg : gs R = bG.map ns) (A : Option Addr) (c : Nat) (w : World) (h : RdG w w.heap.size A R) : Calls Try.prog 16 #[.agg #[.slice A 3 c]] w
    fun e w' => ∃ A c, e = .returned (.tuple #[.slice A 3 c, .int .i64 0]) ∧ (3 ≤ c ∧ (A = none → c = 0)) ∧ RdV w' w'.heap.size A (acs [(0, 0), (0, 1), (2, 0)]) ∧ Below w.heap.size w w' := by
  have := garcs_ok R bG hg bG_ok 3 (bG_len R hg) (by rw [hg]; exact grE_ok bG bG_ok) A c w h
  unfold ArcsP at this
  rw [bG_arcs] at this
  exact this
theorem gb3 (R : List Rw) (hg : gs R = bG.map ns) (A : Option Addr) (c : Nat) (w : World) (h : RdG w w.heap.size A R) : Calls Try.prog 18 #[.agg #[.slice A 3 c]] w
    fun e w' => ∃ A R c, e = .returned (.tuple #[.agg #[.slice A 3 c], .int .i64 0]) ∧ gs R = [[0, 2], [0], []].map ns ∧ RdG w' w'.heap.size A R ∧ Below w.heap.size w w' := by
  have := gturn_okW R bG hg bG_ok 3 (bG_len R hg) A c w h
  unfold GrP at this
  rw [bG_turn] at this
  exact this
theorem gb4 (R : List Rw) (hg : gs R = bG.map ns) (A : Option Addr) (c : Nat) (w : World) (h : RdG w w.heap.size A R) : Calls Try.prog 33 #[.agg #[.slice A 3 c]] w
    fun e w' => ∃ A R c, e = .returned (.tuple #[.agg #[.slice A 3 c], .int .i64 0]) ∧ gs R = [[0, 1, 2], [0], [0]].map ns ∧ RdG w' w'.heap.size A R ∧ Below w.heap.size w w' := by
  have := gboth_okW R bG hg bG_ok 3 (bG_len R hg) A c w h
  rw [if_neg bG_bth, if_neg bG_bth] at this
  unfold GrP at this
  rw [bG_both] at this
  exact this
theorem gb5 (R : List Rw) (hg : gs R = bG.map ns) (A : Option Addr) (c : Nat) (w : World) (h : RdG w w.heap.size A R) : Calls Try.prog 47 #[.agg #[.slice A 3 c]] w
    fun e w' => ∃ A c A2 c2, e = .returned (.tuple #[.slice A 3 c, .slice A2 3 c2, .int .i64 0]) ∧ RdV w' w'.heap.size A (zc (ns [2, 0, 1])) ∧ RdV w' w'.heap.size A2 (zc (ns [2, 1, 0])) ∧ Below w.heap.size w w' := by
  have := gdeg_ok R bG hg bG_ok 3 (bG_len R hg) A c w h
  unfold DegP at this
  rw [bG_from, bG_to] at this
  exact this
theorem gb6 (w : World) : Calls Try.prog 17 #[.int .i64 1, .slice (some ⟨w.heap.size, 0, none⟩) 2 2] (w.alloc (.cells #[.int .i64 0, .int .i64 0, .int .i64 0, .int .i64 0] 36))
    fun e w' => ∃ A R c, e = .returned (.tuple #[.agg #[.slice A 0 c], .int .i64 6]) ∧ gs R = [] ∧ RdG w' w'.heap.size A R ∧ Below (w.alloc (.cells #[.int .i64 0, .int .i64 0, .int .i64 0, .int .i64 0] 36)).heap.size (w.alloc (.cells #[.int .i64 0, .int .i64 0, .int .i64 0, .int .i64 0] 36)) w' :=
  gof_arcs 1 (by decide) [(0, 0), (0, 0)] 2 rfl (by decide) 6 (by decide +kernel) (by decide) _ 2 _ (rdr_new w [(0, 0), (0, 0)])
theorem sl_true (R L : List Rw) (g : List (List Int)) (n : Nat) (hR : gs R = g) (hL : gs L = g) (hn : g.length = n) (hn2 : n ≤ 100) (A B : Option Addr) (c d : Nat) (V W : World) (h : RdG V V.heap.size A R) (hb : Below V.heap.size V W) (h2 : RdG W W.heap.size B L) :
    Calls Try.prog 48 #[.slice A n c, .slice B n d] W fun e w' => e = .returned (.bool true) ∧ Below V.heap.size V w' := by
  have := sameL_any W A B c d R L n n (by rw [← hn, ← hR, gs_length]) (by rw [← hn, ← hL, gs_length]) (by omega) (h.on hb) h2
  rw [hR, hL, decide_eq_true rfl] at this
  exact this.mono fun e w' q => ⟨q.1, hb.trans (q.2.mono hb.size)⟩
theorem gs1 (R : List Rw) (hg : gs R = ([[0, 1], [], [0]] : List (List Nat)).map ns) (A : Option Addr) (c : Nat) (V : World) (h : RdG V V.heap.size A R) :
    Calls Try.prog 48 #[.slice A 3 c, .slice (some ⟨V.heap.size + 1 + 1, 0, none⟩) 3 3] (((V.alloc (.cells #[.int .i64 0, .int .i64 1] 3)).alloc (.cells #[.int .i64 0] 3)).alloc (.cells #[.slice (some ⟨V.heap.size, 0, none⟩) 2 2, .slice none 0 0, .slice (some ⟨V.heap.size + 1, 0, none⟩) 1 1] 25)) fun e w' => e = .returned (.bool true) ∧ Below V.heap.size V w' := by
  obtain ⟨V1, hV1⟩ : ∃ X, V.alloc (.cells #[.int .i64 0, .int .i64 1] 3) = X := ⟨_, rfl⟩
  have s1 : V1.heap.size = V.heap.size + 1 := by rw [← hV1]; exact World.size_alloc _ _
  have b1 : Below V.heap.size V V1 := hV1 ▸ one_below _ _
  have r1 : RdV V1 V1.heap.size (some ⟨V.heap.size, 0, none⟩) (zc (ns [0, 1])) := hV1 ▸ rdz_new V [0, 1]
  obtain ⟨V2, hV2⟩ : ∃ X, V1.alloc (.cells #[.int .i64 0] 3) = X := ⟨_, rfl⟩
  have s2 : V2.heap.size = V1.heap.size + 1 := by rw [← hV2]; exact World.size_alloc _ _
  have b2 : Below V1.heap.size V1 V2 := hV2 ▸ one_below _ _
  have r2 : RdV V2 V2.heap.size (some ⟨V1.heap.size, 0, none⟩) (zc (ns [0])) := hV2 ▸ rdz_new V1 [0]
  have r1 := r1.on b2
  rw [hV1, hV2]
  have hl := rdg_lit V2 [(some ⟨V.heap.size, 0, none⟩, 2, ns [0, 1]), (none, 0, []), (some ⟨V1.heap.size, 0, none⟩, 1, ns [0])] (fun r hr => by
    simp only [List.mem_cons, List.not_mem_nil, or_false] at hr
    rcases hr with rfl | rfl | rfl
    · exact ⟨r1, by simp [ns]⟩
    · exact ⟨.inl rfl, by simp⟩
    · exact ⟨r2, by simp [ns]⟩)
  have hb : Below V.heap.size V V2 := (b1).trans (b2.mono (by omega))
  have := sl_true R [(some ⟨V.heap.size, 0, none⟩, 2, ns [0, 1]), (none, 0, []), (some ⟨V1.heap.size, 0, none⟩, 1, ns [0])] _ 3 hg rfl rfl (by decide) A (some ⟨V2.heap.size, 0, none⟩) c 3 V _ h (hb.trans ((one_below V2 _).mono hb.size)) hl
  have z : V2.heap.size = V.heap.size + 1 + 1 := by omega
  have z1 : V1.heap.size = V.heap.size + 1 := by omega
  rw [z, z1] at this
  exact this
theorem gs3 (R : List Rw) (hg : gs R = ([[0, 2], [0], []] : List (List Nat)).map ns) (A : Option Addr) (c : Nat) (V : World) (h : RdG V V.heap.size A R) :
    Calls Try.prog 48 #[.slice A 3 c, .slice (some ⟨V.heap.size + 1 + 1, 0, none⟩) 3 3] (((V.alloc (.cells #[.int .i64 0, .int .i64 2] 3)).alloc (.cells #[.int .i64 0] 3)).alloc (.cells #[.slice (some ⟨V.heap.size, 0, none⟩) 2 2, .slice (some ⟨V.heap.size + 1, 0, none⟩) 1 1, .slice none 0 0] 25)) fun e w' => e = .returned (.bool true) ∧ Below V.heap.size V w' := by
  obtain ⟨V1, hV1⟩ : ∃ X, V.alloc (.cells #[.int .i64 0, .int .i64 2] 3) = X := ⟨_, rfl⟩
  have s1 : V1.heap.size = V.heap.size + 1 := by rw [← hV1]; exact World.size_alloc _ _
  have b1 : Below V.heap.size V V1 := hV1 ▸ one_below _ _
  have r1 : RdV V1 V1.heap.size (some ⟨V.heap.size, 0, none⟩) (zc (ns [0, 2])) := hV1 ▸ rdz_new V [0, 2]
  obtain ⟨V2, hV2⟩ : ∃ X, V1.alloc (.cells #[.int .i64 0] 3) = X := ⟨_, rfl⟩
  have s2 : V2.heap.size = V1.heap.size + 1 := by rw [← hV2]; exact World.size_alloc _ _
  have b2 : Below V1.heap.size V1 V2 := hV2 ▸ one_below _ _
  have r2 : RdV V2 V2.heap.size (some ⟨V1.heap.size, 0, none⟩) (zc (ns [0])) := hV2 ▸ rdz_new V1 [0]
  have r1 := r1.on b2
  rw [hV1, hV2]
  have hl := rdg_lit V2 [(some ⟨V.heap.size, 0, none⟩, 2, ns [0, 2]), (some ⟨V1.heap.size, 0, none⟩, 1, ns [0]), (none, 0, [])] (fun r hr => by
    simp only [List.mem_cons, List.not_mem_nil, or_false] at hr
    rcases hr with rfl | rfl | rfl
    · exact ⟨r1, by simp [ns]⟩
    · exact ⟨r2, by simp [ns]⟩
    · exact ⟨.inl rfl, by simp⟩)
  have hb : Below V.heap.size V V2 := (b1).trans (b2.mono (by omega))
  have := sl_true R [(some ⟨V.heap.size, 0, none⟩, 2, ns [0, 2]), (some ⟨V1.heap.size, 0, none⟩, 1, ns [0]), (none, 0, [])] _ 3 hg rfl rfl (by decide) A (some ⟨V2.heap.size, 0, none⟩) c 3 V _ h (hb.trans ((one_below V2 _).mono hb.size)) hl
  have z : V2.heap.size = V.heap.size + 1 + 1 := by omega
  have z1 : V1.heap.size = V.heap.size + 1 := by omega
  rw [z, z1] at this
  exact this
theorem gs4 (R : List Rw) (hg : gs R = ([[0, 1, 2], [0], [0]] : List (List Nat)).map ns) (A : Option Addr) (c : Nat) (V : World) (h : RdG V V.heap.size A R) :
    Calls Try.prog 48 #[.slice A 3 c, .slice (some ⟨V.heap.size + 1 + 1 + 1, 0, none⟩) 3 3] ((((V.alloc (.cells #[.int .i64 0, .int .i64 1, .int .i64 2] 3)).alloc (.cells #[.int .i64 0] 3)).alloc (.cells #[.int .i64 0] 3)).alloc (.cells #[.slice (some ⟨V.heap.size, 0, none⟩) 3 3, .slice (some ⟨V.heap.size + 1, 0, none⟩) 1 1, .slice (some ⟨V.heap.size + 1 + 1, 0, none⟩) 1 1] 25)) fun e w' => e = .returned (.bool true) ∧ Below V.heap.size V w' := by
  obtain ⟨V1, hV1⟩ : ∃ X, V.alloc (.cells #[.int .i64 0, .int .i64 1, .int .i64 2] 3) = X := ⟨_, rfl⟩
  have s1 : V1.heap.size = V.heap.size + 1 := by rw [← hV1]; exact World.size_alloc _ _
  have b1 : Below V.heap.size V V1 := hV1 ▸ one_below _ _
  have r1 : RdV V1 V1.heap.size (some ⟨V.heap.size, 0, none⟩) (zc (ns [0, 1, 2])) := hV1 ▸ rdz_new V [0, 1, 2]
  obtain ⟨V2, hV2⟩ : ∃ X, V1.alloc (.cells #[.int .i64 0] 3) = X := ⟨_, rfl⟩
  have s2 : V2.heap.size = V1.heap.size + 1 := by rw [← hV2]; exact World.size_alloc _ _
  have b2 : Below V1.heap.size V1 V2 := hV2 ▸ one_below _ _
  have r2 : RdV V2 V2.heap.size (some ⟨V1.heap.size, 0, none⟩) (zc (ns [0])) := hV2 ▸ rdz_new V1 [0]
  have r1 := r1.on b2
  obtain ⟨V3, hV3⟩ : ∃ X, V2.alloc (.cells #[.int .i64 0] 3) = X := ⟨_, rfl⟩
  have s3 : V3.heap.size = V2.heap.size + 1 := by rw [← hV3]; exact World.size_alloc _ _
  have b3 : Below V2.heap.size V2 V3 := hV3 ▸ one_below _ _
  have r3 : RdV V3 V3.heap.size (some ⟨V2.heap.size, 0, none⟩) (zc (ns [0])) := hV3 ▸ rdz_new V2 [0]
  have r1 := r1.on b3
  have r2 := r2.on b3
  rw [hV1, hV2, hV3]
  have hl := rdg_lit V3 [(some ⟨V.heap.size, 0, none⟩, 3, ns [0, 1, 2]), (some ⟨V1.heap.size, 0, none⟩, 1, ns [0]), (some ⟨V2.heap.size, 0, none⟩, 1, ns [0])] (fun r hr => by
    simp only [List.mem_cons, List.not_mem_nil, or_false] at hr
    rcases hr with rfl | rfl | rfl
    · exact ⟨r1, by simp [ns]⟩
    · exact ⟨r2, by simp [ns]⟩
    · exact ⟨r3, by simp [ns]⟩)
  have hb : Below V.heap.size V V3 := ((b1).trans (b2.mono (by omega))).trans (b3.mono (by omega))
  have := sl_true R [(some ⟨V.heap.size, 0, none⟩, 3, ns [0, 1, 2]), (some ⟨V1.heap.size, 0, none⟩, 1, ns [0]), (some ⟨V2.heap.size, 0, none⟩, 1, ns [0])] _ 3 hg rfl rfl (by decide) A (some ⟨V3.heap.size, 0, none⟩) c 3 V _ h (hb.trans ((one_below V3 _).mono hb.size)) hl
  have z : V3.heap.size = V.heap.size + 1 + 1 + 1 := by omega
  have z1 : V1.heap.size = V.heap.size + 1 := by omega
  have z2 : V2.heap.size = V.heap.size + 1 + 1 := by omega
  rw [z, z1, z2] at this
  exact this
theorem gs2 (A : Option Addr) (c : Nat) (V : World) (h : RdV V V.heap.size A (acs [(0, 0), (0, 1), (2, 0)])) :
    Calls Try.prog 49 #[.slice A 3 c, .slice (some ⟨V.heap.size, 0, none⟩) 3 3] (V.alloc (.cells #[.int .i64 0, .int .i64 0, .int .i64 0, .int .i64 1, .int .i64 2, .int .i64 0] 36)) fun e w' => e = .returned (.bool true) ∧ Below V.heap.size V w' :=
  (sameR_any _ A _ c 3 [(0, 0), (0, 1), (2, 0)] [(0, 0), (0, 1), (2, 0)] (by decide) (h.on (one_below V _)) (rdr_new V [(0, 0), (0, 1), (2, 0)])).mono fun e w' q => ⟨q.1, (one_below V _).trans (q.2.mono (by simp))⟩
theorem gs5 (x y z : Nat) (A : Option Addr) (c : Nat) (V : World) (h : RdV V V.heap.size A (zc (ns [x, y, z]))) :
    Calls Try.prog 22 #[.slice A 3 c, .slice (some ⟨V.heap.size, 0, none⟩) 3 3] (V.alloc (.cells #[.int .i64 (x : Int), .int .i64 (y : Int), .int .i64 (z : Int)] 3)) fun e w' => e = .returned (.bool true) ∧ Below V.heap.size V w' := by
  have := sameI_l [x, y, z] [x, y, z] 3 3 rfl rfl (by decide) A _ c 3 _ (h.on (one_below V _)) (rdz_new V [x, y, z])
  rw [decide_eq_true rfl] at this
  exact this.mono fun e w' q => ⟨q.1, (one_below V _).trans (q.2.mono (by simp))⟩
theorem gs7 (V : World) :
    Calls Try.prog 38 #[.agg #[.slice (some ⟨V.heap.size + 1, 0, none⟩) 1 1]] ((V.alloc (.cells #[.int .i64 1] 3)).alloc (.cells #[.slice (some ⟨V.heap.size, 0, none⟩) 1 1] 25)) fun e w' => e = .returned (.int .i64 3) ∧ Below V.heap.size V w' := by
  obtain ⟨V1, hV1⟩ : ∃ X, V.alloc (.cells #[.int .i64 1] 3) = X := ⟨_, rfl⟩
  have s1 : V1.heap.size = V.heap.size + 1 := by rw [← hV1]; exact World.size_alloc _ _
  have b1 : Below V.heap.size V V1 := hV1 ▸ one_below _ _
  have r1 : RdV V1 V1.heap.size (some ⟨V.heap.size, 0, none⟩) (zc (ns [1])) := hV1 ▸ rdz_new V [1]
  rw [hV1]
  have hl := rdg_lit V1 [(some ⟨V.heap.size, 0, none⟩, 1, ns [1])] (fun r hr => by
    simp only [List.mem_cons, List.not_mem_nil, or_false] at hr
    rcases hr with rfl
    exact ⟨r1, by simp [ns]⟩)
  have := gchk_any [(some ⟨V.heap.size, 0, none⟩, 1, ns [1])] 1 rfl (by decide) (some ⟨V1.heap.size, 0, none⟩) 1 _ hl
  rw [show grE (gs [(some ⟨V.heap.size, 0, none⟩, 1, ns [1])]) = 3 from by show grE [ns [1]] = 3; decide +kernel] at this
  have hb := b1.trans ((one_below V1 (.cells #[.slice (some ⟨V.heap.size, 0, none⟩) 1 1] 25)).mono b1.size)
  rw [s1] at this
  exact this.mono fun e w' q => ⟨q.1, hb.trans (q.2.mono hb.size)⟩
set_option maxHeartbeats 8000000 in
theorem graphbegun_true (w : World) : Calls Try.prog 19 #[] w fun e w' => e = .returned (.bool true) ∧ Below w.heap.size w w' := by
  have HB : Hid (Below w.heap.size w w) := Below.refl _ w
  go_enter Try.func19, Try.ntmps19
  have HC := Lib.hid (gb1 w)
  go_wp2_with fail
  refine HC.out.mono ?_
  rintro e w1 ⟨A1, R1, c1, rfl, g1, h1, bq⟩
  clear HC
  have G1 := Lib.hid g1; clear g1
  have HBc := Lib.hid bq; clear bq
  have HBq : Hid (Below w.heap.size w w1) := (one_below w _).trans (HBc.out.mono (by simp))
  replace HB : Hid (Below w.heap.size w w1) := HB.out.trans (HBq.out.mono HB.out.size)
  clear HBq
  clear HBc
  have H1 : Hid (RdG w1 w1.heap.size A1 R1) := h1; clear h1
  have HBq : Hid (Below w1.heap.size w1 (w1.alloc (.cells #[.slice A1 3 c1] 24))) := one_below _ _
  replace HB : Hid (Below w.heap.size w (w1.alloc (.cells #[.slice A1 3 c1] 24))) := HB.out.trans (HBq.out.mono HB.out.size)
  replace H1 : Hid (RdG (w1.alloc (.cells #[.slice A1 3 c1] 24)) ((w1.alloc (.cells #[.slice A1 3 c1] 24))).heap.size A1 R1) := H1.out.on HBq.out
  clear HBq
  have K1 : Hid (((w1.alloc (.cells #[.slice A1 3 c1] 24))).cell? ⟨w1.heap.size, 0, none⟩ = some (.slice A1 3 c1)) := (cell_at (World.alloc_heap_new w1 _) 0).trans rfl
  have HC := Lib.hid (gb2 R1 G1.out A1 c1 _ H1.out)
  have k_K1 := K1.out
  go_wp2_with fail
  clear k_K1
  refine HC.out.mono ?_
  rintro e w2 ⟨A2, c2, rfl, q1, q2, bq⟩
  clear HC
  have HBc := Lib.hid bq; clear bq
  have HBq : Hid (Below (w1.alloc (.cells #[.slice A1 3 c1] 24)).heap.size (w1.alloc (.cells #[.slice A1 3 c1] 24)) w2) := HBc.out
  replace HB : Hid (Below w.heap.size w w2) := HB.out.trans (HBq.out.mono HB.out.size)
  replace H1 : Hid (RdG w2 (w2).heap.size A1 R1) := H1.out.on HBq.out
  replace K1 : Hid ((w2).cell? ⟨w1.heap.size, 0, none⟩ = some (.slice A1 3 c1)) := (HBq.out.cell (World.block_lt_of_cell? _ _ K1.out)).trans K1.out
  clear HBq
  clear HBc
  clear q1
  have H2 : Hid (RdV w2 w2.heap.size A2 (acs [(0, 0), (0, 1), (2, 0)])) := q2; clear q2
  have HC := Lib.hid (gb3 R1 G1.out A1 c1 _ H1.out)
  have k_K1 := K1.out
  go_wp2_with fail
  clear k_K1
  refine HC.out.mono ?_
  rintro e w3 ⟨A3, R3, c3, rfl, g3, h3, bq⟩
  clear HC
  have HBc := Lib.hid bq; clear bq
  have HBq : Hid (Below w2.heap.size w2 w3) := HBc.out
  replace HB : Hid (Below w.heap.size w w3) := HB.out.trans (HBq.out.mono HB.out.size)
  replace H1 : Hid (RdG w3 (w3).heap.size A1 R1) := H1.out.on HBq.out
  replace K1 : Hid ((w3).cell? ⟨w1.heap.size, 0, none⟩ = some (.slice A1 3 c1)) := (HBq.out.cell (World.block_lt_of_cell? _ _ K1.out)).trans K1.out
  replace H2 : Hid (RdV w3 (w3).heap.size A2 (acs [(0, 0), (0, 1), (2, 0)])) := H2.out.on HBq.out
  clear HBq
  clear HBc
  have G3 := Lib.hid g3; clear g3
  have H3 : Hid (RdG w3 w3.heap.size A3 R3) := h3; clear h3
  have HBq : Hid (Below w3.heap.size w3 (w3.alloc (.cells #[.slice A3 3 c3] 24))) := one_below _ _
  replace HB : Hid (Below w.heap.size w (w3.alloc (.cells #[.slice A3 3 c3] 24))) := HB.out.trans (HBq.out.mono HB.out.size)
  replace H1 : Hid (RdG (w3.alloc (.cells #[.slice A3 3 c3] 24)) ((w3.alloc (.cells #[.slice A3 3 c3] 24))).heap.size A1 R1) := H1.out.on HBq.out
  replace K1 : Hid (((w3.alloc (.cells #[.slice A3 3 c3] 24))).cell? ⟨w1.heap.size, 0, none⟩ = some (.slice A1 3 c1)) := (HBq.out.cell (World.block_lt_of_cell? _ _ K1.out)).trans K1.out
  replace H2 : Hid (RdV (w3.alloc (.cells #[.slice A3 3 c3] 24)) ((w3.alloc (.cells #[.slice A3 3 c3] 24))).heap.size A2 (acs [(0, 0), (0, 1), (2, 0)])) := H2.out.on HBq.out
  replace H3 : Hid (RdG (w3.alloc (.cells #[.slice A3 3 c3] 24)) ((w3.alloc (.cells #[.slice A3 3 c3] 24))).heap.size A3 R3) := H3.out.on HBq.out
  clear HBq
  have K3 : Hid (((w3.alloc (.cells #[.slice A3 3 c3] 24))).cell? ⟨w3.heap.size, 0, none⟩ = some (.slice A3 3 c3)) := (cell_at (World.alloc_heap_new w3 _) 0).trans rfl
  have HC := Lib.hid (gb4 R1 G1.out A1 c1 _ H1.out)
  have k_K1 := K1.out
  go_wp2_with fail
  clear k_K1
  refine HC.out.mono ?_
  rintro e w4 ⟨A4, R4, c4, rfl, g4, h4, bq⟩
  clear HC
  have HBc := Lib.hid bq; clear bq
  have HBq : Hid (Below (w3.alloc (.cells #[.slice A3 3 c3] 24)).heap.size (w3.alloc (.cells #[.slice A3 3 c3] 24)) w4) := HBc.out
  replace HB : Hid (Below w.heap.size w w4) := HB.out.trans (HBq.out.mono HB.out.size)
  replace H1 : Hid (RdG w4 (w4).heap.size A1 R1) := H1.out.on HBq.out
  replace K1 : Hid ((w4).cell? ⟨w1.heap.size, 0, none⟩ = some (.slice A1 3 c1)) := (HBq.out.cell (World.block_lt_of_cell? _ _ K1.out)).trans K1.out
  replace H2 : Hid (RdV w4 (w4).heap.size A2 (acs [(0, 0), (0, 1), (2, 0)])) := H2.out.on HBq.out
  replace H3 : Hid (RdG w4 (w4).heap.size A3 R3) := H3.out.on HBq.out
  replace K3 : Hid ((w4).cell? ⟨w3.heap.size, 0, none⟩ = some (.slice A3 3 c3)) := (HBq.out.cell (World.block_lt_of_cell? _ _ K3.out)).trans K3.out
  clear HBq
  clear HBc
  have G4 := Lib.hid g4; clear g4
  have H4 : Hid (RdG w4 w4.heap.size A4 R4) := h4; clear h4
  have HBq : Hid (Below w4.heap.size w4 (w4.alloc (.cells #[.slice A4 3 c4] 24))) := one_below _ _
  replace HB : Hid (Below w.heap.size w (w4.alloc (.cells #[.slice A4 3 c4] 24))) := HB.out.trans (HBq.out.mono HB.out.size)
  replace H1 : Hid (RdG (w4.alloc (.cells #[.slice A4 3 c4] 24)) ((w4.alloc (.cells #[.slice A4 3 c4] 24))).heap.size A1 R1) := H1.out.on HBq.out
  replace K1 : Hid (((w4.alloc (.cells #[.slice A4 3 c4] 24))).cell? ⟨w1.heap.size, 0, none⟩ = some (.slice A1 3 c1)) := (HBq.out.cell (World.block_lt_of_cell? _ _ K1.out)).trans K1.out
  replace H2 : Hid (RdV (w4.alloc (.cells #[.slice A4 3 c4] 24)) ((w4.alloc (.cells #[.slice A4 3 c4] 24))).heap.size A2 (acs [(0, 0), (0, 1), (2, 0)])) := H2.out.on HBq.out
  replace H3 : Hid (RdG (w4.alloc (.cells #[.slice A4 3 c4] 24)) ((w4.alloc (.cells #[.slice A4 3 c4] 24))).heap.size A3 R3) := H3.out.on HBq.out
  replace K3 : Hid (((w4.alloc (.cells #[.slice A4 3 c4] 24))).cell? ⟨w3.heap.size, 0, none⟩ = some (.slice A3 3 c3)) := (HBq.out.cell (World.block_lt_of_cell? _ _ K3.out)).trans K3.out
  replace H4 : Hid (RdG (w4.alloc (.cells #[.slice A4 3 c4] 24)) ((w4.alloc (.cells #[.slice A4 3 c4] 24))).heap.size A4 R4) := H4.out.on HBq.out
  clear HBq
  have K4 : Hid (((w4.alloc (.cells #[.slice A4 3 c4] 24))).cell? ⟨w4.heap.size, 0, none⟩ = some (.slice A4 3 c4)) := (cell_at (World.alloc_heap_new w4 _) 0).trans rfl
  have HC := Lib.hid (gb5 R1 G1.out A1 c1 _ H1.out)
  have k_K1 := K1.out
  go_wp2_with fail
  clear k_K1
  refine HC.out.mono ?_
  rintro e w5 ⟨A5, c5, A6, c6, rfl, h5, h6, bq⟩
  clear HC
  have HBc := Lib.hid bq; clear bq
  have HBq : Hid (Below (w4.alloc (.cells #[.slice A4 3 c4] 24)).heap.size (w4.alloc (.cells #[.slice A4 3 c4] 24)) w5) := HBc.out
  replace HB : Hid (Below w.heap.size w w5) := HB.out.trans (HBq.out.mono HB.out.size)
  replace H1 : Hid (RdG w5 (w5).heap.size A1 R1) := H1.out.on HBq.out
  replace K1 : Hid ((w5).cell? ⟨w1.heap.size, 0, none⟩ = some (.slice A1 3 c1)) := (HBq.out.cell (World.block_lt_of_cell? _ _ K1.out)).trans K1.out
  replace H2 : Hid (RdV w5 (w5).heap.size A2 (acs [(0, 0), (0, 1), (2, 0)])) := H2.out.on HBq.out
  replace H3 : Hid (RdG w5 (w5).heap.size A3 R3) := H3.out.on HBq.out
  replace K3 : Hid ((w5).cell? ⟨w3.heap.size, 0, none⟩ = some (.slice A3 3 c3)) := (HBq.out.cell (World.block_lt_of_cell? _ _ K3.out)).trans K3.out
  replace H4 : Hid (RdG w5 (w5).heap.size A4 R4) := H4.out.on HBq.out
  replace K4 : Hid ((w5).cell? ⟨w4.heap.size, 0, none⟩ = some (.slice A4 3 c4)) := (HBq.out.cell (World.block_lt_of_cell? _ _ K4.out)).trans K4.out
  clear HBq
  clear HBc
  have H5 : Hid (RdV w5 w5.heap.size A5 (zc (ns [2, 0, 1]))) := h5; clear h5
  have H6 : Hid (RdV w5 w5.heap.size A6 (zc (ns [2, 1, 0]))) := h6; clear h6
  have HC := Lib.hid (gb6 w5)
  go_wp2_with fail
  refine HC.out.mono ?_
  rintro e w6 ⟨A7, R7, c7, rfl, -, -, bq⟩
  clear HC
  have HBc := Lib.hid bq; clear bq
  have HBq : Hid (Below w5.heap.size w5 w6) := (one_below _ _).trans (HBc.out.mono (by simp))
  replace HB : Hid (Below w.heap.size w w6) := HB.out.trans (HBq.out.mono HB.out.size)
  replace H1 : Hid (RdG w6 (w6).heap.size A1 R1) := H1.out.on HBq.out
  replace K1 : Hid ((w6).cell? ⟨w1.heap.size, 0, none⟩ = some (.slice A1 3 c1)) := (HBq.out.cell (World.block_lt_of_cell? _ _ K1.out)).trans K1.out
  replace H2 : Hid (RdV w6 (w6).heap.size A2 (acs [(0, 0), (0, 1), (2, 0)])) := H2.out.on HBq.out
  replace H3 : Hid (RdG w6 (w6).heap.size A3 R3) := H3.out.on HBq.out
  replace K3 : Hid ((w6).cell? ⟨w3.heap.size, 0, none⟩ = some (.slice A3 3 c3)) := (HBq.out.cell (World.block_lt_of_cell? _ _ K3.out)).trans K3.out
  replace H4 : Hid (RdG w6 (w6).heap.size A4 R4) := H4.out.on HBq.out
  replace K4 : Hid ((w6).cell? ⟨w4.heap.size, 0, none⟩ = some (.slice A4 3 c4)) := (HBq.out.cell (World.block_lt_of_cell? _ _ K4.out)).trans K4.out
  replace H5 : Hid (RdV w6 (w6).heap.size A5 (zc (ns [2, 0, 1]))) := H5.out.on HBq.out
  replace H6 : Hid (RdV w6 (w6).heap.size A6 (zc (ns [2, 1, 0]))) := H6.out.on HBq.out
  clear HBq
  clear HBc
  have HBq : Hid (Below w6.heap.size w6 (w6.alloc (.cells #[.slice A7 0 c7] 24))) := one_below _ _
  replace HB : Hid (Below w.heap.size w (w6.alloc (.cells #[.slice A7 0 c7] 24))) := HB.out.trans (HBq.out.mono HB.out.size)
  replace H1 : Hid (RdG (w6.alloc (.cells #[.slice A7 0 c7] 24)) ((w6.alloc (.cells #[.slice A7 0 c7] 24))).heap.size A1 R1) := H1.out.on HBq.out
  replace K1 : Hid (((w6.alloc (.cells #[.slice A7 0 c7] 24))).cell? ⟨w1.heap.size, 0, none⟩ = some (.slice A1 3 c1)) := (HBq.out.cell (World.block_lt_of_cell? _ _ K1.out)).trans K1.out
  replace H2 : Hid (RdV (w6.alloc (.cells #[.slice A7 0 c7] 24)) ((w6.alloc (.cells #[.slice A7 0 c7] 24))).heap.size A2 (acs [(0, 0), (0, 1), (2, 0)])) := H2.out.on HBq.out
  replace H3 : Hid (RdG (w6.alloc (.cells #[.slice A7 0 c7] 24)) ((w6.alloc (.cells #[.slice A7 0 c7] 24))).heap.size A3 R3) := H3.out.on HBq.out
  replace K3 : Hid (((w6.alloc (.cells #[.slice A7 0 c7] 24))).cell? ⟨w3.heap.size, 0, none⟩ = some (.slice A3 3 c3)) := (HBq.out.cell (World.block_lt_of_cell? _ _ K3.out)).trans K3.out
  replace H4 : Hid (RdG (w6.alloc (.cells #[.slice A7 0 c7] 24)) ((w6.alloc (.cells #[.slice A7 0 c7] 24))).heap.size A4 R4) := H4.out.on HBq.out
  replace K4 : Hid (((w6.alloc (.cells #[.slice A7 0 c7] 24))).cell? ⟨w4.heap.size, 0, none⟩ = some (.slice A4 3 c4)) := (HBq.out.cell (World.block_lt_of_cell? _ _ K4.out)).trans K4.out
  replace H5 : Hid (RdV (w6.alloc (.cells #[.slice A7 0 c7] 24)) ((w6.alloc (.cells #[.slice A7 0 c7] 24))).heap.size A5 (zc (ns [2, 0, 1]))) := H5.out.on HBq.out
  replace H6 : Hid (RdV (w6.alloc (.cells #[.slice A7 0 c7] 24)) ((w6.alloc (.cells #[.slice A7 0 c7] 24))).heap.size A6 (zc (ns [2, 1, 0]))) := H6.out.on HBq.out
  clear HBq
  have K7 : Hid (((w6.alloc (.cells #[.slice A7 0 c7] 24))).cell? ⟨w6.heap.size, 0, none⟩ = some (.slice A7 0 c7)) := (cell_at (World.alloc_heap_new w6 _) 0).trans rfl
  have hC := gs1 R1 G1.out A1 c1 _ H1.out
  simp only [World.size_alloc] at hC
  have HC := Lib.hid hC; clear hC
  have k_K1 := K1.out
  go_wp2_with fail
  clear k_K1
  refine HC.out.mono ?_
  rintro e w7 ⟨rfl, bq⟩
  clear HC
  have HBc := Lib.hid bq; clear bq
  have HBq : Hid (Below (w6.alloc (.cells #[.slice A7 0 c7] 24)).heap.size (w6.alloc (.cells #[.slice A7 0 c7] 24)) w7) := (by have := HBc.out; show Below _ _ _; simpa only [World.size_alloc] using this)
  replace HB : Hid (Below w.heap.size w w7) := HB.out.trans (HBq.out.mono HB.out.size)
  replace H1 : Hid (RdG w7 (w7).heap.size A1 R1) := H1.out.on HBq.out
  replace K1 : Hid ((w7).cell? ⟨w1.heap.size, 0, none⟩ = some (.slice A1 3 c1)) := (HBq.out.cell (World.block_lt_of_cell? _ _ K1.out)).trans K1.out
  replace H2 : Hid (RdV w7 (w7).heap.size A2 (acs [(0, 0), (0, 1), (2, 0)])) := H2.out.on HBq.out
  replace H3 : Hid (RdG w7 (w7).heap.size A3 R3) := H3.out.on HBq.out
  replace K3 : Hid ((w7).cell? ⟨w3.heap.size, 0, none⟩ = some (.slice A3 3 c3)) := (HBq.out.cell (World.block_lt_of_cell? _ _ K3.out)).trans K3.out
  replace H4 : Hid (RdG w7 (w7).heap.size A4 R4) := H4.out.on HBq.out
  replace K4 : Hid ((w7).cell? ⟨w4.heap.size, 0, none⟩ = some (.slice A4 3 c4)) := (HBq.out.cell (World.block_lt_of_cell? _ _ K4.out)).trans K4.out
  replace H5 : Hid (RdV w7 (w7).heap.size A5 (zc (ns [2, 0, 1]))) := H5.out.on HBq.out
  replace H6 : Hid (RdV w7 (w7).heap.size A6 (zc (ns [2, 1, 0]))) := H6.out.on HBq.out
  replace K7 : Hid ((w7).cell? ⟨w6.heap.size, 0, none⟩ = some (.slice A7 0 c7)) := (HBq.out.cell (World.block_lt_of_cell? _ _ K7.out)).trans K7.out
  clear HBq
  clear HBc
  have HC := Lib.hid (gs2 A2 c2 _ H2.out)
  go_wp2_with fail
  refine HC.out.mono ?_
  rintro e w8 ⟨rfl, bq⟩
  clear HC
  have HBc := Lib.hid bq; clear bq
  have HBq : Hid (Below w7.heap.size w7 w8) := HBc.out
  replace HB : Hid (Below w.heap.size w w8) := HB.out.trans (HBq.out.mono HB.out.size)
  replace H1 : Hid (RdG w8 (w8).heap.size A1 R1) := H1.out.on HBq.out
  replace K1 : Hid ((w8).cell? ⟨w1.heap.size, 0, none⟩ = some (.slice A1 3 c1)) := (HBq.out.cell (World.block_lt_of_cell? _ _ K1.out)).trans K1.out
  replace H2 : Hid (RdV w8 (w8).heap.size A2 (acs [(0, 0), (0, 1), (2, 0)])) := H2.out.on HBq.out
  replace H3 : Hid (RdG w8 (w8).heap.size A3 R3) := H3.out.on HBq.out
  replace K3 : Hid ((w8).cell? ⟨w3.heap.size, 0, none⟩ = some (.slice A3 3 c3)) := (HBq.out.cell (World.block_lt_of_cell? _ _ K3.out)).trans K3.out
  replace H4 : Hid (RdG w8 (w8).heap.size A4 R4) := H4.out.on HBq.out
  replace K4 : Hid ((w8).cell? ⟨w4.heap.size, 0, none⟩ = some (.slice A4 3 c4)) := (HBq.out.cell (World.block_lt_of_cell? _ _ K4.out)).trans K4.out
  replace H5 : Hid (RdV w8 (w8).heap.size A5 (zc (ns [2, 0, 1]))) := H5.out.on HBq.out
  replace H6 : Hid (RdV w8 (w8).heap.size A6 (zc (ns [2, 1, 0]))) := H6.out.on HBq.out
  replace K7 : Hid ((w8).cell? ⟨w6.heap.size, 0, none⟩ = some (.slice A7 0 c7)) := (HBq.out.cell (World.block_lt_of_cell? _ _ K7.out)).trans K7.out
  clear HBq
  clear HBc
  have HC := Lib.hid (gs3 R3 G3.out A3 c3 _ H3.out)
  have k_K3 := K3.out
  go_wp2_with fail
  clear k_K3
  refine HC.out.mono ?_
  rintro e w9 ⟨rfl, bq⟩
  clear HC
  have HBc := Lib.hid bq; clear bq
  have HBq : Hid (Below w8.heap.size w8 w9) := HBc.out
  replace HB : Hid (Below w.heap.size w w9) := HB.out.trans (HBq.out.mono HB.out.size)
  replace H1 : Hid (RdG w9 (w9).heap.size A1 R1) := H1.out.on HBq.out
  replace K1 : Hid ((w9).cell? ⟨w1.heap.size, 0, none⟩ = some (.slice A1 3 c1)) := (HBq.out.cell (World.block_lt_of_cell? _ _ K1.out)).trans K1.out
  replace H2 : Hid (RdV w9 (w9).heap.size A2 (acs [(0, 0), (0, 1), (2, 0)])) := H2.out.on HBq.out
  replace H3 : Hid (RdG w9 (w9).heap.size A3 R3) := H3.out.on HBq.out
  replace K3 : Hid ((w9).cell? ⟨w3.heap.size, 0, none⟩ = some (.slice A3 3 c3)) := (HBq.out.cell (World.block_lt_of_cell? _ _ K3.out)).trans K3.out
  replace H4 : Hid (RdG w9 (w9).heap.size A4 R4) := H4.out.on HBq.out
  replace K4 : Hid ((w9).cell? ⟨w4.heap.size, 0, none⟩ = some (.slice A4 3 c4)) := (HBq.out.cell (World.block_lt_of_cell? _ _ K4.out)).trans K4.out
  replace H5 : Hid (RdV w9 (w9).heap.size A5 (zc (ns [2, 0, 1]))) := H5.out.on HBq.out
  replace H6 : Hid (RdV w9 (w9).heap.size A6 (zc (ns [2, 1, 0]))) := H6.out.on HBq.out
  replace K7 : Hid ((w9).cell? ⟨w6.heap.size, 0, none⟩ = some (.slice A7 0 c7)) := (HBq.out.cell (World.block_lt_of_cell? _ _ K7.out)).trans K7.out
  clear HBq
  clear HBc
  have HC := Lib.hid (gs4 R4 G4.out A4 c4 _ H4.out)
  have k_K4 := K4.out
  go_wp2_with fail
  clear k_K4
  refine HC.out.mono ?_
  rintro e w10 ⟨rfl, bq⟩
  clear HC
  have HBc := Lib.hid bq; clear bq
  have HBq : Hid (Below w9.heap.size w9 w10) := HBc.out
  replace HB : Hid (Below w.heap.size w w10) := HB.out.trans (HBq.out.mono HB.out.size)
  replace H1 : Hid (RdG w10 (w10).heap.size A1 R1) := H1.out.on HBq.out
  replace K1 : Hid ((w10).cell? ⟨w1.heap.size, 0, none⟩ = some (.slice A1 3 c1)) := (HBq.out.cell (World.block_lt_of_cell? _ _ K1.out)).trans K1.out
  replace H2 : Hid (RdV w10 (w10).heap.size A2 (acs [(0, 0), (0, 1), (2, 0)])) := H2.out.on HBq.out
  replace H3 : Hid (RdG w10 (w10).heap.size A3 R3) := H3.out.on HBq.out
  replace K3 : Hid ((w10).cell? ⟨w3.heap.size, 0, none⟩ = some (.slice A3 3 c3)) := (HBq.out.cell (World.block_lt_of_cell? _ _ K3.out)).trans K3.out
  replace H4 : Hid (RdG w10 (w10).heap.size A4 R4) := H4.out.on HBq.out
  replace K4 : Hid ((w10).cell? ⟨w4.heap.size, 0, none⟩ = some (.slice A4 3 c4)) := (HBq.out.cell (World.block_lt_of_cell? _ _ K4.out)).trans K4.out
  replace H5 : Hid (RdV w10 (w10).heap.size A5 (zc (ns [2, 0, 1]))) := H5.out.on HBq.out
  replace H6 : Hid (RdV w10 (w10).heap.size A6 (zc (ns [2, 1, 0]))) := H6.out.on HBq.out
  replace K7 : Hid ((w10).cell? ⟨w6.heap.size, 0, none⟩ = some (.slice A7 0 c7)) := (HBq.out.cell (World.block_lt_of_cell? _ _ K7.out)).trans K7.out
  clear HBq
  clear HBc
  have HC := Lib.hid (gs5 2 0 1 A5 c5 _ H5.out)
  go_wp2_with fail
  refine HC.out.mono ?_
  rintro e w11 ⟨rfl, bq⟩
  clear HC
  have HBc := Lib.hid bq; clear bq
  have HBq : Hid (Below w10.heap.size w10 w11) := HBc.out
  replace HB : Hid (Below w.heap.size w w11) := HB.out.trans (HBq.out.mono HB.out.size)
  replace H1 : Hid (RdG w11 (w11).heap.size A1 R1) := H1.out.on HBq.out
  replace K1 : Hid ((w11).cell? ⟨w1.heap.size, 0, none⟩ = some (.slice A1 3 c1)) := (HBq.out.cell (World.block_lt_of_cell? _ _ K1.out)).trans K1.out
  replace H2 : Hid (RdV w11 (w11).heap.size A2 (acs [(0, 0), (0, 1), (2, 0)])) := H2.out.on HBq.out
  replace H3 : Hid (RdG w11 (w11).heap.size A3 R3) := H3.out.on HBq.out
  replace K3 : Hid ((w11).cell? ⟨w3.heap.size, 0, none⟩ = some (.slice A3 3 c3)) := (HBq.out.cell (World.block_lt_of_cell? _ _ K3.out)).trans K3.out
  replace H4 : Hid (RdG w11 (w11).heap.size A4 R4) := H4.out.on HBq.out
  replace K4 : Hid ((w11).cell? ⟨w4.heap.size, 0, none⟩ = some (.slice A4 3 c4)) := (HBq.out.cell (World.block_lt_of_cell? _ _ K4.out)).trans K4.out
  replace H5 : Hid (RdV w11 (w11).heap.size A5 (zc (ns [2, 0, 1]))) := H5.out.on HBq.out
  replace H6 : Hid (RdV w11 (w11).heap.size A6 (zc (ns [2, 1, 0]))) := H6.out.on HBq.out
  replace K7 : Hid ((w11).cell? ⟨w6.heap.size, 0, none⟩ = some (.slice A7 0 c7)) := (HBq.out.cell (World.block_lt_of_cell? _ _ K7.out)).trans K7.out
  clear HBq
  clear HBc
  have HC := Lib.hid (gs5 2 1 0 A6 c6 _ H6.out)
  go_wp2_with fail
  refine HC.out.mono ?_
  rintro e w12 ⟨rfl, bq⟩
  clear HC
  have HBc := Lib.hid bq; clear bq
  have HBq : Hid (Below w11.heap.size w11 w12) := HBc.out
  replace HB : Hid (Below w.heap.size w w12) := HB.out.trans (HBq.out.mono HB.out.size)
  replace H1 : Hid (RdG w12 (w12).heap.size A1 R1) := H1.out.on HBq.out
  replace K1 : Hid ((w12).cell? ⟨w1.heap.size, 0, none⟩ = some (.slice A1 3 c1)) := (HBq.out.cell (World.block_lt_of_cell? _ _ K1.out)).trans K1.out
  replace H2 : Hid (RdV w12 (w12).heap.size A2 (acs [(0, 0), (0, 1), (2, 0)])) := H2.out.on HBq.out
  replace H3 : Hid (RdG w12 (w12).heap.size A3 R3) := H3.out.on HBq.out
  replace K3 : Hid ((w12).cell? ⟨w3.heap.size, 0, none⟩ = some (.slice A3 3 c3)) := (HBq.out.cell (World.block_lt_of_cell? _ _ K3.out)).trans K3.out
  replace H4 : Hid (RdG w12 (w12).heap.size A4 R4) := H4.out.on HBq.out
  replace K4 : Hid ((w12).cell? ⟨w4.heap.size, 0, none⟩ = some (.slice A4 3 c4)) := (HBq.out.cell (World.block_lt_of_cell? _ _ K4.out)).trans K4.out
  replace H5 : Hid (RdV w12 (w12).heap.size A5 (zc (ns [2, 0, 1]))) := H5.out.on HBq.out
  replace H6 : Hid (RdV w12 (w12).heap.size A6 (zc (ns [2, 1, 0]))) := H6.out.on HBq.out
  replace K7 : Hid ((w12).cell? ⟨w6.heap.size, 0, none⟩ = some (.slice A7 0 c7)) := (HBq.out.cell (World.block_lt_of_cell? _ _ K7.out)).trans K7.out
  clear HBq
  clear HBc
  have HC := Lib.hid (gs7 w12)
  go_wp2_with fail
  refine HC.out.mono ?_
  rintro e w13 ⟨rfl, bq⟩
  clear HC
  have HBc := Lib.hid bq; clear bq
  have HBq : Hid (Below w12.heap.size w12 w13) := HBc.out
  replace HB : Hid (Below w.heap.size w w13) := HB.out.trans (HBq.out.mono HB.out.size)
  replace H1 : Hid (RdG w13 (w13).heap.size A1 R1) := H1.out.on HBq.out
  replace K1 : Hid ((w13).cell? ⟨w1.heap.size, 0, none⟩ = some (.slice A1 3 c1)) := (HBq.out.cell (World.block_lt_of_cell? _ _ K1.out)).trans K1.out
  replace H2 : Hid (RdV w13 (w13).heap.size A2 (acs [(0, 0), (0, 1), (2, 0)])) := H2.out.on HBq.out
  replace H3 : Hid (RdG w13 (w13).heap.size A3 R3) := H3.out.on HBq.out
  replace K3 : Hid ((w13).cell? ⟨w3.heap.size, 0, none⟩ = some (.slice A3 3 c3)) := (HBq.out.cell (World.block_lt_of_cell? _ _ K3.out)).trans K3.out
  replace H4 : Hid (RdG w13 (w13).heap.size A4 R4) := H4.out.on HBq.out
  replace K4 : Hid ((w13).cell? ⟨w4.heap.size, 0, none⟩ = some (.slice A4 3 c4)) := (HBq.out.cell (World.block_lt_of_cell? _ _ K4.out)).trans K4.out
  replace H5 : Hid (RdV w13 (w13).heap.size A5 (zc (ns [2, 0, 1]))) := H5.out.on HBq.out
  replace H6 : Hid (RdV w13 (w13).heap.size A6 (zc (ns [2, 1, 0]))) := H6.out.on HBq.out
  replace K7 : Hid ((w13).cell? ⟨w6.heap.size, 0, none⟩ = some (.slice A7 0 c7)) := (HBq.out.cell (World.block_lt_of_cell? _ _ K7.out)).trans K7.out
  clear HBq
  clear HBc
  go_wp2
  go_ret
  exact ⟨rfl, HB.out⟩
end

section
set_option maxRecDepth 100000
set_option linter.unusedVariables false
open Go.RowKit Go.Shelf

theorem dFrom_perm {n : Nat} {a b : List Ar} (h : a.Perm b) : dFrom n a = dFrom n b := by
  unfold dFrom
  exact List.map_congr_left fun i _ => tos_len_perm h i
theorem dFrom_turn {g : List (List Nat)} (h : GOk g) (N : Nat) : dFrom N (arcs 0 (gturn g)) = dTo N (arcs 0 g) ∧ dTo N (arcs 0 (gturn g)) = dFrom N (arcs 0 g) := by
  have hp : (arcs 0 (gturn g)).Perm ((arcs 0 g).map rev) := wa_arcs (rev_nodup (arcs_nodup g 0 h.ris)) (fun a ha => by have := arcs_bd h _ ((rev_mem _ a).1 ha); exact ⟨this.2, this.1⟩)
  refine ⟨dFrom_perm hp, ?_⟩
  unfold dTo
  have := hp.map rev
  rw [List.map_map, show (rev ∘ rev) = id from funext rev_rev, List.map_id] at this
  exact dFrom_perm this
theorem sum_set_succ : ∀ (l : List Nat) (i x : Nat), l[i]? = some x → (l.set i (x + 1)).sum = l.sum + 1
  | [], i, x, h => by simp at h
  | y :: t, 0, x, h => by simp at h; subst h; simp; omega
  | y :: t, i + 1, x, h => by
    simp at h
    have := sum_set_succ t i x (by simpa using h)
    simp only [List.set_cons_succ, List.sum_cons]; omega
theorem dFrom_sumR (n : Nat) : ∀ (L : List Ar), (∀ a ∈ L, a.1 < n) → (dFrom n L.reverse).sum = L.length
  | [], _ => by unfold dFrom; simp [tos, List.map_const']
  | a :: t, h => by
    have ha := h a (by simp)
    rw [List.reverse_cons, dFrom_snoc n t.reverse a ha, sum_set_succ _ _ _ (dFrom_get n t.reverse a.1 ha), dFrom_sumR n t (fun b hb => h b (by simp [hb]))]
    simp
theorem dFrom_sum (n : Nat) (L : List Ar) (h : ∀ a ∈ L, a.1 < n) : (dFrom n L).sum = L.length := by
  have := dFrom_sumR n L.reverse (fun a ha => h a (List.mem_reverse.1 ha))
  rwa [List.reverse_reverse, List.length_reverse] at this
theorem dTo_length (n : Nat) (L : List Ar) : (dTo n L).length = n := dFrom_length _ _
theorem sum_take_le : ∀ (l : List Nat) (i : Nat), (l.take i).sum ≤ l.sum
  | [], i => by simp
  | x :: t, 0 => by simp
  | x :: t, i + 1 => by have := sum_take_le t i; simp only [List.take_succ_cons, List.sum_cons]; omega
theorem sum_take_succ (l : List Nat) (i : Nat) (h : i < l.length) : (l.take (i + 1)).sum = (l.take i).sum + l[i]?.getD 0 := by
  rw [List.take_succ_eq_append_getElem h, List.sum_append, List.getElem?_eq_getElem h]; simp
theorem si_true (l : List Nat) (n m : Nat) (hn : l.length = n) (hm : l.length = m) (h2 : n ≤ 1000000) (A B : Option Addr) (c d : Nat) (V : World) (hA : RdV V V.heap.size A (zc (ns l))) (hB : RdV V V.heap.size B (zc (ns l))) :
    Calls Try.prog 22 #[.slice A n c, .slice B m d] V fun e w' => e = .returned (.bool true) ∧ Below V.heap.size V w' := by
  have h := sameI_l l l n m hn hm (by omega) A B c d V hA hB
  rwa [decide_eq_true rfl] at h
end
end Go.Proofs.Ytnbjhldpadjgfaa
