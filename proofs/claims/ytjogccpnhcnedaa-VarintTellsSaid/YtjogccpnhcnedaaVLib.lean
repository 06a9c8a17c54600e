/- What is asked of Go's own package slices, the program's check of a range, and the document's comparisons of bytes and of numbers; each with its conditions. -/
import Derived.Test.YtjogccpnhcnedaaVMem
namespace Go.Proofs.Ytjogccpnhcnedaa
set_option maxRecDepth 100000
set_option linter.unusedVariables false
open Go.RowKit

/-- Cells of conditions. -/
def cc (bs : List Bool) : List Value := bs.map Value.bool
theorem cc_length (bs : List Bool) : (cc bs).length = bs.length := by simp [cc]
theorem cc_get (bs : List Bool) (i : Nat) (h : i < bs.length) : (cc bs)[i]? = some (.bool (bs[i]?.getD false)) := by
  simp [cc, List.getElem?_map, List.getElem?_eq_getElem h]
/-- At each round's head: what has come is true. -/
def IxRel (bs : List Bool) (p : Value) : Prop := ∃ i : Nat, i ≤ bs.length ∧ p = .int .i64 (i : Int) ∧ ∀ j, j < i → bs[j]?.getD false = true
set_option maxHeartbeats 1000000 in
theorem index_b (bs : List Bool) (r : Bool) (hr : bs.contains false = r) (n : Nat) (hn : bs.length = n) (hl : n ≤ 100) (A : Option Addr) (c : Nat) (w : World) (h : RdV w w.heap.size A (cc bs)) :
    Calls Try.prog 75 #[.slice A n c, .bool false] w fun e w' => ∃ k : Int, e = .returned (.int .i64 k) ∧ w = w' ∧ Hid (decide (0 ≤ k) = r) := by
  have HQ := Lib.hid hr; clear hr
  have HR := Lib.hid h; clear h
  have HN := Lib.hid hn; clear hn
  go_enter Try.func75, Try.ntmps75
  go_wp2
  go_loop [5, 8] (fun _ p => IxRel bs p) (fun _ p => n - (intOf p).toNat)
  case atStart => exact ⟨0, Nat.zero_le _, rfl, fun j hj => absurd hj (Nat.not_lt_zero _)⟩
  case round =>
    obtain ⟨i, hi, rfl, hall⟩ := hrel
    rw [HN.out] at hi
    have HAl := Lib.hid hall; clear hall
    by_cases hlt : i < n
    · have hil : i < bs.length := by rw [HN.out]; exact hlt
      obtain ⟨b, off, rfl, hb, hc⟩ := HR.out.at_ (cc_get bs i hil)
      have HM : Hid (bs[i]?.getD false = false → r = true) := by
        intro e
        rw [← HQ.out]
        rw [List.getElem?_eq_getElem hil] at e
        simp only [Option.getD_some] at e
        rw [List.contains_iff_mem, ← e]
        exact List.getElem_mem hil
      have HE : Hid (bs[i]?.getD false = true → ∀ j, j < i + 1 → bs[j]?.getD false = true) := by
        intro e j hj
        by_cases h : j = i
        · subst h; exact e
        · exact HAl.out j (by omega)
      generalize bs[i]?.getD false = bt at *
      cases bt
      · have HM2 : Hid (r = true) := HM.out rfl
        clear HM HE
        go_wp2
        go_ret
        exact ⟨_, rfl, rfl, show decide _ = r by rw [HM2.out]; simp⟩
      · have HE2 : Hid (∀ j, j < i + 1 → bs[j]?.getD false = true) := HE.out rfl
        clear HM HE
        go_wp2
        go_round
        case rel => exact ⟨i + 1, by rw [HN.out]; omega, by go_num, HE2.out⟩
        case measure => simp [intOf]; omega
    · have HF : Hid (r = false) := by
        show _ = _
        rw [← HQ.out]
        rw [Bool.eq_false_iff]
        intro e
        rw [List.contains_iff_mem] at e
        obtain ⟨j, hj, e⟩ := List.mem_iff_getElem.1 e
        have := HAl.out j (by rw [HN.out] at hj; omega)
        rw [List.getElem?_eq_getElem hj, e] at this
        simp at this
      go_wp2
      go_ret
      exact ⟨_, rfl, rfl, show decide _ = r by rw [HF.out]; decide⟩
set_option maxHeartbeats 1000000 in
theorem contains_b (bs : List Bool) (n : Nat) (hn : bs.length = n) (hl : n ≤ 100) (A : Option Addr) (c : Nat) (w : World) (h : RdV w w.heap.size A (cc bs)) :
    Calls Try.prog 64 #[.slice A n c, .bool false] w fun e w' => e = .returned (.bool (bs.contains false)) ∧ w = w' := by
  have HI := Lib.hid (index_b bs _ rfl n hn hl A c w h); clear h hn
  generalize bs.contains false = r at *
  go_enter Try.func64, Try.ntmps64
  go_wp2_with fail
  refine HI.out.mono ?_
  rintro e w1 ⟨k, rfl, rfl, hk⟩
  go_wp2
  go_ret
  exact ⟨by rw [← hk.out]; rfl, rfl⟩
/-- The error that was found before, else 3 if a condition fails. -/
def rgE (e : Int) (bs : List Bool) : Int := if e = 0 ∧ bs.contains false = true then 3 else e
set_option maxHeartbeats 1000000 in
theorem range_any (e : Int) (bs : List Bool) (n : Nat) (hn : bs.length = n) (hl : n ≤ 100) (A : Option Addr) (c : Nat) (w : World) (h : RdV w w.heap.size A (cc bs)) :
    Calls Try.prog 40 #[.int .i64 e, .slice A n c] w fun x w' => x = .returned (.int .i64 (rgE e bs)) ∧ w = w' := by
  have HI := Lib.hid (contains_b bs n hn hl A c w h); clear h hn
  unfold rgE
  generalize bs.contains false = r at *
  by_cases he : e = 0
  · subst he
    cases r
    · rw [if_neg (by simp)]
      go_enter Try.func40, Try.ntmps40
      go_wp2_with fail
      refine HI.out.mono ?_
      rintro e w1 ⟨rfl, rfl⟩
      go_wp2
      go_ret
      exact ⟨rfl, rfl⟩
    · rw [if_pos (by simp)]
      go_enter Try.func40, Try.ntmps40
      go_wp2_with fail
      refine HI.out.mono ?_
      rintro e w1 ⟨rfl, rfl⟩
      go_wp2
      go_ret
      exact ⟨rfl, rfl⟩
  · rw [if_neg (fun h => he h.1)]
    have t1 : (e == 0) = false := by simpa using he
    clear he HI
    go_enter Try.func40, Try.ntmps40
    go_wp2
    go_ret
    exact ⟨rfl, rfl⟩
/-- Conditions, newly laid. -/
theorem rdv_cc (w : World) (bs : List Bool) : RdV (w.alloc (.cells (cc bs).toArray 4)) (w.alloc (.cells (cc bs).toArray 4)).heap.size (some ⟨w.heap.size, 0, none⟩) (cc bs) := by
  refine .inr ⟨w.heap.size, 0, rfl, by simp, fun i v hi => ?_⟩
  rw [cell_of_row _ _ _ _ _ _ (World.alloc_heap_new w (.cells (cc bs).toArray 4))]
  simpa using hi
/-- Range, at conditions that the call lays itself. -/
theorem range_new (e : Int) (bs : List Bool) (n : Nat) (hn : bs.length = n) (hl : n ≤ 100) (r : Int) (hr : rgE e bs = r) (w : World) :
    Calls Try.prog 40 #[.int .i64 e, .slice (some ⟨w.heap.size, 0, none⟩) n n] (w.alloc (.cells (cc bs).toArray 4)) fun x w' => x = .returned (.int .i64 r) ∧ w.alloc (.cells (cc bs).toArray 4) = w' := by
  subst hr
  exact range_any e bs n hn hl _ _ _ (rdv_cc w bs)
theorem range_on (e : Int) (bs : List Bool) (n : Nat) (hn : bs.length = n) (hl : n ≤ 100) (r : Int) (hr : rgE e bs = r) (w : World) :
    Calls Try.prog 40 #[.int .i64 e, .slice (some ⟨w.heap.size, 0, none⟩) n n] (w.alloc (.cells (cc bs).toArray 4)) fun x w' => x = .returned (.int .i64 r) ∧ Below w.heap.size w w' :=
  (range_new e bs n hn hl r hr w).mono fun _ _ ⟨h1, h2⟩ => ⟨h1, by rw [← h2]; exact one_below _ _⟩
theorem range1 (e : Int) (a : Bool) (r : Int) (hr : rgE e [a] = r) (w : World) (B : Nat) (hB : w.heap.size = B) :
    Calls Try.prog 40 #[.int .i64 e, .slice (some ⟨B, 0, none⟩) 1 1] (w.alloc (.cells #[.bool a] 4)) fun x w' => x = .returned (.int .i64 r) ∧ Below w.heap.size w w' :=
  hB ▸ range_on e [a] 1 rfl (by decide) r hr w
theorem range2 (e : Int) (a b : Bool) (r : Int) (hr : rgE e [a, b] = r) (w : World) (B : Nat) (hB : w.heap.size = B) :
    Calls Try.prog 40 #[.int .i64 e, .slice (some ⟨B, 0, none⟩) 2 2] (w.alloc (.cells #[.bool a, .bool b] 4)) fun x w' => x = .returned (.int .i64 r) ∧ Below w.heap.size w w' :=
  hB ▸ range_on e [a, b] 2 rfl (by decide) r hr w
theorem range3 (e : Int) (a b c : Bool) (r : Int) (hr : rgE e [a, b, c] = r) (w : World) (B : Nat) (hB : w.heap.size = B) :
    Calls Try.prog 40 #[.int .i64 e, .slice (some ⟨B, 0, none⟩) 3 3] (w.alloc (.cells #[.bool a, .bool b, .bool c] 4)) fun x w' => x = .returned (.int .i64 r) ∧ Below w.heap.size w w' :=
  hB ▸ range_on e [a, b, c] 3 rfl (by decide) r hr w
/-- At each round's head: so many bytes are alike. -/
def SameRel (w : World) (xs ys : List Nat) (p : Value) (wr : World) : Prop := ∃ i : Nat, i ≤ xs.length ∧ p = .int .i64 (i : Int) ∧ xs.take i = ys.take i ∧ Below w.heap.size w wr
theorem take_succ_same (xs ys : List Nat) (i : Nat) (h1 : i < xs.length) (h2 : i < ys.length) (h : xs.take i = ys.take i) (he : xs[i]?.getD 0 = ys[i]?.getD 0) : xs.take (i + 1) = ys.take (i + 1) := by
  rw [List.take_succ_eq_append_getElem h1, List.take_succ_eq_append_getElem h2, h]
  rw [List.getElem?_eq_getElem h1, List.getElem?_eq_getElem h2] at he
  simp only [Option.getD_some] at he
  rw [he]
theorem ne_of_at (xs ys : List Nat) (i : Nat) (he : xs[i]?.getD 0 ≠ ys[i]?.getD 0) : ¬ xs = ys := fun h => he (by rw [h])
set_option maxHeartbeats 400000 in
theorem same_len (w : World) (A B : Option Addr) (n m c d : Nat) (hl : n ≠ m) :
    Calls Try.prog 37 #[.slice A n c, .slice B m d] w fun e w' => e = .returned (.bool false) ∧ Below w.heap.size w w' := by
  have h1 : ((n : Int) != (m : Int)) = true := by simp; omega
  clear hl
  go_enter Try.func37, Try.ntmps37
  go_wp2
  go_ret
  exact ⟨rfl, Below.refl _ _⟩
set_option maxHeartbeats 1000000 in
theorem same_bytes (w : World) (A B : Option Addr) (c d : Nat) (xs ys : List Nat) (n : Nat) (hn : xs.length = n) (hm : ys.length = n) (h2 : n ≤ 140737488355328) (hA : Rd w w.heap.size A xs) (hB : Rd w w.heap.size B ys) :
    Calls Try.prog 37 #[.slice A n c, .slice B n d] w fun e w' => e = .returned (.bool (decide (xs = ys))) ∧ Below w.heap.size w w' := by
  have HA := Lib.hid hA; clear hA
  have HB := Lib.hid hB; clear hB
  have HN := Lib.hid hn; clear hn
  have HM := Lib.hid hm; clear hm
  have t0 : ((n : Int) != (n : Int)) = false := by simp
  go_enter Try.func37, Try.ntmps37
  go_wp2
  go_loopw [5] (fun p wr => SameRel w xs ys p wr) (fun p _ => n - (intOf p).toNat)
  case atStart => exact ⟨0, Nat.zero_le _, rfl, rfl, Below.refl _ _⟩
  case round =>
    obtain ⟨i, hi, hp, ht, hb⟩ := hrel
    subst hp
    rw [HN.out] at hi
    by_cases hlt : i < n
    · obtain ⟨b1, o1, rfl, hb1, hc1⟩ : ∃ b off, A = some ⟨b, off, none⟩ ∧ b < w.heap.size ∧ ∀ i, i < xs.length → w.cell? ⟨b, off + i, none⟩ = some (.int .u8 ((xs[i]?.getD 0 : Nat) : Int)) := by
        rcases HA.out with h | h
        · exfalso; have := HN.out; rw [h] at this; simp at this; omega
        · exact h
      obtain ⟨b2, o2, rfl, hb2, hc2⟩ : ∃ b off, B = some ⟨b, off, none⟩ ∧ b < w.heap.size ∧ ∀ i, i < ys.length → w.cell? ⟨b, off + i, none⟩ = some (.int .u8 ((ys[i]?.getD 0 : Nat) : Int)) := by
        rcases HB.out with h | h
        · exfalso; have := HM.out; rw [h] at this; simp at this; omega
        · exact h
      have e1 := (hb.cell (p := ⟨b1, o1 + i, none⟩) hb1).trans (hc1 i (by rw [HN.out]; exact hlt))
      have e2 := (hb.cell (p := ⟨b2, o2 + i, none⟩) hb2).trans (hc2 i (by rw [HM.out]; exact hlt))
      have hstep := fun he => take_succ_same xs ys i (by rw [HN.out]; exact hlt) (by rw [HM.out]; exact hlt) ht he
      have hno := ne_of_at xs ys i
      clear hc1 hc2 ht
      generalize xs[i]?.getD 0 = x at *
      generalize ys[i]?.getD 0 = y at *
      by_cases hxy : x = y
      · subst hxy
        have HT := Lib.hid (hstep rfl)
        clear hstep hno
        have t1 : ((x : Int) != (x : Int)) = false := by simp
        go_wp2
        go_region
        go_wp2
        go_roundw
        case rel => exact ⟨i + 1, by rw [HN.out]; omega, by go_num, HT.out, hb.drew⟩
        case measure => simp [intOf]; omega
      · have HT := Lib.hid (hno hxy)
        clear hstep hno
        have t1 : ((x : Int) != (y : Int)) = true := by simp; omega
        clear hxy
        go_wp2
        go_region
        go_wp2
        go_ret
        exact ⟨by rw [decide_eq_false HT.out]; rfl, hb.drew⟩
    · have HT : Hid (xs = ys) := by
        have e : i = n := by omega
        rw [e, List.take_of_length_le (by rw [HN.out]; omega), List.take_of_length_le (by rw [HM.out]; omega)] at ht
        exact ht
      clear ht
      go_wp2
      go_ret
      exact ⟨by rw [decide_eq_true HT.out]; rfl, hb⟩
/-- At each round's head: so many bytes are alike. -/
def SameRelN (w : World) (xs ys : List Nat) (p : Value) (wr : World) : Prop := ∃ i : Nat, i ≤ xs.length ∧ p = .int .i64 (i : Int) ∧ xs.take i = ys.take i ∧ Below w.heap.size w wr
theorem take_succ_sameN (xs ys : List Nat) (i : Nat) (h1 : i < xs.length) (h2 : i < ys.length) (h : xs.take i = ys.take i) (he : xs[i]?.getD 0 = ys[i]?.getD 0) : xs.take (i + 1) = ys.take (i + 1) := by
  rw [List.take_succ_eq_append_getElem h1, List.take_succ_eq_append_getElem h2, h]
  rw [List.getElem?_eq_getElem h1, List.getElem?_eq_getElem h2] at he
  simp only [Option.getD_some] at he
  rw [he]
theorem ne_of_atN (xs ys : List Nat) (i : Nat) (he : xs[i]?.getD 0 ≠ ys[i]?.getD 0) : ¬ xs = ys := fun h => he (by rw [h])
set_option maxHeartbeats 400000 in
theorem sameN_len (w : World) (A B : Option Addr) (n m c d : Nat) (hl : n ≠ m) :
    Calls Try.prog 38 #[.slice A n c, .slice B m d] w fun e w' => e = .returned (.bool false) ∧ Below w.heap.size w w' := by
  have h1 : ((n : Int) != (m : Int)) = true := by simp; omega
  clear hl
  go_enter Try.func38, Try.ntmps38
  go_wp2
  go_ret
  exact ⟨rfl, Below.refl _ _⟩
set_option maxHeartbeats 1000000 in
theorem same_nums (w : World) (A B : Option Addr) (c d : Nat) (xs ys : List Nat) (n : Nat) (hn : xs.length = n) (hm : ys.length = n) (h2 : n ≤ 9223372036854775807) (hA : RdV w w.heap.size A (nc xs)) (hB : RdV w w.heap.size B (nc ys)) :
    Calls Try.prog 38 #[.slice A n c, .slice B n d] w fun e w' => e = .returned (.bool (decide (xs = ys))) ∧ Below w.heap.size w w' := by
  have HA := Lib.hid hA; clear hA
  have HB := Lib.hid hB; clear hB
  have HN := Lib.hid hn; clear hn
  have HM := Lib.hid hm; clear hm
  have t0 : ((n : Int) != (n : Int)) = false := by simp
  go_enter Try.func38, Try.ntmps38
  go_wp2
  go_loopw [5] (fun p wr => SameRelN w xs ys p wr) (fun p _ => n - (intOf p).toNat)
  case atStart => exact ⟨0, Nat.zero_le _, rfl, rfl, Below.refl _ _⟩
  case round =>
    obtain ⟨i, hi, hp, ht, hb⟩ := hrel
    subst hp
    rw [HN.out] at hi
    by_cases hlt : i < n
    · obtain ⟨b1, o1, rfl, hb1, hc1⟩ := HA.out.at_ (nc_get xs i (by rw [HN.out]; exact hlt))
      obtain ⟨b2, o2, rfl, hb2, hc2⟩ := HB.out.at_ (nc_get ys i (by rw [HM.out]; exact hlt))
      have e1 := (hb.cell (p := ⟨b1, o1 + i, none⟩) hb1).trans hc1
      have e2 := (hb.cell (p := ⟨b2, o2 + i, none⟩) hb2).trans hc2
      have hstep := fun he => take_succ_sameN xs ys i (by rw [HN.out]; exact hlt) (by rw [HM.out]; exact hlt) ht he
      have hno := ne_of_atN xs ys i
      clear hc1 hc2 ht
      generalize xs[i]?.getD 0 = x at *
      generalize ys[i]?.getD 0 = y at *
      by_cases hxy : x = y
      · subst hxy
        have HT := Lib.hid (hstep rfl)
        clear hstep hno
        have t1 : ((x : Int) != (x : Int)) = false := by simp
        go_wp2
        go_region
        go_wp2
        go_roundw
        case rel => exact ⟨i + 1, by rw [HN.out]; omega, by go_num, HT.out, hb.drew⟩
        case measure => simp [intOf]; omega
      · have HT := Lib.hid (hno hxy)
        clear hstep hno
        have t1 : ((x : Int) != (y : Int)) = true := by simp; omega
        clear hxy
        go_wp2
        go_region
        go_wp2
        go_ret
        exact ⟨by rw [decide_eq_false HT.out]; rfl, hb.drew⟩
    · have HT : Hid (xs = ys) := by
        have e : i = n := by omega
        rw [e, List.take_of_length_le (by rw [HN.out]; omega), List.take_of_length_le (by rw [HM.out]; omega)] at ht
        exact ht
      clear ht
      go_wp2
      go_ret
      exact ⟨by rw [decide_eq_true HT.out]; rfl, hb⟩
theorem sameN_any (w : World) (A B : Option Addr) (c d : Nat) (xs ys : List Nat) (h2 : xs.length ≤ 9223372036854775807) (hA : RdV w w.heap.size A (nc xs)) (hB : RdV w w.heap.size B (nc ys)) :
    Calls Try.prog 38 #[.slice A xs.length c, .slice B ys.length d] w fun e w' => e = .returned (.bool (decide (xs = ys))) ∧ Below w.heap.size w w' := by
  by_cases h : xs.length = ys.length
  · rw [← h]; exact same_nums w A B c d xs ys xs.length rfl h.symm h2 hA hB
  · have e : decide (xs = ys) = false := by rw [decide_eq_false_iff_not]; intro he; exact h (by rw [he])
    rw [e]
    exact sameN_len w A B _ _ c d h
theorem sameB_any (w : World) (A B : Option Addr) (c d : Nat) (xs ys : List Nat) (h2 : xs.length ≤ 140737488355328) (hA : Rd w w.heap.size A xs) (hB : Rd w w.heap.size B ys) :
    Calls Try.prog 37 #[.slice A xs.length c, .slice B ys.length d] w fun e w' => e = .returned (.bool (decide (xs = ys))) ∧ Below w.heap.size w w' := by
  by_cases h : xs.length = ys.length
  · rw [← h]; exact same_bytes w A B c d xs ys xs.length rfl h.symm h2 hA hB
  · have e : decide (xs = ys) = false := by rw [decide_eq_false_iff_not]; intro he; exact h (by rw [he])
    rw [e]
    exact same_len w A B _ _ c d h
end Go.Proofs.Ytjogccpnhcnedaa
