/- Texts of this proof, one behind the other (USame, NSame); each fact names its conditions. -/
import Derived.Test.YticdnodlapafoaaGreatJS2
import Derived.Test.YticdnodlapafoaaGreatJSNMem
namespace Go.Proofs.YticdnodlapafoaaGreat

section
open Go.RowKit

/-- At each round's head: so many bytes are alike. -/
def SameRelN (w : World) (xs ys : List Nat) (p : Value) (wr : World) : Prop := ∃ i : Nat, i ≤ xs.length ∧ p = .int .i64 (i : Int) ∧ xs.take i = ys.take i ∧ Below w.heap.size w wr

theorem take_succ_sameN (xs ys : List Nat) (i : Nat) (h1 : i < xs.length) (h2 : i < ys.length) (h : xs.take i = ys.take i) (he : xs[i]?.getD 0 = ys[i]?.getD 0) : xs.take (i + 1) = ys.take (i + 1) := by
  rw [List.take_succ_eq_append_getElem h1, List.take_succ_eq_append_getElem h2, h]
  rw [List.getElem?_eq_getElem h1, List.getElem?_eq_getElem h2] at he
  simp only [Option.getD_some] at he
  rw [he]
theorem ne_of_atN (xs ys : List Nat) (i : Nat) (he : xs[i]?.getD 0 ≠ ys[i]?.getD 0) : ¬ xs = ys := fun h => he (by rw [h])
end

section
set_option maxRecDepth 100000
set_option linter.unusedVariables false
open Go.RowKit Go.Shelf

/-- At each round's head: so many bytes are alike. -/
def SameRelI (w : World) (xs ys : List Int) (p : Value) (wr : World) : Prop := ∃ i : Nat, i ≤ xs.length ∧ p = .int .i64 (i : Int) ∧ xs.take i = ys.take i ∧ Below w.heap.size w wr
theorem take_succ_sameI (xs ys : List Int) (i : Nat) (h1 : i < xs.length) (h2 : i < ys.length) (h : xs.take i = ys.take i) (he : xs[i]?.getD 0 = ys[i]?.getD 0) : xs.take (i + 1) = ys.take (i + 1) := by
  rw [List.take_succ_eq_append_getElem h1, List.take_succ_eq_append_getElem h2, h]
  rw [List.getElem?_eq_getElem h1, List.getElem?_eq_getElem h2] at he
  simp only [Option.getD_some] at he
  rw [he]
theorem ne_of_atI (xs ys : List Int) (i : Nat) (he : xs[i]?.getD 0 ≠ ys[i]?.getD 0) : ¬ xs = ys := fun h => he (by rw [h])
set_option maxHeartbeats 400000 in
theorem sameI_len (w : World) (A B : Option Addr) (n m c d : Nat) (hl : n ≠ m) :
    Calls Tryz.prog 23 #[.slice A n c, .slice B m d] w fun e w' => e = .returned (.bool false) ∧ Below w.heap.size w w' := by
  have h1 : ((n : Int) != (m : Int)) = true := by simp; omega
  clear hl
  go_enter Tryz.func23, Tryz.ntmps23
  go_wp2
  go_ret
  exact ⟨rfl, Below.refl _ _⟩
set_option maxHeartbeats 1000000 in
theorem same_ints (w : World) (A B : Option Addr) (c d : Nat) (xs ys : List Int) (n : Nat) (hn : xs.length = n) (hm : ys.length = n) (h2 : n ≤ 9223372036854775807) (hA : RdV w w.heap.size A (zc xs)) (hB : RdV w w.heap.size B (zc ys)) :
    Calls Tryz.prog 23 #[.slice A n c, .slice B n d] w fun e w' => e = .returned (.bool (decide (xs = ys))) ∧ Below w.heap.size w w' := by
  have HA := Lib.hid hA; clear hA
  have HB := Lib.hid hB; clear hB
  have HN := Lib.hid hn; clear hn
  have HM := Lib.hid hm; clear hm
  have t0 : ((n : Int) != (n : Int)) = false := by simp
  go_enter Tryz.func23, Tryz.ntmps23
  go_wp2
  go_loopw [5] (fun p wr => SameRelI w xs ys p wr) (fun p _ => n - (intOf p).toNat)
  case atStart => exact ⟨0, Nat.zero_le _, rfl, rfl, Below.refl _ _⟩
  case round =>
    obtain ⟨i, hi, hp, ht, hb⟩ := hrel
    subst hp
    rw [HN.out] at hi
    by_cases hlt : i < n
    · obtain ⟨b1, o1, rfl, hb1, hc1⟩ := HA.out.at_ (zc_get xs i (by rw [HN.out]; exact hlt))
      obtain ⟨b2, o2, rfl, hb2, hc2⟩ := HB.out.at_ (zc_get ys i (by rw [HM.out]; exact hlt))
      have e1 := (hb.cell (p := ⟨b1, o1 + i, none⟩) hb1).trans hc1
      have e2 := (hb.cell (p := ⟨b2, o2 + i, none⟩) hb2).trans hc2
      have hstep := fun he => take_succ_sameI xs ys i (by rw [HN.out]; exact hlt) (by rw [HM.out]; exact hlt) ht he
      have hno := ne_of_atI xs ys i
      clear hc1 hc2 ht
      generalize xs[i]?.getD 0 = x at *
      generalize ys[i]?.getD 0 = y at *
      by_cases hxy : x = y
      · subst hxy
        have HT := Lib.hid (hstep rfl)
        clear hstep hno
        have t1 : (x != x) = false := by simp
        go_wp2
        go_region
        go_wp2
        go_roundw
        case rel => exact ⟨i + 1, by rw [HN.out]; omega, by go_num, HT.out, hb.drew⟩
        case measure => simp [intOf]; omega
      · have HT := Lib.hid (hno hxy)
        clear hstep hno
        have t1 : (x != y) = true := by simpa using hxy
        clear hxy
        go_wp2
        go_region
        go_wp2
        go_ret
        exact ⟨by rw [decide_eq_false HT.out]; rfl, hb.drew⟩
    · have HT : Hid (xs = ys) := by
        have e : i = n := by omega
        rw [e, List.take_of_length_le (by rw [HN.out]; omega), List.take_of_length_le (by rw [HM.out]; omega)] at ht
        exact ht
      clear ht
      go_wp2
      go_ret
      exact ⟨by rw [decide_eq_true HT.out]; rfl, hb⟩
theorem sameI_any (w : World) (A B : Option Addr) (c d : Nat) (xs ys : List Int) (h2 : xs.length ≤ 9223372036854775807) (hA : RdV w w.heap.size A (zc xs)) (hB : RdV w w.heap.size B (zc ys)) :
    Calls Tryz.prog 23 #[.slice A xs.length c, .slice B ys.length d] w fun e w' => e = .returned (.bool (decide (xs = ys))) ∧ Below w.heap.size w w' := by
  by_cases h : xs.length = ys.length
  · rw [← h]; exact same_ints w A B c d xs ys xs.length rfl h.symm h2 hA hB
  · have e : decide (xs = ys) = false := by rw [decide_eq_false_iff_not]; intro he; exact h (by rw [he])
    rw [e]
    exact sameI_len w A B _ _ c d h
/-- Numbers, newly laid. -/
theorem rdv_new (w : World) (l : List Nat) : RdV (w.alloc (.cells (nc l).toArray 45)) (w.alloc (.cells (nc l).toArray 45)).heap.size (some ⟨w.heap.size, 0, none⟩) (nc l) := by
  refine .inr ⟨w.heap.size, 0, rfl, by simp, fun i v hi => ?_⟩
  rw [cell_of_row _ _ _ _ _ _ (World.alloc_heap_new w (.cells (nc l).toArray 45))]
  simpa using hi
theorem rdz_new (w : World) (l : List Nat) : RdV (w.alloc (.cells (zc (ns l)).toArray 3)) (w.alloc (.cells (zc (ns l)).toArray 3)).heap.size (some ⟨w.heap.size, 0, none⟩) (zc (ns l)) := by
  refine .inr ⟨w.heap.size, 0, rfl, by simp, fun i v hi => ?_⟩
  rw [cell_of_row _ _ _ _ _ _ (World.alloc_heap_new w (.cells (zc (ns l)).toArray 3))]
  simpa using hi
theorem sameI_l (l m : List Nat) (n k : Nat) (hn : l.length = n) (hk : m.length = k) (h2 : n ≤ 9223372036854775807) (A B : Option Addr) (c d : Nat) (w : World) (hA : RdV w w.heap.size A (zc (ns l))) (hB : RdV w w.heap.size B (zc (ns m))) :
    Calls Tryz.prog 23 #[.slice A n c, .slice B k d] w fun e w' => e = .returned (.bool (decide (l = m))) ∧ Below w.heap.size w w' := by
  have h := sameI_any w A B c d (ns l) (ns m) (by rw [ns_length]; omega) hA hB
  rw [ns_length, ns_length, hn, hk] at h
  have e : decide (ns l = ns m) = decide (l = m) := by
    by_cases h : l = m
    · rw [h]; simp
    · rw [decide_eq_false h, decide_eq_false (fun e => h (ns_inj e))]
  rwa [e] at h
end
end Go.Proofs.YticdnodlapafoaaGreat
