/- Two sequences of bits are held against each other, whatever they are. -/
import Derived.Test.YtgibbokhdfblmaaPut
namespace Go.Proofs.Ytgibbokhdfblmaa
open Go.RowKit

/-- At each round's head: so many bytes are alike. -/
def SameRel (w : World) (xs ys : List Nat) (p : Value) (wr : World) : Prop := ∃ i : Nat, i ≤ xs.length ∧ p = .int .i64 (i : Int) ∧ xs.take i = ys.take i ∧ Below w.heap.size w wr

theorem take_succ_same (xs ys : List Nat) (i : Nat) (h1 : i < xs.length) (h2 : i < ys.length) (h : xs.take i = ys.take i) (he : xs[i]?.getD 0 = ys[i]?.getD 0) : xs.take (i + 1) = ys.take (i + 1) := by
  rw [List.take_succ_eq_append_getElem h1, List.take_succ_eq_append_getElem h2, h]
  rw [List.getElem?_eq_getElem h1, List.getElem?_eq_getElem h2] at he
  simp only [Option.getD_some] at he
  rw [he]
theorem ne_of_at (xs ys : List Nat) (i : Nat) (he : xs[i]?.getD 0 ≠ ys[i]?.getD 0) : ¬ xs = ys := fun h => he (by rw [h])

set_option maxHeartbeats 400000 in
theorem same_len (w : World) (A B : Option Addr) (n m c d : Nat) (hl : n ≠ m) :
    Calls Try.prog 60 #[.slice A n c, .slice B m d] w fun e w' => e = .returned (.bool false) ∧ Below w.heap.size w w' := by
  have h1 : ((n : Int) != (m : Int)) = true := by simp; omega
  clear hl
  go_enter Try.func60, Try.ntmps60
  go_wp2
  go_ret
  exact ⟨rfl, Below.refl _ _⟩

set_option maxHeartbeats 1000000 in
theorem same_bytes (w : World) (A B : Option Addr) (c d : Nat) (xs ys : List Nat) (n : Nat) (hn : xs.length = n) (hm : ys.length = n) (h2 : n ≤ 140737488355328) (hA : Rd w w.heap.size A xs) (hB : Rd w w.heap.size B ys) :
    Calls Try.prog 60 #[.slice A n c, .slice B n d] w fun e w' => e = .returned (.bool (decide (xs = ys))) ∧ Below w.heap.size w w' := by
  have HA := Lib.hid hA; clear hA
  have HB := Lib.hid hB; clear hB
  have HN := Lib.hid hn; clear hn
  have HM := Lib.hid hm; clear hm
  have t0 : ((n : Int) != (n : Int)) = false := by simp
  go_enter Try.func60, Try.ntmps60
  go_wp2
  go_loopw [5] (fun p wr => SameRel w xs ys p wr) (fun p _ => n - (intOf p).toNat)
  case atStart => exact ⟨0, Nat.zero_le _, rfl, rfl, Below.refl _ _⟩
  case round =>
    obtain ⟨i, hi, hp, ht, hb⟩ := hrel
    subst hp
    rw [HN.out] at hi
    by_cases hlt : i < n
    · obtain ⟨b1, o1, rfl, hb1, hc1⟩ : ∃ b off, A = some ⟨b, off, none⟩ ∧ b < w.heap.size ∧ ∀ i, i < xs.length → w.cell? ⟨b, off + i, none⟩ = some (.int .u8 ((xs[i]?.getD 0 : Nat) : Int)) := by
        rcases HA.out with h | h
        · exfalso; have := HN.out; rw [h] at this; simp at this; omega
        · exact h
      obtain ⟨b2, o2, rfl, hb2, hc2⟩ : ∃ b off, B = some ⟨b, off, none⟩ ∧ b < w.heap.size ∧ ∀ i, i < ys.length → w.cell? ⟨b, off + i, none⟩ = some (.int .u8 ((ys[i]?.getD 0 : Nat) : Int)) := by
        rcases HB.out with h | h
        · exfalso; have := HM.out; rw [h] at this; simp at this; omega
        · exact h
      have e1 := (hb.cell (p := ⟨b1, o1 + i, none⟩) hb1).trans (hc1 i (by rw [HN.out]; exact hlt))
      have e2 := (hb.cell (p := ⟨b2, o2 + i, none⟩) hb2).trans (hc2 i (by rw [HM.out]; exact hlt))
      have hstep := fun he => take_succ_same xs ys i (by rw [HN.out]; exact hlt) (by rw [HM.out]; exact hlt) ht he
      have hno := ne_of_at xs ys i
      clear hc1 hc2 ht
      generalize xs[i]?.getD 0 = x at *
      generalize ys[i]?.getD 0 = y at *
      by_cases hxy : x = y
      · subst hxy
        have HT := Lib.hid (hstep rfl)
        clear hstep hno
        have t1 : ((x : Int) != (x : Int)) = false := by simp
        go_wp2
        go_region
        go_wp2
        go_roundw
        case rel => exact ⟨i + 1, by rw [HN.out]; omega, by go_num, HT.out, hb.drew⟩
        case measure => simp [intOf]; omega
      · have HT := Lib.hid (hno hxy)
        clear hstep hno
        have t1 : ((x : Int) != (y : Int)) = true := by simp; omega
        clear hxy
        go_wp2
        go_region
        go_wp2
        go_ret
        exact ⟨by rw [decide_eq_false HT.out]; rfl, hb.drew⟩
    · have HT : Hid (xs = ys) := by
        have e : i = n := by omega
        rw [e, List.take_of_length_le (by rw [HN.out]; omega), List.take_of_length_le (by rw [HM.out]; omega)] at ht
        exact ht
      clear ht
      go_wp2
      go_ret
      exact ⟨by rw [decide_eq_true HT.out]; rfl, hb⟩

theorem same_any (w : World) (A B : Option Addr) (c d : Nat) (xs ys : List Nat) (h2 : xs.length ≤ 140737488355328) (hA : Rd w w.heap.size A xs) (hB : Rd w w.heap.size B ys) :
    Calls Try.prog 60 #[.slice A xs.length c, .slice B ys.length d] w fun e w' => e = .returned (.bool (decide (xs = ys))) ∧ Below w.heap.size w w' := by
  by_cases h : xs.length = ys.length
  · rw [← h]; exact same_bytes w A B c d xs ys xs.length rfl h.symm h2 hA hB
  · have e : decide (xs = ys) = false := by rw [decide_eq_false_iff_not]; intro he; exact h (by rw [he])
    rw [e]
    exact same_len w A B _ _ c d h

set_option maxHeartbeats 400000 in
theorem sameBits_any (w : World) (la lb : Int) (A B : Option Addr) (c d : Nat) (xs ys : List Nat) (h2 : xs.length ≤ 140737488355328) (hA : Rd w w.heap.size A xs) (hB : Rd w w.heap.size B ys) :
    Calls Try.prog 26 #[.agg #[.int .i64 la, .slice A xs.length c], .agg #[.int .i64 lb, .slice B ys.length d]] w fun e w' => e = .returned (.bool (decide (la = lb) && decide (xs = ys))) ∧ Below w.heap.size w w' := by
  have hB2 := ((Below.refl _ w).alloc (Nat.le_refl _) (.cells #[.int .i64 la, .slice A xs.length c] 25)).alloc (by simp) (.cells #[.int .i64 lb, .slice B ys.length d] 25)
  have HS := same_any ((w.alloc (.cells #[.int .i64 la, .slice A xs.length c] 25)).alloc (.cells #[.int .i64 lb, .slice B ys.length d] 25)) A B c d xs ys h2 (hA.below hB2 (by simp; omega)) (hB.below hB2 (by simp; omega))
  have HS' := Lib.hid HS; clear HS hA hB
  have HB2 := Lib.hid hB2; clear hB2
  by_cases hl : la = lb
  · subst hl
    have t1 : (la == la) = true := by simp
    rw [decide_eq_true rfl, Bool.true_and]
    generalize decide (xs = ys) = r at *
    generalize xs.length = n at *
    generalize ys.length = m at *
    go_enter Try.func26, Try.ntmps26
    go_wp2_with (go_at_call 60; refine HS'.out.mono ?_; rintro e w1 ⟨rfl, hq⟩)
    go_ret
    exact ⟨rfl, HB2.out.trans (hq.mono (by simp; omega))⟩
  · have t1 : (la == lb) = false := by simpa using hl
    rw [decide_eq_false hl, Bool.false_and]
    clear hl
    generalize decide (xs = ys) = r at *
    generalize xs.length = n at *
    generalize ys.length = m at *
    go_enter Try.func26, Try.ntmps26
    go_wp2
    go_ret
    exact ⟨rfl, HB2.out⟩
end Go.Proofs.Ytgibbokhdfblmaa
