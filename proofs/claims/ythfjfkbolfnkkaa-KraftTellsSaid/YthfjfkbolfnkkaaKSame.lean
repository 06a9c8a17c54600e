/- The document's comparison of lists of numbers (SameInts), and Starts: does a list begin with another one; for whatever lists. -/
import Derived.Test.YthfjfkbolfnkkaaKRefA
import Derived.Test.YthfjfkbolfnkkaaRefList
namespace Go.Proofs.Ythfjfkbolfnkkaa
set_option maxRecDepth 100000
set_option linter.unusedVariables false
open Go.RowKit Go.Shelf

/-- At each round's head: so many bytes are alike. -/
def SameRelI (w : World) (xs ys : List Int) (p : Value) (wr : World) : Prop := ∃ i : Nat, i ≤ xs.length ∧ p = .int .i64 (i : Int) ∧ xs.take i = ys.take i ∧ Below w.heap.size w wr
theorem take_succ_sameI (xs ys : List Int) (i : Nat) (h1 : i < xs.length) (h2 : i < ys.length) (h : xs.take i = ys.take i) (he : xs[i]?.getD 0 = ys[i]?.getD 0) : xs.take (i + 1) = ys.take (i + 1) := by
  rw [List.take_succ_eq_append_getElem h1, List.take_succ_eq_append_getElem h2, h]
  rw [List.getElem?_eq_getElem h1, List.getElem?_eq_getElem h2] at he
  simp only [Option.getD_some] at he
  rw [he]
theorem ne_of_atI (xs ys : List Int) (i : Nat) (he : xs[i]?.getD 0 ≠ ys[i]?.getD 0) : ¬ xs = ys := fun h => he (by rw [h])
set_option maxHeartbeats 400000 in
theorem sameI_len (w : World) (A B : Option Addr) (n m c d : Nat) (hl : n ≠ m) :
    Calls Try.prog 33 #[.slice A n c, .slice B m d] w fun e w' => e = .returned (.bool false) ∧ Below w.heap.size w w' := by
  have h1 : ((n : Int) != (m : Int)) = true := by simp; omega
  clear hl
  go_enter Try.func33, Try.ntmps33
  go_wp2
  go_ret
  exact ⟨rfl, Below.refl _ _⟩
set_option maxHeartbeats 1000000 in
theorem same_ints (w : World) (A B : Option Addr) (c d : Nat) (xs ys : List Int) (n : Nat) (hn : xs.length = n) (hm : ys.length = n) (h2 : n ≤ 9223372036854775807) (hA : RdV w w.heap.size A (zc xs)) (hB : RdV w w.heap.size B (zc ys)) :
    Calls Try.prog 33 #[.slice A n c, .slice B n d] w fun e w' => e = .returned (.bool (decide (xs = ys))) ∧ Below w.heap.size w w' := by
  have HA := Lib.hid hA; clear hA
  have HB := Lib.hid hB; clear hB
  have HN := Lib.hid hn; clear hn
  have HM := Lib.hid hm; clear hm
  have t0 : ((n : Int) != (n : Int)) = false := by simp
  go_enter Try.func33, Try.ntmps33
  go_wp2
  go_loopw [5] (fun p wr => SameRelI w xs ys p wr) (fun p _ => n - (intOf p).toNat)
  case atStart => exact ⟨0, Nat.zero_le _, rfl, rfl, Below.refl _ _⟩
  case round =>
    obtain ⟨i, hi, hp, ht, hb⟩ := hrel
    subst hp
    rw [HN.out] at hi
    by_cases hlt : i < n
    · obtain ⟨b1, o1, rfl, hb1, hc1⟩ := HA.out.at_ (zc_get xs i (by rw [HN.out]; exact hlt))
      obtain ⟨b2, o2, rfl, hb2, hc2⟩ := HB.out.at_ (zc_get ys i (by rw [HM.out]; exact hlt))
      have e1 := (hb.cell (p := ⟨b1, o1 + i, none⟩) hb1).trans hc1
      have e2 := (hb.cell (p := ⟨b2, o2 + i, none⟩) hb2).trans hc2
      have hstep := fun he => take_succ_sameI xs ys i (by rw [HN.out]; exact hlt) (by rw [HM.out]; exact hlt) ht he
      have hno := ne_of_atI xs ys i
      clear hc1 hc2 ht
      generalize xs[i]?.getD 0 = x at *
      generalize ys[i]?.getD 0 = y at *
      by_cases hxy : x = y
      · subst hxy
        have HT := Lib.hid (hstep rfl)
        clear hstep hno
        have t1 : (x != x) = false := by simp
        go_wp2
        go_region
        go_wp2
        go_roundw
        case rel => exact ⟨i + 1, by rw [HN.out]; omega, by go_num, HT.out, hb.drew⟩
        case measure => simp [intOf]; omega
      · have HT := Lib.hid (hno hxy)
        clear hstep hno
        have t1 : (x != y) = true := by simpa using hxy
        clear hxy
        go_wp2
        go_region
        go_wp2
        go_ret
        exact ⟨by rw [decide_eq_false HT.out]; rfl, hb.drew⟩
    · have HT : Hid (xs = ys) := by
        have e : i = n := by omega
        rw [e, List.take_of_length_le (by rw [HN.out]; omega), List.take_of_length_le (by rw [HM.out]; omega)] at ht
        exact ht
      clear ht
      go_wp2
      go_ret
      exact ⟨by rw [decide_eq_true HT.out]; rfl, hb⟩
theorem sameI_any (w : World) (A B : Option Addr) (c d : Nat) (xs ys : List Int) (h2 : xs.length ≤ 9223372036854775807) (hA : RdV w w.heap.size A (zc xs)) (hB : RdV w w.heap.size B (zc ys)) :
    Calls Try.prog 33 #[.slice A xs.length c, .slice B ys.length d] w fun e w' => e = .returned (.bool (decide (xs = ys))) ∧ Below w.heap.size w w' := by
  by_cases h : xs.length = ys.length
  · rw [← h]; exact same_ints w A B c d xs ys xs.length rfl h.symm h2 hA hB
  · have e : decide (xs = ys) = false := by rw [decide_eq_false_iff_not]; intro he; exact h (by rw [he])
    rw [e]
    exact sameI_len w A B _ _ c d h

/-- Bits as numbers. -/
def zi (l : List Bool) : List Int := l.map fun b => ((b.toNat : Nat) : Int)
theorem zi_ic (l : List Bool) : zc (zi l) = ic l := by simp [zc, zi, ic]
theorem zi_length (l : List Bool) : (zi l).length = l.length := by simp [zi]
theorem zi_take (l : List Bool) (k : Nat) : (zi l).take k = zi (l.take k) := by simp [zi, List.map_take]
theorem zi_inj {a b : List Bool} (h : zi a = zi b) : a = b := by
  have hi : ∀ x y : Bool, ((x.toNat : Nat) : Int) = ((y.toNat : Nat) : Int) → x = y := by decide
  exact (List.map_inj_right (fun x y => hi x y)).1 h
theorem RdV.takeK {w : World} {B : Nat} {A : Option Addr} {vs : List Value} (h : RdV w B A vs) (k : Nat) : RdV w B A (vs.take k) := by
  rcases h with h | ⟨b, off, e, hb, hc⟩
  · exact .inl (by rw [h]; simp)
  · refine .inr ⟨b, off, e, hb, fun i v hi => hc i v ?_⟩
    rw [List.getElem?_take] at hi
    split at hi
    · exact hi
    · cases hi
set_option maxHeartbeats 1000000 in
theorem starts_any (x y : List Bool) (n m : Nat) (hn : x.length = n) (hm : y.length = m) (hn2 : n ≤ 1000000000) (hm2 : m ≤ 1000000000) (A B : Option Addr) (c d : Nat) (hc : n ≤ c) (w : World) (hA : RdV w w.heap.size A (ic x)) (hB : RdV w w.heap.size B (ic y)) :
    Calls Try.prog 53 #[.slice A n c, .slice B m d] w fun e w' => e = .returned (.bool (decide (y <+: x))) ∧ Below w.heap.size w w' := by
  by_cases h : m ≤ n
  · have e1 : decide (y <+: x) = decide ((zi x).take m = zi y) := by
      rw [zi_take]
      congr 1
      apply propext
      constructor
      · intro hp
        have := List.prefix_iff_eq_take.1 hp
        rw [hm] at this
        rw [← this]
      · intro he
        have := zi_inj he
        rw [← this]; exact List.take_prefix _ _
    have HS := sameI_any w A B c d ((zi x).take m) (zi y) (by rw [List.length_take, zi_length]; omega) (by
      have := hA.takeK m
      rwa [← zi_ic, show (zc (zi x)).take m = zc ((zi x).take m) by simp [zc, List.map_take]] at this) (by rw [zi_ic]; exact hB)
    rw [zi_length, hm, List.length_take, zi_length, hn, Nat.min_eq_left h, ← e1] at HS
    generalize decide (y <+: x) = r at *
    clear e1 hA hB hn hm
    have HS2 := Lib.hid HS
    clear HS
    have t1 : decide ((m : Int) ≤ (n : Int)) = true := by simp; omega
    have t2 : decide (m ≤ n) = true := by simpa using h
    have t3 : (0 : Int) ≤ (m : Int) := by omega
    have t4 : (m : Int) ≤ (c : Int) := by omega
    have t5 : m ≤ c := by omega
    go_enter Try.func53, Try.ntmps53
    go_wp2_with fail
    refine HS2.out.mono ?_
    rintro e w1 ⟨rfl, B1⟩
    go_wp2
    go_ret
    exact ⟨rfl, B1⟩
  · have e1 : decide (y <+: x) = false := by
      rw [decide_eq_false_iff_not]
      intro hp
      have := hp.length_le
      omega
    rw [e1]
    have t1 : decide ((m : Int) ≤ (n : Int)) = false := by simp; omega
    have t2 : decide (m ≤ n) = false := by simpa using h
    clear e1 hA hB hn hm
    go_enter Try.func53, Try.ntmps53
    go_wp2
    go_ret
    exact ⟨rfl, Below.refl _ _⟩
end Go.Proofs.Ythfjfkbolfnkkaa
