/- Two lists of numbers are held against each other, by Go's own slices.Equal and by the document's SameInts; what rank's Check and By answer; no condition but those that each fact names. -/
import Derived.Test.YtgibbokhdfblmaaOBld
import Derived.BigQuiet
namespace Go.Proofs.Ytgibbokhdfblmaa
set_option maxRecDepth 100000
set_option linter.unusedVariables false
open Go.RowKit Go.Shelf

/-- At each round's head: so many bytes are alike. -/
def SameRelI (w : World) (xs ys : List Int) (p : Value) (wr : World) : Prop := ∃ i : Nat, i ≤ xs.length ∧ p = .int .i64 (i : Int) ∧ xs.take i = ys.take i ∧ Below w.heap.size w wr
theorem take_succ_sameI (xs ys : List Int) (i : Nat) (h1 : i < xs.length) (h2 : i < ys.length) (h : xs.take i = ys.take i) (he : xs[i]?.getD 0 = ys[i]?.getD 0) : xs.take (i + 1) = ys.take (i + 1) := by
  rw [List.take_succ_eq_append_getElem h1, List.take_succ_eq_append_getElem h2, h]
  rw [List.getElem?_eq_getElem h1, List.getElem?_eq_getElem h2] at he
  simp only [Option.getD_some] at he
  rw [he]
theorem ne_of_atI (xs ys : List Int) (i : Nat) (he : xs[i]?.getD 0 ≠ ys[i]?.getD 0) : ¬ xs = ys := fun h => he (by rw [h])
set_option maxHeartbeats 400000 in
theorem sameI_len (w : World) (A B : Option Addr) (n m c d : Nat) (hl : n ≠ m) :
    Calls Try.prog 38 #[.slice A n c, .slice B m d] w fun e w' => e = .returned (.bool false) ∧ Below w.heap.size w w' := by
  have h1 : ((n : Int) != (m : Int)) = true := by simp; omega
  clear hl
  go_enter Try.func38, Try.ntmps38
  go_wp2
  go_ret
  exact ⟨rfl, Below.refl _ _⟩
set_option maxHeartbeats 1000000 in
theorem same_ints (w : World) (A B : Option Addr) (c d : Nat) (xs ys : List Int) (n : Nat) (hn : xs.length = n) (hm : ys.length = n) (h2 : n ≤ 9223372036854775807) (hA : RdV w w.heap.size A (zc xs)) (hB : RdV w w.heap.size B (zc ys)) :
    Calls Try.prog 38 #[.slice A n c, .slice B n d] w fun e w' => e = .returned (.bool (decide (xs = ys))) ∧ Below w.heap.size w w' := by
  have HA := Lib.hid hA; clear hA
  have HB := Lib.hid hB; clear hB
  have HN := Lib.hid hn; clear hn
  have HM := Lib.hid hm; clear hm
  have t0 : ((n : Int) != (n : Int)) = false := by simp
  go_enter Try.func38, Try.ntmps38
  go_wp2
  go_loopw [5] (fun p wr => SameRelI w xs ys p wr) (fun p _ => n - (intOf p).toNat)
  case atStart => exact ⟨0, Nat.zero_le _, rfl, rfl, Below.refl _ _⟩
  case round =>
    obtain ⟨i, hi, hp, ht, hb⟩ := hrel
    subst hp
    rw [HN.out] at hi
    by_cases hlt : i < n
    · obtain ⟨b1, o1, rfl, hb1, hc1⟩ := HA.out.at_ (zc_get xs i (by rw [HN.out]; exact hlt))
      obtain ⟨b2, o2, rfl, hb2, hc2⟩ := HB.out.at_ (zc_get ys i (by rw [HM.out]; exact hlt))
      have e1 := (hb.cell (p := ⟨b1, o1 + i, none⟩) hb1).trans hc1
      have e2 := (hb.cell (p := ⟨b2, o2 + i, none⟩) hb2).trans hc2
      have hstep := fun he => take_succ_sameI xs ys i (by rw [HN.out]; exact hlt) (by rw [HM.out]; exact hlt) ht he
      have hno := ne_of_atI xs ys i
      clear hc1 hc2 ht
      generalize xs[i]?.getD 0 = x at *
      generalize ys[i]?.getD 0 = y at *
      by_cases hxy : x = y
      · subst hxy
        have HT := Lib.hid (hstep rfl)
        clear hstep hno
        have t1 : (x != x) = false := by simp
        go_wp2
        go_region
        go_wp2
        go_roundw
        case rel => exact ⟨i + 1, by rw [HN.out]; omega, by go_num, HT.out, hb.drew⟩
        case measure => simp [intOf]; omega
      · have HT := Lib.hid (hno hxy)
        clear hstep hno
        have t1 : (x != y) = true := by simpa using hxy
        clear hxy
        go_wp2
        go_region
        go_wp2
        go_ret
        exact ⟨by rw [decide_eq_false HT.out]; rfl, hb.drew⟩
    · have HT : Hid (xs = ys) := by
        have e : i = n := by omega
        rw [e, List.take_of_length_le (by rw [HN.out]; omega), List.take_of_length_le (by rw [HM.out]; omega)] at ht
        exact ht
      clear ht
      go_wp2
      go_ret
      exact ⟨by rw [decide_eq_true HT.out]; rfl, hb⟩
theorem sameI_any (w : World) (A B : Option Addr) (c d : Nat) (xs ys : List Int) (h2 : xs.length ≤ 9223372036854775807) (hA : RdV w w.heap.size A (zc xs)) (hB : RdV w w.heap.size B (zc ys)) :
    Calls Try.prog 38 #[.slice A xs.length c, .slice B ys.length d] w fun e w' => e = .returned (.bool (decide (xs = ys))) ∧ Below w.heap.size w w' := by
  by_cases h : xs.length = ys.length
  · rw [← h]; exact same_ints w A B c d xs ys xs.length rfl h.symm h2 hA hB
  · have e : decide (xs = ys) = false := by rw [decide_eq_false_iff_not]; intro he; exact h (by rw [he])
    rw [e]
    exact sameI_len w A B _ _ c d h

set_option maxHeartbeats 400000 in
theorem sleq_len (w : World) (A B : Option Addr) (n m c d : Nat) (hl : n ≠ m) :
    Calls Try.prog 63 #[.slice A n c, .slice B m d] w fun e w' => e = .returned (.bool false) ∧ Below w.heap.size w w' := by
  have h1 : ((n : Int) != (m : Int)) = true := by simp; omega
  clear hl
  go_enter Try.func63, Try.ntmps63
  go_wp2
  go_ret
  exact ⟨rfl, Below.refl _ _⟩
set_option maxHeartbeats 1000000 in
theorem sleq_ints (w : World) (A B : Option Addr) (c d : Nat) (xs ys : List Int) (n : Nat) (hn : xs.length = n) (hm : ys.length = n) (h2 : n ≤ 9223372036854775807) (hA : RdV w w.heap.size A (zc xs)) (hB : RdV w w.heap.size B (zc ys)) :
    Calls Try.prog 63 #[.slice A n c, .slice B n d] w fun e w' => e = .returned (.bool (decide (xs = ys))) ∧ Below w.heap.size w w' := by
  have HA := Lib.hid hA; clear hA
  have HB := Lib.hid hB; clear hB
  have HN := Lib.hid hn; clear hn
  have HM := Lib.hid hm; clear hm
  have t0 : ((n : Int) != (n : Int)) = false := by simp
  go_enter Try.func63, Try.ntmps63
  go_wp2
  go_loopw [13] (fun p wr => SameRelI w xs ys p wr) (fun p _ => n - (intOf p).toNat)
  case atStart => exact ⟨0, Nat.zero_le _, rfl, rfl, Below.refl _ _⟩
  case round =>
    obtain ⟨i, hi, hp, ht, hb⟩ := hrel
    subst hp
    rw [HN.out] at hi
    by_cases hlt : i < n
    · obtain ⟨b1, o1, rfl, hb1, hc1⟩ := HA.out.at_ (zc_get xs i (by rw [HN.out]; exact hlt))
      obtain ⟨b2, o2, rfl, hb2, hc2⟩ := HB.out.at_ (zc_get ys i (by rw [HM.out]; exact hlt))
      have e1 := (hb.cell (p := ⟨b1, o1 + i, none⟩) hb1).trans hc1
      have e2 := (hb.cell (p := ⟨b2, o2 + i, none⟩) hb2).trans hc2
      have hstep := fun he => take_succ_sameI xs ys i (by rw [HN.out]; exact hlt) (by rw [HM.out]; exact hlt) ht he
      have hno := ne_of_atI xs ys i
      clear hc1 hc2 ht
      generalize xs[i]?.getD 0 = x at *
      generalize ys[i]?.getD 0 = y at *
      by_cases hxy : x = y
      · subst hxy
        have HT := Lib.hid (hstep rfl)
        clear hstep hno
        have t1 : (x != x) = false := by simp
        go_wp2
        go_region
        go_wp2
        go_roundw
        case rel => exact ⟨i + 1, by rw [HN.out]; omega, by go_num, HT.out, hb.drew⟩
        case measure => simp [intOf]; omega
      · have HT := Lib.hid (hno hxy)
        clear hstep hno
        have t1 : (x != y) = true := by simpa using hxy
        clear hxy
        go_wp2
        go_region
        go_wp2
        go_ret
        exact ⟨by rw [decide_eq_false HT.out]; rfl, hb.drew⟩
    · have HT : Hid (xs = ys) := by
        have e : i = n := by omega
        rw [e, List.take_of_length_le (by rw [HN.out]; omega), List.take_of_length_le (by rw [HM.out]; omega)] at ht
        exact ht
      clear ht
      go_wp2
      go_ret
      exact ⟨by rw [decide_eq_true HT.out]; rfl, hb⟩
theorem sleq_any (w : World) (A B : Option Addr) (c d : Nat) (xs ys : List Int) (h2 : xs.length ≤ 9223372036854775807) (hA : RdV w w.heap.size A (zc xs)) (hB : RdV w w.heap.size B (zc ys)) :
    Calls Try.prog 63 #[.slice A xs.length c, .slice B ys.length d] w fun e w' => e = .returned (.bool (decide (xs = ys))) ∧ Below w.heap.size w w' := by
  by_cases h : xs.length = ys.length
  · rw [← h]; exact sleq_ints w A B c d xs ys xs.length rfl h.symm h2 hA hB
  · have e : decide (xs = ys) = false := by rw [decide_eq_false_iff_not]; intro he; exact h (by rw [he])
    rw [e]
    exact sleq_len w A B _ _ c d h

/-- What Check of an index answers. -/
def ckI (len : Int) (bs : List Nat) (ev : Int) (xs : List Int) : Int := if bdE len bs ev = 0 then (if xs = (bdX len bs ev).2 then 0 else 4) else bdE len bs ev
set_option maxHeartbeats 2000000 in
theorem rcheck_ix (len : Int) (A : Option Addr) (c : Nat) (bs : List Nat) (hb : ∀ b ∈ bs, b < 256) (ev : Int) (xs : List Int) (hx : xs.length ≤ 9223372036854775807) (A2 : Option Addr) (c2 : Nat) (w : World) (h : Rd w w.heap.size A bs) (h2 : RdV w w.heap.size A2 (zc xs)) :
    Calls Try.prog 39 #[.agg #[.int .i64 len, .slice A bs.length c], .agg #[.int .i64 ev, .slice A2 xs.length c2]] w fun e w' => e = .returned (.int .i64 (ckI len bs ev xs)) ∧ Below w.heap.size w w' := by
  have HBd : Hid (∀ V, Below w.heap.size w V → Calls Try.prog 30 #[.agg #[.int .i64 len, .slice A bs.length c], .int .i64 ev] V (IxP V (bdX len bs ev).1 (bdX len bs ev).2 (bdE len bs ev))) := fun V hV => build_any len A c bs hb ev V (h.on hV)
  have HX2 := Lib.hid h2
  have HSl : Hid (∀ A3 c3 V, Below w.heap.size w V → RdV V V.heap.size A3 (zc (bdX len bs ev).2) → Calls Try.prog 63 #[.slice A2 xs.length c2, .slice A3 (bdX len bs ev).2.length c3] V fun e w' => e = .returned (.bool (decide (xs = (bdX len bs ev).2))) ∧ Below V.heap.size V w') := fun A3 c3 V hV h3 => sleq_any V A2 A3 c2 c3 xs _ hx (h2.on hV) h3
  unfold ckI
  clear h h2 hb
  generalize bdE len bs ev = e0 at *
  generalize (bdX len bs ev).1 = ev2 at *
  generalize (bdX len bs ev).2 = ys at *
  obtain ⟨de, hde⟩ : ∃ de, decide (xs = ys) = de := ⟨_, rfl⟩
  rw [hde] at HSl
  have hif : (if xs = ys then (0 : Int) else 4) = if de = true then 0 else 4 := by
    by_cases h : xs = ys
    · rw [if_pos h, if_pos (by rw [← hde]; simpa using h)]
    · rw [if_neg h, if_neg (by rw [← hde]; simpa using h)]
  rw [hif]
  clear hif hde
  obtain ⟨r, hrr⟩ : ∃ r, (if e0 = 0 then (if de = true then 0 else 4) else e0) = r := ⟨_, rfl⟩
  rw [hrr]
  have HRR := Lib.hid hrr; clear hrr
  generalize xs.length = n2 at *
  generalize bs.length = N at *
  have HYL : Hid (ys.length = ys.length) := rfl
  go_enter Try.func39, Try.ntmps39
  go_wp2_with fail
  have hlow : Below w.heap.size w ((w.alloc (.cells #[.int .i64 len, .slice A N c] 25)).alloc (.cells #[.int .i64 ev, .slice A2 n2 c2] 45)) := up2 w _ _
  have hsz : ((w.alloc (.cells #[.int .i64 len, .slice A N c] 25)).alloc (.cells #[.int .i64 ev, .slice A2 n2 c2] 45)).heap.size = w.heap.size + 2 := two_size w _ _
  have hr : ((w.alloc (.cells #[.int .i64 len, .slice A N c] 25)).alloc (.cells #[.int .i64 ev, .slice A2 n2 c2] 45)).heap[w.heap.size + 1]? = some (.cells #[.int .i64 ev, .slice A2 n2 c2] 45 (0, 0)) := two_new w _ _
  generalize ((w.alloc (.cells #[.int .i64 len, .slice A N c] 25)).alloc (.cells #[.int .i64 ev, .slice A2 n2 c2] 45)) = V0 at *
  refine (HBd.out V0 hlow).mono ?_
  rintro x w5 ⟨A3, c3, rfl, R3, B5⟩
  have hr5 := (B5.block _ (by omega)).trans hr
  have hz5 : w.heap.size + 1 < w5.heap.size := by have := B5.size; omega
  have HB5 : Hid (Below w.heap.size w w5) := hlow.trans (B5.mono (by omega))
  obtain ⟨r0, r1, -, -⟩ := cells2 hr5
  have HR3 := Lib.hid R3
  clear R3 B5 hr5 hr hsz hlow
  by_cases h0 : e0 = 0
  · subst h0
    rw [if_pos rfl] at HRR
    have n5 := World.alloc_heap_new w5 (.cells #[.int .i64 ev2, .slice A3 ys.length c3] 45)
    have b5 := one_below w5 (.cells #[.int .i64 ev2, .slice A3 ys.length c3] 45)
    have HS5 := Lib.hid (HSl.out A3 c3 _ (HB5.out.trans (b5.mono HB5.out.size)) (HR3.out.on b5))
    have HB6 : Hid (Below w.heap.size w (w5.alloc (.cells #[.int .i64 ev2, .slice A3 ys.length c3] 45))) := HB5.out.trans (b5.mono HB5.out.size)
    clear n5 b5
    generalize ys.length = m at *
    cases de
    · go_wp2_with fail
      refine HS5.out.mono ?_
      rintro x w6 ⟨rfl, B6⟩
      have HB7 : Hid (Below w.heap.size w w6) := HB6.out.trans (B6.mono HB6.out.size)
      clear B6
      go_wp2
      go_ret
      exact ⟨ret_i64 (by have := HRR.out; simpa using this), HB7.out⟩
    · go_wp2_with fail
      refine HS5.out.mono ?_
      rintro x w6 ⟨rfl, B6⟩
      have HB7 : Hid (Below w.heap.size w w6) := HB6.out.trans (B6.mono HB6.out.size)
      clear B6
      go_wp2
      go_ret
      exact ⟨ret_i64 (by have := HRR.out; simpa using this), HB7.out⟩
  · rw [if_neg h0] at HRR
    have t0 : (e0 == 0) = false := by simpa using h0
    clear h0
    generalize ys.length = m at *
    go_wp2
    go_ret
    exact ⟨ret_i64 HRR.out, HB5.out.trans ((one_below w5 _).mono HB5.out.size)⟩
end Go.Proofs.Ytgibbokhdfblmaa
