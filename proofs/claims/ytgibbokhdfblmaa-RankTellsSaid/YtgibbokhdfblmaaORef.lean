/- The document's own counting of ones, and its finding of a place. -/
import Derived.Test.YtgibbokhdfblmaaOBeg
import Derived.Test.YtgibbokhdfblmaaRefU
namespace Go.Proofs.Ytgibbokhdfblmaa
set_option maxRecDepth 100000
set_option linter.unusedVariables false
open Go.RowKit Go.Shelf

/-- At each round's head: so many ones ahead. -/
def OaRel (l : List Bool) (m : Nat) (v p : Value) : Prop := ∃ i : Nat, i ≤ m ∧ p = .int .i64 (i : Int) ∧ v = .int .i64 ((cnt (l.take i) : Nat) : Int)
set_option maxHeartbeats 1000000 in
theorem oa_any (l : List Bool) (n : Nat) (hn : l.length = n) (hl : n ≤ 8192) (m : Nat) (hm : m ≤ n) (r : Nat) (hr : cnt (l.take m) = r) (A : Option Addr) (c : Nat) (w : World) (h : RdV w w.heap.size A (ic l)) :
    Calls Try.prog 34 #[.slice A n c, .int .i64 (m : Int)] w fun e w' => e = .returned (.int .i64 (r : Int)) ∧ Below w.heap.size w w' := by
  have HR := Lib.hid h; clear h
  have HN := Lib.hid hn; clear hn
  have HRr := Lib.hid hr; clear hr
  go_enter Try.func34, Try.ntmps34
  go_wp2
  go_loop [5, 6] (fun v p => OaRel l m v p) (fun _ p => m - (intOf p).toNat)
  case atStart => exact ⟨0, Nat.zero_le _, rfl, rfl⟩
  case round =>
    obtain ⟨i, him, rfl, rfl⟩ := hrel
    by_cases hlt : i < m
    · have hin : i < l.length := by rw [HN.out]; omega
      obtain ⟨b, off, rfl, hb, hc⟩ := HR.out.at_ (ic_get l i hin)
      have HS := Lib.hid (cnt_take_succ l i hin)
      have hle := cnt_take_le l i
      have hbt := Bool.toNat_le (l[i]?.getD false)
      generalize (l[i]?.getD false).toNat = y at *
      generalize cnt (l.take i) = x at *
      have i0 : (0 : Int) ≤ (i : Int) := by omega
      have i1 : (i : Int) < (n : Int) := by omega
      have c1 : (i : Int) < (m : Int) := by omega
      clear hin
      go_wp2
      go_round
      case rel => exact ⟨i + 1, hlt, by go_num, by rw [HS.out]; go_num⟩
      case measure => simp [intOf]; omega
    · obtain rfl : i = m := by omega
      have c1 : ¬ (i : Int) < (i : Int) := by omega
      rw [HRr.out]
      go_wp2
      go_ret
      exact ⟨rfl, Below.refl _ _⟩
/-- At each round's head: no place so far was the one. -/
def RsRel (w : World) (l : List Bool) (v : Bool) (i : Nat) (p : Value) (wr : World) : Prop := ∃ q : Nat, q ≤ l.length ∧ p = .int .i64 (q : Int) ∧ (∀ s, s < q → ¬ (l[s]? = some v ∧ ahd v l s = i)) ∧ Below w.heap.size w wr
set_option maxHeartbeats 2000000 in
theorem rs1_any (l : List Bool) (n : Nat) (hn : l.length = n) (hl : n ≤ 8192) (i : Nat) (r : Int) (hr : (sel true l i = none ∧ r = -1) ∨ (∃ s, sel true l i = some s ∧ r = (s : Int))) (A : Option Addr) (c : Nat) (w : World) (h : RdV w w.heap.size A (ic l)) :
    Calls Try.prog 35 #[.slice A n c, .int .i64 1, .int .i64 (i : Int)] w fun e w' => e = .returned (.int .i64 r) ∧ Below w.heap.size w w' := by
  have HR := Lib.hid h; clear h
  have HN := Lib.hid hn; clear hn
  have HRr := Lib.hid hr; clear hr
  go_enter Try.func35, Try.ntmps35
  go_wp2
  go_loopw [7] (fun p wr => RsRel w l true i p wr) (fun p _ => n - (intOf p).toNat)
  case atStart => exact ⟨0, Nat.zero_le _, rfl, fun s hs => by omega, Below.refl _ _⟩
  case round =>
    obtain ⟨q, hq, rfl, hno, hbel⟩ := hrel
    rw [HN.out] at hq
    have HNo := Lib.hid hno; clear hno
    have HB := Lib.hid hbel; clear hbel
    by_cases hlt : q < n
    · have hin : q < l.length := by rw [HN.out]; omega
      have HRw : Hid (RdV wr w.heap.size A (ic l)) := HR.out.below HB.out (Nat.le_refl _)
      have c1 : (q : Int) < (n : Int) := by omega
      have HA : Hid (RdV wr wr.heap.size A (ic l)) := HR.out.on HB.out
      go_wp2_with fail
      refine (oa_any l n HN.out hl q (by omega) _ rfl A c wr HA.out).mono ?_
      rintro e w1 ⟨rfl, B1⟩
      have HB1 : Hid (Below w.heap.size w w1) := HB.out.trans (B1.mono HB.out.size)
      clear B1
      obtain ⟨b, off, hA, hb, hc⟩ := HR.out.at_ (ic_get l q hin)
      have hc1 := (HB1.out.cell (p := ⟨b, off + q, none⟩) hb).trans hc
      subst hA
      have i0 : (0 : Int) ≤ (q : Int) := by omega
      have HS := Lib.hid (sel_some true l i q)
      rw [ahd_true] at HS
      have HNo' := HNo
      generalize cnt (l.take q) = x at *
      rcases hbt : l[q]?.getD false with _ | _
      · rw [hbt] at hc1
        have c2 : (q : Int) < (n : Int) := c1
        clear hc
        go_wp2
        go_roundw
        case rel => exact ⟨q + 1, by rw [HN.out]; omega, by go_num, fun s hs => by
            rcases Nat.lt_or_eq_of_le (Nat.le_of_lt_succ hs) with h | h
            · exact HNo.out s h
            · rw [h]; rintro ⟨h1, _⟩; rw [h1] at hbt; simp at hbt, HB1.out⟩
        case measure => simp [intOf]; omega
      · rw [hbt] at hc1
        have hlq : l[q]? = some true := by rw [List.getElem?_eq_getElem hin] at hbt ⊢; simpa using hbt
        clear hc
        by_cases hx : x = i
        · have t1 : ((x : Int) == (i : Int)) = true := by simp; omega
          have HE : Hid (r = (q : Int)) := by
            have hs := HS.out.2 ⟨hlq, hx⟩
            rcases HRr.out with ⟨h1, _⟩ | ⟨s, h1, h2⟩
            · rw [h1] at hs; cases hs
            · rw [h1] at hs; cases hs; exact h2
          subst hx
          go_wp2
          go_ret
          exact ⟨by rw [HE.out]; rfl, HB1.out⟩
        · have t1 : ((x : Int) == (i : Int)) = false := by simp; omega
          go_wp2
          go_roundw
          case rel => exact ⟨q + 1, by rw [HN.out]; omega, by go_num, fun s hs => by
              rcases Nat.lt_or_eq_of_le (Nat.le_of_lt_succ hs) with h | h
              · exact HNo.out s h
              · rw [h]; rintro ⟨h1, h2⟩; exact hx ((by have := (sel_some true l i q).2 ⟨h1, h2⟩; exact (HS.out.1 this).2)), HB1.out⟩
          case measure => simp [intOf]; omega
    · obtain rfl : q = n := by omega
      have c1 : ¬ (q : Int) < (q : Int) := by omega
      have HE : Hid (r = -1) := by
        rcases HRr.out with ⟨_, h2⟩ | ⟨s, h1, _⟩
        · exact h2
        · have h3 := (sel_some true l i s).1 h1
          have h4 : s < l.length := by
            rcases Nat.lt_or_ge s l.length with h | h
            · exact h
            · rw [List.getElem?_eq_none h] at h3; cases h3.1
          exact absurd h3 (HNo.out s (by rw [← HN.out]; exact h4))
      go_wp2
      go_ret
      exact ⟨by rw [HE.out]; rfl, HB.out⟩
set_option maxHeartbeats 2000000 in
theorem rs0_any (l : List Bool) (n : Nat) (hn : l.length = n) (hl : n ≤ 8192) (i : Nat) (r : Int) (hr : (sel false l i = none ∧ r = -1) ∨ (∃ s, sel false l i = some s ∧ r = (s : Int))) (A : Option Addr) (c : Nat) (w : World) (h : RdV w w.heap.size A (ic l)) :
    Calls Try.prog 35 #[.slice A n c, .int .i64 0, .int .i64 (i : Int)] w fun e w' => e = .returned (.int .i64 r) ∧ Below w.heap.size w w' := by
  have HR := Lib.hid h; clear h
  have HN := Lib.hid hn; clear hn
  have HRr := Lib.hid hr; clear hr
  go_enter Try.func35, Try.ntmps35
  go_wp2
  go_loopw [7] (fun p wr => RsRel w l false i p wr) (fun p _ => n - (intOf p).toNat)
  case atStart => exact ⟨0, Nat.zero_le _, rfl, fun s hs => by omega, Below.refl _ _⟩
  case round =>
    obtain ⟨q, hq, rfl, hno, hbel⟩ := hrel
    rw [HN.out] at hq
    have HNo := Lib.hid hno; clear hno
    have HB := Lib.hid hbel; clear hbel
    by_cases hlt : q < n
    · have hin : q < l.length := by rw [HN.out]; omega
      have HRw : Hid (RdV wr w.heap.size A (ic l)) := HR.out.below HB.out (Nat.le_refl _)
      have c1 : (q : Int) < (n : Int) := by omega
      have HA : Hid (RdV wr wr.heap.size A (ic l)) := HR.out.on HB.out
      go_wp2_with fail
      refine (oa_any l n HN.out hl q (by omega) _ rfl A c wr HA.out).mono ?_
      rintro e w1 ⟨rfl, B1⟩
      have HB1 : Hid (Below w.heap.size w w1) := HB.out.trans (B1.mono HB.out.size)
      clear B1
      obtain ⟨b, off, hA, hb, hc⟩ := HR.out.at_ (ic_get l q hin)
      have hc1 := (HB1.out.cell (p := ⟨b, off + q, none⟩) hb).trans hc
      subst hA
      have i0 : (0 : Int) ≤ (q : Int) := by omega
      have HS := Lib.hid (sel_some false l i q)
      have HF := ahd_false l q (Nat.le_of_lt hin)
      have HNo' := HNo
      obtain ⟨z, hz⟩ : ∃ z, ahd false l q = z := ⟨_, rfl⟩
      rw [hz] at HF HS
      generalize cnt (l.take q) = x at *
      have hd : (q : Int) - (x : Int) = (z : Int) := by omega
      have tw : IntKind.i64.wrap (z : Int) = (z : Int) := by rw [IntKind.wrap_i64]; omega
      have tw2 : wrap64 (z : Int) = (z : Int) := by unfold wrap64; omega
      rcases hbt : l[q]?.getD false with _ | _
      · rw [hbt] at hc1
        have hlq : l[q]? = some false := by rw [List.getElem?_eq_getElem hin] at hbt ⊢; simpa using hbt
        clear hc
        by_cases hx : z = i
        · have t1 : ((z : Int) == (i : Int)) = true := by simp; omega
          have HE : Hid (r = (q : Int)) := by
            have hs := HS.out.2 ⟨hlq, hx⟩
            rcases HRr.out with ⟨h1, _⟩ | ⟨s, h1, h2⟩
            · rw [h1] at hs; cases hs
            · rw [h1] at hs; cases hs; exact h2
          clear hz HF
          subst hx
          go_wp2
          go_ret
          exact ⟨by rw [HE.out]; rfl, HB1.out⟩
        · have t1 : ((z : Int) == (i : Int)) = false := by simp; omega
          go_wp2
          go_roundw
          case rel => exact ⟨q + 1, by rw [HN.out]; omega, by go_num, fun s hs => by
              rcases Nat.lt_or_eq_of_le (Nat.le_of_lt_succ hs) with h | h
              · exact HNo.out s h
              · rw [h]; rintro ⟨h1, h2⟩; exact hx ((by have := (sel_some false l i q).2 ⟨h1, h2⟩; exact (HS.out.1 this).2)), HB1.out⟩
          case measure => simp [intOf]; omega
      · rw [hbt] at hc1
        have c2 : (q : Int) < (n : Int) := c1
        clear hc
        go_wp2
        go_roundw
        case rel => exact ⟨q + 1, by rw [HN.out]; omega, by go_num, fun s hs => by
            rcases Nat.lt_or_eq_of_le (Nat.le_of_lt_succ hs) with h | h
            · exact HNo.out s h
            · rw [h]; rintro ⟨h1, _⟩; rw [h1] at hbt; simp at hbt, HB1.out⟩
        case measure => simp [intOf]; omega
    · obtain rfl : q = n := by omega
      have c1 : ¬ (q : Int) < (q : Int) := by omega
      have HE : Hid (r = -1) := by
        rcases HRr.out with ⟨_, h2⟩ | ⟨s, h1, _⟩
        · exact h2
        · have h3 := (sel_some false l i s).1 h1
          have h4 : s < l.length := by
            rcases Nat.lt_or_ge s l.length with h | h
            · exact h
            · rw [List.getElem?_eq_none h] at h3; cases h3.1
          exact absurd h3 (HNo.out s (by rw [← HN.out]; exact h4))
      go_wp2
      go_ret
      exact ⟨by rw [HE.out]; rfl, HB.out⟩
end Go.Proofs.Ytgibbokhdfblmaa
