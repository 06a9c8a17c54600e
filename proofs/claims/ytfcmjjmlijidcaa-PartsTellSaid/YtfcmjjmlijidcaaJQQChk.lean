/- What the program's check of blocks answers, and whether a block is copied; no condition but that the list can be read. -/
import Derived.Test.YtfcmjjmlijidcaaJQQFind
import Derived.Deep.RegionHeld3
namespace Go.Proofs.Ytfcmjjmlijidcaa
set_option maxRecDepth 100000
set_option linter.unusedVariables false
open Go.RowKit Go.Shelf

set_option maxHeartbeats 400000 in
theorem copies_any (k : Nat) (hk : k ≤ 1000000) (w : World) : Calls Try.prog 55 #[.int .i64 (k : Int)] w fun e w' => e = .returned (.bool (decide (k % 2 = 0))) ∧ w = w' := by
  have h1 : IntKind.i64.wrap ((k : Int) % 2) = (k : Int) % 2 := IntWalk.i64_in _ (by omega)
  have h2 : ((k : Int) % 2 == 0) = decide (k % 2 = 0) := by
    by_cases h : k % 2 = 0
    · rw [decide_eq_true h]; simp; omega
    · rw [decide_eq_false h]; simp; omega
  have h3 : (k : Int).tmod 2 = (k : Int) % 2 := Int.tmod_eq_emod_of_nonneg (by omega)
  go_enter Try.func55, Try.ntmps55
  go_wp2
  go_ret
  exact ⟨by first | rfl | simp [h2] | simp [h3] | simp [h2, h3], rfl⟩

theorem bbad_step (f : Bool) (bs : List Int) (i : Nat) (h : i < bs.length) : bbad f (bs.drop i) = (decide (bs[i]?.getD 0 < 0 ∨ bs[i]?.getD 0 = 0 ∧ f = false) || bbad false (bs.drop (i + 1))) := by
  rw [drop_at bs i h]; rfl
theorem bfit_step (m : Int) (bs : List Int) (i : Nat) (h : i < bs.length) : bfit m (bs.drop i) = (decide (bs[i]?.getD 0 ≤ m) && bfit (m - bs[i]?.getD 0) (bs.drop (i + 1))) := by
  rw [drop_at bs i h]; rfl
/-- At each round's head: no block so far may not stand. -/
def BbRel (bs : List Int) (w : World) (p : Value) (wr : World) : Prop :=
  ∃ i : Nat, i ≤ bs.length ∧ p = .int .i64 (i : Int) ∧ bbad true bs = bbad (decide (i = 0)) (bs.drop i) ∧ (∀ j, j < i → 0 ≤ bs[j]?.getD 0) ∧ Below w.heap.size w wr
/-- At each round's head: so much is left. -/
def BfRel (bs : List Int) (m : Nat) (w : World) (s p : Value) (wr : World) : Prop :=
  ∃ (i k : Nat), i ≤ bs.length ∧ p = .int .i64 (i : Int) ∧ s = .int .i64 (k : Int) ∧ k ≤ m ∧ bfit m bs = bfit k (bs.drop i) ∧ Below w.heap.size w wr
theorem bbad_all (bs : List Int) (f : Bool) (h : bbad f bs = false) : ∀ j, j < bs.length → 0 ≤ bs[j]?.getD 0 := by
  obtain ⟨B, rfl, _⟩ := bbad_false bs f h
  intro j hj
  rw [ns_length] at hj
  rw [show (ns B)[j]?.getD 0 = ((B[j]?.getD 0 : Nat) : Int) from by simp [ns, List.getElem?_map, List.getElem?_eq_getElem hj]]
  omega
set_option maxHeartbeats 4000000 in
theorem cblk_any (bs : List Int) (n : Nat) (hn : bs.length = n) (hn2 : n ≤ 9223372036854775807) (m : Nat) (hm : m ≤ 1000000) (A : Option Addr) (c : Nat) (w : World) (h : RdV w w.heap.size A (zc bs)) :
    Calls Try.prog 54 #[.slice A n c, .int .i64 (m : Int)] w fun e w' => e = .returned (.int .i64 (bchk bs m)) ∧ Below w.heap.size w w' := by
  have a1 : IntKind.i64.wrap ((m : Int) + 1) = (m : Int) + 1 := IntWalk.i64_in _ (by omega)
  have HC : Hid (bchk bs m = if m + 1 < bs.length then 2 else if bbad true bs = true then 3 else if bfit m bs = true then 0 else 8) := rfl
  have HX := Lib.hid h; have HN := Lib.hid hn
  clear h hn
  rw [HN.out] at HC
  generalize bchk bs m = r at *
  by_cases h0 : m + 1 < n
  · rw [if_pos h0] at HC
    have t1 : decide ((n : Int) > (m : Int) + 1) = true := by simp; omega
    have t2 : decide ((m : Int) + 1 < (n : Int)) = true := by simp; omega
    have t3 : decide (m + 1 < n) = true := by simpa using h0
    have t4 : (m : Int) + 1 < (n : Int) := by omega
    go_enter Try.func54, Try.ntmps54
    go_wp2
    go_ret
    exact ⟨by rw [HC.out]; rfl, Below.refl _ _⟩
  · rw [if_neg h0] at HC
    have t1 : decide ((n : Int) > (m : Int) + 1) = false := by simp; omega
    have t2 : decide ((m : Int) + 1 < (n : Int)) = false := by simp; omega
    have t3 : decide (m + 1 < n) = false := by simpa using h0
    have t4 : ¬ (m : Int) + 1 < (n : Int) := by omega
    go_enter Try.func54, Try.ntmps54
    go_wp2
    go_loopw [16] (fun p wr => BbRel bs w p wr) (fun p _ => n - (intOf p).toNat)
    case atStart => exact ⟨0, Nat.zero_le _, rfl, rfl, fun j h => absurd h (Nat.not_lt_zero _), Below.refl _ _⟩
    case round =>
      obtain ⟨i, hi, rfl, hbb, hall, hbel⟩ := hrel
      rw [HN.out] at hi
      clear t1 t2 t3 t4 h0
      by_cases hlt : i < n
      · have hin : i < bs.length := by rw [HN.out]; exact hlt
        have hg : (zc bs)[i]? = some (.int .i64 (bs[i]?.getD 0)) := zc_get bs i hin
        obtain ⟨b, off, rfl, hb, hc1⟩ := (HX.out.on hbel).at_ hg
        have hst := bbad_step (decide (i = 0)) bs i hin
        have HB := Lib.hid hbel
        clear hbel hg
        have t1 : decide ((i : Int) < (n : Int)) = true := by simp; omega
        have t2 : decide (i < n) = true := by simpa using hlt
        have t3 : (0 : Int) ≤ (i : Int) := by omega
        have t4 : (i : Int) < (n : Int) := by omega
        generalize hx : bs[i]?.getD 0 = x at *
        by_cases hneg : x < 0
        · have HR : Hid (bbad true bs = true) := by
            show _ = _
            rw [hbb, hst, decide_eq_true (.inl hneg), Bool.true_or]
          rw [HR.out, if_pos rfl] at HC
          have q1 : decide (x < 0) = true := by simpa using hneg
          clear hbb hst hx hall
          go_wp2
          go_ret
          exact ⟨by rw [HC.out]; rfl, HB.out⟩
        · have q1 : decide (x < 0) = false := by simpa using hneg
          by_cases hz : x = 0
          · have q2 : (x == 0) = true := by simpa using hz
            by_cases h0 : i = 0
            · have q3 : decide ((i : Int) > 0) = false := by simp; omega
              have q4 : decide ((0 : Int) < (i : Int)) = false := by simp; omega
              have q5 : decide (0 < i) = false := by simp; omega
              have HS : Hid (bbad true bs = bbad (decide (i + 1 = 0)) (bs.drop (i + 1))) := by
                show _ = _
                rw [hbb, hst, h0]; simp [hz]
              have HA : Hid (∀ j, j < i + 1 → 0 ≤ bs[j]?.getD 0) := fun j hj => by
                by_cases e : j = i
                · rw [e, hx]; omega
                · exact hall j (by omega)
              clear hbb hst hx hall h0 hz
              go_wp2
              go_roundw
              case rel => exact ⟨i + 1, by rw [HN.out]; omega, by go_num, HS.out, HA.out, HB.out⟩
              case measure => simp [intOf]; omega
            · have HR : Hid (bbad true bs = true) := by
                show _ = _
                rw [hbb, hst, decide_eq_true (.inr ⟨hz, by simpa using h0⟩), Bool.true_or]
              rw [HR.out, if_pos rfl] at HC
              have q3 : decide ((i : Int) > 0) = true := by simp; omega
              have q4 : decide ((0 : Int) < (i : Int)) = true := by simp; omega
              have q5 : decide (0 < i) = true := by simp; omega
              clear hbb hst hx hall h0 hz
              go_wp2
              go_ret
              exact ⟨by rw [HC.out]; rfl, HB.out⟩
          · have q2 : (x == 0) = false := by simpa using hz
            have HS : Hid (bbad true bs = bbad (decide (i + 1 = 0)) (bs.drop (i + 1))) := by
              show _ = _
              rw [hbb, hst, decide_eq_false (by rintro (h | ⟨h, _⟩); exact hneg h; exact hz h)]; simp
            have HA : Hid (∀ j, j < i + 1 → 0 ≤ bs[j]?.getD 0) := fun j hj => by
              by_cases e : j = i
              · rw [e, hx]; omega
              · exact hall j (by omega)
            clear hbb hst hx hall hz
            go_wp2
            go_roundw
            case rel => exact ⟨i + 1, by rw [HN.out]; omega, by go_num, HS.out, HA.out, HB.out⟩
            case measure => simp [intOf]; omega
      · have e : i = bs.length := by rw [HN.out]; omega
        have HF : Hid (bbad true bs = false) := by
          show _ = _
          rw [hbb, e, List.drop_length]; rfl
        rw [HF.out, if_neg (by decide)] at HC
        have HB := Lib.hid hbel
        have hge := bbad_all bs true HF.out
        have HGe := Lib.hid hge
        clear hbb hall hbel e hge
        have t1 : decide ((i : Int) < (n : Int)) = false := by simp; omega
        have t2 : decide (i < n) = false := by simpa using hlt
        go_wp2
        go_loopw [1, 34] (fun s p wr => BfRel bs m w s p wr) (fun s p _ => n - (intOf p).toNat)
        case atStart => exact ⟨0, m, Nat.zero_le _, rfl, rfl, Nat.le_refl _, rfl, HB.out⟩
        case round =>
          obtain ⟨i, k, hi, rfl, rfl, hkm, hbf, hbel⟩ := hrel
          rw [HN.out] at hi
          clear t1 t2 hlt
          by_cases hlt : i < n
          · have hin : i < bs.length := by rw [HN.out]; exact hlt
            have hg : (zc bs)[i]? = some (.int .i64 (bs[i]?.getD 0)) := zc_get bs i hin
            obtain ⟨b, off, rfl, hb, hc1⟩ := (HX.out.on hbel).at_ hg
            have hst := bfit_step k bs i hin
            have hx0 := HGe.out i hin
            have HB := Lib.hid hbel
            clear hbel hg
            have t1 : decide ((i : Int) < (n : Int)) = true := by simp; omega
            have t2 : decide (i < n) = true := by simpa using hlt
            have t3 : (0 : Int) ≤ (i : Int) := by omega
            have t4 : (i : Int) < (n : Int) := by omega
            generalize hx : bs[i]?.getD 0 = x at *
            by_cases hgt : x > (k : Int)
            · have HR : Hid (bfit m bs = false) := by
                show _ = _
                rw [hbf, hst, decide_eq_false (by omega), Bool.false_and]
              rw [HR.out, if_neg (by decide)] at HC
              have q1 : decide (x > (k : Int)) = true := by simpa using hgt
              have q2 : decide ((k : Int) < x) = true := by simpa using hgt
              clear hbf hst hx
              go_wp2
              go_ret
              exact ⟨by rw [HC.out]; rfl, HB.out⟩
            · have q1 : decide (x > (k : Int)) = false := by simp; omega
              have q2 : decide ((k : Int) < x) = false := by simp; omega
              have q3 : IntKind.i64.wrap ((k : Int) - x) = (k : Int) - x := IntWalk.i64_in _ (by omega)
              have q5 : ¬ (k : Int) < x := by omega
              have HS : Hid (bfit m bs = bfit ((k - x.toNat : Nat) : Int) (bs.drop (i + 1))) := by
                show _ = _
                rw [hbf, hst, decide_eq_true (by omega), Bool.true_and]
                congr 1; omega
              clear hbf hst hx
              go_wp2
              go_roundw
              case rel => exact ⟨i + 1, k - x.toNat, by rw [HN.out]; omega, by go_num, by rw [show ((k - x.toNat : Nat) : Int) = (k : Int) - x by omega], by omega, HS.out, HB.out⟩
              case measure => simp [intOf]; omega
          · have e : i = bs.length := by rw [HN.out]; omega
            have HF : Hid (bfit m bs = true) := by
              show _ = _
              rw [hbf, e, List.drop_length]; rfl
            rw [HF.out, if_pos rfl] at HC
            have HB := Lib.hid hbel
            clear hbf hbel e
            have t1 : decide ((i : Int) < (n : Int)) = false := by simp; omega
            have t2 : decide (i < n) = false := by simpa using hlt
            go_wp2
            go_ret
            exact ⟨by rw [HC.out]; rfl, HB.out⟩
end Go.Proofs.Ytfcmjjmlijidcaa
