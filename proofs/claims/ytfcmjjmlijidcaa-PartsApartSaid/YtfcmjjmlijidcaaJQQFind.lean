/- Where a number stands in a rising list, as Go's own search by halves finds it; no condition but that the list rises and can be read. -/
import Derived.Test.YtfcmjjmlijidcaaJQRN3
import Derived.Test.YtfcmjjmlijidcaaJQQPure
import Derived.Deep.LoopGhost
import Derived.Deep.Draws
namespace Go.Proofs.Ytfcmjjmlijidcaa
set_option maxRecDepth 100000
set_option linter.unusedVariables false
open Go.RowKit Go.Shelf

set_option maxHeartbeats 400000 in
theorem cnan_any (x : Int) (w : World) : Calls Try.prog 122 #[.int .i64 x] w fun e w' => e = .returned (.bool false) ∧ w = w' := by
  have t1 : (x != x) = false := by simp
  go_enter Try.func122, Try.ntmps122
  go_wp2
  go_ret
  exact ⟨by simp, rfl⟩
set_option maxHeartbeats 400000 in
theorem snan_any (x : Int) (w : World) : Calls Try.prog 109 #[.int .i64 x] w fun e w' => e = .returned (.bool false) ∧ w = w' := by
  have t1 : (x != x) = false := by simp
  go_enter Try.func109, Try.ntmps109
  go_wp2
  go_ret
  exact ⟨by simp, rfl⟩
set_option maxHeartbeats 400000 in
theorem less_any (x y : Int) (w : World) : Calls Try.prog 108 #[.int .i64 x, .int .i64 y] w fun e w' => e = .returned (.bool (decide (x < y))) ∧ w = w' := by
  go_enter Try.func108, Try.ntmps108
  go_wp2_with (go_at_call 122; refine (cnan_any _ _).mono ?_; rintro e w' ⟨rfl, rfl⟩)
  go_ret
  exact ⟨rfl, rfl⟩

theorem lt_get (l : List Nat) (hp : l.Pairwise (· < ·)) (i j : Nat) (h : i < j) (hj : j < l.length) : l[i]?.getD 0 < l[j]?.getD 0 := by
  rw [List.getElem?_eq_getElem hj, List.getElem?_eq_getElem (by omega)]
  exact List.pairwise_iff_getElem.1 hp i j (by omega) hj h
/-- At each round's head: all ahead are less, none behind is. -/
def BsRel (l : List Nat) (x : Int) (w : World) (p q : Value) (wr : World) : Prop :=
  ∃ lo hi : Nat, p = .int .i64 (lo : Int) ∧ q = .int .i64 (hi : Int) ∧ lo ≤ hi ∧ hi ≤ l.length ∧ Below w.heap.size w wr ∧ (∀ t, t < lo → ((l[t]?.getD 0 : Nat) : Int) < x) ∧ (∀ t, hi ≤ t → t < l.length → x ≤ ((l[t]?.getD 0 : Nat) : Int))
set_option maxHeartbeats 4000000 in
theorem find_any (l : List Nat) (hp : l.Pairwise (· < ·)) (hle : ∀ y ∈ l, y ≤ 1048576) (n : Nat) (hn : l.length = n) (hn2 : n ≤ 1000000) (x : Int) (A : Option Addr) (c : Nat) (w : World) (h : RdV w w.heap.size A (zc (ns l))) :
    Calls Try.prog 89 #[.slice A n c, .int .i64 x] w fun e w' => (∃ i : Int, e = .returned (.tuple #[.int .i64 i, .bool (decide (x ∈ ns l))])) ∧ Below w.heap.size w w' := by
  have HX := Lib.hid h; have HN := Lib.hid hn; have HP := Lib.hid (lt_get l hp)
  have HLe := Lib.hid hle
  clear h hn hp hle
  go_enter Try.func89, Try.ntmps89
  go_wp2
  go_loopw [7, 8] (fun p q wr => BsRel l x w p q wr) (fun p q _ => (intOf q).toNat - (intOf p).toNat)
  case atStart => exact ⟨0, n, rfl, rfl, Nat.zero_le _, by rw [HN.out]; exact Nat.le_refl _, Below.refl _ _, fun t h => absurd h (Nat.not_lt_zero _), fun t h1 h2 => by rw [HN.out] at h2; omega⟩
  case round =>
    obtain ⟨lo, hi, rfl, rfl, hlh, hin, hbel, hlo, hhi⟩ := hrel
    rw [HN.out] at hin
    by_cases hlt : lo < hi
    · have hm : (lo + hi) / 2 < l.length := by rw [HN.out]; omega
      obtain ⟨b, off, rfl, hb, hc1⟩ := (HX.out.on hbel).at_ (ns_get l ((lo + hi) / 2) hm)
      have hy := HLe.out _ (at_mem l _ hm)
      have HI := Lib.hid (And.intro hlo hhi); have HB := Lib.hid hbel
      clear hlo hhi hbel
      by_cases hyx : ((l[(lo + hi) / 2]?.getD 0 : Nat) : Int) < x
      · have HS : Hid (∀ t, t < (lo + hi) / 2 + 1 → ((l[t]?.getD 0 : Nat) : Int) < x) := fun t ht => by
          by_cases e : t = (lo + hi) / 2
          · rw [e]; exact hyx
          · have := HP.out t ((lo + hi) / 2) (by omega) hm; omega
        generalize l[(lo + hi) / 2]?.getD 0 = y at *
        go_wp2_with (go_at_call 108; refine (less_any _ _ _).mono ?_; rintro e w' ⟨rfl, rfl⟩)
        go_roundw
        case rel => exact ⟨(lo + hi) / 2 + 1, hi, by rw [show ((lo : Int) + (hi : Int)) / 2 + 1 = (((lo + hi) / 2 + 1 : Nat) : Int) by omega], rfl, by omega, by rw [HN.out]; exact hin, by first | exact HB.out | exact HB.out.drew | exact below_drewN HB.out _, HS.out, HI.out.2⟩
        case measure => simp [intOf]; omega
      · have HS : Hid (∀ t, (lo + hi) / 2 ≤ t → t < l.length → x ≤ ((l[t]?.getD 0 : Nat) : Int)) := fun t ht htn => by
          by_cases e : t = (lo + hi) / 2
          · rw [e]; omega
          · have := HP.out ((lo + hi) / 2) t (by omega) htn; omega
        generalize l[(lo + hi) / 2]?.getD 0 = y at *
        go_wp2_with (go_at_call 108; refine (less_any _ _ _).mono ?_; rintro e w' ⟨rfl, rfl⟩)
        go_roundw
        case rel => exact ⟨lo, (lo + hi) / 2, rfl, by rw [show ((lo : Int) + (hi : Int)) / 2 = (((lo + hi) / 2 : Nat) : Int) by omega], by omega, by rw [HN.out]; omega, by first | exact HB.out | exact HB.out.drew | exact below_drewN HB.out _, HI.out.1, HS.out⟩
        case measure => simp [intOf]; omega
    · obtain rfl : hi = lo := by omega
      by_cases hl : hi < n
      · have hm : hi < l.length := by rw [HN.out]; exact hl
        obtain ⟨b, off, rfl, hb, hc1⟩ := (HX.out.on hbel).at_ (ns_get l hi hm)
        have hmem := at_mem l hi hm
        have hy := HLe.out _ hmem
        have HB := Lib.hid hbel
        have HA := Lib.hid hlo
        have HC := Lib.hid hhi
        clear hlo hhi hbel
        by_cases hyx : ((l[hi]?.getD 0 : Nat) : Int) = x
        · have HR : Hid (decide (x ∈ ns l) = true) := by
            show _ = _
            rw [decide_eq_true_eq, ← hyx]
            exact List.mem_map.2 ⟨_, hmem, rfl⟩
          generalize l[hi]?.getD 0 = y at *
          have te : ((y : Int) == x) = true := by simpa using hyx
          clear hmem
          go_wp2_with (go_at_call 109; refine (snan_any _ _).mono ?_; rintro e w' ⟨rfl, rfl⟩)
          go_ret2
          exact ⟨⟨_, by rw [HR.out]; first | rfl | simp [*]⟩, by first | exact HB.out | exact HB.out.drew | exact below_drewN HB.out _⟩
        · have HR : Hid (decide (x ∈ ns l) = false) := by
            show _ = _
            rw [decide_eq_false_iff_not]
            intro hx
            obtain ⟨z, hz, rfl⟩ := List.mem_map.1 hx
            obtain ⟨i, hi2, rfl⟩ := List.getElem_of_mem hz
            have e : l[i]?.getD 0 = l[i] := by rw [List.getElem?_eq_getElem hi2]; rfl
            by_cases h1 : i < hi
            · have := HA.out i h1; rw [e] at this; omega
            · have := HC.out hi (Nat.le_refl _) hm
              by_cases h2 : i = hi
              · subst h2; rw [e] at hyx; exact hyx rfl
              · have := HP.out hi i (by omega) hi2; rw [e] at this; omega
          generalize l[hi]?.getD 0 = y at *
          have te : ((y : Int) == x) = false := by simpa using hyx
          clear hmem
          go_wp2_with (go_at_call 109; refine (snan_any _ _).mono ?_; rintro e w' ⟨rfl, rfl⟩)
          go_ret2
          exact ⟨⟨_, by rw [HR.out]; first | rfl | simp [*]⟩, by first | exact HB.out | exact HB.out.drew | exact below_drewN HB.out _⟩
      · have HB := Lib.hid hbel
        have HR : Hid (decide (x ∈ ns l) = false) := by
          show _ = _
          rw [decide_eq_false_iff_not]
          intro hx
          obtain ⟨z, hz, rfl⟩ := List.mem_map.1 hx
          obtain ⟨i, hi2, rfl⟩ := List.getElem_of_mem hz
          have e : l[i]?.getD 0 = l[i] := by rw [List.getElem?_eq_getElem hi2]; rfl
          have := hlo i (by rw [HN.out] at hi2; omega)
          rw [e] at this; omega
        clear hlo hhi hbel
        go_wp2_with (go_at_call 109; refine (snan_any _ _).mono ?_; rintro e w' ⟨rfl, rfl⟩)
        go_ret2
        exact ⟨⟨_, by rw [HR.out]; first | rfl | simp [*]⟩, by first | exact HB.out | exact HB.out.drew | exact below_drewN HB.out _⟩
set_option maxHeartbeats 400000 in
/-- The program's own question. -/
theorem pcont_any (l : List Nat) (hp : l.Pairwise (· < ·)) (hle : ∀ y ∈ l, y ≤ 1048576) (n : Nat) (hn : l.length = n) (hn2 : n ≤ 1000000) (x : Nat) (A : Option Addr) (c : Nat) (w : World) (h : RdV w w.heap.size A (zc (ns l))) :
    Calls Try.prog 52 #[.slice A n c, .int .i64 (x : Int)] w fun e w' => e = .returned (.bool (inL l x)) ∧ Below w.heap.size w w' := by
  have e : decide ((x : Int) ∈ ns l) = inL l x := by
    unfold inL; congr 1; apply propext
    constructor
    · intro h; obtain ⟨z, hz, e⟩ := List.mem_map.1 h
      have : z = x := by omega
      exact this ▸ hz
    · exact fun h => List.mem_map.2 ⟨x, h, rfl⟩
  have HF := Lib.hid (find_any l hp hle n hn hn2 (x : Int) A c w h)
  rw [e] at HF
  clear h hn
  go_enter Try.func52, Try.ntmps52
  go_wp2_with fail
  refine HF.out.mono ?_
  rintro e w' ⟨⟨i, rfl⟩, B1⟩
  have HB := Lib.hid B1; clear B1
  go_wp2
  go_ret
  exact ⟨rfl, HB.out⟩
end Go.Proofs.Ytfcmjjmlijidcaa
