/- Where a number stands in a rising list, as Go's own search by halves finds it; no condition but that the list rises and can be read. -/
import Derived.Test.YtcffndfbkbchjaaGreatJ8
import Derived.Test.YtcffndfbkbchjaaGreatJ6
import Derived.Deep.LoopGhost
import Derived.Deep.Draws
import Derived.Deep.RegionHeld3
import Derived.Lib.AppendZerosOnto
import Derived.Laws.AppendOwnNone
namespace Go.Proofs.YtcffndfbkbchjaaGreat

section
set_option maxRecDepth 100000
set_option linter.unusedVariables false
open Go.RowKit Go.Shelf

set_option maxHeartbeats 400000 in
theorem cnan_any (x : Int) (w : World) : Calls Tryz.prog 103 #[.int .i64 x] w fun e w' => e = .returned (.bool false) ∧ w = w' := by
  have t1 : (x != x) = false := by simp
  go_enter Tryz.func103, Tryz.ntmps103
  go_wp2
  go_ret
  exact ⟨by simp, rfl⟩
set_option maxHeartbeats 400000 in
theorem snan_any (x : Int) (w : World) : Calls Tryz.prog 228 #[.int .i64 x] w fun e w' => e = .returned (.bool false) ∧ w = w' := by
  have t1 : (x != x) = false := by simp
  go_enter Tryz.func228, Tryz.ntmps228
  go_wp2
  go_ret
  exact ⟨by simp, rfl⟩
set_option maxHeartbeats 400000 in
theorem less_any (x y : Int) (w : World) : Calls Tryz.prog 227 #[.int .i64 x, .int .i64 y] w fun e w' => e = .returned (.bool (decide (x < y))) ∧ w = w' := by
  go_enter Tryz.func227, Tryz.ntmps227
  go_wp2_with (go_at_call 103; refine (cnan_any _ _).mono ?_; rintro e w' ⟨rfl, rfl⟩)
  go_ret
  exact ⟨rfl, rfl⟩

theorem lt_get (l : List Nat) (hp : l.Pairwise (· < ·)) (i j : Nat) (h : i < j) (hj : j < l.length) : l[i]?.getD 0 < l[j]?.getD 0 := by
  rw [List.getElem?_eq_getElem hj, List.getElem?_eq_getElem (by omega)]
  exact List.pairwise_iff_getElem.1 hp i j (by omega) hj h
/-- At each round's head: all ahead are less, none behind is. -/
def BsRel (l : List Nat) (x : Int) (w : World) (p q : Value) (wr : World) : Prop :=
  ∃ lo hi : Nat, p = .int .i64 (lo : Int) ∧ q = .int .i64 (hi : Int) ∧ lo ≤ hi ∧ hi ≤ l.length ∧ Below w.heap.size w wr ∧ (∀ t, t < lo → ((l[t]?.getD 0 : Nat) : Int) < x) ∧ (∀ t, hi ≤ t → t < l.length → x ≤ ((l[t]?.getD 0 : Nat) : Int))
set_option maxHeartbeats 4000000 in
theorem find_any (l : List Nat) (hp : l.Pairwise (· < ·)) (hle : ∀ y ∈ l, y ≤ 1048576) (n : Nat) (hn : l.length = n) (hn2 : n ≤ 1000000) (x : Int) (A : Option Addr) (c : Nat) (w : World) (h : RdV w w.heap.size A (zc (ns l))) :
    Calls Tryz.prog 210 #[.slice A n c, .int .i64 x] w fun e w' => (∃ i : Int, e = .returned (.tuple #[.int .i64 i, .bool (decide (x ∈ ns l))])) ∧ Below w.heap.size w w' := by
  have HX := Lib.hid h; have HN := Lib.hid hn; have HP := Lib.hid (lt_get l hp)
  have HLe := Lib.hid hle
  clear h hn hp hle
  go_enter Tryz.func210, Tryz.ntmps210
  go_wp2
  go_loopw [7, 8] (fun p q wr => BsRel l x w p q wr) (fun p q _ => (intOf q).toNat - (intOf p).toNat)
  case atStart => exact ⟨0, n, rfl, rfl, Nat.zero_le _, by rw [HN.out]; exact Nat.le_refl _, Below.refl _ _, fun t h => absurd h (Nat.not_lt_zero _), fun t h1 h2 => by rw [HN.out] at h2; omega⟩
  case round =>
    obtain ⟨lo, hi, rfl, rfl, hlh, hin, hbel, hlo, hhi⟩ := hrel
    rw [HN.out] at hin
    by_cases hlt : lo < hi
    · have hm : (lo + hi) / 2 < l.length := by rw [HN.out]; omega
      obtain ⟨b, off, rfl, hb, hc1⟩ := (HX.out.on hbel).at_ (ns_get l ((lo + hi) / 2) hm)
      have hy := HLe.out _ (at_mem l _ hm)
      have HI := Lib.hid (And.intro hlo hhi); have HB := Lib.hid hbel
      clear hlo hhi hbel
      by_cases hyx : ((l[(lo + hi) / 2]?.getD 0 : Nat) : Int) < x
      · have HS : Hid (∀ t, t < (lo + hi) / 2 + 1 → ((l[t]?.getD 0 : Nat) : Int) < x) := fun t ht => by
          by_cases e : t = (lo + hi) / 2
          · rw [e]; exact hyx
          · have := HP.out t ((lo + hi) / 2) (by omega) hm; omega
        generalize l[(lo + hi) / 2]?.getD 0 = y at *
        go_wp2_with (go_at_call 227; refine (less_any _ _ _).mono ?_; rintro e w' ⟨rfl, rfl⟩)
        go_roundw
        case rel => exact ⟨(lo + hi) / 2 + 1, hi, by rw [show ((lo : Int) + (hi : Int)) / 2 + 1 = (((lo + hi) / 2 + 1 : Nat) : Int) by omega], rfl, by omega, by rw [HN.out]; exact hin, by first | exact HB.out | exact HB.out.drew | exact below_drewN HB.out _, HS.out, HI.out.2⟩
        case measure => simp [intOf]; omega
      · have HS : Hid (∀ t, (lo + hi) / 2 ≤ t → t < l.length → x ≤ ((l[t]?.getD 0 : Nat) : Int)) := fun t ht htn => by
          by_cases e : t = (lo + hi) / 2
          · rw [e]; omega
          · have := HP.out ((lo + hi) / 2) t (by omega) htn; omega
        generalize l[(lo + hi) / 2]?.getD 0 = y at *
        go_wp2_with (go_at_call 227; refine (less_any _ _ _).mono ?_; rintro e w' ⟨rfl, rfl⟩)
        go_roundw
        case rel => exact ⟨lo, (lo + hi) / 2, rfl, by rw [show ((lo : Int) + (hi : Int)) / 2 = (((lo + hi) / 2 : Nat) : Int) by omega], by omega, by rw [HN.out]; omega, by first | exact HB.out | exact HB.out.drew | exact below_drewN HB.out _, HI.out.1, HS.out⟩
        case measure => simp [intOf]; omega
    · obtain rfl : hi = lo := by omega
      by_cases hl : hi < n
      · have hm : hi < l.length := by rw [HN.out]; exact hl
        obtain ⟨b, off, rfl, hb, hc1⟩ := (HX.out.on hbel).at_ (ns_get l hi hm)
        have hmem := at_mem l hi hm
        have hy := HLe.out _ hmem
        have HB := Lib.hid hbel
        have HA := Lib.hid hlo
        have HC := Lib.hid hhi
        clear hlo hhi hbel
        by_cases hyx : ((l[hi]?.getD 0 : Nat) : Int) = x
        · have HR : Hid (decide (x ∈ ns l) = true) := by
            show _ = _
            rw [decide_eq_true_eq, ← hyx]
            exact List.mem_map.2 ⟨_, hmem, rfl⟩
          generalize l[hi]?.getD 0 = y at *
          have te : ((y : Int) == x) = true := by simpa using hyx
          clear hmem
          go_wp2_with (go_at_call 228; refine (snan_any _ _).mono ?_; rintro e w' ⟨rfl, rfl⟩)
          go_ret2
          exact ⟨⟨_, by rw [HR.out]; first | rfl | simp [*]⟩, by first | exact HB.out | exact HB.out.drew | exact below_drewN HB.out _⟩
        · have HR : Hid (decide (x ∈ ns l) = false) := by
            show _ = _
            rw [decide_eq_false_iff_not]
            intro hx
            obtain ⟨z, hz, rfl⟩ := List.mem_map.1 hx
            obtain ⟨i, hi2, rfl⟩ := List.getElem_of_mem hz
            have e : l[i]?.getD 0 = l[i] := by rw [List.getElem?_eq_getElem hi2]; rfl
            by_cases h1 : i < hi
            · have := HA.out i h1; rw [e] at this; omega
            · have := HC.out hi (Nat.le_refl _) hm
              by_cases h2 : i = hi
              · subst h2; rw [e] at hyx; exact hyx rfl
              · have := HP.out hi i (by omega) hi2; rw [e] at this; omega
          generalize l[hi]?.getD 0 = y at *
          have te : ((y : Int) == x) = false := by simpa using hyx
          clear hmem
          go_wp2_with (go_at_call 228; refine (snan_any _ _).mono ?_; rintro e w' ⟨rfl, rfl⟩)
          go_ret2
          exact ⟨⟨_, by rw [HR.out]; first | rfl | simp [*]⟩, by first | exact HB.out | exact HB.out.drew | exact below_drewN HB.out _⟩
      · have HB := Lib.hid hbel
        have HR : Hid (decide (x ∈ ns l) = false) := by
          show _ = _
          rw [decide_eq_false_iff_not]
          intro hx
          obtain ⟨z, hz, rfl⟩ := List.mem_map.1 hx
          obtain ⟨i, hi2, rfl⟩ := List.getElem_of_mem hz
          have e : l[i]?.getD 0 = l[i] := by rw [List.getElem?_eq_getElem hi2]; rfl
          have := hlo i (by rw [HN.out] at hi2; omega)
          rw [e] at this; omega
        clear hlo hhi hbel
        go_wp2_with (go_at_call 228; refine (snan_any _ _).mono ?_; rintro e w' ⟨rfl, rfl⟩)
        go_ret2
        exact ⟨⟨_, by rw [HR.out]; first | rfl | simp [*]⟩, by first | exact HB.out | exact HB.out.drew | exact below_drewN HB.out _⟩
set_option maxHeartbeats 400000 in
/-- The program's own question. -/
theorem pcont_any (l : List Nat) (hp : l.Pairwise (· < ·)) (hle : ∀ y ∈ l, y ≤ 1048576) (n : Nat) (hn : l.length = n) (hn2 : n ≤ 1000000) (x : Nat) (A : Option Addr) (c : Nat) (w : World) (h : RdV w w.heap.size A (zc (ns l))) :
    Calls Tryz.prog 180 #[.slice A n c, .int .i64 (x : Int)] w fun e w' => e = .returned (.bool (inL l x)) ∧ Below w.heap.size w w' := by
  have e : decide ((x : Int) ∈ ns l) = inL l x := by
    unfold inL; congr 1; apply propext
    constructor
    · intro h; obtain ⟨z, hz, e⟩ := List.mem_map.1 h
      have : z = x := by omega
      exact this ▸ hz
    · exact fun h => List.mem_map.2 ⟨x, h, rfl⟩
  have HF := Lib.hid (find_any l hp hle n hn hn2 (x : Int) A c w h)
  rw [e] at HF
  clear h hn
  go_enter Tryz.func180, Tryz.ntmps180
  go_wp2_with fail
  refine HF.out.mono ?_
  rintro e w' ⟨⟨i, rfl⟩, B1⟩
  have HB := Lib.hid B1; clear B1
  go_wp2
  go_ret
  exact ⟨rfl, HB.out⟩
end

section
set_option maxRecDepth 100000
set_option linter.unusedVariables false
open Go.RowKit Go.Shelf

set_option maxHeartbeats 400000 in
theorem copies_any (k : Nat) (hk : k ≤ 1000000) (w : World) : Calls Tryz.prog 162 #[.int .i64 (k : Int)] w fun e w' => e = .returned (.bool (decide (k % 2 = 0))) ∧ w = w' := by
  have h1 : IntKind.i64.wrap ((k : Int) % 2) = (k : Int) % 2 := IntWalk.i64_in _ (by omega)
  have h2 : ((k : Int) % 2 == 0) = decide (k % 2 = 0) := by
    by_cases h : k % 2 = 0
    · rw [decide_eq_true h]; simp; omega
    · rw [decide_eq_false h]; simp; omega
  have h3 : (k : Int).tmod 2 = (k : Int) % 2 := Int.tmod_eq_emod_of_nonneg (by omega)
  go_enter Tryz.func162, Tryz.ntmps162
  go_wp2
  go_ret
  exact ⟨by first | rfl | simp [h2] | simp [h3] | simp [h2, h3], rfl⟩

theorem bbad_step (f : Bool) (bs : List Int) (i : Nat) (h : i < bs.length) : bbad f (bs.drop i) = (decide (bs[i]?.getD 0 < 0 ∨ bs[i]?.getD 0 = 0 ∧ f = false) || bbad false (bs.drop (i + 1))) := by
  rw [drop_at bs i h]; rfl
theorem bfit_step (m : Int) (bs : List Int) (i : Nat) (h : i < bs.length) : bfit m (bs.drop i) = (decide (bs[i]?.getD 0 ≤ m) && bfit (m - bs[i]?.getD 0) (bs.drop (i + 1))) := by
  rw [drop_at bs i h]; rfl
/-- At each round's head: no block so far may not stand. -/
def BbRel (bs : List Int) (w : World) (p : Value) (wr : World) : Prop :=
  ∃ i : Nat, i ≤ bs.length ∧ p = .int .i64 (i : Int) ∧ bbad true bs = bbad (decide (i = 0)) (bs.drop i) ∧ (∀ j, j < i → 0 ≤ bs[j]?.getD 0) ∧ Below w.heap.size w wr
/-- At each round's head: so much is left. -/
def BfRel (bs : List Int) (m : Nat) (w : World) (s p : Value) (wr : World) : Prop :=
  ∃ (i k : Nat), i ≤ bs.length ∧ p = .int .i64 (i : Int) ∧ s = .int .i64 (k : Int) ∧ k ≤ m ∧ bfit m bs = bfit k (bs.drop i) ∧ Below w.heap.size w wr
theorem bbad_all (bs : List Int) (f : Bool) (h : bbad f bs = false) : ∀ j, j < bs.length → 0 ≤ bs[j]?.getD 0 := by
  obtain ⟨B, rfl, _⟩ := bbad_false bs f h
  intro j hj
  rw [ns_length] at hj
  rw [show (ns B)[j]?.getD 0 = ((B[j]?.getD 0 : Nat) : Int) from by simp [ns, List.getElem?_map, List.getElem?_eq_getElem hj]]
  omega
set_option maxHeartbeats 4000000 in
theorem cblk_any (bs : List Int) (n : Nat) (hn : bs.length = n) (hn2 : n ≤ 9223372036854775807) (m : Nat) (hm : m ≤ 1000000) (A : Option Addr) (c : Nat) (w : World) (h : RdV w w.heap.size A (zc bs)) :
    Calls Tryz.prog 161 #[.slice A n c, .int .i64 (m : Int)] w fun e w' => e = .returned (.int .i64 (bchk bs m)) ∧ Below w.heap.size w w' := by
  have a1 : IntKind.i64.wrap ((m : Int) + 1) = (m : Int) + 1 := IntWalk.i64_in _ (by omega)
  have HC : Hid (bchk bs m = if m + 1 < bs.length then 2 else if bbad true bs = true then 3 else if bfit m bs = true then 0 else 8) := rfl
  have HX := Lib.hid h; have HN := Lib.hid hn
  clear h hn
  rw [HN.out] at HC
  generalize bchk bs m = r at *
  by_cases h0 : m + 1 < n
  · rw [if_pos h0] at HC
    have t1 : decide ((n : Int) > (m : Int) + 1) = true := by simp; omega
    have t2 : decide ((m : Int) + 1 < (n : Int)) = true := by simp; omega
    have t3 : decide (m + 1 < n) = true := by simpa using h0
    have t4 : (m : Int) + 1 < (n : Int) := by omega
    go_enter Tryz.func161, Tryz.ntmps161
    go_wp2
    go_ret
    exact ⟨by rw [HC.out]; rfl, Below.refl _ _⟩
  · rw [if_neg h0] at HC
    have t1 : decide ((n : Int) > (m : Int) + 1) = false := by simp; omega
    have t2 : decide ((m : Int) + 1 < (n : Int)) = false := by simp; omega
    have t3 : decide (m + 1 < n) = false := by simpa using h0
    have t4 : ¬ (m : Int) + 1 < (n : Int) := by omega
    go_enter Tryz.func161, Tryz.ntmps161
    go_wp2
    go_loopw [16] (fun p wr => BbRel bs w p wr) (fun p _ => n - (intOf p).toNat)
    case atStart => exact ⟨0, Nat.zero_le _, rfl, rfl, fun j h => absurd h (Nat.not_lt_zero _), Below.refl _ _⟩
    case round =>
      obtain ⟨i, hi, rfl, hbb, hall, hbel⟩ := hrel
      rw [HN.out] at hi
      clear t1 t2 t3 t4 h0
      by_cases hlt : i < n
      · have hin : i < bs.length := by rw [HN.out]; exact hlt
        have hg : (zc bs)[i]? = some (.int .i64 (bs[i]?.getD 0)) := zc_get bs i hin
        obtain ⟨b, off, rfl, hb, hc1⟩ := (HX.out.on hbel).at_ hg
        have hst := bbad_step (decide (i = 0)) bs i hin
        have HB := Lib.hid hbel
        clear hbel hg
        have t1 : decide ((i : Int) < (n : Int)) = true := by simp; omega
        have t2 : decide (i < n) = true := by simpa using hlt
        have t3 : (0 : Int) ≤ (i : Int) := by omega
        have t4 : (i : Int) < (n : Int) := by omega
        generalize hx : bs[i]?.getD 0 = x at *
        by_cases hneg : x < 0
        · have HR : Hid (bbad true bs = true) := by
            show _ = _
            rw [hbb, hst, decide_eq_true (.inl hneg), Bool.true_or]
          rw [HR.out, if_pos rfl] at HC
          have q1 : decide (x < 0) = true := by simpa using hneg
          clear hbb hst hx hall
          go_wp2
          go_ret
          exact ⟨by rw [HC.out]; rfl, HB.out⟩
        · have q1 : decide (x < 0) = false := by simpa using hneg
          by_cases hz : x = 0
          · have q2 : (x == 0) = true := by simpa using hz
            by_cases h0 : i = 0
            · have q3 : decide ((i : Int) > 0) = false := by simp; omega
              have q4 : decide ((0 : Int) < (i : Int)) = false := by simp; omega
              have q5 : decide (0 < i) = false := by simp; omega
              have HS : Hid (bbad true bs = bbad (decide (i + 1 = 0)) (bs.drop (i + 1))) := by
                show _ = _
                rw [hbb, hst, h0]; simp [hz]
              have HA : Hid (∀ j, j < i + 1 → 0 ≤ bs[j]?.getD 0) := fun j hj => by
                by_cases e : j = i
                · rw [e, hx]; omega
                · exact hall j (by omega)
              clear hbb hst hx hall h0 hz
              go_wp2
              go_roundw
              case rel => exact ⟨i + 1, by rw [HN.out]; omega, by go_num, HS.out, HA.out, HB.out⟩
              case measure => simp [intOf]; omega
            · have HR : Hid (bbad true bs = true) := by
                show _ = _
                rw [hbb, hst, decide_eq_true (.inr ⟨hz, by simpa using h0⟩), Bool.true_or]
              rw [HR.out, if_pos rfl] at HC
              have q3 : decide ((i : Int) > 0) = true := by simp; omega
              have q4 : decide ((0 : Int) < (i : Int)) = true := by simp; omega
              have q5 : decide (0 < i) = true := by simp; omega
              clear hbb hst hx hall h0 hz
              go_wp2
              go_ret
              exact ⟨by rw [HC.out]; rfl, HB.out⟩
          · have q2 : (x == 0) = false := by simpa using hz
            have HS : Hid (bbad true bs = bbad (decide (i + 1 = 0)) (bs.drop (i + 1))) := by
              show _ = _
              rw [hbb, hst, decide_eq_false (by rintro (h | ⟨h, _⟩); exact hneg h; exact hz h)]; simp
            have HA : Hid (∀ j, j < i + 1 → 0 ≤ bs[j]?.getD 0) := fun j hj => by
              by_cases e : j = i
              · rw [e, hx]; omega
              · exact hall j (by omega)
            clear hbb hst hx hall hz
            go_wp2
            go_roundw
            case rel => exact ⟨i + 1, by rw [HN.out]; omega, by go_num, HS.out, HA.out, HB.out⟩
            case measure => simp [intOf]; omega
      · have e : i = bs.length := by rw [HN.out]; omega
        have HF : Hid (bbad true bs = false) := by
          show _ = _
          rw [hbb, e, List.drop_length]; rfl
        rw [HF.out, if_neg (by decide)] at HC
        have HB := Lib.hid hbel
        have hge := bbad_all bs true HF.out
        have HGe := Lib.hid hge
        clear hbb hall hbel e hge
        have t1 : decide ((i : Int) < (n : Int)) = false := by simp; omega
        have t2 : decide (i < n) = false := by simpa using hlt
        go_wp2
        go_loopw [1, 34] (fun s p wr => BfRel bs m w s p wr) (fun s p _ => n - (intOf p).toNat)
        case atStart => exact ⟨0, m, Nat.zero_le _, rfl, rfl, Nat.le_refl _, rfl, HB.out⟩
        case round =>
          obtain ⟨i, k, hi, rfl, rfl, hkm, hbf, hbel⟩ := hrel
          rw [HN.out] at hi
          clear t1 t2 hlt
          by_cases hlt : i < n
          · have hin : i < bs.length := by rw [HN.out]; exact hlt
            have hg : (zc bs)[i]? = some (.int .i64 (bs[i]?.getD 0)) := zc_get bs i hin
            obtain ⟨b, off, rfl, hb, hc1⟩ := (HX.out.on hbel).at_ hg
            have hst := bfit_step k bs i hin
            have hx0 := HGe.out i hin
            have HB := Lib.hid hbel
            clear hbel hg
            have t1 : decide ((i : Int) < (n : Int)) = true := by simp; omega
            have t2 : decide (i < n) = true := by simpa using hlt
            have t3 : (0 : Int) ≤ (i : Int) := by omega
            have t4 : (i : Int) < (n : Int) := by omega
            generalize hx : bs[i]?.getD 0 = x at *
            by_cases hgt : x > (k : Int)
            · have HR : Hid (bfit m bs = false) := by
                show _ = _
                rw [hbf, hst, decide_eq_false (by omega), Bool.false_and]
              rw [HR.out, if_neg (by decide)] at HC
              have q1 : decide (x > (k : Int)) = true := by simpa using hgt
              have q2 : decide ((k : Int) < x) = true := by simpa using hgt
              clear hbf hst hx
              go_wp2
              go_ret
              exact ⟨by rw [HC.out]; rfl, HB.out⟩
            · have q1 : decide (x > (k : Int)) = false := by simp; omega
              have q2 : decide ((k : Int) < x) = false := by simp; omega
              have q3 : IntKind.i64.wrap ((k : Int) - x) = (k : Int) - x := IntWalk.i64_in _ (by omega)
              have q5 : ¬ (k : Int) < x := by omega
              have HS : Hid (bfit m bs = bfit ((k - x.toNat : Nat) : Int) (bs.drop (i + 1))) := by
                show _ = _
                rw [hbf, hst, decide_eq_true (by omega), Bool.true_and]
                congr 1; omega
              clear hbf hst hx
              go_wp2
              go_roundw
              case rel => exact ⟨i + 1, k - x.toNat, by rw [HN.out]; omega, by go_num, by rw [show ((k - x.toNat : Nat) : Int) = (k : Int) - x by omega], by omega, HS.out, HB.out⟩
              case measure => simp [intOf]; omega
          · have e : i = bs.length := by rw [HN.out]; omega
            have HF : Hid (bfit m bs = true) := by
              show _ = _
              rw [hbf, e, List.drop_length]; rfl
            rw [HF.out, if_pos rfl] at HC
            have HB := Lib.hid hbel
            clear hbf hbel e
            have t1 : decide ((i : Int) < (n : Int)) = false := by simp; omega
            have t2 : decide (i < n) = false := by simpa using hlt
            go_wp2
            go_ret
            exact ⟨by rw [HC.out]; rfl, HB.out⟩
end

section
set_option maxRecDepth 100000
set_option linter.unusedVariables false
open Go.RowKit Go.Shelf Go.Lib

set_option maxHeartbeats 4000000 in
theorem grow_nil (n : Nat) (hn : n ≤ 1000000) (w : World) :
    Calls Tryz.prog 138 #[.slice none 0 0, .int .i64 (n : Int)] w fun e w' => ∃ A c, e = .returned (.slice A 0 c) ∧ w'.ownsRow w.heap.size 3 1 (.slice A 0 c) 0 [] ∧ Below w.heap.size w w' := by
  obtain ⟨i0, hi, hz0, hz1, hz2⟩ := info_parts info3
  have h1 : decide ((n : Int) < 0) = false := by simp
  have h3 : IntKind.i64.wrap ((n : Int) - 0) = (n : Int) := by rw [Int.sub_zero]; exact IntWalk.i64_in _ (by omega)
  by_cases h0 : n = 0
  · subst h0
    go_enter Tryz.func138, Tryz.ntmps138
    go_wp2
    go_ret
    exact ⟨none, 0, rfl, ⟨rfl, .inl ⟨rfl, rfl⟩⟩, Below.refl _ _⟩
  · have h4 : decide (0 < (n : Int)) = true := by simp; omega
    have h5 : decide ((n : Int) > 0) = true := by simp; omega
    have h6 : (0 : Int) < (n : Int) := by omega
    have h7 : ¬ ((n : Int) < 0) := by omega
    have hold : (Builtin.firstCells i0.size 0 (.slice none 0 0)).run Tryz.prog w.drew = .ok ([] : List Value).toArray w.drew := run_firstCells_none w.drew i0.size 0 0 0
    have hrz : ∀ ty, (Builtin.append_ #[22, 3] ty #[.slice none 0 0, .int .i64 (n : Int)]).run Tryz.prog w =
        .ok (.slice (some ⟨w.heap.size, 0, none⟩) n (grownCap w n 0 3)) (w.drew.alloc (.cells ((([] : List Value).toArray ++ Builtin.zeroCells (Value.int .i64 0).cells n) ++ Builtin.zeroCells (Value.int .i64 0).cells (grownCap w n 0 3 - n)) 3)) := fun ty => by
      have h := Lib.run_append_grow_zeros w 22 3 ty 3 i0 (.int .i64 0) .i64 .i64 Tryz.underlying22 Tryz.underlying3 hi hz0 none 0 0 [] hold n (by omega) (by omega) (by omega) (by omega)
        (by rw [hz2]; omega) (by rw [Nat.zero_add]; exact growslice_fits (by omega) (by rw [hz2]; omega))
      rw [Nat.zero_add] at h
      exact h
    have hGn : n ≤ grownCap w n 0 3 := grownCap_ge w _ _ _
    have hGm : grownCap w n 0 3 ≤ maxLen := grownCap_le_maxLen w n 0 3 (by unfold maxLen; omega)
    obtain ⟨G, hG⟩ : ∃ G, G = grownCap w n 0 3 := ⟨_, rfl⟩
    rw [← hG] at hrz hGn hGm
    have hG63 : G ≤ 9223372036854775807 := by unfold maxLen at hGm; omega
    obtain ⟨cs, hcs⟩ : ∃ cs, cs = (([] : List Value).toArray ++ Builtin.zeroCells (Value.int .i64 0).cells n) ++ Builtin.zeroCells (Value.int .i64 0).cells (G - n) := ⟨_, rfl⟩
    have hsz : cs.size = G * 1 := by
      rw [hcs]; simp [Builtin.zeroCells, Value.cells]; omega
    rw [← hcs] at hrz
    have HO : Hid ((w.drew.alloc (.cells cs 3)).ownsRow w.heap.size 3 1 (.slice (some ⟨w.heap.size, 0, none⟩) 0 G) 0 [] ∧ Below w.heap.size w (w.drew.alloc (.cells cs 3))) :=
      ⟨⟨rfl, .inr ⟨w.heap.size, G, cs, rfl, Nat.le_refl _, World.alloc_heap_new w.drew (.cells cs 3), Nat.zero_le _, hGm, hsz, by simp⟩⟩, ((Below.refl w.heap.size w).drew).alloc (Nat.le_refl _) _⟩
    clear hold hG hcs hsz
    go_enter Tryz.func138, Tryz.ntmps138
    go_wp2_with (at_builtin; refine Lib.wpList_append_run _ rfl _ _ _ _ rfl _ _ rfl rfl _ _ (hrz _) ?_)
    all_goals (go_ret; exact ⟨_, _, rfl, HO.out.1, HO.out.2⟩)
theorem add_plU (b off k : Nat) : (⟨b, off, none⟩ : Addr).add k = ⟨b, off + k, none⟩ := by unfold Addr.add; split <;> simp_all
theorem rdv_newsU {w : World} {B : Nat} {a : Addr} {vs : List Value} (h : RdV w B (some a) vs) : ∀ j u, vs[j]? = some u → w.cell? (a.add j) = some u := by
  intro j u hu
  obtain ⟨b, off, e, hb, hc⟩ := h.at_ hu
  cases e
  rw [add_plU]; exact hc
theorem own_zero {w : World} {base n c : Nat} {e : TypeId} {xs : List Value} (h : w.ownsRow base e 1 (.slice none n c) n xs) : n = 0 := by
  rcases h.2 with ⟨h, h0⟩ | ⟨g, cap, cur, h, _⟩
  · exact h0
  · simp at h
theorem rdv_none_nil {w : World} {B : Nat} {l : List Nat} (h : RdV w B none (zc (ns l))) : l = [] := by
  rcases h with h | ⟨b, off, h, _⟩
  · cases l with
    | nil => rfl
    | cons x t => simp [zc, ns] at h
  · cases h
/-- At each round's head: so many are counted. -/
def SzRel (n1 n2 : Nat) (p s : Value) : Prop := (p = .int .i64 0 ∧ s = .int .i64 0) ∨ (p = .int .i64 1 ∧ s = .int .i64 (n1 : Int)) ∨ (p = .int .i64 2 ∧ s = .int .i64 ((n1 + n2 : Nat) : Int))
/-- At each round's head: so many lists are in the row. -/
def CtRel (l1 l2 : List Nat) (w : World) (v p : Value) (wr : World) : Prop :=
  ∃ (i : Nat) (l : List Nat), ((i = 0 ∧ l = []) ∨ (i = 1 ∧ l = l1) ∨ (i = 2 ∧ l = l1 ++ l2)) ∧ p = .int .i64 (i : Int) ∧ wr.ownsRow w.heap.size 3 1 v l.length (zc (ns l)) ∧ Below w.heap.size w wr
set_option maxHeartbeats 8000000 in
theorem concat_two (l1 l2 : List Nat) (n1 n2 : Nat) (hn1 : l1.length = n1) (hn2 : l2.length = n2) (h1 : n1 ≤ 100000) (h2 : n2 ≤ 100000) (A1 A2 : Option Addr) (c1 c2 : Nat) (hA1 : A1 = none → c1 = 0) (hA2 : A2 = none → c2 = 0) (S : Nat) (w : World)
    (hS : w.heap[S]? = some (.cells #[.slice A1 n1 c1, .slice A2 n2 c2] 22 (0, 0))) (r1 : RdV w w.heap.size A1 (zc (ns l1))) (r2 : RdV w w.heap.size A2 (zc (ns l2))) :
    Calls Tryz.prog 104 #[.slice (some ⟨S, 0, none⟩) 2 2] w fun e w' => ∃ A c, e = .returned (.slice A (n1 + n2) c) ∧ w'.ownsRow w.heap.size 3 1 (.slice A (n1 + n2) c) (n1 + n2) (zc (ns (l1 ++ l2))) ∧ Below w.heap.size w w' := by
  obtain ⟨i0, hi, hz0, hz1, hz2⟩ := info_parts info3
  have hSw : S < w.heap.size := (Array.getElem?_eq_some_iff.1 hS).1
  have HX1 := Lib.hid r1; have HX2 := Lib.hid r2; have HN1 := Lib.hid hn1; have HN2 := Lib.hid hn2
  have HG := Lib.hid (grow_nil (n1 + n2) (by omega))
  have k0 : w.cell? ⟨S, 0, none⟩ = some (.slice A1 n1 c1) := by rw [cell_at hS]; rfl
  have k1 : w.cell? ⟨S, 1, none⟩ = some (.slice A2 n2 c2) := by rw [cell_at hS]; rfl
  have HK : Hid (∀ V, Below w.heap.size w V → V.cell? ⟨S, 0, none⟩ = some (.slice A1 n1 c1) ∧ V.cell? ⟨S, 1, none⟩ = some (.slice A2 n2 c2)) := fun V hV => ⟨(hV.cell (p := ⟨S, 0, none⟩) hSw).trans k0, (hV.cell (p := ⟨S, 1, none⟩) hSw).trans k1⟩
  clear r1 r2 hn1 hn2 hS
  go_enter Tryz.func104, Tryz.ntmps104
  go_wp2
  go_loopw [3, 11] (fun s p wr => SzRel n1 n2 p s ∧ wr = w) (fun _ p _ => 2 - (intOf p).toNat)
  case atStart => exact ⟨.inl ⟨rfl, rfl⟩, rfl⟩
  case round =>
    obtain ⟨hsz, hw⟩ := hrel
    have hw2 := hw.symm
    subst hw2
    clear hw
    rcases hsz with ⟨rfl, rfl⟩ | ⟨rfl, rfl⟩ | ⟨rfl, rfl⟩
    · have t1 : IntKind.i64.wrap (0 + (n1 : Int)) = (n1 : Int) := by rw [Int.zero_add]; exact IntWalk.i64_in _ (by omega)
      have t2 : decide ((n1 : Int) < 0) = false := by simp
      go_wp2
      go_roundw
      case rel => exact ⟨.inr (.inl ⟨rfl, rfl⟩), by trivial⟩
      case measure => simp [intOf]
    · have t1 : IntKind.i64.wrap ((n1 : Int) + (n2 : Int)) = ((n1 + n2 : Nat) : Int) := by rw [← Int.natCast_add]; exact IntWalk.i64_in _ (by omega)
      have t2 : decide (((n1 + n2 : Nat) : Int) < 0) = false := by simp; omega
      go_wp2
      go_roundw
      case rel => exact ⟨.inr (.inr ⟨rfl, by go_num⟩), by trivial⟩
      case measure => simp [intOf]
    · clear k0 k1
      go_wp2_with fail
      refine (HG.out w).mono ?_
      rintro e w1 ⟨Av, cv, rfl, hrow, hbel⟩
      have HR := Lib.hid hrow; have HB := Lib.hid hbel
      clear hrow hbel HG
      go_wp2
      go_loopw [6, 27] (fun v p V => CtRel l1 l2 w v p V) (fun _ p _ => 2 - (intOf p).toNat)
      case atStart => exact ⟨0, [], .inl ⟨rfl, rfl⟩, rfl, HR.out, HB.out⟩
      case round =>
        obtain ⟨i, l, hcase, rfl, hrow, hbel⟩ := hrel
        rcases hcase with ⟨rfl, rfl⟩ | ⟨rfl, rfl⟩ | ⟨rfl, rfl⟩
        · obtain ⟨k0, k1⟩ := HK.out _ hbel
          obtain ⟨Av2, cv2, rfl⟩ := own_slice3 hrow
          simp only [List.length_nil] at hrow
          have hX := HX1.out.on hbel
          have HB0 := Lib.hid hbel
          clear hbel HR HB
          cases A1 with
          | none =>
            have hc := hA1 rfl
            have hl0 := rdv_none_nil hX
            subst hc
            obtain rfl : n1 = 0 := by rw [← HN1.out, hl0]; rfl
            have HL0 := Lib.hid hl0
            clear hl0
            clear hX
            go_wp2_with (at_builtin; refine wpList_append_own_none rfl _ _ 22 rfl w.heap.size 3 i0 1 Tryz.underlying22 hi _ _ _ rfl hrow rfl ?_)
            all_goals (
              go_roundw
              case rel => first | exact ⟨1, l1, .inr (.inl ⟨rfl, rfl⟩), rfl, by rw [HL0.out]; exact hrow, HB0.out⟩ | exact ⟨_, _, _, ⟨1, l1, .inr (.inl ⟨rfl, rfl⟩), rfl, by rw [HL0.out]; exact hrow, HB0.out⟩, rfl, rfl, rfl⟩
              case measure => simp [intOf])
          | some a =>
            have HNw := Lib.hid (rdv_newsU hX)
            have HLz : Hid ((zc (ns l1)).length = n1 * 1) := by show _ = _; rw [zc_length, ns_length, HN1.out, Nat.mul_one]
            have HOn := Lib.hid (zc_one (ns l1))
            clear hX
            go_wp2_with (at_builtin; refine wpList_append_own _ rfl _ _ 22 rfl w.heap.size 3 i0 (.int .i64 0) 1 8 Tryz.underlying22 hi hz0 hz1 hz2 rfl (by decide) _ _ _ rfl hrow a n1 c1 (zc (ns l1)) rfl HLz.out HNw.out HOn.out (by unfold maxLen; omega) (by omega) HB0.out.size ?_; intro v' w3 hown' hgrow _; obtain ⟨Av', cv', rfl⟩ := own_slice3 hown')
            have HO : Hid (w3.ownsRow w.heap.size 3 1 (.slice Av' (0 + n1) cv') l1.length (zc (ns l1))) := by
              show World.ownsRow _ _ _ _ _ _ _
              rw [HN1.out]
              have := hown'
              simpa [zc, ns] using this
            have HB : Hid (Below w.heap.size w w3) := HB0.out.trans (grown_low hgrow hrow HB0.out.size)
            clear hown' hgrow hrow HB0 k0 k1
            go_wp2
            go_roundw
            case rel => exact ⟨1, l1, .inr (.inl ⟨rfl, rfl⟩), rfl, by first | exact HO.out | simpa using HO.out, HB.out⟩
            case measure => simp [intOf]
        · obtain ⟨k0, k1⟩ := HK.out _ hbel
          obtain ⟨Av2, cv2, rfl⟩ := own_slice3 hrow
          have hX := HX2.out.on hbel
          have HB0 := Lib.hid hbel
          have HLen : Hid ((l ++ l2).length = n1 + n2) := by show _ = _; rw [List.length_append, HN1.out, HN2.out]
          generalize hk : l.length = k at *
          have HKk := Lib.hid hk
          have hkn : Hid (k = n1) := HN1.out
          have hk1 : k ≤ 100000 := by have := hkn.out; omega
          clear hk hbel HR HB
          cases A2 with
          | none =>
            have hc := hA2 rfl
            have hl0 := rdv_none_nil hX
            subst hc
            obtain rfl : n2 = 0 := by rw [← HN2.out, hl0]; rfl
            have HL0 := Lib.hid hl0
            clear hl0
            clear hX
            go_wp2_with (at_builtin; refine wpList_append_own_none rfl _ _ 22 rfl w.heap.size 3 i0 1 Tryz.underlying22 hi _ _ _ rfl hrow rfl ?_)
            all_goals (
              go_roundw
              case rel => first | exact ⟨2, l ++ l2, .inr (.inr ⟨rfl, rfl⟩), rfl, by rw [HL0.out, List.append_nil, HKk.out]; exact hrow, HB0.out⟩ | exact ⟨_, _, _, ⟨2, l ++ l2, .inr (.inr ⟨rfl, rfl⟩), rfl, by rw [HL0.out, List.append_nil, HKk.out]; exact hrow, HB0.out⟩, rfl, rfl, rfl⟩
              case measure => simp [intOf])
          | some a =>
            have HNw := Lib.hid (rdv_newsU hX)
            have HLz : Hid ((zc (ns l2)).length = n2 * 1) := by show _ = _; rw [zc_length, ns_length, HN2.out, Nat.mul_one]
            have HOn := Lib.hid (zc_one (ns l2))
            clear hX
            go_wp2_with (at_builtin; refine wpList_append_own _ rfl _ _ 22 rfl w.heap.size 3 i0 (.int .i64 0) 1 8 Tryz.underlying22 hi hz0 hz1 hz2 rfl (by decide) _ _ _ rfl hrow a n2 c2 (zc (ns l2)) rfl HLz.out HNw.out HOn.out (by unfold maxLen; omega) (by omega) HB0.out.size ?_; intro v' w3 hown' hgrow _; obtain ⟨Av', cv', rfl⟩ := own_slice3 hown')
            have HO : Hid (w3.ownsRow w.heap.size 3 1 (.slice Av' (k + n2) cv') (l ++ l2).length (zc (ns (l ++ l2)))) := by
              show World.ownsRow _ _ _ _ _ _ _
              rw [HLen.out, ns_append, zc_append, ← hkn.out]; exact hown'
            have HB : Hid (Below w.heap.size w w3) := HB0.out.trans (grown_low hgrow hrow HB0.out.size)
            clear hown' hgrow hrow HB0 k0 k1
            go_wp2
            go_roundw
            case rel => exact ⟨2, l ++ l2, .inr (.inr ⟨rfl, rfl⟩), rfl, HO.out, HB.out⟩
            case measure => simp [intOf]
        · have hl : (l1 ++ l2).length = n1 + n2 := by rw [List.length_append, HN1.out, HN2.out]
          rw [hl] at hrow
          obtain ⟨Av2, cv2, rfl⟩ := own_slice3 hrow
          have HR2 := Lib.hid hrow; have HB2 := Lib.hid hbel
          clear hrow hbel HR HB
          go_wp2
          go_ret
          exact ⟨_, _, rfl, HR2.out, HB2.out⟩
set_option maxHeartbeats 4000000 in
/-- The union of two lists. -/
theorem union_any (l1 l2 : List Nat) (n1 n2 : Nat) (hn1 : l1.length = n1) (hn2 : l2.length = n2) (h1 : n1 ≤ 100000) (h2 : n2 ≤ 100000) (M1 : List Nat) (M2 : Int) (hM : un l1 l2 = (M1, M2)) (A1 A2 : Option Addr) (c1 c2 : Nat) (hA1 : A1 = none → c1 = 0) (hA2 : A2 = none → c2 = 0) (w : World) (r1 : RdV w w.heap.size A1 (zc (ns l1))) (r2 : RdV w w.heap.size A2 (zc (ns l2))) :
    Calls Tryz.prog 163 #[.slice A1 n1 c1, .slice A2 n2 c2] w (IntsP w M1 M2) := by
  have hB1 := one_below w (.cells #[.slice A1 n1 c1, .slice A2 n2 c2] 22)
  have HC := Lib.hid (concat_two l1 l2 n1 n2 hn1 hn2 h1 h2 A1 A2 c1 c2 hA1 hA2 w.heap.size (w.alloc (.cells #[.slice A1 n1 c1, .slice A2 n2 c2] 22)) (World.alloc_heap_new _ _) (r1.on hB1) (r2.on hB1))
  have HB1 := Lib.hid hB1
  have HLen : Hid ((l1 ++ l2).length = n1 + n2) := by show _ = _; rw [List.length_append, hn1, hn2]
  have HMM := Lib.hid hM
  have HSz : Hid ((w.alloc (.cells #[.slice A1 n1 c1, .slice A2 n2 c2] 22)).heap.size = w.heap.size + 1) := World.size_alloc _ _
  clear hB1 hM r1 r2 hn1 hn2
  go_enter Tryz.func163, Tryz.ntmps163
  go_wp2_with fail
  refine HC.out.mono ?_
  rintro e w1 ⟨Av, cv, rfl, hr1, hb1⟩
  have HR1 : Hid (w1.ownsRow w.heap.size 3 1 (.slice Av (n1 + n2) cv) (n1 + n2) (zc (ns (l1 ++ l2)))) := own_base hr1 (by rw [HSz.out]; omega)
  have HB : Hid (Below w.heap.size w w1) := HB1.out.trans (hb1.mono (by rw [HSz.out]; omega))
  clear hr1 hb1 HC HB1 HSz
  have hN0 : n1 + n2 ≤ 200000 := by omega
  generalize n1 + n2 = N0 at *
  have HS := Lib.hid (sort_own (l1 ++ l2) N0 HLen.out (by omega) w.heap.size _ _ HR1.out HB.out.size)
  go_wp2_with fail
  refine HS.out.mono ?_
  rintro e w4 ⟨rfl, hr4, hb4⟩
  have HB4 : Hid (Below w.heap.size w w4) := HB.out.trans hb4
  have hl4 : (nso (l1 ++ l2)).length = N0 := by rw [(nso_perm _).length_eq]; exact HLen.out
  have HT := Lib.hid (twice_in (nso (l1 ++ l2)) N0 hl4 (by omega) Av cv w4 (own_rdv hr4))
  have HO4 := Lib.hid hr4
  have HL4 := Lib.hid hl4
  have HM : Hid ((M1, M2) = if tw (nso (l1 ++ l2)) = true then ([], 6) else if 300 < (nso (l1 ++ l2)).length then ([], 2) else (nso (l1 ++ l2), 0)) := HMM.out.symm
  rw [hl4] at HM
  clear hr4 hb4 hl4 HS HR1 HB HMM
  generalize nso (l1 ++ l2) = L at *
  cases htw : tw L with
  | true =>
    rw [htw] at HT HM
    rw [if_pos rfl] at HM
    obtain ⟨rfl, rfl⟩ : M1 = [] ∧ M2 = 6 := by have := HM.out; simpa using this
    clear HM htw
    go_wp2_with fail
    refine HT.out.mono ?_
    rintro e w5 ⟨rfl, B5⟩
    have HB5 := Lib.hid (HB4.out.trans (B5.mono HB4.out.size)); clear B5
    go_wp2
    go_ret2
    exact ⟨none, 0, rfl, Nat.le_refl _, fun _ => rfl, .inl rfl, HB5.out⟩
  | false =>
    rw [htw] at HT HM
    rw [if_neg (by decide)] at HM
    by_cases h3 : 300 < N0
    · rw [if_pos h3] at HM
      obtain ⟨rfl, rfl⟩ : M1 = [] ∧ M2 = 2 := by have := HM.out; simpa using this
      clear HM htw
      go_wp2_with fail
      refine HT.out.mono ?_
      rintro e w5 ⟨rfl, B5⟩
      have HB5 := Lib.hid (HB4.out.trans (B5.mono HB4.out.size)); clear B5
      go_wp2
      go_ret2
      exact ⟨none, 0, rfl, Nat.le_refl _, fun _ => rfl, .inl rfl, HB5.out⟩
    · rw [if_neg h3] at HM
      obtain ⟨rfl, rfl⟩ : M1 = L ∧ M2 = 0 := by have := HM.out; simpa using this
      clear HM htw
      go_wp2_with fail
      refine HT.out.mono ?_
      rintro e w5 ⟨rfl, B5⟩
      have HR5 : Hid (RdV w5 w5.heap.size Av (zc (ns M1))) := (own_rdv HO4.out).on B5
      have HB5 := Lib.hid (HB4.out.trans (B5.mono HB4.out.size)); clear B5
      go_wp2
      go_ret2
      exact ⟨Av, cv, by rw [HL4.out]; rfl, by rw [HL4.out]; exact own_cap HO4.out, own_none HO4.out, HR5.out, HB5.out⟩
end

section
set_option maxRecDepth 100000
set_option linter.unusedVariables false
open Go.RowKit Go.Shelf

set_option maxHeartbeats 1000000 in
theorem copy_e (xs : List Int) (n : Nat) (hn : xs.length = n) (hn2 : n ≤ 9223372036854775807) (bs : List Int) (m : Nat) (hm : bs.length = m) (hm2 : m ≤ 9223372036854775807) (e0 : Int) (he : cpE xs bs = e0) (h0 : e0 ≠ 0) (A1 A2 : Option Addr) (c1 c2 : Nat) (w : World) (h1 : RdV w w.heap.size A1 (zc xs)) (h2 : RdV w w.heap.size A2 (zc bs)) :
    Calls Tryz.prog 120 #[.slice A1 n c1, .slice A2 m c2] w (IntsP w [] e0) := by
  have HC := Lib.hid (gcheck_any xs n hn hn2 A1 c1 w h1)
  unfold cpE at he
  by_cases hr : rchk xs = 0
  · rw [if_neg (by simpa using hr), hn] at he
    have h300 : n ≤ 300 := by
      obtain ⟨l, hl0, hl⟩ := rchk_zero xs hr
      have h3 : l.length ≤ 300 := hl.1
      rw [← hn, hl0, ns_length]; exact h3
    rw [hr] at HC
    have HB : Hid (∀ V, Below w.heap.size w V → Calls Tryz.prog 161 #[.slice A2 m c2, .int .i64 (n : Int)] V fun e w' => e = .returned (.int .i64 e0) ∧ Below V.heap.size V w') := fun V hV => by
      have := cblk_any bs m hm hm2 n (by omega) A2 c2 V (h2.on hV)
      rwa [he] at this
    have t0 : (e0 != 0) = true := by simpa using h0
    clear h1 h2 hn hm he h0 hr
    go_enter Tryz.func120, Tryz.ntmps120
    go_wp2_with fail
    refine HC.out.mono ?_
    rintro e w1 ⟨rfl, B1⟩
    have HB1 := Lib.hid B1; clear B1
    go_wp2_with fail
    refine (HB.out w1 HB1.out).mono ?_
    rintro e w2 ⟨rfl, B2⟩
    have HB2 := Lib.hid (HB1.out.trans (B2.mono HB1.out.size)); clear B2
    go_wp2
    go_ret2
    exact ⟨none, 0, rfl, Nat.le_refl _, fun _ => rfl, .inl rfl, HB2.out⟩
  · rw [if_pos (by simpa using hr)] at he
    rw [he] at HC
    have t0 : (e0 != 0) = true := by simpa using h0
    clear h1 h2 hn hm he h0 hr
    go_enter Tryz.func120, Tryz.ntmps120
    go_wp2_with fail
    refine HC.out.mono ?_
    rintro e w1 ⟨rfl, B1⟩
    have HB1 := Lib.hid B1; clear B1
    go_wp2
    go_ret2
    exact ⟨none, 0, rfl, Nat.le_refl _, fun _ => rfl, .inl rfl, HB1.out⟩

theorem cp_step {α : Type} (p : Bool) (B : List Nat) (i : Nat) (h : i < B.length) (F : List α) : cp p (B.drop i) F = (if p then F.take (B[i]?.getD 0) else []) ++ cp (!p) (B.drop (i + 1)) (F.drop (B[i]?.getD 0)) := by
  rw [drop_nat B i h]; rfl
theorem sum_step (B : List Nat) (i : Nat) (h : i < B.length) : (B.drop i).sum = B[i]?.getD 0 + (B.drop (i + 1)).sum := by
  rw [drop_nat B i h, List.sum_cons]
/-- At each round's head: what the first blocks copy is there. -/
def CpRel (B F : List Nat) (w : World) (v s p : Value) (wr : World) : Prop :=
  ∃ (i a : Nat) (out : List Nat), i ≤ B.length ∧ p = .int .i64 (i : Int) ∧ s = .int .i64 (a : Int) ∧ a + (B.drop i).sum ≤ F.length ∧ out.length ≤ a ∧ cp true B F = out ++ cp (decide (i % 2 = 0)) (B.drop i) (F.drop a) ∧
    wr.ownsRow w.heap.size 3 1 v out.length (zc (ns out)) ∧ Below w.heap.size w wr
theorem ns_cut (F : List Nat) (a b : Nat) : zc (ns ((F.drop a).take b)) = ((zc (ns F)).drop a).take b := by simp [zc, ns, List.map_take, List.map_drop]
theorem ns_drop (F : List Nat) (a : Nat) : zc (ns (F.drop a)) = (zc (ns F)).drop a := by simp [zc, ns, List.map_drop]
theorem par_succ (i : Nat) : (!decide (i % 2 = 0)) = decide ((i + 1) % 2 = 0) := by
  by_cases h : i % 2 = 0
  · rw [decide_eq_true h, decide_eq_false (by omega)]; rfl
  · rw [decide_eq_false h, decide_eq_true (by omega)]; rfl
theorem rdv_drop {w : World} {B : Nat} {a : Addr} {vs : List Value} (h : RdV w B (some a) vs) (k : Nat) : ∀ j u, (vs.drop k)[j]? = some u → w.cell? ((a.add k).add j) = some u := by
  intro j u hu
  rw [List.getElem?_drop] at hu
  obtain ⟨b, off, e, hb, hc⟩ := h.at_ hu
  cases e
  rw [add_plU, add_plU, Nat.add_assoc]; exact hc
theorem rdv_take {w : World} {B : Nat} {a : Addr} {vs : List Value} (h : RdV w B (some a) vs) (k b : Nat) : ∀ j u, ((vs.drop k).take b)[j]? = some u → w.cell? ((a.add k).add j) = some u := by
  intro j u hu
  refine rdv_drop h k j u ?_
  rw [List.getElem?_take] at hu
  split at hu
  · exact hu
  · cases hu
set_option maxHeartbeats 8000000 in
theorem copy_in (F : List Nat) (hF : Rising F) (n : Nat) (hn : F.length = n) (B : List Nat) (m : Nat) (hm : B.length = m) (hB : BOk B n) (M : List Nat) (hM : cp true B F = M) (A1 A2 : Option Addr) (c1 c2 : Nat) (hA1 : A1 = none → c1 = 0) (hc1 : n ≤ c1) (w : World) (h1 : RdV w w.heap.size A1 (zc (ns F))) (h2 : RdV w w.heap.size A2 (zc (ns B))) :
    Calls Tryz.prog 120 #[.slice A1 n c1, .slice A2 m c2] w (IntsP w M 0) := by
  have h300 : n ≤ 300 := by have := hF.1; omega
  have hm300 : m ≤ 301 := by have := hB.1; omega
  have hc63 : c1 ≤ 9223372036854775807 ∨ 9223372036854775807 < c1 := by omega
  have HC : Hid (Calls Tryz.prog 43 #[.slice A1 n c1] w fun e w' => e = .returned (.int .i64 0) ∧ Below w.heap.size w w') := by
    have := gcheck_any (ns F) n (by rw [ns_length, hn]) (by omega) A1 c1 w h1
    rwa [rchk_ok F hF] at this
  have HBk : Hid (∀ V, Below w.heap.size w V → Calls Tryz.prog 161 #[.slice A2 m c2, .int .i64 (n : Int)] V fun e w' => e = .returned (.int .i64 0) ∧ Below V.heap.size V w') := fun V hV => by
    have := cblk_any (ns B) m (by rw [ns_length, hm]) (by omega) n (by omega) A2 c2 V (h2.on hV)
    rwa [bchk_ok B n hB] at this
  obtain ⟨i0, hi, hz0, hz1, hz2⟩ := info_parts info3
  have HX1 := Lib.hid h1; have HX2 := Lib.hid h2; have HN := Lib.hid hn; have HM := Lib.hid hm; have HMM := Lib.hid hM
  have HS : Hid (B.sum ≤ F.length) := by show _ ≤ _; rw [hn]; exact hB.2.2
  clear h1 h2 hn hm hM hF hB
  go_enter Tryz.func120, Tryz.ntmps120
  go_wp2_with fail
  refine HC.out.mono ?_
  rintro e w1 ⟨rfl, B1⟩
  have HB1 := Lib.hid B1; clear B1
  go_wp2_with fail
  refine (HBk.out w1 HB1.out).mono ?_
  rintro e w2 ⟨rfl, B2⟩
  have HB2 := Lib.hid (HB1.out.trans (B2.mono HB1.out.size)); clear B2
  go_wp2
  go_loopw [8, 9, 26] (fun v s p wr => CpRel B F w v s p wr) (fun _ _ p _ => m - (intOf p).toNat)
  case atStart => exact ⟨0, 0, [], Nat.zero_le _, rfl, rfl, by simpa using HS.out, Nat.le_refl _, rfl, ⟨rfl, .inl ⟨rfl, rfl⟩⟩, HB2.out⟩
  case round =>
    obtain ⟨i, a, out, hi', rfl, rfl, hsum, hol, hcp, hrow, hbel⟩ := hrel
    rw [HM.out] at hi'
    rw [HN.out] at hsum
    by_cases hlt : i < m
    · have hin : i < B.length := by rw [HM.out]; exact hlt
      obtain ⟨b2, off2, rfl, hb2, hcb⟩ := (HX2.out.on hbel).at_ (ns_get B i hin)
      have hst := cp_step (decide (i % 2 = 0)) B i hin (F.drop a)
      have hss := sum_step B i hin
      generalize hb : B[i]?.getD 0 = b at *
      have hab : a + b ≤ n := by omega
      have HSum : Hid (a + b + (B.drop (i + 1)).sum ≤ F.length) := by show _ ≤ _; rw [HN.out]; omega
      have t5 : IntKind.i64.wrap ((a : Int) + (b : Int)) = (a : Int) + (b : Int) := IntWalk.i64_in _ (by omega)
      have HCo := Lib.hid (copies_any i (by omega) wr)
      obtain ⟨Av, cv, rfl⟩ := own_slice3 hrow
      have hX := HX1.out.on hbel
      have HB := Lib.hid hbel
      have HCp := Lib.hid hcp; have HSt := Lib.hid hst
      clear hbel hcp hst hss hsum hb HC HBk HB1 HB2 HS
      by_cases hev : i % 2 = 0
      · rw [decide_eq_true hev] at HCo
        have HOut : Hid (cp true B F = (out ++ (F.drop a).take b) ++ cp (decide ((i + 1) % 2 = 0)) (B.drop (i + 1)) (F.drop (a + b))) := by
          show _ = _
          rw [HCp.out, HSt.out, decide_eq_true hev, show F.drop (a + b) = (F.drop a).drop b by rw [List.drop_drop], decide_eq_false (by omega), if_pos rfl, List.append_assoc]; rfl
        have HTl : Hid (((F.drop a).take b).length = b) := by show _ = _; rw [List.length_take, List.length_drop, HN.out]; omega
        clear HCp HSt
        cases A1 with
        | none =>
          have hc0 := hA1 rfl
          subst hc0
          obtain rfl : n = 0 := by omega
          obtain rfl : a = 0 := by omega
          obtain rfl : b = 0 := by omega
          have HO0 : Hid ((F.drop 0).take 0 = []) := List.take_zero
          rw [HO0.out, List.append_nil] at HOut
          clear hX hev
          go_wp2_with (first | (go_at_call 162; refine HCo.out.mono ?_; rintro e w' ⟨rfl, rfl⟩) | (at_builtin; refine wpList_append_own_none rfl _ _ 22 rfl w.heap.size 3 i0 1 Tryz.underlying22 hi _ _ _ rfl hrow rfl ?_))
          go_roundw
          case rel => exact ⟨_, _, _, _, _, _, _, _, _, _, _, _, _, _, _, _, _, _, _, _, _, _, _, ⟨i + 1, 0, out, by rw [HM.out]; omega, by go_num, by go_num, HSum.out, hol, HOut.out, hrow, HB.out⟩, rfl⟩
          case measure => simp [intOf]; omega
        | some a1 =>
          have HNw := Lib.hid (rdv_take hX a b)
          rw [← ns_cut] at HNw
          have HLz : Hid ((zc (ns ((F.drop a).take b))).length = (a + b - a) * 1) := by show _ = _; rw [zc_length, ns_length, HTl.out]; omega
          have HOn := Lib.hid (zc_one (ns ((F.drop a).take b)))
          have hk : out.length ≤ 1000 := by omega
          generalize hk2 : out.length = k at *
          have HK := Lib.hid hk2
          clear hX hk2
          by_cases hca : c1 = a
          · obtain rfl : b = 0 := by omega
            have hca2 : (c1 = a) = True := by simp [hca]
            have HNe : Hid (∀ j u, (zc (ns ((F.drop a).take 0)))[j]? = some u → wr.cell? (a1.add j) = some u) := by intro j u hu; simp [zc, ns] at hu
            have hc63 : c1 ≤ 300 := by omega
            clear hca HNw HLz
            have HLz : Hid ((zc (ns ((F.drop a).take 0))).length = 0 * 1) := by show _ = _; simp [zc, ns]
            go_wp2_with (first | (go_at_call 162; refine HCo.out.mono ?_; rintro e w' ⟨rfl, rfl⟩) | (at_builtin; refine wpList_append_own _ rfl _ _ 22 rfl w.heap.size 3 i0 (.int .i64 0) 1 8 Tryz.underlying22 hi hz0 hz1 hz2 rfl (by decide) _ _ _ rfl hrow a1 _ _ (zc (ns ((F.drop a).take 0))) rfl HLz.out HNe.out HOn.out (by unfold maxLen; omega) (by omega) HB.out.size ?_; intro v' w3 hown' hgrow _; obtain ⟨Av', cv', rfl⟩ := own_slice3 hown'))
            have HO : Hid (w3.ownsRow w.heap.size 3 1 (.slice Av' (k + 0) cv') (k + 0) (zc (ns (out ++ ((F.drop a).take 0))))) := by
              show World.ownsRow _ _ _ _ _ _ _
              rw [ns_append, zc_append]; first | exact hown' | (have := hown'; simp only [Nat.add_sub_cancel_left] at this; exact this)
            have HB3 : Hid (Below w.heap.size w w3) := HB.out.trans (grown_low hgrow hrow HB.out.size)
            have HLn : Hid ((out ++ ((F.drop a).take 0)).length = k + 0) := by show _ = _; rw [List.length_append, HK.out, HTl.out]
            clear hown' hgrow hrow HB
            go_roundw
            case rel => exact ⟨i + 1, a + 0, out ++ (F.drop a).take 0, by rw [HM.out]; omega, by go_num, by go_num, HSum.out, by rw [HLn.out]; omega, HOut.out, by rw [HLn.out]; exact HO.out, HB3.out⟩
            case measure => simp [intOf]; omega
          · have hc64 : (a : Int) ≤ (c1 : Int) := by omega
            have hc65 : (a : Int) + (b : Int) ≤ (c1 : Int) := by omega
            go_wp2_with (first | (go_at_call 162; refine HCo.out.mono ?_; rintro e w' ⟨rfl, rfl⟩) | (at_builtin; refine wpList_append_own _ rfl _ _ 22 rfl w.heap.size 3 i0 (.int .i64 0) 1 8 Tryz.underlying22 hi hz0 hz1 hz2 rfl (by decide) _ _ _ rfl hrow (a1.add a) _ _ (zc (ns ((F.drop a).take b))) rfl HLz.out HNw.out HOn.out (by unfold maxLen; omega) (by omega) HB.out.size ?_; intro v' w3 hown' hgrow _; obtain ⟨Av', cv', rfl⟩ := own_slice3 hown'))
            have HO : Hid (w3.ownsRow w.heap.size 3 1 (.slice Av' (k + b) cv') (k + b) (zc (ns (out ++ ((F.drop a).take b))))) := by
              show World.ownsRow _ _ _ _ _ _ _
              rw [ns_append, zc_append]; first | exact hown' | (have := hown'; simp only [Nat.add_sub_cancel_left] at this; exact this)
            have HB3 : Hid (Below w.heap.size w w3) := HB.out.trans (grown_low hgrow hrow HB.out.size)
            have HLn : Hid ((out ++ ((F.drop a).take b)).length = k + b) := by show _ = _; rw [List.length_append, HK.out, HTl.out]
            clear hown' hgrow hrow HB
            go_roundw
            case rel => exact ⟨i + 1, a + b, out ++ (F.drop a).take b, by rw [HM.out]; omega, by go_num, by go_num, HSum.out, by rw [HLn.out]; omega, HOut.out, by rw [HLn.out]; exact HO.out, HB3.out⟩
            case measure => simp [intOf]; omega
      · rw [decide_eq_false hev] at HCo
        have HOut : Hid (cp true B F = out ++ cp (decide ((i + 1) % 2 = 0)) (B.drop (i + 1)) (F.drop (a + b))) := by
          show _ = _
          rw [HCp.out, HSt.out, decide_eq_false hev, show F.drop (a + b) = (F.drop a).drop b by rw [List.drop_drop], decide_eq_true (by omega), if_neg (by decide), List.nil_append]; rfl
        clear HCp HSt hX
        go_wp2_with (go_at_call 162; refine HCo.out.mono ?_; rintro e w' ⟨rfl, rfl⟩)
        go_roundw
        case rel => exact ⟨i + 1, a + b, out, by rw [HM.out]; omega, by go_num, by go_num, HSum.out, by omega, HOut.out, hrow, HB.out⟩
        case measure => simp [intOf]; omega
    · obtain rfl : i = m := by omega
      have hd : B.drop i = [] := List.drop_of_length_le (by rw [HM.out]; exact Nat.le_refl _)
      rw [hd] at hcp hsum
      have hM : M = out ++ (if decide (i % 2 = 0) = true then F.drop a else []) := HMM.out.symm.trans hcp
      have han : a ≤ n := by simpa using hsum
      have HCo := Lib.hid (copies_any i (by omega) wr)
      obtain ⟨Av, cv, rfl⟩ := own_slice3 hrow
      have hX := HX1.out.on hbel
      have HB := Lib.hid hbel
      have HMq := Lib.hid hM
      clear hbel hcp hd hsum hM HC HBk HB1 HB2 HS HMM hlt
      by_cases hev : i % 2 = 0
      · rw [decide_eq_true hev] at HCo HMq
        rw [if_pos rfl] at HMq
        have HTl : Hid ((F.drop a).length = n - a) := by show _ = _; rw [List.length_drop, HN.out]
        have hk : out.length ≤ 1000 := by omega
        generalize hk2 : out.length = k at *
        have HK := Lib.hid hk2
        clear hk2 hev
        cases A1 with
        | none =>
          have hc0 := hA1 rfl
          subst hc0
          obtain rfl : n = 0 := by omega
          obtain rfl : a = 0 := by omega
          have hF0 := rdv_none_nil hX
          have HMr : Hid (M = out) := by show _ = _; rw [HMq.out, hF0]; simp
          have HK2 : Hid (k ≤ cv ∧ (Av = none → cv = 0)) := ⟨own_cap hrow, own_none hrow⟩
          have HO := Lib.hid (own_rdv hrow)
          clear hX hF0 HMq
          go_wp2_with (first | (go_at_call 162; refine HCo.out.mono ?_; rintro e w' ⟨rfl, rfl⟩) | (at_builtin; refine wpList_append_own_none rfl _ _ 22 rfl w.heap.size 3 i0 1 Tryz.underlying22 hi _ _ _ rfl hrow rfl ?_))
          go_ret2
          exact ⟨_, _, by rw [HMr.out, HK.out]; rfl, by rw [HMr.out, HK.out]; exact HK2.out.1, HK2.out.2, by rw [HMr.out]; exact HO.out, HB.out⟩
        | some a1 =>
          have HNw := Lib.hid (rdv_drop hX a)
          rw [← ns_drop] at HNw
          have HLz : Hid ((zc (ns (F.drop a))).length = (n - a) * 1) := by show _ = _; rw [zc_length, ns_length, HTl.out]; omega
          have HOn := Lib.hid (zc_one (ns (F.drop a)))
          clear hX
          by_cases hca : c1 = a
          · have hna : n = a := by omega
            have HNa := Lib.hid hna
            have hca2 : (c1 = a) = True := by simp [hca]
            have HNe : Hid (∀ j u, (zc (ns (F.drop a)))[j]? = some u → wr.cell? (a1.add j) = some u) := by
              intro j u hu
              have : F.drop a = [] := List.eq_nil_of_length_eq_zero (by rw [HTl.out, hna]; omega)
              rw [this] at hu; simp [zc, ns] at hu
            have hc63 : c1 ≤ 300 := by omega
            clear hca HNw hna
            go_wp2_with (first | (go_at_call 162; refine HCo.out.mono ?_; rintro e w' ⟨rfl, rfl⟩) | (at_builtin; refine wpList_append_own _ rfl _ _ 22 rfl w.heap.size 3 i0 (.int .i64 0) 1 8 Tryz.underlying22 hi hz0 hz1 hz2 rfl (by decide) _ _ _ rfl hrow a1 _ _ (zc (ns (F.drop a))) rfl HLz.out HNe.out HOn.out (by unfold maxLen; omega) (by omega) HB.out.size ?_; intro v' w3 hown' hgrow _; obtain ⟨Av', cv', rfl⟩ := own_slice3 hown'))
            have HO : Hid (w3.ownsRow w.heap.size 3 1 (.slice Av' (k + (n - a)) cv') (k + (n - a)) (zc (ns (out ++ (F.drop a))))) := by
              show World.ownsRow _ _ _ _ _ _ _
              rw [ns_append, zc_append]; first | exact hown' | (have := hown'; simp only [Nat.add_sub_cancel_left] at this; exact this)
            have HB3 : Hid (Below w.heap.size w w3) := HB.out.trans (grown_low hgrow hrow HB.out.size)
            have HLn : Hid ((out ++ (F.drop a)).length = k + (n - a)) := by show _ = _; rw [List.length_append, HK.out, HTl.out]
            clear hown' hgrow hrow HB
            go_ret2
            exact ⟨_, _, by rw [HMq.out, HLn.out]; rfl, by rw [HMq.out, HLn.out]; exact own_cap HO.out, own_none HO.out, by rw [HMq.out]; exact own_rdv HO.out, HB3.out⟩
          · have hc64 : (a : Int) ≤ (c1 : Int) := by omega
            go_wp2_with (first | (go_at_call 162; refine HCo.out.mono ?_; rintro e w' ⟨rfl, rfl⟩) | (at_builtin; refine wpList_append_own _ rfl _ _ 22 rfl w.heap.size 3 i0 (.int .i64 0) 1 8 Tryz.underlying22 hi hz0 hz1 hz2 rfl (by decide) _ _ _ rfl hrow (a1.add a) _ _ (zc (ns (F.drop a))) rfl HLz.out HNw.out HOn.out (by unfold maxLen; omega) (by omega) HB.out.size ?_; intro v' w3 hown' hgrow _; obtain ⟨Av', cv', rfl⟩ := own_slice3 hown'))
            have HO : Hid (w3.ownsRow w.heap.size 3 1 (.slice Av' (k + (n - a)) cv') (k + (n - a)) (zc (ns (out ++ (F.drop a))))) := by
              show World.ownsRow _ _ _ _ _ _ _
              rw [ns_append, zc_append]; first | exact hown' | (have := hown'; simp only [Nat.add_sub_cancel_left] at this; exact this)
            have HB3 : Hid (Below w.heap.size w w3) := HB.out.trans (grown_low hgrow hrow HB.out.size)
            have HLn : Hid ((out ++ (F.drop a)).length = k + (n - a)) := by show _ = _; rw [List.length_append, HK.out, HTl.out]
            clear hown' hgrow hrow HB
            go_ret2
            exact ⟨_, _, by rw [HMq.out, HLn.out]; rfl, by rw [HMq.out, HLn.out]; exact own_cap HO.out, own_none HO.out, by rw [HMq.out]; exact own_rdv HO.out, HB3.out⟩
      · rw [decide_eq_false hev] at HCo HMq
        rw [if_neg (by decide), List.append_nil] at HMq
        have HK2 : Hid (out.length ≤ cv ∧ (Av = none → cv = 0)) := ⟨own_cap hrow, own_none hrow⟩
        have HO := Lib.hid (own_rdv hrow)
        have hk : out.length ≤ 1000 := by omega
        generalize hk2 : out.length = k at *
        have HK := Lib.hid hk2
        clear hk2 hev hX hrow
        go_wp2_with (go_at_call 162; refine HCo.out.mono ?_; rintro e w' ⟨rfl, rfl⟩)
        go_ret2
        exact ⟨_, _, by rw [HMq.out, HK.out]; rfl, by rw [HMq.out, HK.out]; exact HK2.out.1, HK2.out.2, by rw [HMq.out]; exact HO.out, HB.out⟩
theorem pcopy_any (xs : List Int) (n : Nat) (hn : xs.length = n) (hn2 : n ≤ 9223372036854775807) (bs : List Int) (m : Nat) (hm : bs.length = m) (hm2 : m ≤ 9223372036854775807) (A1 A2 : Option Addr) (c1 c2 : Nat) (hA1 : A1 = none → c1 = 0) (hc1 : n ≤ c1) (w : World) (h1 : RdV w w.heap.size A1 (zc xs)) (h2 : RdV w w.heap.size A2 (zc bs)) :
    Calls Tryz.prog 120 #[.slice A1 n c1, .slice A2 m c2] w (IntsP w (cpA xs bs) (cpE xs bs)) := by
  by_cases h0 : cpE xs bs = 0
  · have h0' := h0
    unfold cpE at h0'
    by_cases hr : rchk xs = 0
    · rw [if_neg (by simpa using hr)] at h0'
      obtain ⟨F, rfl, hF⟩ := rchk_zero xs hr
      rw [ns_length] at hn h0'
      obtain ⟨B, rfl, hB⟩ := bchk_zero bs _ h0'
      rw [ns_length] at hm
      rw [h0]
      have e : cpA (ns F) (ns B) = cp true B F := by unfold cpA; rw [if_neg (by simpa using h0), tn_ns, tn_ns]
      rw [e]
      exact copy_in F hF n hn B m hm (by rw [← hn]; exact hB) _ rfl A1 A2 c1 c2 hA1 hc1 w h1 h2
    · rw [if_pos (by simpa using hr)] at h0'; exact absurd h0' hr
  · have e : cpA xs bs = [] := by unfold cpA; rw [if_pos (by simpa using h0)]
    rw [e]
    exact copy_e xs n hn hn2 bs m hm hm2 _ rfl h0 A1 A2 c1 c2 w h1 h2
end

section
set_option maxRecDepth 100000
set_option linter.unusedVariables false
open Go.RowKit Go.Shelf

theorem own_keep {w w' : World} {base : Nat} {v : Value} {n : Nat} {xs : List Value} (h : w.ownsRow base 3 1 v n xs) (hb : Below w.heap.size w w') : w'.ownsRow base 3 1 v n xs := own_below h hb
theorem ris_lt (l : List Nat) (h : Rising l) : l.Pairwise (· < ·) := rising_lt h
/-- At each round's head: the blocks so far, and where the last one ended. -/
def BoRel (F l : List Nat) (w : World) (v s p : Value) (wr : World) : Prop :=
  ∃ (i a : Nat) (out : List Nat), i ≤ F.length ∧ p = .int .i64 (i : Int) ∧ s = .int .i64 (a : Int) ∧ a ≤ i ∧ out.length ≤ i ∧ bks F l = out ++ blk ((F.drop i).map (inL l)) (i - a) (decide (out.length % 2 = 0)) ∧
    wr.ownsRow w.heap.size 3 1 v out.length (zc (ns out)) ∧ Below w.heap.size w wr
/-- A list of the call's own comes back. -/
def OwnI (w : World) (l : List Nat) (e : Ending) (w' : World) : Prop :=
  ∃ A c, e = .returned (.slice A l.length c) ∧ w'.ownsRow w.heap.size 3 1 (.slice A l.length c) l.length (zc (ns l)) ∧ Below w.heap.size w w'
set_option maxHeartbeats 4000000 in
theorem blocksOf_in (F l : List Nat) (hF : Rising F) (hl : Rising l) (n m : Nat) (hn : F.length = n) (hm : l.length = m) (M : List Nat) (hM : bks F l = M) (A1 A2 : Option Addr) (c1 c2 : Nat) (w : World) (h1 : RdV w w.heap.size A1 (zc (ns F))) (h2 : RdV w w.heap.size A2 (zc (ns l))) :
    Calls Tryz.prog 181 #[.slice A1 n c1, .slice A2 m c2] w (OwnI w M) := by
  have h300 : n ≤ 300 := by have := hF.1; omega
  have HCt : Hid (∀ x V, Below w.heap.size w V → Calls Tryz.prog 180 #[.slice A2 m c2, .int .i64 ((x : Nat) : Int)] V fun e w' => e = .returned (.bool (inL l x)) ∧ Below V.heap.size V w') := fun x V hV => pcont_any l (ris_lt l hl) (fun y hy => (ris_le l _ hl.2 y hy).2) m hm (by have := hl.1; omega) x A2 c2 V (h2.on hV)
  obtain ⟨i0, hi, hz0, hz1, hz2⟩ := info_parts info3
  have HX := Lib.hid h1; have HN := Lib.hid hn; have HMM := Lib.hid hM
  clear h1 h2 hn hm hM hF hl
  go_enter Tryz.func181, Tryz.ntmps181
  go_wp2
  go_loopw [5, 6, 11] (fun v s p wr => BoRel F l w v s p wr) (fun _ _ p _ => n - (intOf p).toNat)
  case atStart => exact ⟨0, 0, [], Nat.zero_le _, rfl, rfl, Nat.le_refl _, Nat.le_refl _, rfl, ⟨rfl, .inl ⟨rfl, rfl⟩⟩, Below.refl _ _⟩
  case round =>
    obtain ⟨i, a, out, hi', rfl, rfl, hai, hol, hbk, hrow, hbel⟩ := hrel
    rw [HN.out] at hi'
    obtain ⟨Av, cv, rfl⟩ := own_slice3 hrow
    by_cases hlt : i < n
    · have hin : i < F.length := by rw [HN.out]; exact hlt
      obtain ⟨b, off, rfl, hb, hcx⟩ := (HX.out.on hbel).at_ (ns_get F i hin)
      have hd : (F.drop i).map (inL l) = inL l (F[i]?.getD 0) :: (F.drop (i + 1)).map (inL l) := by rw [drop_nat F i hin]; rfl
      rw [hd, blk_cons] at hbk
      have HB := Lib.hid hbel
      generalize F[i]?.getD 0 = x at *
      have HC := Lib.hid (HCt.out x wr hbel)
      have HCo := Lib.hid (fun V => copies_any out.length (by omega) V)
      have t1 : IntKind.i64.wrap ((i : Int) - (a : Int)) = (i : Int) - (a : Int) := IntWalk.i64_in _ (by omega)
      clear hbel hd
      generalize hk : out.length = k at *
      have HK := Lib.hid hk
      clear hk
      generalize inL l x = f at *
      generalize hp : decide (k % 2 = 0) = p at *
      have HP := Lib.hid hp
      clear hp
      by_cases hfp : f = p
      · rw [if_pos hfp] at hbk
        have HBk : Hid (bks F l = out ++ blk ((F.drop (i + 1)).map (inL l)) (i + 1 - a) p) := by show _ = _; rw [hbk, show i + 1 - a = i - a + 1 by omega]
        clear hbk
        subst hfp
        have t2 : (f != f) = false := by simp
        go_wp2_with (first | (go_at_call 180; refine HC.out.mono ?_; rintro e w1 ⟨rfl, B1⟩; have HB1 : Hid (Below w.heap.size w w1) := HB.out.trans (B1.mono HB.out.size); have hrow1 := own_keep hrow B1; clear B1) | (go_at_call 162; refine (HCo.out _).mono ?_; rintro e w' ⟨rfl, rfl⟩))
        all_goals (
          go_roundw
          case rel => exact ⟨i + 1, a, out, by rw [HN.out]; omega, by go_num, rfl, by omega, by rw [HK.out]; omega, by rw [HK.out, HP.out]; exact HBk.out, by rw [HK.out]; exact hrow1, HB1.out⟩
          case measure => simp [intOf]; omega)
      · rw [if_neg hfp] at hbk
        have hnp : (!p) = decide ((k + 1) % 2 = 0) := by rw [← HP.out]; exact par_succ k
        have HBk : Hid (bks F l = (out ++ [i - a]) ++ blk ((F.drop (i + 1)).map (inL l)) (i + 1 - i) (decide ((k + 1) % 2 = 0))) := by
          show _ = _
          rw [hbk, ← hnp, show i + 1 - i = 1 by omega, List.append_assoc]; rfl
        have hia : ((i : Int) - (a : Int)) = ((i - a : Nat) : Int) := by omega
        have t2 : (f != p) = true := by cases f <;> cases p <;> simp_all
        have t5 : (f == p) = false := by cases f <;> cases p <;> simp_all
        have t6 : ¬ f = p := hfp
        have HLn : Hid ((out ++ [i - a]).length = k + 1) := by show _ = _; rw [List.length_append, HK.out]; rfl
        have HZc : Hid (zc (ns out) ++ [Value.int .i64 ((i : Int) - (a : Int))] = zc (ns (out ++ [i - a]))) := by show _ = _; rw [ns_append, zc_append, hia]; rfl
        clear hbk hnp hfp hia
        go_wp2_with (first | (go_at_call 180; refine HC.out.mono ?_; rintro e w1 ⟨rfl, B1⟩; have HB1 : Hid (Below w.heap.size w w1) := HB.out.trans (B1.mono HB.out.size); have hrow1 := own_keep hrow B1; clear B1 HB hrow; have hrow := hrow1; have HB := HB1; clear hrow1) | (go_at_call 162; refine (HCo.out _).mono ?_; rintro e w' ⟨rfl, rfl⟩) | (at_builtin; refine wpList_append_own _ rfl _ _ 22 rfl w.heap.size 3 i0 (.int .i64 0) 1 8 Tryz.underlying22 hi hz0 hz1 hz2 rfl (by decide) _ _ _ rfl (hrow.alloc _) ⟨w1.heap.size, 0, none⟩ 1 1 [.int .i64 ((i : Int) - (a : Int))] rfl rfl (news_row w1 [.int .i64 ((i : Int) - (a : Int))] _) (by simp [Value.oneCell']) (by unfold maxLen; omega) (by omega) (by have := HB.out.size; simp; omega) ?_; intro v' w3 hown' hgrow _; obtain ⟨Av', cv', rfl⟩ := own_slice3 hown'))
        rw [HZc.out] at hown'
        have HO3 := Lib.hid hown'
        have HB3 : Hid (Below w.heap.size w w3) := HB.out.trans (((Below.refl w.heap.size w1).alloc HB.out.size _).trans (grown_low hgrow (hrow.alloc _) (by have := HB.out.size; simp; omega)))
        clear hown' hgrow hrow
        go_wp2
        go_roundw
        case rel => exact ⟨i + 1, i, out ++ [i - a], by rw [HN.out]; omega, by go_num, rfl, by omega, by rw [HLn.out]; omega, by rw [HLn.out]; exact HBk.out, by rw [HLn.out]; exact HO3.out, HB3.out⟩
        case measure => simp [intOf]; omega
    · have e : F.drop i = [] := List.drop_of_length_le (by rw [HN.out]; omega)
      rw [e] at hbk
      have HMq : Hid (M = out) := by show _ = _; rw [← HMM.out, hbk]; simp [blk]
      have HB := Lib.hid hbel
      clear hbel hbk e
      generalize hk : out.length = k at *
      have HK := Lib.hid hk
      have HO := Lib.hid hrow
      clear hk hrow
      go_wp2
      go_ret
      exact ⟨_, _, by rw [HMq.out, HK.out]; rfl, by rw [HMq.out, HK.out]; exact HO.out, HB.out⟩

/-- Two lists and an error come back. -/
def TwoI (w : World) (l1 l2 : List Nat) (err : Int) (e : Ending) (w' : World) : Prop :=
  ∃ A1 c1 A2 c2, e = .returned (.tuple #[.slice A1 l1.length c1, .slice A2 l2.length c2, .int .i64 err]) ∧ (l1.length ≤ c1 ∧ (A1 = none → c1 = 0)) ∧ (l2.length ≤ c2 ∧ (A2 = none → c2 = 0)) ∧ RdV w' w'.heap.size A1 (zc (ns l1)) ∧ RdV w' w'.heap.size A2 (zc (ns l2)) ∧ Below w.heap.size w w'
/-- The same, in rows of the call's own. -/
def TwoO (w : World) (l1 l2 : List Nat) (err : Int) (e : Ending) (w' : World) : Prop :=
  ∃ A1 c1 A2 c2, e = .returned (.tuple #[.slice A1 l1.length c1, .slice A2 l2.length c2, .int .i64 err]) ∧ w'.ownsRow w.heap.size 3 1 (.slice A1 l1.length c1) l1.length (zc (ns l1)) ∧ w'.ownsRow w.heap.size 3 1 (.slice A2 l2.length c2) l2.length (zc (ns l2)) ∧ Below w.heap.size w w'
set_option maxHeartbeats 1000000 in
theorem blocks_e (xs : List Int) (n : Nat) (hn : xs.length = n) (hn2 : n ≤ 9223372036854775807) (ys : List Int) (m : Nat) (hm : ys.length = m) (hm2 : m ≤ 9223372036854775807) (e0 : Int) (he : pbE xs ys = e0) (h0 : e0 ≠ 0) (A1 A2 : Option Addr) (c1 c2 : Nat) (w : World) (h1 : RdV w w.heap.size A1 (zc xs)) (h2 : RdV w w.heap.size A2 (zc ys)) :
    Calls Tryz.prog 150 #[.slice A1 n c1, .slice A2 m c2] w (TwoI w [] [] e0) := by
  have HC := Lib.hid (gcheck_any xs n hn hn2 A1 c1 w h1)
  have HC2 : Hid (∀ V, Below w.heap.size w V → Calls Tryz.prog 43 #[.slice A2 m c2] V fun e w' => e = .returned (.int .i64 (rchk ys)) ∧ Below V.heap.size V w') := fun V hV => gcheck_any ys m hm hm2 A2 c2 V (h2.on hV)
  unfold pbE at he
  have t0 : (e0 != 0) = true := by simpa using h0
  by_cases hr : rchk xs = 0
  · rw [if_neg (by simpa using hr)] at he
    rw [hr] at HC
    rw [he] at HC2
    clear h1 h2 hn hm he h0 hr
    go_enter Tryz.func150, Tryz.ntmps150
    go_wp2_with fail
    refine HC.out.mono ?_
    rintro e w1 ⟨rfl, B1⟩
    have HB1 := Lib.hid B1; clear B1
    go_wp2_with fail
    refine (HC2.out w1 HB1.out).mono ?_
    rintro e w2 ⟨rfl, B2⟩
    have HB2 := Lib.hid (HB1.out.trans (B2.mono HB1.out.size)); clear B2
    go_wp2
    go_ret3
    exact ⟨none, 0, none, 0, rfl, ⟨Nat.le_refl _, fun _ => rfl⟩, ⟨Nat.le_refl _, fun _ => rfl⟩, .inl rfl, .inl rfl, HB2.out⟩
  · rw [if_pos (by simpa using hr)] at he
    rw [he] at HC
    clear h1 h2 hn hm he h0 hr HC2
    go_enter Tryz.func150, Tryz.ntmps150
    go_wp2_with fail
    refine HC.out.mono ?_
    rintro e w1 ⟨rfl, B1⟩
    have HB1 := Lib.hid B1; clear B1
    go_wp2
    go_ret3
    exact ⟨none, 0, none, 0, rfl, ⟨Nat.le_refl _, fun _ => rfl⟩, ⟨Nat.le_refl _, fun _ => rfl⟩, .inl rfl, .inl rfl, HB1.out⟩
theorem notin_step (F l : List Nat) (i : Nat) (h : i < l.length) : notin F (l.take (i + 1)) = notin F (l.take i) ++ (if inL F (l[i]?.getD 0) then [] else [l[i]?.getD 0]) := by
  rw [take_snocN l i h]
  unfold notin
  rw [List.filter_append]
  cases hh : inL F (l[i]?.getD 0) <;> simp [hh]
/-- At each round's head: what is left of the first ones. -/
def RtRel (F l : List Nat) (w : World) (v p : Value) (wr : World) : Prop :=
  ∃ i : Nat, i ≤ l.length ∧ p = .int .i64 (i : Int) ∧ wr.ownsRow w.heap.size 3 1 v (notin F (l.take i)).length (zc (ns (notin F (l.take i)))) ∧ Below w.heap.size w wr
theorem notin_len (F l : List Nat) : (notin F l).length ≤ l.length := List.length_filter_le _ _
set_option maxHeartbeats 4000000 in
theorem blocks_own (F l : List Nat) (hF : Rising F) (hl : Rising l) (n m : Nat) (hn : F.length = n) (hm : l.length = m) (M R : List Nat) (hM : bks F l = M) (hR : notin F l = R) (A1 A2 : Option Addr) (c1 c2 : Nat) (w : World) (h1 : RdV w w.heap.size A1 (zc (ns F))) (h2 : RdV w w.heap.size A2 (zc (ns l))) :
    Calls Tryz.prog 150 #[.slice A1 n c1, .slice A2 m c2] w (TwoO w M R 0) := by
  have h300 : m ≤ 300 := by have := hl.1; omega
  have HC : Hid (Calls Tryz.prog 43 #[.slice A1 n c1] w fun e w' => e = .returned (.int .i64 0) ∧ Below w.heap.size w w') := by
    have := gcheck_any (ns F) n (by rw [ns_length, hn]) (by have := hF.1; omega) A1 c1 w h1
    rwa [rchk_ok F hF] at this
  have HC2 : Hid (∀ V, Below w.heap.size w V → Calls Tryz.prog 43 #[.slice A2 m c2] V fun e w' => e = .returned (.int .i64 0) ∧ Below V.heap.size V w') := fun V hV => by
    have := gcheck_any (ns l) m (by rw [ns_length, hm]) (by omega) A2 c2 V (h2.on hV)
    rwa [rchk_ok l hl] at this
  have HCt : Hid (∀ x V, Below w.heap.size w V → Calls Tryz.prog 180 #[.slice A1 n c1, .int .i64 ((x : Nat) : Int)] V fun e w' => e = .returned (.bool (inL F x)) ∧ Below V.heap.size V w') := fun x V hV => pcont_any F (ris_lt F hF) (fun y hy => (ris_le F _ hF.2 y hy).2) n hn (by have := hF.1; omega) x A1 c1 V (h1.on hV)
  have HBo : Hid (∀ V, Below w.heap.size w V → Calls Tryz.prog 181 #[.slice A1 n c1, .slice A2 m c2] V (OwnI V M)) := fun V hV => blocksOf_in F l hF hl n m hn hm M hM A1 A2 c1 c2 V (h1.on hV) (h2.on hV)
  obtain ⟨i0, hi, hz0, hz1, hz2⟩ := info_parts info3
  have HX := Lib.hid h2; have HN := Lib.hid hm; have HRR := Lib.hid hR
  clear h1 h2 hn hm hM hR hF hl
  go_enter Tryz.func150, Tryz.ntmps150
  go_wp2_with fail
  refine HC.out.mono ?_
  rintro e w1 ⟨rfl, B1⟩
  have HB1 := Lib.hid B1; clear B1
  go_wp2_with fail
  refine (HC2.out w1 HB1.out).mono ?_
  rintro e w2 ⟨rfl, B2⟩
  have HB2 := Lib.hid (HB1.out.trans (B2.mono HB1.out.size)); clear B2
  clear HC HC2
  go_wp2
  go_loopw [9, 24] (fun v p wr => RtRel F l w v p wr) (fun _ p _ => m - (intOf p).toNat)
  case atStart => exact ⟨0, Nat.zero_le _, rfl, ⟨rfl, .inl ⟨rfl, rfl⟩⟩, HB2.out⟩
  case round =>
    obtain ⟨i, hi', rfl, hrow, hbel⟩ := hrel
    rw [HN.out] at hi'
    obtain ⟨Av, cv, rfl⟩ := own_slice3 hrow
    by_cases hlt : i < m
    · have hin : i < l.length := by rw [HN.out]; exact hlt
      obtain ⟨b, off, rfl, hb, hcx⟩ := (HX.out.on hbel).at_ (ns_get l i hin)
      have hst := notin_step F l i hin
      have hle := Nat.le_trans (notin_len F (l.take i)) (List.length_take_le i l)
      have HB := Lib.hid hbel
      generalize l[i]?.getD 0 = x at *
      have HC := Lib.hid (HCt.out x wr hbel)
      generalize notin F (l.take i) = out at *
      clear hbel
      generalize hk : out.length = k at *
      have HK := Lib.hid hk
      clear hk
      generalize inL F x = f at *
      cases f with
      | true =>
        rw [if_pos rfl, List.append_nil] at hst
        have HSt := Lib.hid hst
        clear hst
        go_wp2_with (go_at_call 180; refine HC.out.mono ?_; rintro e w1 ⟨rfl, B1⟩; have HB1 : Hid (Below w.heap.size w w1) := HB.out.trans (B1.mono HB.out.size); have hrow1 := own_keep hrow B1; clear B1)
        go_roundw
        case rel => exact ⟨i + 1, by rw [HN.out]; omega, by go_num, by rw [HSt.out, HK.out]; exact hrow1, HB1.out⟩
        case measure => simp [intOf]; omega
      | false =>
        rw [if_neg (by decide)] at hst
        have HSt := Lib.hid hst
        have HLn : Hid ((out ++ [x]).length = k + 1) := by show _ = _; rw [List.length_append, HK.out]; rfl
        have HZc : Hid (zc (ns out) ++ [Value.int .i64 (x : Int)] = zc (ns (out ++ [x]))) := by show _ = _; rw [ns_append, zc_append]; rfl
        clear hst
        go_wp2_with (first | (go_at_call 180; refine HC.out.mono ?_; rintro e w1 ⟨rfl, B1⟩; have HB1 : Hid (Below w.heap.size w w1) := HB.out.trans (B1.mono HB.out.size); have hrow1 := own_keep hrow B1; clear B1 HB hrow; have hrow := hrow1; have HB := HB1; clear hrow1) | (at_builtin; refine wpList_append_own _ rfl _ _ 22 rfl w.heap.size 3 i0 (.int .i64 0) 1 8 Tryz.underlying22 hi hz0 hz1 hz2 rfl (by decide) _ _ _ rfl (hrow.alloc _) ⟨w1.heap.size, 0, none⟩ 1 1 [.int .i64 (x : Int)] rfl rfl (news_row w1 [.int .i64 (x : Int)] _) (by simp [Value.oneCell']) (by unfold maxLen; omega) (by omega) (by have := HB.out.size; simp; omega) ?_; intro v' w3 hown' hgrow _; obtain ⟨Av', cv', rfl⟩ := own_slice3 hown'))
        rw [HZc.out] at hown'
        have HO3 := Lib.hid hown'
        have HB3 : Hid (Below w.heap.size w w3) := HB.out.trans (((Below.refl w.heap.size w1).alloc HB.out.size _).trans (grown_low hgrow (hrow.alloc _) (by have := HB.out.size; simp; omega)))
        clear hown' hgrow hrow
        go_wp2
        go_roundw
        case rel => exact ⟨i + 1, by rw [HN.out]; omega, by go_num, by rw [HSt.out, HLn.out]; exact HO3.out, HB3.out⟩
        case measure => simp [intOf]; omega
    · have e : l.take i = l := List.take_of_length_le (by rw [HN.out]; omega)
      have hLq : Hid ((notin F (l.take i)).length = R.length) := by show _ = _; rw [e, HRR.out]
      rw [e, HRR.out] at hrow
      have HO := Lib.hid hrow
      have HB := Lib.hid hbel
      have HBk := Lib.hid (HBo.out wr hbel)
      clear hrow hbel e
      go_wp2_with fail
      refine HBk.out.mono ?_
      rintro e w3 ⟨A3, c3, rfl, k3, k4⟩
      have HB3 : Hid (Below w.heap.size w w3) := HB.out.trans (k4.mono HB.out.size)
      have HR3 : Hid (w3.ownsRow w.heap.size 3 1 (.slice A3 M.length c3) M.length (zc (ns M))) := own_base k3 HB.out.size
      have HO3 : Hid (w3.ownsRow w.heap.size 3 1 (.slice Av R.length cv) R.length (zc (ns R))) := own_keep HO.out k4
      clear k3 k4
      go_wp2
      go_ret3
      exact ⟨_, _, _, _, by rw [← hLq.out]; rfl, HR3.out, HO3.out, HB3.out⟩
theorem twoO {w : World} {l1 l2 : List Nat} {err : Int} {e : Ending} {w' : World} (h : TwoO w l1 l2 err e w') : TwoI w l1 l2 err e w' := by
  obtain ⟨A1, c1, A2, c2, a, r1, r2, b⟩ := h
  exact ⟨A1, c1, A2, c2, a, ⟨own_cap r1, own_none r1⟩, ⟨own_cap r2, own_none r2⟩, own_rdv r1, own_rdv r2, b⟩
theorem blocks_in (F l : List Nat) (hF : Rising F) (hl : Rising l) (n m : Nat) (hn : F.length = n) (hm : l.length = m) (M R : List Nat) (hM : bks F l = M) (hR : notin F l = R) (A1 A2 : Option Addr) (c1 c2 : Nat) (w : World) (h1 : RdV w w.heap.size A1 (zc (ns F))) (h2 : RdV w w.heap.size A2 (zc (ns l))) :
    Calls Tryz.prog 150 #[.slice A1 n c1, .slice A2 m c2] w (TwoI w M R 0) :=
  (blocks_own F l hF hl n m hn hm M R hM hR A1 A2 c1 c2 w h1 h2).mono fun _ _ h => twoO h
theorem pblocks_any (xs : List Int) (n : Nat) (hn : xs.length = n) (hn2 : n ≤ 9223372036854775807) (ys : List Int) (m : Nat) (hm : ys.length = m) (hm2 : m ≤ 9223372036854775807) (A1 A2 : Option Addr) (c1 c2 : Nat) (w : World) (h1 : RdV w w.heap.size A1 (zc xs)) (h2 : RdV w w.heap.size A2 (zc ys)) :
    Calls Tryz.prog 150 #[.slice A1 n c1, .slice A2 m c2] w (TwoI w (pbB xs ys) (pbR xs ys) (pbE xs ys)) := by
  by_cases h0 : pbE xs ys = 0
  · have h0' := h0
    unfold pbE at h0'
    by_cases hr : rchk xs = 0
    · rw [if_neg (by simpa using hr)] at h0'
      obtain ⟨F, rfl, hF⟩ := rchk_zero xs hr
      obtain ⟨l, rfl, hl⟩ := rchk_zero ys h0'
      rw [ns_length] at hn hm
      have e1 : pbB (ns F) (ns l) = bks F l := by unfold pbB; rw [if_neg (by simpa using h0), tn_ns, tn_ns]
      have e2 : pbR (ns F) (ns l) = notin F l := by unfold pbR; rw [if_neg (by simpa using h0), tn_ns, tn_ns]
      rw [h0, e1, e2]
      exact blocks_in F l hF hl n m hn hm _ _ rfl rfl A1 A2 c1 c2 w h1 h2
    · rw [if_pos (by simpa using hr)] at h0'; exact absurd h0' hr
  · have e1 : pbB xs ys = [] := by unfold pbB; rw [if_pos (by simpa using h0)]
    have e2 : pbR xs ys = [] := by unfold pbR; rw [if_pos (by simpa using h0)]
    rw [e1, e2]
    exact blocks_e xs n hn hn2 ys m hm hm2 _ rfl h0 A1 A2 c1 c2 w h1 h2
set_option maxHeartbeats 1000000 in
/-- What Join answers. -/
theorem pjoin_any (xs : List Int) (n : Nat) (hn : xs.length = n) (hn2 : n ≤ 9223372036854775807) (bs : List Int) (m : Nat) (hm : bs.length = m) (hm2 : m ≤ 9223372036854775807) (ys : List Int) (k : Nat) (hk : ys.length = k) (hk2 : k ≤ 9223372036854775807) (A1 A2 A3 : Option Addr) (c1 c2 c3 : Nat) (hA1 : A1 = none → c1 = 0) (hc1 : n ≤ c1) (hA3 : A3 = none → c3 = 0) (w : World) (h1 : RdV w w.heap.size A1 (zc xs)) (h2 : RdV w w.heap.size A2 (zc bs)) (h3 : RdV w w.heap.size A3 (zc ys)) :
    Calls Tryz.prog 122 #[.slice A1 n c1, .slice A2 m c2, .slice A3 k c3] w (IntsP w (jnA xs bs ys).1 (jnA xs bs ys).2) := by
  have HP := Lib.hid (pcopy_any xs n hn hn2 bs m hm hm2 A1 A2 c1 c2 hA1 hc1 w h1 h2)
  have HC : Hid (∀ V, Below w.heap.size w V → Calls Tryz.prog 43 #[.slice A3 k c3] V fun e w' => e = .returned (.int .i64 (rchk ys)) ∧ Below V.heap.size V w') := fun V hV => gcheck_any ys k hk hk2 A3 c3 V (h3.on hV)
  by_cases hc : cpE xs bs = 0
  · by_cases hr : rchk ys = 0
    · obtain ⟨l, rfl, hl⟩ := rchk_zero ys hr
      have hz : rchk xs = 0 := by
        by_cases hz : rchk xs = 0
        · exact hz
        · unfold cpE at hc; rw [if_pos (by simpa using hz)] at hc; exact hc
      obtain ⟨F, rfl, hF⟩ := rchk_zero xs hz
      have e : jnA (ns F) bs (ns l) = un (cpA (ns F) bs) l := by
        have e1 : jnE (ns F) bs (ns l) = 0 := by unfold jnE; rw [if_neg (by simpa using hc)]; exact hr
        have e2 : cpA (ns F) bs = cp true (tn bs) (tn (ns F)) := by unfold cpA; rw [if_neg (by simpa using hc)]
        unfold jnA
        rw [if_neg (by simpa using e1), ← e2, tn_ns l]
      rw [e]
      rw [ns_length] at hk
      have hcl : (cpA (ns F) bs).length ≤ 300 := by
        unfold cpA
        rw [if_neg (by simpa using hc), tn_ns]
        exact Nat.le_trans (cp_len (tn bs) true F).length_le hF.1
      rw [hc] at HP
      rw [hr] at HC
      generalize hM : cpA (ns F) bs = M at *
      have HU : Hid (∀ A c V, (A = none → c = 0) → RdV V V.heap.size A (zc (ns M)) → Below w.heap.size w V → Calls Tryz.prog 163 #[.slice A M.length c, .slice A3 k c3] V (IntsP V (un M l).1 (un M l).2)) := fun A c V hA hV hb => union_any M l M.length k rfl hk (by omega) (by have := hl.1; omega) _ _ rfl A A3 c c3 hA hA3 V hV (h3.on hb)
      clear h1 h2 h3 hn hm hk e hc hr hM hz
      generalize un M l = U at *
      go_enter Tryz.func122, Tryz.ntmps122
      go_wp2_with fail
      refine HP.out.mono ?_
      rintro e w1 ⟨A, c, rfl, k1, k2, k3, k4⟩
      have HB1 := Lib.hid k4; have HR1 := Lib.hid k3
      clear k3 k4
      go_wp2_with fail
      refine (HC.out w1 HB1.out).mono ?_
      rintro e w2 ⟨rfl, B2⟩
      have HB2 := Lib.hid (HB1.out.trans (B2.mono HB1.out.size))
      have HUu := Lib.hid (HU.out A c w2 k2 (HR1.out.on B2) HB2.out)
      clear B2 HU
      generalize M.length = ml at *
      go_wp2_with fail
      refine HUu.out.mono ?_
      rintro e w3 ⟨A5, c5, rfl, j1, j2, j3, j4⟩
      have HB3 := Lib.hid (HB2.out.trans (j4.mono HB2.out.size)); have HR3 := Lib.hid j3
      clear j3 j4
      go_wp2
      go_ret2
      exact ⟨_, _, rfl, j1, j2, HR3.out, HB3.out⟩
    · have e : jnA xs bs ys = ([], rchk ys) := by
        have e1 : jnE xs bs ys = rchk ys := by unfold jnE; rw [if_neg (by simpa using hc)]
        unfold jnA
        rw [e1, if_pos (by simpa using hr)]
      rw [e]
      rw [hc] at HP
      generalize rchk ys = er at *
      have t0 : (er != 0) = true := by simpa using hr
      generalize (cpA xs bs) = M at *
      clear h1 h2 h3 hn hm hk e hc hr
      generalize M.length = ml at *
      go_enter Tryz.func122, Tryz.ntmps122
      go_wp2_with fail
      refine HP.out.mono ?_
      rintro e w1 ⟨A, c, rfl, k1, k2, k3, k4⟩
      have HB1 := Lib.hid k4
      clear k3 k4
      go_wp2_with fail
      refine (HC.out w1 HB1.out).mono ?_
      rintro e w2 ⟨rfl, B2⟩
      have HB2 := Lib.hid (HB1.out.trans (B2.mono HB1.out.size))
      clear B2
      go_wp2
      go_ret2
      exact ⟨none, 0, rfl, Nat.le_refl _, fun _ => rfl, .inl rfl, HB2.out⟩
  · have e : jnA xs bs ys = ([], cpE xs bs) := by
      have e1 : jnE xs bs ys = cpE xs bs := by unfold jnE; rw [if_pos (by simpa using hc)]
      unfold jnA
      rw [e1, if_pos (by simpa using hc)]
    rw [e]
    generalize cpE xs bs = er at *
    have t0 : (er != 0) = true := by simpa using hc
    clear h1 h2 h3 hn hm hk e hc HC
    generalize (cpA xs bs) = M at *
    generalize M.length = ml at *
    go_enter Tryz.func122, Tryz.ntmps122
    go_wp2_with fail
    refine HP.out.mono ?_
    rintro e w1 ⟨A, c, rfl, k1, k2, k3, k4⟩
    have HB1 := Lib.hid k4
    clear k3 k4
    go_wp2
    go_ret2
    exact ⟨none, 0, rfl, Nat.le_refl _, fun _ => rfl, .inl rfl, HB1.out⟩
end

section
set_option maxRecDepth 100000
set_option linter.unusedVariables false
open Go.RowKit Go.Shelf

set_option maxHeartbeats 1000000 in
theorem merge_e (r : List Ri) (n1 : Nat) (hn1 : r.length = n1) (hz1 : n1 ≤ 9223372036854775807) (xs : List Int) (n2 : Nat) (hn2 : xs.length = n2) (hz2 : n2 ≤ 9223372036854775807) (h0 : mgE0 r xs ≠ 0) (A1 A2 : Option Addr) (c1 c2 : Nat) (w : World) (h1 : RdV w w.heap.size A1 (rcs r)) (h2 : RdV w w.heap.size A2 (zc xs)) :
    Calls Tryz.prog 160 #[.slice A1 n1 c1, .slice A2 n2 c2] w (IntsP w [] (mgE0 r xs)) := by
  have HC1 := Lib.hid (rnck_any r n1 hn1 hz1 A1 c1 w h1)
  have HC2 : Hid (∀ V, Below w.heap.size w V → Calls Tryz.prog 43 #[.slice A2 n2 c2] V fun e w' => e = .returned (.int .i64 (rchk xs)) ∧ Below V.heap.size V w') := fun V hV => gcheck_any xs n2 hn2 hz2 A2 c2 V (h2.on hV)
  unfold mgE0 at *
  clear h1 h2 hn1 hn2
  by_cases hr : rkchk r = 0
  · rw [if_neg (by simpa using hr)] at *
    rw [hr] at HC1
    generalize rchk xs = e2 at *
    have t0 : (e2 != 0) = true := by simpa using h0
    clear h0 hr
    go_enter Tryz.func160, Tryz.ntmps160
    go_wp2_with fail
    refine HC1.out.mono ?_
    rintro e w1 ⟨rfl, B1⟩
    have HB1 := Lib.hid B1; clear B1
    go_wp2_with fail
    refine (HC2.out w1 HB1.out).mono ?_
    rintro e w2 ⟨rfl, B2⟩
    have HB2 := Lib.hid (HB1.out.trans (B2.mono HB1.out.size)); clear B2
    go_wp2
    go_ret2
    exact ⟨none, 0, rfl, Nat.le_refl _, fun _ => rfl, .inl rfl, HB2.out⟩
  · rw [if_pos hr] at *
    generalize rkchk r = e1 at *
    have t0 : (e1 != 0) = true := by simpa using hr
    clear h0 hr HC2
    go_enter Tryz.func160, Tryz.ntmps160
    go_wp2_with fail
    refine HC1.out.mono ?_
    rintro e w1 ⟨rfl, B1⟩
    have HB1 := Lib.hid B1; clear B1
    go_wp2
    go_ret2
    exact ⟨none, 0, rfl, Nat.le_refl _, fun _ => rfl, .inl rfl, HB1.out⟩

theorem rz_at (R : List Rn) (i : Nat) (h : i < R.length) : (rz R)[i]?.getD (0, 0) = (((R[i]?.getD (0, 0)).1 : Int), ((R[i]?.getD (0, 0)).2 : Int)) := by
  unfold rz; rw [List.getElem?_map, List.getElem?_eq_getElem h]; rfl
theorem mem_at (R : List Rn) (i : Nat) (h : i < R.length) : R[i]?.getD (0, 0) ∈ R := by rw [List.getElem?_eq_getElem h]; exact List.getElem_mem h
theorem take_snocR (R : List Rn) (i : Nat) (h : i < R.length) : R.take (i + 1) = R.take i ++ [R[i]?.getD (0, 0)] := by
  rw [List.take_succ_eq_append_getElem h, List.getElem?_eq_getElem h]; rfl
theorem flat_len (R : List Rn) (h : ∀ p ∈ R, p.2 ≤ 300) : (flatR R).length ≤ 300 * R.length := by
  induction R with
  | nil => simp [flatR]
  | cons p R ih =>
    rw [flatR_cons, List.length_append, nums_length, List.length_cons]
    have := ih (fun q hq => h q (by simp [hq]))
    have := h p (by simp)
    omega
theorem rdv_news {w : World} {B : Nat} {a : Addr} {vs : List Value} (h : RdV w B (some a) vs) : ∀ j u, vs[j]? = some u → w.cell? (a.add j) = some u := by
  intro j u hu
  obtain ⟨b, off, e, hb, hc⟩ := h.at_ hu
  cases e
  rw [add_plR]; exact hc
/-- At each round's head: the numbers of the first i runs. -/
def MgRel (R : List Rn) (w : World) (v p : Value) (wr : World) : Prop :=
  ∃ i : Nat, i ≤ R.length ∧ p = .int .i64 (i : Int) ∧ wr.ownsRow w.heap.size 3 1 v (flatR (R.take i)).length (zc (ns (flatR (R.take i)))) ∧ Below w.heap.size w wr
set_option maxHeartbeats 4000000 in
theorem merge_in (R : List Rn) (hR : OkR R) (M1 : List Nat) (M2 : Int) (n1 : Nat) (hn1 : R.length = n1) (l : List Nat) (hl : Rising l) (hM : mg R l = (M1, M2)) (n2 : Nat) (hn2 : l.length = n2) (A1 A2 : Option Addr) (c1 c2 : Nat) (hA2 : A2 = none → c2 = 0) (w : World) (h1 : RdV w w.heap.size A1 (rcs (rz R))) (h2 : RdV w w.heap.size A2 (zc (ns l))) :
    Calls Tryz.prog 160 #[.slice A1 n1 c1, .slice A2 n2 c2] w (IntsP w M1 M2) := by
  have h300 : n1 ≤ 300 := by have := hR.1; omega
  have h3002 : n2 ≤ 300 := by have := hl.1; omega
  have HC1 : Hid (Calls Tryz.prog 194 #[.slice A1 n1 c1] w fun e w' => e = .returned (.int .i64 0) ∧ Below w.heap.size w w') := by
    have := rnck_any (rz R) n1 (by rw [rz_length, hn1]) (by omega) A1 c1 w h1
    rwa [rkchk_ok R hR] at this
  have HC2 : Hid (∀ V, Below w.heap.size w V → Calls Tryz.prog 43 #[.slice A2 n2 c2] V fun e w' => e = .returned (.int .i64 0) ∧ Below V.heap.size V w') := fun V hV => by
    have := gcheck_any (ns l) n2 (by rw [ns_length, hn2]) (by omega) A2 c2 V (h2.on hV)
    rwa [rchk_ok l hl] at this
  have HFl : Hid (∀ i, i ≤ n1 → (flatR (R.take i)).length ≤ 90000) := fun i hi => by
    have := flat_len (R.take i) (fun p hp => (hR.2.2 p (List.mem_of_mem_take hp)).1)
    have := List.length_take_le i R
    omega
  have HBd : Hid (∀ p ∈ R, p.1 ≤ 1048576 ∧ p.2 ≤ 300) := fun p hp => by have := hR.2.2 p hp; have := sep_pos R _ hR.2.1 p hp; omega
  obtain ⟨i0, hi, hz0, hz1, hz2⟩ := info_parts info3
  have HX1 := Lib.hid h1; have HX2 := Lib.hid h2; have HN1 := Lib.hid hn1; have HN2 := Lib.hid hn2; have HMM := Lib.hid hM
  clear h1 h2 hn1 hn2 hR hl hM
  go_enter Tryz.func160, Tryz.ntmps160
  go_wp2_with fail
  refine HC1.out.mono ?_
  rintro e w1 ⟨rfl, B1⟩
  have HB1 := Lib.hid B1; clear B1
  go_wp2_with fail
  refine (HC2.out w1 HB1.out).mono ?_
  rintro e w2 ⟨rfl, B2⟩
  have HB2 := Lib.hid (HB1.out.trans (B2.mono HB1.out.size)); clear B2 HB1
  go_wp2
  go_loopw [8, 23] (fun v p wr => MgRel R w v p wr) (fun _ p _ => n1 - (intOf p).toNat)
  case atStart => exact ⟨0, Nat.zero_le _, rfl, ⟨rfl, .inl ⟨rfl, rfl⟩⟩, HB2.out⟩
  case round =>
    obtain ⟨i, hi', rfl, hrow, hbel⟩ := hrel
    rw [HN1.out] at hi'
    by_cases hlt : i < n1
    · have hin : i < R.length := by rw [HN1.out]; exact hlt
      obtain ⟨r0, r1⟩ := rcs_at (rz R) i (by rw [rz_length]; exact hin)
      rw [rz_at R i hin] at r0 r1
      obtain ⟨b, off, rfl, hb, k0⟩ := (HX1.out.on hbel).at_ r0
      obtain ⟨b2, off2, hA2', hb2, k1⟩ := (HX1.out.on hbel).at_ r1
      simp only [Option.some.injEq, Addr.mk.injEq, and_true] at hA2'
      obtain ⟨rfl, rfl⟩ := hA2'
      rw [← Nat.add_assoc] at k1
      have hbd := HBd.out _ (mem_at R i hin)
      have htk := take_snocR R i hin
      have hfl := HFl.out i hi'
      generalize R[i]?.getD (0, 0) = x at *
      obtain ⟨f, m⟩ := x
      simp only at k0 k1 hbd
      have HT : Hid (flatR (R.take (i + 1)) = flatR (R.take i) ++ List.range' f m) := by show _ = _; rw [htk, flatR_snoc]; rfl
      have HB := Lib.hid hbel
      have hrow2 := (hrow.alloc (.cells #[.int .i64 (f : Int), .int .i64 (m : Int)] 134)).alloc (.cells #[.int .i64 (f : Int), .int .i64 (m : Int)] 134)
      have hbox2 : ((wr.alloc (.cells #[.int .i64 (f : Int), .int .i64 (m : Int)] 134)).alloc (.cells #[.int .i64 (f : Int), .int .i64 (m : Int)] 134)).heap[wr.heap.size + 1]? = some (.cells #[.int .i64 (f : Int), .int .i64 (m : Int)] 134 (0, 0)) := by
        have := World.alloc_heap_new (wr.alloc (.cells #[.int .i64 (f : Int), .int .i64 (m : Int)] 134)) (.cells #[.int .i64 (f : Int), .int .i64 (m : Int)] 134)
        rwa [World.size_alloc] at this
      obtain ⟨Av, cv, rfl⟩ := own_slice3 hrow
      have HA := Lib.hid (appseq_in f m hbd.1 hbd.2 (wr.heap.size + 1) w.heap.size _ _ (by omega) _ _ hrow2 hbox2 (by have := hbel.size; simp; omega))
      have hb2 : Below w.heap.size w ((wr.alloc (.cells #[.int .i64 (f : Int), .int .i64 (m : Int)] 134)).alloc (.cells #[.int .i64 (f : Int), .int .i64 (m : Int)] 134)) := (hbel.alloc hbel.size _).alloc (by have := hbel.size; simp; omega) _
      have HBB := Lib.hid hb2
      clear hrow hrow2 hbox2 hb2 hbel htk hbd r0 r1
      generalize hk : (flatR (R.take i)).length = k at *
      have HKl := Lib.hid hk; clear hk
      go_wp2_with fail
      refine (callsIn_wide.1 (nums_of 4 _ _ _)).mono ?_
      rintro e w' ⟨rfl, rfl⟩
      go_wp2_with fail
      refine HA.out.mono ?_
      rintro e w3 ⟨v', rfl, hown', hfr⟩
      obtain ⟨Av', cv', rfl⟩ := own_slice3 hown'
      have HO3 := Lib.hid hown'
      have HB3 : Hid (Below w.heap.size w w3) := HBB.out.trans (hfr.below (fun j hj => ⟨.inl hj, by have := HB.out.size; simp; omega⟩))
      clear hown' hfr
      go_wp2
      go_roundw
      case rel => exact ⟨i + 1, by rw [HN1.out]; omega, by go_num, by rw [HT.out, List.length_append, HKl.out, List.length_range', ns_append, zc_append]; exact HO3.out, HB3.out⟩
      case measure => simp [intOf]; omega
    · have e : R.take i = R := List.take_of_length_le (by rw [HN1.out]; omega)
      rw [e] at hrow
      have hfl := HFl.out n1 (Nat.le_refl _)
      rw [List.take_of_length_le (by rw [HN1.out]; omega)] at hfl
      obtain rfl : i = n1 := by omega
      obtain ⟨Av, cv, rfl⟩ := own_slice3 hrow
      have HB0 := Lib.hid hbel
      have hX2 := HX2.out.on hbel
      have HU := Lib.hid (union_any (flatR R) l (flatR R).length n2 rfl HN2.out (by omega) (by omega) M1 M2 HMM.out Av A2 cv c2 (own_none hrow) hA2 wr (own_rdv hrow) hX2)
      clear hbel e hrow hX2 HC1 HC2 HB2
      generalize (flatR R).length = N at *
      go_wp2_with fail
      refine HU.out.mono ?_
      rintro e w3 ⟨A3, c3, rfl, k1, k2, k3, k4⟩
      have HB3 : Hid (Below w.heap.size w w3) := HB0.out.trans (k4.mono HB0.out.size)
      have HR3 := Lib.hid k3
      clear k3 k4 HU
      go_wp2
      go_ret2
      exact ⟨A3, c3, rfl, k1, k2, HR3.out, HB3.out⟩
theorem merge_any (r : List Ri) (n1 : Nat) (hn1 : r.length = n1) (hz1 : n1 ≤ 9223372036854775807) (xs : List Int) (n2 : Nat) (hn2 : xs.length = n2) (hz2 : n2 ≤ 9223372036854775807) (A1 A2 : Option Addr) (c1 c2 : Nat) (hA2 : A2 = none → c2 = 0) (w : World) (h1 : RdV w w.heap.size A1 (rcs r)) (h2 : RdV w w.heap.size A2 (zc xs)) :
    Calls Tryz.prog 160 #[.slice A1 n1 c1, .slice A2 n2 c2] w (IntsP w (mgA r xs).1 (mgA r xs).2) := by
  by_cases h0 : mgE0 r xs = 0
  · obtain ⟨R, l, rfl, hR, rfl, hl⟩ := mgA_zero r xs h0
    rw [mgA_ok R hR l hl]
    exact merge_in R hR _ _ n1 (by rw [rz_length] at hn1; exact hn1) l hl rfl n2 (by rw [ns_length] at hn2; exact hn2) A1 A2 c1 c2 hA2 w h1 h2
  · have e : mgA r xs = ([], mgE0 r xs) := by unfold mgA; rw [if_pos h0]
    rw [e]
    exact merge_e r n1 hn1 hz1 xs n2 hn2 hz2 h0 A1 A2 c1 c2 w h1 h2
set_option maxHeartbeats 400000 in
theorem count_any (r : List Ri) (n1 : Nat) (hn1 : r.length = n1) (hz1 : n1 ≤ 9223372036854775807) (M1 : List Nat) (M2 : Int) (hM : mgA r [] = (M1, M2)) (A1 : Option Addr) (c1 : Nat) (w : World) (h1 : RdV w w.heap.size A1 (rcs r)) :
    Calls Tryz.prog 158 #[.slice A1 n1 c1] w fun e w' => e = .returned (.tuple #[.int .i64 (M1.length : Int), .int .i64 M2]) ∧ Below w.heap.size w w' := by
  have hm := merge_any r n1 hn1 hz1 [] 0 rfl (by decide) A1 none c1 0 (fun _ => rfl) w h1 (.inl rfl)
  rw [hM] at hm
  have HM := Lib.hid hm
  clear hm h1 hn1 hM
  go_enter Tryz.func158, Tryz.ntmps158
  go_wp2_with fail
  refine HM.out.mono ?_
  rintro e w1 ⟨A, c, rfl, -, -, -, B1⟩
  have HB1 := Lib.hid B1; clear B1
  go_wp2
  go_ret2
  exact ⟨rfl, HB1.out⟩
end
end Go.Proofs.YtcffndfbkbchjaaGreat
