/- What Get, Next and Check of fano answer, for whatever they are handed; no condition but those that each fact names. -/
import Derived.Test.YtkbelhclcpepaaaJYYRead
import Derived.Deep.LoopGhost
import Derived.Deep.Draws
import Derived.BigQuiet
namespace Go.Proofs.Ytkbelhclcpepaaa
set_option maxRecDepth 100000
set_option linter.unusedVariables false
open Go.RowKit Go.Shelf

set_option maxHeartbeats 400000 in
theorem cnan_any (x : Int) (w : World) : Calls Try.prog 101 #[.int .i64 x] w fun e w' => e = .returned (.bool false) ∧ w = w' := by
  have t1 : (x != x) = false := by simp
  go_enter Try.func101, Try.ntmps101
  go_wp2
  go_ret
  exact ⟨by simp, rfl⟩
set_option maxHeartbeats 400000 in
theorem snan_any (x : Int) (w : World) : Calls Try.prog 98 #[.int .i64 x] w fun e w' => e = .returned (.bool false) ∧ w = w' := by
  have t1 : (x != x) = false := by simp
  go_enter Try.func98, Try.ntmps98
  go_wp2
  go_ret
  exact ⟨by simp, rfl⟩
set_option maxHeartbeats 400000 in
theorem less_any (x y : Int) (w : World) : Calls Try.prog 97 #[.int .i64 x, .int .i64 y] w fun e w' => e = .returned (.bool (decide (x < y))) ∧ w = w' := by
  go_enter Try.func97, Try.ntmps97
  go_wp2_with (go_at_call 101; refine (cnan_any _ _).mono ?_; rintro e w' ⟨rfl, rfl⟩)
  go_ret
  exact ⟨rfl, rfl⟩

/-- At each round's head: all ahead are less, none behind is. -/
def BsRel (l : List Nat) (x : Int) (w : World) (p q : Value) (wr : World) : Prop :=
  ∃ lo hi : Nat, p = .int .i64 (lo : Int) ∧ q = .int .i64 (hi : Int) ∧ lo ≤ hi ∧ hi ≤ l.length ∧ Below w.heap.size w wr ∧ (∀ t, t < lo → ((l[t]?.getD 0 : Nat) : Int) < x) ∧ (∀ t, hi ≤ t → t < l.length → x ≤ ((l[t]?.getD 0 : Nat) : Int))
set_option maxHeartbeats 4000000 in
theorem findB_any (l : List Nat) (hp : ∀ i j, i < j → j < l.length → l[i]?.getD 0 ≤ l[j]?.getD 0) (hle : ∀ y ∈ l, y ≤ 1048576) (n : Nat) (hn : l.length = n) (hn2 : n ≤ 1000000) (x : Int) (A : Option Addr) (c : Nat) (w : World) (h : RdV w w.heap.size A (zc (ns l))) :
    Calls Try.prog 83 #[.slice A n c, .int .i64 x] w fun e w' => (∃ (i : Nat) (b : Bool), e = .returned (.tuple #[.int .i64 (i : Int), .bool b]) ∧ i ≤ l.length ∧ (∀ t, t < i → ((l[t]?.getD 0 : Nat) : Int) < x) ∧ (∀ t, i ≤ t → t < l.length → x ≤ ((l[t]?.getD 0 : Nat) : Int))) ∧ Below w.heap.size w w' := by
  have HX := Lib.hid h; have HN := Lib.hid hn; have HP := Lib.hid hp
  have HLe := Lib.hid hle
  clear h hn hp hle
  go_enter Try.func83, Try.ntmps83
  go_wp2
  go_loopw [7, 8] (fun p q wr => BsRel l x w p q wr) (fun p q _ => (intOf q).toNat - (intOf p).toNat)
  case atStart => exact ⟨0, n, rfl, rfl, Nat.zero_le _, by rw [HN.out]; exact Nat.le_refl _, Below.refl _ _, fun t h => absurd h (Nat.not_lt_zero _), fun t h1 h2 => by rw [HN.out] at h2; omega⟩
  case round =>
    obtain ⟨lo, hi, rfl, rfl, hlh, hin, hbel, hlo, hhi⟩ := hrel
    rw [HN.out] at hin
    by_cases hlt : lo < hi
    · have hm : (lo + hi) / 2 < l.length := by rw [HN.out]; omega
      obtain ⟨b, off, rfl, hb, hc1⟩ := (HX.out.on hbel).at_ (ns_get l ((lo + hi) / 2) hm)
      have hy := HLe.out _ (at_mem l _ hm)
      have HI := Lib.hid (And.intro hlo hhi); have HB := Lib.hid hbel
      clear hlo hhi hbel
      by_cases hyx : ((l[(lo + hi) / 2]?.getD 0 : Nat) : Int) < x
      · have HS : Hid (∀ t, t < (lo + hi) / 2 + 1 → ((l[t]?.getD 0 : Nat) : Int) < x) := fun t ht => by
          by_cases e : t = (lo + hi) / 2
          · rw [e]; exact hyx
          · have := HP.out t ((lo + hi) / 2) (by omega) hm; omega
        generalize l[(lo + hi) / 2]?.getD 0 = y at *
        go_wp2_with (go_at_call 97; refine (less_any _ _ _).mono ?_; rintro e w' ⟨rfl, rfl⟩)
        go_roundw
        case rel => exact ⟨(lo + hi) / 2 + 1, hi, by rw [show ((lo : Int) + (hi : Int)) / 2 + 1 = (((lo + hi) / 2 + 1 : Nat) : Int) by omega], rfl, by omega, by rw [HN.out]; exact hin, by first | exact HB.out | exact HB.out.drew | exact below_drewN HB.out _, HS.out, HI.out.2⟩
        case measure => simp [intOf]; omega
      · have HS : Hid (∀ t, (lo + hi) / 2 ≤ t → t < l.length → x ≤ ((l[t]?.getD 0 : Nat) : Int)) := fun t ht htn => by
          by_cases e : t = (lo + hi) / 2
          · rw [e]; omega
          · have := HP.out ((lo + hi) / 2) t (by omega) htn; omega
        generalize l[(lo + hi) / 2]?.getD 0 = y at *
        go_wp2_with (go_at_call 97; refine (less_any _ _ _).mono ?_; rintro e w' ⟨rfl, rfl⟩)
        go_roundw
        case rel => exact ⟨lo, (lo + hi) / 2, rfl, by rw [show ((lo : Int) + (hi : Int)) / 2 = (((lo + hi) / 2 : Nat) : Int) by omega], by omega, by rw [HN.out]; omega, by first | exact HB.out | exact HB.out.drew | exact below_drewN HB.out _, HI.out.1, HS.out⟩
        case measure => simp [intOf]; omega
    · obtain rfl : hi = lo := by omega
      by_cases hl : hi < n
      · have hm : hi < l.length := by rw [HN.out]; exact hl
        obtain ⟨b, off, rfl, hb, hc1⟩ := (HX.out.on hbel).at_ (ns_get l hi hm)
        have hmem := at_mem l hi hm
        have hy := HLe.out _ hmem
        have HB := Lib.hid hbel
        have HA := Lib.hid hlo
        have HC := Lib.hid hhi
        clear hlo hhi hbel
        have HL := Lib.hid hm
        by_cases hyx : ((l[hi]?.getD 0 : Nat) : Int) = x
        · generalize l[hi]?.getD 0 = y at *
          have te : ((y : Int) == x) = true := by simpa using hyx
          clear hmem
          go_wp2_with (go_at_call 98; refine (snan_any _ _).mono ?_; rintro e w' ⟨rfl, rfl⟩)
          go_ret2
          exact ⟨⟨hi, _, rfl, Nat.le_of_lt HL.out, HA.out, HC.out⟩, by first | exact HB.out | exact HB.out.drew | exact below_drewN HB.out _⟩
        · generalize l[hi]?.getD 0 = y at *
          have te : ((y : Int) == x) = false := by simpa using hyx
          clear hmem
          go_wp2_with (go_at_call 98; refine (snan_any _ _).mono ?_; rintro e w' ⟨rfl, rfl⟩)
          go_ret2
          exact ⟨⟨hi, _, rfl, Nat.le_of_lt HL.out, HA.out, HC.out⟩, by first | exact HB.out | exact HB.out.drew | exact below_drewN HB.out _⟩
      · have HB := Lib.hid hbel
        have HA := Lib.hid hlo
        have HC := Lib.hid hhi
        have HL : Hid (hi ≤ l.length) := by show _ ≤ _; rw [HN.out]; exact hin
        clear hlo hhi hbel
        go_wp2_with (go_at_call 98; refine (snan_any _ _).mono ?_; rintro e w' ⟨rfl, rfl⟩)
        go_ret2
        exact ⟨⟨hi, _, rfl, HL.out, HA.out, HC.out⟩, by first | exact HB.out | exact HB.out.drew | exact below_drewN HB.out _⟩
theorem below_drewN' {w W : World} (h : Below w.heap.size w W) (q : Nat) : Below w.heap.size w (W.drewN q) := ⟨h.os, h.tape, h.output, h.size, h.block⟩
set_option maxHeartbeats 1000000 in
theorem fcheckF_any (N T kw ll lh : Int) (A1 A2 : Option Addr) (n1 c1 n2 c2 : Nat) (m : Nat) (xs : List Int) (er : Int) (w : World) (HRd : Hid (∀ V, Below w.heap.size w V → Calls Try.prog 50 #[.agg #[.int .i64 N, .int .i64 T, .int .i64 kw, .int .i64 ll, .slice A1 n1 c1, .int .i64 lh, .slice A2 n2 c2]] V (RdP V m xs er))) :
    Calls Try.prog 57 #[.agg #[.int .i64 N, .int .i64 T, .int .i64 kw, .int .i64 ll, .slice A1 n1 c1, .int .i64 lh, .slice A2 n2 c2]] w fun e w' => e = .returned (.int .i64 er) ∧ Below w.heap.size w w' := by
  go_enter Try.func57, Try.ntmps57
  go_wp2_with fail
  obtain ⟨V0, hV0⟩ : ∃ V0, V0 = w.alloc (.cells #[.int .i64 N, .int .i64 T, .int .i64 kw, .int .i64 ll, .slice A1 n1 c1, .int .i64 lh, .slice A2 n2 c2] 70) := ⟨_, rfl⟩
  have H0 : Hid (Below w.heap.size w V0 ∧ V0.heap[w.heap.size]? = some (.cells #[.int .i64 N, .int .i64 T, .int .i64 kw, .int .i64 ll, .slice A1 n1 c1, .int .i64 lh, .slice A2 n2 c2] 70 (0, 0)) ∧ w.heap.size < V0.heap.size) := by rw [hV0]; exact ⟨one_below _ _, World.alloc_heap_new _ _, by rw [World.size_alloc]; omega⟩
  rw [← hV0]
  clear hV0
  refine (HRd.out V0 H0.out.1).mono ?_
  rintro e w1 ⟨A, c, rfl, R1, B1⟩
  have HB1 : Hid (Below w.heap.size w w1) := H0.out.1.trans (B1.mono (by have := H0.out; omega))
  obtain ⟨⟨g0, g1, g2, g3, g4, g5, g6⟩, -⟩ := cells7 ((B1.block _ H0.out.2.2).trans H0.out.2.1)
  have HR1 := Lib.hid R1
  have HZ1 : Hid (w.heap.size < w1.heap.size) := Nat.lt_of_lt_of_le H0.out.2.2 B1.size
  clear R1 B1
  go_wp2
  go_ret
  exact ⟨rfl, HB1.out⟩
set_option maxHeartbeats 1000000 in
theorem fget_e (N T kw ll lh : Int) (A1 A2 : Option Addr) (n1 c1 n2 c2 : Nat) (m : Nat) (xs : List Int) (er : Int) (i e0 : Int) (he : rgE er [decide (0 ≤ i), decide (i < N)] = e0) (h0 : e0 ≠ 0) (w : World) (HRd : Hid (∀ V, Below w.heap.size w V → Calls Try.prog 50 #[.agg #[.int .i64 N, .int .i64 T, .int .i64 kw, .int .i64 ll, .slice A1 n1 c1, .int .i64 lh, .slice A2 n2 c2]] V (RdP V m xs er))) :
    Calls Try.prog 51 #[.agg #[.int .i64 N, .int .i64 T, .int .i64 kw, .int .i64 ll, .slice A1 n1 c1, .int .i64 lh, .slice A2 n2 c2], .int .i64 i] w (RkP w 0 e0) := by
  have HR := Lib.hid (range2 er (decide (0 ≤ i)) (decide (i < N)) e0 he)
  have t0 : (e0 != 0) = true := by simpa using h0
  clear he h0
  go_enter Try.func51, Try.ntmps51
  go_wp2_with fail
  obtain ⟨V0, hV0⟩ : ∃ V0, V0 = w.alloc (.cells #[.int .i64 N, .int .i64 T, .int .i64 kw, .int .i64 ll, .slice A1 n1 c1, .int .i64 lh, .slice A2 n2 c2] 70) := ⟨_, rfl⟩
  have H0 : Hid (Below w.heap.size w V0 ∧ V0.heap[w.heap.size]? = some (.cells #[.int .i64 N, .int .i64 T, .int .i64 kw, .int .i64 ll, .slice A1 n1 c1, .int .i64 lh, .slice A2 n2 c2] 70 (0, 0)) ∧ w.heap.size < V0.heap.size) := by rw [hV0]; exact ⟨one_below _ _, World.alloc_heap_new _ _, by rw [World.size_alloc]; omega⟩
  rw [← hV0]
  clear hV0
  refine (HRd.out V0 H0.out.1).mono ?_
  rintro e w1 ⟨A, c, rfl, R1, B1⟩
  have HB1 : Hid (Below w.heap.size w w1) := H0.out.1.trans (B1.mono (by have := H0.out; omega))
  obtain ⟨⟨g0, g1, g2, g3, g4, g5, g6⟩, -⟩ := cells7 ((B1.block _ H0.out.2.2).trans H0.out.2.1)
  have HR1 := Lib.hid R1
  have HZ1 : Hid (w.heap.size < w1.heap.size) := Nat.lt_of_lt_of_le H0.out.2.2 B1.size
  clear R1 B1
  go_wp2_with fail
  refine (HR.out w1 _ rfl).mono ?_
  rintro e w2 ⟨rfl, B2⟩
  have HB2 : Hid (Below w.heap.size w w2) := HB1.out.trans (B2.mono HB1.out.size)
  clear B2
  go_wp2
  go_ret2
  exact ⟨rfl, HB2.out⟩
set_option maxHeartbeats 1000000 in
theorem fget_ok (l : List Nat) (N T kw ll lh : Int) (A1 A2 : Option Addr) (n1 c1 n2 c2 : Nat) (m : Nat) (hm : l.length = m) (hN : N = (m : Int)) (i : Nat) (hi : i < m) (x : Nat) (hx : l[i]?.getD 0 = x) (w : World)
    (HRd : Hid (∀ V, Below w.heap.size w V → Calls Try.prog 50 #[.agg #[.int .i64 N, .int .i64 T, .int .i64 kw, .int .i64 ll, .slice A1 n1 c1, .int .i64 lh, .slice A2 n2 c2]] V (RdP V m (ns l) 0))) :
    Calls Try.prog 51 #[.agg #[.int .i64 N, .int .i64 T, .int .i64 kw, .int .i64 ll, .slice A1 n1 c1, .int .i64 lh, .slice A2 n2 c2], .int .i64 (i : Int)] w (RkP w x 0) := by
  have HR := Lib.hid (range2 0 true true 0 (by decide))
  have HM := Lib.hid hm; clear hm
  have t1 : decide ((0 : Int) ≤ (i : Int)) = true := by simp
  have t2 : decide ((i : Int) < N) = true := by simp; omega
  have HN := Lib.hid hN; clear hN
  go_enter Try.func51, Try.ntmps51
  go_wp2_with fail
  obtain ⟨V0, hV0⟩ : ∃ V0, V0 = w.alloc (.cells #[.int .i64 N, .int .i64 T, .int .i64 kw, .int .i64 ll, .slice A1 n1 c1, .int .i64 lh, .slice A2 n2 c2] 70) := ⟨_, rfl⟩
  have H0 : Hid (Below w.heap.size w V0 ∧ V0.heap[w.heap.size]? = some (.cells #[.int .i64 N, .int .i64 T, .int .i64 kw, .int .i64 ll, .slice A1 n1 c1, .int .i64 lh, .slice A2 n2 c2] 70 (0, 0)) ∧ w.heap.size < V0.heap.size) := by rw [hV0]; exact ⟨one_below _ _, World.alloc_heap_new _ _, by rw [World.size_alloc]; omega⟩
  rw [← hV0]
  clear hV0
  refine (HRd.out V0 H0.out.1).mono ?_
  rintro e w1 ⟨A, c, rfl, R1, B1⟩
  have HB1 : Hid (Below w.heap.size w w1) := H0.out.1.trans (B1.mono (by have := H0.out; omega))
  obtain ⟨⟨g0, g1, g2, g3, g4, g5, g6⟩, -⟩ := cells7 ((B1.block _ H0.out.2.2).trans H0.out.2.1)
  have HR1 := Lib.hid R1
  have HZ1 : Hid (w.heap.size < w1.heap.size) := Nat.lt_of_lt_of_le H0.out.2.2 B1.size
  clear R1 B1
  go_wp2_with fail
  refine (HR.out w1 _ rfl).mono ?_
  rintro e w2 ⟨rfl, B2⟩
  have HB2 : Hid (Below w.heap.size w w2) := HB1.out.trans (B2.mono HB1.out.size)
  have hR2 := HR1.out.on ((one_below w1 (.cells #[.bool true, .bool true] 4)).mono (Nat.le_refl _))
  obtain ⟨b, off, hA, hb, hc⟩ := HR1.out.at_ (ns_get l i (by rw [HM.out]; exact hi))
  rw [hx] at hc
  have hc2 := (B2.cell (p := ⟨b, off + i, none⟩) hb).trans hc
  subst hA
  clear B2 hR2 hc g0 g1 g2 g3 g4 g5 g6 hx
  have i0 : (0 : Int) ≤ (i : Int) := by omega
  have i1 : (i : Int) < (m : Int) := by omega
  go_wp2
  go_ret2
  exact ⟨rfl, HB2.out⟩
/-- Two numbers and an error come back. -/
def NxP (w : World) (i x : Nat) (err : Int) (e : Ending) (w' : World) : Prop := e = .returned (.tuple #[.int .i64 (i : Int), .int .i64 (x : Int), .int .i64 err]) ∧ Below w.heap.size w w'
set_option maxHeartbeats 1000000 in
theorem fnext_e (N T kw ll lh : Int) (A1 A2 : Option Addr) (n1 c1 n2 c2 : Nat) (m : Nat) (xs : List Int) (er : Int) (x : Int) (t0 : (er != 0) = true) (w : World) (HRd : Hid (∀ V, Below w.heap.size w V → Calls Try.prog 50 #[.agg #[.int .i64 N, .int .i64 T, .int .i64 kw, .int .i64 ll, .slice A1 n1 c1, .int .i64 lh, .slice A2 n2 c2]] V (RdP V m xs er))) :
    Calls Try.prog 52 #[.agg #[.int .i64 N, .int .i64 T, .int .i64 kw, .int .i64 ll, .slice A1 n1 c1, .int .i64 lh, .slice A2 n2 c2], .int .i64 x] w (NxP w 0 0 er) := by
  go_enter Try.func52, Try.ntmps52
  go_wp2_with fail
  obtain ⟨V0, hV0⟩ : ∃ V0, V0 = w.alloc (.cells #[.int .i64 N, .int .i64 T, .int .i64 kw, .int .i64 ll, .slice A1 n1 c1, .int .i64 lh, .slice A2 n2 c2] 70) := ⟨_, rfl⟩
  have H0 : Hid (Below w.heap.size w V0 ∧ V0.heap[w.heap.size]? = some (.cells #[.int .i64 N, .int .i64 T, .int .i64 kw, .int .i64 ll, .slice A1 n1 c1, .int .i64 lh, .slice A2 n2 c2] 70 (0, 0)) ∧ w.heap.size < V0.heap.size) := by rw [hV0]; exact ⟨one_below _ _, World.alloc_heap_new _ _, by rw [World.size_alloc]; omega⟩
  rw [← hV0]
  clear hV0
  refine (HRd.out V0 H0.out.1).mono ?_
  rintro e w1 ⟨A, c, rfl, R1, B1⟩
  have HB1 : Hid (Below w.heap.size w w1) := H0.out.1.trans (B1.mono (by have := H0.out; omega))
  obtain ⟨⟨g0, g1, g2, g3, g4, g5, g6⟩, -⟩ := cells7 ((B1.block _ H0.out.2.2).trans H0.out.2.1)
  have HR1 := Lib.hid R1
  have HZ1 : Hid (w.heap.size < w1.heap.size) := Nat.lt_of_lt_of_le H0.out.2.2 B1.size
  clear R1 B1
  go_wp2
  go_ret3
  exact ⟨rfl, HB1.out⟩
set_option maxHeartbeats 1000000 in
theorem fnext_ok (l : List Nat) (hu : ∀ i j, i < j → j < l.length → l[i]?.getD 0 ≤ l[j]?.getD 0) (hle : ∀ y ∈ l, y ≤ 1048576) (N T kw ll lh : Int) (A1 A2 : Option Addr) (n1 c1 n2 c2 : Nat) (m : Nat) (hm : l.length = m) (hm3 : m ≤ 300) (hN : N = (m : Int)) (x : Int) (ri rx : Nat) (re : Int)
    (hr : ∀ i, i ≤ m → (∀ t, t < i → ((l[t]?.getD 0 : Nat) : Int) < x) → (∀ t, i ≤ t → t < l.length → x ≤ ((l[t]?.getD 0 : Nat) : Int)) → (i = m ∧ ri = 0 ∧ rx = 0 ∧ re = 5) ∨ (i < m ∧ ri = i ∧ rx = l[i]?.getD 0 ∧ re = 0)) (w : World)
    (HRd : Hid (∀ V, Below w.heap.size w V → Calls Try.prog 50 #[.agg #[.int .i64 N, .int .i64 T, .int .i64 kw, .int .i64 ll, .slice A1 n1 c1, .int .i64 lh, .slice A2 n2 c2]] V (RdP V m (ns l) 0))) :
    Calls Try.prog 52 #[.agg #[.int .i64 N, .int .i64 T, .int .i64 kw, .int .i64 ll, .slice A1 n1 c1, .int .i64 lh, .slice A2 n2 c2], .int .i64 x] w (NxP w ri rx re) := by
  have HU := Lib.hid hu; clear hu
  have HLe := Lib.hid hle; clear hle
  have HM := Lib.hid hm; clear hm
  have HRs := Lib.hid hr; clear hr
  subst hN
  go_enter Try.func52, Try.ntmps52
  go_wp2_with fail
  obtain ⟨V0, hV0⟩ : ∃ V0, V0 = w.alloc (.cells #[.int .i64 (m : Int), .int .i64 T, .int .i64 kw, .int .i64 ll, .slice A1 n1 c1, .int .i64 lh, .slice A2 n2 c2] 70) := ⟨_, rfl⟩
  have H0 : Hid (Below w.heap.size w V0 ∧ V0.heap[w.heap.size]? = some (.cells #[.int .i64 (m : Int), .int .i64 T, .int .i64 kw, .int .i64 ll, .slice A1 n1 c1, .int .i64 lh, .slice A2 n2 c2] 70 (0, 0)) ∧ w.heap.size < V0.heap.size) := by rw [hV0]; exact ⟨one_below _ _, World.alloc_heap_new _ _, by rw [World.size_alloc]; omega⟩
  rw [← hV0]
  clear hV0
  refine (HRd.out V0 H0.out.1).mono ?_
  rintro e w1 ⟨A, c, rfl, R1, B1⟩
  have HB1 : Hid (Below w.heap.size w w1) := H0.out.1.trans (B1.mono (by have := H0.out; omega))
  obtain ⟨⟨g0, g1, g2, g3, g4, g5, g6⟩, -⟩ := cells7 ((B1.block _ H0.out.2.2).trans H0.out.2.1)
  have HR1 := Lib.hid R1
  have HZ1 : Hid (w.heap.size < w1.heap.size) := Nat.lt_of_lt_of_le H0.out.2.2 B1.size
  clear R1 B1
  have HF := Lib.hid (findB_any l HU.out HLe.out m HM.out (by omega) x A c w1 HR1.out)
  go_wp2_with fail
  refine HF.out.mono ?_
  rintro e w2 ⟨⟨i, b, rfl, hi, hi1, hi2⟩, B2⟩
  have hg0 := (B2.cell (p := ⟨w.heap.size, 0, none⟩) HZ1.out).trans g0
  have HB2 : Hid (Below w.heap.size w w2) := HB1.out.trans (B2.mono HB1.out.size)
  have hres := HRs.out i (by rw [← HM.out]; exact hi) hi1 hi2
  clear g0 g1 g2 g3 g4 g5 g6 hi1 hi2 HF HRs
  rcases hres with ⟨rfl, rfl, rfl, rfl⟩ | ⟨hlt, rfl, hrx, rfl⟩
  · go_wp2
    go_ret3
    exact ⟨rfl, HB2.out⟩
  · obtain ⟨b2, off, hA, hb, hc⟩ := HR1.out.at_ (ns_get l ri (by rw [HM.out]; exact hlt))
    rw [← hrx] at hc
    have hc2 := (B2.cell (p := ⟨b2, off + ri, none⟩) hb).trans hc
    subst hA
    clear B2 hc hi hrx
    have t3 : ((ri : Int) == (m : Int)) = false := by simp; omega
    have i0 : (0 : Int) ≤ (ri : Int) := by omega
    have i1 : (ri : Int) < (m : Int) := by omega
    go_wp2_with fail
    go_quiet (fail)
    go_wp2
    go_ret3
    exact ⟨rfl, below_drewN' HB2.out _⟩
end Go.Proofs.Ytkbelhclcpepaaa
