/- A number is split: what Go's Reverse does to ints of the call's own, and what split and Parts answer; each fact names its conditions. -/
import Derived.Test.YtjogccpnhcnedaaDoorFNum
import Derived.Test.YtjogccpnhcnedaaDoorRefGen
namespace Go.Proofs.YtjogccpnhcnedaaDoor
set_option maxRecDepth 100000
set_option linter.unusedVariables false
open Go.RowKit Go.Shelf

/-- So many of both ends have been exchanged. -/
def Rvd (xs ys : List Int) (i : Nat) : Prop := ys.length = xs.length ∧ ∀ k, k < xs.length → ys[k]?.getD 0 = if k < i ∨ xs.length - 1 - i < k then xs[xs.length - 1 - k]?.getD 0 else xs[k]?.getD 0
theorem rvd_zero (xs : List Int) : Rvd xs xs 0 := ⟨rfl, fun k hk => by rw [if_neg (by omega)]⟩
theorem int_ext {a b : List Int} (hl : a.length = b.length) (h : ∀ k, k < a.length → a[k]?.getD 0 = b[k]?.getD 0) : a = b := by
  apply List.ext_getElem hl
  intro i h1 h2
  have := h i h1
  rw [List.getElem?_eq_getElem h1, List.getElem?_eq_getElem h2] at this
  exact this
theorem rvd_end (xs ys : List Int) (i : Nat) (h : Rvd xs ys i) (hi : xs.length - 1 ≤ 2 * i) : ys = xs.reverse := by
  refine int_ext (by rw [h.1, List.length_reverse]) (fun k hk => ?_)
  rw [h.1] at hk
  rw [h.2 k hk, List.getElem?_reverse hk]
  by_cases hc : k < i ∨ xs.length - 1 - i < k
  · rw [if_pos hc]
  · rw [if_neg hc]
    have : xs.length - 1 - k = k := by omega
    rw [this]
theorem rvd_step (xs ys : List Int) (i : Nat) (h : Rvd xs ys i) (hi : i < xs.length - 1 - i) :
    Rvd xs ((ys.set i (ys[xs.length - 1 - i]?.getD 0)).set (xs.length - 1 - i) (ys[i]?.getD 0)) (i + 1) := by
  refine ⟨by simp [h.1], fun k hk => ?_⟩
  have hki := h.2 k hk
  have h1 := h.2 i (by omega)
  have h2 := h.2 (xs.length - 1 - i) (by omega)
  rw [if_neg (by omega)] at h1 h2
  rw [List.getElem?_set, List.getElem?_set]
  by_cases e1 : xs.length - 1 - i = k
  · rw [if_pos e1, if_pos (by simp [h.1]; omega), if_pos (by omega)]
    show ys[i]?.getD 0 = _
    rw [h1, ← e1]
    congr 2
    omega
  · rw [if_neg e1]
    by_cases e2 : i = k
    · rw [if_pos e2, if_pos (by rw [h.1]; omega), if_pos (by omega)]
      show ys[xs.length - 1 - i]?.getD 0 = _
      rw [h2, ← e2]
    · rw [if_neg e2, hki]
      by_cases hc : k < i ∨ xs.length - 1 - i < k
      · rw [if_pos hc, if_pos (by omega)]
      · rw [if_neg hc, if_neg (by omega)]
theorem zc_set (xs : List Int) (i : Nat) (u : Int) : zc (xs.set i u) = (zc xs).set i (.int .i64 u) := by simp [zc, List.map_set]

set_option maxHeartbeats 1000000 in
theorem reverse_any (B g cap n : Nat) (xs : List Int) (hn : xs.length = n) (hn2 : n ≤ 100) (w : World) (hB : B ≤ w.heap.size) (h : w.ownsRow B 3 1 (.slice (some ⟨g, 0, none⟩) n cap) n (zc xs)) :
    Calls Tryd.prog 43 #[.slice (some ⟨g, 0, none⟩) n cap] w fun e w' => e = .returned (.tuple #[]) ∧ w'.ownsRow B 3 1 (.slice (some ⟨g, 0, none⟩) n cap) n (zc xs.reverse) ∧ Below B w w' := by
  have HO := Lib.hid h
  have HG := Lib.hid (h.lt g rfl)
  clear h
  have HN := Lib.hid hn; clear hn
  go_enter Tryd.func43, Tryd.ntmps43
  go_wp2
  go_loopw [2, 3] (fun p q wr => ∃ (i : Nat) (ys : List Int), p = .int .i64 (i : Int) ∧ q = .int .i64 ((n : Int) - 1 - i) ∧ Rvd xs ys i ∧ wr.ownsRow B 3 1 (.slice (some ⟨g, 0, none⟩) n cap) n (zc ys) ∧ Below B w wr ∧ (2 * i ≤ n)) (fun p _ _ => n - (intOf p).toNat)
  case atStart => exact ⟨0, xs, rfl, by simp, rvd_zero xs, HO.out, Below.refl _ _, by omega⟩
  case round =>
    obtain ⟨i, ys, rfl, rfl, hr, hrow, hbel, h2i⟩ := hrel
    have HR := Lib.hid hr; clear hr
    by_cases hlt : 2 * i + 1 < n
    · obtain ⟨j, hj⟩ : ∃ j, j = n - 1 - i := ⟨_, rfl⟩
      have hjj : (n : Int) - 1 - (i : Int) = (j : Int) := by omega
      have hij : i < j := by omega
      rw [hjj]
      have hli : i < ys.length := by rw [HR.out.1, HN.out]; omega
      have hlj : j < ys.length := by rw [HR.out.1, HN.out]; omega
      have hjn : j < n := by omega
      have HJ : Hid (xs.length - 1 - i = j) := by show _ = _; rw [HN.out, hj]
      have HS := Lib.hid (rvd_step xs ys i HR.out (by rw [HJ.out]; exact hij))
      rw [HJ.out] at HS
      obtain ⟨c1, f1⟩ := own_cell hrow (zc_get ys i hli)
      obtain ⟨c2, f2⟩ := own_cell hrow (zc_get ys j hlj)
      have HO2 := Lib.hid hrow
      have HBl := Lib.hid hbel
      clear hrow hbel hj hjj hli hlj
      generalize ys[i]?.getD 0 = yi at *
      generalize ys[j]?.getD 0 = yj at *
      go_wp2_with fail
      go_region
      go_wp2
      refine ⟨⟨i + 1, _, by go_num, ?_, HS.out, ?_, ?_, by omega⟩, by simp [intOf]; omega⟩
      · rw [show (j : Int) - 1 = (n : Int) - 1 - ((i + 1 : Nat) : Int) from by have := HJ.out; have := HN.out; omega]
      · have e := own_set (i := j) (own_set (i := i) HO2.out (.int .i64 yj)) (.int .i64 yi)
        rw [← zc_set, ← zc_set] at e
        exact own_drew e
      · exact ((HBl.out.setCell HG.out.1 _).setCell HG.out.1 _).drew
    · have hrev := Lib.hid (rvd_end xs ys i HR.out (by rw [HN.out]; omega))
      have HO2 := Lib.hid hrow
      have HBl := Lib.hid hbel
      have t1 : decide ((i : Int) < (n : Int) - 1 - (i : Int)) = false := by simp; omega
      clear hrow hbel hlt
      go_wp2
      go_end0
      exact ⟨rfl, by rw [← hrev.out]; exact HO2.out, HBl.out⟩
theorem reverse_nil (c : Nat) (w : World) : Calls Tryd.prog 43 #[.slice none 0 c] w fun e w' => e = .returned (.tuple #[]) ∧ w = w' := by
  go_enter Tryd.func43, Tryd.ntmps43
  go_wp2
  go_loopw [2, 3] (fun p q wr => p = .int .i64 0 ∧ q = .int .i64 (-1) ∧ w = wr) (fun p _ _ => 0)
  case atStart => exact ⟨rfl, rfl, rfl⟩
  case round =>
    obtain ⟨rfl, rfl, rfl⟩ := hrel
    go_wp2
    go_end0
    exact ⟨rfl, rfl⟩

/-- Ints come back, a row of the call's own. -/
def Inted (w : World) (l : List Int) (e : Ending) (w' : World) : Prop :=
  ∃ A c, e = .returned (.slice A l.length c) ∧ w'.ownsRow w.heap.size 3 1 (.slice A l.length c) l.length (zc l) ∧ Below w.heap.size w w'
/-- Places as ints. -/
def ints (l : List Nat) : List Int := l.map fun (x : Nat) => (x : Int)
theorem ints_length (l : List Nat) : (ints l).length = l.length := by simp [ints]
theorem ints_append (a b : List Nat) : ints (a ++ b) = ints a ++ ints b := by simp [ints]
theorem ints_reverse (a : List Nat) : ints a.reverse = (ints a).reverse := by simp [ints]
/-- The parts of a number, the least first. -/
def pts (n : Nat) : List Nat := (ptd n).reverse
theorem spl_len : ∀ (k n : Nat), (spl k n).length ≤ k := by
  intro k
  induction k with
  | zero => intro n; simp [spl]
  | succ k ih =>
    intro n
    by_cases h : fb k ≤ n
    · rw [spl_yes k n h, List.length_cons]; have := ih (n - fb k); omega
    · rw [spl_no k n (by omega)]; have := ih n; omega
theorem grown_belowT {w w' : World} {B : Nat} {e : TypeId} {size : Nat} {v : Value} {n : Nat} {xs : List Value} (h : w.grownBy w' v.ownBlock) (ho : w.ownsRow B e size v n xs) (hB : B ≤ w.heap.size) : Below B w w' :=
  ⟨h.os, h.tape, h.output, h.size, fun k hk => h.block k (by omega) (fun e => by have := (ho.lt k e.symm).1; omega)⟩

/-- At each round's head: the parts from k on have been taken. -/
def SpRel (w : World) (n : Nat) (r v p : Value) (wr : World) : Prop :=
  ∃ (k m : Nat) (d : List Nat), p = .int .i64 ((k : Int) - 1) ∧ r = .int .u64 (m : Int) ∧ k ≤ 64 ∧ m ≤ n ∧ d ++ spl k m = spl 64 n ∧ d.length ≤ 64 ∧ wr.ownsRow w.heap.size 3 1 v d.length (zc (ints d)) ∧ Below w.heap.size w wr

set_option maxHeartbeats 2000000 in
theorem split_any (n : Nat) (hn : n < 18446744073709551616) (w : World) (hN : Nm w) :
    Calls Tryd.prog 32 #[.int .u64 (n : Int)] w (Inted w (ints (pts n))) := by
  have HN := Lib.hid hN; clear hN
  obtain ⟨i0, hi, hz0, hz1, hz2⟩ := info_parts info3
  go_enter Tryd.func32, Tryd.ntmps32
  go_wp2
  go_loopw [0, 3, 4] (fun r v p wr => SpRel w n r v p wr) (fun _ _ p _ => (intOf p + 1).toNat)
  case atStart => exact ⟨64, n, [], by simp, rfl, Nat.le_refl _, Nat.le_refl _, rfl, by simp, ⟨rfl, .inl ⟨rfl, rfl⟩⟩, Below.refl _ _⟩
  case round =>
    obtain ⟨k, m, d, rfl, rfl, hk, hm, hd, hdl, hrow, hbel⟩ := hrel
    have HO := Lib.hid hrow
    have HBl := Lib.hid hbel
    have HD := Lib.hid hd
    obtain ⟨Av, cv, rfl⟩ := own_slice3 hrow
    clear hrow hbel hd
    rcases Nat.eq_zero_or_pos k with rfl | hk0
    · have HE : Hid ((ints d).reverse = ints (pts n)) := by
        show _ = _
        have e : d = spl 64 n := by have := HD.out; rw [show spl 0 m = [] from rfl, List.append_nil] at this; exact this
        rw [← ints_reverse, e]
        rfl
      have HEl : Hid ((ints (pts n)).length = d.length) := by show _ = _; rw [← HE.out, List.length_reverse, ints_length]
      have HIl : Hid ((ints d).length = d.length) := ints_length d
      clear HD
      generalize hdk : d.length = dk at *
      have HDK := Lib.hid hdk; clear hdk
      rcases Nat.eq_zero_or_pos dk with rfl | hpos
      · have hd0 : d = [] := List.eq_nil_of_length_eq_zero HDK.out
        have HL0 : Hid (ints (pts n) = []) := List.eq_nil_of_length_eq_zero HEl.out
        rcases HO.out.2 with ⟨hv, h0⟩ | ⟨g, cap, cur, hv, hb, hg, _⟩
        · simp only [Value.slice.injEq] at hv
          obtain ⟨rfl, _, rfl⟩ := hv
          clear hd0 h0
          go_wp2_with fail
          refine (reverse_nil 0 wr).mono ?_
          rintro e w1 ⟨rfl, rfl⟩
          go_wp2
          go_ret
          refine ⟨none, 0, by rw [HEl.out]; rfl, ?_, HBl.out⟩
          rw [HL0.out]
          exact ⟨rfl, .inl ⟨rfl, rfl⟩⟩
        · simp only [Value.slice.injEq] at hv
          obtain ⟨rfl, _, rfl⟩ := hv
          have HO2 := Lib.hid (reverse_any w.heap.size g cv 0 (ints d) HIl.out (by omega) wr HBl.out.size HO.out)
          clear hd0 hb hg
          go_wp2_with fail
          refine HO2.out.mono ?_
          rintro e w1 ⟨rfl, ho1, hb1⟩
          have HO1 := Lib.hid ho1; have HB1 := Lib.hid hb1; clear ho1 hb1
          rw [HE.out] at HO1
          go_wp2
          go_ret
          exact ⟨_, cv, by rw [HEl.out]; rfl, by rw [HEl.out]; exact HO1.out, HBl.out.trans HB1.out⟩
      · obtain ⟨g, hg⟩ : ∃ g, Av = some ⟨g, 0, none⟩ := by
          rcases HO.out.2 with ⟨hv, h0⟩ | ⟨g, cap, cur, hv, hb, hg, _⟩
          · omega
          · simp only [Value.slice.injEq] at hv
            exact ⟨g, hv.1⟩
        subst hg
        have HO2 := Lib.hid (reverse_any w.heap.size g cv dk (ints d) HIl.out (by omega) wr HBl.out.size HO.out)
        go_wp2_with fail
        refine HO2.out.mono ?_
        rintro e w1 ⟨rfl, ho1, hb1⟩
        have HO1 := Lib.hid ho1; have HB1 := Lib.hid hb1; clear ho1 hb1
        rw [HE.out] at HO1
        go_wp2
        go_ret
        exact ⟨_, cv, by rw [HEl.out]; rfl, by rw [HEl.out]; exact HO1.out, HBl.out.trans HB1.out⟩
    · obtain ⟨j, rfl⟩ : ∃ j, k = j + 1 := ⟨k - 1, by omega⟩
      have hj : j < 64 := by omega
      have e1 := (HN.out.on HBl.out) j hj
      have hfy := fb_u64 j hj
      by_cases hle : fb j ≤ m
      · have hs := spl_yes j m hle
        have HS : Hid ((d ++ [j]) ++ spl j (m - fb j) = spl 64 n) := by show _ = _; rw [← HD.out, hs]; simp
        have hlen : (d ++ [j]).length ≤ 64 := by
          have := spl_len 64 n
          rw [← HS.out, List.length_append] at this
          omega
        have HL : Hid ((d ++ [j]).length = d.length + 1) := List.length_append
        rw [List.length_append, List.length_singleton] at hlen
        clear hs HD
        generalize fb j = fj at *
        generalize hdk : d.length = dk at *
        have HDK := Lib.hid hdk; clear hdk
        go_wp2_with (at_builtin; refine wpList_append_own _ rfl _ _ 23 rfl w.heap.size 3 i0 (.int .i64 0) 1 8 Tryd.underlying23 hi hz0 hz1 hz2 rfl (by decide) _ _ _ rfl (HO.out.alloc _) ⟨wr.heap.size, 0, none⟩ 1 1 [.int .i64 (j : Int)] rfl rfl (cell_one_new _ _ _) (by simp [Value.oneCell']) (by unfold maxLen; omega) (by omega) (by have := HBl.out.size; simp; omega) ?_; intro v' w3 hown' hgrow _)
        go_roundw
        case rel =>
          refine ⟨j, m - fj, d ++ [j], by go_num, ?_, by omega, by omega, HS.out, by rw [HL.out]; omega, ?_, HBl.out.trans (((Below.refl w.heap.size wr).alloc HBl.out.size _).trans (grown_belowT hgrow (HO.out.alloc _) (by have := HBl.out.size; simp; omega)))⟩
          · rw [show ((m - fj : Nat) : Int) = (m : Int) - (fj : Int) from by omega]
          · rw [HL.out, ints_append, zc_append]
            exact hown'
        case measure => (simp [intOf] <;> omega)
      · have hs := spl_no j m (by omega)
        have HS : Hid (d ++ spl j m = spl 64 n) := by show _ = _; rw [← HD.out, hs]
        clear hs HD
        generalize fb j = fj at *
        have t1 : decide (fj ≤ m) = false := by simp; omega
        go_wp2
        go_roundw
        case rel => exact ⟨j, m, d, by go_num, rfl, by omega, hm, HS.out, hdl, HO.out, HBl.out⟩
        case measure => (simp [intOf] <;> omega)

set_option maxHeartbeats 400000 in
theorem parts_ok (n : Nat) (hn : n ≤ 1099511627776) (w : World) (hN : Nm w) :
    Calls Tryd.prog 10 #[.int .u64 (n : Int)] w fun e w' => ∃ A c, e = .returned (.tuple #[.slice A (ints (pts n)).length c, .int .i64 0]) ∧ RdV w' w'.heap.size A (zc (ints (pts n))) ∧ Below w.heap.size w w' := by
  have HS := Lib.hid (fun V hb => split_any n (by omega) V (hN.on (V := V) hb)); clear hN
  have t1 : decide ((n : Int) ≤ 1099511627776) = true := by simp; omega
  unfold Inted at HS
  generalize ints (pts n) = L at *
  go_enter Tryd.func10, Tryd.ntmps10
  go_wp2_with fail
  refine (range1 0 true 0 rfl _ _ rfl).mono ?_
  rintro e w1 ⟨rfl, B1⟩
  have HB := Lib.hid B1; clear B1
  go_wp2_with fail
  refine (HS.out _ HB.out).mono ?_
  rintro e w2 ⟨A, c, rfl, ho, hb⟩
  have HO := Lib.hid (own_rdv ho); have HB2 := Lib.hid (HB.out.trans (hb.mono HB.out.size)); clear ho hb
  go_wp2
  go_ret2
  exact ⟨A, c, rfl, HO.out, HB2.out⟩
set_option maxHeartbeats 400000 in
theorem parts_no (n : Nat) (hn : 1099511627776 < n) (w : World) :
    Calls Tryd.prog 10 #[.int .u64 (n : Int)] w fun e w' => ∃ A c, e = .returned (.tuple #[.slice A (ints []).length c, .int .i64 3]) ∧ RdV w' w'.heap.size A (zc (ints [])) ∧ Below w.heap.size w w' := by
  have t1 : decide ((n : Int) ≤ 1099511627776) = false := by simp; omega
  go_enter Tryd.func10, Tryd.ntmps10
  go_wp2_with fail
  refine (range1 0 false 3 rfl _ _ rfl).mono ?_
  rintro e w1 ⟨rfl, B1⟩
  have HB := Lib.hid B1; clear B1
  go_wp2
  go_ret2
  exact ⟨none, 0, rfl, .inl rfl, HB.out⟩
end Go.Proofs.YtjogccpnhcnedaaDoor
