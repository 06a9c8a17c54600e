/- The law FibNumbers: each number is the two ahead of it together, and all of every second one, up to it, are one less than the next; for whatever index. -/
import Derived.Test.YtjogccpnhcnedaaDoorFBegun
namespace Go.Proofs.YtjogccpnhcnedaaDoor
set_option maxRecDepth 100000
set_option linter.unusedVariables false
open Go.RowKit Go.Shelf

/-- Every second place, from r on. -/
def lst2 (r t : Nat) : List Nat := (List.range t).map fun j => r + 2 * j
theorem lst2_length (r t : Nat) : (lst2 r t).length = t := by simp [lst2]
theorem lst2_succ (r t : Nat) : lst2 r (t + 1) = lst2 r t ++ [r + 2 * t] := by simp [lst2, List.range_succ]
theorem lst2_rev (r t : Nat) : (lst2 r (t + 1)).reverse = (r + 2 * t) :: (lst2 r t).reverse := by rw [lst2_succ, List.reverse_append]; rfl
theorem lst2_dz (r : Nat) : ∀ t, Dz (r + 2 * t - 1) (lst2 r t).reverse := by
  intro t
  induction t with
  | zero => exact trivial
  | succ t ih => rw [lst2_rev]; exact ⟨by omega, ih.mono (by omega)⟩
theorem lst2_sum (r : Nat) (hr : r < 2) : ∀ t, fsum (lst2 r (t + 1)).reverse + 1 = fb (r + 2 * t + 1) := by
  intro t
  induction t with
  | zero =>
    rw [lst2_rev]
    rcases (show r = 0 ∨ r = 1 by omega) with rfl | rfl <;> decide +kernel
  | succ t ih =>
    rw [lst2_rev]
    simp only [fsum]
    have e := fb_step (r + 2 * t + 1)
    rw [show r + 2 * (t + 1) = r + 2 * t + 1 + 1 by omega, show r + 2 * t + 1 + 1 + 1 = r + 2 * t + 1 + 2 by omega, e]
    omega
theorem lst2_sumR (i : Nat) (hi : i ≤ 61) : sumR [] (ints (lst2 (i % 2) (i / 2 + 1))) = (fb (i + 1) - 1, 0) := by
  have hd : Dz 64 ((lst2 (i % 2) (i / 2 + 1)).reverse ++ []) := by rw [List.append_nil]; exact (lst2_dz _ _).mono (by omega)
  have := sumR_of (lst2 (i % 2) (i / 2 + 1)) [] hd
  rw [List.append_nil] at this
  have hs := lst2_sum (i % 2) (by omega) (i / 2)
  rw [show i % 2 + 2 * (i / 2) + 1 = i + 1 by omega] at hs
  rw [show fb (i + 1) - 1 = fsum (lst2 (i % 2) (i / 2 + 1)).reverse by omega]
  exact this
/-- At each round's head. -/
def NuRel (w3 : World) (r m : Nat) (v p : Value) (wr : World) : Prop :=
  ∃ t : Nat, p = .int .i64 ((r + 2 * t : Nat) : Int) ∧ t ≤ m ∧ wr.ownsRow w3.heap.size 3 1 v t (zc (ints (lst2 r t))) ∧ Below w3.heap.size w3 wr

set_option maxHeartbeats 4000000 in
theorem fnum_law (i : Int) (w : World) (hi : -9223372036854775808 ≤ i ∧ i ≤ 9223372036854775807) (hN : Nm w) :
    Calls Tryd.prog 8 #[.int .i64 i] w fun e w' => e = .returned (.bool true) ∧ Below w.heap.size w w' := by
  have HN := Lib.hid hN; clear hN
  by_cases h1 : 0 ≤ i ∧ i ≤ 61
  · obtain ⟨k, rfl⟩ := Int.eq_ofNat_of_zero_le h1.1
    have hk : k ≤ 61 := by omega
    have hnum : ∀ j : Nat, j < 64 → ∀ w, Nm w → Calls Tryd.prog 9 #[.int .i64 (j : Int)] w fun e w' => e = .returned (.tuple #[.int .u64 (fb j : Int), .int .i64 0]) ∧ Below w.heap.size w w' := fun j hj w hw => by
      have h := number_any (j : Int) w hw
      unfold nuV ciE at h
      rw [if_pos (by omega), if_pos (by omega), Int.toNat_natCast] at h
      exact h
    have H1 := Lib.hid (hnum k (by omega))
    have H2 : Hid (∀ w, Nm w → Calls Tryd.prog 9 #[.int .i64 ((k : Int) + 1)] w fun e w' => e = .returned (.tuple #[.int .u64 (fb (k + 1) : Int), .int .i64 0]) ∧ Below w.heap.size w w') := fun w hw => by
      have := hnum (k + 1) (by omega) w hw
      rwa [show ((k + 1 : Nat) : Int) = (k : Int) + 1 from by omega] at this
    have H3 : Hid (∀ w, Nm w → Calls Tryd.prog 9 #[.int .i64 ((k : Int) + 2)] w fun e w' => e = .returned (.tuple #[.int .u64 (fb (k + 2) : Int), .int .i64 0]) ∧ Below w.heap.size w w') := fun w hw => by
      have := hnum (k + 2) (by omega) w hw
      rwa [show ((k + 2 : Nat) : Int) = (k : Int) + 2 from by omega] at this
    have H4 : Hid (∀ A c w, RdV w w.heap.size A (zc (ints (lst2 (k % 2) (k / 2 + 1)))) → Nm w → Calls Tryd.prog 11 #[.slice A (k / 2 + 1) c] w fun e w' => e = .returned (.tuple #[.int .u64 ((fb (k + 1) - 1 : Nat) : Int), .int .i64 0]) ∧ Below w.heap.size w w') := fun A c w h1 h2 =>
      sum_any (ints (lst2 (k % 2) (k / 2 + 1))) (k / 2 + 1) (by rw [ints_length, lst2_length]) (by omega) A c w h1 h2 _ 0 (lst2_sumR k hk)
    have hst := fb_step k
    have hpos := fb_pos (k + 1)
    have hfl := fb_u64 (k + 2) (by omega)
    have t5 : ((fb (k + 2) : Int) == (fb k : Int) + (fb (k + 1) : Int)) = true := by simp; omega
    have t6 : (((fb (k + 1) - 1 : Nat) : Int) + 1 == (fb (k + 1) : Int)) = true := by simp; omega
    have hfs : fb k + fb (k + 1) < 18446744073709551616 := by omega
    have hm1 : fb (k + 1) - 1 < 9223372036854775807 := by have := fb_mono (show k + 1 ≤ 64 by omega); rw [fb64] at this; omega
    clear hnum hst hpos hfl hi h1
    generalize fb (k + 1) - 1 = fm at *
    generalize fb (k + 2) = f2 at *
    generalize fb (k + 1) = f1_ at *
    generalize fb k = f0 at *
    obtain ⟨i0, hi0, hz0, hz1, hz2⟩ := info_parts info3
    go_enter Tryd.func8, Tryd.ntmps8
    go_wp2_with fail
    refine (fbegun_true w HN.out).mono ?_
    rintro e w1_ ⟨rfl, Bq⟩
    have Sq : Below w.heap.size w w1_ := Bq
    have HB : Hid (Below w.heap.size w w1_) := Sq
    replace HN := Lib.hid (HN.out.on Sq)
    clear Bq Sq
    go_wp2_with fail
    refine (H1.out w1_ HN.out).mono ?_
    rintro e w2_ ⟨rfl, Bq⟩
    have Sq : Below w1_.heap.size w1_ w2_ := Bq
    replace HB : Hid (Below w.heap.size w w2_) := HB.out.trans (Sq.mono HB.out.size)
    replace HN := Lib.hid (HN.out.on Sq)
    clear Bq Sq
    go_wp2_with fail
    refine (H2.out w2_ HN.out).mono ?_
    rintro e w3_ ⟨rfl, Bq⟩
    have Sq : Below w2_.heap.size w2_ w3_ := Bq
    replace HB : Hid (Below w.heap.size w w3_) := HB.out.trans (Sq.mono HB.out.size)
    replace HN := Lib.hid (HN.out.on Sq)
    clear Bq Sq
    go_wp2_with fail
    refine (H3.out w3_ HN.out).mono ?_
    rintro e w4_ ⟨rfl, Bq⟩
    have Sq : Below w3_.heap.size w3_ w4_ := Bq
    replace HB : Hid (Below w.heap.size w w4_) := HB.out.trans (Sq.mono HB.out.size)
    replace HN := Lib.hid (HN.out.on Sq)
    clear Bq Sq
    go_wp2
    go_loopw [11, 12] (fun v p wr => NuRel w4_ (k % 2) (k / 2 + 1) v p wr) (fun _ p _ => k + 1 - (intOf p).toNat)
    case atStart => exact ⟨0, by simp, Nat.zero_le _, ⟨rfl, .inl ⟨rfl, rfl⟩⟩, Below.refl _ _⟩
    case round =>
      obtain ⟨t, rfl, ht, hrow, hbel⟩ := hrel
      obtain ⟨Av, cv, rfl⟩ := own_slice3 hrow
      have HO := Lib.hid hrow
      have HBl := Lib.hid hbel
      clear hrow hbel
      generalize hq : k % 2 + 2 * t = q at *
      have HQ := Lib.hid hq
      by_cases hlt : q ≤ k
      · have t1 : decide (q ≤ k) = true := by simpa using hlt
        have ht2 : t + 1 ≤ k / 2 + 1 := by omega
        have HS := Lib.hid (lst2_succ (k % 2) t)
        go_wp2_with (at_builtin; refine wpList_append_own _ rfl _ _ 23 rfl w4_.heap.size 3 i0 (.int .i64 0) 1 8 Tryd.underlying23 hi0 hz0 hz1 hz2 rfl (by decide) _ _ _ rfl (HO.out.alloc _) ⟨wr.heap.size, 0, none⟩ 1 1 [.int .i64 (q : Int)] rfl rfl (cell_one_new _ _ _) (by simp [Value.oneCell']) (by unfold maxLen; omega) (by omega) (by have := HBl.out.size; simp; omega) ?_; intro v' w3 hown' hgrow _)
        go_roundw
        case rel =>
          refine ⟨t + 1, by rw [show ((k % 2 + 2 * (t + 1) : Nat) : Int) = (q : Int) + 2 from by have := HQ.out; omega], ht2, ?_, HBl.out.trans (((Below.refl w4_.heap.size wr).alloc HBl.out.size _).trans (grown_belowT hgrow (HO.out.alloc _) (by have := HBl.out.size; simp; omega)))⟩
          rw [HS.out, ints_append, zc_append, HQ.out]
          exact hown'
        case measure => (simp [intOf] <;> omega)
      · have t1 : decide (q ≤ k) = false := by simp; omega
        have htk : t = k / 2 + 1 := by omega
        have HT : Hid (t = k / 2 + 1) := htk
        rw [htk] at HO
        rw [htk]
        have HRv := Lib.hid (own_rdv HO.out)
        clear htk hq hlt ht
        go_wp2_with fail
        refine (H4.out Av cv wr HRv.out (HN.out.on HBl.out)).mono ?_
        rintro e w5 ⟨rfl, B5⟩
        have HB5 := Lib.hid (HB.out.trans ((HBl.out.trans (B5.mono HBl.out.size)).mono HB.out.size))
        clear B5
        go_wp2
        go_ret
        exact ⟨rfl, HB5.out⟩
  · have H1 := Lib.hid (fun w h => number_any i w h)
    have hci : ciE i = 0 ∨ ciE i = 3 := by unfold ciE; split <;> simp
    have t3 : ((ciE i == 0) == (decide (0 ≤ i) && decide (i ≤ 63))) = true := by
      unfold ciE
      by_cases h : 0 ≤ i ∧ i < 64
      · rw [if_pos h]; simp; omega
      · rw [if_neg h]
        by_cases h0 : 0 ≤ i
        · have : decide (i ≤ 63) = false := by simp; omega
          rw [this]; simp
        · have : decide (0 ≤ i) = false := by simp; omega
          rw [this]; simp
    have HT3 := Lib.hid t3
    clear t3
    by_cases h0 : i < 0
    · have t1 : decide (i < 0) = true := by simpa using h0
      have t2 : decide (0 ≤ i) = false := by simp; omega
      have e : ciE i = 3 := by unfold ciE; rw [if_neg (by omega)]
      rw [e] at H1
      clear h1 hi hci HT3 e h0
      generalize nuV i = nv at *
      go_enter Tryd.func8, Tryd.ntmps8
      go_wp2_with fail
      refine (fbegun_true w HN.out).mono ?_
      rintro e w1_ ⟨rfl, Bq⟩
      have Sq : Below w.heap.size w w1_ := Bq
      have HB : Hid (Below w.heap.size w w1_) := Sq
      replace HN := Lib.hid (HN.out.on Sq)
      clear Bq Sq
      go_wp2_with fail
      refine (H1.out w1_ HN.out).mono ?_
      rintro e w2_ ⟨rfl, Bq⟩
      have Sq : Below w1_.heap.size w1_ w2_ := Bq
      replace HB : Hid (Below w.heap.size w w2_) := HB.out.trans (Sq.mono HB.out.size)
      replace HN := Lib.hid (HN.out.on Sq)
      clear Bq Sq
      go_wp2
      go_ret
      exact ⟨rfl, HB.out⟩
    · have t1 : decide (i < 0) = false := by simp; omega
      have t2 : decide (0 ≤ i) = true := by simp; omega
      have t4 : decide (61 < i) = true := by simp; omega
      by_cases h6 : i ≤ 63
      · have t5 : decide (i ≤ 63) = true := by simpa using h6
        have e : ciE i = 0 := by unfold ciE; rw [if_pos (by omega)]
        rw [e] at H1
        clear h1 hi hci HT3 e h0 h6
        generalize nuV i = nv at *
        go_enter Tryd.func8, Tryd.ntmps8
        go_wp2_with fail
        refine (fbegun_true w HN.out).mono ?_
        rintro e w1_ ⟨rfl, Bq⟩
        have Sq : Below w.heap.size w w1_ := Bq
        have HB : Hid (Below w.heap.size w w1_) := Sq
        replace HN := Lib.hid (HN.out.on Sq)
        clear Bq Sq
        go_wp2_with fail
        refine (H1.out w1_ HN.out).mono ?_
        rintro e w2_ ⟨rfl, Bq⟩
        have Sq : Below w1_.heap.size w1_ w2_ := Bq
        replace HB : Hid (Below w.heap.size w w2_) := HB.out.trans (Sq.mono HB.out.size)
        replace HN := Lib.hid (HN.out.on Sq)
        clear Bq Sq
        go_wp2
        go_ret
        exact ⟨rfl, HB.out⟩
      · have t5 : decide (i ≤ 63) = false := by simp; omega
        have e : ciE i = 3 := by unfold ciE; rw [if_neg (by omega)]
        rw [e] at H1
        clear h1 hi hci HT3 e h0 h6
        generalize nuV i = nv at *
        go_enter Tryd.func8, Tryd.ntmps8
        go_wp2_with fail
        refine (fbegun_true w HN.out).mono ?_
        rintro e w1_ ⟨rfl, Bq⟩
        have Sq : Below w.heap.size w w1_ := Bq
        have HB : Hid (Below w.heap.size w w1_) := Sq
        replace HN := Lib.hid (HN.out.on Sq)
        clear Bq Sq
        go_wp2_with fail
        refine (H1.out w1_ HN.out).mono ?_
        rintro e w2_ ⟨rfl, Bq⟩
        have Sq : Below w1_.heap.size w1_ w2_ := Bq
        replace HB : Hid (Below w.heap.size w w2_) := HB.out.trans (Sq.mono HB.out.size)
        replace HN := Lib.hid (HN.out.on Sq)
        clear Bq Sq
        go_wp2
        go_ret
        exact ⟨rfl, HB.out⟩
end Go.Proofs.YtjogccpnhcnedaaDoor
