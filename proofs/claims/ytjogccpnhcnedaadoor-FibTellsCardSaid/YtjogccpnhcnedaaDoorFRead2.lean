/- What Read answers, for whatever bits and place; each fact names its conditions. -/
import Derived.Test.YtjogccpnhcnedaaDoorFRead
import Derived.Test.YtjogccpnhcnedaaDoorFCode
import Derived.Test.YtjogccpnhcnedaaDoorFErr
import Derived.Deep.RegionHeld3
import Derived.Shelf.Abstract
namespace Go.Proofs.YtjogccpnhcnedaaDoor
set_option maxRecDepth 100000
set_option linter.unusedVariables false
open Go.RowKit Go.Shelf

theorem sumR_big (K : Nat) : ∀ (a d : List Nat), Dz 64 d → Dz K (a.reverse ++ d) → 63 < (a.reverse ++ d).headD 0 → sumR d (ints a) = (0, 3) := by
  intro a
  induction a with
  | nil =>
    intro d hd _ h
    cases d with
    | nil => simp at h
    | cons y ys => simp at h; have := hd.1; omega
  | cons x a ih =>
    intro d hd hk h
    rw [List.reverse_cons, List.append_assoc] at hk h
    obtain ⟨h1, h2⟩ := dz_tail _ d x K hk
    show sumR d ((x : Int) :: ints a) = _
    by_cases hx : 63 < x
    · rw [sumR_range d _ _ (by omega)]
    · rw [sumR_more d _ _ (by omega) ?_, Int.toNat_natCast]
      · exact ih (x :: d) ⟨by omega, h2⟩ hk h
      · rintro ⟨hne, hlt⟩
        cases d with
        | nil => exact hne rfl
        | cons y ys => have := h2.1; simp at hlt; omega
theorem sumR_idx (K : Nat) (d : List Nat) (h : Dz K d) : sumR [] (ints d.reverse) = if 63 < d.headD 0 then (0, 3) else (fsum d, 0) := by
  by_cases hb : 63 < d.headD 0
  · rw [if_pos hb]
    exact sumR_big K d.reverse [] trivial (by rw [List.reverse_reverse, List.append_nil]; exact h) (by rw [List.reverse_reverse, List.append_nil]; exact hb)
  · rw [if_neg hb]
    have h64 : Dz 64 d := by
      cases d with
      | nil => exact trivial
      | cons y ys => exact ⟨by simp at hb; omega, h.2⟩
    have := sumR_of d.reverse [] (by rw [List.reverse_reverse, List.append_nil]; exact h64)
    rw [List.reverse_reverse, List.append_nil] at this
    exact this

theorem dz_len : ∀ (d : List Nat) (k : Nat), Dz k d → d.length ≤ k := by
  intro d
  induction d with
  | nil => intro k _; exact Nat.zero_le _
  | cons x xs ih => intro k h; have := ih _ h.2; have := h.1; simp only [List.length_cons]; omega

/-- A number, a place and an error come back. -/
def FP (w : World) (n to : Nat) (err : Int) (e : Ending) (w' : World) : Prop := e = .returned (.tuple #[.int .u64 (n : Int), .int .i64 (to : Int), .int .i64 err]) ∧ Below w.heap.size w w'

set_option maxHeartbeats 2000000 in
theorem fread_bad (len : Int) (A : Option Addr) (c N : Nat) (bs : List Nat) (p : Int) (w : World) (hA : Rd w w.heap.size A bs) (ec e0 : Int) (he : rgE ec [decide (0 ≤ p), decide (p ≤ len)] = e0) (h0 : e0 ≠ 0)
    (HC : Hid (∀ V, Rd V V.heap.size A bs → Calls Tryd.prog 33 #[.agg #[.int .i64 len, .slice A N c]] V fun e w' => e = .returned (.int .i64 ec) ∧ Below V.heap.size V w')) :
    Calls Tryd.prog 13 #[.agg #[.int .i64 len, .slice A N c], .int .i64 p] w (FP w 0 0 e0) := by
  have HA := Lib.hid hA; clear hA
  have HE : Hid (rgE ec [decide (0 ≤ p), decide (p ≤ len)] = e0) := he
  have HR := Lib.hid (range2 ec (decide (0 ≤ p)) (decide (p ≤ len)) e0 he)
  clear he
  go_enter Tryd.func13, Tryd.ntmps13
  go_wp2_with fail
  generalize hV : w.alloc (.cells #[.int .i64 len, .slice A N c] 26) = V0
  have HV : Hid (Below w.heap.size w V0) := hV ▸ one_below _ _
  have HVs : Hid (w.heap.size + 1 = V0.heap.size) := by show _ = _; rw [← hV, World.size_alloc]
  have HK : Hid (∀ w' : World, Below V0.heap.size V0 w' → w'.cell? ⟨w.heap.size, 0, none⟩ = some (.int .i64 len) ∧ w'.cell? ⟨w.heap.size, 1, none⟩ = some (.slice A N c)) := by
    subst hV
    exact fun w' h => box_at (by rwa [World.size_alloc] at h)
  clear hV
  go_region_held3 (fun w' => w'.cell? ⟨w.heap.size, 0, none⟩ = some (.int .i64 len) ∧ w'.cell? ⟨w.heap.size, 1, none⟩ = some (.slice A N c))
    ((refine HK.out _ ?_; first | exact hk2.out | exact hk1.out.trans ((one_below _ _).mono hk1.out.size) | exact hk1.out | exact (one_below V0 _).drew | exact (Below.refl _ _).drew))
    (first
      | (go_at_call 31; have hx := hsl.out; refine (range_any ec [(decide (0 ≤ p)), (decide (p ≤ len))] 2 rfl (by decide) _ _ w1 hx).mono ?_; rintro e w2 ⟨rfl, hw⟩; have hk2 : Hid (Below V0.heap.size V0 w2) := hw ▸ hk1.out; clear hx hw hsl; rw [HE.out])
      | (go_at_call 31; have hx := hk1.out; refine (HR.out w1 _ rfl).mono ?_; rintro e w2 ⟨rfl, B2⟩; have hk2 : Hid (Below V0.heap.size V0 w2) := hx.trans (B2.mono hx.size); clear B2 hx)
      | (go_at_call 33; refine (HC.out V0.drew (HA.out.on HV.out.drew)).mono ?_; rintro e w1 ⟨rfl, B1⟩; have hk1 : Hid (Below V0.heap.size V0 w1) := ((Below.refl _ V0).drew).trans B1; clear B1)
      | (go_at_call 33; refine (HC.out _ (HA.out.on (HV.out.trans ((one_below V0 (.cells #[.bool (decide (0 ≤ p)), .bool (decide (p ≤ len))] 4)).drew.mono HV.out.size)))).mono ?_; rintro e w1 ⟨rfl, B1⟩; have hk1 : Hid (Below V0.heap.size V0 w1) := ((one_below V0 (.cells #[.bool (decide (0 ≤ p)), .bool (decide (p ≤ len))] 4)).drew).trans (B1.mono (by simp)); have hsl : Hid (RdV w1 w1.heap.size (some ⟨V0.heap.size, 0, none⟩) (cc [(decide (0 ≤ p)), (decide (p ≤ len))])) := (rdv_drew (rdv_cc V0 [(decide (0 ≤ p)), (decide (p ≤ len))])).on B1; clear B1))
  all_goals (
    obtain ⟨p1, q1⟩ := HK.out w2 hk2.out
    have HB2 : Hid (Below w.heap.size w w2) := HV.out.trans (hk2.out.mono HV.out.size)
    have t0 : (e0 != 0) = true := by simpa using h0
    clear h0 HK hk2 p1 q1
    go_wp2
    go_ret3
    exact ⟨rfl, HB2.out⟩)

set_option maxHeartbeats 4000000 in
theorem fread_l (l : List Bool) (hl : l.length ≤ 8192) (A : Option Addr) (c s : Nat) (hs : s ≤ l.length) (w : World) (h : Rd w w.heap.size A (pack l)) (hN : Nm w) (v to : Nat) (e0 : Int) (hr : fR l s = (v, to, e0)) :
    Calls Tryd.prog 13 #[.agg #[.int .i64 (l.length : Int), .slice A (pack l).length c], .int .i64 (s : Int)] w (FP w v to e0) := by
  have HC : Hid (∀ V, Rd V V.heap.size A (pack l) → Calls Tryd.prog 33 #[.agg #[.int .i64 (l.length : Int), .slice A (pack l).length c]] V fun e w' => e = .returned (.int .i64 0) ∧ Below V.heap.size V w') := fun V hV => check_l l hl A c V hV
  have HI : Hid (∀ V, Rd V V.heap.size A (pack l) → Calls Tryd.prog 34 #[.agg #[.int .i64 (l.length : Int), .slice A (pack l).length c], .int .i64 (s : Int)] V (IdxP V (ri (l.drop s) 0 false []) s)) := fun V hV => idx_any l hl A c s hs V hV
  have HA := Lib.hid h; clear h
  have HT := Lib.hid hN; clear hN
  have hst := fun d k hh => ri_start (l.drop s) d k hh
  have hll : (l.drop s).length ≤ 8192 := by rw [List.length_drop]; omega
  have hn0 := fR_none l s
  have hs0 := fun d k => fR_some l s d k
  generalize (l.drop s).length = dl0 at *
  generalize pack l = bs at *
  generalize bs.length = N at *
  have HE : Hid (rgE 0 [true, true] = 0) := by show _ = _; decide
  have HR := Lib.hid (range2 0 true true 0 (by decide))
  have HF := Lib.hid hr
  have hsl : s ≤ l.length := hs
  generalize ri (l.drop s) 0 false [] = r at *
  have HN0 := Lib.hid hn0; have HS0 := Lib.hid hs0; have HST := Lib.hid hst
  clear hn0 hs0 hst hr hs
  generalize l.length = ln at *
  go_enter Tryd.func13, Tryd.ntmps13
  go_wp2_with fail
  generalize hV : w.alloc (.cells #[.int .i64 (ln : Int), .slice A N c] 26) = V0
  have HV : Hid (Below w.heap.size w V0) := hV ▸ one_below _ _
  have HVs : Hid (w.heap.size + 1 = V0.heap.size) := by show _ = _; rw [← hV, World.size_alloc]
  have HK : Hid (∀ w' : World, Below V0.heap.size V0 w' → w'.cell? ⟨w.heap.size, 0, none⟩ = some (.int .i64 (ln : Int)) ∧ w'.cell? ⟨w.heap.size, 1, none⟩ = some (.slice A N c)) := by
    subst hV
    exact fun w' h => box_at (by rwa [World.size_alloc] at h)
  clear hV
  go_region_held3 (fun w' => w'.cell? ⟨w.heap.size, 0, none⟩ = some (.int .i64 (ln : Int)) ∧ w'.cell? ⟨w.heap.size, 1, none⟩ = some (.slice A N c))
    ((refine HK.out _ ?_; first | exact hk2.out | exact hk1.out.trans ((one_below _ _).mono hk1.out.size) | exact hk1.out | exact (one_below V0 _).drew | exact (Below.refl _ _).drew))
    (first
      | (go_at_call 31; have hx := hsl.out; refine (range_any 0 [true, true] 2 rfl (by decide) _ _ w1 hx).mono ?_; rintro e w2 ⟨rfl, hw⟩; have hk2 : Hid (Below V0.heap.size V0 w2) := hw ▸ hk1.out; clear hx hw hsl; rw [HE.out])
      | (go_at_call 31; have hx := hk1.out; refine (HR.out w1 _ rfl).mono ?_; rintro e w2 ⟨rfl, B2⟩; have hk2 : Hid (Below V0.heap.size V0 w2) := hx.trans (B2.mono hx.size); clear B2 hx)
      | (go_at_call 33; refine (HC.out V0.drew (HA.out.on HV.out.drew)).mono ?_; rintro e w1 ⟨rfl, B1⟩; have hk1 : Hid (Below V0.heap.size V0 w1) := ((Below.refl _ V0).drew).trans B1; clear B1)
      | (go_at_call 33; refine (HC.out _ (HA.out.on (HV.out.trans ((one_below V0 (.cells #[.bool true, .bool true] 4)).drew.mono HV.out.size)))).mono ?_; rintro e w1 ⟨rfl, B1⟩; have hk1 : Hid (Below V0.heap.size V0 w1) := ((one_below V0 (.cells #[.bool true, .bool true] 4)).drew).trans (B1.mono (by simp)); have hsl : Hid (RdV w1 w1.heap.size (some ⟨V0.heap.size, 0, none⟩) (cc [true, true])) := (rdv_drew (rdv_cc V0 [true, true])).on B1; clear B1))
  all_goals (
    obtain ⟨p1, q1⟩ := HK.out w2 hk2.out
    have HB2 : Hid (Below w.heap.size w w2) := HV.out.trans (hk2.out.mono HV.out.size)
    clear HK hk2
    go_wp2_with fail
    refine (HI.out _ (HA.out.on HB2.out)).mono ?_
    intro e w3 hI
    cases r with
    | none =>
      obtain ⟨A1, c1, rfl, B3⟩ := hI
      have hf := HF.out
      rw [HN0.out rfl] at hf
      simp only [Prod.mk.injEq] at hf
      have HB3 := Lib.hid (HB2.out.trans (B3.mono HB2.out.size))
      obtain ⟨rfl, rfl, rfl⟩ := hf
      clear B3 p1 q1 HF HN0 HS0 HST
      go_wp2
      go_ret3
      exact ⟨rfl, HB3.out⟩
    | some rr =>
      obtain ⟨d, k⟩ := rr
      obtain ⟨A1, c1, rfl, hr1, B3⟩ := hI
      have hf := HF.out
      rw [HS0.out d k rfl] at hf
      obtain ⟨s1, s2, s3, s4⟩ := HST.out d k rfl
      have hsm := sumR_idx _ d s3
      have HB3 := Lib.hid (HB2.out.trans (B3.mono HB2.out.size))
      have hdl : d.length ≤ 9223372036854775807 := by have := dz_len _ _ s3; omega
      have HSum := fun su es h => sum_any (ints d.reverse) d.length (by rw [ints_length, List.length_reverse]) hdl A1 c1 w3 hr1 (HT.out.on HB3.out) su es h
      clear B3 p1 q1 HF HN0 HS0 HST hr1
      by_cases hbig : 63 < d.headD 0
      · rw [if_pos hbig] at hf hsm
        simp only [Prod.mk.injEq] at hf
        obtain ⟨rfl, rfl, rfl⟩ := hf
        have HS := Lib.hid (HSum 0 3 hsm)
        clear HSum hsm hbig s1 s2 s3 s4
        generalize d.length = dl at *
        go_wp2_with fail
        refine HS.out.mono ?_
        rintro e w4 ⟨rfl, B4⟩
        have HB4 := Lib.hid (HB3.out.trans (B4.mono HB3.out.size)); clear B4
        go_wp2_with fail
        refine (range1 3 true 3 rfl _ _ rfl).mono ?_
        rintro e w5 ⟨rfl, B5⟩
        have HB5 := Lib.hid (HB4.out.trans (B5.mono HB4.out.size)); clear B5
        go_wp2
        go_ret3
        exact ⟨rfl, HB5.out⟩
      · rw [if_neg hbig] at hf hsm
        have h64 : Dz 64 d := by
          cases d with
          | nil => exact trivial
          | cons y ys => exact ⟨by simp at hbig; omega, s3.2⟩
        have hlt := fsum_lt d 64 h64
        have hpos : 0 < fsum d := by
          cases d with
          | nil => exact absurd rfl s2
          | cons y ys => simp only [fsum]; have := fb_pos y; omega
        rw [fb64] at hlt
        have HS := Lib.hid (HSum _ 0 hsm)
        clear HSum hsm hbig s1 s2 s3 h64
        generalize fsum d = f at *
        generalize d.length = dl at *
        by_cases hm : 1099511627777 < f
        · rw [if_pos hm] at hf
          simp only [Prod.mk.injEq] at hf
          obtain ⟨rfl, rfl, rfl⟩ := hf
          have t1 : decide ((f : Int) ≤ 1099511627777) = false := by simp; omega
          clear hm
          go_wp2_with fail
          refine HS.out.mono ?_
          rintro e w4 ⟨rfl, B4⟩
          have HB4 := Lib.hid (HB3.out.trans (B4.mono HB3.out.size)); clear B4
          go_wp2_with fail
          refine (range1 0 false 3 rfl _ _ rfl).mono ?_
          rintro e w5 ⟨rfl, B5⟩
          have HB5 := Lib.hid (HB4.out.trans (B5.mono HB4.out.size)); clear B5
          go_wp2
          go_ret3
          exact ⟨rfl, HB5.out⟩
        · rw [if_neg hm] at hf
          simp only [Prod.mk.injEq] at hf
          obtain ⟨rfl, rfl, rfl⟩ := hf
          have t1 : decide ((f : Int) ≤ 1099511627777) = true := by simp; omega
          go_wp2_with fail
          refine HS.out.mono ?_
          rintro e w4 ⟨rfl, B4⟩
          have HB4 := Lib.hid (HB3.out.trans (B4.mono HB3.out.size)); clear B4
          go_wp2_with fail
          refine (range1 0 true 0 rfl _ _ rfl).mono ?_
          rintro e w5 ⟨rfl, B5⟩
          have HB5 := Lib.hid (HB4.out.trans (B5.mono HB4.out.size)); clear B5
          go_wp2
          go_ret3
          exact ⟨by rw [show ((f - 1 : Nat) : Int) = (f : Int) - 1 from by omega]; rfl, HB5.out⟩)


theorem rgE_rdE (len : Int) (bs : List Nat) (p : Int) : rgE (chk len bs) [decide (0 ≤ p), decide (p ≤ len)] = rdE len bs p := by
  unfold rgE rdE
  by_cases h : chk len bs = 0
  · rw [h, if_neg (show ¬ ((0 : Int) ≠ 0) from fun h => h rfl)]
    by_cases hp : p < 0 ∨ len < p
    · rw [if_pos hp, if_pos]
      refine ⟨rfl, ?_⟩
      rcases hp with hp | hp
      · have : decide (0 ≤ p) = false := by simp; omega
        rw [this]; rfl
      · have : decide (p ≤ len) = false := by simp; omega
        rw [this]; cases decide (0 ≤ p) <;> rfl
    · rw [if_neg hp, if_neg]
      rintro ⟨_, h2⟩
      have e1 : decide (0 ≤ p) = true := by simp; omega
      have e2 : decide (p ≤ len) = true := by simp; omega
      rw [e1, e2] at h2
      revert h2
      decide
  · rw [if_neg (fun h2 => h h2.1), if_pos h]
theorem fread_e (len : Int) (A : Option Addr) (c : Nat) (bs : List Nat) (p : Int) (hb : ∀ b ∈ bs, b < 256) (e0 : Int) (he : rdE len bs p = e0) (h0 : e0 ≠ 0) (w : World) (h : Rd w w.heap.size A bs) :
    Calls Tryd.prog 13 #[.agg #[.int .i64 len, .slice A bs.length c], .int .i64 p] w (FP w 0 0 e0) :=
  fread_bad len A c bs.length bs p w h (chk len bs) e0 (by rw [rgE_rdE, he]) h0 (fun V hV => check_any len A c bs V hb hV)
theorem rdE_zero (len : Int) (bs : List Nat) (p : Int) (hb : ∀ b ∈ bs, b < 256) (h : rdE len bs p = 0) : ∃ (l : List Bool) (s : Nat), len = (l.length : Int) ∧ l.length ≤ 8192 ∧ bs = pack l ∧ p = (s : Int) ∧ s ≤ l.length := by
  unfold rdE at h
  by_cases hc : chk len bs = 0
  · rw [if_neg (fun h => h hc)] at h
    obtain ⟨l, h1, h2, h3⟩ := chk_zero len bs hb hc
    by_cases hp : p < 0 ∨ len < p
    · rw [if_pos hp] at h; cases h
    · obtain ⟨s, rfl⟩ := Int.eq_ofNat_of_zero_le (show 0 ≤ p by omega)
      exact ⟨l, s, h1, h2, h3, rfl, by omega⟩
  · rw [if_pos hc] at h; exact absurd h hc
end Go.Proofs.YtjogccpnhcnedaaDoor
