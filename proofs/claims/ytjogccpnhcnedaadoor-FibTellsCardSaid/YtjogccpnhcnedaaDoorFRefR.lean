/- The document's own reading of a code: what FibRead answers; each fact names its conditions. -/
import Derived.Test.YtjogccpnhcnedaaDoorFRefS
namespace Go.Proofs.YtjogccpnhcnedaaDoor
set_option maxRecDepth 100000
set_option linter.unusedVariables false
open Go.RowKit Go.Shelf

/-- The sum of the numbers whose bits are set, from a place on. -/
def psum (l : List Bool) (s : Nat) : Nat → Nat
  | 0 => 0
  | j + 1 => psum l s j + (l[s + j]?.getD false).toNat * fb j
theorem psum_le (l : List Bool) (s : Nat) : ∀ j, psum l s j ≤ fb (j + 1) := by
  intro j
  induction j with
  | zero => exact Nat.zero_le _
  | succ j ih =>
    rw [fb_step]
    simp only [psum]
    have : (l[s + j]?.getD false).toNat * fb j ≤ 1 * fb j := Nat.mul_le_mul_right _ (Bool.toNat_le _)
    omega
/-- What has been read ahead of a place. -/
def RdSt (l : List Bool) (s k : Nat) : Prop :=
  ∃ (b : Bool) (d : List Nat), ri (l.drop s) 0 false [] = ri (l.drop (s + k)) k b d ∧ (b = true → l[s + k]?.getD false = false) ∧ fsum d = psum l s k
theorem rdSt_zero (l : List Bool) (s : Nat) : RdSt l s 0 := ⟨false, [], rfl, (fun h => by cases h), rfl⟩
theorem rdSt_step (l : List Bool) (s k : Nat) (h : RdSt l s k) (hk : s + k < l.length) (hn : ¬ (l[s + k]?.getD false = true ∧ l[s + k + 1]?.getD false = true)) : RdSt l s (k + 1) := by
  obtain ⟨b, d, h1, h2, h3⟩ := h
  have hat := ri_at l (s + k) k b d hk
  generalize hc : l[s + k]?.getD false = c at *
  rw [if_neg (by rintro ⟨rfl, rfl⟩; exact absurd (h2 rfl) (by decide))] at hat
  refine ⟨c, if c = true then k :: d else d, by rw [h1, hat]; rfl, ?_, ?_⟩
  · intro hct
    have : ¬ (l[s + k + 1]?.getD false = true) := fun h => hn ⟨hct, h⟩
    rw [show s + (k + 1) = s + k + 1 from rfl]
    simpa using this
  · simp only [psum]
    rw [hc]
    cases c
    · simp [h3]
    · simp only [if_true, fsum, Bool.toNat_true, Nat.one_mul]; omega
theorem rdSt_end (l : List Bool) (s k : Nat) (h : RdSt l s k) (hk : l.length ≤ s + k + 1) : ri (l.drop s) 0 false [] = none := by
  obtain ⟨b, d, h1, h2, h3⟩ := h
  rw [h1]
  by_cases hlt : s + k < l.length
  · rw [ri_at l (s + k) k b d hlt, if_neg (by rintro ⟨hb, hc⟩; rw [h2 hb] at hc; cases hc), List.drop_of_length_le (by omega)]
    rfl
  · rw [List.drop_of_length_le (by omega)]; rfl
theorem rdSt_two (l : List Bool) (s k : Nat) (h : RdSt l s k) (hk : s + k + 1 < l.length) (h1 : l[s + k]?.getD false = true) (h2 : l[s + k + 1]?.getD false = true) :
    ∃ d, ri (l.drop s) 0 false [] = some (k :: d, k + 2) ∧ fsum (k :: d) = psum l s (k + 1) := by
  obtain ⟨b, d, e1, e2, e3⟩ := h
  have hb : b = false := by
    cases b
    · rfl
    · rw [e2 rfl] at h1; cases h1
  subst hb
  refine ⟨d, ?_, ?_⟩
  · rw [e1, ri_at l (s + k) k false d (by omega), if_neg (by simp), h1, if_pos rfl, ri_at l (s + k + 1) (k + 1) true (k :: d) hk, if_pos ⟨rfl, h2⟩]
  · simp only [fsum, psum]; rw [h1, e3]; simp; omega

/-- At each round's head of the first loop. -/
def E1Rel (l : List Bool) (s : Nat) (p : Value) : Prop := ∃ k : Nat, p = .int .i64 ((s + k : Nat) : Int) ∧ s + k ≤ l.length ∧ RdSt l s k
/-- At each round's head of the second loop. -/
def E2Rel (w : World) (l : List Bool) (s k : Nat) (v p : Value) (wr : World) : Prop := ∃ j : Nat, p = .int .i64 ((s + j : Nat) : Int) ∧ v = .int .u64 (psum l s j : Int) ∧ j ≤ k + 1 ∧ Below w.heap.size w wr

theorem fR_of_two (l : List Bool) (s k : Nat) (d : List Nat) (P v to : Nat) (e0 : Int) (h : ri (l.drop s) 0 false [] = some (k :: d, k + 2)) (hs : fsum (k :: d) = P) (hr : fR l s = (v, to, e0)) :
    (60 < k → v = 0 ∧ to = 0 ∧ e0 = 3) ∧ (k ≤ 60 → 1099511627777 < P → v = 0 ∧ to = 0 ∧ e0 = 3) ∧ (k ≤ 60 → ¬ 1099511627777 < P → v = P - 1 ∧ to = s + k + 2 ∧ e0 = 0 ∧ 0 < P) := by
  rw [fR_some l s _ _ h] at hr
  have hh : (k :: d).headD 0 = k := rfl
  rw [hh, hs] at hr
  have hP : fb k ≤ P := by rw [← hs]; simp only [fsum]; omega
  refine ⟨fun h60 => ?_, fun h60 hb => ?_, fun h60 hb => ?_⟩
  · by_cases h63 : 63 < k
    · rw [if_pos h63] at hr; cases hr; exact ⟨rfl, rfl, rfl⟩
    · have := fb_mono (show 61 ≤ k by omega)
      rw [fb61] at this
      rw [if_neg h63, if_pos (by omega)] at hr; cases hr; exact ⟨rfl, rfl, rfl⟩
  · rw [if_neg (by omega), if_pos hb] at hr; cases hr; exact ⟨rfl, rfl, rfl⟩
  · rw [if_neg (by omega), if_neg hb] at hr
    cases hr
    have := fb_pos k
    exact ⟨rfl, by omega, rfl, by omega⟩

set_option maxHeartbeats 8000000 in
theorem freadr_any (l : List Bool) (n : Nat) (hn : l.length = n) (hl : n ≤ 8192) (A : Option Addr) (c s : Nat) (hs : s ≤ n) (w : World) (h : RdV w w.heap.size A (ic l)) (v to : Nat) (e0 : Int) (hr : fR l s = (v, to, e0)) :
    Calls Tryd.prog 20 #[.slice A n c, .int .i64 (s : Int)] w (FP w v to e0) := by
  have HR := Lib.hid h; clear h
  have HN := Lib.hid hn; clear hn
  have HF := Lib.hid hr; clear hr
  go_enter Tryd.func20, Tryd.ntmps20
  go_wp2
  go_loop [7] (fun p => E1Rel l s p) (fun p => n - (intOf p).toNat)
  case atStart => exact ⟨0, rfl, by rw [HN.out]; exact hs, rdSt_zero l s⟩
  case round =>
    obtain ⟨k, rfl, hk, hst⟩ := hrel
    rw [HN.out] at hk
    have HSt := Lib.hid hst; clear hst
    have hstep := rdSt_step l s k HSt.out
    have hend := rdSt_end l s k HSt.out
    have htwo := rdSt_two l s k HSt.out
    rw [HN.out] at hstep hend htwo
    generalize hq : s + k = q at *
    have HQ := Lib.hid hq
    by_cases hlt : q + 1 < n
    · have hq1 : q < l.length := by rw [HN.out]; omega
      have hq2 : q + 1 < l.length := by rw [HN.out]; exact hlt
      obtain ⟨b, off, rfl, hb, hc1⟩ := HR.out.at_ (ic_get l q hq1)
      obtain ⟨b', off', eA, hb', hc2⟩ := HR.out.at_ (ic_get l (q + 1) hq2)
      simp only [Option.some.injEq, Addr.mk.injEq, and_true] at eA
      obtain ⟨rfl, rfl⟩ := eA
      have hlt2 : (q : Int) + 1 < (n : Int) := by omega
      have t0 : decide ((q : Int) + 1 < (n : Int)) = true := decide_eq_true hlt2
      generalize hx : l[q]?.getD false = x at *
      generalize hy : l[q + 1]?.getD false = y at *
      have HX := Lib.hid hx; have HY := Lib.hid hy
      clear hx hy
      by_cases hxy : x = true ∧ y = true
      · obtain ⟨rfl, rfl⟩ := hxy
        obtain ⟨d, hri, hsum⟩ := htwo hlt rfl rfl
        obtain ⟨r1, r2, r3⟩ := fR_of_two l s k d _ v to e0 hri hsum HF.out
        have hle := psum_le l s (k + 1)
        have R1 := Lib.hid r1; have R2 := Lib.hid r2; have R3 := Lib.hid r3
        have HLe := Lib.hid hle
        clear hstep hend htwo hri hsum r1 r2 r3 hle HF
        have s1 : (q : Int) - (s : Int) = (k : Int) := by omega
        have hnot : decide ((n : Int) ≤ (q : Int) + 1) = false := by simp; omega
        by_cases h60 : 60 < k
        · have t1 : decide ((60 : Int) < (k : Int)) = true := by simp; omega
          obtain ⟨rfl, rfl, rfl⟩ := R1.out h60
          clear R1 R2 R3 h60
          go_wp2
          go_ret3
          exact ⟨rfl, Below.refl _ _⟩
        · have t1 : decide ((60 : Int) < (k : Int)) = false := by simp; omega
          have hk60 : k ≤ 60 := by omega
          have R2' := Lib.hid (R2.out hk60); have R3' := Lib.hid (R3.out hk60)
          clear R1 R2 R3 h60
          go_wp2
          go_loopw [8, 9] (fun v p wr => E2Rel w l s k v p wr) (fun _ p _ => q + 1 - (intOf p).toNat)
          case atStart => exact ⟨0, rfl, rfl, by omega, Below.refl _ _⟩
          case round =>
            obtain ⟨j, rfl, rfl, hj, hbel⟩ := hrel
            have HBl := Lib.hid hbel
            by_cases hjk : j ≤ k
            · have hjl : s + j < l.length := by rw [HN.out]; omega
              obtain ⟨b', off', eA, hb', hc3⟩ := HR.out.at_ (ic_get l (s + j) hjl)
              simp only [Option.some.injEq, Addr.mk.injEq, and_true] at eA
              obtain ⟨rfl, rfl⟩ := eA
              have e3 := (hbel.cell (p := ⟨b, off + (s + j), none⟩) hb).trans hc3
              have hpl := psum_le l s (j + 1)
              have hfm := fb_mono (show j + 1 + 1 ≤ 64 by omega)
              rw [fb64] at hfm
              have HPs : Hid (psum l s j + (l[s + j]?.getD false).toNat * fb j = psum l s (j + 1)) := rfl
              have hbt := Bool.toNat_le (l[s + j]?.getD false)
              have hbm : (l[s + j]?.getD false).toNat * fb j ≤ fb j := by have := Nat.mul_le_mul_right (fb j) hbt; omega
              have hfj := fb_mono (show j ≤ 64 by omega)
              rw [fb64] at hfj
              have HFn := Lib.hid (fun V => (fnumr_any j (by omega) V).mono (fun _ _ h => (⟨h.1, h.2.symm⟩ : _ ∧ _)))
              clear hc3 hc1 hc2 hbel
              generalize hr0 : s + j = r at *
              have HR0 := Lib.hid hr0; clear hr0
              have s2 : (r : Int) - (s : Int) = (j : Int) := by have := HR0.out; omega
              have t3 : decide (r ≤ q) = true := decide_eq_true (by have := HR0.out; omega)
              have i3 : (r : Int) < (n : Int) := by have := HR0.out; omega
              have HW : Hid (IntKind.u64.wrap ((psum l s j : Int) + IntKind.u64.wrap (((l[r]?.getD false).toNat : Int) * (fb j : Int))) = (psum l s (j + 1) : Int)) := by
                show _ = _
                have hps := HPs.out
                rw [← HPs.out]
                generalize hm : (l[r]?.getD false).toNat * fb j = mm at *
                have e4 : (((l[r]?.getD false).toNat : Int) * (fb j : Int)) = (mm : Int) := by rw [← hm]; simp
                rw [e4, IntKind.wrap_u64, IntKind.wrap_u64]
                omega
              have HW2 : Hid (IntKind.u64.wrap ((psum l s j : Int) + ((l[r]?.getD false).toNat : Int) * (fb j : Int)) = (psum l s (j + 1) : Int)) := by
                show _ = _
                have hps := HPs.out
                rw [← HPs.out]
                generalize hm : (l[r]?.getD false).toNat * fb j = mm at *
                have e4 : (((l[r]?.getD false).toNat : Int) * (fb j : Int)) = (mm : Int) := by rw [← hm]; simp
                rw [e4, IntKind.wrap_u64]
                omega
              generalize hp1 : psum l s (j + 1) = p1 at *
              have HP1 := Lib.hid hp1; clear hp1
              generalize psum l s j = p0 at *
              generalize (l[r]?.getD false).toNat = bt at *
              generalize fb j = fj at *
              have s3 : IntKind.i64.wrap ((r : Int) - (s : Int)) = (j : Int) := by rw [s2]; exact IntWalk.i64_in _ (by omega)
              have i4 : (0 : Int) ≤ (r : Int) := by omega
              go_wp2_with fail
              go_quiet ((go_at_call 14; exact Calls.quiet_of_same (HFn.out _)))
              go_wp2_with fail
              rw [show IntKind.u64.wrap ((p0 : Int) + (bt : Int) * (fj : Int)) = (p1 : Int) from HW2.out]
              exact ⟨⟨j + 1, by rw [show ((s + (j + 1) : Nat) : Int) = (r : Int) + 1 from by have := HR0.out; omega], by rw [HP1.out], by omega, below_drewN HBl.out _⟩, by simp [intOf]; omega⟩
            · obtain rfl : j = k + 1 := by omega
              clear hbel
              generalize hr0 : s + (k + 1) = r at *
              have HR0 := Lib.hid hr0; clear hr0
              have t3 : decide (r ≤ q) = false := by simp; have := HR0.out; omega
              have hle := HLe.out
              have hfm := fb_mono (show k + 1 + 1 ≤ 64 by omega)
              rw [fb64] at hfm
              generalize fb (k + 1 + 1) = fk at *
              by_cases hbig : 1099511627777 < psum l s (k + 1)
              · obtain ⟨rfl, rfl, rfl⟩ := R2'.out hbig
                generalize psum l s (k + 1) = P at *
                have t4 : decide ((1099511627776 : Int) < (P : Int) - 1) = true := decide_eq_true (by omega)
                have hp1 : (1 : Int) ≤ (P : Int) := by omega
                clear R2' R3' hbig
                go_wp2
                go_ret3
                exact ⟨rfl, HBl.out⟩
              · obtain ⟨rfl, rfl, rfl, hpos⟩ := R3'.out hbig
                generalize psum l s (k + 1) = P at *
                have t4 : decide ((1099511627776 : Int) < (P : Int) - 1) = false := by simp; omega
                clear R2' R3'
                go_wp2
                go_ret3
                exact ⟨by rw [show ((P - 1 : Nat) : Int) = (P : Int) - 1 from by omega, show ((s + k + 2 : Nat) : Int) = (q : Int) + 2 from by have := HQ.out; omega]; rfl, HBl.out⟩
      · have HS2 := Lib.hid (hstep (by omega) hxy)
        clear hstep hend htwo
        cases x
        · clear hxy
          go_wp2
          go_round
          case rel => exact ⟨k + 1, by rw [show ((s + (k + 1) : Nat) : Int) = (q : Int) + 1 from by have := HQ.out; omega], by rw [HN.out]; have := HQ.out; omega, HS2.out⟩
          case measure => simp [intOf]; omega
        · cases y
          · clear hxy
            go_wp2
            go_round
            case rel => exact ⟨k + 1, by rw [show ((s + (k + 1) : Nat) : Int) = (q : Int) + 1 from by have := HQ.out; omega], by rw [HN.out]; have := HQ.out; omega, HS2.out⟩
            case measure => simp [intOf]; omega
          · exact absurd ⟨rfl, rfl⟩ hxy
    · have hri := hend (by omega)
      have hf := HF.out
      rw [fR_none l s hri] at hf
      simp only [Prod.mk.injEq] at hf
      obtain ⟨rfl, rfl, rfl⟩ := hf
      have t0 : decide ((q : Int) + 1 < (n : Int)) = false := by simp; omega
      have t1 : decide ((n : Int) ≤ (q : Int) + 1) = true := by simp; omega
      clear hstep hend htwo hri HF
      go_wp2
      go_ret3
      exact ⟨rfl, Below.refl _ _⟩
end Go.Proofs.YtjogccpnhcnedaaDoor
