/- The law RunsOnly: runs and a rest of which none is next to a run, nor long enough itself, are what their list is split into; for whatever runs and numbers. -/
import Derived.Test.YthldcdcpflamaaaJGRRef
namespace Go.Proofs.Ythldcdcpflamaaa
set_option maxRecDepth 100000
set_option linter.unusedVariables false
open Go.RowKit Go.Shelf

theorem rk_or2 (r : List Ri) : rkchk r = 0 ∨ rkchk r = 2 ∨ rkchk r = 3 ∨ rkchk r = 4 := by
  unfold rkchk
  split
  · simp
  · have := rk_or r (-1); omega
def k_ok (R : List Rn) (rest : List Nat) (k j : Nat) : Prop := k ≤ (R[j]?.getD (0, 0)).2 ∧ (∀ x ∈ rest, (x : Int) ≠ ((R[j]?.getD (0, 0)).1 : Int) - 1 ∧ x ≠ (R[j]?.getD (0, 0)).1 + (R[j]?.getD (0, 0)).2)
/-- At each round's head: the first i are long, and none of the rest is next to them. -/
def OnRel (R : List Rn) (rest : List Nat) (k : Nat) (w : World) (p : Value) (wr : World) : Prop :=
  ∃ i : Nat, i ≤ R.length ∧ p = .int .i64 (i : Int) ∧ (∀ j, j < i → k ≤ (R[j]?.getD (0, 0)).2 ∧ (∀ x ∈ rest, (x : Int) ≠ ((R[j]?.getD (0, 0)).1 : Int) - 1 ∧ x ≠ (R[j]?.getD (0, 0)).1 + (R[j]?.getD (0, 0)).2)) ∧ Below w.heap.size w wr
set_option maxHeartbeats 4000000 in
theorem runsOnly_law (A1 : Option Addr) (c1 : Nat) (rr : List Ri) (A2 : Option Addr) (c2 : Nat) (xs : List Int) (k : Int) (w : World) (hc1 : rr.length ≤ c1) (hna1 : A1 = none → c1 = 0) (hb1 : ∀ x ∈ rr, (-9223372036854775808 ≤ x.1 ∧ x.1 ≤ 9223372036854775807) ∧ (-9223372036854775808 ≤ x.2 ∧ x.2 ≤ 9223372036854775807)) (hA1 : RdV w w.heap.size A1 (rcs rr)) (hn1 : rr.length ≤ 9223372036854775807)
    (hc2 : xs.length ≤ c2) (hna2 : A2 = none → c2 = 0) (hb2 : ∀ x ∈ xs, -9223372036854775808 ≤ x ∧ x ≤ 9223372036854775807) (hA2 : RdV w w.heap.size A2 (zc xs)) (hn2 : xs.length ≤ 9223372036854775807) (hk : -9223372036854775808 ≤ k ∧ k ≤ 9223372036854775807) :
    Calls Try.prog 11 #[.slice A1 rr.length c1, .slice A2 xs.length c2, .int .i64 k] w fun e w' => e = .returned (.bool true) ∧ Below w.heap.size w w' := by
  obtain ⟨M1, M2, hM⟩ : ∃ M1 M2, mgA rr xs = (M1, M2) := ⟨_, _, rfl⟩
  have H1 := Lib.hid (merge_n rr _ rfl hn1 xs _ rfl hn2 M1 M2 hM _ rfl A1 A2 c1 c2 hna2 w hA1 hA2)
  by_cases hM2 : M2 = 0
  · subst hM2
    have h0 : mgE0 rr xs = 0 := by
      unfold mgA at hM
      by_cases h : mgE0 rr xs = 0
      · exact h
      · rw [if_pos h] at hM; exact (Prod.mk.inj hM).2
    obtain ⟨R, rest, rfl, hR, rfl, hrest⟩ := mgA_zero rr xs h0
    rw [mgA_ok R hR rest hrest] at hM
    obtain ⟨hl, hperm⟩ := mg_zero hR hrest hM
    have HA1 := Lib.hid hA1; have HA2 := Lib.hid hA2
    by_cases k1 : k < 2
    · have t1 : decide (k < 2) = true := by simpa using k1
      generalize (rz R).length = nr at *
      generalize (ns rest).length = nx at *
      generalize M1.length = nm at *
      clear hM hl hperm hR hrest hb1 hb2 hA1 hA2 h0 k1 HA1 HA2
      go_enter Try.func11, Try.ntmps11
      go_wp2_with fail
      refine H1.out.mono ?_
      rintro e w1 ⟨A3, c3, rfl, -, -, -, B1⟩
      have HB := Lib.hid B1
      clear B1
      go_wp2_with fail
      refine (runsbegun_true w1).mono ?_
      rintro e w2 ⟨rfl, Bq⟩
      replace HB := Lib.hid (HB.out.trans (Bq.mono HB.out.size))
      clear Bq
      go_wp2
      go_ret
      exact ⟨rfl, HB.out⟩
    · have t1 : decide (k < 2) = false := by simp; omega
      by_cases k2 : 300 < k
      · have t2 : decide (300 < k) = true := by simpa using k2
        generalize (rz R).length = nr at *
        generalize (ns rest).length = nx at *
        generalize M1.length = nm at *
        clear hM hl hperm hR hrest hb1 hb2 hA1 hA2 h0 k1 k2 HA1 HA2
        go_enter Try.func11, Try.ntmps11
        go_wp2_with fail
        refine H1.out.mono ?_
        rintro e w1 ⟨A3, c3, rfl, -, -, -, B1⟩
        have HB := Lib.hid B1
        clear B1
        go_wp2_with fail
        refine (runsbegun_true w1).mono ?_
        rintro e w2 ⟨rfl, Bq⟩
        replace HB := Lib.hid (HB.out.trans (Bq.mono HB.out.size))
        clear Bq
        go_wp2
        go_ret
        exact ⟨rfl, HB.out⟩
      · have t2 : decide (300 < k) = false := by simp; omega
        obtain ⟨K, rfl⟩ : ∃ K : Nat, k = (K : Int) := ⟨k.toNat, by omega⟩
        have b1 : 2 ≤ K := by omega
        have b2 : K ≤ 300 := by omega
        have hRl := hR.1
        have hrl := hrest.1
        have hll := hl.1
        have HBd : Hid (∀ p ∈ R, p.2 ≤ 300 ∧ p.1 + p.2 ≤ 1048577) := hR.2.2
        have HMS := Lib.hid (fun h1 h2 h3 => merge_split K R rest M1 hR hrest hM h1 h2 h3)
        have HSplit : Hid (lng K (rs M1) = R → flatR (sht K (rs M1)) = rest → ∀ (A : Option Addr) (c : Nat) (V : World), M1.length ≤ c → RdV V V.heap.size A (zc (ns M1)) → Calls Try.prog 31 #[.slice A M1.length c, .int .i64 (K : Int)] V (SpN V R.length rest.length (rz R) rest 0)) := fun e1 e2 A c V h1 h2 => split_i M1 hl _ rfl K b1 b2 R rest e1 e2 _ _ rfl rfl A c h1 V h2
        have HRS : Hid (∀ V, RdV V V.heap.size A2 (zc (ns rest)) → Calls Try.prog 34 #[.slice A2 rest.length c2, .int .i64 (K : Int)] V (SrP V (rz (lng K (rs rest))) (flatR (sht K (rs rest))) (lng K (rs rest)).length (flatR (sht K (rs rest))).length)) := fun V h => rsplit_in rest hrest _ rfl K b1 b2 _ _ rfl rfl A2 c2 V h
        have HSR : Hid (∀ (B1 : Option Addr) (d1 : Nat) (V : World), RdV V V.heap.size B1 (rcs (rz R)) → RdV V V.heap.size A1 (rcs (rz R)) → Calls Try.prog 37 #[.slice B1 R.length d1, .slice A1 R.length c1] V fun e w' => e = .returned (.bool true) ∧ Below V.heap.size V w') := fun B1 d1 V h1 h2 => sameR_t (rz R) _ (rz_length R) (by omega) B1 A1 d1 c1 V h1 h2
        have HSI : Hid (∀ (B1 : Option Addr) (d1 : Nat) (V : World), RdV V V.heap.size B1 (zc (ns rest)) → RdV V V.heap.size A2 (zc (ns rest)) → Calls Try.prog 25 #[.slice B1 rest.length d1, .slice A2 rest.length c2] V fun e w' => e = .returned (.bool true) ∧ Below V.heap.size V w') := fun B1 d1 V h1 h2 => sameI_t rest _ rfl (by omega) B1 A2 d1 c2 V h1 h2
        have HH : Hid (∀ (V : World), RdV V V.heap.size A2 (zc (ns rest)) → ∀ (z : Int) (r : Bool), ((r = true ∧ z ∈ ns rest) ∨ (r = false ∧ z ∉ ns rest)) → ∀ nq, Calls Try.prog 38 #[.slice A2 rest.length c2, .int .i64 z] (V.drewN nq) fun e w' => e = .returned (.bool r) ∧ w' = V.drewN nq) := fun V hV z r hr nq => hasInt_any (ns rest) _ (ns_length rest) (by omega) z r hr A2 c2 _ hV
        rw [rz_length, ns_length] at H1 ⊢
        clear hM hl hperm hR hrest hb1 hb2 hA1 hA2 h0 k1 k2 hk hc1 hc2 hn1 hn2 hna1 hna2
        generalize hnr : R.length = nr at *
        generalize rest.length = nx at *
        generalize M1.length = nm at *
        have HNr := Lib.hid hnr; clear hnr
        go_enter Try.func11, Try.ntmps11
        go_wp2_with fail
        refine H1.out.mono ?_
        rintro e w1 ⟨A3, c3, rfl, hc3, -, r3, B1⟩
        replace HA1 := Lib.hid (HA1.out.on B1)
        replace HA2 := Lib.hid (HA2.out.on B1)
        have HR3 := Lib.hid r3
        have HB := Lib.hid B1
        clear r3 B1 H1
        go_wp2_with fail
        refine (runsbegun_true w1).mono ?_
        rintro e w2 ⟨rfl, Bq⟩
        replace HA1 := Lib.hid (HA1.out.on Bq)
        replace HA2 := Lib.hid (HA2.out.on Bq)
        replace HR3 := Lib.hid (HR3.out.on Bq)
        replace HB := Lib.hid (HB.out.trans (Bq.mono HB.out.size))
        clear Bq
        go_wp2
        go_loopw [9] (fun p wr => OnRel R rest K w2 p wr) (fun p _ => nr - (intOf p).toNat)
        case atStart => exact ⟨0, Nat.zero_le _, rfl, fun j hj => absurd hj (Nat.not_lt_zero _), Below.refl _ _⟩
        case round =>
          obtain ⟨i, hi, rfl, hall, hbel⟩ := hrel
          rw [HNr.out] at hi
          by_cases hlt : i < nr
          · have hin : i < R.length := by rw [HNr.out]; exact hlt
            obtain ⟨a0, a1⟩ := rcs_at (rz R) i (by rw [rz_length]; exact hin)
            rw [rz_at R i hin] at a0 a1
            obtain ⟨b, off, rfl, hb, q0⟩ := (HA1.out.on hbel).at_ a0
            obtain ⟨b2, off2, hA2', hb2, q1⟩ := (HA1.out.on hbel).at_ a1
            simp only [Option.some.injEq, Addr.mk.injEq, and_true] at hA2'
            obtain ⟨rfl, rfl⟩ := hA2'
            rw [← Nat.add_assoc] at q1
            have hbd := HBd.out _ (mem_at R i hin)
            have HAl := Lib.hid hall
            have hstep : k_ok R rest K i → ∀ j, j < i + 1 → k_ok R rest K j := fun hne j hj => by
              rcases Nat.lt_or_ge j i with h | h
              · exact HAl.out j h
              · obtain rfl : j = i := by omega
                exact hne
            unfold k_ok at hstep
            have hV := HA2.out.on hbel
            have HBl := Lib.hid hbel
            clear hall HAl hbel a0 a1
            generalize hpq : R[i]?.getD (0, 0) = p at *
            have HSt := Lib.hid hstep
            clear hstep hpq
            obtain ⟨f, m⟩ := p
            simp only at q0 q1 hbd
            have tw1 : IntKind.i64.wrap ((f : Int) - 1) = (f : Int) - 1 := IntWalk.i64_in _ (by omega)
            have tw2 : IntKind.i64.wrap ((f : Int) + (m : Int)) = (f : Int) + (m : Int) := IntWalk.i64_in _ (by omega)
            have HZ : Hid ((f : Int) - 1 = (f : Int) - 1 ∧ (f : Int) + (m : Int) = (f : Int) + (m : Int)) := ⟨rfl, rfl⟩
            have t7 : (0 : Int) ≤ (i : Int) := by omega
            have t8 : (i : Int) < (nr : Int) := by omega
            by_cases hmk : m < K
            · have t3 : decide ((m : Int) < (K : Int)) = true := by simp; omega
              have t4 : decide (m < K) = true := by simpa using hmk
              have HBf := Lib.hid (HB.out.trans (HBl.out.mono HB.out.size))
              clear hmk HSt hV
              go_wp2
              go_quiet (fail)
              go_wp2
              go_ret
              exact ⟨rfl, below_drewN HBf.out _⟩
            · have t3 : decide ((m : Int) < (K : Int)) = false := by simp; omega
              have t4 : decide (m < K) = false := by simpa using hmk
              by_cases h1 : ((f : Int) - 1) ∈ ns rest
              · have HC := Lib.hid (HH.out _ hV ((f : Int) - 1) true (.inl ⟨rfl, h1⟩))
                have HBf := Lib.hid (HB.out.trans (HBl.out.mono HB.out.size))
                clear hmk HSt hV h1
                go_wp2
                go_quiet ((go_at_call 38; exact Calls.quiet_of_same (HC.out _)))
                go_wp2
                go_ret
                exact ⟨rfl, below_drewN HBf.out _⟩
              · have HC := Lib.hid (HH.out _ hV ((f : Int) - 1) false (.inr ⟨rfl, h1⟩))
                by_cases h2 : ((f : Int) + (m : Int)) ∈ ns rest
                · have HD := Lib.hid (HH.out _ hV ((f : Int) + (m : Int)) true (.inl ⟨rfl, h2⟩))
                  have HBf := Lib.hid (HB.out.trans (HBl.out.mono HB.out.size))
                  clear hmk HSt hV h1 h2
                  go_wp2
                  go_quiet ((go_at_call 38; first | (with_reducible exact Calls.quiet_of_same (HC.out _)) | (with_reducible exact Calls.quiet_of_same (HD.out _))))
                  go_wp2
                  go_ret
                  exact ⟨rfl, below_drewN HBf.out _⟩
                · have HD := Lib.hid (HH.out _ hV ((f : Int) + (m : Int)) false (.inr ⟨rfl, h2⟩))
                  have HSs := Lib.hid (HSt.out ⟨by simp only; omega, fun x hx => ⟨fun e => h1 ((mem_ns rest _).2 ⟨x, hx, by simpa using e⟩), fun e => h2 ((mem_ns rest _).2 ⟨x, hx, by simp only at e; omega⟩)⟩⟩)
                  clear hmk HSt hV h1 h2
                  go_wp2
                  go_quiet ((go_at_call 38; first | (with_reducible exact Calls.quiet_of_same (HC.out _)) | (with_reducible exact Calls.quiet_of_same (HD.out _))))
                  go_wp2
                  go_roundw
                  case rel => exact ⟨i + 1, by rw [HNr.out]; omega, by go_num, HSs.out, below_drewN HBl.out _⟩
                  case measure => simp [intOf]; omega
          · obtain rfl : i = nr := by omega
            have hk1 : ∀ p ∈ R, K ≤ p.2 := fun p hp => by
              obtain ⟨j, hj, he⟩ := List.getElem_of_mem hp
              have := (hall j (by rw [HNr.out] at hj; omega)).1
              rwa [List.getElem?_eq_getElem hj, Option.getD_some, he] at this
            have hk2 : ∀ p ∈ R, ∀ x ∈ rest, (x : Int) ≠ (p.1 : Int) - 1 ∧ x ≠ p.1 + p.2 := fun p hp => by
              obtain ⟨j, hj, he⟩ := List.getElem_of_mem hp
              have := (hall j (by rw [HNr.out] at hj; omega)).2
              rwa [List.getElem?_eq_getElem hj, Option.getD_some, he] at this
            replace HA1 := Lib.hid (HA1.out.on hbel)
            replace HA2 := Lib.hid (HA2.out.on hbel)
            replace HR3 := Lib.hid (HR3.out.on hbel)
            replace HB := Lib.hid (HB.out.trans (hbel.mono HB.out.size))
            have HRSw := Lib.hid (HRS.out wr HA2.out)
            clear hall hbel HRS HH
            by_cases hlg : lng K (rs rest) = []
            · have HSp := Lib.hid (HSplit.out (HMS.out hk1 hk2 hlg).1 (HMS.out hk1 hk2 hlg).2)
              rw [hlg] at HRSw
              clear HSplit HMS hk1 hk2 hlg
              generalize (flatR (sht K (rs rest))).length = nz at *
              generalize flatR (sht K (rs rest)) = rz2 at *
              go_wp2_with fail
              refine HRSw.out.mono ?_
              rintro e w4 ⟨A5, c5, A6, c6, rfl, -, -, Bq⟩
              replace HA1 := Lib.hid (HA1.out.on Bq)
              replace HA2 := Lib.hid (HA2.out.on Bq)
              replace HR3 := Lib.hid (HR3.out.on Bq)
              replace HB := Lib.hid (HB.out.trans (Bq.mono HB.out.size))
              clear Bq HRSw
              go_wp2_with fail
              refine (HSp.out A3 c3 w4 hc3 HR3.out).mono ?_
              rintro e w5 ⟨A7, c7, A8, c8, rfl, -, r7, r8, Bq⟩
              replace HA1 := Lib.hid (HA1.out.on Bq)
              replace HA2 := Lib.hid (HA2.out.on Bq)
              replace HB := Lib.hid (HB.out.trans (Bq.mono HB.out.size))
              have HR7 := Lib.hid r7; have HR8 := Lib.hid r8
              clear Bq r7 r8
              go_wp2_with fail
              refine (HSR.out A7 c7 w5 HR7.out HA1.out).mono ?_
              rintro e w6 ⟨rfl, Bq⟩
              replace HA2 := Lib.hid (HA2.out.on Bq)
              replace HR8 := Lib.hid (HR8.out.on Bq)
              replace HB := Lib.hid (HB.out.trans (Bq.mono HB.out.size))
              clear Bq
              go_wp2_with fail
              refine (HSI.out A8 c8 w6 HR8.out HA2.out).mono ?_
              rintro e w7 ⟨rfl, Bq⟩
              replace HB := Lib.hid (HB.out.trans (Bq.mono HB.out.size))
              clear Bq
              go_wp2
              go_ret
              exact ⟨rfl, HB.out⟩
            · have hpos : 0 < (lng K (rs rest)).length := List.length_pos_iff.2 hlg
              clear HSplit HMS hk1 hk2 hlg
              generalize (lng K (rs rest)).length = ny at *
              generalize rz (lng K (rs rest)) = ry at *
              generalize (flatR (sht K (rs rest))).length = nz at *
              generalize flatR (sht K (rs rest)) = rz2 at *
              have t9 : decide ((0 : Int) < (ny : Int)) = true := by simp; omega
              have t10 : decide (0 < ny) = true := by simpa using hpos
              go_wp2_with fail
              refine HRSw.out.mono ?_
              rintro e w4 ⟨A5, c5, A6, c6, rfl, -, -, Bq⟩
              replace HB := Lib.hid (HB.out.trans (Bq.mono HB.out.size))
              clear Bq HRSw
              go_wp2
              go_ret
              exact ⟨rfl, HB.out⟩
  · have t1 : (M2 != 0) = true := by simpa using hM2
    generalize rr.length = nr at *
    generalize xs.length = nx at *
    generalize M1.length = nm at *
    clear hM hM2 hb1 hb2 hA1 hA2
    go_enter Try.func11, Try.ntmps11
    go_wp2_with fail
    refine H1.out.mono ?_
    rintro e w1 ⟨A3, c3, rfl, -, -, -, B1⟩
    have HB := Lib.hid B1
    clear B1
    go_wp2_with fail
    refine (runsbegun_true w1).mono ?_
    rintro e w2 ⟨rfl, Bq⟩
    replace HB := Lib.hid (HB.out.trans (Bq.mono HB.out.size))
    clear Bq
    go_wp2
    go_ret
    exact ⟨rfl, HB.out⟩
end Go.Proofs.Ythldcdcpflamaaa
