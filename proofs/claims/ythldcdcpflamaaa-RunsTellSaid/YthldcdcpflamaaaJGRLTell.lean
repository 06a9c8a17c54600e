/- The law RunsTell: Split, Merge and Count answer just what the document says; for whatever runs, lists and number. -/
import Derived.Test.YthldcdcpflamaaaJGRRefM
namespace Go.Proofs.Ythldcdcpflamaaa
set_option maxRecDepth 100000
set_option linter.unusedVariables false
open Go.RowKit Go.Shelf

theorem mgA_len (r : List Ri) (xs : List Int) : (mgA r xs).1.length ≤ 300 := by
  unfold mgA
  split
  · simp
  · unfold mg
    simp only
    split
    · simp
    · split
      · simp
      · simp only; omega
theorem rmerge_n (r : List Ri) (n1 : Nat) (hn1 : r.length = n1) (hb : ∀ x ∈ r, (-9223372036854775808 ≤ x.1 ∧ x.1 ≤ 9223372036854775807) ∧ (-9223372036854775808 ≤ x.2 ∧ x.2 ≤ 9223372036854775807)) (xs : List Int) (n2 : Nat) (hn2 : xs.length = n2) (hz2 : n2 ≤ 9223372036854775807) (M1 : List Nat) (M2 : Int) (hM : mgA r xs = (M1, M2)) (n : Nat) (hn : M1.length = n) (A1 A2 : Option Addr) (c1 c2 : Nat) (w : World) (h1 : RdV w w.heap.size A1 (rcs r)) (h2 : RdV w w.heap.size A2 (zc xs)) :
    Calls Try.prog 35 #[.slice A1 n1 c1, .slice A2 n2 c2] w (IntM w n M1 M2) := by
  by_cases h : 300 < n1
  · have e : mgA r xs = ([], 2) := by
      have e1 : rkchk r = 2 := by unfold rkchk; rw [if_pos (by omega)]
      have e2 : mgE0 r xs = 2 := by unfold mgE0; rw [e1, if_pos (by decide)]
      unfold mgA; rw [e2, if_pos (by decide)]
    rw [e] at hM
    obtain ⟨rfl, rfl⟩ := Prod.mk.inj hM
    subst hn
    exact rmerge_many n1 h A1 A2 c1 n2 c2 w
  · exact rmerge_any r n1 hn1 (by omega) hb xs n2 hn2 hz2 M1 M2 hM n hn A1 A2 c1 c2 w h1 h2
set_option maxHeartbeats 8000000 in
theorem runsTell_law (A1 : Option Addr) (c1 : Nat) (xs : List Int) (k : Int) (A2 : Option Addr) (c2 : Nat) (rr : List Ri) (A3 : Option Addr) (c3 : Nat) (ys : List Int) (w : World)
    (hc1 : xs.length ≤ c1) (hna1 : A1 = none → c1 = 0) (hb1 : ∀ x ∈ xs, -9223372036854775808 ≤ x ∧ x ≤ 9223372036854775807) (hA1 : RdV w w.heap.size A1 (zc xs)) (hn1 : xs.length ≤ 9223372036854775807) (hk : -9223372036854775808 ≤ k ∧ k ≤ 9223372036854775807)
    (hc2 : rr.length ≤ c2) (hna2 : A2 = none → c2 = 0) (hb2 : ∀ x ∈ rr, (-9223372036854775808 ≤ x.1 ∧ x.1 ≤ 9223372036854775807) ∧ (-9223372036854775808 ≤ x.2 ∧ x.2 ≤ 9223372036854775807)) (hA2 : RdV w w.heap.size A2 (rcs rr)) (hn2 : rr.length ≤ 9223372036854775807)
    (hc3 : ys.length ≤ c3) (hna3 : A3 = none → c3 = 0) (hb3 : ∀ x ∈ ys, -9223372036854775808 ≤ x ∧ x ≤ 9223372036854775807) (hA3 : RdV w w.heap.size A3 (zc ys)) (hn3 : ys.length ≤ 9223372036854775807) :
    Calls Try.prog 9 #[.slice A1 xs.length c1, .int .i64 k, .slice A2 rr.length c2, .slice A3 ys.length c3] w fun e w' => e = .returned (.bool true) ∧ Below w.heap.size w w' := by
  obtain ⟨M1, M2, hM⟩ : ∃ M1 M2, mgA rr ys = (M1, M2) := ⟨_, _, rfl⟩
  obtain ⟨N1, N2, hN⟩ : ∃ N1 N2, mgA rr [] = (N1, N2) := ⟨_, _, rfl⟩
  have hml : M1.length ≤ 300 := by have := mgA_len rr ys; rw [hM] at this; exact this
  have HA1 := Lib.hid hA1; have HA2 := Lib.hid hA2; have HA3 := Lib.hid hA3
  have HM : Hid (∀ V, RdV V V.heap.size A2 (rcs rr) → RdV V V.heap.size A3 (zc ys) → Calls Try.prog 32 #[.slice A2 rr.length c2, .slice A3 ys.length c3] V (IntsN V M1.length M1 M2)) := fun V h1 h2 => merge_n rr _ rfl hn2 ys _ rfl hn3 M1 M2 hM _ rfl A2 A3 c2 c3 hna3 V h1 h2
  have HC : Hid (∀ V, RdV V V.heap.size A2 (rcs rr) → Calls Try.prog 33 #[.slice A2 rr.length c2] V fun e w' => e = .returned (.tuple #[.int .i64 (N1.length : Int), .int .i64 N2]) ∧ Below V.heap.size V w') := fun V h1 => count_any rr _ rfl hn2 N1 N2 hN A2 c2 V h1
  have HR : Hid (∀ V, RdV V V.heap.size A1 (zc xs) → Calls Try.prog 18 #[.slice A1 xs.length c1] V fun e w' => e = .returned (.int .i64 (rchk xs)) ∧ Below V.heap.size V w') := fun V h1 => rising_any xs _ rfl hn1 A1 c1 V h1
  have HRm : Hid (∀ V, RdV V V.heap.size A2 (rcs rr) → RdV V V.heap.size A3 (zc ys) → Calls Try.prog 35 #[.slice A2 rr.length c2, .slice A3 ys.length c3] V (IntM V M1.length M1 M2)) := fun V h1 h2 => rmerge_n rr _ rfl hb2 ys _ rfl hn3 M1 M2 hM _ rfl A2 A3 c2 c3 V h1 h2
  have HRn : Hid (∀ V, RdV V V.heap.size A2 (rcs rr) → Calls Try.prog 35 #[.slice A2 rr.length c2, .slice none 0 0] V (IntM V N1.length N1 N2)) := fun V h1 => rmerge_n rr _ rfl hb2 [] 0 rfl (by decide) N1 N2 hN _ rfl A2 none c2 0 V h1 (.inl rfl)
  have HSI : Hid (∀ (A B : Option Addr) (c d : Nat) (V : World), RdV V V.heap.size A (zc (ns M1)) → RdV V V.heap.size B (zc (ns M1)) → Calls Try.prog 25 #[.slice A M1.length c, .slice B M1.length d] V fun e w' => e = .returned (.bool true) ∧ Below V.heap.size V w') := fun A B c d V h1 h2 => sameI_t M1 _ rfl (by omega) A B c d V h1 h2
  clear hM hN hml hA2 hA3 hb1 hb2 hb3 hna1 hna2 hna3 hc2 hc3 hn2 hn3
  generalize rr.length = nr at *
  generalize ys.length = ny at *
  generalize M1.length = nm at *
  generalize N1.length = nk at *
  have f1 : (M2 == M2) = true := by simp
  have f2 : (N2 == N2) = true := by simp
  have f3 : ((nk : Int) == (nk : Int)) = true := by simp
  by_cases hE : spE xs k = 0
  · obtain ⟨l, K, rfl, hl, rfl, b1, b2⟩ := spE_zero xs k hE
    obtain ⟨e1, e2⟩ := spR_ok l hl K b1 b2
    have hrk := rchk_ok l hl
    have hR := (okR_filter (fun p => decide (K ≤ p.2)) (rs l) (rs_okR l hl)).1
    have hR' : (lng K (rs l)).length ≤ 300 := hR
    have hL' : (flatR (sht K (rs l))).length ≤ 1000000 := by
      have h1 := flat_len (sht K (rs l)) (fun p hp => ((rs_okR l hl).2.2 p (List.mem_filter.1 hp).1).1)
      have h2 : (sht K (rs l)).length ≤ (rs l).length := List.length_filter_le _ _
      have h3 := (rs_okR l hl).1
      omega
    have HS := split_n (ns l) _ rfl hn1 (K : Int) _ _ rfl rfl A1 c1 hc1 w hA1
    rw [hE, e1, e2, rz_length] at HS
    rw [hrk] at HR
    have HSp : Hid (∀ V, RdV V V.heap.size A1 (zc (ns l)) → Calls Try.prog 34 #[.slice A1 (ns l).length c1, .int .i64 (K : Int)] V (SrP V (rz (lng K (rs l))) (flatR (sht K (rs l))) (lng K (rs l)).length (flatR (sht K (rs l))).length)) := fun V h => by
      rw [ns_length]; exact rsplit_in l hl _ rfl K b1 b2 _ _ rfl rfl A1 c1 V h
    have HSR : Hid (∀ (A B : Option Addr) (c d : Nat) (V : World), RdV V V.heap.size A (rcs (rz (lng K (rs l)))) → RdV V V.heap.size B (rcs (rz (lng K (rs l)))) → Calls Try.prog 37 #[.slice A (lng K (rs l)).length c, .slice B (lng K (rs l)).length d] V fun e w' => e = .returned (.bool true) ∧ Below V.heap.size V w') := fun A B c d V h1 h2 => sameR_t _ _ (rz_length _) (by omega) A B c d V h1 h2
    have HSL : Hid (∀ (A B : Option Addr) (c d : Nat) (V : World), RdV V V.heap.size A (zc (ns (flatR (sht K (rs l))))) → RdV V V.heap.size B (zc (ns (flatR (sht K (rs l))))) → Calls Try.prog 25 #[.slice A (flatR (sht K (rs l))).length c, .slice B (flatR (sht K (rs l))).length d] V fun e w' => e = .returned (.bool true) ∧ Below V.heap.size V w') := fun A B c d V h1 h2 => sameI_t _ _ rfl (by omega) A B c d V h1 h2
    replace HS := Lib.hid HS
    have t1 : decide ((K : Int) < 2) = false := by simp; omega
    have t2 : decide ((300 : Int) < (K : Int)) = false := by simp; omega
    have t1' : decide (K < 2) = false := by simp; omega
    have t2' : decide (300 < K) = false := by simp; omega
    clear hE hl e1 e2 hrk hR hR' hL' hA1 hc1 hn1 hk b1 b2
    generalize (lng K (rs l)).length = n1 at *
    generalize (flatR (sht K (rs l))).length = n2 at *
    generalize rz (lng K (rs l)) = R0 at *
    generalize flatR (sht K (rs l)) = L0 at *
    generalize (ns l).length = nx at *
    go_enter Try.func9, Try.ntmps9
    go_wp2_with fail
    refine HS.out.mono ?_
    rintro e w1 ⟨B1, d1, B2, d2, rfl, -, r1, r2, Bq⟩
    replace HA1 := Lib.hid (HA1.out.on Bq)
    replace HA2 := Lib.hid (HA2.out.on Bq)
    replace HA3 := Lib.hid (HA3.out.on Bq)
    have HX := Lib.hid r1; have HY := Lib.hid r2
    have HB := Lib.hid Bq
    clear Bq r1 r2 HS
    go_wp2_with fail
    refine (HM.out w1 HA2.out HA3.out).mono ?_
    rintro e w2 ⟨B3, d3, rfl, -, -, r3, Bq⟩
    replace HA1 := Lib.hid (HA1.out.on Bq)
    replace HA2 := Lib.hid (HA2.out.on Bq)
    replace HA3 := Lib.hid (HA3.out.on Bq)
    replace HX := Lib.hid (HX.out.on Bq)
    replace HY := Lib.hid (HY.out.on Bq)
    have HZ := Lib.hid r3
    replace HB := Lib.hid (HB.out.trans (Bq.mono HB.out.size))
    clear Bq
    clear r3 HM
    go_wp2_with fail
    refine (HC.out w2 HA2.out).mono ?_
    rintro e w3 ⟨rfl, Bq⟩
    replace HA1 := Lib.hid (HA1.out.on Bq)
    replace HA2 := Lib.hid (HA2.out.on Bq)
    replace HA3 := Lib.hid (HA3.out.on Bq)
    replace HX := Lib.hid (HX.out.on Bq)
    replace HY := Lib.hid (HY.out.on Bq)
    replace HZ := Lib.hid (HZ.out.on Bq)
    replace HB := Lib.hid (HB.out.trans (Bq.mono HB.out.size))
    clear Bq
    clear HC
    go_wp2_with fail
    refine (HR.out w3 HA1.out).mono ?_
    rintro e w4 ⟨rfl, Bq⟩
    replace HA1 := Lib.hid (HA1.out.on Bq)
    replace HA2 := Lib.hid (HA2.out.on Bq)
    replace HA3 := Lib.hid (HA3.out.on Bq)
    replace HX := Lib.hid (HX.out.on Bq)
    replace HY := Lib.hid (HY.out.on Bq)
    replace HZ := Lib.hid (HZ.out.on Bq)
    replace HB := Lib.hid (HB.out.trans (Bq.mono HB.out.size))
    clear Bq
    clear HR
    go_wp2_with fail
    refine (HSp.out w4 HA1.out).mono ?_
    rintro e w5 ⟨B5, d5, B6, d6, rfl, r5, r6, Bq⟩
    replace HA2 := Lib.hid (HA2.out.on Bq)
    replace HA3 := Lib.hid (HA3.out.on Bq)
    replace HX := Lib.hid (HX.out.on Bq)
    replace HY := Lib.hid (HY.out.on Bq)
    replace HZ := Lib.hid (HZ.out.on Bq)
    have HP := Lib.hid r5; have HQ := Lib.hid r6
    replace HB := Lib.hid (HB.out.trans (Bq.mono HB.out.size))
    clear Bq
    clear r5 r6 HSp
    go_wp2_with fail
    refine (HRm.out w5 HA2.out HA3.out).mono ?_
    rintro e w6 ⟨B7, d7, rfl, r7, Bq⟩
    replace HA2 := Lib.hid (HA2.out.on Bq)
    replace HX := Lib.hid (HX.out.on Bq)
    replace HY := Lib.hid (HY.out.on Bq)
    replace HZ := Lib.hid (HZ.out.on Bq)
    replace HP := Lib.hid (HP.out.on Bq)
    replace HQ := Lib.hid (HQ.out.on Bq)
    have HV := Lib.hid r7
    replace HB := Lib.hid (HB.out.trans (Bq.mono HB.out.size))
    clear Bq
    clear r7 HRm HA3
    go_wp2_with fail
    refine (HRn.out w6 HA2.out).mono ?_
    rintro e w7 ⟨B8, d8, rfl, -, Bq⟩
    replace HX := Lib.hid (HX.out.on Bq)
    replace HY := Lib.hid (HY.out.on Bq)
    replace HZ := Lib.hid (HZ.out.on Bq)
    replace HP := Lib.hid (HP.out.on Bq)
    replace HQ := Lib.hid (HQ.out.on Bq)
    replace HV := Lib.hid (HV.out.on Bq)
    replace HB := Lib.hid (HB.out.trans (Bq.mono HB.out.size))
    clear Bq
    clear HRn HA2
    go_wp2_with fail
    refine (runsbegun_true w7).mono ?_
    rintro e w8 ⟨rfl, Bq⟩
    replace HX := Lib.hid (HX.out.on Bq)
    replace HY := Lib.hid (HY.out.on Bq)
    replace HZ := Lib.hid (HZ.out.on Bq)
    replace HP := Lib.hid (HP.out.on Bq)
    replace HQ := Lib.hid (HQ.out.on Bq)
    replace HV := Lib.hid (HV.out.on Bq)
    replace HB := Lib.hid (HB.out.trans (Bq.mono HB.out.size))
    clear Bq
    go_wp2_with fail
    refine (HSR.out _ _ _ _ w8 HX.out HP.out).mono ?_
    rintro e w9 ⟨rfl, Bq⟩
    replace HY := Lib.hid (HY.out.on Bq)
    replace HZ := Lib.hid (HZ.out.on Bq)
    replace HQ := Lib.hid (HQ.out.on Bq)
    replace HV := Lib.hid (HV.out.on Bq)
    replace HB := Lib.hid (HB.out.trans (Bq.mono HB.out.size))
    clear Bq
    go_wp2_with fail
    refine (HSL.out _ _ _ _ w9 HY.out HQ.out).mono ?_
    rintro e w10 ⟨rfl, Bq⟩
    replace HZ := Lib.hid (HZ.out.on Bq)
    replace HV := Lib.hid (HV.out.on Bq)
    replace HB := Lib.hid (HB.out.trans (Bq.mono HB.out.size))
    clear Bq
    go_wp2_with fail
    refine (HSI.out _ _ _ _ w10 HZ.out HV.out).mono ?_
    rintro e w11 ⟨rfl, Bq⟩
    replace HB := Lib.hid (HB.out.trans (Bq.mono HB.out.size))
    clear Bq
    go_wp2
    go_ret
    exact ⟨rfl, HB.out⟩
  · obtain ⟨e1, e2⟩ := spR_no xs k hE
    have HS0 := split_n xs _ rfl hn1 k 0 0 (by rw [e1]; rfl) (by rw [e2]; rfl) A1 c1 hc1 w hA1
    rw [e1, e2] at HS0
    have HSR : Hid (∀ (A B : Option Addr) (c d : Nat) (V : World), RdV V V.heap.size A (rcs []) → RdV V V.heap.size B (rcs []) → Calls Try.prog 37 #[.slice A 0 c, .slice B 0 d] V fun e w' => e = .returned (.bool true) ∧ Below V.heap.size V w') := fun A B c d V h1 h2 => sameR_t [] 0 rfl (by decide) A B c d V h1 h2
    have HSL : Hid (∀ (A B : Option Addr) (c d : Nat) (V : World), RdV V V.heap.size A (zc (ns [])) → RdV V V.heap.size B (zc (ns [])) → Calls Try.prog 25 #[.slice A 0 c, .slice B 0 d] V fun e w' => e = .returned (.bool true) ∧ Below V.heap.size V w') := fun A B c d V h1 h2 => sameI_t [] 0 rfl (by decide) A B c d V h1 h2
    by_cases hz : rchk xs = 0
    · have hE3 : spE xs k = 3 := by
        unfold spE rgE at hE ⊢
        rw [hz] at hE ⊢
        by_cases q1 : 2 ≤ k <;> by_cases q2 : k ≤ 300 <;> simp_all
      have HE2 : k < 2 ∨ 300 < k := by
        rcases Int.lt_or_le k 2 with h | h
        · exact .inl h
        · rcases Int.lt_or_le 300 k with h' | h'
          · exact .inr h'
          · exfalso; apply hE; unfold spE rgE; rw [hz]; simp [h, h']
      rw [hE3] at HS0
      rw [hz] at HR
      have HS := Lib.hid HS0
      clear HS0 hE hE3 hz e1 e2 hA1 hc1 hn1 hk
      generalize xs.length = nx at *
      by_cases q1 : k < 2
      · have t1 : decide (k < 2) = true := by simpa using q1
        clear HE2 q1
        go_enter Try.func9, Try.ntmps9
        go_wp2_with fail
        refine HS.out.mono ?_
        rintro e w1 ⟨B1, d1, B2, d2, rfl, -, r1, r2, Bq⟩
        replace HA1 := Lib.hid (HA1.out.on Bq)
        replace HA2 := Lib.hid (HA2.out.on Bq)
        replace HA3 := Lib.hid (HA3.out.on Bq)
        have HX := Lib.hid r1; have HY := Lib.hid r2
        have HB := Lib.hid Bq
        clear Bq r1 r2 HS
        go_wp2_with fail
        refine (HM.out w1 HA2.out HA3.out).mono ?_
        rintro e w2 ⟨B3, d3, rfl, -, -, r3, Bq⟩
        replace HA1 := Lib.hid (HA1.out.on Bq)
        replace HA2 := Lib.hid (HA2.out.on Bq)
        replace HA3 := Lib.hid (HA3.out.on Bq)
        replace HX := Lib.hid (HX.out.on Bq)
        replace HY := Lib.hid (HY.out.on Bq)
        have HZ := Lib.hid r3
        replace HB := Lib.hid (HB.out.trans (Bq.mono HB.out.size))
        clear Bq
        clear r3 HM
        go_wp2_with fail
        refine (HC.out w2 HA2.out).mono ?_
        rintro e w3 ⟨rfl, Bq⟩
        replace HA1 := Lib.hid (HA1.out.on Bq)
        replace HA2 := Lib.hid (HA2.out.on Bq)
        replace HA3 := Lib.hid (HA3.out.on Bq)
        replace HX := Lib.hid (HX.out.on Bq)
        replace HY := Lib.hid (HY.out.on Bq)
        replace HZ := Lib.hid (HZ.out.on Bq)
        replace HB := Lib.hid (HB.out.trans (Bq.mono HB.out.size))
        clear Bq
        clear HC
        go_wp2_with fail
        refine (HR.out w3 HA1.out).mono ?_
        rintro e w4 ⟨rfl, Bq⟩
        replace HA1 := Lib.hid (HA1.out.on Bq)
        replace HA2 := Lib.hid (HA2.out.on Bq)
        replace HA3 := Lib.hid (HA3.out.on Bq)
        replace HX := Lib.hid (HX.out.on Bq)
        replace HY := Lib.hid (HY.out.on Bq)
        replace HZ := Lib.hid (HZ.out.on Bq)
        replace HB := Lib.hid (HB.out.trans (Bq.mono HB.out.size))
        clear Bq
        clear HR
        go_wp2_with fail
        obtain ⟨w5, hw5⟩ : ∃ w5, w5 = w4 := ⟨_, rfl⟩
        subst hw5
        have HP : Hid (RdV w5 w5.heap.size none (rcs [])) := .inl rfl
        have HQ : Hid (RdV w5 w5.heap.size none (zc (ns []))) := .inl rfl
        go_wp2_with fail
        refine (HRm.out w5 HA2.out HA3.out).mono ?_
        rintro e w6 ⟨B7, d7, rfl, r7, Bq⟩
        replace HA2 := Lib.hid (HA2.out.on Bq)
        replace HX := Lib.hid (HX.out.on Bq)
        replace HY := Lib.hid (HY.out.on Bq)
        replace HZ := Lib.hid (HZ.out.on Bq)
        replace HP := Lib.hid (HP.out.on Bq)
        replace HQ := Lib.hid (HQ.out.on Bq)
        have HV := Lib.hid r7
        replace HB := Lib.hid (HB.out.trans (Bq.mono HB.out.size))
        clear Bq
        clear r7 HRm HA3
        go_wp2_with fail
        refine (HRn.out w6 HA2.out).mono ?_
        rintro e w7 ⟨B8, d8, rfl, -, Bq⟩
        replace HX := Lib.hid (HX.out.on Bq)
        replace HY := Lib.hid (HY.out.on Bq)
        replace HZ := Lib.hid (HZ.out.on Bq)
        replace HP := Lib.hid (HP.out.on Bq)
        replace HQ := Lib.hid (HQ.out.on Bq)
        replace HV := Lib.hid (HV.out.on Bq)
        replace HB := Lib.hid (HB.out.trans (Bq.mono HB.out.size))
        clear Bq
        clear HRn HA2
        go_wp2_with fail
        refine (runsbegun_true w7).mono ?_
        rintro e w8 ⟨rfl, Bq⟩
        replace HX := Lib.hid (HX.out.on Bq)
        replace HY := Lib.hid (HY.out.on Bq)
        replace HZ := Lib.hid (HZ.out.on Bq)
        replace HP := Lib.hid (HP.out.on Bq)
        replace HQ := Lib.hid (HQ.out.on Bq)
        replace HV := Lib.hid (HV.out.on Bq)
        replace HB := Lib.hid (HB.out.trans (Bq.mono HB.out.size))
        clear Bq
        go_wp2_with fail
        refine (HSR.out _ _ _ _ w8 HX.out HP.out).mono ?_
        rintro e w9 ⟨rfl, Bq⟩
        replace HY := Lib.hid (HY.out.on Bq)
        replace HZ := Lib.hid (HZ.out.on Bq)
        replace HQ := Lib.hid (HQ.out.on Bq)
        replace HV := Lib.hid (HV.out.on Bq)
        replace HB := Lib.hid (HB.out.trans (Bq.mono HB.out.size))
        clear Bq
        go_wp2_with fail
        refine (HSL.out _ _ _ _ w9 HY.out HQ.out).mono ?_
        rintro e w10 ⟨rfl, Bq⟩
        replace HZ := Lib.hid (HZ.out.on Bq)
        replace HV := Lib.hid (HV.out.on Bq)
        replace HB := Lib.hid (HB.out.trans (Bq.mono HB.out.size))
        clear Bq
        go_wp2_with fail
        refine (HSI.out _ _ _ _ w10 HZ.out HV.out).mono ?_
        rintro e w11 ⟨rfl, Bq⟩
        replace HB := Lib.hid (HB.out.trans (Bq.mono HB.out.size))
        clear Bq
        go_wp2
        go_ret
        exact ⟨rfl, HB.out⟩
      · have t1 : decide (k < 2) = false := by simpa using q1
        have t2 : decide (300 < k) = true := by simp; omega
        clear HE2 q1
        go_enter Try.func9, Try.ntmps9
        go_wp2_with fail
        refine HS.out.mono ?_
        rintro e w1 ⟨B1, d1, B2, d2, rfl, -, r1, r2, Bq⟩
        replace HA1 := Lib.hid (HA1.out.on Bq)
        replace HA2 := Lib.hid (HA2.out.on Bq)
        replace HA3 := Lib.hid (HA3.out.on Bq)
        have HX := Lib.hid r1; have HY := Lib.hid r2
        have HB := Lib.hid Bq
        clear Bq r1 r2 HS
        go_wp2_with fail
        refine (HM.out w1 HA2.out HA3.out).mono ?_
        rintro e w2 ⟨B3, d3, rfl, -, -, r3, Bq⟩
        replace HA1 := Lib.hid (HA1.out.on Bq)
        replace HA2 := Lib.hid (HA2.out.on Bq)
        replace HA3 := Lib.hid (HA3.out.on Bq)
        replace HX := Lib.hid (HX.out.on Bq)
        replace HY := Lib.hid (HY.out.on Bq)
        have HZ := Lib.hid r3
        replace HB := Lib.hid (HB.out.trans (Bq.mono HB.out.size))
        clear Bq
        clear r3 HM
        go_wp2_with fail
        refine (HC.out w2 HA2.out).mono ?_
        rintro e w3 ⟨rfl, Bq⟩
        replace HA1 := Lib.hid (HA1.out.on Bq)
        replace HA2 := Lib.hid (HA2.out.on Bq)
        replace HA3 := Lib.hid (HA3.out.on Bq)
        replace HX := Lib.hid (HX.out.on Bq)
        replace HY := Lib.hid (HY.out.on Bq)
        replace HZ := Lib.hid (HZ.out.on Bq)
        replace HB := Lib.hid (HB.out.trans (Bq.mono HB.out.size))
        clear Bq
        clear HC
        go_wp2_with fail
        refine (HR.out w3 HA1.out).mono ?_
        rintro e w4 ⟨rfl, Bq⟩
        replace HA1 := Lib.hid (HA1.out.on Bq)
        replace HA2 := Lib.hid (HA2.out.on Bq)
        replace HA3 := Lib.hid (HA3.out.on Bq)
        replace HX := Lib.hid (HX.out.on Bq)
        replace HY := Lib.hid (HY.out.on Bq)
        replace HZ := Lib.hid (HZ.out.on Bq)
        replace HB := Lib.hid (HB.out.trans (Bq.mono HB.out.size))
        clear Bq
        clear HR
        go_wp2_with fail
        obtain ⟨w5, hw5⟩ : ∃ w5, w5 = w4 := ⟨_, rfl⟩
        subst hw5
        have HP : Hid (RdV w5 w5.heap.size none (rcs [])) := .inl rfl
        have HQ : Hid (RdV w5 w5.heap.size none (zc (ns []))) := .inl rfl
        go_wp2_with fail
        refine (HRm.out w5 HA2.out HA3.out).mono ?_
        rintro e w6 ⟨B7, d7, rfl, r7, Bq⟩
        replace HA2 := Lib.hid (HA2.out.on Bq)
        replace HX := Lib.hid (HX.out.on Bq)
        replace HY := Lib.hid (HY.out.on Bq)
        replace HZ := Lib.hid (HZ.out.on Bq)
        replace HP := Lib.hid (HP.out.on Bq)
        replace HQ := Lib.hid (HQ.out.on Bq)
        have HV := Lib.hid r7
        replace HB := Lib.hid (HB.out.trans (Bq.mono HB.out.size))
        clear Bq
        clear r7 HRm HA3
        go_wp2_with fail
        refine (HRn.out w6 HA2.out).mono ?_
        rintro e w7 ⟨B8, d8, rfl, -, Bq⟩
        replace HX := Lib.hid (HX.out.on Bq)
        replace HY := Lib.hid (HY.out.on Bq)
        replace HZ := Lib.hid (HZ.out.on Bq)
        replace HP := Lib.hid (HP.out.on Bq)
        replace HQ := Lib.hid (HQ.out.on Bq)
        replace HV := Lib.hid (HV.out.on Bq)
        replace HB := Lib.hid (HB.out.trans (Bq.mono HB.out.size))
        clear Bq
        clear HRn HA2
        go_wp2_with fail
        refine (runsbegun_true w7).mono ?_
        rintro e w8 ⟨rfl, Bq⟩
        replace HX := Lib.hid (HX.out.on Bq)
        replace HY := Lib.hid (HY.out.on Bq)
        replace HZ := Lib.hid (HZ.out.on Bq)
        replace HP := Lib.hid (HP.out.on Bq)
        replace HQ := Lib.hid (HQ.out.on Bq)
        replace HV := Lib.hid (HV.out.on Bq)
        replace HB := Lib.hid (HB.out.trans (Bq.mono HB.out.size))
        clear Bq
        go_wp2_with fail
        refine (HSR.out _ _ _ _ w8 HX.out HP.out).mono ?_
        rintro e w9 ⟨rfl, Bq⟩
        replace HY := Lib.hid (HY.out.on Bq)
        replace HZ := Lib.hid (HZ.out.on Bq)
        replace HQ := Lib.hid (HQ.out.on Bq)
        replace HV := Lib.hid (HV.out.on Bq)
        replace HB := Lib.hid (HB.out.trans (Bq.mono HB.out.size))
        clear Bq
        go_wp2_with fail
        refine (HSL.out _ _ _ _ w9 HY.out HQ.out).mono ?_
        rintro e w10 ⟨rfl, Bq⟩
        replace HZ := Lib.hid (HZ.out.on Bq)
        replace HV := Lib.hid (HV.out.on Bq)
        replace HB := Lib.hid (HB.out.trans (Bq.mono HB.out.size))
        clear Bq
        go_wp2_with fail
        refine (HSI.out _ _ _ _ w10 HZ.out HV.out).mono ?_
        rintro e w11 ⟨rfl, Bq⟩
        replace HB := Lib.hid (HB.out.trans (Bq.mono HB.out.size))
        clear Bq
        go_wp2
        go_ret
        exact ⟨rfl, HB.out⟩
    · have hE3 : spE xs k = rchk xs := by
        unfold spE rgE
        simp [hz]
      rw [hE3] at HS0
      have HS := Lib.hid HS0
      clear HS0 hE hE3 e1 e2 hA1 hc1 hn1 hk
      generalize xs.length = nx at *
      generalize rchk xs = z at *
      have t1 : (z == 0) = false := by simpa using hz
      have t2 : (z == z) = true := by simp
      clear hz
      go_enter Try.func9, Try.ntmps9
      go_wp2_with fail
      refine HS.out.mono ?_
      rintro e w1 ⟨B1, d1, B2, d2, rfl, -, r1, r2, Bq⟩
      replace HA1 := Lib.hid (HA1.out.on Bq)
      replace HA2 := Lib.hid (HA2.out.on Bq)
      replace HA3 := Lib.hid (HA3.out.on Bq)
      have HX := Lib.hid r1; have HY := Lib.hid r2
      have HB := Lib.hid Bq
      clear Bq r1 r2 HS
      go_wp2_with fail
      refine (HM.out w1 HA2.out HA3.out).mono ?_
      rintro e w2 ⟨B3, d3, rfl, -, -, r3, Bq⟩
      replace HA1 := Lib.hid (HA1.out.on Bq)
      replace HA2 := Lib.hid (HA2.out.on Bq)
      replace HA3 := Lib.hid (HA3.out.on Bq)
      replace HX := Lib.hid (HX.out.on Bq)
      replace HY := Lib.hid (HY.out.on Bq)
      have HZ := Lib.hid r3
      replace HB := Lib.hid (HB.out.trans (Bq.mono HB.out.size))
      clear Bq
      clear r3 HM
      go_wp2_with fail
      refine (HC.out w2 HA2.out).mono ?_
      rintro e w3 ⟨rfl, Bq⟩
      replace HA1 := Lib.hid (HA1.out.on Bq)
      replace HA2 := Lib.hid (HA2.out.on Bq)
      replace HA3 := Lib.hid (HA3.out.on Bq)
      replace HX := Lib.hid (HX.out.on Bq)
      replace HY := Lib.hid (HY.out.on Bq)
      replace HZ := Lib.hid (HZ.out.on Bq)
      replace HB := Lib.hid (HB.out.trans (Bq.mono HB.out.size))
      clear Bq
      clear HC
      go_wp2_with fail
      refine (HR.out w3 HA1.out).mono ?_
      rintro e w4 ⟨rfl, Bq⟩
      replace HA1 := Lib.hid (HA1.out.on Bq)
      replace HA2 := Lib.hid (HA2.out.on Bq)
      replace HA3 := Lib.hid (HA3.out.on Bq)
      replace HX := Lib.hid (HX.out.on Bq)
      replace HY := Lib.hid (HY.out.on Bq)
      replace HZ := Lib.hid (HZ.out.on Bq)
      replace HB := Lib.hid (HB.out.trans (Bq.mono HB.out.size))
      clear Bq
      clear HR
      go_wp2_with fail
      obtain ⟨w5, hw5⟩ : ∃ w5, w5 = w4 := ⟨_, rfl⟩
      subst hw5
      have HP : Hid (RdV w5 w5.heap.size none (rcs [])) := .inl rfl
      have HQ : Hid (RdV w5 w5.heap.size none (zc (ns []))) := .inl rfl
      go_wp2_with fail
      refine (HRm.out w5 HA2.out HA3.out).mono ?_
      rintro e w6 ⟨B7, d7, rfl, r7, Bq⟩
      replace HA2 := Lib.hid (HA2.out.on Bq)
      replace HX := Lib.hid (HX.out.on Bq)
      replace HY := Lib.hid (HY.out.on Bq)
      replace HZ := Lib.hid (HZ.out.on Bq)
      replace HP := Lib.hid (HP.out.on Bq)
      replace HQ := Lib.hid (HQ.out.on Bq)
      have HV := Lib.hid r7
      replace HB := Lib.hid (HB.out.trans (Bq.mono HB.out.size))
      clear Bq
      clear r7 HRm HA3
      go_wp2_with fail
      refine (HRn.out w6 HA2.out).mono ?_
      rintro e w7 ⟨B8, d8, rfl, -, Bq⟩
      replace HX := Lib.hid (HX.out.on Bq)
      replace HY := Lib.hid (HY.out.on Bq)
      replace HZ := Lib.hid (HZ.out.on Bq)
      replace HP := Lib.hid (HP.out.on Bq)
      replace HQ := Lib.hid (HQ.out.on Bq)
      replace HV := Lib.hid (HV.out.on Bq)
      replace HB := Lib.hid (HB.out.trans (Bq.mono HB.out.size))
      clear Bq
      clear HRn HA2
      go_wp2_with fail
      refine (runsbegun_true w7).mono ?_
      rintro e w8 ⟨rfl, Bq⟩
      replace HX := Lib.hid (HX.out.on Bq)
      replace HY := Lib.hid (HY.out.on Bq)
      replace HZ := Lib.hid (HZ.out.on Bq)
      replace HP := Lib.hid (HP.out.on Bq)
      replace HQ := Lib.hid (HQ.out.on Bq)
      replace HV := Lib.hid (HV.out.on Bq)
      replace HB := Lib.hid (HB.out.trans (Bq.mono HB.out.size))
      clear Bq
      go_wp2_with fail
      refine (HSR.out _ _ _ _ w8 HX.out HP.out).mono ?_
      rintro e w9 ⟨rfl, Bq⟩
      replace HY := Lib.hid (HY.out.on Bq)
      replace HZ := Lib.hid (HZ.out.on Bq)
      replace HQ := Lib.hid (HQ.out.on Bq)
      replace HV := Lib.hid (HV.out.on Bq)
      replace HB := Lib.hid (HB.out.trans (Bq.mono HB.out.size))
      clear Bq
      go_wp2_with fail
      refine (HSL.out _ _ _ _ w9 HY.out HQ.out).mono ?_
      rintro e w10 ⟨rfl, Bq⟩
      replace HZ := Lib.hid (HZ.out.on Bq)
      replace HV := Lib.hid (HV.out.on Bq)
      replace HB := Lib.hid (HB.out.trans (Bq.mono HB.out.size))
      clear Bq
      go_wp2_with fail
      refine (HSI.out _ _ _ _ w10 HZ.out HV.out).mono ?_
      rintro e w11 ⟨rfl, Bq⟩
      replace HB := Lib.hid (HB.out.trans (Bq.mono HB.out.size))
      clear Bq
      go_wp2
      go_ret
      exact ⟨rfl, HB.out⟩
end Go.Proofs.Ythldcdcpflamaaa
