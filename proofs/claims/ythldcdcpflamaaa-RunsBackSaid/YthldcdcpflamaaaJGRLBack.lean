/- The law RunsBack: what was split is merged again, runs are as long as was asked, and the rest has none; for whatever list and number. -/
import Derived.Test.YthldcdcpflamaaaJGRLaw
namespace Go.Proofs.Ythldcdcpflamaaa
set_option maxRecDepth 100000
set_option linter.unusedVariables false
open Go.RowKit Go.Shelf

set_option maxHeartbeats 4000000 in
theorem runsBack_law (A : Option Addr) (c : Nat) (xs : List Int) (k : Int) (w : World) (hc : xs.length ≤ c) (hna : A = none → c = 0) (hb : ∀ x ∈ xs, -9223372036854775808 ≤ x ∧ x ≤ 9223372036854775807) (hA : RdV w w.heap.size A (zc xs)) (hn : xs.length ≤ 9223372036854775807) (hk : -9223372036854775808 ≤ k ∧ k ≤ 9223372036854775807) :
    Calls Try.prog 10 #[.slice A xs.length c, .int .i64 k] w fun e w' => e = .returned (.bool true) ∧ Below w.heap.size w w' := by
  by_cases e1 : spE xs k = 0
  · obtain ⟨l, m, rfl, hl, rfl, hm1, hm2⟩ := spE_zero xs k e1
    rw [ns_length] at *
    have H1 := Lib.hid (split_i l hl _ rfl m hm1 hm2 _ _ rfl rfl _ _ rfl rfl A c hc w hA)
    have HA := Lib.hid hA
    have hR := okR_filter (fun p => decide (m ≤ p.2)) (rs l) (rs_okR l hl)
    have hrest := sht_rising m l hl
    have hmg := mg_split m l hl
    have hge := lng_ge m (rs l)
    have hs1 : lng m (rs (flatR (sht m (rs l)))) = [] := by rw [sht_rs m l hl, lng_sht_nil]
    have hs2 : flatR (sht m (rs (flatR (sht m (rs l))))) = flatR (sht m (rs l)) := by rw [sht_rs m l hl, sht_sht]
    have hl300 := hl.1
    have hR' : OkR (lng m (rs l)) := hR
    clear e1 hR hA hna hb
    generalize lng m (rs l) = R at *
    generalize flatR (sht m (rs l)) = rest at *
    have hr300 := hrest.1
    generalize hll : l.length = ll at *
    generalize hrl : rest.length = rl at *
    generalize hRn : R.length = nR at *
    have HM : Hid (∀ A1 c1 A2 c2 V, (A2 = none → c2 = 0) → RdV V V.heap.size A1 (rcs (rz R)) → RdV V V.heap.size A2 (zc (ns rest)) → Calls Try.prog 32 #[.slice A1 nR c1, .slice A2 rl c2] V (IntsN V ll l 0)) := fun A1 c1 A2 c2 V h0 h1 h2 => merge_i R hR' l 0 _ hRn rest hrest hmg _ _ hrl hll A1 A2 c1 c2 h0 V h1 h2
    have HS : Hid (∀ A2 c2 V, rl ≤ c2 → RdV V V.heap.size A2 (zc (ns rest)) → Calls Try.prog 31 #[.slice A2 rl c2, .int .i64 (m : Int)] V (SpN V 0 rl (rz []) rest 0)) := fun A2 c2 V h0 h2 =>
      split_i rest hrest _ hrl m hm1 hm2 [] rest hs1 hs2 0 rl rfl hrl A2 c2 h0 V h2
    have HE1 : Hid (∀ A1 c1 A2 c2 V, RdV V V.heap.size A1 (zc (ns l)) → RdV V V.heap.size A2 (zc (ns l)) → Calls Try.prog 25 #[.slice A1 ll c1, .slice A2 ll c2] V fun e w' => e = .returned (.bool true) ∧ Below V.heap.size V w') := fun A1 c1 A2 c2 V h1 h2 => sameI_t l ll hll (by omega) A1 A2 c1 c2 V h1 h2
    have HE2 : Hid (∀ A1 c1 A2 c2 V, RdV V V.heap.size A1 (zc (ns rest)) → RdV V V.heap.size A2 (zc (ns rest)) → Calls Try.prog 25 #[.slice A1 rl c1, .slice A2 rl c2] V fun e w' => e = .returned (.bool true) ∧ Below V.heap.size V w') := fun A1 c1 A2 c2 V h1 h2 => sameI_t rest rl hrl (by omega) A1 A2 c1 c2 V h1 h2
    have HG := Lib.hid hge
    have hRl : nR ≤ 300 := by have := hR'.1; omega
    have HRn := Lib.hid hRn
    clear hR' hrest hmg hs1 hs2 hge hl hc hn hll hrl hRn
    go_enter Try.func10, Try.ntmps10
    go_wp2_with fail
    refine H1.out.mono ?_
    rintro e w1 ⟨A1, c1, A2, c2, rfl, hc2, r1, r2, B1⟩
    replace HA := Lib.hid (HA.out.on B1)
    have HR1 := Lib.hid r1; have HR2 := Lib.hid r2; have HC2 := Lib.hid hc2
    have HB := Lib.hid B1
    clear r1 r2 hc2 B1 H1
    go_wp2_with fail
    refine (runsbegun_true w1).mono ?_
    rintro e w2 ⟨rfl, Bq⟩
    replace HA := Lib.hid (HA.out.on Bq)
    replace HR1 := Lib.hid (HR1.out.on Bq)
    replace HR2 := Lib.hid (HR2.out.on Bq)
    replace HB := Lib.hid (HB.out.trans (Bq.mono HB.out.size))
    clear Bq
    go_wp2_with fail
    refine (HM.out A1 c1 A2 c2 w2 HC2.out.2 HR1.out HR2.out).mono ?_
    rintro e w3 ⟨A3, c3, rfl, -, -, r3, Bq⟩
    replace HA := Lib.hid (HA.out.on Bq)
    replace HR1 := Lib.hid (HR1.out.on Bq)
    replace HR2 := Lib.hid (HR2.out.on Bq)
    replace HB := Lib.hid (HB.out.trans (Bq.mono HB.out.size))
    have HR3 := Lib.hid r3
    clear Bq r3
    go_wp2_with fail
    refine (HE1.out A3 c3 A c w3 HR3.out HA.out).mono ?_
    rintro e w4 ⟨rfl, Bq⟩
    replace HR1 := Lib.hid (HR1.out.on Bq)
    replace HR2 := Lib.hid (HR2.out.on Bq)
    replace HB := Lib.hid (HB.out.trans (Bq.mono HB.out.size))
    clear Bq HR3 HA
    go_wp2
    go_loopw [10] (fun p wr => FarRel nR w4 p wr) (fun p _ => nR - (intOf p).toNat)
    case atStart => exact ⟨0, Nat.zero_le _, rfl, Below.refl _ _⟩
    case round =>
      obtain ⟨i, hi, rfl, hbel⟩ := hrel
      by_cases hlt : i < nR
      · have hin : i < R.length := by rw [HRn.out]; exact hlt
        obtain ⟨-, r1⟩ := rcs_at (rz R) i (by rw [rz_length]; exact hin)
        rw [rz_at R i hin] at r1
        obtain ⟨b, off, rfl, hb, k1⟩ := (HR1.out.on hbel).at_ r1
        rw [← Nat.add_assoc] at k1
        have hg := HG.out _ (mem_at R i hin)
        generalize R[i]?.getD (0, 0) = x at *
        obtain ⟨f, q⟩ := x
        simp only at k1 hg
        have t1 : decide ((q : Int) < (m : Int)) = false := by simp; omega
        have t2 : decide (q < m) = false := by simp; omega
        have HBl := Lib.hid hbel
        clear hg hbel r1
        go_wp2
        go_roundw
        case rel => exact ⟨i + 1, by omega, by go_num, HBl.out⟩
        case measure => simp [intOf]; omega
      · obtain rfl : i = nR := by omega
        replace HR2 := Lib.hid (HR2.out.on hbel)
        replace HB := Lib.hid (HB.out.trans (hbel.mono HB.out.size))
        clear hbel HR1
        go_wp2_with fail
        refine (HS.out A2 c2 wr HC2.out.1 HR2.out).mono ?_
        rintro e w5 ⟨A5, c5, A6, c6, rfl, -, -, r6, Bq⟩
        replace HR2 := Lib.hid (HR2.out.on Bq)
        replace HB := Lib.hid (HB.out.trans (Bq.mono HB.out.size))
        have HR6 := Lib.hid r6
        clear Bq r6
        go_wp2_with fail
        refine (HE2.out A6 c6 A2 c2 w5 HR6.out HR2.out).mono ?_
        rintro e w6 ⟨rfl, Bq⟩
        replace HB := Lib.hid (HB.out.trans (Bq.mono HB.out.size))
        clear Bq
        go_wp2
        go_ret
        exact ⟨rfl, HB.out⟩
  · obtain ⟨q1, q2⟩ := spR_no xs k e1
    have H1 := Lib.hid (split_n xs _ rfl hn k 0 0 (by rw [q1]; rfl) (by rw [q2]; rfl) A c hc w hA)
    have t1 : (spE xs k != 0) = true := by simpa using e1
    generalize spE xs k = eg at *
    generalize spR xs k = gR at *
    generalize spL xs k = gL at *
    generalize xs.length = n at *
    clear e1 q1 q2 hA hna hb hc
    go_enter Try.func10, Try.ntmps10
    go_wp2_with fail
    refine H1.out.mono ?_
    rintro e w1 ⟨A1, c1, A2, c2, rfl, -, -, -, B1⟩
    have HB := Lib.hid B1
    clear B1
    go_wp2_with fail
    refine (runsbegun_true w1).mono ?_
    rintro e w2 ⟨rfl, Bq⟩
    replace HB := Lib.hid (HB.out.trans (Bq.mono HB.out.size))
    clear Bq
    go_wp2
    go_ret
    exact ⟨rfl, HB.out⟩
end Go.Proofs.Ythldcdcpflamaaa
