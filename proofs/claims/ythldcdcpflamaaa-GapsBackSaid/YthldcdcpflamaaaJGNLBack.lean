/- The law GapsBack: a rising list is told by its gaps, and gaps by their list; for whatever lists. -/
import Derived.Test.YthldcdcpflamaaaJGNBegun
namespace Go.Proofs.Ythldcdcpflamaaa
set_option maxRecDepth 100000
set_option linter.unusedVariables false
open Go.RowKit Go.Shelf

theorem goal3 {P : Prop} (h : P) : P := h
set_option maxHeartbeats 2000000 in
theorem gapsBack_law (A : Option Addr) (c : Nat) (xs : List Int) (B : Option Addr) (d : Nat) (gs : List Nat) (a : Int) (w : World) (hc : xs.length ≤ c) (hna : A = none → c = 0) (hb : ∀ x ∈ xs, -9223372036854775808 ≤ x ∧ x ≤ 9223372036854775807) (hA : RdV w w.heap.size A (zc xs)) (hn : xs.length ≤ 9223372036854775807)
    (hg : ∀ g ∈ gs, g < 18446744073709551616) (hG : RdV w w.heap.size B (nc gs)) (hm : gs.length ≤ 9223372036854775807) (ha : -9223372036854775808 ≤ a ∧ a ≤ 9223372036854775807) :
    Calls Try.prog 5 #[.slice A xs.length c, .slice B gs.length d, .int .i64 a] w fun e w' => e = .returned (.bool true) ∧ Below w.heap.size w w' := by
  have H1 := Lib.hid (fun w h => gaps_any xs _ rfl hn a A c w h)
  have H2 := Lib.hid (fun w h => back_any gs _ rfl hg a B d w h)
  have HA := Lib.hid hA; have HG := Lib.hid hG
  clear hA hG hc hna hb ha
  have K3 : gE xs a = 0 → Hid (∀ A1 c1 w, RdV w w.heap.size A1 (nc (gL xs a)) → Calls Try.prog 16 #[.slice A1 (gL xs a).length c1, .int .i64 a] w fun e w' => ∃ A2 c2, e = .returned (.tuple #[.slice A2 xs.length c2, .int .i64 0]) ∧ xs.length ≤ c2 ∧ (A2 = none → c2 = 0) ∧ RdV w' w'.heap.size A2 (zc xs) ∧ Below w.heap.size w w') := by
    intro h0
    obtain ⟨l, m, rfl, hl, rfl, hm⟩ := gE_zero xs a h0
    rw [gL_ok l hl m hm]
    intro A1 c1 w h
    have hb := back_any (gps (m : Int) l) _ rfl (fun g hg => by have := gps_le m hm l hl g hg; omega) (m : Int) A1 c1 w h
    have hk := bk_gps m hm l hl
    have e0 : ¬ 300 < (gps (m : Int) l).length := by rw [gps_length]; have := hl.1; omega
    have e1 : bkL (gps (m : Int) l) (m : Int) = l := by unfold bkL; rw [if_neg e0, if_pos (okN_nat m hm), Int.toNat_natCast, hk]; rfl
    have e2 : bkE (gps (m : Int) l) (m : Int) = 0 := by unfold bkE; rw [if_neg e0, if_pos (okN_nat m hm), Int.toNat_natCast, hk]; rfl
    rw [e1, e2] at hb
    rw [ns_length]
    exact hb
  have K4 : Hid (∀ A3 c3 w, RdV w w.heap.size A3 (zc xs) → RdV w w.heap.size A (zc xs) → Calls Try.prog 25 #[.slice A3 xs.length c3, .slice A xs.length c] w fun e w' => e = .returned (.bool true) ∧ Below w.heap.size w w') := fun A3 c3 w h1 h2 => sameI_x xs _ rfl hn A3 A c3 c w h1 h2
  have K5 : bkE gs a = 0 → Hid (∀ A2 c2 w, RdV w w.heap.size A2 (zc (ns (bkL gs a))) → Calls Try.prog 15 #[.slice A2 (bkL gs a).length c2, .int .i64 a] w (NumsP w gs 0)) := by
    intro h0
    obtain ⟨l, m, rfl, hm', hlen, hbk, hl⟩ := bkE_zero gs a h0
    rw [hl]
    intro A2 c2 w h
    obtain ⟨k1, k2⟩ := gps_bk m gs l hlen hbk
    have := gaps_ok l k1 _ rfl m hm' A2 c2 w h
    rwa [k2] at this
  have K6 : Hid (∀ A4 c4 w, RdV w w.heap.size A4 (nc gs) → RdV w w.heap.size B (nc gs) → Calls Try.prog 24 #[.slice A4 gs.length c4, .slice B gs.length d] w fun e w' => e = .returned (.bool true) ∧ Below w.heap.size w w') := fun A4 c4 w h1 h2 => sameN_x gs _ rfl hm A4 B c4 d w h1 h2
  have K7 : bkE gs a = 0 → Hid (∀ A2 c2 w, RdV w w.heap.size A2 (zc (ns (bkL gs a))) → Calls Try.prog 23 #[.slice A2 (bkL gs a).length c2] w fun e w' => e = .returned (.int .i64 0) ∧ Below w.heap.size w w') := by
    intro h0
    obtain ⟨l, m, rfl, hm', hlen, hbk, hl⟩ := bkE_zero gs a h0
    rw [hl]
    intro A2 c2 w h
    obtain ⟨k1, k2⟩ := gps_bk m gs l hlen hbk
    have := gcheck_any (ns l) l.length (ns_length l) (by have := k1.1; omega) A2 c2 w h
    rwa [rchk_ok l k1] at this
  have K8 := bkL_no gs a
  have H4 := K4; have H6 := K6
  clear hg
  generalize gE xs a = eg at *
  generalize gL xs a = gl at *
  generalize bkE gs a = ef at *
  generalize bkL gs a = yl at *
  generalize hxl : xs.length = n at *
  generalize hgl : gs.length = m at *
  unfold NumsP at K5
  simp only [hgl] at K5
  clear hxl hgl K4 K6
  by_cases e1 : eg = 0
  · subst e1
    have H3 := K3 rfl
    clear K3
    by_cases e2 : ef = 0
    · subst e2
      have H5 := K5 rfl; have H7 := K7 rfl
      clear K5 K7 K8
      go_enter Try.func5, Try.ntmps5
      go_wp2_with fail
      refine (H1.out w HA.out).mono ?_
      rintro e w1_ ⟨A1, c1, rfl, -, -, hr1, Bq⟩
      replace HA := Lib.hid (HA.out.on Bq)
      replace HG := Lib.hid (HG.out.on Bq)
      have HB := Lib.hid Bq
      clear Bq
      have G1 := Lib.hid hr1; clear hr1
      go_wp2_with fail
      refine (H2.out w1_ HG.out).mono ?_
      rintro e w2_ ⟨A2, c2, rfl, -, -, hr2, Bq⟩
      replace HA := Lib.hid (HA.out.on Bq)
      replace HG := Lib.hid (HG.out.on Bq)
      replace G1 := Lib.hid (G1.out.on Bq)
      replace HB := Lib.hid (HB.out.trans (Bq.mono HB.out.size))
      clear Bq
      have G2 := Lib.hid hr2; clear hr2
      go_wp2_with fail
      refine (gapsbegun_true w2_).mono ?_
      rintro e w3_ ⟨rfl, Bq⟩
      replace HA := Lib.hid (HA.out.on Bq)
      replace HG := Lib.hid (HG.out.on Bq)
      replace G1 := Lib.hid (G1.out.on Bq)
      replace G2 := Lib.hid (G2.out.on Bq)
      replace HB := Lib.hid (HB.out.trans (Bq.mono HB.out.size))
      clear Bq
      go_wp2_with fail
      refine (H3.out A1 c1 w3_ G1.out).mono ?_
      rintro e w4_ ⟨A3, c3, rfl, -, -, hr3, Bq⟩
      replace HA := Lib.hid (HA.out.on Bq)
      replace HG := Lib.hid (HG.out.on Bq)
      replace G1 := Lib.hid (G1.out.on Bq)
      replace G2 := Lib.hid (G2.out.on Bq)
      replace HB := Lib.hid (HB.out.trans (Bq.mono HB.out.size))
      clear Bq
      have G3 := Lib.hid hr3; clear hr3
      go_wp2_with fail
      refine (H4.out A3 c3 w4_ G3.out HA.out).mono ?_
      rintro e w5_ ⟨rfl, Bq⟩
      replace HA := Lib.hid (HA.out.on Bq)
      replace HG := Lib.hid (HG.out.on Bq)
      replace G1 := Lib.hid (G1.out.on Bq)
      replace G2 := Lib.hid (G2.out.on Bq)
      replace G3 := Lib.hid (G3.out.on Bq)
      replace HB := Lib.hid (HB.out.trans (Bq.mono HB.out.size))
      clear Bq
      go_wp2_with fail
      refine (H5.out A2 c2 w5_ G2.out).mono ?_
      rintro e w6_ ⟨A4, c4, rfl, -, -, hr4, Bq⟩
      replace HA := Lib.hid (HA.out.on Bq)
      replace HG := Lib.hid (HG.out.on Bq)
      replace G1 := Lib.hid (G1.out.on Bq)
      replace G2 := Lib.hid (G2.out.on Bq)
      replace G3 := Lib.hid (G3.out.on Bq)
      replace HB := Lib.hid (HB.out.trans (Bq.mono HB.out.size))
      clear Bq
      have G4 := Lib.hid hr4; clear hr4
      go_wp2_with fail
      refine (H6.out A4 c4 w6_ G4.out HG.out).mono ?_
      rintro e w7_ ⟨rfl, Bq⟩
      replace HA := Lib.hid (HA.out.on Bq)
      replace HG := Lib.hid (HG.out.on Bq)
      replace G1 := Lib.hid (G1.out.on Bq)
      replace G2 := Lib.hid (G2.out.on Bq)
      replace G3 := Lib.hid (G3.out.on Bq)
      replace G4 := Lib.hid (G4.out.on Bq)
      replace HB := Lib.hid (HB.out.trans (Bq.mono HB.out.size))
      clear Bq
      go_wp2_with fail
      refine (H7.out A2 c2 w7_ G2.out).mono ?_
      rintro e w8_ ⟨rfl, Bq⟩
      replace HA := Lib.hid (HA.out.on Bq)
      replace HG := Lib.hid (HG.out.on Bq)
      replace G1 := Lib.hid (G1.out.on Bq)
      replace G2 := Lib.hid (G2.out.on Bq)
      replace G3 := Lib.hid (G3.out.on Bq)
      replace G4 := Lib.hid (G4.out.on Bq)
      replace HB := Lib.hid (HB.out.trans (Bq.mono HB.out.size))
      clear Bq
      go_wp2
      go_ret
      exact ⟨rfl, HB.out⟩
    · obtain rfl := K8 e2
      have t2 : (ef != 0) = true := by simpa using e2
      clear K5 K7 K8 e2
      go_enter Try.func5, Try.ntmps5
      go_wp2_with fail
      refine (H1.out w HA.out).mono ?_
      rintro e w1_ ⟨A1, c1, rfl, -, -, hr1, Bq⟩
      replace HA := Lib.hid (HA.out.on Bq)
      replace HG := Lib.hid (HG.out.on Bq)
      have HB := Lib.hid Bq
      clear Bq
      have G1 := Lib.hid hr1; clear hr1
      go_wp2_with fail
      refine (H2.out w1_ HG.out).mono ?_
      rintro e w2_ ⟨A2, c2, rfl, -, -, hr2, Bq⟩
      replace HA := Lib.hid (HA.out.on Bq)
      replace HG := Lib.hid (HG.out.on Bq)
      replace G1 := Lib.hid (G1.out.on Bq)
      replace HB := Lib.hid (HB.out.trans (Bq.mono HB.out.size))
      clear Bq
      have G2 := Lib.hid hr2; clear hr2
      go_wp2_with fail
      refine (gapsbegun_true w2_).mono ?_
      rintro e w3_ ⟨rfl, Bq⟩
      replace HA := Lib.hid (HA.out.on Bq)
      replace HG := Lib.hid (HG.out.on Bq)
      replace G1 := Lib.hid (G1.out.on Bq)
      replace G2 := Lib.hid (G2.out.on Bq)
      replace HB := Lib.hid (HB.out.trans (Bq.mono HB.out.size))
      clear Bq
      go_wp2_with fail
      refine (H3.out A1 c1 w3_ G1.out).mono ?_
      rintro e w4_ ⟨A3, c3, rfl, -, -, hr3, Bq⟩
      replace HA := Lib.hid (HA.out.on Bq)
      replace HG := Lib.hid (HG.out.on Bq)
      replace G1 := Lib.hid (G1.out.on Bq)
      replace G2 := Lib.hid (G2.out.on Bq)
      replace HB := Lib.hid (HB.out.trans (Bq.mono HB.out.size))
      clear Bq
      have G3 := Lib.hid hr3; clear hr3
      go_wp2_with fail
      refine (H4.out A3 c3 w4_ G3.out HA.out).mono ?_
      rintro e w5_ ⟨rfl, Bq⟩
      replace HA := Lib.hid (HA.out.on Bq)
      replace HG := Lib.hid (HG.out.on Bq)
      replace G1 := Lib.hid (G1.out.on Bq)
      replace G2 := Lib.hid (G2.out.on Bq)
      replace G3 := Lib.hid (G3.out.on Bq)
      replace HB := Lib.hid (HB.out.trans (Bq.mono HB.out.size))
      clear Bq
      go_wp2
      go_ret
      exact ⟨rfl, HB.out⟩
  · have t1 : (eg == 0) = false := by simpa using e1
    clear K3 e1
    by_cases e2 : ef = 0
    · subst e2
      have H5 := K5 rfl; have H7 := K7 rfl
      clear K5 K7 K8
      go_enter Try.func5, Try.ntmps5
      go_wp2_with fail
      refine (H1.out w HA.out).mono ?_
      rintro e w1_ ⟨A1, c1, rfl, -, -, hr1, Bq⟩
      replace HA := Lib.hid (HA.out.on Bq)
      replace HG := Lib.hid (HG.out.on Bq)
      have HB := Lib.hid Bq
      clear Bq
      have G1 := Lib.hid hr1; clear hr1
      go_wp2_with fail
      refine (H2.out w1_ HG.out).mono ?_
      rintro e w2_ ⟨A2, c2, rfl, -, -, hr2, Bq⟩
      replace HA := Lib.hid (HA.out.on Bq)
      replace HG := Lib.hid (HG.out.on Bq)
      replace G1 := Lib.hid (G1.out.on Bq)
      replace HB := Lib.hid (HB.out.trans (Bq.mono HB.out.size))
      clear Bq
      have G2 := Lib.hid hr2; clear hr2
      go_wp2_with fail
      refine (gapsbegun_true w2_).mono ?_
      rintro e w3_ ⟨rfl, Bq⟩
      replace HA := Lib.hid (HA.out.on Bq)
      replace HG := Lib.hid (HG.out.on Bq)
      replace G1 := Lib.hid (G1.out.on Bq)
      replace G2 := Lib.hid (G2.out.on Bq)
      replace HB := Lib.hid (HB.out.trans (Bq.mono HB.out.size))
      clear Bq
      go_wp2_with fail
      refine (H5.out A2 c2 w3_ G2.out).mono ?_
      rintro e w4_ ⟨A4, c4, rfl, -, -, hr4, Bq⟩
      replace HA := Lib.hid (HA.out.on Bq)
      replace HG := Lib.hid (HG.out.on Bq)
      replace G1 := Lib.hid (G1.out.on Bq)
      replace G2 := Lib.hid (G2.out.on Bq)
      replace HB := Lib.hid (HB.out.trans (Bq.mono HB.out.size))
      clear Bq
      have G4 := Lib.hid hr4; clear hr4
      go_wp2_with fail
      refine (H6.out A4 c4 w4_ G4.out HG.out).mono ?_
      rintro e w5_ ⟨rfl, Bq⟩
      replace HA := Lib.hid (HA.out.on Bq)
      replace HG := Lib.hid (HG.out.on Bq)
      replace G1 := Lib.hid (G1.out.on Bq)
      replace G2 := Lib.hid (G2.out.on Bq)
      replace G4 := Lib.hid (G4.out.on Bq)
      replace HB := Lib.hid (HB.out.trans (Bq.mono HB.out.size))
      clear Bq
      go_wp2_with fail
      refine (H7.out A2 c2 w5_ G2.out).mono ?_
      rintro e w6_ ⟨rfl, Bq⟩
      replace HA := Lib.hid (HA.out.on Bq)
      replace HG := Lib.hid (HG.out.on Bq)
      replace G1 := Lib.hid (G1.out.on Bq)
      replace G2 := Lib.hid (G2.out.on Bq)
      replace G4 := Lib.hid (G4.out.on Bq)
      replace HB := Lib.hid (HB.out.trans (Bq.mono HB.out.size))
      clear Bq
      go_wp2
      go_ret
      exact ⟨rfl, HB.out⟩
    · obtain rfl := K8 e2
      have t2 : (ef != 0) = true := by simpa using e2
      clear K5 K7 K8 e2
      go_enter Try.func5, Try.ntmps5
      go_wp2_with fail
      refine (H1.out w HA.out).mono ?_
      rintro e w1_ ⟨A1, c1, rfl, -, -, hr1, Bq⟩
      replace HA := Lib.hid (HA.out.on Bq)
      replace HG := Lib.hid (HG.out.on Bq)
      have HB := Lib.hid Bq
      clear Bq
      have G1 := Lib.hid hr1; clear hr1
      go_wp2_with fail
      refine (H2.out w1_ HG.out).mono ?_
      rintro e w2_ ⟨A2, c2, rfl, -, -, hr2, Bq⟩
      replace HA := Lib.hid (HA.out.on Bq)
      replace HG := Lib.hid (HG.out.on Bq)
      replace G1 := Lib.hid (G1.out.on Bq)
      replace HB := Lib.hid (HB.out.trans (Bq.mono HB.out.size))
      clear Bq
      have G2 := Lib.hid hr2; clear hr2
      go_wp2_with fail
      refine (gapsbegun_true w2_).mono ?_
      rintro e w3_ ⟨rfl, Bq⟩
      replace HA := Lib.hid (HA.out.on Bq)
      replace HG := Lib.hid (HG.out.on Bq)
      replace G1 := Lib.hid (G1.out.on Bq)
      replace G2 := Lib.hid (G2.out.on Bq)
      replace HB := Lib.hid (HB.out.trans (Bq.mono HB.out.size))
      clear Bq
      go_wp2
      go_ret
      exact ⟨rfl, HB.out⟩
end Go.Proofs.Ythldcdcpflamaaa
