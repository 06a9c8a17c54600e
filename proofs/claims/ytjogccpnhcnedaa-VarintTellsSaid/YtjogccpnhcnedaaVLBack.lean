/- The law VarintBack: what is written is read, and bytes that are read are written again; for whatever numbers and bytes. -/
import Derived.Test.YtjogccpnhcnedaaVBegun
namespace Go.Proofs.Ytjogccpnhcnedaa
set_option maxRecDepth 100000
set_option linter.unusedVariables false
open Go.RowKit Go.Shelf

theorem wr_ok (ns : List Nat) (h : (vbs ns).length ≤ 4096) : wrL ns = vbs ns ∧ wrE ns = 0 := by
  unfold wrL wrE
  rw [if_neg (by omega), if_neg (by omega)]
  exact ⟨rfl, rfl⟩
theorem wr_no (ns : List Nat) (h : 4096 < (vbs ns).length) : wrL ns = [] ∧ wrE ns = 2 := by
  unfold wrL wrE
  rw [if_pos h, if_pos h]
  exact ⟨rfl, rfl⟩

set_option maxHeartbeats 2000000 in
theorem vback_law (A : Option Addr) (c : Nat) (ns : List Nat) (B : Option Addr) (d : Nat) (bs : List Nat) (w : World) (hc : ns.length ≤ c) (hu : ∀ n ∈ ns, n < 18446744073709551616) (hA : RdV w w.heap.size A (nc ns)) (hn : ns.length ≤ 9223372036854775807)
    (hd : bs.length ≤ d) (hb : ∀ b ∈ bs, b < 256) (hB : Rd w w.heap.size B bs) (hm : bs.length ≤ 9223372036854775807) (hnil : B = none → d = 0) :
    Calls Try.prog 7 #[.slice A ns.length c, .slice B bs.length d] w fun e w' => e = .returned (.bool true) ∧ Below w.heap.size w w' := by
  have HL := Lib.hid hA; clear hA
  have HBs := Lib.hid hB; clear hB
  have H1' := fun w h => write_any ns _ rfl hn hu A c w h
  have H2' := fun rn re hr w h => all_any bs _ rfl hm hb B d hd w h rn re hr
  have h46 : (vbs ns).length ≤ 4096 ∨ 4096 < (vbs ns).length := by omega
  have hre : (allR bs).2 = 0 ∨ (allR bs).2 ≠ 0 := by omega
  have K1 : Hid ((vbs ns).length ≤ 4096 → ((∀ w, RdV w w.heap.size A (nc ns) → Calls Try.prog 27 #[.slice A ns.length c] w (Wrote w (vbs ns) 0)) ∧
      (∀ A1 c1 w, (vbs ns).length ≤ c1 → Rd w w.heap.size A1 (vbs ns) → Calls Try.prog 29 #[.slice A1 (vbs ns).length c1] w (AllP w ns 0)) ∧
      (∀ A3 c3 w, RdV w w.heap.size A3 (nc ns) → RdV w w.heap.size A (nc ns) → Calls Try.prog 38 #[.slice A3 ns.length c3, .slice A ns.length c] w fun e w' => e = .returned (.bool true) ∧ Below w.heap.size w w'))) := by
    intro h
    have e := wr_ok ns h
    refine ⟨fun w hw => ?_, fun A1 c1 w h1 hw => ?_, fun A3 c3 w h1 h2 => ?_⟩
    · have := H1' w hw
      rwa [e.1, e.2] at this
    · exact all_any (vbs ns) _ rfl (by omega) (vbs_bytes ns) A1 c1 h1 w hw ns 0 (allR_vbs ns hu h)
    · have := sameN_any w A3 A c3 c ns ns hn h1 h2
      simpa using this
  have K2 : Hid (4096 < (vbs ns).length → ∀ w, RdV w w.heap.size A (nc ns) → Calls Try.prog 27 #[.slice A ns.length c] w (Wrote w [] 2)) := by
    intro h w hw
    have e := wr_no ns h
    have := H1' w hw
    rwa [e.1, e.2] at this
  have K3 : Hid ((allR bs).2 = 0 → ∃ rn : List Nat, (∀ w, Rd w w.heap.size B bs → Calls Try.prog 29 #[.slice B bs.length d] w (AllP w rn 0)) ∧
      (∀ A2 c2 w, RdV w w.heap.size A2 (nc rn) → Calls Try.prog 27 #[.slice A2 rn.length c2] w (Wrote w bs 0)) ∧
      (∀ A4 c4 w, Rd w w.heap.size A4 bs → Rd w w.heap.size B bs → Calls Try.prog 37 #[.slice A4 bs.length c4, .slice B bs.length d] w fun e w' => e = .returned (.bool true) ∧ Below w.heap.size w w')) := by
    intro h
    obtain ⟨rn, e1, e2, e3, e4⟩ := allR_ok bs hb h
    refine ⟨rn, fun w hw => H2' rn 0 e1 w hw, fun A2 c2 w hw => ?_, fun A4 c4 w h1 h2 => ?_⟩
    · have hl := vbs_len rn
      rw [← e2] at hl
      have := write_any rn _ rfl (by omega) e3 A2 c2 w hw
      rw [(wr_ok rn (by rw [← e2]; exact e4)).1, (wr_ok rn (by rw [← e2]; exact e4)).2, ← e2] at this
      exact this
    · have := sameB_any w A4 B c4 d bs bs (by omega) h1 h2
      simpa using this
  have K4 : Hid ((allR bs).2 ≠ 0 → ∃ e0 : Int, e0 ≠ 0 ∧ (∀ w, Rd w w.heap.size B bs → Calls Try.prog 29 #[.slice B bs.length d] w (AllP w [] e0))) := fun h =>
    ⟨(allR bs).2, h, fun w hw => H2' [] _ (allR_bad bs h) w hw⟩
  clear H1' H2' hc hu hn hd hb hm hnil
  rcases h46 with h46 | h46
  · obtain ⟨h1, h3, h4⟩ := K1.out h46
    have H1 := Lib.hid h1; have H3 := Lib.hid h3; have H4 := Lib.hid h4
    clear h1 h3 h4 K1 K2 h46
    unfold Wrote at H1
    generalize vbs ns = ws at *
    generalize ws.length = wl at *
    rcases hre with hre | hre
    · obtain ⟨rn, h2, h5, h6⟩ := K3.out hre
      have H2 := Lib.hid h2; have H5 := Lib.hid h5; have H6 := Lib.hid h6
      clear h2 h5 h6 K3 K4 hre
      go_enter Try.func7, Try.ntmps7
      go_wp2_with fail
      refine (H1.out w HL.out).mono ?_
      rintro e w1_ ⟨A1, c1, rfl, hc1, hr1, Bq⟩
      replace HL := Lib.hid (HL.out.on Bq)
      replace HBs := Lib.hid (HBs.out.on Bq)
      have HB := Lib.hid Bq
      clear Bq
      have G1 := Lib.hid hc1; clear hc1
      have G2 := Lib.hid hr1; clear hr1
      go_wp2_with fail
      refine (H2.out w1_ HBs.out).mono ?_
      rintro e w2_ ⟨A2, c2, rfl, -, hr2, Bq⟩
      replace HL := Lib.hid (HL.out.on Bq)
      replace HBs := Lib.hid (HBs.out.on Bq)
      replace G2 := Lib.hid (G2.out.on Bq)
      replace HB := Lib.hid (HB.out.trans (Bq.mono HB.out.size))
      clear Bq
      have G3 := Lib.hid hr2; clear hr2
      go_wp2_with fail
      refine (vbegun_true w2_).mono ?_
      rintro e w3_ ⟨rfl, Bq⟩
      replace HL := Lib.hid (HL.out.on Bq)
      replace HBs := Lib.hid (HBs.out.on Bq)
      replace G2 := Lib.hid (G2.out.on Bq)
      replace G3 := Lib.hid (G3.out.on Bq)
      replace HB := Lib.hid (HB.out.trans (Bq.mono HB.out.size))
      clear Bq
      go_wp2_with fail
      refine (H3.out A1 c1 w3_ G1.out G2.out).mono ?_
      rintro e w4_ ⟨A3, c3, rfl, -, hr3, Bq⟩
      replace HL := Lib.hid (HL.out.on Bq)
      replace HBs := Lib.hid (HBs.out.on Bq)
      replace G2 := Lib.hid (G2.out.on Bq)
      replace G3 := Lib.hid (G3.out.on Bq)
      replace HB := Lib.hid (HB.out.trans (Bq.mono HB.out.size))
      clear Bq
      have G4 := Lib.hid hr3; clear hr3
      go_wp2_with fail
      refine (H4.out A3 c3 w4_ G4.out HL.out).mono ?_
      rintro e w5_ ⟨rfl, Bq⟩
      replace HL := Lib.hid (HL.out.on Bq)
      replace HBs := Lib.hid (HBs.out.on Bq)
      replace G2 := Lib.hid (G2.out.on Bq)
      replace G3 := Lib.hid (G3.out.on Bq)
      replace G4 := Lib.hid (G4.out.on Bq)
      replace HB := Lib.hid (HB.out.trans (Bq.mono HB.out.size))
      clear Bq
      go_wp2_with fail
      refine (H5.out A2 c2 w5_ G3.out).mono ?_
      rintro e w6_ ⟨A4, c4, rfl, hc4, hr4, Bq⟩
      replace HL := Lib.hid (HL.out.on Bq)
      replace HBs := Lib.hid (HBs.out.on Bq)
      replace G2 := Lib.hid (G2.out.on Bq)
      replace G3 := Lib.hid (G3.out.on Bq)
      replace G4 := Lib.hid (G4.out.on Bq)
      replace HB := Lib.hid (HB.out.trans (Bq.mono HB.out.size))
      clear Bq
      have G5 := Lib.hid hc4; clear hc4
      have G6 := Lib.hid hr4; clear hr4
      go_wp2_with fail
      refine (H6.out A4 c4 w6_ G6.out HBs.out).mono ?_
      rintro e w7_ ⟨rfl, Bq⟩
      replace HL := Lib.hid (HL.out.on Bq)
      replace HBs := Lib.hid (HBs.out.on Bq)
      replace G2 := Lib.hid (G2.out.on Bq)
      replace G3 := Lib.hid (G3.out.on Bq)
      replace G4 := Lib.hid (G4.out.on Bq)
      replace G6 := Lib.hid (G6.out.on Bq)
      replace HB := Lib.hid (HB.out.trans (Bq.mono HB.out.size))
      clear Bq
      go_wp2
      go_ret
      exact ⟨rfl, HB.out⟩
    · obtain ⟨e0, h0, h2⟩ := K4.out hre
      have H2 := Lib.hid h2
      have t1 : (e0 != 0) = true := by simpa using h0
      clear h2 K3 K4 hre h0
      go_enter Try.func7, Try.ntmps7
      go_wp2_with fail
      refine (H1.out w HL.out).mono ?_
      rintro e w1_ ⟨A1, c1, rfl, hc1, hr1, Bq⟩
      replace HL := Lib.hid (HL.out.on Bq)
      replace HBs := Lib.hid (HBs.out.on Bq)
      have HB := Lib.hid Bq
      clear Bq
      have G1 := Lib.hid hc1; clear hc1
      have G2 := Lib.hid hr1; clear hr1
      go_wp2_with fail
      refine (H2.out w1_ HBs.out).mono ?_
      rintro e w2_ ⟨A2, c2, rfl, -, hr2, Bq⟩
      replace HL := Lib.hid (HL.out.on Bq)
      replace HBs := Lib.hid (HBs.out.on Bq)
      replace G2 := Lib.hid (G2.out.on Bq)
      replace HB := Lib.hid (HB.out.trans (Bq.mono HB.out.size))
      clear Bq
      have G3 := Lib.hid hr2; clear hr2
      go_wp2_with fail
      refine (vbegun_true w2_).mono ?_
      rintro e w3_ ⟨rfl, Bq⟩
      replace HL := Lib.hid (HL.out.on Bq)
      replace HBs := Lib.hid (HBs.out.on Bq)
      replace G2 := Lib.hid (G2.out.on Bq)
      replace G3 := Lib.hid (G3.out.on Bq)
      replace HB := Lib.hid (HB.out.trans (Bq.mono HB.out.size))
      clear Bq
      go_wp2_with fail
      refine (H3.out A1 c1 w3_ G1.out G2.out).mono ?_
      rintro e w4_ ⟨A3, c3, rfl, -, hr3, Bq⟩
      replace HL := Lib.hid (HL.out.on Bq)
      replace HBs := Lib.hid (HBs.out.on Bq)
      replace G2 := Lib.hid (G2.out.on Bq)
      replace G3 := Lib.hid (G3.out.on Bq)
      replace HB := Lib.hid (HB.out.trans (Bq.mono HB.out.size))
      clear Bq
      have G4 := Lib.hid hr3; clear hr3
      go_wp2_with fail
      refine (H4.out A3 c3 w4_ G4.out HL.out).mono ?_
      rintro e w5_ ⟨rfl, Bq⟩
      replace HL := Lib.hid (HL.out.on Bq)
      replace HBs := Lib.hid (HBs.out.on Bq)
      replace G2 := Lib.hid (G2.out.on Bq)
      replace G3 := Lib.hid (G3.out.on Bq)
      replace G4 := Lib.hid (G4.out.on Bq)
      replace HB := Lib.hid (HB.out.trans (Bq.mono HB.out.size))
      clear Bq
      go_wp2
      go_ret
      exact ⟨rfl, HB.out⟩
  · have H1 := Lib.hid (K2.out h46)
    clear K1 K2 h46
    rcases hre with hre | hre
    · obtain ⟨rn, h2, h5, h6⟩ := K3.out hre
      have H2 := Lib.hid h2; have H5 := Lib.hid h5; have H6 := Lib.hid h6
      clear h2 h5 h6 K3 K4 hre
      go_enter Try.func7, Try.ntmps7
      go_wp2_with fail
      refine (H1.out w HL.out).mono ?_
      rintro e w1_ ⟨A1, c1, rfl, hc1, hr1, Bq⟩
      replace HL := Lib.hid (HL.out.on Bq)
      replace HBs := Lib.hid (HBs.out.on Bq)
      have HB := Lib.hid Bq
      clear Bq
      have G1 := Lib.hid hc1; clear hc1
      have G2 := Lib.hid hr1; clear hr1
      go_wp2_with fail
      refine (H2.out w1_ HBs.out).mono ?_
      rintro e w2_ ⟨A2, c2, rfl, -, hr2, Bq⟩
      replace HL := Lib.hid (HL.out.on Bq)
      replace HBs := Lib.hid (HBs.out.on Bq)
      replace G2 := Lib.hid (G2.out.on Bq)
      replace HB := Lib.hid (HB.out.trans (Bq.mono HB.out.size))
      clear Bq
      have G3 := Lib.hid hr2; clear hr2
      go_wp2_with fail
      refine (vbegun_true w2_).mono ?_
      rintro e w3_ ⟨rfl, Bq⟩
      replace HL := Lib.hid (HL.out.on Bq)
      replace HBs := Lib.hid (HBs.out.on Bq)
      replace G2 := Lib.hid (G2.out.on Bq)
      replace G3 := Lib.hid (G3.out.on Bq)
      replace HB := Lib.hid (HB.out.trans (Bq.mono HB.out.size))
      clear Bq
      go_wp2_with fail
      refine (H5.out A2 c2 w3_ G3.out).mono ?_
      rintro e w4_ ⟨A4, c4, rfl, hc4, hr4, Bq⟩
      replace HL := Lib.hid (HL.out.on Bq)
      replace HBs := Lib.hid (HBs.out.on Bq)
      replace G2 := Lib.hid (G2.out.on Bq)
      replace G3 := Lib.hid (G3.out.on Bq)
      replace HB := Lib.hid (HB.out.trans (Bq.mono HB.out.size))
      clear Bq
      have G5 := Lib.hid hc4; clear hc4
      have G6 := Lib.hid hr4; clear hr4
      go_wp2_with fail
      refine (H6.out A4 c4 w4_ G6.out HBs.out).mono ?_
      rintro e w5_ ⟨rfl, Bq⟩
      replace HL := Lib.hid (HL.out.on Bq)
      replace HBs := Lib.hid (HBs.out.on Bq)
      replace G2 := Lib.hid (G2.out.on Bq)
      replace G3 := Lib.hid (G3.out.on Bq)
      replace G6 := Lib.hid (G6.out.on Bq)
      replace HB := Lib.hid (HB.out.trans (Bq.mono HB.out.size))
      clear Bq
      go_wp2
      go_ret
      exact ⟨rfl, HB.out⟩
    · obtain ⟨e0, h0, h2⟩ := K4.out hre
      have H2 := Lib.hid h2
      have t1 : (e0 != 0) = true := by simpa using h0
      clear h2 K3 K4 hre h0
      go_enter Try.func7, Try.ntmps7
      go_wp2_with fail
      refine (H1.out w HL.out).mono ?_
      rintro e w1_ ⟨A1, c1, rfl, hc1, hr1, Bq⟩
      replace HL := Lib.hid (HL.out.on Bq)
      replace HBs := Lib.hid (HBs.out.on Bq)
      have HB := Lib.hid Bq
      clear Bq
      have G1 := Lib.hid hc1; clear hc1
      have G2 := Lib.hid hr1; clear hr1
      go_wp2_with fail
      refine (H2.out w1_ HBs.out).mono ?_
      rintro e w2_ ⟨A2, c2, rfl, -, hr2, Bq⟩
      replace HL := Lib.hid (HL.out.on Bq)
      replace HBs := Lib.hid (HBs.out.on Bq)
      replace G2 := Lib.hid (G2.out.on Bq)
      replace HB := Lib.hid (HB.out.trans (Bq.mono HB.out.size))
      clear Bq
      have G3 := Lib.hid hr2; clear hr2
      go_wp2_with fail
      refine (vbegun_true w2_).mono ?_
      rintro e w3_ ⟨rfl, Bq⟩
      replace HL := Lib.hid (HL.out.on Bq)
      replace HBs := Lib.hid (HBs.out.on Bq)
      replace G2 := Lib.hid (G2.out.on Bq)
      replace G3 := Lib.hid (G3.out.on Bq)
      replace HB := Lib.hid (HB.out.trans (Bq.mono HB.out.size))
      clear Bq
      go_wp2
      go_ret
      exact ⟨rfl, HB.out⟩
end Go.Proofs.Ytjogccpnhcnedaa
