/- The law PartsTell: all calls answer just what the document says; for whatever three lists. -/
import Derived.Test.YtfcmjjmlijidcaaJQQBegun
import Derived.Test.YtfcmjjmlijidcaaJQQRefC
namespace Go.Proofs.Ytfcmjjmlijidcaa
set_option maxRecDepth 100000
set_option linter.unusedVariables false
open Go.RowKit Go.Shelf

theorem intK2 {w : World} {l : List Nat} {err : Int} {e : Ending} {w' : World} {n : Nat} (h : IntM2 w n l err e w') : ∃ A c, e = .returned (.tuple #[.slice A n c, .int .i64 err]) ∧ RdV w' w'.heap.size A (zc (ns l)) ∧ Below w.heap.size w w' := h
def TwoLN (w : World) (n1 n2 : Nat) (l1 l2 : List Nat) (e : Ending) (w' : World) : Prop :=
  ∃ A1 c1 A2 c2, e = .returned (.tuple #[.slice A1 n1 c1, .slice A2 n2 c2]) ∧ RdV w' w'.heap.size A1 (zc (ns l1)) ∧ RdV w' w'.heap.size A2 (zc (ns l2)) ∧ Below w.heap.size w w'
theorem twoLN {w : World} {l1 l2 : List Nat} {e : Ending} {w' : World} {n1 n2 : Nat} (h : TwoL w l1 l2 e w') (h1 : l1.length = n1) (h2 : l2.length = n2) : TwoLN w n1 n2 l1 l2 e w' := by
  subst h1; subst h2
  obtain ⟨A1, c1, A2, c2, a, _, _, b, c, d⟩ := h
  exact ⟨A1, c1, A2, c2, a, b, c, d⟩
set_option maxHeartbeats 4000000 in
theorem partsTell_law (A0 : Option Addr) (c0 : Nat) (xs : List Int) (A1 : Option Addr) (c1 : Nat) (ys : List Int) (A2 : Option Addr) (c2 : Nat) (bs : List Int) (w : World) (cp0 : xs.length ≤ c0) (nl0 : A0 = none → c0 = 0) (by0 : ∀ x ∈ xs, -9223372036854775808 ≤ x ∧ x ≤ 9223372036854775807) (rd0 : RdV w w.heap.size A0 (zc xs)) (sz0 : xs.length ≤ 9223372036854775807) (cp1 : ys.length ≤ c1) (nl1 : A1 = none → c1 = 0) (by1 : ∀ x ∈ ys, -9223372036854775808 ≤ x ∧ x ≤ 9223372036854775807) (rd1 : RdV w w.heap.size A1 (zc ys)) (sz1 : ys.length ≤ 9223372036854775807) (cp2 : bs.length ≤ c2) (nl2 : A2 = none → c2 = 0) (by2 : ∀ x ∈ bs, -9223372036854775808 ≤ x ∧ x ≤ 9223372036854775807) (rd2 : RdV w w.heap.size A2 (zc bs)) (sz2 : bs.length ≤ 9223372036854775807) :
    Calls Try.prog 3 #[.slice A0 xs.length c0, .slice A1 ys.length c1, .slice A2 bs.length c2] w fun e w' => e = .returned (.bool true) ∧ Below w.heap.size w w' := by
  have HB : Hid (Below w.heap.size w w) := Below.refl _ _
  obtain ⟨C, hC⟩ : ∃ C, cpA xs bs = C := ⟨_, rfl⟩
  obtain ⟨e2, he2⟩ : ∃ e, cpE xs bs = e := ⟨_, rfl⟩
  obtain ⟨J, e3, hJ⟩ : ∃ J e, jnA xs bs ys = (J, e) := ⟨_, _, rfl⟩
  obtain ⟨n3, hn3⟩ : ∃ k, C.length = k := ⟨_, rfl⟩
  obtain ⟨n4, hn4⟩ : ∃ k, J.length = k := ⟨_, rfl⟩
  have b3 : n3 ≤ 300 := by
    rw [← hn3, ← hC]; unfold cpA
    split
    · simp
    · rename_i h
      have hr : rchk xs = 0 := by
        by_cases hz : rchk xs = 0
        · exact hz
        · exfalso; apply h; unfold cpE; rw [if_pos (by simpa using hz)]; simpa using hz
      obtain ⟨F, rfl, hF⟩ := rchk_zero xs hr
      rw [tn_ns]
      exact (cp_rising _ _ hF).1
  have b4 : n4 ≤ 300 := by
    rw [← hn4, show J = (jnA xs bs ys).1 by rw [hJ]]; unfold jnA
    split
    · simp
    · rcases un_or (cp true (tn bs) (tn xs)) (tn ys) with h | h | ⟨h, hh⟩
      · rw [h]; simp
      · rw [h]; simp
      · rw [h]; exact hh
  have H2 : Hid (∀ V, Below w.heap.size w V → Calls Try.prog 13 #[.slice A0 xs.length c0, .slice A2 bs.length c2] V (IntK V n3 C e2)) := fun V hV => copy_n xs xs.length rfl sz0 bs bs.length rfl sz2 _ _ hC he2 n3 hn3 A0 A2 c0 c2 nl0 cp0 V (rd0.on hV) (rd2.on hV)
  have H3 : Hid (∀ V, Below w.heap.size w V → Calls Try.prog 14 #[.slice A0 xs.length c0, .slice A2 bs.length c2, .slice A1 ys.length c1] V (IntK V n4 J e3)) := fun V hV => pjoin_n xs xs.length rfl sz0 bs bs.length rfl sz2 ys ys.length rfl sz1 _ _ hJ n4 hn4 A0 A2 A1 c0 c2 c1 nl0 cp0 nl1 V (rd0.on hV) (rd2.on hV) (rd1.on hV)
  have H4 : Hid (∀ V, Below w.heap.size w V → Calls Try.prog 15 #[.slice A0 xs.length c0] V fun e w' => e = .returned (.int .i64 (rchk xs)) ∧ Below V.heap.size V w') := fun V hV => rising_any xs xs.length rfl sz0 A0 c0 V (rd0.on hV)
  have H5 : Hid (∀ V, Below w.heap.size w V → Calls Try.prog 15 #[.slice A1 ys.length c1] V fun e w' => e = .returned (.int .i64 (rchk ys)) ∧ Below V.heap.size V w') := fun V hV => rising_any ys ys.length rfl sz1 A1 c1 V (rd1.on hV)
  have H6 : Hid (∀ V, Below w.heap.size w V → Calls Try.prog 17 #[.slice A0 xs.length c0, .slice A2 bs.length c2] V (IntM2 V n3 C e2)) := fun V hV => rcopy_any xs xs.length rfl sz0 bs bs.length rfl _ _ hC he2 n3 hn3 A0 A2 c0 c2 V (rd0.on hV) (rd2.on hV)
  have H7 : Hid (∀ V, Below w.heap.size w V → Calls Try.prog 18 #[.slice A0 xs.length c0, .slice A2 bs.length c2, .slice A1 ys.length c1] V (IntM2 V n4 J e3)) := fun V hV => rjoin_any xs xs.length rfl sz0 bs bs.length rfl ys ys.length rfl sz1 _ _ hJ n4 hn4 A0 A2 A1 c0 c2 c1 V (rd0.on hV) (rd2.on hV) (rd1.on hV)
  have H8 : Hid (∀ A c A' c' V, RdV V V.heap.size A (zc (ns C)) → RdV V V.heap.size A' (zc (ns C)) → Calls Try.prog 20 #[.slice A n3 c, .slice A' n3 c'] V fun e w' => e = .returned (.bool true) ∧ Below V.heap.size V w') := fun A c A' c' V r1 r2 => same_n C n3 hn3 (by omega) A A' c c' V r1 r2
  have H9 : Hid (∀ A c A' c' V, RdV V V.heap.size A (zc (ns J)) → RdV V V.heap.size A' (zc (ns J)) → Calls Try.prog 20 #[.slice A n4 c, .slice A' n4 c'] V fun e w' => e = .returned (.bool true) ∧ Below V.heap.size V w') := fun A c A' c' V r1 r2 => same_n J n4 hn4 (by omega) A A' c c' V r1 r2
  have s2 : (e2 == e2) = true := by simp
  have s3 : (e3 == e3) = true := by simp
  by_cases h0 : pbE xs ys = 0
  · obtain ⟨F, l, rfl, rfl, hF, hl, eB, eR⟩ := pb_zero xs ys h0
    obtain ⟨n1, hn1⟩ : ∃ k, (bks F l).length = k := ⟨_, rfl⟩
    obtain ⟨n2, hn2⟩ : ∃ k, (notin F l).length = k := ⟨_, rfl⟩
    have b1 : n1 ≤ 300 := by rw [← hn1]; exact Nat.le_trans (bks_len F l) hF.1
    have b2 : n2 ≤ 300 := by rw [← hn2]; exact Nat.le_trans (notin_len F l) hl.1
    have H1 : Hid (∀ V, Below w.heap.size w V → Calls Try.prog 12 #[.slice A0 (ns F).length c0, .slice A1 (ns l).length c1] V (BkN V n1 n2 (bks F l) (notin F l) 0)) := fun V hV => blocks_n (ns F) _ rfl sz0 (ns l) _ rfl sz1 _ _ 0 eB eR h0 n1 n2 hn1 hn2 A0 A1 c0 c1 V (rd0.on hV) (rd1.on hV)
    have H10 : Hid (∀ V, Below w.heap.size w V → Calls Try.prog 16 #[.slice A0 (ns F).length c0, .slice A1 (ns l).length c1] V (TwoLN V n1 n2 (bks F l) (notin F l))) := fun V hV => (rblocks_in F l hF.1 hl.1 _ _ (ns_length F).symm (ns_length l).symm _ _ rfl rfl A0 A1 c0 c1 V (rd0.on hV) (rd1.on hV)).mono fun _ _ h => twoLN h hn1 hn2
    have H11 : Hid (∀ A c A' c' V, RdV V V.heap.size A (zc (ns (bks F l))) → RdV V V.heap.size A' (zc (ns (bks F l))) → Calls Try.prog 20 #[.slice A n1 c, .slice A' n1 c'] V fun e w' => e = .returned (.bool true) ∧ Below V.heap.size V w') := fun A c A' c' V r1 r2 => same_n (bks F l) n1 hn1 (by omega) A A' c c' V r1 r2
    have H12 : Hid (∀ A c A' c' V, RdV V V.heap.size A (zc (ns (notin F l))) → RdV V V.heap.size A' (zc (ns (notin F l))) → Calls Try.prog 20 #[.slice A n2 c, .slice A' n2 c'] V fun e w' => e = .returned (.bool true) ∧ Below V.heap.size V w') := fun A c A' c' V r1 r2 => same_n (notin F l) n2 hn2 (by omega) A A' c c' V r1 r2
    rw [rchk_ok F hF] at H4
    rw [rchk_ok l hl] at H5
    clear rd0 rd1 rd2 hF hl eB eR hn1 hn2 hn3 hn4 h0 by0 by1 by2 cp0 cp1 cp2 nl0 nl1 nl2 sz0 sz1 sz2 hC he2 hJ
    generalize bks F l = B at *
    generalize notin F l = R at *
    generalize (ns F).length = k0 at *
    generalize (ns l).length = k1 at *
    generalize bs.length = k2 at *
    go_enter Try.func3, Try.ntmps3
    go_wp2_with fail
    refine (H1.out w HB.out).mono ?_
    rintro e v1 ⟨AB, cB, AR, cR, rfl, -, -, q1, q2, Bq⟩
    replace HB : Hid (Below w.heap.size w v1) := HB.out.trans (Bq.mono HB.out.size)
    clear Bq
    have HRB := Lib.hid q1; clear q1
    have HRR := Lib.hid q2; clear q2
    go_wp2_with fail
    refine (H2.out _ HB.out).mono ?_
    rintro e v2 ⟨AC, cC, rfl, -, -, q1, Bq⟩
    replace HB : Hid (Below w.heap.size w v2) := HB.out.trans (Bq.mono HB.out.size)
    replace HRB : Hid (RdV v2 v2.heap.size AB (zc (ns B))) := HRB.out.on Bq
    replace HRR : Hid (RdV v2 v2.heap.size AR (zc (ns R))) := HRR.out.on Bq
    clear Bq
    have HRC := Lib.hid q1; clear q1
    go_wp2_with fail
    refine (H3.out _ HB.out).mono ?_
    rintro e v3 ⟨AJ, cJ, rfl, -, -, q1, Bq⟩
    replace HB : Hid (Below w.heap.size w v3) := HB.out.trans (Bq.mono HB.out.size)
    replace HRB : Hid (RdV v3 v3.heap.size AB (zc (ns B))) := HRB.out.on Bq
    replace HRR : Hid (RdV v3 v3.heap.size AR (zc (ns R))) := HRR.out.on Bq
    replace HRC : Hid (RdV v3 v3.heap.size AC (zc (ns C))) := HRC.out.on Bq
    clear Bq
    have HRJ := Lib.hid q1; clear q1
    go_wp2_with fail
    refine (H4.out _ HB.out).mono ?_
    rintro e v4 ⟨rfl, Bq⟩
    replace HB : Hid (Below w.heap.size w v4) := HB.out.trans (Bq.mono HB.out.size)
    replace HRB : Hid (RdV v4 v4.heap.size AB (zc (ns B))) := HRB.out.on Bq
    replace HRR : Hid (RdV v4 v4.heap.size AR (zc (ns R))) := HRR.out.on Bq
    replace HRC : Hid (RdV v4 v4.heap.size AC (zc (ns C))) := HRC.out.on Bq
    replace HRJ : Hid (RdV v4 v4.heap.size AJ (zc (ns J))) := HRJ.out.on Bq
    clear Bq
    go_wp2_with fail
    refine (H5.out _ HB.out).mono ?_
    rintro e v5 ⟨rfl, Bq⟩
    replace HB : Hid (Below w.heap.size w v5) := HB.out.trans (Bq.mono HB.out.size)
    replace HRB : Hid (RdV v5 v5.heap.size AB (zc (ns B))) := HRB.out.on Bq
    replace HRR : Hid (RdV v5 v5.heap.size AR (zc (ns R))) := HRR.out.on Bq
    replace HRC : Hid (RdV v5 v5.heap.size AC (zc (ns C))) := HRC.out.on Bq
    replace HRJ : Hid (RdV v5 v5.heap.size AJ (zc (ns J))) := HRJ.out.on Bq
    clear Bq
    go_wp2_with fail
    refine (H10.out _ HB.out).mono ?_
    rintro e v6 ⟨XB, xB, XR, xR, rfl, q1, q2, Bq⟩
    replace HB : Hid (Below w.heap.size w v6) := HB.out.trans (Bq.mono HB.out.size)
    replace HRB : Hid (RdV v6 v6.heap.size AB (zc (ns B))) := HRB.out.on Bq
    replace HRR : Hid (RdV v6 v6.heap.size AR (zc (ns R))) := HRR.out.on Bq
    replace HRC : Hid (RdV v6 v6.heap.size AC (zc (ns C))) := HRC.out.on Bq
    replace HRJ : Hid (RdV v6 v6.heap.size AJ (zc (ns J))) := HRJ.out.on Bq
    clear Bq
    have HXB := Lib.hid q1; clear q1
    have HXR := Lib.hid q2; clear q2
    go_wp2_with fail
    refine (H6.out _ HB.out).mono ?_
    rintro e v7 ⟨XC, xC, rfl, q1, Bq⟩
    replace HB : Hid (Below w.heap.size w v7) := HB.out.trans (Bq.mono HB.out.size)
    replace HRB : Hid (RdV v7 v7.heap.size AB (zc (ns B))) := HRB.out.on Bq
    replace HRR : Hid (RdV v7 v7.heap.size AR (zc (ns R))) := HRR.out.on Bq
    replace HRC : Hid (RdV v7 v7.heap.size AC (zc (ns C))) := HRC.out.on Bq
    replace HRJ : Hid (RdV v7 v7.heap.size AJ (zc (ns J))) := HRJ.out.on Bq
    replace HXB : Hid (RdV v7 v7.heap.size XB (zc (ns B))) := HXB.out.on Bq
    replace HXR : Hid (RdV v7 v7.heap.size XR (zc (ns R))) := HXR.out.on Bq
    clear Bq
    have HXC := Lib.hid q1; clear q1
    go_wp2_with fail
    refine (H7.out _ HB.out).mono ?_
    rintro e v8 ⟨XJ, xJ, rfl, q1, Bq⟩
    replace HB : Hid (Below w.heap.size w v8) := HB.out.trans (Bq.mono HB.out.size)
    replace HRB : Hid (RdV v8 v8.heap.size AB (zc (ns B))) := HRB.out.on Bq
    replace HRR : Hid (RdV v8 v8.heap.size AR (zc (ns R))) := HRR.out.on Bq
    replace HRC : Hid (RdV v8 v8.heap.size AC (zc (ns C))) := HRC.out.on Bq
    replace HRJ : Hid (RdV v8 v8.heap.size AJ (zc (ns J))) := HRJ.out.on Bq
    replace HXB : Hid (RdV v8 v8.heap.size XB (zc (ns B))) := HXB.out.on Bq
    replace HXR : Hid (RdV v8 v8.heap.size XR (zc (ns R))) := HXR.out.on Bq
    replace HXC : Hid (RdV v8 v8.heap.size XC (zc (ns C))) := HXC.out.on Bq
    clear Bq
    have HXJ := Lib.hid q1; clear q1
    go_wp2_with fail
    refine (partsbegun_true _).mono ?_
    rintro e v9 ⟨rfl, Bq⟩
    replace HB : Hid (Below w.heap.size w v9) := HB.out.trans (Bq.mono HB.out.size)
    replace HRB : Hid (RdV v9 v9.heap.size AB (zc (ns B))) := HRB.out.on Bq
    replace HRR : Hid (RdV v9 v9.heap.size AR (zc (ns R))) := HRR.out.on Bq
    replace HRC : Hid (RdV v9 v9.heap.size AC (zc (ns C))) := HRC.out.on Bq
    replace HRJ : Hid (RdV v9 v9.heap.size AJ (zc (ns J))) := HRJ.out.on Bq
    replace HXB : Hid (RdV v9 v9.heap.size XB (zc (ns B))) := HXB.out.on Bq
    replace HXR : Hid (RdV v9 v9.heap.size XR (zc (ns R))) := HXR.out.on Bq
    replace HXC : Hid (RdV v9 v9.heap.size XC (zc (ns C))) := HXC.out.on Bq
    replace HXJ : Hid (RdV v9 v9.heap.size XJ (zc (ns J))) := HXJ.out.on Bq
    clear Bq
    go_wp2_with fail
    refine (H11.out AB cB XB xB _ HRB.out HXB.out).mono ?_
    rintro e v10 ⟨rfl, Bq⟩
    replace HB : Hid (Below w.heap.size w v10) := HB.out.trans (Bq.mono HB.out.size)
    replace HRB : Hid (RdV v10 v10.heap.size AB (zc (ns B))) := HRB.out.on Bq
    replace HRR : Hid (RdV v10 v10.heap.size AR (zc (ns R))) := HRR.out.on Bq
    replace HRC : Hid (RdV v10 v10.heap.size AC (zc (ns C))) := HRC.out.on Bq
    replace HRJ : Hid (RdV v10 v10.heap.size AJ (zc (ns J))) := HRJ.out.on Bq
    replace HXB : Hid (RdV v10 v10.heap.size XB (zc (ns B))) := HXB.out.on Bq
    replace HXR : Hid (RdV v10 v10.heap.size XR (zc (ns R))) := HXR.out.on Bq
    replace HXC : Hid (RdV v10 v10.heap.size XC (zc (ns C))) := HXC.out.on Bq
    replace HXJ : Hid (RdV v10 v10.heap.size XJ (zc (ns J))) := HXJ.out.on Bq
    clear Bq
    go_wp2_with fail
    refine (H12.out AR cR XR xR _ HRR.out HXR.out).mono ?_
    rintro e v11 ⟨rfl, Bq⟩
    replace HB : Hid (Below w.heap.size w v11) := HB.out.trans (Bq.mono HB.out.size)
    replace HRB : Hid (RdV v11 v11.heap.size AB (zc (ns B))) := HRB.out.on Bq
    replace HRR : Hid (RdV v11 v11.heap.size AR (zc (ns R))) := HRR.out.on Bq
    replace HRC : Hid (RdV v11 v11.heap.size AC (zc (ns C))) := HRC.out.on Bq
    replace HRJ : Hid (RdV v11 v11.heap.size AJ (zc (ns J))) := HRJ.out.on Bq
    replace HXB : Hid (RdV v11 v11.heap.size XB (zc (ns B))) := HXB.out.on Bq
    replace HXR : Hid (RdV v11 v11.heap.size XR (zc (ns R))) := HXR.out.on Bq
    replace HXC : Hid (RdV v11 v11.heap.size XC (zc (ns C))) := HXC.out.on Bq
    replace HXJ : Hid (RdV v11 v11.heap.size XJ (zc (ns J))) := HXJ.out.on Bq
    clear Bq
    go_wp2_with fail
    refine (H8.out AC cC XC xC _ HRC.out HXC.out).mono ?_
    rintro e v12 ⟨rfl, Bq⟩
    replace HB : Hid (Below w.heap.size w v12) := HB.out.trans (Bq.mono HB.out.size)
    replace HRB : Hid (RdV v12 v12.heap.size AB (zc (ns B))) := HRB.out.on Bq
    replace HRR : Hid (RdV v12 v12.heap.size AR (zc (ns R))) := HRR.out.on Bq
    replace HRC : Hid (RdV v12 v12.heap.size AC (zc (ns C))) := HRC.out.on Bq
    replace HRJ : Hid (RdV v12 v12.heap.size AJ (zc (ns J))) := HRJ.out.on Bq
    replace HXB : Hid (RdV v12 v12.heap.size XB (zc (ns B))) := HXB.out.on Bq
    replace HXR : Hid (RdV v12 v12.heap.size XR (zc (ns R))) := HXR.out.on Bq
    replace HXC : Hid (RdV v12 v12.heap.size XC (zc (ns C))) := HXC.out.on Bq
    replace HXJ : Hid (RdV v12 v12.heap.size XJ (zc (ns J))) := HXJ.out.on Bq
    clear Bq
    go_wp2_with fail
    refine (H9.out AJ cJ XJ xJ _ HRJ.out HXJ.out).mono ?_
    rintro e v13 ⟨rfl, Bq⟩
    replace HB : Hid (Below w.heap.size w v13) := HB.out.trans (Bq.mono HB.out.size)
    replace HRB : Hid (RdV v13 v13.heap.size AB (zc (ns B))) := HRB.out.on Bq
    replace HRR : Hid (RdV v13 v13.heap.size AR (zc (ns R))) := HRR.out.on Bq
    replace HRC : Hid (RdV v13 v13.heap.size AC (zc (ns C))) := HRC.out.on Bq
    replace HRJ : Hid (RdV v13 v13.heap.size AJ (zc (ns J))) := HRJ.out.on Bq
    replace HXB : Hid (RdV v13 v13.heap.size XB (zc (ns B))) := HXB.out.on Bq
    replace HXR : Hid (RdV v13 v13.heap.size XR (zc (ns R))) := HXR.out.on Bq
    replace HXC : Hid (RdV v13 v13.heap.size XC (zc (ns C))) := HXC.out.on Bq
    replace HXJ : Hid (RdV v13 v13.heap.size XJ (zc (ns J))) := HXJ.out.on Bq
    clear Bq
    go_wp2
    go_ret
    exact ⟨rfl, HB.out⟩
  · obtain ⟨eB, eR⟩ := pb_no xs ys h0
    have H1 : Hid (∀ V, Below w.heap.size w V → Calls Try.prog 12 #[.slice A0 xs.length c0, .slice A1 ys.length c1] V (BkN V 0 0 [] [] (pbE xs ys))) := fun V hV => blocks_n xs xs.length rfl sz0 ys ys.length rfl sz1 _ _ _ eB eR rfl 0 0 rfl rfl A0 A1 c0 c1 V (rd0.on hV) (rd1.on hV)
    have H11 : Hid (∀ A c V, Calls Try.prog 20 #[.slice A 0 c, .slice none 0 0] V fun e w' => e = .returned (.bool true) ∧ Below V.heap.size V w') := fun A c V => same_n [] 0 rfl (by omega) A none c 0 V (.inl rfl) (.inl rfl)
    have hpE : pbE xs ys = if rchk xs ≠ 0 then rchk xs else rchk ys := rfl
    clear rd0 rd1 rd2 eB eR hn3 hn4 by0 by1 by2 cp0 cp1 cp2 nl0 nl1 nl2 sz0 sz1 sz2 hC he2 hJ
    generalize pbE xs ys = e1 at *
    generalize rchk xs = r1 at *
    generalize rchk ys = r2 at *
    generalize xs.length = k0 at *
    generalize ys.length = k1 at *
    generalize bs.length = k2 at *
    have s4 : (e1 == e1) = true := by simp
    have s5 : (e1 == 0) = false := by simpa using h0
    by_cases hr : r1 = 0
    · rw [if_neg (by simpa using hr)] at hpE
      subst hpE
      subst hr
      clear h0
      go_enter Try.func3, Try.ntmps3
      go_wp2_with fail
      refine (H1.out w HB.out).mono ?_
      rintro e v1 ⟨AB, cB, AR, cR, rfl, -, -, -, -, Bq⟩
      replace HB : Hid (Below w.heap.size w v1) := HB.out.trans (Bq.mono HB.out.size)
      clear Bq
      go_wp2_with fail
      refine (H2.out _ HB.out).mono ?_
      rintro e v2 ⟨AC, cC, rfl, -, -, q1, Bq⟩
      replace HB : Hid (Below w.heap.size w v2) := HB.out.trans (Bq.mono HB.out.size)
      clear Bq
      have HRC := Lib.hid q1; clear q1
      go_wp2_with fail
      refine (H3.out _ HB.out).mono ?_
      rintro e v3 ⟨AJ, cJ, rfl, -, -, q1, Bq⟩
      replace HB : Hid (Below w.heap.size w v3) := HB.out.trans (Bq.mono HB.out.size)
      replace HRC : Hid (RdV v3 v3.heap.size AC (zc (ns C))) := HRC.out.on Bq
      clear Bq
      have HRJ := Lib.hid q1; clear q1
      go_wp2_with fail
      refine (H4.out _ HB.out).mono ?_
      rintro e v4 ⟨rfl, Bq⟩
      replace HB : Hid (Below w.heap.size w v4) := HB.out.trans (Bq.mono HB.out.size)
      replace HRC : Hid (RdV v4 v4.heap.size AC (zc (ns C))) := HRC.out.on Bq
      replace HRJ : Hid (RdV v4 v4.heap.size AJ (zc (ns J))) := HRJ.out.on Bq
      clear Bq
      go_wp2_with fail
      refine (H5.out _ HB.out).mono ?_
      rintro e v5 ⟨rfl, Bq⟩
      replace HB : Hid (Below w.heap.size w v5) := HB.out.trans (Bq.mono HB.out.size)
      replace HRC : Hid (RdV v5 v5.heap.size AC (zc (ns C))) := HRC.out.on Bq
      replace HRJ : Hid (RdV v5 v5.heap.size AJ (zc (ns J))) := HRJ.out.on Bq
      clear Bq
      go_wp2_with fail
      refine (H6.out _ HB.out).mono ?_
      rintro e v6 ⟨XC, xC, rfl, q1, Bq⟩
      replace HB : Hid (Below w.heap.size w v6) := HB.out.trans (Bq.mono HB.out.size)
      replace HRC : Hid (RdV v6 v6.heap.size AC (zc (ns C))) := HRC.out.on Bq
      replace HRJ : Hid (RdV v6 v6.heap.size AJ (zc (ns J))) := HRJ.out.on Bq
      clear Bq
      have HXC := Lib.hid q1; clear q1
      go_wp2_with fail
      refine (H7.out _ HB.out).mono ?_
      rintro e v7 ⟨XJ, xJ, rfl, q1, Bq⟩
      replace HB : Hid (Below w.heap.size w v7) := HB.out.trans (Bq.mono HB.out.size)
      replace HRC : Hid (RdV v7 v7.heap.size AC (zc (ns C))) := HRC.out.on Bq
      replace HRJ : Hid (RdV v7 v7.heap.size AJ (zc (ns J))) := HRJ.out.on Bq
      replace HXC : Hid (RdV v7 v7.heap.size XC (zc (ns C))) := HXC.out.on Bq
      clear Bq
      have HXJ := Lib.hid q1; clear q1
      go_wp2_with fail
      refine (partsbegun_true _).mono ?_
      rintro e v8 ⟨rfl, Bq⟩
      replace HB : Hid (Below w.heap.size w v8) := HB.out.trans (Bq.mono HB.out.size)
      replace HRC : Hid (RdV v8 v8.heap.size AC (zc (ns C))) := HRC.out.on Bq
      replace HRJ : Hid (RdV v8 v8.heap.size AJ (zc (ns J))) := HRJ.out.on Bq
      replace HXC : Hid (RdV v8 v8.heap.size XC (zc (ns C))) := HXC.out.on Bq
      replace HXJ : Hid (RdV v8 v8.heap.size XJ (zc (ns J))) := HXJ.out.on Bq
      clear Bq
      go_wp2_with fail
      refine (H11.out AB cB _).mono ?_
      rintro e v9 ⟨rfl, Bq⟩
      replace HB : Hid (Below w.heap.size w v9) := HB.out.trans (Bq.mono HB.out.size)
      replace HRC : Hid (RdV v9 v9.heap.size AC (zc (ns C))) := HRC.out.on Bq
      replace HRJ : Hid (RdV v9 v9.heap.size AJ (zc (ns J))) := HRJ.out.on Bq
      replace HXC : Hid (RdV v9 v9.heap.size XC (zc (ns C))) := HXC.out.on Bq
      replace HXJ : Hid (RdV v9 v9.heap.size XJ (zc (ns J))) := HXJ.out.on Bq
      clear Bq
      go_wp2_with fail
      refine (H11.out AR cR _).mono ?_
      rintro e v10 ⟨rfl, Bq⟩
      replace HB : Hid (Below w.heap.size w v10) := HB.out.trans (Bq.mono HB.out.size)
      replace HRC : Hid (RdV v10 v10.heap.size AC (zc (ns C))) := HRC.out.on Bq
      replace HRJ : Hid (RdV v10 v10.heap.size AJ (zc (ns J))) := HRJ.out.on Bq
      replace HXC : Hid (RdV v10 v10.heap.size XC (zc (ns C))) := HXC.out.on Bq
      replace HXJ : Hid (RdV v10 v10.heap.size XJ (zc (ns J))) := HXJ.out.on Bq
      clear Bq
      go_wp2_with fail
      refine (H8.out AC cC XC xC _ HRC.out HXC.out).mono ?_
      rintro e v11 ⟨rfl, Bq⟩
      replace HB : Hid (Below w.heap.size w v11) := HB.out.trans (Bq.mono HB.out.size)
      replace HRC : Hid (RdV v11 v11.heap.size AC (zc (ns C))) := HRC.out.on Bq
      replace HRJ : Hid (RdV v11 v11.heap.size AJ (zc (ns J))) := HRJ.out.on Bq
      replace HXC : Hid (RdV v11 v11.heap.size XC (zc (ns C))) := HXC.out.on Bq
      replace HXJ : Hid (RdV v11 v11.heap.size XJ (zc (ns J))) := HXJ.out.on Bq
      clear Bq
      go_wp2_with fail
      refine (H9.out AJ cJ XJ xJ _ HRJ.out HXJ.out).mono ?_
      rintro e v12 ⟨rfl, Bq⟩
      replace HB : Hid (Below w.heap.size w v12) := HB.out.trans (Bq.mono HB.out.size)
      replace HRC : Hid (RdV v12 v12.heap.size AC (zc (ns C))) := HRC.out.on Bq
      replace HRJ : Hid (RdV v12 v12.heap.size AJ (zc (ns J))) := HRJ.out.on Bq
      replace HXC : Hid (RdV v12 v12.heap.size XC (zc (ns C))) := HXC.out.on Bq
      replace HXJ : Hid (RdV v12 v12.heap.size XJ (zc (ns J))) := HXJ.out.on Bq
      clear Bq
      go_wp2
      go_ret
      exact ⟨rfl, HB.out⟩
    · rw [if_pos (by simpa using hr)] at hpE
      subst hpE
      clear h0 hr
      go_enter Try.func3, Try.ntmps3
      go_wp2_with fail
      refine (H1.out w HB.out).mono ?_
      rintro e v1 ⟨AB, cB, AR, cR, rfl, -, -, -, -, Bq⟩
      replace HB : Hid (Below w.heap.size w v1) := HB.out.trans (Bq.mono HB.out.size)
      clear Bq
      go_wp2_with fail
      refine (H2.out _ HB.out).mono ?_
      rintro e v2 ⟨AC, cC, rfl, -, -, q1, Bq⟩
      replace HB : Hid (Below w.heap.size w v2) := HB.out.trans (Bq.mono HB.out.size)
      clear Bq
      have HRC := Lib.hid q1; clear q1
      go_wp2_with fail
      refine (H3.out _ HB.out).mono ?_
      rintro e v3 ⟨AJ, cJ, rfl, -, -, q1, Bq⟩
      replace HB : Hid (Below w.heap.size w v3) := HB.out.trans (Bq.mono HB.out.size)
      replace HRC : Hid (RdV v3 v3.heap.size AC (zc (ns C))) := HRC.out.on Bq
      clear Bq
      have HRJ := Lib.hid q1; clear q1
      go_wp2_with fail
      refine (H4.out _ HB.out).mono ?_
      rintro e v4 ⟨rfl, Bq⟩
      replace HB : Hid (Below w.heap.size w v4) := HB.out.trans (Bq.mono HB.out.size)
      replace HRC : Hid (RdV v4 v4.heap.size AC (zc (ns C))) := HRC.out.on Bq
      replace HRJ : Hid (RdV v4 v4.heap.size AJ (zc (ns J))) := HRJ.out.on Bq
      clear Bq
      go_wp2_with fail
      refine (H6.out _ HB.out).mono ?_
      rintro e v5 ⟨XC, xC, rfl, q1, Bq⟩
      replace HB : Hid (Below w.heap.size w v5) := HB.out.trans (Bq.mono HB.out.size)
      replace HRC : Hid (RdV v5 v5.heap.size AC (zc (ns C))) := HRC.out.on Bq
      replace HRJ : Hid (RdV v5 v5.heap.size AJ (zc (ns J))) := HRJ.out.on Bq
      clear Bq
      have HXC := Lib.hid q1; clear q1
      go_wp2_with fail
      refine (H7.out _ HB.out).mono ?_
      rintro e v6 ⟨XJ, xJ, rfl, q1, Bq⟩
      replace HB : Hid (Below w.heap.size w v6) := HB.out.trans (Bq.mono HB.out.size)
      replace HRC : Hid (RdV v6 v6.heap.size AC (zc (ns C))) := HRC.out.on Bq
      replace HRJ : Hid (RdV v6 v6.heap.size AJ (zc (ns J))) := HRJ.out.on Bq
      replace HXC : Hid (RdV v6 v6.heap.size XC (zc (ns C))) := HXC.out.on Bq
      clear Bq
      have HXJ := Lib.hid q1; clear q1
      go_wp2_with fail
      refine (partsbegun_true _).mono ?_
      rintro e v7 ⟨rfl, Bq⟩
      replace HB : Hid (Below w.heap.size w v7) := HB.out.trans (Bq.mono HB.out.size)
      replace HRC : Hid (RdV v7 v7.heap.size AC (zc (ns C))) := HRC.out.on Bq
      replace HRJ : Hid (RdV v7 v7.heap.size AJ (zc (ns J))) := HRJ.out.on Bq
      replace HXC : Hid (RdV v7 v7.heap.size XC (zc (ns C))) := HXC.out.on Bq
      replace HXJ : Hid (RdV v7 v7.heap.size XJ (zc (ns J))) := HXJ.out.on Bq
      clear Bq
      go_wp2_with fail
      refine (H11.out AB cB _).mono ?_
      rintro e v8 ⟨rfl, Bq⟩
      replace HB : Hid (Below w.heap.size w v8) := HB.out.trans (Bq.mono HB.out.size)
      replace HRC : Hid (RdV v8 v8.heap.size AC (zc (ns C))) := HRC.out.on Bq
      replace HRJ : Hid (RdV v8 v8.heap.size AJ (zc (ns J))) := HRJ.out.on Bq
      replace HXC : Hid (RdV v8 v8.heap.size XC (zc (ns C))) := HXC.out.on Bq
      replace HXJ : Hid (RdV v8 v8.heap.size XJ (zc (ns J))) := HXJ.out.on Bq
      clear Bq
      go_wp2_with fail
      refine (H11.out AR cR _).mono ?_
      rintro e v9 ⟨rfl, Bq⟩
      replace HB : Hid (Below w.heap.size w v9) := HB.out.trans (Bq.mono HB.out.size)
      replace HRC : Hid (RdV v9 v9.heap.size AC (zc (ns C))) := HRC.out.on Bq
      replace HRJ : Hid (RdV v9 v9.heap.size AJ (zc (ns J))) := HRJ.out.on Bq
      replace HXC : Hid (RdV v9 v9.heap.size XC (zc (ns C))) := HXC.out.on Bq
      replace HXJ : Hid (RdV v9 v9.heap.size XJ (zc (ns J))) := HXJ.out.on Bq
      clear Bq
      go_wp2_with fail
      refine (H8.out AC cC XC xC _ HRC.out HXC.out).mono ?_
      rintro e v10 ⟨rfl, Bq⟩
      replace HB : Hid (Below w.heap.size w v10) := HB.out.trans (Bq.mono HB.out.size)
      replace HRC : Hid (RdV v10 v10.heap.size AC (zc (ns C))) := HRC.out.on Bq
      replace HRJ : Hid (RdV v10 v10.heap.size AJ (zc (ns J))) := HRJ.out.on Bq
      replace HXC : Hid (RdV v10 v10.heap.size XC (zc (ns C))) := HXC.out.on Bq
      replace HXJ : Hid (RdV v10 v10.heap.size XJ (zc (ns J))) := HXJ.out.on Bq
      clear Bq
      go_wp2_with fail
      refine (H9.out AJ cJ XJ xJ _ HRJ.out HXJ.out).mono ?_
      rintro e v11 ⟨rfl, Bq⟩
      replace HB : Hid (Below w.heap.size w v11) := HB.out.trans (Bq.mono HB.out.size)
      replace HRC : Hid (RdV v11 v11.heap.size AC (zc (ns C))) := HRC.out.on Bq
      replace HRJ : Hid (RdV v11 v11.heap.size AJ (zc (ns J))) := HRJ.out.on Bq
      replace HXC : Hid (RdV v11 v11.heap.size XC (zc (ns C))) := HXC.out.on Bq
      replace HXJ : Hid (RdV v11 v11.heap.size XJ (zc (ns J))) := HXJ.out.on Bq
      clear Bq
      go_wp2
      go_ret
      exact ⟨rfl, HB.out⟩
end Go.Proofs.Ytfcmjjmlijidcaa
