/- The law PartsSwap: what both have is as much, whichever is told by the other one; for whatever two lists. -/
import Derived.Test.YtfcmjjmlijidcaaJQQBegun
namespace Go.Proofs.Ytfcmjjmlijidcaa
set_option maxRecDepth 100000
set_option linter.unusedVariables false
open Go.RowKit Go.Shelf

set_option maxHeartbeats 4000000 in
theorem partsSwap_law (A0 : Option Addr) (c0 : Nat) (xs : List Int) (A1 : Option Addr) (c1 : Nat) (ys : List Int) (w : World) (cp0 : xs.length ≤ c0) (nl0 : A0 = none → c0 = 0) (by0 : ∀ x ∈ xs, -9223372036854775808 ≤ x ∧ x ≤ 9223372036854775807) (rd0 : RdV w w.heap.size A0 (zc xs)) (sz0 : xs.length ≤ 9223372036854775807) (cp1 : ys.length ≤ c1) (nl1 : A1 = none → c1 = 0) (by1 : ∀ x ∈ ys, -9223372036854775808 ≤ x ∧ x ≤ 9223372036854775807) (rd1 : RdV w w.heap.size A1 (zc ys)) (sz1 : ys.length ≤ 9223372036854775807) :
    Calls Try.prog 7 #[.slice A0 xs.length c0, .slice A1 ys.length c1] w fun e w' => e = .returned (.bool true) ∧ Below w.heap.size w w' := by
  have HB : Hid (Below w.heap.size w w) := Below.refl _ _
  by_cases h0 : pbE xs ys = 0
  · obtain ⟨F, l, rfl, rfl, hF, hl, eB, eR⟩ := pb_zero xs ys h0
    have h0' : pbE (ns l) (ns F) = 0 := by unfold pbE; rw [rchk_ok l hl, rchk_ok F hF]; rfl
    have eB' : pbB (ns l) (ns F) = bks l F := by unfold pbB; rw [if_neg (by simpa using h0'), tn_ns, tn_ns]
    have eR' : pbR (ns l) (ns F) = notin l F := by unfold pbR; rw [if_neg (by simpa using h0'), tn_ns, tn_ns]
    obtain ⟨n1, hn1⟩ : ∃ k, (bks F l).length = k := ⟨_, rfl⟩
    obtain ⟨n2, hn2⟩ : ∃ k, (notin F l).length = k := ⟨_, rfl⟩
    obtain ⟨n3, hn3⟩ : ∃ k, (both F l).length = k := ⟨_, rfl⟩
    obtain ⟨m1, hm1⟩ : ∃ k, (bks l F).length = k := ⟨_, rfl⟩
    obtain ⟨m2, hm2⟩ : ∃ k, (notin l F).length = k := ⟨_, rfl⟩
    have b1 : n1 ≤ 300 := by rw [← hn1]; exact Nat.le_trans (bks_len F l) hF.1
    have b1' : m1 ≤ 300 := by rw [← hm1]; exact Nat.le_trans (bks_len l F) hl.1
    have b4 : n3 + n2 = l.length := by rw [← hn3, ← hn2]; exact both_len F l hF hl
    have b5 : n3 + m2 = F.length := by rw [← hn3, ← hm2, both_swap F l hF hl]; exact both_len l F hl hF
    have b6 : F.length ≤ 300 := hF.1
    have b7 : l.length ≤ 300 := hl.1
    have hn3' : (both l F).length = n3 := by rw [← both_swap F l hF hl]; exact hn3
    have esw : both l F = both F l := (both_swap F l hF hl).symm
    simp only [ns_length] at *
    have H1 : Hid (∀ V, Below w.heap.size w V → Calls Try.prog 12 #[.slice A0 F.length c0, .slice A1 l.length c1] V (BkN V n1 n2 (bks F l) (notin F l) 0)) := fun V hV => blocks_n (ns F) F.length (ns_length F) sz0 (ns l) l.length (ns_length l) sz1 _ _ 0 eB eR h0 n1 n2 hn1 hn2 A0 A1 c0 c1 V (rd0.on hV) (rd1.on hV)
    have H2 : Hid (∀ V, Below w.heap.size w V → Calls Try.prog 12 #[.slice A1 l.length c1, .slice A0 F.length c0] V (BkN V m1 m2 (bks l F) (notin l F) 0)) := fun V hV => blocks_n (ns l) l.length (ns_length l) sz1 (ns F) F.length (ns_length F) sz0 _ _ 0 eB' eR' h0' m1 m2 hm1 hm2 A1 A0 c1 c0 V (rd1.on hV) (rd0.on hV)
    have H3 : Hid (∀ A c V, Below w.heap.size w V → RdV V V.heap.size A (zc (ns (bks F l))) → Calls Try.prog 13 #[.slice A0 F.length c0, .slice A n1 c] V (IntK V n3 (both F l) 0)) := fun A c V hV r1 => copy_n (ns F) F.length (ns_length F) sz0 (ns (bks F l)) n1 (by rw [ns_length, hn1]) (by omega) _ 0 (cpA_bks F l hF).1 (cpA_bks F l hF).2 n3 hn3 A0 A c0 c nl0 cp0 V (rd0.on hV) r1
    have H4 : Hid (∀ A c V, Below w.heap.size w V → RdV V V.heap.size A (zc (ns (bks l F))) → Calls Try.prog 13 #[.slice A1 l.length c1, .slice A m1 c] V (IntK V n3 (both F l) 0)) := fun A c V hV r1 => copy_n (ns l) l.length (ns_length l) sz1 (ns (bks l F)) m1 (by rw [ns_length, hm1]) (by omega) _ 0 ((cpA_bks l F hl).1.trans esw) (cpA_bks l F hl).2 n3 hn3 A1 A c1 c nl1 cp1 V (rd1.on hV) r1
    have H5 : Hid (∀ A c A' c' V, RdV V V.heap.size A (zc (ns (both F l))) → RdV V V.heap.size A' (zc (ns (both F l))) → Calls Try.prog 20 #[.slice A n3 c, .slice A' n3 c'] V fun e w' => e = .returned (.bool true) ∧ Below V.heap.size V w') := fun A c A' c' V r1 r2 => same_n (both F l) n3 hn3 (by omega) A A' c c' V r1 r2
    generalize F.length = k0 at *
    generalize l.length = k1 at *
    have t1 : IntKind.i64.wrap ((k0 : Int) - (m2 : Int)) = (n3 : Int) := by rw [show (k0 : Int) - (m2 : Int) = (n3 : Int) by omega]; exact IntWalk.i64_in _ (by omega)
    have t2 : IntKind.i64.wrap ((k1 : Int) - (n2 : Int)) = (n3 : Int) := by rw [show (k1 : Int) - (n2 : Int) = (n3 : Int) by omega]; exact IntWalk.i64_in _ (by omega)
    have t3 : ((k0 : Int) - (m2 : Int) == (k1 : Int) - (n2 : Int)) = true := by simp; omega
    have t4 : IntKind.i64.wrap ((k0 : Int) - (m2 : Int)) = (k0 : Int) - (m2 : Int) := IntWalk.i64_in _ (by omega)
    have t5 : IntKind.i64.wrap ((k1 : Int) - (n2 : Int)) = (k1 : Int) - (n2 : Int) := IntWalk.i64_in _ (by omega)
    clear rd0 rd1 hF hl eB eR hn1 hn2 hn3 h0 by0 by1 cp0 cp1 nl0 nl1 sz0 sz1 h0' eB' eR' hm1 hm2 hn3' esw t1 t2
    generalize bks F l = B at *
    generalize notin F l = R at *
    generalize bks l F = B2 at *
    generalize notin l F = R2 at *
    generalize both F l = C at *
    go_enter Try.func7, Try.ntmps7
    go_wp2_with fail
    refine (H1.out w HB.out).mono ?_
    rintro e v1 ⟨AB, cB, AR, cR, rfl, -, -, q1, -, Bq⟩
    replace HB : Hid (Below w.heap.size w v1) := HB.out.trans (Bq.mono HB.out.size)
    clear Bq
    have HRB := Lib.hid q1; clear q1
    go_wp2_with fail
    refine (H2.out _ HB.out).mono ?_
    rintro e v2 ⟨AB2, cB2, AR2, cR2, rfl, -, -, q1, -, Bq⟩
    replace HB : Hid (Below w.heap.size w v2) := HB.out.trans (Bq.mono HB.out.size)
    replace HRB : Hid (RdV v2 v2.heap.size AB (zc (ns B))) := HRB.out.on Bq
    clear Bq
    have HRB2 := Lib.hid q1; clear q1
    go_wp2_with fail
    refine (partsbegun_true _).mono ?_
    rintro e v3 ⟨rfl, Bq⟩
    replace HB : Hid (Below w.heap.size w v3) := HB.out.trans (Bq.mono HB.out.size)
    replace HRB : Hid (RdV v3 v3.heap.size AB (zc (ns B))) := HRB.out.on Bq
    replace HRB2 : Hid (RdV v3 v3.heap.size AB2 (zc (ns B2))) := HRB2.out.on Bq
    clear Bq
    go_wp2_with fail
    refine (H3.out AB cB _ HB.out HRB.out).mono ?_
    rintro e v4 ⟨AC, cC, rfl, -, -, q1, Bq⟩
    replace HB : Hid (Below w.heap.size w v4) := HB.out.trans (Bq.mono HB.out.size)
    replace HRB : Hid (RdV v4 v4.heap.size AB (zc (ns B))) := HRB.out.on Bq
    replace HRB2 : Hid (RdV v4 v4.heap.size AB2 (zc (ns B2))) := HRB2.out.on Bq
    clear Bq
    have HRC := Lib.hid q1; clear q1
    go_wp2_with fail
    refine (H4.out AB2 cB2 _ HB.out HRB2.out).mono ?_
    rintro e v5 ⟨AD, cD, rfl, -, -, q1, Bq⟩
    replace HB : Hid (Below w.heap.size w v5) := HB.out.trans (Bq.mono HB.out.size)
    replace HRB : Hid (RdV v5 v5.heap.size AB (zc (ns B))) := HRB.out.on Bq
    replace HRB2 : Hid (RdV v5 v5.heap.size AB2 (zc (ns B2))) := HRB2.out.on Bq
    replace HRC : Hid (RdV v5 v5.heap.size AC (zc (ns C))) := HRC.out.on Bq
    clear Bq
    have HRD := Lib.hid q1; clear q1
    go_wp2_with fail
    refine (H5.out AC cC AD cD _ HRC.out HRD.out).mono ?_
    rintro e v6 ⟨rfl, Bq⟩
    replace HB : Hid (Below w.heap.size w v6) := HB.out.trans (Bq.mono HB.out.size)
    replace HRB : Hid (RdV v6 v6.heap.size AB (zc (ns B))) := HRB.out.on Bq
    replace HRB2 : Hid (RdV v6 v6.heap.size AB2 (zc (ns B2))) := HRB2.out.on Bq
    replace HRC : Hid (RdV v6 v6.heap.size AC (zc (ns C))) := HRC.out.on Bq
    replace HRD : Hid (RdV v6 v6.heap.size AD (zc (ns C))) := HRD.out.on Bq
    clear Bq
    go_wp2
    go_ret
    exact ⟨rfl, HB.out⟩
  · obtain ⟨eB, eR⟩ := pb_no xs ys h0
    have h1 : pbE ys xs ≠ 0 := fun h => h0 (by
      obtain ⟨F, l, rfl, rfl, hF, hl, _, _⟩ := pb_zero ys xs h
      unfold pbE; rw [rchk_ok l hl, rchk_ok F hF]; rfl)
    obtain ⟨eB', eR'⟩ := pb_no ys xs h1
    have H1 : Hid (∀ V, Below w.heap.size w V → Calls Try.prog 12 #[.slice A0 xs.length c0, .slice A1 ys.length c1] V (BkN V 0 0 [] [] (pbE xs ys))) := fun V hV => blocks_n xs xs.length rfl sz0 ys ys.length rfl sz1 _ _ _ eB eR rfl 0 0 rfl rfl A0 A1 c0 c1 V (rd0.on hV) (rd1.on hV)
    have H2 : Hid (∀ V, Below w.heap.size w V → Calls Try.prog 12 #[.slice A1 ys.length c1, .slice A0 xs.length c0] V (BkN V 0 0 [] [] (pbE ys xs))) := fun V hV => blocks_n ys ys.length rfl sz1 xs xs.length rfl sz0 _ _ _ eB' eR' rfl 0 0 rfl rfl A1 A0 c1 c0 V (rd1.on hV) (rd0.on hV)
    generalize pbE xs ys = e0 at *
    generalize pbE ys xs = e1 at *
    have t1 : (e0 != 0) = true := by simpa using h0
    have t2 : (e1 != 0) = true := by simpa using h1
    clear rd0 rd1 eB eR h0 by0 by1 cp0 cp1 nl0 nl1 sz0 sz1 h1 eB' eR'
    generalize xs.length = n at *
    generalize ys.length = m at *
    go_enter Try.func7, Try.ntmps7
    go_wp2_with fail
    refine (H1.out w HB.out).mono ?_
    rintro e v1 ⟨AB, cB, AR, cR, rfl, -, -, -, -, Bq⟩
    replace HB : Hid (Below w.heap.size w v1) := HB.out.trans (Bq.mono HB.out.size)
    clear Bq
    go_wp2_with fail
    refine (H2.out _ HB.out).mono ?_
    rintro e v2 ⟨AB2, cB2, AR2, cR2, rfl, -, -, -, -, Bq⟩
    replace HB : Hid (Below w.heap.size w v2) := HB.out.trans (Bq.mono HB.out.size)
    clear Bq
    go_wp2_with fail
    refine (partsbegun_true _).mono ?_
    rintro e v3 ⟨rfl, Bq⟩
    replace HB : Hid (Below w.heap.size w v3) := HB.out.trans (Bq.mono HB.out.size)
    clear Bq
    go_wp2
    go_ret
    exact ⟨rfl, HB.out⟩
end Go.Proofs.Ytfcmjjmlijidcaa
