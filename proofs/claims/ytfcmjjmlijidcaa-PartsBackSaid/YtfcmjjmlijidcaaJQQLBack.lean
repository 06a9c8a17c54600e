/- The law PartsBack: a list is told by another one, blocks and a rest; for whatever two lists. -/
import Derived.Test.YtfcmjjmlijidcaaJQQBegun
namespace Go.Proofs.Ytfcmjjmlijidcaa
set_option maxRecDepth 100000
set_option linter.unusedVariables false
open Go.RowKit Go.Shelf

set_option maxHeartbeats 4000000 in
theorem partsBack_law (A0 : Option Addr) (c0 : Nat) (xs : List Int) (A1 : Option Addr) (c1 : Nat) (ys : List Int) (w : World) (cp0 : xs.length ≤ c0) (nl0 : A0 = none → c0 = 0) (by0 : ∀ x ∈ xs, -9223372036854775808 ≤ x ∧ x ≤ 9223372036854775807) (rd0 : RdV w w.heap.size A0 (zc xs)) (sz0 : xs.length ≤ 9223372036854775807) (cp1 : ys.length ≤ c1) (nl1 : A1 = none → c1 = 0) (by1 : ∀ x ∈ ys, -9223372036854775808 ≤ x ∧ x ≤ 9223372036854775807) (rd1 : RdV w w.heap.size A1 (zc ys)) (sz1 : ys.length ≤ 9223372036854775807) :
    Calls Try.prog 4 #[.slice A0 xs.length c0, .slice A1 ys.length c1] w fun e w' => e = .returned (.bool true) ∧ Below w.heap.size w w' := by
  have HB : Hid (Below w.heap.size w w) := Below.refl _ _
  by_cases h0 : pbE xs ys = 0
  · obtain ⟨F, l, rfl, rfl, hF, hl, eB, eR⟩ := pb_zero xs ys h0
    obtain ⟨n1, hn1⟩ : ∃ k, (bks F l).length = k := ⟨_, rfl⟩
    obtain ⟨n2, hn2⟩ : ∃ k, (notin F l).length = k := ⟨_, rfl⟩
    obtain ⟨n3, hn3⟩ : ∃ k, (both F l).length = k := ⟨_, rfl⟩
    have b1 : n1 ≤ 300 := by rw [← hn1]; exact Nat.le_trans (bks_len F l) hF.1
    have b2 : n2 ≤ 300 := by rw [← hn2]; exact Nat.le_trans (notin_len F l) hl.1
    have b4 : n3 + n2 = l.length := by rw [← hn3, ← hn2]; exact both_len F l hF hl
    have b5 : l.length ≤ 300 := hl.1
    simp only [ns_length] at *
    have H1 : Hid (∀ V, Below w.heap.size w V → Calls Try.prog 12 #[.slice A0 F.length c0, .slice A1 l.length c1] V (BkN V n1 n2 (bks F l) (notin F l) 0)) := fun V hV => blocks_n (ns F) F.length (ns_length F) sz0 (ns l) l.length (ns_length l) sz1 _ _ 0 eB eR h0 n1 n2 hn1 hn2 A0 A1 c0 c1 V (rd0.on hV) (rd1.on hV)
    have H2 : Hid (∀ A c A' c' V, (A' = none → c' = 0) → Below w.heap.size w V → RdV V V.heap.size A (zc (ns (bks F l))) → RdV V V.heap.size A' (zc (ns (notin F l))) → Calls Try.prog 14 #[.slice A0 F.length c0, .slice A n1 c, .slice A' n2 c'] V (IntK V l.length l 0)) := fun A c A' c' V hA hV r1 r2 => pjoin_n (ns F) F.length (ns_length F) sz0 (ns (bks F l)) n1 (by rw [ns_length, hn1]) (by omega) (ns (notin F l)) n2 (by rw [ns_length, hn2]) (by omega) l 0 (jnA_back F l hF hl) l.length rfl A0 A A' c0 c c' nl0 cp0 hA V (rd0.on hV) r1 r2
    have H3 : Hid (∀ A c V, Below w.heap.size w V → RdV V V.heap.size A (zc (ns (bks F l))) → Calls Try.prog 13 #[.slice A0 F.length c0, .slice A n1 c] V (IntK V n3 (both F l) 0)) := fun A c V hV r1 => copy_n (ns F) F.length (ns_length F) sz0 (ns (bks F l)) n1 (by rw [ns_length, hn1]) (by omega) _ 0 (cpA_bks F l hF).1 (cpA_bks F l hF).2 n3 hn3 A0 A c0 c nl0 cp0 V (rd0.on hV) r1
    have H4 : Hid (∀ A c V, Below w.heap.size w V → RdV V V.heap.size A (zc (ns l)) → Calls Try.prog 20 #[.slice A l.length c, .slice A1 l.length c1] V fun e w' => e = .returned (.bool true) ∧ Below V.heap.size V w') := fun A c V hV r1 => same_n l l.length rfl sz1 A A1 c c1 V r1 (rd1.on hV)
    have t1 : IntKind.i64.wrap ((n3 : Int) + (n2 : Int)) = (n3 : Int) + (n2 : Int) := IntWalk.i64_in _ (by omega)
    have t2 : ((n3 : Int) + (n2 : Int) == (l.length : Int)) = true := by simp; omega
    clear rd0 rd1 hF hl eB eR hn1 hn2 hn3 h0 by0 by1 cp0 cp1 nl0 nl1 sz0 sz1 b4
    generalize bks F l = B at *
    generalize notin F l = R at *
    generalize both F l = C at *
    generalize F.length = m at *
    generalize hk : l.length = k at *
    clear hk
    go_enter Try.func4, Try.ntmps4
    go_wp2_with fail
    refine (H1.out w HB.out).mono ?_
    rintro e v1 ⟨AB, cB, AR, cR, rfl, -, ⟨-, hR⟩, q1, q2, Bq⟩
    replace HB : Hid (Below w.heap.size w v1) := HB.out.trans (Bq.mono HB.out.size)
    clear Bq
    have HRB := Lib.hid q1; clear q1
    have HRR := Lib.hid q2; clear q2
    go_wp2_with fail
    refine (partsbegun_true _).mono ?_
    rintro e v2 ⟨rfl, Bq⟩
    replace HB : Hid (Below w.heap.size w v2) := HB.out.trans (Bq.mono HB.out.size)
    replace HRB : Hid (RdV v2 v2.heap.size AB (zc (ns B))) := HRB.out.on Bq
    replace HRR : Hid (RdV v2 v2.heap.size AR (zc (ns R))) := HRR.out.on Bq
    clear Bq
    go_wp2_with fail
    refine (H2.out AB cB AR cR _ hR HB.out HRB.out HRR.out).mono ?_
    rintro e v3 ⟨AJ, cJ, rfl, -, -, q1, Bq⟩
    replace HB : Hid (Below w.heap.size w v3) := HB.out.trans (Bq.mono HB.out.size)
    replace HRB : Hid (RdV v3 v3.heap.size AB (zc (ns B))) := HRB.out.on Bq
    replace HRR : Hid (RdV v3 v3.heap.size AR (zc (ns R))) := HRR.out.on Bq
    clear Bq
    have HRJ := Lib.hid q1; clear q1
    go_wp2_with fail
    refine (H3.out AB cB _ HB.out HRB.out).mono ?_
    rintro e v4 ⟨AC, cC, rfl, -, -, -, Bq⟩
    replace HB : Hid (Below w.heap.size w v4) := HB.out.trans (Bq.mono HB.out.size)
    replace HRB : Hid (RdV v4 v4.heap.size AB (zc (ns B))) := HRB.out.on Bq
    replace HRR : Hid (RdV v4 v4.heap.size AR (zc (ns R))) := HRR.out.on Bq
    replace HRJ : Hid (RdV v4 v4.heap.size AJ (zc (ns l))) := HRJ.out.on Bq
    clear Bq
    go_wp2_with fail
    refine (H4.out AJ cJ _ HB.out HRJ.out).mono ?_
    rintro e v5 ⟨rfl, Bq⟩
    replace HB : Hid (Below w.heap.size w v5) := HB.out.trans (Bq.mono HB.out.size)
    replace HRB : Hid (RdV v5 v5.heap.size AB (zc (ns B))) := HRB.out.on Bq
    replace HRR : Hid (RdV v5 v5.heap.size AR (zc (ns R))) := HRR.out.on Bq
    replace HRJ : Hid (RdV v5 v5.heap.size AJ (zc (ns l))) := HRJ.out.on Bq
    clear Bq
    go_wp2
    go_ret
    exact ⟨rfl, HB.out⟩
  · obtain ⟨eB, eR⟩ := pb_no xs ys h0
    have H1 : Hid (∀ V, Below w.heap.size w V → Calls Try.prog 12 #[.slice A0 xs.length c0, .slice A1 ys.length c1] V (BkN V 0 0 [] [] (pbE xs ys))) := fun V hV => blocks_n xs xs.length rfl sz0 ys ys.length rfl sz1 _ _ _ eB eR rfl 0 0 rfl rfl A0 A1 c0 c1 V (rd0.on hV) (rd1.on hV)
    generalize pbE xs ys = e0 at *
    have t1 : (e0 != 0) = true := by simpa using h0
    clear rd0 rd1 eB eR h0 by0 by1 cp0 cp1 nl0 nl1 sz0 sz1
    generalize xs.length = n at *
    generalize ys.length = m at *
    go_enter Try.func4, Try.ntmps4
    go_wp2_with fail
    refine (H1.out w HB.out).mono ?_
    rintro e v1 ⟨AB, cB, AR, cR, rfl, -, -, -, -, Bq⟩
    replace HB : Hid (Below w.heap.size w v1) := HB.out.trans (Bq.mono HB.out.size)
    clear Bq
    go_wp2_with fail
    refine (partsbegun_true _).mono ?_
    rintro e v2 ⟨rfl, Bq⟩
    replace HB : Hid (Below w.heap.size w v2) := HB.out.trans (Bq.mono HB.out.size)
    clear Bq
    go_wp2
    go_ret
    exact ⟨rfl, HB.out⟩
end Go.Proofs.Ytfcmjjmlijidcaa
