/- The law PartsFew: no fewer blocks copy the same; for whatever list and blocks. -/
import Derived.Test.YtfcmjjmlijidcaaJQQBegun
namespace Go.Proofs.Ytfcmjjmlijidcaa
set_option maxRecDepth 100000
set_option linter.unusedVariables false
open Go.RowKit Go.Shelf

theorem rdv_pre {w : World} {B : Nat} {A : Option Addr} {l : List Nat} (h : RdV w B A (zc (ns l))) (k : Nat) : RdV w B A (zc (ns (l.take k))) := by
  rcases h with h | ⟨b, off, e, hb, hc⟩
  · left
    have : l = [] := by cases l with
      | nil => rfl
      | cons x t => simp [zc, ns] at h
    rw [this, List.take_nil]; rfl
  · refine .inr ⟨b, off, e, hb, fun i v hi => hc i v ?_⟩
    rw [show zc (ns (l.take k)) = (zc (ns l)).take k by simp [zc, ns, List.map_take], List.getElem?_take] at hi
    split at hi
    · exact hi
    · cases hi
set_option maxHeartbeats 4000000 in
theorem partsFew_law (A0 : Option Addr) (c0 : Nat) (xs : List Int) (A1 : Option Addr) (c1 : Nat) (bs : List Int) (w : World) (cp0 : xs.length ≤ c0) (nl0 : A0 = none → c0 = 0) (by0 : ∀ x ∈ xs, -9223372036854775808 ≤ x ∧ x ≤ 9223372036854775807) (rd0 : RdV w w.heap.size A0 (zc xs)) (sz0 : xs.length ≤ 9223372036854775807) (cp1 : bs.length ≤ c1) (nl1 : A1 = none → c1 = 0) (by1 : ∀ x ∈ bs, -9223372036854775808 ≤ x ∧ x ≤ 9223372036854775807) (rd1 : RdV w w.heap.size A1 (zc bs)) (sz1 : bs.length ≤ 9223372036854775807) :
    Calls Try.prog 5 #[.slice A0 xs.length c0, .slice A1 bs.length c1] w fun e w' => e = .returned (.bool true) ∧ Below w.heap.size w w' := by
  have HB : Hid (Below w.heap.size w w) := Below.refl _ _
  by_cases h0 : cpE xs bs = 0
  · have h0' := h0
    have hr : rchk xs = 0 := by
      by_cases hz : rchk xs = 0
      · exact hz
      · unfold cpE at h0; rw [if_pos (by simpa using hz)] at h0; exact h0
    obtain ⟨F, rfl, hF⟩ := rchk_zero xs hr
    unfold cpE at h0'
    rw [hr, if_neg (by simp), ns_length] at h0'
    obtain ⟨B, rfl, hB⟩ := bchk_zero bs _ h0'
    obtain ⟨g1, g2, g3⟩ := bks_again B F hB hF
    have eC : cpA (ns F) (ns B) = cp true B F := by unfold cpA; rw [if_neg (by simpa using h0), tn_ns, tn_ns]
    have hC := cp_rising B F hF
    have e1 : pbE (ns F) (ns (cp true B F)) = 0 := by unfold pbE; rw [rchk_ok F hF, rchk_ok _ hC]; rfl
    have f1 : pbB (ns F) (ns (cp true B F)) = bks F (cp true B F) := by unfold pbB; rw [if_neg (by simpa using e1), tn_ns, tn_ns]
    have f2 : pbR (ns F) (ns (cp true B F)) = [] := by unfold pbR; rw [if_neg (by simpa using e1), tn_ns, tn_ns, notin_cp]
    obtain ⟨n1, hn1⟩ : ∃ k, (cp true B F).length = k := ⟨_, rfl⟩
    obtain ⟨n2, hn2⟩ : ∃ k, (bks F (cp true B F)).length = k := ⟨_, rfl⟩
    rw [hn2] at g1 g2 g3
    have b1 : n1 ≤ 300 := by rw [← hn1]; exact hC.1
    have b2 : F.length ≤ 300 := hF.1
    have b3 : B.length ≤ F.length + 1 := hB.1
    simp only [ns_length] at *
    have H1 : Hid (∀ V, Below w.heap.size w V → Calls Try.prog 13 #[.slice A0 F.length c0, .slice A1 B.length c1] V (IntK V n1 (cp true B F) 0)) := fun V hV => copy_n (ns F) F.length (ns_length F) sz0 (ns B) B.length (ns_length B) sz1 _ 0 eC h0 n1 hn1 A0 A1 c0 c1 nl0 cp0 V (rd0.on hV) (rd1.on hV)
    have H2 : Hid (∀ A c V, Below w.heap.size w V → RdV V V.heap.size A (zc (ns (cp true B F))) → Calls Try.prog 12 #[.slice A0 F.length c0, .slice A n1 c] V (BkN V n2 0 (bks F (cp true B F)) [] 0)) := fun A c V hV r1 => blocks_n (ns F) F.length (ns_length F) sz0 (ns (cp true B F)) n1 (by rw [ns_length, hn1]) (by omega) _ _ 0 f1 f2 e1 n2 0 hn2 rfl A0 A c0 c V (rd0.on hV) r1
    have H3 : Hid (∀ A c c' V, Below w.heap.size w V → RdV V V.heap.size A (zc (ns (bks F (cp true B F)))) → Calls Try.prog 20 #[.slice A n2 c, .slice A1 n2 c'] V fun e w' => e = .returned (.bool true) ∧ Below V.heap.size V w') := fun A c c' V hV r1 => same_n (bks F (cp true B F)) n2 hn2 (by omega) A A1 c c' V r1 (by have := rdv_pre (rd1.on hV) n2; rwa [← g3] at this)
    have t1 : decide ((n2 : Int) > (B.length : Int)) = false := by simp; omega
    have t2 : decide ((B.length : Int) < (n2 : Int)) = false := by simp; omega
    have t3 : IntKind.i64.wrap ((n2 : Int) + 1) = (n2 : Int) + 1 := IntWalk.i64_in _ (by omega)
    have t4 : decide ((B.length : Int) ≤ (n2 : Int) + 1) = true := by simp; omega
    have t5 : (n2 : Int) ≤ (c1 : Int) := by omega
    have t6 : ¬ (c1 : Int) < (n2 : Int) := by omega
    have t7 : (0 : Int) ≤ (n2 : Int) := by omega
    have t8 : n2 ≤ c1 := by omega
    have t9 : decide (B.length < n2) = false := by simp; omega
    have t10 : decide (n2 ≤ B.length) = true := by simp; omega
    have t11 : decide (B.length ≤ n2 + 1) = true := by simp; omega
    have t12 : ¬ ((B.length : Int) < (n2 : Int)) := by omega
    clear rd0 rd1 hF hB g1 g2 g3 eC hC e1 f1 f2 hn1 hn2 h0 h0' hr by0 by1 cp0 cp1 nl0 nl1 sz0 sz1 b3
    generalize bks F (cp true B F) = B2 at *
    generalize cp true B F = C at *
    generalize F.length = k0 at *
    generalize B.length = k1 at *
    go_enter Try.func5, Try.ntmps5
    go_wp2_with fail
    refine (H1.out w HB.out).mono ?_
    rintro e v1 ⟨AC, cC, rfl, -, -, q1, Bq⟩
    replace HB : Hid (Below w.heap.size w v1) := HB.out.trans (Bq.mono HB.out.size)
    clear Bq
    have HRC := Lib.hid q1; clear q1
    go_wp2_with fail
    refine (partsbegun_true _).mono ?_
    rintro e v2 ⟨rfl, Bq⟩
    replace HB : Hid (Below w.heap.size w v2) := HB.out.trans (Bq.mono HB.out.size)
    replace HRC : Hid (RdV v2 v2.heap.size AC (zc (ns C))) := HRC.out.on Bq
    clear Bq
    go_wp2_with fail
    refine (H2.out AC cC _ HB.out HRC.out).mono ?_
    rintro e v3 ⟨AB, cB, AR, cR, rfl, -, -, q1, -, Bq⟩
    replace HB : Hid (Below w.heap.size w v3) := HB.out.trans (Bq.mono HB.out.size)
    replace HRC : Hid (RdV v3 v3.heap.size AC (zc (ns C))) := HRC.out.on Bq
    clear Bq
    have HRB := Lib.hid q1; clear q1
    go_wp2_with fail
    refine (H3.out AB cB _ _ HB.out HRB.out).mono ?_
    rintro e v4 ⟨rfl, Bq⟩
    replace HB : Hid (Below w.heap.size w v4) := HB.out.trans (Bq.mono HB.out.size)
    replace HRC : Hid (RdV v4 v4.heap.size AC (zc (ns C))) := HRC.out.on Bq
    replace HRB : Hid (RdV v4 v4.heap.size AB (zc (ns B2))) := HRB.out.on Bq
    clear Bq
    go_wp2
    go_ret
    exact ⟨rfl, HB.out⟩
  · have eC : cpA xs bs = [] := by unfold cpA; rw [if_pos (by simpa using h0)]
    have H1 : Hid (∀ V, Below w.heap.size w V → Calls Try.prog 13 #[.slice A0 xs.length c0, .slice A1 bs.length c1] V (IntK V 0 [] (cpE xs bs))) := fun V hV => copy_n xs xs.length rfl sz0 bs bs.length rfl sz1 _ _ eC rfl 0 rfl A0 A1 c0 c1 nl0 cp0 V (rd0.on hV) (rd1.on hV)
    generalize cpE xs bs = e0 at *
    have t1 : (e0 != 0) = true := by simpa using h0
    clear rd0 rd1 eC h0 by0 by1 cp0 cp1 nl0 nl1 sz0 sz1
    generalize xs.length = n at *
    generalize bs.length = m at *
    go_enter Try.func5, Try.ntmps5
    go_wp2_with fail
    refine (H1.out w HB.out).mono ?_
    rintro e v1 ⟨AC, cC, rfl, -, -, -, Bq⟩
    replace HB : Hid (Below w.heap.size w v1) := HB.out.trans (Bq.mono HB.out.size)
    clear Bq
    go_wp2_with fail
    refine (partsbegun_true _).mono ?_
    rintro e v2 ⟨rfl, Bq⟩
    replace HB : Hid (Below w.heap.size w v2) := HB.out.trans (Bq.mono HB.out.size)
    clear Bq
    go_wp2
    go_ret
    exact ⟨rfl, HB.out⟩
end Go.Proofs.Ytfcmjjmlijidcaa
