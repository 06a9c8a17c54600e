/- The law PartsSelf: of itself a list is copied whole, without a block; for whatever list. -/
import Derived.Test.YtfcmjjmlijidcaaJQQBegun
namespace Go.Proofs.Ytfcmjjmlijidcaa
set_option maxRecDepth 100000
set_option linter.unusedVariables false
open Go.RowKit Go.Shelf

set_option maxHeartbeats 4000000 in
theorem partsSelf_law (A0 : Option Addr) (c0 : Nat) (xs : List Int) (w : World) (cp0 : xs.length ≤ c0) (nl0 : A0 = none → c0 = 0) (by0 : ∀ x ∈ xs, -9223372036854775808 ≤ x ∧ x ≤ 9223372036854775807) (rd0 : RdV w w.heap.size A0 (zc xs)) (sz0 : xs.length ≤ 9223372036854775807) :
    Calls Try.prog 6 #[.slice A0 xs.length c0] w fun e w' => e = .returned (.bool true) ∧ Below w.heap.size w w' := by
  have HB : Hid (Below w.heap.size w w) := Below.refl _ _
  by_cases h0 : rchk xs = 0
  · obtain ⟨l, rfl, hl⟩ := rchk_zero xs h0
    have e1 : pbE (ns l) (ns l) = 0 := by unfold pbE; rw [h0]; simp
    have e2 : pbE [] (ns l) = 0 := by unfold pbE; rw [h0]; rfl
    have f1 : pbB (ns l) (ns l) = [] := by unfold pbB; rw [if_neg (by simpa using e1), tn_ns, bks_self]
    have f2 : pbR (ns l) (ns l) = [] := by unfold pbR; rw [if_neg (by simpa using e1), tn_ns, notin_self]
    have f3 : pbB [] (ns l) = [] := by unfold pbB; rw [if_neg (by simpa using e2)]; rfl
    have f4 : pbR [] (ns l) = l := by unfold pbR; rw [if_neg (by simpa using e2), tn_ns]; exact notin_nil l
    simp only [ns_length] at *
    have H1 : Hid (∀ V, Below w.heap.size w V → Calls Try.prog 12 #[.slice A0 l.length c0, .slice A0 l.length c0] V (BkN V 0 0 [] [] 0)) := fun V hV => blocks_n (ns l) l.length (ns_length l) sz0 (ns l) l.length (ns_length l) sz0 _ _ 0 f1 f2 e1 0 0 rfl rfl A0 A0 c0 c0 V (rd0.on hV) (rd0.on hV)
    have H2 : Hid (∀ V, Below w.heap.size w V → Calls Try.prog 12 #[.slice none 0 0, .slice A0 l.length c0] V (BkN V 0 l.length [] l 0)) := fun V hV => blocks_n [] 0 rfl (by decide) (ns l) l.length (ns_length l) sz0 _ _ 0 f3 f4 e2 0 l.length rfl rfl none A0 0 c0 V (.inl rfl) (rd0.on hV)
    have H4 : Hid (∀ A c V, Below w.heap.size w V → RdV V V.heap.size A (zc (ns l)) → Calls Try.prog 20 #[.slice A l.length c, .slice A0 l.length c0] V fun e w' => e = .returned (.bool true) ∧ Below V.heap.size V w') := fun A c V hV r1 => same_n l l.length rfl sz0 A A0 c c0 V r1 (rd0.on hV)
    clear rd0 hl e1 e2 f1 f2 f3 f4 h0 by0 cp0 nl0 sz0
    generalize hk : l.length = k at *
    clear hk
    go_enter Try.func6, Try.ntmps6
    go_wp2_with fail
    refine (H1.out w HB.out).mono ?_
    rintro e v1 ⟨AB, cB, AR, cR, rfl, -, -, -, -, Bq⟩
    replace HB : Hid (Below w.heap.size w v1) := HB.out.trans (Bq.mono HB.out.size)
    clear Bq
    go_wp2_with fail
    refine (H2.out _ HB.out).mono ?_
    rintro e v2 ⟨AB2, cB2, AR2, cR2, rfl, -, -, -, q2, Bq⟩
    replace HB : Hid (Below w.heap.size w v2) := HB.out.trans (Bq.mono HB.out.size)
    clear Bq
    have HRR := Lib.hid q2; clear q2
    go_wp2_with fail
    refine (partsbegun_true _).mono ?_
    rintro e v3 ⟨rfl, Bq⟩
    replace HB : Hid (Below w.heap.size w v3) := HB.out.trans (Bq.mono HB.out.size)
    replace HRR : Hid (RdV v3 v3.heap.size AR2 (zc (ns l))) := HRR.out.on Bq
    clear Bq
    go_wp2_with fail
    refine (H4.out AR2 cR2 _ HB.out HRR.out).mono ?_
    rintro e v4 ⟨rfl, Bq⟩
    replace HB : Hid (Below w.heap.size w v4) := HB.out.trans (Bq.mono HB.out.size)
    replace HRR : Hid (RdV v4 v4.heap.size AR2 (zc (ns l))) := HRR.out.on Bq
    clear Bq
    go_wp2
    go_ret
    exact ⟨rfl, HB.out⟩
  · have e1 : pbE xs xs = rchk xs := by unfold pbE; rw [if_pos (by simpa using h0)]
    have e2 : pbE [] xs = rchk xs := by unfold pbE; rfl
    obtain ⟨f1, f2⟩ := pb_no xs xs (by rw [e1]; exact h0)
    obtain ⟨f3, f4⟩ := pb_no [] xs (by rw [e2]; exact h0)
    have H1 : Hid (∀ V, Below w.heap.size w V → Calls Try.prog 12 #[.slice A0 xs.length c0, .slice A0 xs.length c0] V (BkN V 0 0 [] [] (rchk xs))) := fun V hV => blocks_n xs xs.length rfl sz0 xs xs.length rfl sz0 _ _ _ f1 f2 e1 0 0 rfl rfl A0 A0 c0 c0 V (rd0.on hV) (rd0.on hV)
    have H2 : Hid (∀ V, Below w.heap.size w V → Calls Try.prog 12 #[.slice none 0 0, .slice A0 xs.length c0] V (BkN V 0 0 [] [] (rchk xs))) := fun V hV => blocks_n [] 0 rfl (by decide) xs xs.length rfl sz0 _ _ _ f3 f4 e2 0 0 rfl rfl none A0 0 c0 V (.inl rfl) (rd0.on hV)
    generalize rchk xs = e0 at *
    have t1 : (e0 != 0) = true := by simpa using h0
    have t2 : (e0 == e0) = true := by simp
    clear rd0 e1 e2 f1 f2 f3 f4 h0 by0 cp0 nl0 sz0
    generalize xs.length = n at *
    go_enter Try.func6, Try.ntmps6
    go_wp2_with fail
    refine (H1.out w HB.out).mono ?_
    rintro e v1 ⟨AB, cB, AR, cR, rfl, -, -, -, -, Bq⟩
    replace HB : Hid (Below w.heap.size w v1) := HB.out.trans (Bq.mono HB.out.size)
    clear Bq
    go_wp2_with fail
    refine (H2.out _ HB.out).mono ?_
    rintro e v2 ⟨AB2, cB2, AR2, cR2, rfl, -, -, -, -, Bq⟩
    replace HB : Hid (Below w.heap.size w v2) := HB.out.trans (Bq.mono HB.out.size)
    clear Bq
    go_wp2_with fail
    refine (partsbegun_true _).mono ?_
    rintro e v3 ⟨rfl, Bq⟩
    replace HB : Hid (Below w.heap.size w v3) := HB.out.trans (Bq.mono HB.out.size)
    clear Bq
    go_wp2
    go_ret
    exact ⟨rfl, HB.out⟩
end Go.Proofs.Ytfcmjjmlijidcaa
