/- The law PartsApart: the rest has nothing of the other list; for whatever two lists and whatever number. -/
import Derived.Test.YtfcmjjmlijidcaaJQQBegun
import Derived.Test.YtfcmjjmlijidcaaJQQHas
namespace Go.Proofs.Ytfcmjjmlijidcaa
set_option maxRecDepth 100000
set_option linter.unusedVariables false
open Go.RowKit Go.Shelf

set_option maxHeartbeats 4000000 in
theorem partsApart_law (A0 : Option Addr) (c0 : Nat) (xs : List Int) (A1 : Option Addr) (c1 : Nat) (ys : List Int) (z : Int) (w : World) (cp0 : xs.length ≤ c0) (nl0 : A0 = none → c0 = 0) (by0 : ∀ x ∈ xs, -9223372036854775808 ≤ x ∧ x ≤ 9223372036854775807) (rd0 : RdV w w.heap.size A0 (zc xs)) (sz0 : xs.length ≤ 9223372036854775807) (cp1 : ys.length ≤ c1) (nl1 : A1 = none → c1 = 0) (by1 : ∀ x ∈ ys, -9223372036854775808 ≤ x ∧ x ≤ 9223372036854775807) (rd1 : RdV w w.heap.size A1 (zc ys)) (sz1 : ys.length ≤ 9223372036854775807) (bz : -9223372036854775808 ≤ z ∧ z ≤ 9223372036854775807) :
    Calls Try.prog 8 #[.slice A0 xs.length c0, .slice A1 ys.length c1, .int .i64 z] w fun e w' => e = .returned (.bool true) ∧ Below w.heap.size w w' := by
  have HB : Hid (Below w.heap.size w w) := Below.refl _ _
  by_cases h0 : pbE xs ys = 0
  · obtain ⟨F, l, rfl, rfl, hF, hl, eB, eR⟩ := pb_zero xs ys h0
    obtain ⟨n1, hn1⟩ : ∃ k, (bks F l).length = k := ⟨_, rfl⟩
    obtain ⟨n2, hn2⟩ : ∃ k, (notin F l).length = k := ⟨_, rfl⟩
    obtain ⟨n3, hn3⟩ : ∃ k, (both F l).length = k := ⟨_, rfl⟩
    have b1 : n1 ≤ F.length := by rw [← hn1]; exact bks_len F l
    have b0 : F.length ≤ 300 := hF.1
    have b2 : n2 ≤ 300 := by rw [← hn2]; exact Nat.le_trans (notin_len F l) hl.1
    have b3 : n3 ≤ 300 := by rw [← hn3]; exact (both_rising F l hF).1
    obtain ⟨f1, hf1⟩ : ∃ b, decide (z ∈ ns F) = b := ⟨_, rfl⟩
    obtain ⟨f2, hf2⟩ : ∃ b, decide (z ∈ ns l) = b := ⟨_, rfl⟩
    have mR : decide (z ∈ ns (notin F l)) = (f2 && !f1) := by
      rw [← hf1, ← hf2]
      have : z ∈ ns (notin F l) ↔ z ∈ ns l ∧ ¬ z ∈ ns F := by
        simp only [mem_ns, notin_mem]
        constructor
        · rintro ⟨x, ⟨h1, h2⟩, rfl⟩
          exact ⟨⟨x, h1, rfl⟩, fun ⟨y, hy, e⟩ => h2 (by have : y = x := by omega
                                                        exact this ▸ hy)⟩
        · rintro ⟨⟨x, h1, rfl⟩, h2⟩
          exact ⟨x, ⟨h1, fun h => h2 ⟨x, h, rfl⟩⟩, rfl⟩
      by_cases h1 : z ∈ ns F <;> by_cases h2 : z ∈ ns l <;> simp [this, h1, h2]
    have mC : decide (z ∈ ns (both F l)) = (f1 && f2) := by
      rw [← hf1, ← hf2]
      have : z ∈ ns (both F l) ↔ z ∈ ns F ∧ z ∈ ns l := by
        simp only [mem_ns, both_mem]
        constructor
        · rintro ⟨x, ⟨h1, h2⟩, rfl⟩
          exact ⟨⟨x, h1, rfl⟩, ⟨x, h2, rfl⟩⟩
        · rintro ⟨⟨x, h1, rfl⟩, ⟨y, h2, e⟩⟩
          exact ⟨x, ⟨h1, by have : y = x := by omega
                            exact this ▸ h2⟩, rfl⟩
      by_cases h1 : z ∈ ns F <;> by_cases h2 : z ∈ ns l <;> simp [this, h1, h2]
    simp only [ns_length] at *
    have H1 : Hid (∀ V, Below w.heap.size w V → Calls Try.prog 12 #[.slice A0 F.length c0, .slice A1 l.length c1] V (BkN V n1 n2 (bks F l) (notin F l) 0)) := fun V hV => blocks_n (ns F) F.length (ns_length F) sz0 (ns l) l.length (ns_length l) sz1 _ _ 0 eB eR h0 n1 n2 hn1 hn2 A0 A1 c0 c1 V (rd0.on hV) (rd1.on hV)
    have H3 : Hid (∀ A c V, Below w.heap.size w V → RdV V V.heap.size A (zc (ns (bks F l))) → Calls Try.prog 13 #[.slice A0 F.length c0, .slice A n1 c] V (IntK V n3 (both F l) 0)) := fun A c V hV r1 => copy_n (ns F) F.length (ns_length F) sz0 (ns (bks F l)) n1 (by rw [ns_length, hn1]) (by omega) _ 0 (cpA_bks F l hF).1 (cpA_bks F l hF).2 n3 hn3 A0 A c0 c nl0 cp0 V (rd0.on hV) r1
    have H4 : Hid (∀ V, Below w.heap.size w V → Calls Try.prog 21 #[.slice A0 F.length c0, .int .i64 z] V fun e w' => e = .returned (.bool f1) ∧ Below V.heap.size V w') := fun V hV => (hasI_any (ns F) F.length (ns_length F) sz0 z f1 hf1 A0 c0 V (rd0.on hV)).mono fun e w' h => ⟨h.1, h.2 ▸ Below.refl _ _⟩
    have H5 : Hid (∀ V, Below w.heap.size w V → Calls Try.prog 21 #[.slice A1 l.length c1, .int .i64 z] V fun e w' => e = .returned (.bool f2) ∧ Below V.heap.size V w') := fun V hV => (hasI_any (ns l) l.length (ns_length l) sz1 z f2 hf2 A1 c1 V (rd1.on hV)).mono fun e w' h => ⟨h.1, h.2 ▸ Below.refl _ _⟩
    have H6 : Hid (∀ A c V, RdV V V.heap.size A (zc (ns (notin F l))) → Calls Try.prog 21 #[.slice A n2 c, .int .i64 z] V fun e w' => e = .returned (.bool (f2 && !f1)) ∧ Below V.heap.size V w') := fun A c V hV => (hasI_any (ns (notin F l)) n2 (by rw [ns_length, hn2]) (by omega) z _ mR A c V hV).mono fun e w' h => ⟨h.1, h.2 ▸ Below.refl _ _⟩
    have H7 : Hid (∀ A c V, RdV V V.heap.size A (zc (ns (both F l))) → Calls Try.prog 21 #[.slice A n3 c, .int .i64 z] V fun e w' => e = .returned (.bool (f1 && f2)) ∧ Below V.heap.size V w') := fun A c V hV => (hasI_any (ns (both F l)) n3 (by rw [ns_length, hn3]) (by omega) z _ mC A c V hV).mono fun e w' h => ⟨h.1, h.2 ▸ Below.refl _ _⟩
    have t1 : decide ((n1 : Int) ≤ (F.length : Int)) = true := by simp; omega
    have t2 : decide (n1 ≤ F.length) = true := by simp; omega
    clear rd0 rd1 hF hl eB eR hn1 hn2 hn3 h0 by0 by1 cp0 cp1 nl0 nl1 sz0 sz1 hf1 hf2 mR mC
    generalize bks F l = B at *
    generalize notin F l = R at *
    generalize both F l = C at *
    generalize F.length = k0 at *
    generalize l.length = k1 at *
    clear bz b1
    cases f1 <;> cases f2
    · rw [show (false && !false) = false from rfl] at H6
      rw [show (false && false) = false from rfl] at H7
      go_enter Try.func8, Try.ntmps8
      go_wp2_with fail
      refine (H1.out w HB.out).mono ?_
      rintro e v1 ⟨AB, cB, AR, cR, rfl, -, -, q1, q2, Bq⟩
      replace HB : Hid (Below w.heap.size w v1) := HB.out.trans (Bq.mono HB.out.size)
      clear Bq
      have HRB := Lib.hid q1; clear q1
      have HRR := Lib.hid q2; clear q2
      go_wp2_with fail
      refine (partsbegun_true _).mono ?_
      rintro e v2 ⟨rfl, Bq⟩
      replace HB : Hid (Below w.heap.size w v2) := HB.out.trans (Bq.mono HB.out.size)
      replace HRB : Hid (RdV v2 v2.heap.size AB (zc (ns B))) := HRB.out.on Bq
      replace HRR : Hid (RdV v2 v2.heap.size AR (zc (ns R))) := HRR.out.on Bq
      clear Bq
      go_wp2_with fail
      refine (H3.out AB cB _ HB.out HRB.out).mono ?_
      rintro e v3 ⟨AC, cC, rfl, -, -, q1, Bq⟩
      replace HB : Hid (Below w.heap.size w v3) := HB.out.trans (Bq.mono HB.out.size)
      replace HRB : Hid (RdV v3 v3.heap.size AB (zc (ns B))) := HRB.out.on Bq
      replace HRR : Hid (RdV v3 v3.heap.size AR (zc (ns R))) := HRR.out.on Bq
      clear Bq
      have HRC := Lib.hid q1; clear q1
      go_wp2_with fail
      refine (H6.out AR cR _ HRR.out).mono ?_
      rintro e v4 ⟨rfl, Bq⟩
      replace HB : Hid (Below w.heap.size w v4) := HB.out.trans (Bq.mono HB.out.size)
      replace HRB : Hid (RdV v4 v4.heap.size AB (zc (ns B))) := HRB.out.on Bq
      replace HRR : Hid (RdV v4 v4.heap.size AR (zc (ns R))) := HRR.out.on Bq
      replace HRC : Hid (RdV v4 v4.heap.size AC (zc (ns C))) := HRC.out.on Bq
      clear Bq
      go_wp2_with fail
      refine (H7.out AC cC _ HRC.out).mono ?_
      rintro e v5 ⟨rfl, Bq⟩
      replace HB : Hid (Below w.heap.size w v5) := HB.out.trans (Bq.mono HB.out.size)
      replace HRB : Hid (RdV v5 v5.heap.size AB (zc (ns B))) := HRB.out.on Bq
      replace HRR : Hid (RdV v5 v5.heap.size AR (zc (ns R))) := HRR.out.on Bq
      replace HRC : Hid (RdV v5 v5.heap.size AC (zc (ns C))) := HRC.out.on Bq
      clear Bq
      go_wp2_with fail
      refine (H4.out _ HB.out).mono ?_
      rintro e v6 ⟨rfl, Bq⟩
      replace HB : Hid (Below w.heap.size w v6) := HB.out.trans (Bq.mono HB.out.size)
      replace HRB : Hid (RdV v6 v6.heap.size AB (zc (ns B))) := HRB.out.on Bq
      replace HRR : Hid (RdV v6 v6.heap.size AR (zc (ns R))) := HRR.out.on Bq
      replace HRC : Hid (RdV v6 v6.heap.size AC (zc (ns C))) := HRC.out.on Bq
      clear Bq
      go_wp2
      go_ret
      exact ⟨rfl, HB.out⟩
    · rw [show (true && !false) = true from rfl] at H6
      rw [show (false && true) = false from rfl] at H7
      go_enter Try.func8, Try.ntmps8
      go_wp2_with fail
      refine (H1.out w HB.out).mono ?_
      rintro e v1 ⟨AB, cB, AR, cR, rfl, -, -, q1, q2, Bq⟩
      replace HB : Hid (Below w.heap.size w v1) := HB.out.trans (Bq.mono HB.out.size)
      clear Bq
      have HRB := Lib.hid q1; clear q1
      have HRR := Lib.hid q2; clear q2
      go_wp2_with fail
      refine (partsbegun_true _).mono ?_
      rintro e v2 ⟨rfl, Bq⟩
      replace HB : Hid (Below w.heap.size w v2) := HB.out.trans (Bq.mono HB.out.size)
      replace HRB : Hid (RdV v2 v2.heap.size AB (zc (ns B))) := HRB.out.on Bq
      replace HRR : Hid (RdV v2 v2.heap.size AR (zc (ns R))) := HRR.out.on Bq
      clear Bq
      go_wp2_with fail
      refine (H3.out AB cB _ HB.out HRB.out).mono ?_
      rintro e v3 ⟨AC, cC, rfl, -, -, q1, Bq⟩
      replace HB : Hid (Below w.heap.size w v3) := HB.out.trans (Bq.mono HB.out.size)
      replace HRB : Hid (RdV v3 v3.heap.size AB (zc (ns B))) := HRB.out.on Bq
      replace HRR : Hid (RdV v3 v3.heap.size AR (zc (ns R))) := HRR.out.on Bq
      clear Bq
      have HRC := Lib.hid q1; clear q1
      go_wp2_with fail
      refine (H6.out AR cR _ HRR.out).mono ?_
      rintro e v4 ⟨rfl, Bq⟩
      replace HB : Hid (Below w.heap.size w v4) := HB.out.trans (Bq.mono HB.out.size)
      replace HRB : Hid (RdV v4 v4.heap.size AB (zc (ns B))) := HRB.out.on Bq
      replace HRR : Hid (RdV v4 v4.heap.size AR (zc (ns R))) := HRR.out.on Bq
      replace HRC : Hid (RdV v4 v4.heap.size AC (zc (ns C))) := HRC.out.on Bq
      clear Bq
      go_wp2_with fail
      refine (H4.out _ HB.out).mono ?_
      rintro e v5 ⟨rfl, Bq⟩
      replace HB : Hid (Below w.heap.size w v5) := HB.out.trans (Bq.mono HB.out.size)
      replace HRB : Hid (RdV v5 v5.heap.size AB (zc (ns B))) := HRB.out.on Bq
      replace HRR : Hid (RdV v5 v5.heap.size AR (zc (ns R))) := HRR.out.on Bq
      replace HRC : Hid (RdV v5 v5.heap.size AC (zc (ns C))) := HRC.out.on Bq
      clear Bq
      go_wp2_with fail
      refine (H7.out AC cC _ HRC.out).mono ?_
      rintro e v6 ⟨rfl, Bq⟩
      replace HB : Hid (Below w.heap.size w v6) := HB.out.trans (Bq.mono HB.out.size)
      replace HRB : Hid (RdV v6 v6.heap.size AB (zc (ns B))) := HRB.out.on Bq
      replace HRR : Hid (RdV v6 v6.heap.size AR (zc (ns R))) := HRR.out.on Bq
      replace HRC : Hid (RdV v6 v6.heap.size AC (zc (ns C))) := HRC.out.on Bq
      clear Bq
      go_wp2_with fail
      refine (H4.out _ HB.out).mono ?_
      rintro e v7 ⟨rfl, Bq⟩
      replace HB : Hid (Below w.heap.size w v7) := HB.out.trans (Bq.mono HB.out.size)
      replace HRB : Hid (RdV v7 v7.heap.size AB (zc (ns B))) := HRB.out.on Bq
      replace HRR : Hid (RdV v7 v7.heap.size AR (zc (ns R))) := HRR.out.on Bq
      replace HRC : Hid (RdV v7 v7.heap.size AC (zc (ns C))) := HRC.out.on Bq
      clear Bq
      go_wp2
      go_ret
      exact ⟨rfl, HB.out⟩
    · rw [show (false && !true) = false from rfl] at H6
      rw [show (true && false) = false from rfl] at H7
      go_enter Try.func8, Try.ntmps8
      go_wp2_with fail
      refine (H1.out w HB.out).mono ?_
      rintro e v1 ⟨AB, cB, AR, cR, rfl, -, -, q1, q2, Bq⟩
      replace HB : Hid (Below w.heap.size w v1) := HB.out.trans (Bq.mono HB.out.size)
      clear Bq
      have HRB := Lib.hid q1; clear q1
      have HRR := Lib.hid q2; clear q2
      go_wp2_with fail
      refine (partsbegun_true _).mono ?_
      rintro e v2 ⟨rfl, Bq⟩
      replace HB : Hid (Below w.heap.size w v2) := HB.out.trans (Bq.mono HB.out.size)
      replace HRB : Hid (RdV v2 v2.heap.size AB (zc (ns B))) := HRB.out.on Bq
      replace HRR : Hid (RdV v2 v2.heap.size AR (zc (ns R))) := HRR.out.on Bq
      clear Bq
      go_wp2_with fail
      refine (H3.out AB cB _ HB.out HRB.out).mono ?_
      rintro e v3 ⟨AC, cC, rfl, -, -, q1, Bq⟩
      replace HB : Hid (Below w.heap.size w v3) := HB.out.trans (Bq.mono HB.out.size)
      replace HRB : Hid (RdV v3 v3.heap.size AB (zc (ns B))) := HRB.out.on Bq
      replace HRR : Hid (RdV v3 v3.heap.size AR (zc (ns R))) := HRR.out.on Bq
      clear Bq
      have HRC := Lib.hid q1; clear q1
      go_wp2_with fail
      refine (H6.out AR cR _ HRR.out).mono ?_
      rintro e v4 ⟨rfl, Bq⟩
      replace HB : Hid (Below w.heap.size w v4) := HB.out.trans (Bq.mono HB.out.size)
      replace HRB : Hid (RdV v4 v4.heap.size AB (zc (ns B))) := HRB.out.on Bq
      replace HRR : Hid (RdV v4 v4.heap.size AR (zc (ns R))) := HRR.out.on Bq
      replace HRC : Hid (RdV v4 v4.heap.size AC (zc (ns C))) := HRC.out.on Bq
      clear Bq
      go_wp2_with fail
      refine (H7.out AC cC _ HRC.out).mono ?_
      rintro e v5 ⟨rfl, Bq⟩
      replace HB : Hid (Below w.heap.size w v5) := HB.out.trans (Bq.mono HB.out.size)
      replace HRB : Hid (RdV v5 v5.heap.size AB (zc (ns B))) := HRB.out.on Bq
      replace HRR : Hid (RdV v5 v5.heap.size AR (zc (ns R))) := HRR.out.on Bq
      replace HRC : Hid (RdV v5 v5.heap.size AC (zc (ns C))) := HRC.out.on Bq
      clear Bq
      go_wp2_with fail
      refine (H4.out _ HB.out).mono ?_
      rintro e v6 ⟨rfl, Bq⟩
      replace HB : Hid (Below w.heap.size w v6) := HB.out.trans (Bq.mono HB.out.size)
      replace HRB : Hid (RdV v6 v6.heap.size AB (zc (ns B))) := HRB.out.on Bq
      replace HRR : Hid (RdV v6 v6.heap.size AR (zc (ns R))) := HRR.out.on Bq
      replace HRC : Hid (RdV v6 v6.heap.size AC (zc (ns C))) := HRC.out.on Bq
      clear Bq
      go_wp2_with fail
      refine (H5.out _ HB.out).mono ?_
      rintro e v7 ⟨rfl, Bq⟩
      replace HB : Hid (Below w.heap.size w v7) := HB.out.trans (Bq.mono HB.out.size)
      replace HRB : Hid (RdV v7 v7.heap.size AB (zc (ns B))) := HRB.out.on Bq
      replace HRR : Hid (RdV v7 v7.heap.size AR (zc (ns R))) := HRR.out.on Bq
      replace HRC : Hid (RdV v7 v7.heap.size AC (zc (ns C))) := HRC.out.on Bq
      clear Bq
      go_wp2
      go_ret
      exact ⟨rfl, HB.out⟩
    · rw [show (true && !true) = false from rfl] at H6
      rw [show (true && true) = true from rfl] at H7
      go_enter Try.func8, Try.ntmps8
      go_wp2_with fail
      refine (H1.out w HB.out).mono ?_
      rintro e v1 ⟨AB, cB, AR, cR, rfl, -, -, q1, q2, Bq⟩
      replace HB : Hid (Below w.heap.size w v1) := HB.out.trans (Bq.mono HB.out.size)
      clear Bq
      have HRB := Lib.hid q1; clear q1
      have HRR := Lib.hid q2; clear q2
      go_wp2_with fail
      refine (partsbegun_true _).mono ?_
      rintro e v2 ⟨rfl, Bq⟩
      replace HB : Hid (Below w.heap.size w v2) := HB.out.trans (Bq.mono HB.out.size)
      replace HRB : Hid (RdV v2 v2.heap.size AB (zc (ns B))) := HRB.out.on Bq
      replace HRR : Hid (RdV v2 v2.heap.size AR (zc (ns R))) := HRR.out.on Bq
      clear Bq
      go_wp2_with fail
      refine (H3.out AB cB _ HB.out HRB.out).mono ?_
      rintro e v3 ⟨AC, cC, rfl, -, -, q1, Bq⟩
      replace HB : Hid (Below w.heap.size w v3) := HB.out.trans (Bq.mono HB.out.size)
      replace HRB : Hid (RdV v3 v3.heap.size AB (zc (ns B))) := HRB.out.on Bq
      replace HRR : Hid (RdV v3 v3.heap.size AR (zc (ns R))) := HRR.out.on Bq
      clear Bq
      have HRC := Lib.hid q1; clear q1
      go_wp2_with fail
      refine (H6.out AR cR _ HRR.out).mono ?_
      rintro e v4 ⟨rfl, Bq⟩
      replace HB : Hid (Below w.heap.size w v4) := HB.out.trans (Bq.mono HB.out.size)
      replace HRB : Hid (RdV v4 v4.heap.size AB (zc (ns B))) := HRB.out.on Bq
      replace HRR : Hid (RdV v4 v4.heap.size AR (zc (ns R))) := HRR.out.on Bq
      replace HRC : Hid (RdV v4 v4.heap.size AC (zc (ns C))) := HRC.out.on Bq
      clear Bq
      go_wp2_with fail
      refine (H7.out AC cC _ HRC.out).mono ?_
      rintro e v5 ⟨rfl, Bq⟩
      replace HB : Hid (Below w.heap.size w v5) := HB.out.trans (Bq.mono HB.out.size)
      replace HRB : Hid (RdV v5 v5.heap.size AB (zc (ns B))) := HRB.out.on Bq
      replace HRR : Hid (RdV v5 v5.heap.size AR (zc (ns R))) := HRR.out.on Bq
      replace HRC : Hid (RdV v5 v5.heap.size AC (zc (ns C))) := HRC.out.on Bq
      clear Bq
      go_wp2_with fail
      refine (H4.out _ HB.out).mono ?_
      rintro e v6 ⟨rfl, Bq⟩
      replace HB : Hid (Below w.heap.size w v6) := HB.out.trans (Bq.mono HB.out.size)
      replace HRB : Hid (RdV v6 v6.heap.size AB (zc (ns B))) := HRB.out.on Bq
      replace HRR : Hid (RdV v6 v6.heap.size AR (zc (ns R))) := HRR.out.on Bq
      replace HRC : Hid (RdV v6 v6.heap.size AC (zc (ns C))) := HRC.out.on Bq
      clear Bq
      go_wp2_with fail
      refine (H5.out _ HB.out).mono ?_
      rintro e v7 ⟨rfl, Bq⟩
      replace HB : Hid (Below w.heap.size w v7) := HB.out.trans (Bq.mono HB.out.size)
      replace HRB : Hid (RdV v7 v7.heap.size AB (zc (ns B))) := HRB.out.on Bq
      replace HRR : Hid (RdV v7 v7.heap.size AR (zc (ns R))) := HRR.out.on Bq
      replace HRC : Hid (RdV v7 v7.heap.size AC (zc (ns C))) := HRC.out.on Bq
      clear Bq
      go_wp2
      go_ret
      exact ⟨rfl, HB.out⟩
  · obtain ⟨eB, eR⟩ := pb_no xs ys h0
    have H1 : Hid (∀ V, Below w.heap.size w V → Calls Try.prog 12 #[.slice A0 xs.length c0, .slice A1 ys.length c1] V (BkN V 0 0 [] [] (pbE xs ys))) := fun V hV => blocks_n xs xs.length rfl sz0 ys ys.length rfl sz1 _ _ _ eB eR rfl 0 0 rfl rfl A0 A1 c0 c1 V (rd0.on hV) (rd1.on hV)
    generalize pbE xs ys = e0 at *
    have t1 : (e0 != 0) = true := by simpa using h0
    clear rd0 rd1 eB eR h0 by0 by1 cp0 cp1 nl0 nl1 sz0 sz1 bz
    generalize xs.length = n at *
    generalize ys.length = m at *
    go_enter Try.func8, Try.ntmps8
    go_wp2_with fail
    refine (H1.out w HB.out).mono ?_
    rintro e v1 ⟨AB, cB, AR, cR, rfl, -, -, -, -, Bq⟩
    replace HB : Hid (Below w.heap.size w v1) := HB.out.trans (Bq.mono HB.out.size)
    clear Bq
    go_wp2_with fail
    refine (partsbegun_true _).mono ?_
    rintro e v2 ⟨rfl, Bq⟩
    replace HB : Hid (Below w.heap.size w v2) := HB.out.trans (Bq.mono HB.out.size)
    clear Bq
    go_wp2
    go_ret
    exact ⟨rfl, HB.out⟩
end Go.Proofs.Ytfcmjjmlijidcaa
