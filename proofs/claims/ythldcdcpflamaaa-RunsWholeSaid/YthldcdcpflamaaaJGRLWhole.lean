/- The law RunsWhole: numbers one next to the other are one run, if they are enough; else all are left; for whatever three numbers. -/
import Derived.Test.YthldcdcpflamaaaJGRLaw
namespace Go.Proofs.Ythldcdcpflamaaa
set_option maxRecDepth 100000
set_option linter.unusedVariables false
open Go.RowKit Go.Shelf

theorem ris_range (f m : Nat) (h3 : m ≤ 300) (hf : f + m ≤ 1048577) : Rising (List.range' f m) :=
  ⟨by simpa using h3, (ris_pairwise _ _).2 ⟨fun x hx => by have := List.mem_range'_1.1 hx; omega, List.pairwise_lt_range'⟩⟩
theorem okR_one (f m : Nat) (h1 : 1 ≤ m) (h3 : m ≤ 300) (hf : f + m ≤ 1048577) : OkR [(f, m)] :=
  ⟨by simp, ⟨by simp only; omega, h1, trivial⟩, fun p hp => by simp at hp; subst hp; exact ⟨h3, hf⟩⟩
theorem mg_one (f m : Nat) (h1 : 1 ≤ m) (h3 : m ≤ 300) (hf : f + m ≤ 1048577) : mg [(f, m)] [] = (List.range' f m, 0) :=
  mg_of (by simp [flatR, nums]) (ris_range f m h3 hf)
theorem lit_run (w : World) (f m : Nat) : RdV (w.alloc (.cells #[.int .i64 (f : Int), .int .i64 (m : Int)] 60)) (w.alloc (.cells #[.int .i64 (f : Int), .int .i64 (m : Int)] 60)).heap.size (some ⟨w.heap.size, 0, none⟩) (rcs (rz [(f, m)])) := rdr_new w [((f : Int), (m : Int))]
def WhRel (f m : Nat) (w : World) (v p : Value) (wr : World) : Prop :=
  ∃ i : Nat, i ≤ m ∧ p = .int .i64 (i : Int) ∧ wr.ownsRow w.heap.size 3 1 v i (zc (ns (List.range' f i))) ∧ Below w.heap.size w wr

set_option maxHeartbeats 4000000 in
theorem runsWhole_law (f m k : Int) (w : World) (hf : -9223372036854775808 ≤ f ∧ f ≤ 9223372036854775807) (hm : -9223372036854775808 ≤ m ∧ m ≤ 9223372036854775807) (hk : -9223372036854775808 ≤ k ∧ k ≤ 9223372036854775807) :
    Calls Try.prog 14 #[.int .i64 f, .int .i64 m, .int .i64 k] w fun e w' => e = .returned (.bool true) ∧ Below w.heap.size w w' := by
  by_cases h0 : f < 0
  · have t0 : decide (f < 0) = true := by simpa using h0
    go_enter Try.func14, Try.ntmps14
    go_wp2_with fail
    refine (runsbegun_true w).mono ?_
    rintro e w1 ⟨rfl, B1⟩
    have HB := Lib.hid B1; clear B1
    go_wp2
    go_ret
    exact ⟨rfl, HB.out⟩
  have t0 : decide (f < 0) = false := by simp; omega
  replace h0 := Lib.hid h0
  by_cases h1 : m < 1
  · have t1 : decide (m < 1) = true := by simpa using h1
    go_enter Try.func14, Try.ntmps14
    go_wp2_with fail
    refine (runsbegun_true w).mono ?_
    rintro e w1 ⟨rfl, B1⟩
    have HB := Lib.hid B1; clear B1
    go_wp2
    go_ret
    exact ⟨rfl, HB.out⟩
  have t1 : decide (m < 1) = false := by simp; omega
  replace h1 := Lib.hid h1
  by_cases h2 : 300 < m
  · have t2 : decide (300 < m) = true := by simpa using h2
    go_enter Try.func14, Try.ntmps14
    go_wp2_with fail
    refine (runsbegun_true w).mono ?_
    rintro e w1 ⟨rfl, B1⟩
    have HB := Lib.hid B1; clear B1
    go_wp2
    go_ret
    exact ⟨rfl, HB.out⟩
  have t2 : decide (300 < m) = false := by simp; omega
  replace h2 := Lib.hid h2
  have tw1 : IntKind.i64.wrap (1048576 - m) = 1048576 - m := IntWalk.i64_in _ (by have := h1.out; have := h2.out; omega)
  have tw2 : IntKind.i64.wrap (1048576 - m + 1) = 1048576 - m + 1 := IntWalk.i64_in _ (by have := h1.out; have := h2.out; omega)
  by_cases h3 : 1048576 - m + 1 < f
  · have t3 : decide (1048576 - m + 1 < f) = true := by simpa using h3
    go_enter Try.func14, Try.ntmps14
    go_wp2_with fail
    refine (runsbegun_true w).mono ?_
    rintro e w1 ⟨rfl, B1⟩
    have HB := Lib.hid B1; clear B1
    go_wp2
    go_ret
    exact ⟨rfl, HB.out⟩
  have t3 : decide (1048576 - m + 1 < f) = false := by simp; omega
  replace h3 := Lib.hid h3
  by_cases h4 : k < 2
  · have t4 : decide (k < 2) = true := by simpa using h4
    go_enter Try.func14, Try.ntmps14
    go_wp2_with fail
    refine (runsbegun_true w).mono ?_
    rintro e w1 ⟨rfl, B1⟩
    have HB := Lib.hid B1; clear B1
    go_wp2
    go_ret
    exact ⟨rfl, HB.out⟩
  have t4 : decide (k < 2) = false := by simp; omega
  replace h4 := Lib.hid h4
  by_cases h5 : 300 < k
  · have t5 : decide (300 < k) = true := by simpa using h5
    go_enter Try.func14, Try.ntmps14
    go_wp2_with fail
    refine (runsbegun_true w).mono ?_
    rintro e w1 ⟨rfl, B1⟩
    have HB := Lib.hid B1; clear B1
    go_wp2
    go_ret
    exact ⟨rfl, HB.out⟩
  have t5 : decide (300 < k) = false := by simp; omega
  replace h5 := Lib.hid h5
  obtain ⟨F, rfl⟩ : ∃ F : Nat, f = (F : Int) := ⟨f.toNat, by have := h0.out; omega⟩
  obtain ⟨M, rfl⟩ : ∃ M : Nat, m = (M : Int) := ⟨m.toNat, by have := h1.out; omega⟩
  obtain ⟨K, rfl⟩ : ∃ K : Nat, k = (K : Int) := ⟨k.toNat, by have := h4.out; omega⟩
  have b1 : 1 ≤ M := by have := h1.out; omega
  have b2 : M ≤ 300 := by have := h2.out; omega
  have b3 : F + M ≤ 1048577 := by have := h3.out; omega
  have b4 : 2 ≤ K := by have := h4.out; omega
  have b5 : K ≤ 300 := by have := h5.out; omega
  obtain ⟨i0, hi, hz0, hz1, hz2⟩ := info_parts info3
  have hrs := rs_whole F M b1
  have hris := ris_range F M b2 b3
  have HMg : Hid (∀ V : World, Calls Try.prog 32 #[.slice (some ⟨V.heap.size, 0, none⟩) 1 1, .slice none 0 0] (V.alloc (.cells #[.int .i64 (F : Int), .int .i64 (M : Int)] 60)) (IntsN (V.alloc (.cells #[.int .i64 (F : Int), .int .i64 (M : Int)] 60)) M (List.range' F M) 0)) := fun V =>
    merge_i [(F, M)] (okR_one F M b1 b2 b3) _ _ 1 rfl [] ⟨by simp, trivial⟩ (mg_one F M b1 b2 b3) 0 M rfl (by simp) _ none 1 0 (fun _ => rfl) _ (lit_run V F M) (.inl rfl)
  have HSI : Hid (∀ (A1 : Option Addr) (c1 : Nat) (A2 : Option Addr) (c2 : Nat) (V : World), RdV V V.heap.size A1 (zc (ns (List.range' F M))) → RdV V V.heap.size A2 (zc (ns (List.range' F M))) → Calls Try.prog 25 #[.slice A1 M c1, .slice A2 M c2] V fun e w' => e = .returned (.bool true) ∧ Below V.heap.size V w') := fun A1 c1 A2 c2 V h1 h2 => sameI_t _ M (by simp) (by omega) A1 A2 c1 c2 V h1 h2
  have HSR : Hid (∀ (A1 : Option Addr) (c1 : Nat) (V : World), RdV V V.heap.size A1 (rcs (rz [(F, M)])) → Calls Try.prog 37 #[.slice A1 1 c1, .slice (some ⟨V.heap.size, 0, none⟩) 1 1] (V.alloc (.cells #[.int .i64 (F : Int), .int .i64 (M : Int)] 60)) fun e w' => e = .returned (.bool true) ∧ Below (V.alloc (.cells #[.int .i64 (F : Int), .int .i64 (M : Int)] 60)).heap.size (V.alloc (.cells #[.int .i64 (F : Int), .int .i64 (M : Int)] 60)) w') := fun A1 c1 V h1 =>
    sameR_t (rz [(F, M)]) 1 rfl (by decide) A1 _ c1 1 _ (h1.on (one_below V _)) (lit_run V F M)
  have HSp : Hid (∀ (A : Option Addr) (c : Nat) (V : World), M ≤ c → RdV V V.heap.size A (zc (ns (List.range' F M))) → Calls Try.prog 31 #[.slice A M c, .int .i64 (K : Int)] V (SpN V (if K ≤ M then 1 else 0) (if K ≤ M then 0 else M) (rz (if K ≤ M then [(F, M)] else [])) (if K ≤ M then [] else List.range' F M) 0)) := fun A c V h0 h1 => by
    refine split_i (List.range' F M) hris M (by simp) K b4 b5 _ _ ?_ ?_ _ _ ?_ ?_ A c h0 V h1
    · rw [hrs]; unfold lng
      by_cases h : K ≤ M <;> simp [h]
    · rw [hrs]; unfold sht
      by_cases h : K ≤ M
      · have d : decide (M < K) = false := by simp; omega
        simp [h, d, flatR]
      · have d : decide (M < K) = true := by simp; omega
        simp [h, d, flatR, nums]
    · by_cases h : K ≤ M <;> simp [h]
    · by_cases h : K ≤ M <;> simp [h]
  clear hrs hris h0 h1 h2 h3 h4 h5 hf hm hk
  go_enter Try.func14, Try.ntmps14
  go_wp2_with fail
  refine (runsbegun_true w).mono ?_
  rintro e w1 ⟨rfl, B1⟩
  have HB := Lib.hid B1; clear B1
  go_wp2
  go_loopw [7, 8] (fun v p wr => WhRel F M w1 v p wr) (fun _ p _ => M - (intOf p).toNat)
  case atStart => exact ⟨0, Nat.zero_le _, rfl, ⟨rfl, .inl ⟨rfl, rfl⟩⟩, Below.refl _ _⟩
  case round =>
    obtain ⟨i, hi', rfl, hrow, hbel⟩ := hrel
    by_cases hlt : i < M
    · have hzz : zc (ns (List.range' F i)) ++ [Value.int .i64 ((F : Int) + (i : Int))] = zc (ns (List.range' F (i + 1))) := by
        rw [range'_snoc, ns_append, zc_append]
        simp [ns, zc]
      have HZZ := Lib.hid hzz; clear hzz
      have HB2 := Lib.hid hbel; clear hbel
      obtain ⟨Av, cv, rfl⟩ := own_slice3 hrow
      go_wp2_with (at_builtin; refine wpList_append_own _ rfl _ _ 22 rfl w1.heap.size 3 i0 (.int .i64 0) 1 8 Try.underlying22 hi hz0 hz1 hz2 rfl (by decide) _ _ _ rfl (hrow.alloc _) ⟨wr.heap.size, 0, none⟩ 1 1 [.int .i64 ((F : Int) + (i : Int))] rfl rfl (news_row wr [.int .i64 ((F : Int) + (i : Int))] _) (by simp [Value.oneCell']) (by unfold maxLen; omega) (by omega) (by have := HB2.out.size; simp; omega) ?_; intro v' w3 hown' hgrow _)
      rw [HZZ.out] at hown'
      have HO3 := Lib.hid hown'
      have HB3 : Hid (Below w1.heap.size w1 w3) := HB2.out.trans (((Below.refl w1.heap.size wr).alloc HB2.out.size _).trans (grown_low hgrow (hrow.alloc _) (by have := HB2.out.size; simp; omega)))
      clear hown' hgrow hrow
      go_roundw
      case rel => exact ⟨i + 1, by omega, by go_num, HO3.out, HB3.out⟩
      case measure => simp [intOf]; omega
    · obtain rfl : i = M := by omega
      obtain ⟨Av, cv, rfl⟩ := own_slice3 hrow
      have HL := Lib.hid (own_rdv hrow)
      have hcv := own_cap hrow
      replace HB := Lib.hid (HB.out.trans (hbel.mono HB.out.size))
      clear hrow hbel
      by_cases hki : K ≤ i
      · simp only [if_pos hki] at HSp
        have t9 : decide ((i : Int) < (K : Int)) = false := by simp; omega
        have t10 : decide (i < K) = false := by simp; omega
        clear hki
        go_wp2_with fail
        refine (HSp.out Av cv wr hcv HL.out).mono ?_
        rintro e w3 ⟨A2, c2, A3, c3, rfl, -, r2, r3, Bq⟩
        replace HL := Lib.hid (HL.out.on Bq)
        replace HB := Lib.hid (HB.out.trans (Bq.mono HB.out.size))
        have HR2 := Lib.hid r2; have HR3 := Lib.hid r3
        clear Bq r2 r3
        go_wp2_with fail
        refine (HMg.out w3).mono ?_
        rintro e w4 ⟨A4, c4, rfl, -, -, r4, Bq⟩
        rw [World.size_alloc] at Bq
        have Sq : Below w3.heap.size w3 w4 := (one_below w3 _).trans (Bq.mono (Nat.le_succ _))
        replace HL := Lib.hid (HL.out.on Sq)
        replace HR2 := Lib.hid (HR2.out.on Sq)
        replace HR3 := Lib.hid (HR3.out.on Sq)
        replace HB := Lib.hid (HB.out.trans (Sq.mono HB.out.size))
        have HR4 := Lib.hid r4
        clear Bq Sq r4
        go_wp2_with fail
        refine (HSI.out A4 c4 Av cv w4 HR4.out HL.out).mono ?_
        rintro e w5 ⟨rfl, Bq⟩
        replace HL := Lib.hid (HL.out.on Bq)
        replace HR2 := Lib.hid (HR2.out.on Bq)
        replace HR3 := Lib.hid (HR3.out.on Bq)
        replace HB := Lib.hid (HB.out.trans (Bq.mono HB.out.size))
        clear Bq
        go_wp2_with fail
        refine (HSR.out A2 c2 _ HR2.out).mono ?_
        rintro e w6 ⟨rfl, Bq⟩
        rw [World.size_alloc] at Bq
        have Sq := (one_below _ _).trans (Bq.mono (Nat.le_succ _))
        replace HB := Lib.hid (HB.out.trans (Sq.mono HB.out.size))
        clear Bq Sq
        go_wp2
        go_ret
        exact ⟨rfl, HB.out⟩
      · simp only [if_neg hki] at HSp
        have t9 : decide ((i : Int) < (K : Int)) = true := by simp; omega
        have t10 : decide (i < K) = true := by simp; omega
        clear hki
        go_wp2_with fail
        refine (HSp.out Av cv wr hcv HL.out).mono ?_
        rintro e w3 ⟨A2, c2, A3, c3, rfl, -, r2, r3, Bq⟩
        replace HL := Lib.hid (HL.out.on Bq)
        replace HB := Lib.hid (HB.out.trans (Bq.mono HB.out.size))
        have HR2 := Lib.hid r2; have HR3 := Lib.hid r3
        clear Bq r2 r3
        go_wp2_with fail
        refine (HMg.out w3).mono ?_
        rintro e w4 ⟨A4, c4, rfl, -, -, r4, Bq⟩
        rw [World.size_alloc] at Bq
        have Sq : Below w3.heap.size w3 w4 := (one_below w3 _).trans (Bq.mono (Nat.le_succ _))
        replace HL := Lib.hid (HL.out.on Sq)
        replace HR2 := Lib.hid (HR2.out.on Sq)
        replace HR3 := Lib.hid (HR3.out.on Sq)
        replace HB := Lib.hid (HB.out.trans (Sq.mono HB.out.size))
        have HR4 := Lib.hid r4
        clear Bq Sq r4
        go_wp2_with fail
        refine (HSI.out A4 c4 Av cv w4 HR4.out HL.out).mono ?_
        rintro e w5 ⟨rfl, Bq⟩
        replace HL := Lib.hid (HL.out.on Bq)
        replace HR2 := Lib.hid (HR2.out.on Bq)
        replace HR3 := Lib.hid (HR3.out.on Bq)
        replace HB := Lib.hid (HB.out.trans (Bq.mono HB.out.size))
        clear Bq
        go_wp2_with fail
        refine (HSI.out A3 c3 Av cv _ HR3.out HL.out).mono ?_
        rintro e w6 ⟨rfl, Bq⟩
        replace HB := Lib.hid (HB.out.trans (Bq.mono HB.out.size))
        clear Bq
        go_wp2
        go_ret
        exact ⟨rfl, HB.out⟩
end Go.Proofs.Ythldcdcpflamaaa
