/- The law CorePairs: pairs are neighbours, each of one pair, and no two that are left are; so of any pairs there are no more than twice as many; for whatever graph and list. -/
import Derived.Test.YtnbjhldpadjgfaaCoJ
import Derived.Test.YtnbjhldpadjgfaaOpen
import Derived.Test.YtnbjhldpadjgfaaNMem
import Derived.Test.YtnbjhldpadjgfaaWChk
import Derived.Deep.Matrix
import Derived.Deep.SlicePairs
import Derived.SizedLaws
namespace Go.Proofs.Ytnbjhldpadjgfaa

section
set_option maxRecDepth 100000
set_option linter.unusedVariables false
open Go.RowKit Go.Shelf

/-- Is node i paired with a lesser one, by another list? -/
def opB (f : Nat → Nat → Bool) (xs : List Int) (i : Nat) : Bool := decide (0 ≤ xs[i]?.getD 0) && (decide (xs[i]?.getD 0 < (i : Int)) && (decide (xs[i]?.getD 0 < (xs.length : Int)) && (decide (xs[(xs[i]?.getD 0).toNat]?.getD 0 = (i : Int)) && f i (xs[i]?.getD 0).toNat)))
theorem flt_succ (q : Nat → Bool) (i : Nat) : ((List.range (i + 1)).filter q).length = ((List.range i).filter q).length + (if q i = true then 1 else 0) := by
  rw [List.range_succ, List.filter_append, List.length_append]
  congr 1
  by_cases h : q i = true
  · rw [if_pos h, List.filter_cons, if_pos h]; rfl
  · rw [if_neg h, List.filter_cons, if_neg h]; rfl
theorem flt_le (q : Nat → Bool) (i : Nat) : ((List.range i).filter q).length ≤ i := Nat.le_trans (List.length_filter_le _ _) (by simp)
theorem op_twice {f : Nat → Nat → Bool} {N : Nat} (hs : ∀ i m, f i m = f m i) {W : List Int} (h : Pg f N (cpr f N) W) (xs : List Int) (i : Nat) (hi : i ≤ N) : ((List.range i).filter (opB f xs)).length ≤ ((List.range N).filter fun i => decide (0 ≤ iv W i)).length := by
  refine h.twice hs _ (List.nodup_range.sublist List.filter_sublist) (fun j => (xs[j]?.getD 0).toNat) fun j hj => ?_
  obtain ⟨h1, h2⟩ := List.mem_filter.1 hj
  have h3 := List.mem_range.1 h1
  unfold opB at h2
  simp only [Bool.and_eq_true, decide_eq_true_eq] at h2
  obtain ⟨a, b, c, d, e⟩ := h2
  refine ⟨by omega, by omega, ?_, e⟩
  show (xs[(xs[j]?.getD 0).toNat]?.getD 0).toNat = j
  rw [d]; rfl
set_option maxHeartbeats 8000000 in
theorem corePairs_law (A : Option Addr) (c : Nat) (R : List Rw) (Ao : Option Addr) (co : Nat) (xo : List Int) (w : World) (hA : RdG w w.heap.size A R) (hn : R.length ≤ 140737488355328) (hcp : xo.length ≤ co) (hnl : Ao = none → co = 0) (hby : ∀ x ∈ xo, -9223372036854775808 ≤ x ∧ x ≤ 9223372036854775807) (hO : RdV w w.heap.size Ao (zc xo)) (hsz : xo.length ≤ 9223372036854775807) :
    Calls Try.prog 11 #[.agg #[.slice A R.length c], .slice Ao xo.length co] w fun e w' => e = .returned (.bool true) ∧ Below w.heap.size w w' := by
  clear hcp hnl hby
  obtain ⟨M, hM⟩ : ∃ M, xo.length = M := ⟨_, rfl⟩
  rw [hM] at hsz ⊢
  have HMx := Lib.hid hM; clear hM
  have HO := Lib.hid hO; clear hO
  obtain ⟨N, hN⟩ : ∃ N, R.length = N := ⟨_, rfl⟩
  rw [hN] at hn ⊢
  by_cases e0 : grE (gs R) = 0
  · obtain ⟨g, hg, hok⟩ := grE_zero _ e0
    have hgl : g.length = N := by have := congrArg List.length hg; rw [gs_length, List.length_map] at this; omega
    have hN1 : N ≤ 100 := by have := hok.nodes; omega
    have HOk : Hid (GOk g ∧ g.length = N) := ⟨hok, hgl⟩
    have HG0 := Lib.hid hg
    have HPa := Lib.hid (lw_pai R g hg hok N hgl)
    have HNe : Hid (∀ i j, i < N → j < N → ∀ V, RdG V V.heap.size A R → Calls Try.prog 32 #[.agg #[.slice A N c], .int .i64 (i : Int), .int .i64 (j : Int)] V fun e w' => e = .returned (.bool (near g i j)) ∧ Below V.heap.size V w') := fun i j hi hj V hV => lw_near R g hg N hgl A c i j hi hj V hV
    have HPg : Hid (Pg (near g) N (cpr (near g) N) (pairing (near g) N)) := pairing_ok (near_comm g) N
    have HSy : Hid (∀ i m, near g i m = near g m i) := near_comm g
    clear e0 hN hn hg hok hgl
    obtain ⟨f, hf⟩ : ∃ f, near g = f := ⟨_, rfl⟩
    rw [hf] at HPa HNe HPg HSy
    clear hf
    have HTw : Hid (∀ i, i ≤ N → ((List.range i).filter (opB f xo)).length ≤ ((List.range N).filter fun i => decide (0 ≤ iv (pairing f N) i)).length) := fun i hi => op_twice HSy.out HPg.out xo i hi
    generalize pairing f N = P at *
    have HB : Hid (Below w.heap.size w w) := Below.refl _ w
    have HR := Lib.hid hA; clear hA
    go_enter Try.func11, Try.ntmps11
    have HBq : Hid (Below w.heap.size w (w.alloc (.cells #[.slice A N c] 24))) := one_below _ _
    replace HB : Hid (Below w.heap.size w (w.alloc (.cells #[.slice A N c] 24))) := HB.out.trans (HBq.out.mono HB.out.size)
    replace HR : Hid (RdG (w.alloc (.cells #[.slice A N c] 24)) ((w.alloc (.cells #[.slice A N c] 24))).heap.size A R) := HR.out.on HBq.out
    replace HO : Hid (RdV (w.alloc (.cells #[.slice A N c] 24)) ((w.alloc (.cells #[.slice A N c] 24))).heap.size Ao (zc xo)) := HO.out.on HBq.out
    clear HBq
    have K0 : Hid (((w.alloc (.cells #[.slice A N c] 24))).cell? ⟨w.heap.size, 0, none⟩ = some (.slice A N c)) := (cell_at (World.alloc_heap_new w _) 0).trans rfl
    have HC := Lib.hid (HPa.out A c _ HR.out)
    have k_K0 := K0.out
    go_wp2_with fail
    clear k_K0
    refine HC.out.mono ?_
    rintro e w1 ⟨b1, rfl, q1, bq⟩
    clear HC
    have HBc := Lib.hid bq; clear bq
    have HBq : Hid (Below (w.alloc (.cells #[.slice A N c] 24)).heap.size (w.alloc (.cells #[.slice A N c] 24)) w1) := HBc.out
    replace HB : Hid (Below w.heap.size w w1) := HB.out.trans (HBq.out.mono HB.out.size)
    replace HR : Hid (RdG w1 (w1).heap.size A R) := HR.out.on HBq.out
    replace HO : Hid (RdV w1 (w1).heap.size Ao (zc xo)) := HO.out.on HBq.out
    replace K0 : Hid ((w1).cell? ⟨w.heap.size, 0, none⟩ = some (.slice A N c)) := (HBq.out.cell (World.block_lt_of_cell? _ _ K0.out)).trans K0.out
    clear HBq
    clear HBc
    have Q1 : Hid (RdV w1 (w1).heap.size (some ⟨b1, 0, none⟩) (zc P)) := q1
    clear q1
    have HC := Lib.hid (corebegun_true w1)
    go_wp2_with fail
    refine HC.out.mono ?_
    rintro e w2 ⟨rfl, bq⟩
    clear HC
    have HBc := Lib.hid bq; clear bq
    have HBq : Hid (Below w1.heap.size w1 w2) := HBc.out
    replace HB : Hid (Below w.heap.size w w2) := HB.out.trans (HBq.out.mono HB.out.size)
    replace HR : Hid (RdG w2 (w2).heap.size A R) := HR.out.on HBq.out
    replace HO : Hid (RdV w2 (w2).heap.size Ao (zc xo)) := HO.out.on HBq.out
    replace K0 : Hid ((w2).cell? ⟨w.heap.size, 0, none⟩ = some (.slice A N c)) := (HBq.out.cell (World.block_lt_of_cell? _ _ K0.out)).trans K0.out
    replace Q1 : Hid (RdV w2 (w2).heap.size (some ⟨b1, 0, none⟩) (zc P)) := Q1.out.on HBq.out
    clear HBq
    clear HBc
    obtain ⟨Ba, hBa⟩ : ∃ Ba, w.heap.size = Ba := ⟨_, rfl⟩
    have HV : Hid (∀ V, Below w2.heap.size w2 V → V.cell? ⟨Ba, 0, none⟩ = some (.slice A N c) ∧ RdG V V.heap.size A R ∧ RdV V V.heap.size (some ⟨b1, 0, none⟩) (zc P) ∧ RdV V V.heap.size Ao (zc xo) ∧ Below w.heap.size w V) := fun V hV => ⟨by rw [← hBa]; exact (hV.cell (World.block_lt_of_cell? _ _ K0.out)).trans K0.out, HR.out.on hV, Q1.out.on hV, HO.out.on hV, HB.out.trans (hV.mono HB.out.size)⟩
    have k00 := K0.out
    rw [hBa] at k00
    clear K0 HR Q1 HO HB HPa
    go_wp2
    clear hBa k00
    go_loopw [7, 8] (fun s p wr => ∃ i : Nat, i ≤ N ∧ s = .int .i64 ((((List.range i).filter fun i => decide (0 ≤ iv P i)).length : Nat) : Int) ∧ p = .int .i64 (i : Int) ∧ Below w2.heap.size w2 wr) (fun _ p _ => N - (intOf p).toNat)
    case atStart => exact ⟨0, Nat.zero_le _, rfl, rfl, Below.refl _ _⟩
    case round =>
     as_aux_lemma =>
      obtain ⟨i, hi, rfl, rfl, hb⟩ := hrel
      have hfl := flt_le (fun i => decide (0 ≤ iv P i)) i
      by_cases hlt : i < N
      · have hfs := flt_succ (fun i => decide (0 ≤ iv P i)) i
        have HFs := Lib.hid hfs
        clear hfs
        obtain ⟨s, hs⟩ : ∃ s, ((List.range i).filter fun i => decide (0 ≤ iv P i)).length = s := ⟨_, rfl⟩
        rw [hs] at hfl HFs ⊢
        clear hs
        obtain ⟨k0, hr, hq, -, -⟩ := HV.out _ hb
        have k1 := rd_ati hq HPg.out.len hlt
        have hval := HPg.out.val i hlt
        have HBi := Lib.hid hb
        have t1 : (0 : Int) ≤ (i : Int) := by omega
        have t2 : (i : Int) < (N : Int) := by omega
        -- the inner loop, from whatever world
        rcases hval with h1 | ⟨j, hj, hji, hij, hji2, hfij⟩
        · rw [h1] at k1
          have HFs2 : Hid (((List.range (i + 1)).filter fun i => decide (0 ≤ iv P i)).length = s) := by show _ = _; rw [HFs.out, h1]; rfl
          have H1 := Lib.hid h1
          clear HFs hr hq hb h1
          have t3 : decide ((0 : Int) ≤ -1) = false := by decide
          have t4 : decide ((N : Int) ≤ -1) = false := by simp; omega
          go_wp2
          go_loopw [9] (fun p wq => ∃ k : Nat, k ≤ i ∧ p = .int .i64 (k : Int) ∧ Below w2.heap.size w2 wq) (fun p _ => i - (intOf p).toNat)
          case atStart => exact ⟨0, Nat.zero_le _, rfl, HBi.out⟩
          case round =>
           as_aux_lemma =>
            obtain ⟨k, hk, rfl, hb⟩ := hrel
            by_cases hki : k < i
            · obtain ⟨k2, hr, hq, -, -⟩ := HV.out _ hb
              have k3 := rd_ati hq HPg.out.len hlt
              rw [H1.out] at k3
              have k4 := rd_ati hq HPg.out.len (show k < N by omega)
              have hng := HPg.out.neg (show k < N by omega)
              have hlf := fun q => HPg.out.left HSy.out hlt hki H1.out q
              have HC := Lib.hid (HNe.out i k hlt (by omega) _ hr)
              have HBk := Lib.hid hb
              have HLf := Lib.hid hlf
              have t5 : (0 : Int) ≤ (k : Int) := by omega
              have t6 : (k : Int) < (N : Int) := by omega
              have t6i : (k : Int) < (i : Int) := by omega
              clear hr hq hb hlf
              generalize iv P k = v at *
              by_cases hv : v < 0
              · have HF : Hid (f i k = false) := HLf.out (hng.1 hv)
                rw [HF.out] at HC
                have t7 : decide (v < 0) = true := decide_eq_true hv
                clear hng hv
                go_wp2_with fail
                refine HC.out.mono ?_
                rintro e w4 ⟨rfl, b4⟩
                have HB4 : Hid (Below w2.heap.size w2 w4) := HBk.out.trans (b4.mono HBk.out.size)
                clear b4 HC k2 k3 k4
                go_wp2
                go_roundw
                case rel => exact ⟨k + 1, by omega, by go_num, HB4.out⟩
                case measure => simp [intOf]; omega
              · have t7 : decide (v < 0) = false := decide_eq_false hv
                clear hng hv HC
                go_wp2
                go_roundw
                case rel => exact ⟨k + 1, by omega, by go_num, HBk.out⟩
                case measure => simp [intOf]; omega
            · obtain rfl : k = i := by omega
              have HBk := Lib.hid hb
              clear hb
              go_wp2
              go_roundw
              case rel => exact ⟨k + 1, by omega, by rw [HFs2.out], by go_num, HBk.out⟩
              case measure => simp [intOf]; omega
        · rw [hij] at k1
          have k2 := rd_ati hq HPg.out.len hj
          rw [hji2] at k2
          have HFs2 : Hid (((List.range (i + 1)).filter fun i => decide (0 ≤ iv P i)).length = s + 1) := by show _ = _; rw [HFs.out, hij]; simp
          have H1 := Lib.hid hij
          have HCn : Hid (∀ V, Below w2.heap.size w2 V → Calls Try.prog 32 #[.agg #[.slice A N c], .int .i64 (i : Int), .int .i64 (j : Int)] V fun e w' => e = .returned (.bool true) ∧ Below V.heap.size V w') := fun V hV => by
            have := HNe.out i j hlt hj V (HV.out V hV).2.1
            rwa [hfij] at this
          have HKc : Hid (∀ V, Below w2.heap.size w2 V → V.cell? ⟨Ba, 0, none⟩ = some (.slice A N c) ∧ V.cell? ⟨b1, i, none⟩ = some (.int .i64 (j : Int)) ∧ V.cell? ⟨b1, j, none⟩ = some (.int .i64 (i : Int))) := fun V hV => by
            obtain ⟨a1, a2, a3, -⟩ := HV.out V hV
            have a4 := rd_ati a3 HPg.out.len hlt
            have a5 := rd_ati a3 HPg.out.len hj
            rw [H1.out] at a4
            rw [hji2] at a5
            exact ⟨a1, a4, a5⟩
          clear HFs hr hq hb hij hji2 hfij
          have t3 : decide ((0 : Int) ≤ (j : Int)) = true := by simp
          have t4 : decide ((N : Int) ≤ (j : Int)) = false := by simp; omega
          have t4n : decide (N ≤ j) = false := by simp; omega
          have t5 : (0 : Int) ≤ (j : Int) := by omega
          have t6 : (j : Int) < (N : Int) := by omega
          have t7 : ((i : Int) != (i : Int)) = false := by simp
          have t8 : ((i : Int) == (i : Int)) = true := by simp
          go_wp2_with fail
          rename_i hKK
          have HKK := Lib.hid hKK; clear hKK
          go_region_held3 (fun w' => w'.cell? ⟨Ba, 0, none⟩ = some (.slice A N c) ∧ w'.cell? ⟨b1, i, none⟩ = some (.int .i64 (j : Int)) ∧ w'.cell? ⟨b1, j, none⟩ = some (.int .i64 (i : Int)))
            ((first | exact HKc.out _ HBi.out.drew | exact HKc.out _ HB4.out))
            ((first | (go_at_call 32; refine (HCn.out _ HBi.out.drew).mono ?_; rintro e w4 ⟨rfl, b4⟩; have HB4 : Hid (Below w2.heap.size w2 w4) := HBi.out.drew.trans (b4.mono HBi.out.size); clear b4)))
          clear HKc HCn k0 k1 k2
          refine HKK.out _ _ ?_
          clear HKK
          go_wp2
          go_loopw [9] (fun p wq => ∃ k : Nat, k ≤ i ∧ p = .int .i64 (k : Int) ∧ Below w2.heap.size w2 wq) (fun p _ => i - (intOf p).toNat)
          case atStart => exact ⟨0, Nat.zero_le _, rfl, HB4.out⟩
          case round =>
           as_aux_lemma =>
            obtain ⟨k, hk, rfl, hb⟩ := hrel
            by_cases hki : k < i
            · obtain ⟨k2, hr, hq, -, -⟩ := HV.out _ hb
              have k3 := rd_ati hq HPg.out.len hlt
              rw [H1.out] at k3
              have HBk := Lib.hid hb
              have t9 : decide ((j : Int) < 0) = false := by simp
              clear hr hq hb
              go_wp2
              go_roundw
              case rel => exact ⟨k + 1, by omega, by go_num, HBk.out⟩
              case measure => simp [intOf]; omega
            · obtain rfl : k = i := by omega
              have HBk := Lib.hid hb
              clear hb
              go_wp2
              go_roundw
              case rel => exact ⟨k + 1, by omega, by rw [HFs2.out]; go_num, by go_num, HBk.out⟩
              case measure => simp [intOf]; omega
      · obtain rfl : i = N := by omega
        have HMany := Lib.hid HTw.out
        obtain ⟨many, hmany⟩ : ∃ many, ((List.range i).filter fun i => decide (0 ≤ iv P i)).length = many := ⟨_, rfl⟩
        rw [hmany] at HMany hfl ⊢
        have HBi := Lib.hid hb
        clear hmany hb HTw
        go_wp2
        go_loopw [10, 11] (fun s p wr => ∃ k : Nat, k ≤ i ∧ s = .int .i64 ((((List.range k).filter (opB f xo)).length : Nat) : Int) ∧ p = .int .i64 (k : Int) ∧ Below w2.heap.size w2 wr) (fun _ p _ => i - (intOf p).toNat)
        case atStart => exact ⟨0, Nat.zero_le _, rfl, rfl, HBi.out⟩
        case round =>
         as_aux_lemma =>
          obtain ⟨k, hk, rfl, rfl, hb⟩ := hrel
          have hsm := HMany.out k hk
          have HSc := flt_succ (opB f xo) k
          have HSn := Lib.hid HSc
          clear HSc
          have hfk := flt_le (opB f xo) k
          generalize ((List.range k).filter (opB f xo)).length = s at *
          have t1 : (0 : Int) ≤ (k : Int) := by omega
          by_cases hkM : k < M
          · have t2 : (k : Int) < (M : Int) := by omega
            have t2n : decide (k < M) = true := by simpa using hkM
            by_cases hki : k < i
            · have t3 : (k : Int) < (i : Int) := by omega
              have t3n : decide (k < i) = true := by simpa using hki
              obtain ⟨k0, hr, -, ho, -⟩ := HV.out _ hb
              have hkx : k < xo.length := by rw [HMx.out]; exact hkM
              obtain ⟨b, off, rfl, -, k1⟩ := ho.at_ (zc_get xo k hkx)
              have HBk := Lib.hid hb
              have HOp : Hid (opB f xo k = (decide (0 ≤ xo[k]?.getD 0) && (decide (xo[k]?.getD 0 < (k : Int)) && (decide (xo[k]?.getD 0 < (M : Int)) && (decide (xo[(xo[k]?.getD 0).toNat]?.getD 0 = (k : Int)) && f k (xo[k]?.getD 0).toNat))))) := by show _ = _; unfold opB; rw [HMx.out]
              have HOat : Hid (∀ j : Nat, j < M → wr.cell? ⟨b, off + j, none⟩ = some (.int .i64 (xo[j]?.getD 0))) := fun j hj => by
                obtain ⟨b', off', e, -, k2⟩ := ho.at_ (zc_get xo j (by rw [HMx.out]; exact hj))
                simp only [Option.some.injEq, Addr.mk.injEq, and_true] at e
                obtain ⟨rfl, rfl⟩ := e
                exact k2
              have HRr := Lib.hid hr
              clear hb ho hr hkx
              generalize xo[k]?.getD 0 = v at *
              have HNo : Hid (opB f xo k = false → ((List.range (k + 1)).filter (opB f xo)).length = s) := fun q => by rw [HSn.out, q]; rfl
              have HYes : Hid (opB f xo k = true → ((List.range (k + 1)).filter (opB f xo)).length = s + 1) := fun q => by rw [HSn.out, q]; rfl
              by_cases h1 : 0 ≤ v
              · have u1 : decide (0 ≤ v) = true := decide_eq_true h1
                obtain ⟨j, rfl⟩ := Int.eq_ofNat_of_zero_le h1
                rw [Int.toNat_natCast] at HOp
                by_cases h2 : j < k
                · have u2 : decide ((j : Int) < (k : Int)) = true := by simp; omega
                  have u2n : decide (j < k) = true := by simpa using h2
                  by_cases h3 : j < M
                  · have u3 : decide ((j : Int) < (M : Int)) = true := by simp; omega
                    have u3n : decide (j < M) = true := by simpa using h3
                    have u3z : (j : Int) < (M : Int) := by omega
                    have k2 := HOat.out j h3
                    generalize xo[j]?.getD 0 = z at *
                    by_cases h4 : z = (k : Int)
                    · subst h4
                      have u4 : ((k : Int) == (k : Int)) = true := by simp
                      have HC := Lib.hid (HNe.out k j hki (by omega) _ HRr.out)
                      have HOp2 : Hid (opB f xo k = f k j) := by show _ = _; rw [HOp.out]; simp [u2n, u3n]
                      generalize f k j = q at *
                      clear h1
                      go_wp2_with fail
                      refine HC.out.mono ?_
                      rintro e w4 ⟨rfl, b4⟩
                      have HB4 : Hid (Below w2.heap.size w2 w4) := HBk.out.trans (b4.mono HBk.out.size)
                      clear b4 HC k0 k1 k2
                      cases q with
                      | true =>
                        have HE := Lib.hid (HYes.out HOp2.out)
                        go_wp2
                        go_roundw
                        case rel => exact ⟨k + 1, by omega, by rw [HE.out]; go_num, by go_num, HB4.out⟩
                        case measure => simp [intOf]; omega
                      | false =>
                        have HE := Lib.hid (HNo.out HOp2.out)
                        go_wp2
                        go_roundw
                        case rel => exact ⟨k + 1, by omega, by rw [HE.out], by go_num, HB4.out⟩
                        case measure => simp [intOf]; omega
                    · have u4 : (z == (k : Int)) = false := by simpa using h4
                      have HE := Lib.hid (HNo.out (by rw [HOp.out, decide_eq_false h4]; simp))
                      clear h1 h4
                      go_wp2
                      go_roundw
                      case rel => exact ⟨k + 1, by omega, by rw [HE.out], by go_num, HBk.out⟩
                      case measure => simp [intOf]; omega
                  · have u3 : decide ((j : Int) < (M : Int)) = false := by simp; omega
                    have u3n : decide (j < M) = false := by simpa using h3
                    have HE := Lib.hid (HNo.out (by rw [HOp.out, u3]; simp))
                    clear h1
                    go_wp2
                    go_roundw
                    case rel => exact ⟨k + 1, by omega, by rw [HE.out], by go_num, HBk.out⟩
                    case measure => simp [intOf]; omega
                · have u2 : decide ((j : Int) < (k : Int)) = false := by simp; omega
                  have u2n : decide (j < k) = false := by simpa using h2
                  have HE := Lib.hid (HNo.out (by rw [HOp.out, u2]; simp))
                  clear h1
                  go_wp2
                  go_roundw
                  case rel => exact ⟨k + 1, by omega, by rw [HE.out], by go_num, HBk.out⟩
                  case measure => simp [intOf]; omega
              · have u1 : decide (0 ≤ v) = false := decide_eq_false h1
                have HE := Lib.hid (HNo.out (by rw [HOp.out, u1]; simp))
                clear h1
                go_wp2
                go_roundw
                case rel => exact ⟨k + 1, by omega, by rw [HE.out], by go_num, HBk.out⟩
                case measure => simp [intOf]; omega
            · have t3 : decide ((k : Int) < (i : Int)) = false := by simp; omega
              have t3n : decide (k < i) = false := by simpa using hki
              have HF := Lib.hid (HV.out _ hb).2.2.2.2
              have t4 : decide ((s : Int) ≤ (many : Int)) = true := by simp; omega
              have t4n : decide (s ≤ many) = true := by simpa using hsm
              clear hb
              go_wp2
              go_ret
              exact ⟨rfl, HF.out⟩
          · have t2 : decide ((k : Int) < (M : Int)) = false := by simp; omega
            have t2n : decide (k < M) = false := by simpa using hkM
            have HF := Lib.hid (HV.out _ hb).2.2.2.2
            have t4 : decide ((s : Int) ≤ (many : Int)) = true := by simp; omega
            have t4n : decide (s ≤ many) = true := by simpa using hsm
            clear hb
            go_wp2
            go_ret
            exact ⟨rfl, HF.out⟩
  · have HPa := Lib.hid (lw_pai_e R N hN hn _ rfl e0)
    have t1 : (grE (gs R) == 0) = false := by simpa using e0
    have u1 : (grE (gs R) != 0) = true := by simpa using e0
    clear e0 hN hn
    generalize grE (gs R) = e1 at *
    have HB : Hid (Below w.heap.size w w) := Below.refl _ w
    have HR := Lib.hid hA; clear hA
    go_enter Try.func11, Try.ntmps11
    have HBq : Hid (Below w.heap.size w (w.alloc (.cells #[.slice A N c] 24))) := one_below _ _
    replace HB : Hid (Below w.heap.size w (w.alloc (.cells #[.slice A N c] 24))) := HB.out.trans (HBq.out.mono HB.out.size)
    replace HR : Hid (RdG (w.alloc (.cells #[.slice A N c] 24)) ((w.alloc (.cells #[.slice A N c] 24))).heap.size A R) := HR.out.on HBq.out
    clear HBq
    have K0 : Hid (((w.alloc (.cells #[.slice A N c] 24))).cell? ⟨w.heap.size, 0, none⟩ = some (.slice A N c)) := (cell_at (World.alloc_heap_new w _) 0).trans rfl
    have HC := Lib.hid (HPa.out A c _ HR.out)
    have k_K0 := K0.out
    go_wp2_with fail
    clear k_K0
    refine HC.out.mono ?_
    rintro e w1 ⟨rfl, bq⟩
    clear HC
    have HBc := Lib.hid bq; clear bq
    have HBq : Hid (Below (w.alloc (.cells #[.slice A N c] 24)).heap.size (w.alloc (.cells #[.slice A N c] 24)) w1) := HBc.out
    replace HB : Hid (Below w.heap.size w w1) := HB.out.trans (HBq.out.mono HB.out.size)
    replace HR : Hid (RdG w1 (w1).heap.size A R) := HR.out.on HBq.out
    replace K0 : Hid ((w1).cell? ⟨w.heap.size, 0, none⟩ = some (.slice A N c)) := (HBq.out.cell (World.block_lt_of_cell? _ _ K0.out)).trans K0.out
    clear HBq
    clear HBc
    have HC := Lib.hid (corebegun_true w1)
    go_wp2_with fail
    refine HC.out.mono ?_
    rintro e w2 ⟨rfl, bq⟩
    clear HC
    have HBc := Lib.hid bq; clear bq
    have HBq : Hid (Below w1.heap.size w1 w2) := HBc.out
    replace HB : Hid (Below w.heap.size w w2) := HB.out.trans (HBq.out.mono HB.out.size)
    replace HR : Hid (RdG w2 (w2).heap.size A R) := HR.out.on HBq.out
    replace K0 : Hid ((w2).cell? ⟨w.heap.size, 0, none⟩ = some (.slice A N c)) := (HBq.out.cell (World.block_lt_of_cell? _ _ K0.out)).trans K0.out
    clear HBq
    clear HBc
    go_wp2
    go_ret
    exact ⟨rfl, HB.out⟩
end

section
section
open Go.ChangeShapes Go.WideShapes Go.ChangeAt Go.RowKit Go.Joins

theorem cells3i : Try.prog.cellsOf 3 = 1 := by kernel_rfl

set_option maxRecDepth 100000 in
/-- Numbers that were handed in. -/
theorem open_zs {H : Type} {enc : TypeId × Value → H} {W : World} {base : Nat} {v : Value} {d : DataW H} {p : List MemPlace}
    (hv : Value.okWide Try.prog W .any base 25 v) (h : DataW.Trod enc Try.prog W 0 (fun _ => true) true 25 v d p) :
    ∃ (A : Option Addr) (c : Nat) (xs : List Int), v = .slice A xs.length c ∧ xs.length ≤ c ∧ (A = none → c = 0) ∧ RdV W W.heap.size A (zc xs) ∧ (∀ x ∈ xs, -9223372036854775808 ≤ x ∧ x ≤ 9223372036854775807) ∧ xs.length ≤ 9223372036854775807 := by
  obtain ⟨a0, len0, cap0, rfl⟩ := okWide_slice Try.underlying25 hv
  obtain ⟨fuel, hf⟩ := h
  rcases open_ints Try.underlying25 Try.underlying3 cells3i hf with ⟨hcs, _⟩ | ⟨x, l, c, zs, hcs, _, hl, hm, hz, _, hcell, hwz⟩
  · simp [Value.cells] at hcs
    obtain ⟨rfl, rfl, rfl⟩ := hcs
    exact ⟨none, 0, [], rfl, by simp, fun _ => rfl, .inl rfl, by simp, by simp⟩
  · simp [Value.cells] at hcs
    obtain ⟨rfl, rfl, rfl⟩ := hcs
    have hzc : zs.length = cap0 := by simpa using hz
    have hlen : (zs.take len0).length = len0 := by rw [List.length_take]; omega
    unfold maxLen at hm
    refine ⟨some x, cap0, zs.take len0, by rw [hlen], by rw [hlen]; exact hl, (fun h => by cases h), ?_, ?_, by rw [hlen]; omega⟩
    · rcases Nat.eq_zero_or_pos len0 with h0 | h0
      · left; rw [h0]; rfl
      · obtain ⟨b, off, rfl, hc⟩ := ints_at hcell (by omega)
        refine .inr ⟨b, off, rfl, lt_of_cell (hc 0 (by omega)), fun i v hi => ?_⟩
        have hil : i < len0 := by
          rcases Nat.lt_or_ge i len0 with h | h
          · exact h
          · rw [List.getElem?_eq_none (by rw [zc_length, hlen]; exact h)] at hi; cases hi
        rw [zc_get _ i (by rw [hlen]; exact hil)] at hi
        cases hi
        rw [hc i (by omega)]
        have hz0 : zs.getD i 0 = zs[i]'(by omega) := by rw [List.getD_eq_getElem?_getD, List.getElem?_eq_getElem (by omega)]; rfl
        have e1 : (zs.take len0)[i]?.getD 0 = zs[i]'(by omega) := by
          rw [List.getElem?_take_of_lt hil, List.getElem?_eq_getElem (by omega)]; rfl
        rw [e1, hz0]
    · intro n hn
      exact bounds_i64 (hwz n (List.mem_of_mem_take hn))
end

section
open Go.ChangeShapes Go.WideShapes Go.ChangeAt Go.RowKit Go.Joins Go.Deep

theorem cellsG : Try.prog.cellsOf 24 = 1 := by kernel_rfl
theorem cellsL1 : Try.prog.cellsOf 25 = 1 := by kernel_rfl
theorem cellsL2 : Try.prog.cellsOf 22 = 1 := by kernel_rfl
theorem bytesL1 : Try.prog.bytesOf 25 = 24 := by kernel_rfl
theorem bytesI1 : Try.prog.bytesOf 3 = 8 := by kernel_rfl
theorem weightsAll_mem {H : Type} {P : Program} {e : TypeId} {n : Nat} : ∀ {l : List (DataW H)} {d : DataW H}, d ∈ l → n ∈ d.weights P e → n ∈ DataW.weightsAll P e l
  | x :: t, d, hd, hn => by
    simp only [DataW.weightsAll, List.mem_append]
    rcases List.mem_cons.1 hd with rfl | h
    · exact .inl hn
    · exact .inr (weightsAll_mem h hn)
theorem add_plG (b off k : Nat) : (⟨b, off, none⟩ : Addr).add k = ⟨b, off + k, none⟩ := by unfold Addr.add; split <;> simp_all
theorem zc_mem {l : List Int} {i : Nat} {v : Value} (h : (zc l)[i]? = some v) : ∃ hi : i < l.length, v = .int .i64 l[i] := by
  unfold zc at h
  rw [List.getElem?_map] at h
  obtain ⟨x, hx, rfl⟩ := Option.map_eq_some_iff.1 h
  obtain ⟨hi, rfl⟩ := List.getElem?_eq_some_iff.1 hx
  exact ⟨hi, rfl⟩
set_option maxRecDepth 100000 in
/-- A graph that was handed in. -/
theorem open_graph {H : Type} {enc : TypeId × Value → H} {W : World} {base : Nat} {v : Value} {d : DataW H} {p : List MemPlace}
    (hv : Value.okWide Try.prog W .any base 24 v) (h : DataW.Trod enc Try.prog W 0 (fun _ => true) true 24 v d p)
    (hz : ∀ n ∈ d.weights Try.prog 24, n ≤ reachBytes) :
    ∃ (A : Option Addr) (c : Nat) (R : List Rw), v = .agg #[.slice A R.length c] ∧ RdG W W.heap.size A R ∧ R.length ≤ 140737488355328 := by
  obtain ⟨cs, rfl, hsz⟩ := okWide_struct Try.underlying24 hv
  obtain ⟨c0, rfl⟩ := Array.size_eq_one_iff.1 (hsz.trans cellsG)
  obtain ⟨fuel, hf⟩ := h
  obtain ⟨y0, n, hx, _, h0⟩ := trod_struct1 Try.underlying24 hf
  simp only [Prod.mk.injEq] at hx
  obtain ⟨rfl, rfl⟩ := hx
  simp [Value.cells, cellsL2] at h0
  have hz0 : ∀ n ∈ y0.1.weights Try.prog 22, n ≤ reachBytes := fun n hn => hz n (by
    unfold DataW.weights
    rw [Try.underlying24]
    simp only [List.map_cons, List.map_nil, DataW.weightsEach, List.append_nil]
    exact hn)
  have hrb := reachBytes_lt
  rcases open_int_rows Try.underlying22 Try.underlying25 Try.underlying3 cellsL1 cells3i h0 with ⟨hcs, _⟩ | ⟨a, len, cap, A, L, C, Z, hcs, _, hl, hm, hx, hrow⟩
  · simp at hcs
    subst hcs
    exact ⟨none, 0, [], rfl, ⟨.inl rfl, fun r hr => by simp at hr⟩, by simp⟩
  · simp at hcs
    subst hcs
    rw [hx] at hz0
    have hlen : (len + (cap - len)) * 24 ≤ reachBytes := hz0 _ (by
      simp only [DataW.weights, Try.underlying22, List.length_map, List.length_range, bytesL1]
      exact List.mem_cons_self)
    have hrl : ∀ r, r < len → L r ≤ 140737488355328 := fun r hr => by
      obtain ⟨_, q1, q2, q3, _, q5, _⟩ := hrow r (by omega)
      cases hA : A r with
      | none => rw [q5 hA] at q1; omega
      | some a' =>
        have := hz0 (((Z r).take (L r)).length * 8 + ((Z r).drop (L r)).length * 8) (by
          simp only [DataW.weights, Try.underlying22, List.length_map, List.length_range, bytesL1]
          refine List.mem_cons_of_mem _ (List.mem_append.2 (.inl (weightsAll_mem (List.mem_map.2 ⟨r, List.mem_range.2 hr, rfl⟩) ?_)))
          unfold intRow
          rw [hA]
          simp only [DataW.weights, Try.underlying25, bytesI1, lits, List.length_map]
          refine List.mem_cons.2 (.inl ?_)
          omega)
        rw [List.length_take] at this
        omega
    refine ⟨some a, cap, (List.range len).map fun r => (A r, C r, (Z r).take (L r)), by simp, ⟨?_, ?_⟩, by simp; omega⟩
    · rcases Nat.eq_zero_or_pos len with h0 | h0
      · left; rw [h0]; rfl
      · obtain ⟨b, off, spot⟩ := a
        have hspot : spot = none := by simpa [Addr.add] using World.cell?_spot (hrow 0 (by omega)).1
        subst hspot
        refine .inr ⟨b, off, rfl, ?_, fun i v hi => ?_⟩
        · have := (hrow 0 (by omega)).1
          exact lt_of_cell (p := ⟨b, off + 0, none⟩) (by rw [← add_plG]; exact this)
        · unfold rcl at hi
          rw [List.getElem?_map, List.getElem?_map] at hi
          obtain ⟨y, hy, rfl⟩ := Option.map_eq_some_iff.1 hi
          obtain ⟨j, hj, rfl⟩ := Option.map_eq_some_iff.1 hy
          obtain ⟨hil, rfl⟩ := List.getElem?_eq_some_iff.1 hj
          rw [List.length_range] at hil
          have := hrow i (by omega)
          rw [add_plG] at this
          simp only [List.getElem_range]
          unfold sl
          simp only [List.length_take]
          rw [this.1]
          have e : min (L i) (Z i).length = L i := by have q1 := this.2.1; have q2 := this.2.2.2.1; omega
          rw [e]
    · intro r hr
      obtain ⟨i, hi, rfl⟩ := List.mem_map.1 hr
      have hil := List.mem_range.1 hi
      obtain ⟨q0, q1, q2, q3, q4, q5, q6⟩ := hrow i (by omega)
      refine ⟨?_, by simp only [List.length_take]; have := hrl i hil; omega⟩
      simp only
      rcases Nat.eq_zero_or_pos (L i) with h0 | h0
      · left; rw [h0]; rfl
      · cases hA : A i with
        | none => rw [q5 hA] at q1; omega
        | some a' =>
          obtain ⟨_, q7⟩ := q6 a' hA
          obtain ⟨b, off, spot⟩ := a'
          have hspot : spot = none := by simpa [Addr.add] using World.cell?_spot (q7 0 (by omega))
          subst hspot
          refine .inr ⟨b, off, rfl, ?_, fun j v hj => ?_⟩
          · have := q7 0 (by omega)
            exact lt_of_cell (p := ⟨b, off + 0, none⟩) (by rw [← add_plG]; exact this)
          · obtain ⟨hjl, rfl⟩ := zc_mem hj
            have hjl2 : j < L i := by rw [List.length_take] at hjl; omega
            have := q7 j (by omega)
            rw [add_plG] at this
            rw [this]
            simp [List.getD_eq_getElem?_getD, List.getElem?_eq_getElem (show j < (Z i).length by omega)]
end
end

section
open Go.ChangeShapes Go.WideShapes Go.ChangeAt Go.RowKit
open Go.ChangeMaps (open_string shut_string)

set_option linter.unusedVariables false
set_option maxRecDepth 100000 in
theorem corePairs_lifted (os : Os) (started : os.Started) (H : Type) (enc : TypeId × Value → H) :
    ReturnsInHanded {} Try.checked os 11 .any (Rows.corePairsSpec.pre6 enc Try.prog Try.f11 Rows.corePairsRow.domain false) (Rows.corePairsSpec.post enc Try.prog Try.f11 false true false false) := by
  refine returnsInHanded_of_change_sized (C := Try.checked) own started (by kernel_rfl) Try.func11
    (ChangeSpec.witness6 (enc := enc) (C := Try.checked) false ⟨#[], #[.agg #[.slice none 0 0], .slice none 0 0], []⟩ 8 (by kernel_rfl) (by kernel_rfl) (by kernel_rfl) (by kernel_rfl)) ?_
  intro W base args ds gs before hval0 hW hcnd hzz _
  have hval : ∀ (j : Nat) t v, Try.f11.params[j]? = some t → args[j]? = some v → Value.okWide Try.prog W .any base t v := hval0
  have hW' := hW
  obtain ⟨p, q, hA0, hV, rfl, hfz, hnd⟩ := hW
  have hA : DataW.TrodAll enc Try.prog W 0 (fun _ => true) true Try.f11.params.toList args.toList ds p := hA0
  rw [Try.params11] at hA hval hzz
  obtain ⟨v0, vs0, d0, ds0, p0, q0, hargs, rfl, rfl, h0, r0⟩ := trodAll_cons hA
  obtain ⟨v1, vs1, d1, ds1, p1, q1, rfl, rfl, rfl, h1, r1⟩ := trodAll_cons r0
  obtain ⟨rfl, rfl, rfl⟩ := trodAll_nil r1
  obtain rfl : args = #[v0, v1] := by cases args; simp_all
  obtain ⟨rfl, rfl⟩ := trodVars_none hV
  have k0 := h0
  have lt0 : ∀ x ∈ p0, x.block < W.heap.size := by obtain ⟨m, hm⟩ := k0; exact DataW.trod_lt m _ _ _ hm
  obtain ⟨A0, c0, R0, rfl, rd0, nn0⟩ := open_graph (hval 0 24 v0 rfl rfl) h0 (fun n hn => of_decide_eq_true (List.all_eq_true.1 hzz n (DataW.weights_mem_each (j := 0) (t := 24) (d := d0) rfl rfl n hn)))
  have k1 := h1
  have lt1 : ∀ x ∈ p1, x.block < W.heap.size := by obtain ⟨m, hm⟩ := k1; exact DataW.trod_lt m _ _ _ hm
  obtain ⟨A1, c1, xs1, rfl, cp1, nl1, rd1, by1, sz1⟩ := open_zs (hval 1 25 v1 rfl rfl) h1
  clear hA0 hval0
  refine (corePairs_law A0 c0 R0 A1 c1 xs1 W rd0 nn0 cp1 nl1 by1 rd1 sz1).mono fun e W' ⟨he, bel⟩ => ?_
  subst he
  exact ⟨_, rfl, _, _, _, [], _, [], hW', trodAll_mk1 (shut_bool Try.underlying4 _), (trodAll_cons_mk (Below.trod laidOut (by kernel_rfl) (of_decide_eq_true (by kernel_rfl)) k0 bel lt0) (trodAll_cons_mk (Below.trod laidOut (by kernel_rfl) (of_decide_eq_true (by kernel_rfl)) k1 bel lt1) trodAll_mk0)), rfl, bel.frame _, fun h => by cases h⟩

theorem CorePairs_holds : Rows.CorePairsSaid :=
  OpenClaim.holds_of_wide 11 Try.f11 rfl rfl rfl rfl rfl rfl rfl ⟨rfl, rfl, rfl, rfl, rfl⟩ rfl rfl rfl rfl rfl (by kernel_rfl) Try.func11 (by kernel_rfl)
    (of_decide_eq_true (by kernel_rfl)) (by unfold Func.isWrapper; first | (rw [if_pos (by decide +kernel)]; kernel_rfl) | (rw [if_neg (by decide +kernel)]; exact ⟨rfl, rfl⟩))
    (fun os started H enc _ => corePairs_lifted os started H enc)
#print axioms CorePairs_holds
end
end Go.Proofs.Ytnbjhldpadjgfaa
