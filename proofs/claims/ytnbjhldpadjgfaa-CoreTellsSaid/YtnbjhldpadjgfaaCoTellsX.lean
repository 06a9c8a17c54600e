/- The document's reference for what is right of a graph (GraphCheck), for whatever graph. -/
import Derived.Test.YtnbjhldpadjgfaaWEnd
import Derived.Test.YtnbjhldpadjgfaaCoJ
import Derived.Test.YtnbjhldpadjgfaaOpen
import Derived.Test.YtnbjhldpadjgfaaNMem
import Derived.Test.YtnbjhldpadjgfaaWChk
import Derived.Deep.Matrix
import Derived.Deep.SlicePairs
import Derived.SizedLaws
namespace Go.Proofs.Ytnbjhldpadjgfaa

section
set_option maxRecDepth 100000
set_option linter.unusedVariables false
open Go.RowKit Go.Shelf

theorem gs_cons (x : Rw) (t : List Rw) : gs (x :: t) = x.2.2 :: gs t := rfl
set_option maxHeartbeats 8000000 in
theorem refgchk_any (R : List Rw) (N : Nat) (hN : R.length = N) (hN2 : N ≤ 140737488355328) (A : Option Addr) (c : Nat) (w : World) (h : RdG w w.heap.size A R) :
    Calls Try.prog 26 #[.agg #[.slice A N c]] w fun e w' => e = .returned (.int .i64 (grE (gs R))) ∧ Below w.heap.size w w' := by
  obtain ⟨w1, hw1⟩ : ∃ w1, w.alloc (.cells #[.slice A N c] 24) = w1 := ⟨_, rfl⟩
  have hs0 : w1.heap.size = w.heap.size + 1 := by rw [← hw1]; exact World.size_alloc _ _
  have hs1 : w1.heap.size ≤ w.heap.size + 1 ∧ w.heap.size + 1 ≤ w1.heap.size := by omega
  clear hs0
  have hb1 : Below w.heap.size w w1 := hw1 ▸ one_below w _
  have kg1 : w1.cell? ⟨w.heap.size, 0, none⟩ = some (.slice A N c) := by rw [← hw1]; exact (cell_at (World.alloc_heap_new w _) 0).trans rfl
  have HH := Lib.hid (⟨hN, h.on hb1, kg1, hb1⟩ : R.length = N ∧ RdG w1 w1.heap.size A R ∧ w1.cell? ⟨w.heap.size, 0, none⟩ = some (.slice A N c) ∧ Below w.heap.size w w1)
  have HW := Lib.hid hw1
  have hbd := sumL_bd R (fun r hr => (h.2 r hr).2)
  rw [hN] at hbd
  obtain ⟨E, hE⟩ : ∃ E, grE (gs R) = E := ⟨_, rfl⟩
  have hgl : (gs R).length = N := by rw [gs_length]; exact hN
  rw [hE]
  unfold grE at hE
  rw [hgl] at hE
  clear hgl hN h hw1
  by_cases h100 : 100 < N
  · rw [if_pos h100] at hE
    subst hE
    have t1 : decide ((100 : Int) < (N : Int)) = true := by simp; omega
    have HB := Lib.hid hb1
    go_enter Try.func26, Try.ntmps26
    go_wp2
    rw [HW.out]
    go_ret
    exact ⟨rfl, HB.out⟩
  · rw [if_neg h100] at hE
    have HE := Lib.hid hE
    have t1 : decide ((100 : Int) < (N : Int)) = false := by simp; omega
    clear hE hb1 kg1
    go_enter Try.func26, Try.ntmps26
    go_wp2
    rw [HW.out]
    go_loopw [4, 5] (fun q p wr => ∃ i m : Nat, i ≤ N ∧ p = .int .i64 (i : Int) ∧ q = .int .i64 (m : Int) ∧ firstE (rsE (N : Int)) (gs R) = firstE (rsE (N : Int)) (gs (R.drop i)) ∧ m + sumL (gs (R.drop i)) = sumL (gs R) ∧ Below w1.heap.size w1 wr) (fun _ p _ => N - (intOf p).toNat)
    case atStart => exact ⟨0, 0, Nat.zero_le _, rfl, rfl, rfl, by simp, Below.refl _ _⟩
    case round =>
      obtain ⟨i, m, hi, rfl, rfl, hfe, hsm, hbel⟩ := hrel
      by_cases hlt : i < N
      · have hil : i < R.length := by rw [HH.out.1]; exact hlt
        rw [drop_rw R i hil, gs_cons] at hfe hsm
        rw [sumL_cons] at hsm
        rw [firstE_cons] at hfe
        obtain ⟨b, off, hA, hb0, k0'⟩ := HH.out.2.1.1.at_ (rcl_get R i hil)
        have hrd := HH.out.2.1.2 _ (rw_mem R i hil)
        generalize R[i]?.getD (none, 0, []) = x at *
        obtain ⟨A1, c1, xs⟩ := x
        unfold sl at k0'
        simp only at k0' hrd hfe hsm
        subst hA
        obtain ⟨n, hn⟩ : ∃ n, xs.length = n := ⟨_, rfl⟩
        rw [hn] at k0' hsm
        have HFs := Lib.hid (⟨hfe, hsm, hn⟩ : _ ∧ _ ∧ _)
        have hm1 : m + n ≤ 14073748835532800 := by omega
        have HBl := Lib.hid hbel
        have HRd := Lib.hid hrd
        have HK0 := Lib.hid (⟨hb0, k0'⟩ : _ ∧ _)
        have kg := (hbel.cell (p := ⟨w.heap.size, 0, none⟩) (by show w.heap.size < _; omega)).trans HH.out.2.2.1
        have t2 : (0 : Int) ≤ (i : Int) := by omega
        have t3 : (i : Int) < (N : Int) := by omega
        clear hfe hsm hn hbel hrd hb0 k0'
        go_wp2
        go_loopw [4, 6] (fun q p wq => ∃ (j : Nat) (v : Int), j ≤ n ∧ p = .int .i64 (j : Int) ∧ q = .int .i64 ((m + j : Nat) : Int) ∧ rsE (N : Int) xs = eachS (ckO (okG (N : Int))) id v (xs.drop j) ∧ ((j = 0 ∧ v = -1) ∨ (0 < j ∧ xs[j - 1]? = some v)) ∧ Below w1.heap.size w1 wq) (fun _ p _ => n - (intOf p).toNat)
        case atStart => exact ⟨0, -1, Nat.zero_le _, rfl, rfl, rfl, .inl ⟨rfl, rfl⟩, HBl.out⟩
        case round =>
          obtain ⟨j, v, hj, rfl, rfl, hrs, hv, hbel⟩ := hrel
          have kg2 := (hbel.cell (p := ⟨w.heap.size, 0, none⟩) (by show w.heap.size < _; omega)).trans HH.out.2.2.1
          have k2 := (hbel.cell (p := ⟨b, off + i, none⟩) HK0.out.1).trans HK0.out.2
          by_cases hjn : j < n
          · have hjl : j < xs.length := by rw [HFs.out.2.2]; exact hjn
            rw [drop_at xs j hjl, eachS_cons] at hrs
            obtain ⟨b2, o2, hA1, hb2, k3'⟩ := HRd.out.1.at_ (zc_get xs j hjl)
            have k3 := (hbel.cell (p := ⟨b2, o2 + j, none⟩) hb2).trans k3'
            obtain ⟨y, hy⟩ : ∃ y, xs[j]?.getD 0 = y := ⟨_, rfl⟩
            have hye : xs[j]? = some y := by rw [← hy, List.getElem?_eq_getElem hjl]; rfl
            rw [hy] at hrs k3
            have hprev : 0 < j → wr.cell? ⟨b2, o2 + (j - 1), none⟩ = some (.int .i64 v) := fun h0 => by
              have hvv : xs[j - 1]? = some v := by rcases hv with ⟨z, _⟩ | ⟨_, z⟩; omega; exact z
              have h1 : j - 1 < xs.length := by omega
              obtain ⟨b3, o3, hA3, hb3, k4⟩ := HRd.out.1.at_ (zc_get xs (j - 1) h1)
              rw [hA1] at hA3
              cases hA3
              rw [hvv] at k4
              exact (hbel.cell (p := ⟨b2, o2 + (j - 1), none⟩) hb3).trans k4
            subst hA1
            have t4 : (0 : Int) ≤ (j : Int) := by omega
            have t5 : (j : Int) < (n : Int) := by omega
            have a1 : IntKind.i64.wrap ((N : Int) - 1) = (N : Int) - 1 := IntWalk.i64_in _ (by omega)
            by_cases hok : okG (N : Int) y = true
            · have hyo : (0 : Int) ≤ y ∧ y ≤ (N : Int) - 1 := by unfold okG at hok; simp at hok; omega
              have HYs := Lib.hid (fun W => between_yes y 0 ((N : Int) - 1) hyo W)
              by_cases hyv : y ≤ v
              · have hj0 : 0 < j := by rcases hv with ⟨_, z⟩ | ⟨z, _⟩; omega; exact z
                have hE4 : E = 4 := by
                  have e1 : ckO (okG (N : Int)) v y = 4 := by unfold ckO; rw [if_neg (by simp [hok]), if_pos hyv]
                  rw [e1, if_neg (by decide)] at hrs
                  have := HE.out
                  rw [HFs.out.1, hrs, if_neg (by decide : ¬ ((4 : Int) = 0)), if_neg (by simp)] at this
                  exact this.symm
                have HE4 := Lib.hid hE4
                have k5 := hprev hj0
                have s1 : decide ((0 : Int) < (j : Int)) = true := by simp; omega
                have s2 : decide (y ≤ v) = true := by simpa using hyv
                have s3 : IntKind.i64.wrap ((j : Int) - 1) = ((j - 1 : Nat) : Int) := by rw [IntWalk.i64_in _ (by omega)]; omega
                have s4 : (0 : Int) ≤ ((j - 1 : Nat) : Int) := by omega
                have s5 : ((j - 1 : Nat) : Int) < (n : Int) := by omega
                have HBq := Lib.hid hbel
                generalize hjj : j - 1 = jj at *
                clear hE4 hok hrs hv hprev hbel hy hye hyo hjj
                go_wp2_with fail
                refine (HYs.out _).mono ?_
                rintro e wz ⟨rfl, rfl⟩
                go_wp2
                go_quiet (fail)
                go_wp2
                go_ret
                exact ⟨by rw [HE4.out]; rfl, HH.out.2.2.2.trans ((below_drewN HBq.out _).mono HH.out.2.2.2.size)⟩
              · have e1 : ckO (okG (N : Int)) v y = 0 := by unfold ckO; rw [if_neg (by simp [hok]), if_neg hyv]
                rw [if_pos e1] at hrs
                have HSt := Lib.hid (⟨hrs, by simpa using hye⟩ : rsE (N : Int) xs = eachS (ckO (okG (N : Int))) id y (xs.drop (j + 1)) ∧ xs[j + 1 - 1]? = some y)
                have HCt : Hid ((m : Int) + (j : Int) + 1 = ((m + (j + 1) : Nat) : Int)) := by show _ = _; omega
                have a2 : IntKind.i64.wrap (((m + j : Nat) : Int) + 1) = ((m + (j + 1) : Nat) : Int) := by rw [IntWalk.i64_in _ (by omega)]; omega
                have a3 : IntKind.i64.wrap ((m : Int) + (j : Int) + 1) = ((m + (j + 1) : Nat) : Int) := by rw [IntWalk.i64_in _ (by omega)]; omega
                have HBq := Lib.hid hbel
                have s2 : decide (y ≤ v) = false := by simpa using hyv
                by_cases hj0 : 0 < j
                · have k5 := hprev hj0
                  have s1 : decide ((0 : Int) < (j : Int)) = true := by simp; omega
                  have s3 : IntKind.i64.wrap ((j : Int) - 1) = ((j - 1 : Nat) : Int) := by rw [IntWalk.i64_in _ (by omega)]; omega
                  have s4 : (0 : Int) ≤ ((j - 1 : Nat) : Int) := by omega
                  have s5 : ((j - 1 : Nat) : Int) < (n : Int) := by omega
                  generalize hjj : j - 1 = jj at *
                  clear hok hrs hv hprev hbel hy hye hyo e1 hyv hjj
                  go_wp2_with fail
                  refine (HYs.out _).mono ?_
                  rintro e wz ⟨rfl, rfl⟩
                  go_wp2
                  go_quiet (fail)
                  go_wp2
                  go_roundw
                  case rel => exact ⟨j + 1, y, by omega, by go_num, by go_num, HSt.out.1, .inr ⟨by omega, HSt.out.2⟩, below_drewN HBq.out _⟩
                  case measure => simp [intOf]; omega
                · have s1 : decide ((0 : Int) < (j : Int)) = false := by simp; omega
                  clear hok hrs hv hprev hbel hy hye hyo e1 hyv
                  go_wp2_with fail
                  refine (HYs.out _).mono ?_
                  rintro e wz ⟨rfl, rfl⟩
                  go_wp2
                  go_quiet (fail)
                  go_wp2
                  go_roundw
                  case rel => exact ⟨j + 1, y, by omega, by go_num, by go_num, HSt.out.1, .inr ⟨by omega, HSt.out.2⟩, below_drewN HBq.out _⟩
                  case measure => simp [intOf]; omega
            · have hE3 : E = 3 := by
                have e1 : ckO (okG (N : Int)) v y = 3 := by unfold ckO; rw [if_pos (by simpa using hok)]
                rw [e1, if_neg (by decide)] at hrs
                have := HE.out
                rw [HFs.out.1, hrs, if_neg (by decide : ¬ ((3 : Int) = 0)), if_neg (by simp)] at this
                exact this.symm
              have HE3 := Lib.hid hE3
              have hno : ¬ ((0 : Int) ≤ y ∧ y ≤ (N : Int) - 1) := by intro q; apply hok; unfold okG; simp; omega
              have HNo := Lib.hid (fun W => between_no y 0 ((N : Int) - 1) hno W)
              have HBq := Lib.hid hbel
              clear hE3 hno hok hrs hv hprev hbel hy hye
              go_wp2_with fail
              refine (HNo.out _).mono ?_
              rintro e wz ⟨rfl, rfl⟩
              go_wp2
              go_ret
              exact ⟨by rw [HE3.out]; rfl, HH.out.2.2.2.trans (HBq.out.mono HH.out.2.2.2.size)⟩
          · obtain rfl : j = n := by omega
            have hz : rsE (N : Int) xs = 0 := by rw [hrs, List.drop_of_length_le (by rw [HFs.out.2.2]; omega)]; rfl
            have hf2 := HFs.out.1
            rw [if_pos hz] at hf2
            have HFn := Lib.hid (⟨hf2, HFs.out.2.1, hbel⟩ : _ ∧ _ ∧ _)
            clear hrs hv hbel hz hf2
            go_wp2
            go_roundw
            case rel => exact ⟨i + 1, m + j, by omega, by go_num, by go_num, HFn.out.1, by have := HFn.out.2.1; omega, HFn.out.2.2⟩
            case measure => simp [intOf]; omega
      · obtain rfl : i = N := by omega
        rw [List.drop_of_length_le (by rw [HH.out.1]; omega)] at hfe hsm
        have hf0 : firstE (rsE (i : Int)) (gs R) = 0 := hfe
        have hsm2 : m = sumL (gs R) := by have : sumL (gs []) = 0 := rfl; omega
        have hEE := HE.out
        rw [hf0, ← hsm2] at hEE
        have HBl := Lib.hid hbel
        by_cases h6 : 600 < m
        · rw [if_pos ⟨rfl, h6⟩] at hEE
          have s1 : decide ((600 : Int) < (m : Int)) = true := by simp; omega
          subst hEE
          clear hbel hfe hsm hf0 hsm2
          go_wp2
          go_ret
          exact ⟨rfl, HH.out.2.2.2.trans (HBl.out.mono HH.out.2.2.2.size)⟩
        · rw [if_neg (fun z => h6 z.2)] at hEE
          have s1 : decide ((600 : Int) < (m : Int)) = false := by simp; omega
          subst hEE
          clear hbel hfe hsm hf0 hsm2
          go_wp2
          go_ret
          exact ⟨rfl, HH.out.2.2.2.trans (HBl.out.mono HH.out.2.2.2.size)⟩
end

section
set_option maxRecDepth 100000
set_option linter.unusedVariables false
open Go.RowKit Go.Shelf

set_option maxHeartbeats 8000000 in
theorem coreTells_law (A : Option Addr) (c : Nat) (R : List Rw) (w : World) (hA : RdG w w.heap.size A R) (hn : R.length ≤ 140737488355328) :
    Calls Try.prog 7 #[.agg #[.slice A R.length c]] w fun e w' => e = .returned (.bool true) ∧ Below w.heap.size w w' := by
  obtain ⟨N, hN⟩ : ∃ N, R.length = N := ⟨_, rfl⟩
  rw [hN] at hn ⊢
  by_cases e0 : grE (gs R) = 0
  · obtain ⟨g, hg, hok⟩ := grE_zero _ e0
    have hgl : g.length = N := by have := congrArg List.length hg; rw [gs_length, List.length_map] at this; omega
    have hN1 : N ≤ 100 := by have := hok.nodes; omega
    have HOk : Hid (GOk g ∧ g.length = N) := ⟨hok, hgl⟩
    have HG0 := Lib.hid hg
    obtain ⟨l, hl⟩ := cn_list (near g) N
    have HNu := Lib.hid (lw_num R g hg hok N hgl l hl)
    have HTh := Lib.hid (lw_thr R g hg hok N hgl)
    have HPa := Lib.hid (lw_pai R g hg hok N hgl)
    have hgc : ∀ A c V, RdG V V.heap.size A R → Calls Try.prog 26 #[.agg #[.slice A N c]] V fun e w' => e = .returned (.int .i64 0) ∧ Below V.heap.size V w' := fun A c V h => by
      have := refgchk_any R N hN (by omega) A c V h
      rwa [e0] at this
    have HGc := Lib.hid hgc
    have HRn : Hid (∀ A c V, RdG V V.heap.size A R → Calls Try.prog 27 #[.agg #[.slice A N c]] V fun e w' => ∃ b, e = .returned (.slice (some ⟨b, 0, none⟩) N N) ∧ RdV w' w'.heap.size (some ⟨b, 0, none⟩) (zc (ns l)) ∧ Below V.heap.size V w') := fun A c V h =>
      (refcn_ok R g hg hok N hN A c V h).mono fun e w' ⟨b, o, q1, q2, q3, q4, q5⟩ => ⟨b, q1, by rw [hl.uniq ⟨q2, q3⟩] at q4; exact q4, q5⟩
    have HRp := Lib.hid (refcp_ok R g hg hok N hN)
    have hrt : ∀ A c V, RdG V V.heap.size A R → Calls Try.prog 29 #[.agg #[.slice A N c]] V fun e w' => ∃ b c2, e = .returned (.tuple #[.slice (some ⟨b, 0, none⟩) N c2, .int .i64 ((trs (near g) N).length : Int)]) ∧ RdV w' w'.heap.size (some ⟨b, 0, none⟩) (zc (ns (cnl N (trs (near g) N)))) ∧ Below V.heap.size V w' := fun A c V h => by
      have := refct_ok R g hg hok N hN A c V h
      have e1 : cnl N (trz (near g) N) = cnl N (trs (near g) N) := by unfold cnl; exact List.map_congr_left fun x _ => (tr_cn (near g) N x).symm
      rw [e1, ← tr_len] at this
      exact this
    have HRt := Lib.hid hrt
    have HL : Hid (l.length = N ∧ (pairing (near g) N).length = N ∧ (cnl N (trs (near g) N)).length = N) := ⟨hl.1, (pairing_ok (near_comm g) N).len, cnl_length _ _⟩
    clear e0 hg hok hgl hN hn hl hgc hrt HOk HG0
    generalize cnl N (trs (near g) N) = tl at *
    generalize (trs (near g) N).length = many at *
    generalize pairing (near g) N = P at *
    have HB : Hid (Below w.heap.size w w) := Below.refl _ w
    have HR := Lib.hid hA; clear hA
    go_enter Try.func7, Try.ntmps7
    have HBq : Hid (Below w.heap.size w (w.alloc (.cells #[.slice A N c] 24))) := one_below _ _
    replace HB : Hid (Below w.heap.size w (w.alloc (.cells #[.slice A N c] 24))) := HB.out.trans (HBq.out.mono HB.out.size)
    replace HR : Hid (RdG (w.alloc (.cells #[.slice A N c] 24)) ((w.alloc (.cells #[.slice A N c] 24))).heap.size A R) := HR.out.on HBq.out
    clear HBq
    have K0 : Hid (((w.alloc (.cells #[.slice A N c] 24))).cell? ⟨w.heap.size, 0, none⟩ = some (.slice A N c)) := (cell_at (World.alloc_heap_new w _) 0).trans rfl
    have HC := Lib.hid (HNu.out A c _ HR.out)
    have k_K0 := K0.out
    go_wp2_with fail
    clear k_K0
    refine HC.out.mono ?_
    rintro e w1 ⟨b1, rfl, q1, bq⟩
    clear HC
    have HBc := Lib.hid bq; clear bq
    have HBq : Hid (Below (w.alloc (.cells #[.slice A N c] 24)).heap.size (w.alloc (.cells #[.slice A N c] 24)) w1) := HBc.out
    replace HB : Hid (Below w.heap.size w w1) := HB.out.trans (HBq.out.mono HB.out.size)
    replace HR : Hid (RdG w1 (w1).heap.size A R) := HR.out.on HBq.out
    replace K0 : Hid ((w1).cell? ⟨w.heap.size, 0, none⟩ = some (.slice A N c)) := (HBq.out.cell (World.block_lt_of_cell? _ _ K0.out)).trans K0.out
    clear HBq
    clear HBc
    have Q1 : Hid (RdV w1 (w1).heap.size (some ⟨b1, 0, none⟩) (zc (ns l))) := q1
    clear q1
    have HC := Lib.hid (HTh.out A c _ HR.out)
    have k_K0 := K0.out
    go_wp2_with fail
    clear k_K0
    refine HC.out.mono ?_
    rintro e w2 ⟨b2, rfl, q2, bq⟩
    clear HC
    have HBc := Lib.hid bq; clear bq
    have HBq : Hid (Below w1.heap.size w1 w2) := HBc.out
    replace HB : Hid (Below w.heap.size w w2) := HB.out.trans (HBq.out.mono HB.out.size)
    replace HR : Hid (RdG w2 (w2).heap.size A R) := HR.out.on HBq.out
    replace K0 : Hid ((w2).cell? ⟨w.heap.size, 0, none⟩ = some (.slice A N c)) := (HBq.out.cell (World.block_lt_of_cell? _ _ K0.out)).trans K0.out
    replace Q1 : Hid (RdV w2 (w2).heap.size (some ⟨b1, 0, none⟩) (zc (ns l))) := Q1.out.on HBq.out
    clear HBq
    clear HBc
    have Q2 : Hid (RdV w2 (w2).heap.size (some ⟨b2, 0, none⟩) (zc (ns tl))) := q2
    clear q2
    have HC := Lib.hid (HPa.out A c _ HR.out)
    have k_K0 := K0.out
    go_wp2_with fail
    clear k_K0
    refine HC.out.mono ?_
    rintro e w3 ⟨b3, rfl, q3, bq⟩
    clear HC
    have HBc := Lib.hid bq; clear bq
    have HBq : Hid (Below w2.heap.size w2 w3) := HBc.out
    replace HB : Hid (Below w.heap.size w w3) := HB.out.trans (HBq.out.mono HB.out.size)
    replace HR : Hid (RdG w3 (w3).heap.size A R) := HR.out.on HBq.out
    replace K0 : Hid ((w3).cell? ⟨w.heap.size, 0, none⟩ = some (.slice A N c)) := (HBq.out.cell (World.block_lt_of_cell? _ _ K0.out)).trans K0.out
    replace Q1 : Hid (RdV w3 (w3).heap.size (some ⟨b1, 0, none⟩) (zc (ns l))) := Q1.out.on HBq.out
    replace Q2 : Hid (RdV w3 (w3).heap.size (some ⟨b2, 0, none⟩) (zc (ns tl))) := Q2.out.on HBq.out
    clear HBq
    clear HBc
    have Q3 : Hid (RdV w3 (w3).heap.size (some ⟨b3, 0, none⟩) (zc P)) := q3
    clear q3
    have HC := Lib.hid (HGc.out A c _ HR.out)
    have k_K0 := K0.out
    go_wp2_with fail
    clear k_K0
    refine HC.out.mono ?_
    rintro e w4 ⟨rfl, bq⟩
    clear HC
    have HBc := Lib.hid bq; clear bq
    have HBq : Hid (Below w3.heap.size w3 w4) := HBc.out
    replace HB : Hid (Below w.heap.size w w4) := HB.out.trans (HBq.out.mono HB.out.size)
    replace HR : Hid (RdG w4 (w4).heap.size A R) := HR.out.on HBq.out
    replace K0 : Hid ((w4).cell? ⟨w.heap.size, 0, none⟩ = some (.slice A N c)) := (HBq.out.cell (World.block_lt_of_cell? _ _ K0.out)).trans K0.out
    replace Q1 : Hid (RdV w4 (w4).heap.size (some ⟨b1, 0, none⟩) (zc (ns l))) := Q1.out.on HBq.out
    replace Q2 : Hid (RdV w4 (w4).heap.size (some ⟨b2, 0, none⟩) (zc (ns tl))) := Q2.out.on HBq.out
    replace Q3 : Hid (RdV w4 (w4).heap.size (some ⟨b3, 0, none⟩) (zc P)) := Q3.out.on HBq.out
    clear HBq
    clear HBc
    have HRv : Hid (∀ V, Below w4.heap.size w4 V → RdG V V.heap.size A R) := fun V hV => HR.out.on hV
    have HKv : Hid (∀ V, Below w4.heap.size w4 V → V.cell? ⟨w.heap.size, 0, none⟩ = some (.slice A N c)) := fun V hV => (hV.cell (World.block_lt_of_cell? _ _ K0.out)).trans K0.out
    go_wp2_with fail
    rename_i hKK
    have HKK := Lib.hid hKK; clear hKK
    go_region_held3 (fun w' => w'.cell? ⟨w.heap.size, 0, none⟩ = some (.slice A N c))
      ((first | exact HKv.out _ (Below.refl _ _).drew | exact HKv.out _ HBn.out | exact HKv.out _ HBp.out))
      ((first
        | (go_at_call 27; (first | refine (HRn.out A c _ (HRv.out _ (Below.refl _ _).drew)).mono ?_ | refine (HRn.out A c _ (HRv.out _ HBp.out)).mono ?_); rintro e wn ⟨b5, rfl, q5, bn⟩; have HBn : Hid (Below w4.heap.size w4 wn) := (by first | exact (Below.refl _ w4).drew.trans bn | exact HBp.out.trans (bn.mono HBp.out.size)); have HQn := Lib.hid q5; clear q5)
        | (go_at_call 28; (first | refine (HRp.out A c _ (HRv.out _ (Below.refl _ _).drew)).mono ?_ | refine (HRp.out A c _ (HRv.out _ HBn.out)).mono ?_); rintro e wp ⟨A6, c6, rfl, q6, bp⟩; have HBp : Hid (Below w4.heap.size w4 wp) := (by first | exact (Below.refl _ w4).drew.trans bp | exact HBn.out.trans (bp.mono HBn.out.size)); have HQp := Lib.hid q6; clear q6)))
    refine HKK.out _ _ ?_
    clear HKK
    have hq5 := HQn.out.on bp
    clear HQn HRn HRp HNu HTh HPa HGc
    have HBq : Hid (Below w4.heap.size w4 wp) := HBp.out
    replace HB : Hid (Below w.heap.size w wp) := HB.out.trans (HBq.out.mono HB.out.size)
    replace HR : Hid (RdG wp (wp).heap.size A R) := HR.out.on HBq.out
    replace K0 : Hid ((wp).cell? ⟨w.heap.size, 0, none⟩ = some (.slice A N c)) := (HBq.out.cell (World.block_lt_of_cell? _ _ K0.out)).trans K0.out
    replace Q1 : Hid (RdV wp (wp).heap.size (some ⟨b1, 0, none⟩) (zc (ns l))) := Q1.out.on HBq.out
    replace Q2 : Hid (RdV wp (wp).heap.size (some ⟨b2, 0, none⟩) (zc (ns tl))) := Q2.out.on HBq.out
    replace Q3 : Hid (RdV wp (wp).heap.size (some ⟨b3, 0, none⟩) (zc P)) := Q3.out.on HBq.out
    clear HBq
    clear bn bp HBn HBp HKv HRv
    have Q5 : Hid (RdV wp (wp).heap.size (some ⟨b5, 0, none⟩) (zc (ns l))) := hq5
    clear hq5
    have Q6 : Hid (RdV wp (wp).heap.size A6 (zc P)) := HQp.out
    clear HQp
    have HC := Lib.hid (HRt.out A c _ HR.out)
    have k_K0 := K0.out
    go_wp2_with fail
    clear k_K0
    refine HC.out.mono ?_
    rintro e w6 ⟨b7, c7, rfl, q7, bq⟩
    clear HC
    have HBc := Lib.hid bq; clear bq
    have HBq : Hid (Below wp.heap.size wp w6) := HBc.out
    replace HB : Hid (Below w.heap.size w w6) := HB.out.trans (HBq.out.mono HB.out.size)
    replace HR : Hid (RdG w6 (w6).heap.size A R) := HR.out.on HBq.out
    replace K0 : Hid ((w6).cell? ⟨w.heap.size, 0, none⟩ = some (.slice A N c)) := (HBq.out.cell (World.block_lt_of_cell? _ _ K0.out)).trans K0.out
    replace Q1 : Hid (RdV w6 (w6).heap.size (some ⟨b1, 0, none⟩) (zc (ns l))) := Q1.out.on HBq.out
    replace Q2 : Hid (RdV w6 (w6).heap.size (some ⟨b2, 0, none⟩) (zc (ns tl))) := Q2.out.on HBq.out
    replace Q3 : Hid (RdV w6 (w6).heap.size (some ⟨b3, 0, none⟩) (zc P)) := Q3.out.on HBq.out
    replace Q5 : Hid (RdV w6 (w6).heap.size (some ⟨b5, 0, none⟩) (zc (ns l))) := Q5.out.on HBq.out
    replace Q6 : Hid (RdV w6 (w6).heap.size A6 (zc P)) := Q6.out.on HBq.out
    clear HBq
    clear HBc
    have Q7 : Hid (RdV w6 (w6).heap.size (some ⟨b7, 0, none⟩) (zc (ns tl))) := q7
    clear q7
    have HC := Lib.hid (corebegun_true w6)
    go_wp2_with fail
    refine HC.out.mono ?_
    rintro e w7 ⟨rfl, bq⟩
    clear HC
    have HBc := Lib.hid bq; clear bq
    have HBq : Hid (Below w6.heap.size w6 w7) := HBc.out
    replace HB : Hid (Below w.heap.size w w7) := HB.out.trans (HBq.out.mono HB.out.size)
    replace HR : Hid (RdG w7 (w7).heap.size A R) := HR.out.on HBq.out
    replace K0 : Hid ((w7).cell? ⟨w.heap.size, 0, none⟩ = some (.slice A N c)) := (HBq.out.cell (World.block_lt_of_cell? _ _ K0.out)).trans K0.out
    replace Q1 : Hid (RdV w7 (w7).heap.size (some ⟨b1, 0, none⟩) (zc (ns l))) := Q1.out.on HBq.out
    replace Q2 : Hid (RdV w7 (w7).heap.size (some ⟨b2, 0, none⟩) (zc (ns tl))) := Q2.out.on HBq.out
    replace Q3 : Hid (RdV w7 (w7).heap.size (some ⟨b3, 0, none⟩) (zc P)) := Q3.out.on HBq.out
    replace Q5 : Hid (RdV w7 (w7).heap.size (some ⟨b5, 0, none⟩) (zc (ns l))) := Q5.out.on HBq.out
    replace Q6 : Hid (RdV w7 (w7).heap.size A6 (zc P)) := Q6.out.on HBq.out
    replace Q7 : Hid (RdV w7 (w7).heap.size (some ⟨b7, 0, none⟩) (zc (ns tl))) := Q7.out.on HBq.out
    clear HBq
    clear HBc
    have HC := Lib.hid (si_true l N N HL.out.1 HL.out.1 (by omega) _ _ N N _ Q1.out Q5.out)
    go_wp2_with fail
    refine HC.out.mono ?_
    rintro e w8 ⟨rfl, bq⟩
    clear HC
    have HBc := Lib.hid bq; clear bq
    have HBq : Hid (Below w7.heap.size w7 w8) := HBc.out
    replace HB : Hid (Below w.heap.size w w8) := HB.out.trans (HBq.out.mono HB.out.size)
    replace HR : Hid (RdG w8 (w8).heap.size A R) := HR.out.on HBq.out
    replace K0 : Hid ((w8).cell? ⟨w.heap.size, 0, none⟩ = some (.slice A N c)) := (HBq.out.cell (World.block_lt_of_cell? _ _ K0.out)).trans K0.out
    replace Q1 : Hid (RdV w8 (w8).heap.size (some ⟨b1, 0, none⟩) (zc (ns l))) := Q1.out.on HBq.out
    replace Q2 : Hid (RdV w8 (w8).heap.size (some ⟨b2, 0, none⟩) (zc (ns tl))) := Q2.out.on HBq.out
    replace Q3 : Hid (RdV w8 (w8).heap.size (some ⟨b3, 0, none⟩) (zc P)) := Q3.out.on HBq.out
    replace Q5 : Hid (RdV w8 (w8).heap.size (some ⟨b5, 0, none⟩) (zc (ns l))) := Q5.out.on HBq.out
    replace Q6 : Hid (RdV w8 (w8).heap.size A6 (zc P)) := Q6.out.on HBq.out
    replace Q7 : Hid (RdV w8 (w8).heap.size (some ⟨b7, 0, none⟩) (zc (ns tl))) := Q7.out.on HBq.out
    clear HBq
    clear HBc
    have HC := Lib.hid (si_true tl N N HL.out.2.2 HL.out.2.2 (by omega) _ _ N c7 _ Q2.out Q7.out)
    go_wp2_with fail
    refine HC.out.mono ?_
    rintro e w9 ⟨rfl, bq⟩
    clear HC
    have HBc := Lib.hid bq; clear bq
    have HBq : Hid (Below w8.heap.size w8 w9) := HBc.out
    replace HB : Hid (Below w.heap.size w w9) := HB.out.trans (HBq.out.mono HB.out.size)
    replace HR : Hid (RdG w9 (w9).heap.size A R) := HR.out.on HBq.out
    replace K0 : Hid ((w9).cell? ⟨w.heap.size, 0, none⟩ = some (.slice A N c)) := (HBq.out.cell (World.block_lt_of_cell? _ _ K0.out)).trans K0.out
    replace Q1 : Hid (RdV w9 (w9).heap.size (some ⟨b1, 0, none⟩) (zc (ns l))) := Q1.out.on HBq.out
    replace Q2 : Hid (RdV w9 (w9).heap.size (some ⟨b2, 0, none⟩) (zc (ns tl))) := Q2.out.on HBq.out
    replace Q3 : Hid (RdV w9 (w9).heap.size (some ⟨b3, 0, none⟩) (zc P)) := Q3.out.on HBq.out
    replace Q5 : Hid (RdV w9 (w9).heap.size (some ⟨b5, 0, none⟩) (zc (ns l))) := Q5.out.on HBq.out
    replace Q6 : Hid (RdV w9 (w9).heap.size A6 (zc P)) := Q6.out.on HBq.out
    replace Q7 : Hid (RdV w9 (w9).heap.size (some ⟨b7, 0, none⟩) (zc (ns tl))) := Q7.out.on HBq.out
    clear HBq
    clear HBc
    have t20 : ((many : Int) == (many : Int)) = true := by simp
    have hsi := sameI_any w9 _ _ N c6 P P (by rw [HL.out.2.1]; omega) Q3.out Q6.out
    rw [HL.out.2.1, decide_eq_true rfl] at hsi
    have HC := Lib.hid (hsi)
    go_wp2_with fail
    refine HC.out.mono ?_
    rintro e w10 ⟨rfl, bq⟩
    clear HC
    have HBc := Lib.hid bq; clear bq
    have HBq : Hid (Below w9.heap.size w9 w10) := HBc.out
    replace HB : Hid (Below w.heap.size w w10) := HB.out.trans (HBq.out.mono HB.out.size)
    replace HR : Hid (RdG w10 (w10).heap.size A R) := HR.out.on HBq.out
    replace K0 : Hid ((w10).cell? ⟨w.heap.size, 0, none⟩ = some (.slice A N c)) := (HBq.out.cell (World.block_lt_of_cell? _ _ K0.out)).trans K0.out
    replace Q1 : Hid (RdV w10 (w10).heap.size (some ⟨b1, 0, none⟩) (zc (ns l))) := Q1.out.on HBq.out
    replace Q2 : Hid (RdV w10 (w10).heap.size (some ⟨b2, 0, none⟩) (zc (ns tl))) := Q2.out.on HBq.out
    replace Q3 : Hid (RdV w10 (w10).heap.size (some ⟨b3, 0, none⟩) (zc P)) := Q3.out.on HBq.out
    replace Q5 : Hid (RdV w10 (w10).heap.size (some ⟨b5, 0, none⟩) (zc (ns l))) := Q5.out.on HBq.out
    replace Q6 : Hid (RdV w10 (w10).heap.size A6 (zc P)) := Q6.out.on HBq.out
    replace Q7 : Hid (RdV w10 (w10).heap.size (some ⟨b7, 0, none⟩) (zc (ns tl))) := Q7.out.on HBq.out
    clear HBq
    clear HBc
    clear hsi
    go_wp2
    go_ret
    exact ⟨rfl, HB.out⟩
  · have HNu := Lib.hid (lw_num_e R N hN hn _ rfl e0)
    have HTh := Lib.hid (lw_thr_e R N hN hn _ rfl e0)
    have HPa := Lib.hid (lw_pai_e R N hN hn _ rfl e0)
    have HGc := Lib.hid (refgchk_any R N hN hn)
    have t1 : (grE (gs R) == 0) = false := by simpa using e0
    have u1 : (grE (gs R) != 0) = true := by simpa using e0
    have u2 : (grE (gs R) == grE (gs R)) = true := by simp
    have HSn : Hid (∀ V, Calls Try.prog 22 #[.slice none 0 0, .slice none 0 0] V fun e w' => e = .returned (.bool true) ∧ Below V.heap.size V w') := fun V => si_true [] 0 0 rfl rfl (by decide) none none 0 0 V (.inl rfl) (.inl rfl)
    clear e0 hN hn
    generalize grE (gs R) = e1 at *
    have HB : Hid (Below w.heap.size w w) := Below.refl _ w
    have HR := Lib.hid hA; clear hA
    go_enter Try.func7, Try.ntmps7
    have HBq : Hid (Below w.heap.size w (w.alloc (.cells #[.slice A N c] 24))) := one_below _ _
    replace HB : Hid (Below w.heap.size w (w.alloc (.cells #[.slice A N c] 24))) := HB.out.trans (HBq.out.mono HB.out.size)
    replace HR : Hid (RdG (w.alloc (.cells #[.slice A N c] 24)) ((w.alloc (.cells #[.slice A N c] 24))).heap.size A R) := HR.out.on HBq.out
    clear HBq
    have K0 : Hid (((w.alloc (.cells #[.slice A N c] 24))).cell? ⟨w.heap.size, 0, none⟩ = some (.slice A N c)) := (cell_at (World.alloc_heap_new w _) 0).trans rfl
    have HC := Lib.hid (HNu.out A c _ HR.out)
    have k_K0 := K0.out
    go_wp2_with fail
    clear k_K0
    refine HC.out.mono ?_
    rintro e w1 ⟨rfl, bq⟩
    clear HC
    have HBc := Lib.hid bq; clear bq
    have HBq : Hid (Below (w.alloc (.cells #[.slice A N c] 24)).heap.size (w.alloc (.cells #[.slice A N c] 24)) w1) := HBc.out
    replace HB : Hid (Below w.heap.size w w1) := HB.out.trans (HBq.out.mono HB.out.size)
    replace HR : Hid (RdG w1 (w1).heap.size A R) := HR.out.on HBq.out
    replace K0 : Hid ((w1).cell? ⟨w.heap.size, 0, none⟩ = some (.slice A N c)) := (HBq.out.cell (World.block_lt_of_cell? _ _ K0.out)).trans K0.out
    clear HBq
    clear HBc
    have HC := Lib.hid (HTh.out A c _ HR.out)
    have k_K0 := K0.out
    go_wp2_with fail
    clear k_K0
    refine HC.out.mono ?_
    rintro e w2 ⟨rfl, bq⟩
    clear HC
    have HBc := Lib.hid bq; clear bq
    have HBq : Hid (Below w1.heap.size w1 w2) := HBc.out
    replace HB : Hid (Below w.heap.size w w2) := HB.out.trans (HBq.out.mono HB.out.size)
    replace HR : Hid (RdG w2 (w2).heap.size A R) := HR.out.on HBq.out
    replace K0 : Hid ((w2).cell? ⟨w.heap.size, 0, none⟩ = some (.slice A N c)) := (HBq.out.cell (World.block_lt_of_cell? _ _ K0.out)).trans K0.out
    clear HBq
    clear HBc
    have HC := Lib.hid (HPa.out A c _ HR.out)
    have k_K0 := K0.out
    go_wp2_with fail
    clear k_K0
    refine HC.out.mono ?_
    rintro e w3 ⟨rfl, bq⟩
    clear HC
    have HBc := Lib.hid bq; clear bq
    have HBq : Hid (Below w2.heap.size w2 w3) := HBc.out
    replace HB : Hid (Below w.heap.size w w3) := HB.out.trans (HBq.out.mono HB.out.size)
    replace HR : Hid (RdG w3 (w3).heap.size A R) := HR.out.on HBq.out
    replace K0 : Hid ((w3).cell? ⟨w.heap.size, 0, none⟩ = some (.slice A N c)) := (HBq.out.cell (World.block_lt_of_cell? _ _ K0.out)).trans K0.out
    clear HBq
    clear HBc
    have HC := Lib.hid (HGc.out A c _ HR.out)
    have k_K0 := K0.out
    go_wp2_with fail
    clear k_K0
    refine HC.out.mono ?_
    rintro e w4 ⟨rfl, bq⟩
    clear HC
    have HBc := Lib.hid bq; clear bq
    have HBq : Hid (Below w3.heap.size w3 w4) := HBc.out
    replace HB : Hid (Below w.heap.size w w4) := HB.out.trans (HBq.out.mono HB.out.size)
    replace HR : Hid (RdG w4 (w4).heap.size A R) := HR.out.on HBq.out
    replace K0 : Hid ((w4).cell? ⟨w.heap.size, 0, none⟩ = some (.slice A N c)) := (HBq.out.cell (World.block_lt_of_cell? _ _ K0.out)).trans K0.out
    clear HBq
    clear HBc
    have HC := Lib.hid (corebegun_true w4)
    go_wp2_with fail
    refine HC.out.mono ?_
    rintro e w5 ⟨rfl, bq⟩
    clear HC
    have HBc := Lib.hid bq; clear bq
    have HBq : Hid (Below w4.heap.size w4 w5) := HBc.out
    replace HB : Hid (Below w.heap.size w w5) := HB.out.trans (HBq.out.mono HB.out.size)
    replace HR : Hid (RdG w5 (w5).heap.size A R) := HR.out.on HBq.out
    replace K0 : Hid ((w5).cell? ⟨w.heap.size, 0, none⟩ = some (.slice A N c)) := (HBq.out.cell (World.block_lt_of_cell? _ _ K0.out)).trans K0.out
    clear HBq
    clear HBc
    have HC := Lib.hid (HSn.out w5)
    go_wp2_with fail
    refine HC.out.mono ?_
    rintro e w6 ⟨rfl, bq⟩
    clear HC
    have HBc := Lib.hid bq; clear bq
    have HBq : Hid (Below w5.heap.size w5 w6) := HBc.out
    replace HB : Hid (Below w.heap.size w w6) := HB.out.trans (HBq.out.mono HB.out.size)
    replace HR : Hid (RdG w6 (w6).heap.size A R) := HR.out.on HBq.out
    replace K0 : Hid ((w6).cell? ⟨w.heap.size, 0, none⟩ = some (.slice A N c)) := (HBq.out.cell (World.block_lt_of_cell? _ _ K0.out)).trans K0.out
    clear HBq
    clear HBc
    have HC := Lib.hid (HSn.out w6)
    go_wp2_with fail
    refine HC.out.mono ?_
    rintro e w7 ⟨rfl, bq⟩
    clear HC
    have HBc := Lib.hid bq; clear bq
    have HBq : Hid (Below w6.heap.size w6 w7) := HBc.out
    replace HB : Hid (Below w.heap.size w w7) := HB.out.trans (HBq.out.mono HB.out.size)
    replace HR : Hid (RdG w7 (w7).heap.size A R) := HR.out.on HBq.out
    replace K0 : Hid ((w7).cell? ⟨w.heap.size, 0, none⟩ = some (.slice A N c)) := (HBq.out.cell (World.block_lt_of_cell? _ _ K0.out)).trans K0.out
    clear HBq
    clear HBc
    have HC := Lib.hid (HSn.out w7)
    go_wp2_with fail
    refine HC.out.mono ?_
    rintro e w8 ⟨rfl, bq⟩
    clear HC
    have HBc := Lib.hid bq; clear bq
    have HBq : Hid (Below w7.heap.size w7 w8) := HBc.out
    replace HB : Hid (Below w.heap.size w w8) := HB.out.trans (HBq.out.mono HB.out.size)
    replace HR : Hid (RdG w8 (w8).heap.size A R) := HR.out.on HBq.out
    replace K0 : Hid ((w8).cell? ⟨w.heap.size, 0, none⟩ = some (.slice A N c)) := (HBq.out.cell (World.block_lt_of_cell? _ _ K0.out)).trans K0.out
    clear HBq
    clear HBc
    go_wp2
    go_ret
    exact ⟨rfl, HB.out⟩
end

section
section
open Go.ChangeShapes Go.WideShapes Go.ChangeAt Go.RowKit Go.Joins

theorem cells3i : Try.prog.cellsOf 3 = 1 := by kernel_rfl

set_option maxRecDepth 100000 in
/-- Numbers that were handed in. -/
theorem open_zs {H : Type} {enc : TypeId × Value → H} {W : World} {base : Nat} {v : Value} {d : DataW H} {p : List MemPlace}
    (hv : Value.okWide Try.prog W .any base 25 v) (h : DataW.Trod enc Try.prog W 0 (fun _ => true) true 25 v d p) :
    ∃ (A : Option Addr) (c : Nat) (xs : List Int), v = .slice A xs.length c ∧ xs.length ≤ c ∧ (A = none → c = 0) ∧ RdV W W.heap.size A (zc xs) ∧ (∀ x ∈ xs, -9223372036854775808 ≤ x ∧ x ≤ 9223372036854775807) ∧ xs.length ≤ 9223372036854775807 := by
  obtain ⟨a0, len0, cap0, rfl⟩ := okWide_slice Try.underlying25 hv
  obtain ⟨fuel, hf⟩ := h
  rcases open_ints Try.underlying25 Try.underlying3 cells3i hf with ⟨hcs, _⟩ | ⟨x, l, c, zs, hcs, _, hl, hm, hz, _, hcell, hwz⟩
  · simp [Value.cells] at hcs
    obtain ⟨rfl, rfl, rfl⟩ := hcs
    exact ⟨none, 0, [], rfl, by simp, fun _ => rfl, .inl rfl, by simp, by simp⟩
  · simp [Value.cells] at hcs
    obtain ⟨rfl, rfl, rfl⟩ := hcs
    have hzc : zs.length = cap0 := by simpa using hz
    have hlen : (zs.take len0).length = len0 := by rw [List.length_take]; omega
    unfold maxLen at hm
    refine ⟨some x, cap0, zs.take len0, by rw [hlen], by rw [hlen]; exact hl, (fun h => by cases h), ?_, ?_, by rw [hlen]; omega⟩
    · rcases Nat.eq_zero_or_pos len0 with h0 | h0
      · left; rw [h0]; rfl
      · obtain ⟨b, off, rfl, hc⟩ := ints_at hcell (by omega)
        refine .inr ⟨b, off, rfl, lt_of_cell (hc 0 (by omega)), fun i v hi => ?_⟩
        have hil : i < len0 := by
          rcases Nat.lt_or_ge i len0 with h | h
          · exact h
          · rw [List.getElem?_eq_none (by rw [zc_length, hlen]; exact h)] at hi; cases hi
        rw [zc_get _ i (by rw [hlen]; exact hil)] at hi
        cases hi
        rw [hc i (by omega)]
        have hz0 : zs.getD i 0 = zs[i]'(by omega) := by rw [List.getD_eq_getElem?_getD, List.getElem?_eq_getElem (by omega)]; rfl
        have e1 : (zs.take len0)[i]?.getD 0 = zs[i]'(by omega) := by
          rw [List.getElem?_take_of_lt hil, List.getElem?_eq_getElem (by omega)]; rfl
        rw [e1, hz0]
    · intro n hn
      exact bounds_i64 (hwz n (List.mem_of_mem_take hn))
end

section
open Go.ChangeShapes Go.WideShapes Go.ChangeAt Go.RowKit Go.Joins Go.Deep

theorem cellsG : Try.prog.cellsOf 24 = 1 := by kernel_rfl
theorem cellsL1 : Try.prog.cellsOf 25 = 1 := by kernel_rfl
theorem cellsL2 : Try.prog.cellsOf 22 = 1 := by kernel_rfl
theorem bytesL1 : Try.prog.bytesOf 25 = 24 := by kernel_rfl
theorem bytesI1 : Try.prog.bytesOf 3 = 8 := by kernel_rfl
theorem weightsAll_mem {H : Type} {P : Program} {e : TypeId} {n : Nat} : ∀ {l : List (DataW H)} {d : DataW H}, d ∈ l → n ∈ d.weights P e → n ∈ DataW.weightsAll P e l
  | x :: t, d, hd, hn => by
    simp only [DataW.weightsAll, List.mem_append]
    rcases List.mem_cons.1 hd with rfl | h
    · exact .inl hn
    · exact .inr (weightsAll_mem h hn)
theorem add_plG (b off k : Nat) : (⟨b, off, none⟩ : Addr).add k = ⟨b, off + k, none⟩ := by unfold Addr.add; split <;> simp_all
theorem zc_mem {l : List Int} {i : Nat} {v : Value} (h : (zc l)[i]? = some v) : ∃ hi : i < l.length, v = .int .i64 l[i] := by
  unfold zc at h
  rw [List.getElem?_map] at h
  obtain ⟨x, hx, rfl⟩ := Option.map_eq_some_iff.1 h
  obtain ⟨hi, rfl⟩ := List.getElem?_eq_some_iff.1 hx
  exact ⟨hi, rfl⟩
set_option maxRecDepth 100000 in
/-- A graph that was handed in. -/
theorem open_graph {H : Type} {enc : TypeId × Value → H} {W : World} {base : Nat} {v : Value} {d : DataW H} {p : List MemPlace}
    (hv : Value.okWide Try.prog W .any base 24 v) (h : DataW.Trod enc Try.prog W 0 (fun _ => true) true 24 v d p)
    (hz : ∀ n ∈ d.weights Try.prog 24, n ≤ reachBytes) :
    ∃ (A : Option Addr) (c : Nat) (R : List Rw), v = .agg #[.slice A R.length c] ∧ RdG W W.heap.size A R ∧ R.length ≤ 140737488355328 := by
  obtain ⟨cs, rfl, hsz⟩ := okWide_struct Try.underlying24 hv
  obtain ⟨c0, rfl⟩ := Array.size_eq_one_iff.1 (hsz.trans cellsG)
  obtain ⟨fuel, hf⟩ := h
  obtain ⟨y0, n, hx, _, h0⟩ := trod_struct1 Try.underlying24 hf
  simp only [Prod.mk.injEq] at hx
  obtain ⟨rfl, rfl⟩ := hx
  simp [Value.cells, cellsL2] at h0
  have hz0 : ∀ n ∈ y0.1.weights Try.prog 22, n ≤ reachBytes := fun n hn => hz n (by
    unfold DataW.weights
    rw [Try.underlying24]
    simp only [List.map_cons, List.map_nil, DataW.weightsEach, List.append_nil]
    exact hn)
  have hrb := reachBytes_lt
  rcases open_int_rows Try.underlying22 Try.underlying25 Try.underlying3 cellsL1 cells3i h0 with ⟨hcs, _⟩ | ⟨a, len, cap, A, L, C, Z, hcs, _, hl, hm, hx, hrow⟩
  · simp at hcs
    subst hcs
    exact ⟨none, 0, [], rfl, ⟨.inl rfl, fun r hr => by simp at hr⟩, by simp⟩
  · simp at hcs
    subst hcs
    rw [hx] at hz0
    have hlen : (len + (cap - len)) * 24 ≤ reachBytes := hz0 _ (by
      simp only [DataW.weights, Try.underlying22, List.length_map, List.length_range, bytesL1]
      exact List.mem_cons_self)
    have hrl : ∀ r, r < len → L r ≤ 140737488355328 := fun r hr => by
      obtain ⟨_, q1, q2, q3, _, q5, _⟩ := hrow r (by omega)
      cases hA : A r with
      | none => rw [q5 hA] at q1; omega
      | some a' =>
        have := hz0 (((Z r).take (L r)).length * 8 + ((Z r).drop (L r)).length * 8) (by
          simp only [DataW.weights, Try.underlying22, List.length_map, List.length_range, bytesL1]
          refine List.mem_cons_of_mem _ (List.mem_append.2 (.inl (weightsAll_mem (List.mem_map.2 ⟨r, List.mem_range.2 hr, rfl⟩) ?_)))
          unfold intRow
          rw [hA]
          simp only [DataW.weights, Try.underlying25, bytesI1, lits, List.length_map]
          refine List.mem_cons.2 (.inl ?_)
          omega)
        rw [List.length_take] at this
        omega
    refine ⟨some a, cap, (List.range len).map fun r => (A r, C r, (Z r).take (L r)), by simp, ⟨?_, ?_⟩, by simp; omega⟩
    · rcases Nat.eq_zero_or_pos len with h0 | h0
      · left; rw [h0]; rfl
      · obtain ⟨b, off, spot⟩ := a
        have hspot : spot = none := by simpa [Addr.add] using World.cell?_spot (hrow 0 (by omega)).1
        subst hspot
        refine .inr ⟨b, off, rfl, ?_, fun i v hi => ?_⟩
        · have := (hrow 0 (by omega)).1
          exact lt_of_cell (p := ⟨b, off + 0, none⟩) (by rw [← add_plG]; exact this)
        · unfold rcl at hi
          rw [List.getElem?_map, List.getElem?_map] at hi
          obtain ⟨y, hy, rfl⟩ := Option.map_eq_some_iff.1 hi
          obtain ⟨j, hj, rfl⟩ := Option.map_eq_some_iff.1 hy
          obtain ⟨hil, rfl⟩ := List.getElem?_eq_some_iff.1 hj
          rw [List.length_range] at hil
          have := hrow i (by omega)
          rw [add_plG] at this
          simp only [List.getElem_range]
          unfold sl
          simp only [List.length_take]
          rw [this.1]
          have e : min (L i) (Z i).length = L i := by have q1 := this.2.1; have q2 := this.2.2.2.1; omega
          rw [e]
    · intro r hr
      obtain ⟨i, hi, rfl⟩ := List.mem_map.1 hr
      have hil := List.mem_range.1 hi
      obtain ⟨q0, q1, q2, q3, q4, q5, q6⟩ := hrow i (by omega)
      refine ⟨?_, by simp only [List.length_take]; have := hrl i hil; omega⟩
      simp only
      rcases Nat.eq_zero_or_pos (L i) with h0 | h0
      · left; rw [h0]; rfl
      · cases hA : A i with
        | none => rw [q5 hA] at q1; omega
        | some a' =>
          obtain ⟨_, q7⟩ := q6 a' hA
          obtain ⟨b, off, spot⟩ := a'
          have hspot : spot = none := by simpa [Addr.add] using World.cell?_spot (q7 0 (by omega))
          subst hspot
          refine .inr ⟨b, off, rfl, ?_, fun j v hj => ?_⟩
          · have := q7 0 (by omega)
            exact lt_of_cell (p := ⟨b, off + 0, none⟩) (by rw [← add_plG]; exact this)
          · obtain ⟨hjl, rfl⟩ := zc_mem hj
            have hjl2 : j < L i := by rw [List.length_take] at hjl; omega
            have := q7 j (by omega)
            rw [add_plG] at this
            rw [this]
            simp [List.getD_eq_getElem?_getD, List.getElem?_eq_getElem (show j < (Z i).length by omega)]
end
end

section
open Go.ChangeShapes Go.WideShapes Go.ChangeAt Go.RowKit
open Go.ChangeMaps (open_string shut_string)

set_option linter.unusedVariables false
set_option maxRecDepth 100000 in
theorem coreTells_lifted (os : Os) (started : os.Started) (H : Type) (enc : TypeId × Value → H) :
    ReturnsInHanded {} Try.checked os 7 .any (Rows.coreTellsSpec.pre6 enc Try.prog Try.f7 Rows.coreTellsRow.domain false) (Rows.coreTellsSpec.post enc Try.prog Try.f7 false true false false) := by
  refine returnsInHanded_of_change_sized (C := Try.checked) own started (by kernel_rfl) Try.func7
    (ChangeSpec.witness6 (enc := enc) (C := Try.checked) false ⟨#[], #[.agg #[.slice none 0 0]], []⟩ 8 (by kernel_rfl) (by kernel_rfl) (by kernel_rfl) (by kernel_rfl)) ?_
  intro W base args ds gs before hval0 hW hcnd hzz _
  have hval : ∀ (j : Nat) t v, Try.f7.params[j]? = some t → args[j]? = some v → Value.okWide Try.prog W .any base t v := hval0
  have hW' := hW
  obtain ⟨p, q, hA0, hV, rfl, hfz, hnd⟩ := hW
  have hA : DataW.TrodAll enc Try.prog W 0 (fun _ => true) true Try.f7.params.toList args.toList ds p := hA0
  rw [Try.params7] at hA hval hzz
  obtain ⟨v0, vs0, d0, ds0, p0, q0, hargs, rfl, rfl, h0, r0⟩ := trodAll_cons hA
  obtain ⟨rfl, rfl, rfl⟩ := trodAll_nil r0
  obtain rfl : args = #[v0] := by cases args; simp_all
  obtain ⟨rfl, rfl⟩ := trodVars_none hV
  have k0 := h0
  have lt0 : ∀ x ∈ p0, x.block < W.heap.size := by obtain ⟨m, hm⟩ := k0; exact DataW.trod_lt m _ _ _ hm
  obtain ⟨A0, c0, R0, rfl, rd0, nn0⟩ := open_graph (hval 0 24 v0 rfl rfl) h0 (fun n hn => of_decide_eq_true (List.all_eq_true.1 hzz n (DataW.weights_mem_each (j := 0) (t := 24) (d := d0) rfl rfl n hn)))
  clear hA0 hval0
  refine (coreTells_law A0 c0 R0 W rd0 nn0).mono fun e W' ⟨he, bel⟩ => ?_
  subst he
  exact ⟨_, rfl, _, _, _, [], _, [], hW', trodAll_mk1 (shut_bool Try.underlying4 _), (trodAll_cons_mk (Below.trod laidOut (by kernel_rfl) (of_decide_eq_true (by kernel_rfl)) k0 bel lt0) trodAll_mk0), rfl, bel.frame _, fun h => by cases h⟩

theorem CoreTells_holds : Rows.CoreTellsSaid :=
  OpenClaim.holds_of_wide 7 Try.f7 rfl rfl rfl rfl rfl rfl rfl ⟨rfl, rfl, rfl, rfl, rfl⟩ rfl rfl rfl rfl rfl (by kernel_rfl) Try.func7 (by kernel_rfl)
    (of_decide_eq_true (by kernel_rfl)) (by unfold Func.isWrapper; first | (rw [if_pos (by decide +kernel)]; kernel_rfl) | (rw [if_neg (by decide +kernel)]; exact ⟨rfl, rfl⟩))
    (fun os started H enc _ => coreTells_lifted os started H enc)
#print axioms CoreTells_holds
end
end Go.Proofs.Ytnbjhldpadjgfaa
