/- The law RunsMore: of runs that must be longer there are no more, and all of them are among those; all numbers are counted; for whatever list and number. -/
import Derived.Test.YthldcdcpflamaaaJGRLaw
namespace Go.Proofs.Ythldcdcpflamaaa
set_option maxRecDepth 100000
set_option linter.unusedVariables false
open Go.RowKit Go.Shelf

theorem lng_sub (k : Nat) : ∀ R : List Rn, (lng (k + 1) R).Sublist (lng k R)
  | [] => .slnil
  | p :: R => by
    have ih := lng_sub k R
    unfold lng at *
    rw [List.filter_cons, List.filter_cons]
    by_cases h : k + 1 ≤ p.2
    · rw [if_pos (by simpa using h), if_pos (by simp; omega)]; exact ih.cons_cons _
    · rw [if_neg (by simpa using h)]
      split
      · exact ih.cons _
      · exact ih
theorem rz_drop (R : List Rn) (i : Nat) : (rz R).drop i = rz (R.drop i) := by simp [rz, List.map_drop]
theorem sub_cons_ne {x y : Ri} {a b : List Ri} (h : (x :: a).Sublist (y :: b)) (hne : y ≠ x) : (x :: a).Sublist b := by
  cases h with
  | cons _ h => exact h
  | cons_cons _ h => exact absurd rfl hne
theorem sub_tail {x : Ri} {a b : List Ri} (h : (x :: a).Sublist b) : a.Sublist b := (List.sublist_cons_self x a).trans h
theorem sub_lt {x : Ri} {a r : List Ri} {j : Nat} (h : (x :: a).Sublist (r.drop j)) : j < r.length := by
  have := h.length_le
  simp at this; omega
def MoRel (S R : List Ri) (w : World) (a p : Value) (wr : World) : Prop :=
  ∃ i j : Nat, i ≤ S.length ∧ j ≤ R.length ∧ p = .int .i64 (i : Int) ∧ a = .int .i64 (j : Int) ∧ (S.drop i).Sublist (R.drop j) ∧ Below w.heap.size w wr
def MiRel (S R : List Ri) (i : Nat) (w : World) (a : Value) (wr : World) : Prop :=
  ∃ j : Nat, j ≤ R.length ∧ a = .int .i64 (j : Int) ∧ (S.drop i).Sublist (R.drop j) ∧ Below w.heap.size w wr
theorem spE_more (l : List Nat) (h : Rising l) (m : Nat) (h1 : m = 300) : spE (ns l) ((m : Int) + 1) = 3 := by
  subst h1
  unfold spE
  rw [rchk_ok l h]; rfl

set_option maxHeartbeats 4000000 in
theorem runsMore_law (A : Option Addr) (c : Nat) (xs : List Int) (k : Int) (w : World) (hc : xs.length ≤ c) (hna : A = none → c = 0) (hb : ∀ x ∈ xs, -9223372036854775808 ≤ x ∧ x ≤ 9223372036854775807) (hA : RdV w w.heap.size A (zc xs)) (hn : xs.length ≤ 9223372036854775807) (hk : -9223372036854775808 ≤ k ∧ k ≤ 9223372036854775807) :
    Calls Try.prog 12 #[.slice A xs.length c, .int .i64 k] w fun e w' => e = .returned (.bool true) ∧ Below w.heap.size w w' := by
  by_cases e1 : spE xs k = 0
  · obtain ⟨l, m, rfl, hl, rfl, hm1, hm2⟩ := spE_zero xs k e1
    have hxl : (ns l).length = l.length := ns_length l
    have hR : OkR (lng m (rs l)) := okR_filter (fun p => decide (m ≤ p.2)) (rs l) (rs_okR l hl)
    have hfr : Rising (flatR (lng m (rs l))) := rising_sub (by have := flatR_sub (fun p => decide (m ≤ p.2)) (rs l); rwa [rs_flat] at this) hl
    have hspl := flatR_len_split m (rs l)
    rw [rs_flat] at hspl
    have hcm : mgA (rz (lng m (rs l))) [] = (flatR (lng m (rs l)), 0) := by
      have := mgA_ok (lng m (rs l)) hR [] ⟨by simp, trivial⟩
      rw [show ns ([] : List Nat) = [] from rfl] at this
      rw [this]
      exact mg_of (by rw [List.append_nil]) hfr
    have hsub := lng_sub m (rs l)
    have hl300 := hl.1
    have tw : IntKind.i64.wrap ((m : Int) + 1) = (m : Int) + 1 := IntWalk.i64_in _ (by omega)
    have H1 := Lib.hid (split_i l hl _ rfl m hm1 hm2 _ _ rfl rfl _ _ rfl rfl A c (by rw [← hxl]; exact hc) w hA)
    have HA := Lib.hid hA
    have HS2 : Hid (m < 300 → ∀ V, RdV V V.heap.size A (zc (ns l)) → Calls Try.prog 31 #[.slice A l.length c, .int .i64 ((m : Int) + 1)] V (SpN V (lng (m + 1) (rs l)).length (flatR (sht (m + 1) (rs l))).length (rz (lng (m + 1) (rs l))) (flatR (sht (m + 1) (rs l))) 0)) := fun h V hV => by
      have := split_i l hl _ rfl (m + 1) (by omega) (by omega) _ _ rfl rfl _ _ rfl rfl A c (by rw [← hxl]; exact hc) V hV
      rwa [show (((m + 1 : Nat)) : Int) = (m : Int) + 1 by omega] at this
    have HS3 : Hid (m = 300 → ∀ V, RdV V V.heap.size A (zc (ns l)) → Calls Try.prog 31 #[.slice A l.length c, .int .i64 ((m : Int) + 1)] V (SpN V 0 0 [] [] 3)) := fun h V hV => by
      have es := spE_more l hl m h
      obtain ⟨q1, q2⟩ := spR_no (ns l) ((m : Int) + 1) (by rw [es]; decide)
      have := split_n (ns l) l.length hxl (by omega) ((m : Int) + 1) 0 0 (by rw [q1]; rfl) (by rw [q2]; rfl) A c (by rw [← hxl]; exact hc) V hV
      rwa [es, q1, q2] at this
    rw [hxl] at *
    clear hna hb hA e1 hk hc hn hl hxl
    generalize lng m (rs l) = R at *
    generalize lng (m + 1) (rs l) = S at *
    generalize flatR (sht m (rs l)) = rest at *
    generalize flatR (sht (m + 1) (rs l)) = rest2 at *
    have hRl := hR.1
    have hSR : S.length ≤ R.length := hsub.length_le
    have HSub : Hid ((rz S).Sublist (rz R)) := hsub.map _
    have HC : Hid (∀ A1 c1 V, RdV V V.heap.size A1 (rcs (rz R)) → Calls Try.prog 33 #[.slice A1 R.length c1] V fun e w' => e = .returned (.tuple #[.int .i64 ((flatR R).length : Int), .int .i64 0]) ∧ Below V.heap.size V w') := fun A1 c1 V h => count_any (rz R) _ (rz_length R) (by omega) _ _ hcm A1 c1 V h
    have HRz : Hid ((rz R).length = R.length) := rz_length R
    have HSz : Hid ((rz S).length = S.length) := rz_length S
    generalize (flatR R).length = nf at *
    generalize R.length = nR at *
    generalize S.length = nS at *
    generalize rest.length = rl at *
    generalize rest2.length = rl2 at *
    generalize l.length = ll at *
    have t1 : (((nf : Int) + (rl : Int)) != (ll : Int)) = false := by simp; omega
    have t2 : IntKind.i64.wrap ((nf : Int) + (rl : Int)) = (nf : Int) + (rl : Int) := IntWalk.i64_in _ (by omega)
    clear hcm hfr hR hsub
    generalize rz R = RR at *
    generalize rz S = SS at *
    by_cases h300 : m < 300
    · have HS := Lib.hid (HS2.out h300)
      clear HS2 HS3
      have t5 : decide ((nS : Int) ≤ (nR : Int)) = true := by simp; omega
      have t6 : decide (nS ≤ nR) = true := by simp; omega
      go_enter Try.func12, Try.ntmps12
      go_wp2_with fail
      refine H1.out.mono ?_
      rintro e w1 ⟨A1, c1, A2, c2, rfl, -, r1, -, B1⟩
      replace HA := Lib.hid (HA.out.on B1)
      have HR1 := Lib.hid r1
      have HB := Lib.hid B1
      clear r1 B1 H1
      go_wp2_with fail
      refine (HS.out w1 HA.out).mono ?_
      rintro e w2 ⟨A3, c3, A4, c4, rfl, -, r3, -, Bq⟩
      replace HR1 := Lib.hid (HR1.out.on Bq)
      replace HB := Lib.hid (HB.out.trans (Bq.mono HB.out.size))
      have HR3 := Lib.hid r3
      clear Bq r3
      go_wp2_with fail
      refine (runsbegun_true w2).mono ?_
      rintro e w3 ⟨rfl, Bq⟩
      replace HR1 := Lib.hid (HR1.out.on Bq)
      replace HR3 := Lib.hid (HR3.out.on Bq)
      replace HB := Lib.hid (HB.out.trans (Bq.mono HB.out.size))
      clear Bq
      go_wp2_with fail
      refine (HC.out A1 c1 w3 HR1.out).mono ?_
      rintro e w4 ⟨rfl, Bq⟩
      replace HR1 := Lib.hid (HR1.out.on Bq)
      replace HR3 := Lib.hid (HR3.out.on Bq)
      replace HB := Lib.hid (HB.out.trans (Bq.mono HB.out.size))
      clear Bq
      go_wp2
      go_loopw [13, 14] (fun a p wr => MoRel SS RR w4 a p wr) (fun _ p _ => nS - (intOf p).toNat)
      case atStart => exact ⟨0, 0, Nat.zero_le _, Nat.zero_le _, rfl, rfl, HSub.out, Below.refl _ _⟩
      case round =>
        obtain ⟨i, j, hi, hj, rfl, rfl, hsb, hbel⟩ := hrel
        rw [HSz.out] at hi
        rw [HRz.out] at hj
        by_cases hlt : i < nS
        · have hin : i < SS.length := by rw [HSz.out]; exact hlt
          obtain ⟨a0, a1⟩ := rcs_at SS i hin
          obtain ⟨b, off, rfl, hb, k0⟩ := (HR3.out.on hbel).at_ a0
          obtain ⟨b2, off2, hA2, hb2, k1⟩ := (HR3.out.on hbel).at_ a1
          simp only [Option.some.injEq, Addr.mk.injEq, and_true] at hA2
          obtain ⟨rfl, rfl⟩ := hA2
          rw [← Nat.add_assoc] at k1
          have hdr := drop_atP SS i hin
          generalize SS[i]?.getD (0, 0) = x at *
          obtain ⟨f, q⟩ := x
          simp only at k0 k1
          have HDr := Lib.hid hdr
          have HB4 := Lib.hid hbel
          replace HR1 := Lib.hid (HR1.out.on hbel)
          have HSb := Lib.hid hsb
          clear hbel hsb a0 a1 hdr
          go_wp2
          go_loopw [13] (fun a w' => MiRel SS RR i wr a w') (fun a _ => nR - (intOf a).toNat)
          case atStart => exact ⟨j, by rw [HRz.out]; exact hj, rfl, HSb.out, Below.refl _ _⟩
          case round =>
            obtain ⟨u, hu, rfl, hsu, hbel⟩ := hrel
            rw [HDr.out] at hsu
            have hul := sub_lt hsu
            obtain ⟨a0, a1⟩ := rcs_at RR u hul
            obtain ⟨b3, off3, rfl, hb3, k2⟩ := (HR1.out.on hbel).at_ a0
            obtain ⟨b4, off4, hA4, hb4, k3⟩ := (HR1.out.on hbel).at_ a1
            simp only [Option.some.injEq, Addr.mk.injEq, and_true] at hA4
            obtain ⟨rfl, rfl⟩ := hA4
            rw [← Nat.add_assoc] at k3
            have k4 := (hbel.cell (p := ⟨b, off + i * 2, none⟩) hb).trans k0
            have k5 := (hbel.cell (p := ⟨b, off + i * 2 + 1, none⟩) hb).trans k1
            rw [drop_atP RR u hul] at hsu
            have hdu := drop_atP RR u hul
            generalize RR[u]?.getD (0, 0) = y at *
            obtain ⟨g, r⟩ := y
            simp only at k2 k3
            rw [HRz.out] at hul
            have t7 : (0 : Int) ≤ (u : Int) := by omega
            have t8 : (u : Int) < (nR : Int) := by omega
            have t9 : decide ((u : Int) < (nR : Int)) = true := by simp; omega
            have t10 : decide (u < nR) = true := by simp; omega
            have t11 : (0 : Int) ≤ (i : Int) := by omega
            have t12 : (i : Int) < (nS : Int) := by omega
            have t13 : decide ((nR : Int) ≤ (u : Int)) = false := by simp; omega
            have t14 : decide (nR ≤ u) = false := by simp; omega
            clear a0 a1
            by_cases hgr : (g == f && r == q) = true
            · have hq : ∀ V : World, (binOp .neq 60 (.agg #[.int .i64 g, .int .i64 r]) (.agg #[.int .i64 f, .int .i64 q])).run Try.prog V = .ok (.bool false) V := fun V => by rw [neq_run, hgr]; rfl
              have hsn : (SS.drop (i + 1)).Sublist (RR.drop u) := by rw [hdu]; exact sub_tail hsu
              have HSn := Lib.hid hsn
              have HBl := Lib.hid (HB4.out.trans (hbel.mono HB4.out.size))
              clear hgr hsn hsu hdu hbel k0 k1
              go_wp2
              go_quiet (fail)
              go_wp2
              go_roundw
              case rel => exact ⟨i + 1, u, by rw [HSz.out]; omega, by rw [HRz.out]; omega, by go_num, rfl, HSn.out, below_drewN HBl.out _⟩
              case measure => simp [intOf]; omega
            · have hgr' : (g == f && r == q) = false := by simpa using hgr
              have hq : ∀ V : World, (binOp .neq 60 (.agg #[.int .i64 g, .int .i64 r]) (.agg #[.int .i64 f, .int .i64 q])).run Try.prog V = .ok (.bool true) V := fun V => by rw [neq_run, hgr']; rfl
              have hne : ((g, r) : Ri) ≠ (f, q) := fun e => hgr (by cases e; simp)
              have hsn := sub_cons_ne hsu hne
              have HSn : Hid ((SS.drop i).Sublist (RR.drop (u + 1))) := by show List.Sublist _ _; rw [HDr.out]; exact hsn
              have HBl := Lib.hid hbel
              clear hgr hgr' hne hsn hsu hdu hbel k0 k1
              go_wp2
              go_quiet (fail)
              go_wp2
              go_roundw
              case rel => exact ⟨u + 1, by rw [HRz.out]; omega, by go_num, HSn.out, below_drewN HBl.out _⟩
              case measure => simp [intOf]; omega
        · obtain rfl : i = nS := by omega
          replace HB := Lib.hid (HB.out.trans (hbel.mono HB.out.size))
          clear hbel hsb
          go_wp2
          go_ret
          exact ⟨rfl, HB.out⟩
    · have HS := Lib.hid (HS3.out (by omega))
      clear HS2 HS3
      go_enter Try.func12, Try.ntmps12
      go_wp2_with fail
      refine H1.out.mono ?_
      rintro e w1 ⟨A1, c1, A2, c2, rfl, -, r1, -, B1⟩
      replace HA := Lib.hid (HA.out.on B1)
      have HR1 := Lib.hid r1
      have HB := Lib.hid B1
      clear r1 B1 H1
      go_wp2_with fail
      refine (HS.out w1 HA.out).mono ?_
      rintro e w2 ⟨A3, c3, A4, c4, rfl, -, r3, -, Bq⟩
      replace HR1 := Lib.hid (HR1.out.on Bq)
      replace HB := Lib.hid (HB.out.trans (Bq.mono HB.out.size))
      clear Bq r3
      go_wp2_with fail
      refine (runsbegun_true w2).mono ?_
      rintro e w3 ⟨rfl, Bq⟩
      replace HR1 := Lib.hid (HR1.out.on Bq)
      replace HB := Lib.hid (HB.out.trans (Bq.mono HB.out.size))
      clear Bq
      go_wp2_with fail
      refine (HC.out A1 c1 w3 HR1.out).mono ?_
      rintro e w4 ⟨rfl, Bq⟩
      replace HB := Lib.hid (HB.out.trans (Bq.mono HB.out.size))
      clear Bq
      go_wp2
      go_ret
      exact ⟨rfl, HB.out⟩
  · obtain ⟨q1, q2⟩ := spR_no xs k e1
    have H1 := Lib.hid (split_n xs _ rfl hn k 0 0 (by rw [q1]; rfl) (by rw [q2]; rfl) A c hc w hA)
    have H2 : Hid (∀ (k2 : Int) (V : World), RdV V V.heap.size A (zc xs) → Calls Try.prog 31 #[.slice A xs.length c, .int .i64 k2] V (SpN V (spR xs k2).length (spL xs k2).length (spR xs k2) (spL xs k2) (spE xs k2))) := fun k2 V hV => split_n xs _ rfl hn k2 _ _ rfl rfl A c hc V hV
    have HA := Lib.hid hA
    have t1 : (spE xs k != 0) = true := by simpa using e1
    generalize spE xs k = eg at *
    generalize spR xs k = gR at *
    generalize spL xs k = gL at *
    generalize xs.length = n at *
    generalize tw : IntKind.i64.wrap (k + 1) = k2 at *
    clear e1 q1 q2 hA hna hb hc
    go_enter Try.func12, Try.ntmps12
    go_wp2_with fail
    refine H1.out.mono ?_
    rintro e w1 ⟨A1, c1, A2, c2, rfl, -, -, -, B1⟩
    have HB := Lib.hid B1
    replace HA := Lib.hid (HA.out.on B1)
    clear B1
    go_wp2_with fail
    refine (H2.out k2 w1 HA.out).mono ?_
    rintro e w2 ⟨A3, c3, A4, c4, rfl, -, -, -, Bq⟩
    replace HB := Lib.hid (HB.out.trans (Bq.mono HB.out.size))
    clear Bq
    go_wp2_with fail
    refine (runsbegun_true w2).mono ?_
    rintro e w3 ⟨rfl, Bq⟩
    replace HB := Lib.hid (HB.out.trans (Bq.mono HB.out.size))
    clear Bq
    go_wp2
    go_ret
    exact ⟨rfl, HB.out⟩
end Go.Proofs.Ythldcdcpflamaaa
