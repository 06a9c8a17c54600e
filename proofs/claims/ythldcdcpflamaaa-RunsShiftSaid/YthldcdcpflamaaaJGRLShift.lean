/- The law RunsShift: all further by as much, runs are further by that, and as long; for whatever list and numbers. -/
import Derived.Test.YthldcdcpflamaaaJGRLaw
namespace Go.Proofs.Ythldcdcpflamaaa
set_option maxRecDepth 100000
set_option linter.unusedVariables false
open Go.RowKit Go.Shelf

def shr (d : Int) (p : Ri) : Ri := (p.1 + d, p.2)
theorem shr_parts (d : Int) (k : Nat) : ∀ A B : List Rn, rz B = (rz A).map (shr d) → rz (lng k B) = (rz (lng k A)).map (shr d) ∧ ns (flatR (sht k B)) = (ns (flatR (sht k A))).map (· + d)
  | [], [], _ => by simp [lng, sht, flatR, rz, ns]
  | [], _ :: _, h => by simp [rz] at h
  | _ :: _, [], h => by simp [rz] at h
  | (f, m) :: A, (g, n) :: B, h => by
    simp only [rz, List.map_cons, List.cons.injEq, shr, Prod.mk.injEq] at h
    obtain ⟨⟨h1, h2⟩, h3⟩ := h
    have hn : n = m := by omega
    subst hn
    obtain ⟨i1, i2⟩ := shr_parts d k A B h3
    have hnum : ns (List.range' g n) = (ns (List.range' f n)).map (· + d) := by
      unfold ns
      rw [List.range'_eq_map_range, List.range'_eq_map_range, List.map_map, List.map_map, List.map_map]
      refine List.map_congr_left fun x _ => ?_
      simp only [Function.comp]
      omega
    unfold lng sht at *
    rw [List.filter_cons, List.filter_cons, List.filter_cons, List.filter_cons]
    by_cases hk : k ≤ n
    · have e1 : decide (k ≤ n) = true := by simpa using hk
      have e2 : decide (n < k) = false := by simp; omega
      simp only [e1, e2, if_true]
      refine ⟨?_, by simpa using i2⟩
      simp only [rz, List.map_cons, List.cons.injEq, shr, Prod.mk.injEq] at i1 ⊢
      exact ⟨⟨h1, trivial⟩, i1⟩
    · have e1 : decide (k ≤ n) = false := by simpa using hk
      have e2 : decide (n < k) = true := by simp; omega
      simp only [e1, e2, if_true]
      refine ⟨by simpa using i1, ?_⟩
      rw [flatR_cons, flatR_cons, ns_append, ns_append, List.map_append]
      exact congr (congrArg HAppend.hAppend hnum) i2
theorem at_shr (d : Int) (r : List Ri) (i : Nat) (h : i < r.length) : (r.map (shr d))[i]?.getD (0, 0) = ((r[i]?.getD (0, 0)).1 + d, (r[i]?.getD (0, 0)).2) := by
  rw [List.getElem?_map, List.getElem?_eq_getElem h]; rfl
theorem at_add (d : Int) (r : List Int) (i : Nat) (h : i < r.length) : (r.map (· + d))[i]?.getD 0 = r[i]?.getD 0 + d := by
  rw [List.getElem?_map, List.getElem?_eq_getElem h]; rfl
theorem take_snocIR (xs : List Int) (i : Nat) (h : i < xs.length) : xs.take (i + 1) = xs.take i ++ [xs[i]?.getD 0] := by
  rw [List.take_succ_eq_append_getElem h, List.getElem?_eq_getElem h]; rfl
def ShRelR (xs : List Int) (d : Int) (w : World) (v p : Value) (wr : World) : Prop :=
  ∃ i : Nat, i ≤ xs.length ∧ p = .int .i64 (i : Int) ∧ wr.ownsRow w.heap.size 3 1 v i (zc ((xs.map (· + d)).take i)) ∧ Below w.heap.size w wr
/-- What comes of all further by as much. -/
theorem split_shift (l : List Nat) (hl : Rising l) (n : Nat) (hn : l.length = n) (k : Nat) (hk : 2 ≤ k) (hk2 : k ≤ 300) (d : Int) (A1 : List Rn) (A2 : List Nat) (h1 : lng k (rs l) = A1) (h2 : flatR (sht k (rs l)) = A2) (n1 n2 : Nat) (hn1 : A1.length = n1) (hn2 : A2.length = n2) :
    (∀ (A : Option Addr) (c : Nat) (V : World), n ≤ c → RdV V V.heap.size A (zc ((ns l).map (· + d))) → Calls Try.prog 31 #[.slice A n c, .int .i64 (k : Int)] V (SpN V 0 0 [] [] 3)) ∨
    ∃ (B1 : List Rn) (B2 : List Nat), rz B1 = (rz A1).map (shr d) ∧ ns B2 = (ns A2).map (· + d) ∧
      (∀ (A : Option Addr) (c : Nat) (V : World), n ≤ c → RdV V V.heap.size A (zc ((ns l).map (· + d))) → Calls Try.prog 31 #[.slice A n c, .int .i64 (k : Int)] V (SpN V n1 n2 (rz B1) B2 0)) := by
  have hlen : ((ns l).map (· + d)).length = n := by simp [ns, hn]
  have h300 := hl.1
  have e1 : decide ((2 : Int) ≤ (k : Int)) = true := by simp; omega
  have e2 : decide ((k : Int) ≤ 300) = true := by simp; omega
  rcases rchk_shift d l hl with h | h
  · right
    obtain ⟨l2, e3, hl2⟩ := rchk_zero _ h
    have hs := rs_shift d l l2 e3.symm
    obtain ⟨q1, q2⟩ := shr_parts d k (rs l) (rs l2) hs
    rw [h1] at q1
    rw [h2] at q2
    refine ⟨lng k (rs l2), flatR (sht k (rs l2)), q1, q2, fun A c V hc hV => ?_⟩
    rw [e3] at hV
    refine split_i l2 hl2 n ?_ k hk hk2 _ _ rfl rfl n1 n2 ?_ ?_ A c hc V hV
    · rw [← hlen, e3, ns_length]
    · rw [← rz_length, q1, List.length_map, rz_length, hn1]
    · rw [← ns_length, q2, List.length_map, ns_length, hn2]
  · left
    intro A c V hc hV
    have es : spE ((ns l).map (· + d)) (k : Int) = 3 := by unfold spE; rw [h, e1, e2]; rfl
    obtain ⟨q1, q2⟩ := spR_no ((ns l).map (· + d)) (k : Int) (by rw [es]; decide)
    have := split_n _ n hlen (by omega) (k : Int) 0 0 (by rw [q1]; rfl) (by rw [q2]; rfl) A c hc V hV
    rwa [es, q1, q2] at this

set_option maxHeartbeats 4000000 in
theorem runsShift_law (A : Option Addr) (c : Nat) (xs : List Int) (k d : Int) (w : World) (hc : xs.length ≤ c) (hna : A = none → c = 0) (hb : ∀ x ∈ xs, -9223372036854775808 ≤ x ∧ x ≤ 9223372036854775807) (hA : RdV w w.heap.size A (zc xs)) (hn : xs.length ≤ 9223372036854775807) (hk : -9223372036854775808 ≤ k ∧ k ≤ 9223372036854775807) (hd : -9223372036854775808 ≤ d ∧ d ≤ 9223372036854775807) :
    Calls Try.prog 13 #[.slice A xs.length c, .int .i64 k, .int .i64 d] w fun e w' => e = .returned (.bool true) ∧ Below w.heap.size w w' := by
  by_cases e1 : spE xs k = 0
  · obtain ⟨l, m, rfl, hl, rfl, hm1, hm2⟩ := spE_zero xs k e1
    rw [ns_length] at *
    have hR := okR_filter (fun p => decide (m ≤ p.2)) (rs l) (rs_okR l hl)
    have hR' : OkR (lng m (rs l)) := hR
    have hrest := sht_rising m l hl
    have hsp := split_shift l hl _ rfl m hm1 hm2 d _ _ rfl rfl _ _ rfl rfl
    have H1 := Lib.hid (split_i l hl _ rfl m hm1 hm2 _ _ rfl rfl _ _ rfl rfl A c hc w hA)
    have HA := Lib.hid hA
    have hle : ∀ x ∈ l, x ≤ 1048576 := fun x hx => (ris_le l _ hl.2 x hx).2
    have hl300 := hl.1
    have hr300 := hrest.1
    have hrle : ∀ x ∈ flatR (sht m (rs l)), x ≤ 1048576 := fun x hx => (ris_le _ _ hrest.2 x hx).2
    clear e1 hR hA hna hb hl hrest
    generalize lng m (rs l) = R at *
    generalize flatR (sht m (rs l)) = rest at *
    have HRb : Hid (∀ p ∈ R, p.1 ≤ 1048576 ∧ p.2 ≤ 300) := fun p hp => by have := hR'.2.2 p hp; have := sep_pos R _ hR'.2.1 p hp; omega
    have hRl := hR'.1
    have HLe := Lib.hid hle; have HRe := Lib.hid hrle
    generalize hll : l.length = ll at *
    generalize hrl : rest.length = rl at *
    generalize hRn : R.length = nR at *
    have HLl := Lib.hid hll; have HRl := Lib.hid hrl; have HRn := Lib.hid hRn
    clear hle hrle hll hrl hRn hR'
    obtain ⟨i0, hi, hz0, hz1, hz2⟩ := info_parts info3
    have HML : Hid (((ns l).map (· + d)).length = ll) := by show _ = _; simp [ns, HLl.out]
    by_cases d1 : d < -1048576
    · have t1 : decide (d < -1048576) = true := by simpa using d1
      clear d1 hd
      go_enter Try.func13, Try.ntmps13
      go_wp2_with fail
      refine H1.out.mono ?_
      rintro e w1 ⟨A1, c1, A2, c2, rfl, -, -, -, B1⟩
      have HB := Lib.hid B1
      clear B1
      go_wp2_with fail
      refine (runsbegun_true w1).mono ?_
      rintro e w2 ⟨rfl, Bq⟩
      replace HB := Lib.hid (HB.out.trans (Bq.mono HB.out.size))
      clear Bq
      go_wp2
      go_ret
      exact ⟨rfl, HB.out⟩
    · have t1 : decide (d < -1048576) = false := by simp; omega
      by_cases d2 : 1048576 < d
      · have t2 : decide (1048576 < d) = true := by simpa using d2
        clear d1 d2 hd
        go_enter Try.func13, Try.ntmps13
        go_wp2_with fail
        refine H1.out.mono ?_
        rintro e w1 ⟨A1, c1, A2, c2, rfl, -, -, -, B1⟩
        have HB := Lib.hid B1
        clear B1
        go_wp2_with fail
        refine (runsbegun_true w1).mono ?_
        rintro e w2 ⟨rfl, Bq⟩
        replace HB := Lib.hid (HB.out.trans (Bq.mono HB.out.size))
        clear Bq
        go_wp2
        go_ret
        exact ⟨rfl, HB.out⟩
      · have t2 : decide (1048576 < d) = false := by simp; omega
        clear hd hc hn
        go_enter Try.func13, Try.ntmps13
        go_wp2_with fail
        refine H1.out.mono ?_
        rintro e w1 ⟨A1, c1, A2, c2, rfl, -, r1, r2, B1⟩
        replace HA := Lib.hid (HA.out.on B1)
        have HR1 := Lib.hid r1; have HR2 := Lib.hid r2
        have HB := Lib.hid B1
        clear r1 r2 B1 H1
        go_wp2_with fail
        refine (runsbegun_true w1).mono ?_
        rintro e w2 ⟨rfl, Bq⟩
        replace HA := Lib.hid (HA.out.on Bq)
        replace HR1 := Lib.hid (HR1.out.on Bq)
        replace HR2 := Lib.hid (HR2.out.on Bq)
        replace HB := Lib.hid (HB.out.trans (Bq.mono HB.out.size))
        clear Bq
        go_wp2
        go_loopw [10, 11] (fun v p wr => ShRelR (ns l) d w2 v p wr) (fun _ p _ => ll - (intOf p).toNat)
        case atStart => exact ⟨0, Nat.zero_le _, rfl, ⟨rfl, .inl ⟨rfl, rfl⟩⟩, Below.refl _ _⟩
        case round =>
          obtain ⟨i, hi', rfl, hrow, hbel⟩ := hrel
          rw [ns_length, HLl.out] at hi'
          by_cases hlt : i < ll
          · have hin : i < l.length := by rw [HLl.out]; exact hlt
            obtain ⟨b, off, rfl, hb, hcx⟩ := (HA.out.on hbel).at_ (ns_get l i hin)
            have hx := HLe.out _ (at_mem l i hin)
            have htk := take_snocIR ((ns l).map (· + d)) i (by rw [HML.out]; exact hlt)
            rw [at_add d (ns l) i (by rw [ns_length]; exact hin)] at htk
            have hxx : (ns l)[i]?.getD 0 = ((l[i]?.getD 0 : Nat) : Int) := by simp [ns, List.getElem?_map, List.getElem?_eq_getElem hin]
            rw [hxx] at htk
            generalize l[i]?.getD 0 = x at *
            have hzz : zc (((ns l).map (· + d)).take i) ++ [Value.int .i64 ((x : Int) + d)] = zc (((ns l).map (· + d)).take (i + 1)) := by rw [htk, zc_append]; rfl
            have HZZ := Lib.hid hzz; clear hzz htk hxx
            have HB2 := Lib.hid hbel; clear hbel
            obtain ⟨Av, cv, rfl⟩ := own_slice3 hrow
            go_wp2_with (at_builtin; refine wpList_append_own _ rfl _ _ 22 rfl w2.heap.size 3 i0 (.int .i64 0) 1 8 Try.underlying22 hi hz0 hz1 hz2 rfl (by decide) _ _ _ rfl (hrow.alloc _) ⟨wr.heap.size, 0, none⟩ 1 1 [.int .i64 ((x : Int) + d)] rfl rfl (news_row wr [.int .i64 ((x : Int) + d)] _) (by simp [Value.oneCell']) (by unfold maxLen; omega) (by omega) (by have := HB2.out.size; simp; omega) ?_; intro v' w3 hown' hgrow _)
            rw [HZZ.out] at hown'
            have HO3 := Lib.hid hown'
            have HB3 : Hid (Below w2.heap.size w2 w3) := HB2.out.trans (((Below.refl w2.heap.size wr).alloc HB2.out.size _).trans (grown_low hgrow (hrow.alloc _) (by have := HB2.out.size; simp; omega)))
            clear hown' hgrow hrow
            go_roundw
            case rel => exact ⟨i + 1, by rw [ns_length, HLl.out]; omega, by go_num, HO3.out, HB3.out⟩
            case measure => simp [intOf]; omega
          · have e : ((ns l).map (· + d)).take i = (ns l).map (· + d) := List.take_of_length_le (by rw [HML.out]; omega)
            rw [e] at hrow
            obtain rfl : i = ll := by omega
            obtain ⟨Av, cv, rfl⟩ := own_slice3 hrow
            have HM := Lib.hid (own_rdv hrow)
            have hcv := own_cap hrow
            replace HR1 := Lib.hid (HR1.out.on hbel)
            replace HR2 := Lib.hid (HR2.out.on hbel)
            replace HB := Lib.hid (HB.out.trans (hbel.mono HB.out.size))
            clear hrow hbel e HA
            rcases hsp with hs | ⟨B1, B2, g1, g2, hs⟩
            · go_wp2_with fail
              refine (hs Av cv wr hcv HM.out).mono ?_
              rintro e w4 ⟨A3, c3, A4, c4, rfl, -, -, -, Bq⟩
              replace HB := Lib.hid (HB.out.trans (Bq.mono HB.out.size))
              clear Bq hs
              go_wp2
              go_ret
              exact ⟨rfl, HB.out⟩
            · have HS := Lib.hid hs; have G1 := Lib.hid g1; have G2 := Lib.hid g2
              clear hs g1 g2
              go_wp2_with fail
              refine (HS.out Av cv wr hcv HM.out).mono ?_
              rintro e w4 ⟨A3, c3, A4, c4, rfl, -, r3, r4, Bq⟩
              replace HR1 := Lib.hid (HR1.out.on Bq)
              replace HR2 := Lib.hid (HR2.out.on Bq)
              replace HB := Lib.hid (HB.out.trans (Bq.mono HB.out.size))
              have HR3 := Lib.hid r3; have HR4 := Lib.hid r4
              rw [G1.out] at HR3
              rw [G2.out] at HR4
              clear Bq r3 r4 HM HS
              go_wp2
              go_loopw [15] (fun p wr => FarRel nR w4 p wr) (fun p _ => nR - (intOf p).toNat)
              case atStart => exact ⟨0, Nat.zero_le _, rfl, Below.refl _ _⟩
              case round =>
                obtain ⟨j, hj, rfl, hbel⟩ := hrel
                by_cases hlt2 : j < nR
                · have hin : j < R.length := by rw [HRn.out]; exact hlt2
                  obtain ⟨a0, a1⟩ := rcs_at (rz R) j (by rw [rz_length]; exact hin)
                  obtain ⟨s0, s1⟩ := rcs_at ((rz R).map (shr d)) j (by rw [List.length_map, rz_length]; exact hin)
                  rw [at_shr d (rz R) j (by rw [rz_length]; exact hin)] at s0 s1
                  rw [rz_at R j hin] at a0 a1 s0 s1
                  obtain ⟨b, off, rfl, hb, k0⟩ := (HR1.out.on hbel).at_ a0
                  obtain ⟨b2, off2, hA2, hb2, k1⟩ := (HR1.out.on hbel).at_ a1
                  simp only [Option.some.injEq, Addr.mk.injEq, and_true] at hA2
                  obtain ⟨rfl, rfl⟩ := hA2
                  obtain ⟨b3, off3, rfl, hb3, k2⟩ := (HR3.out.on hbel).at_ s0
                  obtain ⟨b4, off4, hA4, hb4, k3⟩ := (HR3.out.on hbel).at_ s1
                  simp only [Option.some.injEq, Addr.mk.injEq, and_true] at hA4
                  obtain ⟨rfl, rfl⟩ := hA4
                  rw [← Nat.add_assoc] at k1 k3
                  have hbd := HRb.out _ (mem_at R j hin)
                  generalize R[j]?.getD (0, 0) = x at *
                  obtain ⟨f, q⟩ := x
                  simp only at k0 k1 k2 k3 hbd
                  have tw : IntKind.i64.wrap ((f : Int) + d) = (f : Int) + d := IntWalk.i64_in _ (by omega)
                  have t3 : decide ((nR : Int) ≤ (j : Int)) = false := by simp; omega
                  have t4 : decide (nR ≤ j) = false := by simp; omega
                  have t5 : (((f : Int) + d) != ((f : Int) + d)) = false := by simp
                  have t6 : ((q : Int) != (q : Int)) = false := by simp
                  have t7 : (0 : Int) ≤ (j : Int) := by omega
                  have t8 : (j : Int) < (nR : Int) := by omega
                  have HBl := Lib.hid hbel
                  clear hbel a0 a1 s0 s1
                  go_wp2
                  go_quiet (fail)
                  go_wp2
                  go_roundw
                  case rel => exact ⟨j + 1, by omega, by go_num, below_drewN HBl.out _⟩
                  case measure => simp [intOf]; omega
                · obtain rfl : j = nR := by omega
                  replace HR2 := Lib.hid (HR2.out.on hbel)
                  replace HR4 := Lib.hid (HR4.out.on hbel)
                  replace HB := Lib.hid (HB.out.trans (hbel.mono HB.out.size))
                  clear hbel HR1 HR3
                  go_wp2
                  go_loopw [16] (fun p w' => FarRel rl wr p w') (fun p _ => rl - (intOf p).toNat)
                  case atStart => exact ⟨0, Nat.zero_le _, rfl, Below.refl _ _⟩
                  case round =>
                    obtain ⟨u, hu, rfl, hbel⟩ := hrel
                    by_cases hlt3 : u < rl
                    · have hin : u < rest.length := by rw [HRl.out]; exact hlt3
                      have s0 := zc_get ((ns rest).map (· + d)) u (by rw [List.length_map, ns_length]; exact hin)
                      rw [at_add d (ns rest) u (by rw [ns_length]; exact hin)] at s0
                      have hxx : (ns rest)[u]?.getD 0 = ((rest[u]?.getD 0 : Nat) : Int) := by simp [ns, List.getElem?_map, List.getElem?_eq_getElem hin]
                      rw [hxx] at s0
                      obtain ⟨b, off, rfl, hb, k0⟩ := (HR2.out.on hbel).at_ (ns_get rest u hin)
                      obtain ⟨b3, off3, rfl, hb3, k2⟩ := (HR4.out.on hbel).at_ s0
                      have hbd := HRe.out _ (at_mem rest u hin)
                      generalize rest[u]?.getD 0 = x at *
                      have tw : IntKind.i64.wrap ((x : Int) + d) = (x : Int) + d := IntWalk.i64_in _ (by omega)
                      have t3 : decide ((rl : Int) ≤ (u : Int)) = false := by simp; omega
                      have t4 : decide (rl ≤ u) = false := by simp; omega
                      have t5 : (((x : Int) + d) != ((x : Int) + d)) = false := by simp
                      have t7 : (0 : Int) ≤ (u : Int) := by omega
                      have t8 : (u : Int) < (rl : Int) := by omega
                      have HBl := Lib.hid hbel
                      clear hbel s0 hxx
                      go_wp2
                      go_quiet (fail)
                      go_wp2
                      go_roundw
                      case rel => exact ⟨u + 1, by omega, by go_num, below_drewN HBl.out _⟩
                      case measure => simp [intOf]; omega
                    · obtain rfl : u = rl := by omega
                      replace HB := Lib.hid (HB.out.trans (hbel.mono HB.out.size))
                      clear hbel HR2 HR4
                      go_wp2
                      go_ret
                      exact ⟨rfl, HB.out⟩
  · obtain ⟨q1, q2⟩ := spR_no xs k e1
    have H1 := Lib.hid (split_n xs _ rfl hn k 0 0 (by rw [q1]; rfl) (by rw [q2]; rfl) A c hc w hA)
    have t1 : (spE xs k != 0) = true := by simpa using e1
    generalize spE xs k = eg at *
    generalize spR xs k = gR at *
    generalize spL xs k = gL at *
    generalize xs.length = n at *
    clear e1 q1 q2 hA hna hb hc
    go_enter Try.func13, Try.ntmps13
    go_wp2_with fail
    refine H1.out.mono ?_
    rintro e w1 ⟨A1, c1, A2, c2, rfl, -, -, -, B1⟩
    have HB := Lib.hid B1
    clear B1
    go_wp2_with fail
    refine (runsbegun_true w1).mono ?_
    rintro e w2 ⟨rfl, Bq⟩
    replace HB := Lib.hid (HB.out.trans (Bq.mono HB.out.size))
    clear Bq
    go_wp2
    go_ret
    exact ⟨rfl, HB.out⟩
end Go.Proofs.Ythldcdcpflamaaa
