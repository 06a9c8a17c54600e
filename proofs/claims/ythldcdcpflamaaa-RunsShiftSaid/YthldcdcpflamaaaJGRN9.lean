/- What Merge and Count answer, for whatever runs and numbers they are handed. -/
import Derived.Test.YthldcdcpflamaaaJGRN8
import Derived.Test.YthldcdcpflamaaaJGRUn
import Derived.Laws.AppendOwnNone
namespace Go.Proofs.Ythldcdcpflamaaa
set_option maxRecDepth 100000
set_option linter.unusedVariables false
open Go.RowKit Go.Shelf

set_option maxHeartbeats 1000000 in
theorem merge_e (r : List Ri) (n1 : Nat) (hn1 : r.length = n1) (hz1 : n1 ≤ 9223372036854775807) (xs : List Int) (n2 : Nat) (hn2 : xs.length = n2) (hz2 : n2 ≤ 9223372036854775807) (h0 : mgE0 r xs ≠ 0) (A1 A2 : Option Addr) (c1 c2 : Nat) (w : World) (h1 : RdV w w.heap.size A1 (rcs r)) (h2 : RdV w w.heap.size A2 (zc xs)) :
    Calls Try.prog 32 #[.slice A1 n1 c1, .slice A2 n2 c2] w (IntsP w [] (mgE0 r xs)) := by
  have HC1 := Lib.hid (rnck_any r n1 hn1 hz1 A1 c1 w h1)
  have HC2 : Hid (∀ V, Below w.heap.size w V → Calls Try.prog 23 #[.slice A2 n2 c2] V fun e w' => e = .returned (.int .i64 (rchk xs)) ∧ Below V.heap.size V w') := fun V hV => gcheck_any xs n2 hn2 hz2 A2 c2 V (h2.on hV)
  unfold mgE0 at *
  clear h1 h2 hn1 hn2
  by_cases hr : rkchk r = 0
  · rw [if_neg (by simpa using hr)] at *
    rw [hr] at HC1
    generalize rchk xs = e2 at *
    have t0 : (e2 != 0) = true := by simpa using h0
    clear h0 hr
    go_enter Try.func32, Try.ntmps32
    go_wp2_with fail
    refine HC1.out.mono ?_
    rintro e w1 ⟨rfl, B1⟩
    have HB1 := Lib.hid B1; clear B1
    go_wp2_with fail
    refine (HC2.out w1 HB1.out).mono ?_
    rintro e w2 ⟨rfl, B2⟩
    have HB2 := Lib.hid (HB1.out.trans (B2.mono HB1.out.size)); clear B2
    go_wp2
    go_ret2
    exact ⟨none, 0, rfl, Nat.le_refl _, fun _ => rfl, .inl rfl, HB2.out⟩
  · rw [if_pos hr] at *
    generalize rkchk r = e1 at *
    have t0 : (e1 != 0) = true := by simpa using hr
    clear h0 hr HC2
    go_enter Try.func32, Try.ntmps32
    go_wp2_with fail
    refine HC1.out.mono ?_
    rintro e w1 ⟨rfl, B1⟩
    have HB1 := Lib.hid B1; clear B1
    go_wp2
    go_ret2
    exact ⟨none, 0, rfl, Nat.le_refl _, fun _ => rfl, .inl rfl, HB1.out⟩

theorem rz_at (R : List Rn) (i : Nat) (h : i < R.length) : (rz R)[i]?.getD (0, 0) = (((R[i]?.getD (0, 0)).1 : Int), ((R[i]?.getD (0, 0)).2 : Int)) := by
  unfold rz; rw [List.getElem?_map, List.getElem?_eq_getElem h]; rfl
theorem mem_at (R : List Rn) (i : Nat) (h : i < R.length) : R[i]?.getD (0, 0) ∈ R := by rw [List.getElem?_eq_getElem h]; exact List.getElem_mem h
theorem take_snocR (R : List Rn) (i : Nat) (h : i < R.length) : R.take (i + 1) = R.take i ++ [R[i]?.getD (0, 0)] := by
  rw [List.take_succ_eq_append_getElem h, List.getElem?_eq_getElem h]; rfl
theorem flat_len (R : List Rn) (h : ∀ p ∈ R, p.2 ≤ 300) : (flatR R).length ≤ 300 * R.length := by
  induction R with
  | nil => simp [flatR]
  | cons p R ih =>
    rw [flatR_cons, List.length_append, nums_length, List.length_cons]
    have := ih (fun q hq => h q (by simp [hq]))
    have := h p (by simp)
    omega
theorem rdv_news {w : World} {B : Nat} {a : Addr} {vs : List Value} (h : RdV w B (some a) vs) : ∀ j u, vs[j]? = some u → w.cell? (a.add j) = some u := by
  intro j u hu
  obtain ⟨b, off, e, hb, hc⟩ := h.at_ hu
  cases e
  rw [add_plR]; exact hc
/-- At each round's head: the numbers of the first i runs. -/
def MgRel (R : List Rn) (w : World) (v p : Value) (wr : World) : Prop :=
  ∃ i : Nat, i ≤ R.length ∧ p = .int .i64 (i : Int) ∧ wr.ownsRow w.heap.size 3 1 v (flatR (R.take i)).length (zc (ns (flatR (R.take i)))) ∧ Below w.heap.size w wr
set_option maxHeartbeats 4000000 in
theorem merge_in (R : List Rn) (hR : OkR R) (M1 : List Nat) (M2 : Int) (n1 : Nat) (hn1 : R.length = n1) (l : List Nat) (hl : Rising l) (hM : mg R l = (M1, M2)) (n2 : Nat) (hn2 : l.length = n2) (A1 A2 : Option Addr) (c1 c2 : Nat) (hA2 : A2 = none → c2 = 0) (w : World) (h1 : RdV w w.heap.size A1 (rcs (rz R))) (h2 : RdV w w.heap.size A2 (zc (ns l))) :
    Calls Try.prog 32 #[.slice A1 n1 c1, .slice A2 n2 c2] w (IntsP w M1 M2) := by
  have h300 : n1 ≤ 300 := by have := hR.1; omega
  have h3002 : n2 ≤ 300 := by have := hl.1; omega
  have HC1 : Hid (Calls Try.prog 66 #[.slice A1 n1 c1] w fun e w' => e = .returned (.int .i64 0) ∧ Below w.heap.size w w') := by
    have := rnck_any (rz R) n1 (by rw [rz_length, hn1]) (by omega) A1 c1 w h1
    rwa [rkchk_ok R hR] at this
  have HC2 : Hid (∀ V, Below w.heap.size w V → Calls Try.prog 23 #[.slice A2 n2 c2] V fun e w' => e = .returned (.int .i64 0) ∧ Below V.heap.size V w') := fun V hV => by
    have := gcheck_any (ns l) n2 (by rw [ns_length, hn2]) (by omega) A2 c2 V (h2.on hV)
    rwa [rchk_ok l hl] at this
  have HFl : Hid (∀ i, i ≤ n1 → (flatR (R.take i)).length ≤ 90000) := fun i hi => by
    have := flat_len (R.take i) (fun p hp => (hR.2.2 p (List.mem_of_mem_take hp)).1)
    have := List.length_take_le i R
    omega
  have HBd : Hid (∀ p ∈ R, p.1 ≤ 1048576 ∧ p.2 ≤ 300) := fun p hp => by have := hR.2.2 p hp; have := sep_pos R _ hR.2.1 p hp; omega
  obtain ⟨i0, hi, hz0, hz1, hz2⟩ := info_parts info3
  have HX1 := Lib.hid h1; have HX2 := Lib.hid h2; have HN1 := Lib.hid hn1; have HN2 := Lib.hid hn2; have HMM := Lib.hid hM
  clear h1 h2 hn1 hn2 hR hl hM
  go_enter Try.func32, Try.ntmps32
  go_wp2_with fail
  refine HC1.out.mono ?_
  rintro e w1 ⟨rfl, B1⟩
  have HB1 := Lib.hid B1; clear B1
  go_wp2_with fail
  refine (HC2.out w1 HB1.out).mono ?_
  rintro e w2 ⟨rfl, B2⟩
  have HB2 := Lib.hid (HB1.out.trans (B2.mono HB1.out.size)); clear B2 HB1
  go_wp2
  go_loopw [8, 23] (fun v p wr => MgRel R w v p wr) (fun _ p _ => n1 - (intOf p).toNat)
  case atStart => exact ⟨0, Nat.zero_le _, rfl, ⟨rfl, .inl ⟨rfl, rfl⟩⟩, HB2.out⟩
  case round =>
    obtain ⟨i, hi', rfl, hrow, hbel⟩ := hrel
    rw [HN1.out] at hi'
    by_cases hlt : i < n1
    · have hin : i < R.length := by rw [HN1.out]; exact hlt
      obtain ⟨r0, r1⟩ := rcs_at (rz R) i (by rw [rz_length]; exact hin)
      rw [rz_at R i hin] at r0 r1
      obtain ⟨b, off, rfl, hb, k0⟩ := (HX1.out.on hbel).at_ r0
      obtain ⟨b2, off2, hA2', hb2, k1⟩ := (HX1.out.on hbel).at_ r1
      simp only [Option.some.injEq, Addr.mk.injEq, and_true] at hA2'
      obtain ⟨rfl, rfl⟩ := hA2'
      rw [← Nat.add_assoc] at k1
      have hbd := HBd.out _ (mem_at R i hin)
      have htk := take_snocR R i hin
      have hfl := HFl.out i hi'
      generalize R[i]?.getD (0, 0) = x at *
      obtain ⟨f, m⟩ := x
      simp only at k0 k1 hbd
      have HT : Hid (flatR (R.take (i + 1)) = flatR (R.take i) ++ List.range' f m) := by show _ = _; rw [htk, flatR_snoc]; rfl
      have HB := Lib.hid hbel
      have hrow2 := (hrow.alloc (.cells #[.int .i64 (f : Int), .int .i64 (m : Int)] 60)).alloc (.cells #[.int .i64 (f : Int), .int .i64 (m : Int)] 60)
      have hbox2 : ((wr.alloc (.cells #[.int .i64 (f : Int), .int .i64 (m : Int)] 60)).alloc (.cells #[.int .i64 (f : Int), .int .i64 (m : Int)] 60)).heap[wr.heap.size + 1]? = some (.cells #[.int .i64 (f : Int), .int .i64 (m : Int)] 60 (0, 0)) := by
        have := World.alloc_heap_new (wr.alloc (.cells #[.int .i64 (f : Int), .int .i64 (m : Int)] 60)) (.cells #[.int .i64 (f : Int), .int .i64 (m : Int)] 60)
        rwa [World.size_alloc] at this
      obtain ⟨Av, cv, rfl⟩ := own_slice3 hrow
      have HA := Lib.hid (appseq_in f m hbd.1 hbd.2 (wr.heap.size + 1) w.heap.size _ _ (by omega) _ _ hrow2 hbox2 (by have := hbel.size; simp; omega))
      have hb2 : Below w.heap.size w ((wr.alloc (.cells #[.int .i64 (f : Int), .int .i64 (m : Int)] 60)).alloc (.cells #[.int .i64 (f : Int), .int .i64 (m : Int)] 60)) := (hbel.alloc hbel.size _).alloc (by have := hbel.size; simp; omega) _
      have HBB := Lib.hid hb2
      clear hrow hrow2 hbox2 hb2 hbel htk hbd r0 r1
      generalize hk : (flatR (R.take i)).length = k at *
      have HKl := Lib.hid hk; clear hk
      go_wp2_with fail
      refine (callsIn_wide.1 (nums_of 4 _ _ _)).mono ?_
      rintro e w' ⟨rfl, rfl⟩
      go_wp2_with fail
      refine HA.out.mono ?_
      rintro e w3 ⟨v', rfl, hown', hfr⟩
      obtain ⟨Av', cv', rfl⟩ := own_slice3 hown'
      have HO3 := Lib.hid hown'
      have HB3 : Hid (Below w.heap.size w w3) := HBB.out.trans (hfr.below (fun j hj => ⟨.inl hj, by have := HB.out.size; simp; omega⟩))
      clear hown' hfr
      go_wp2
      go_roundw
      case rel => exact ⟨i + 1, by rw [HN1.out]; omega, by go_num, by rw [HT.out, List.length_append, HKl.out, List.length_range', ns_append, zc_append]; exact HO3.out, HB3.out⟩
      case measure => simp [intOf]; omega
    · have e : R.take i = R := List.take_of_length_le (by rw [HN1.out]; omega)
      rw [e] at hrow
      have hfl := HFl.out n1 (Nat.le_refl _)
      rw [List.take_of_length_le (by rw [HN1.out]; omega)] at hfl
      obtain rfl : i = n1 := by omega
      obtain ⟨Av, cv, rfl⟩ := own_slice3 hrow
      have HB0 := Lib.hid hbel
      have hX2 := HX2.out.on hbel
      have HU := Lib.hid (union_any (flatR R) l (flatR R).length n2 rfl HN2.out (by omega) (by omega) M1 M2 HMM.out Av A2 cv c2 (own_none hrow) hA2 wr (own_rdv hrow) hX2)
      clear hbel e hrow hX2 HC1 HC2 HB2
      generalize (flatR R).length = N at *
      go_wp2_with fail
      refine HU.out.mono ?_
      rintro e w3 ⟨A3, c3, rfl, k1, k2, k3, k4⟩
      have HB3 : Hid (Below w.heap.size w w3) := HB0.out.trans (k4.mono HB0.out.size)
      have HR3 := Lib.hid k3
      clear k3 k4 HU
      go_wp2
      go_ret2
      exact ⟨A3, c3, rfl, k1, k2, HR3.out, HB3.out⟩
theorem merge_any (r : List Ri) (n1 : Nat) (hn1 : r.length = n1) (hz1 : n1 ≤ 9223372036854775807) (xs : List Int) (n2 : Nat) (hn2 : xs.length = n2) (hz2 : n2 ≤ 9223372036854775807) (A1 A2 : Option Addr) (c1 c2 : Nat) (hA2 : A2 = none → c2 = 0) (w : World) (h1 : RdV w w.heap.size A1 (rcs r)) (h2 : RdV w w.heap.size A2 (zc xs)) :
    Calls Try.prog 32 #[.slice A1 n1 c1, .slice A2 n2 c2] w (IntsP w (mgA r xs).1 (mgA r xs).2) := by
  by_cases h0 : mgE0 r xs = 0
  · obtain ⟨R, l, rfl, hR, rfl, hl⟩ := mgA_zero r xs h0
    rw [mgA_ok R hR l hl]
    exact merge_in R hR _ _ n1 (by rw [rz_length] at hn1; exact hn1) l hl rfl n2 (by rw [ns_length] at hn2; exact hn2) A1 A2 c1 c2 hA2 w h1 h2
  · have e : mgA r xs = ([], mgE0 r xs) := by unfold mgA; rw [if_pos h0]
    rw [e]
    exact merge_e r n1 hn1 hz1 xs n2 hn2 hz2 h0 A1 A2 c1 c2 w h1 h2
set_option maxHeartbeats 400000 in
theorem count_any (r : List Ri) (n1 : Nat) (hn1 : r.length = n1) (hz1 : n1 ≤ 9223372036854775807) (M1 : List Nat) (M2 : Int) (hM : mgA r [] = (M1, M2)) (A1 : Option Addr) (c1 : Nat) (w : World) (h1 : RdV w w.heap.size A1 (rcs r)) :
    Calls Try.prog 33 #[.slice A1 n1 c1] w fun e w' => e = .returned (.tuple #[.int .i64 (M1.length : Int), .int .i64 M2]) ∧ Below w.heap.size w w' := by
  have hm := merge_any r n1 hn1 hz1 [] 0 rfl (by decide) A1 none c1 0 (fun _ => rfl) w h1 (.inl rfl)
  rw [hM] at hm
  have HM := Lib.hid hm
  clear hm h1 hn1 hM
  go_enter Try.func33, Try.ntmps33
  go_wp2_with fail
  refine HM.out.mono ?_
  rintro e w1 ⟨A, c, rfl, -, -, -, B1⟩
  have HB1 := Lib.hid B1; clear B1
  go_wp2
  go_ret2
  exact ⟨rfl, HB1.out⟩
end Go.Proofs.Ythldcdcpflamaaa
