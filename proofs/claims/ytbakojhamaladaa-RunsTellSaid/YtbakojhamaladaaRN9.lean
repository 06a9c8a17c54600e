/- What Merge and Count answer, for whatever runs and numbers they are handed. -/
import Derived.Test.YtbakojhamaladaaRN8
import Derived.Laws.AppendOwnNone
namespace Go.Proofs.Ytbakojhamaladaa
set_option maxRecDepth 100000
set_option linter.unusedVariables false
open Go.RowKit Go.Shelf

/-- The error of Merge ahead of its numbers. -/
def mgE0 (r : List Ri) (xs : List Int) : Int := if rkchk r ≠ 0 then rkchk r else rchk xs
set_option maxHeartbeats 1000000 in
theorem merge_e (r : List Ri) (n1 : Nat) (hn1 : r.length = n1) (hz1 : n1 ≤ 9223372036854775807) (xs : List Int) (n2 : Nat) (hn2 : xs.length = n2) (hz2 : n2 ≤ 9223372036854775807) (h0 : mgE0 r xs ≠ 0) (A1 A2 : Option Addr) (c1 c2 : Nat) (w : World) (h1 : RdV w w.heap.size A1 (rcs r)) (h2 : RdV w w.heap.size A2 (zc xs)) :
    Calls Try.prog 36 #[.slice A1 n1 c1, .slice A2 n2 c2] w (IntsP w [] (mgE0 r xs)) := by
  have HC1 := Lib.hid (rnck_any r n1 hn1 hz1 A1 c1 w h1)
  have HC2 : Hid (∀ V, Below w.heap.size w V → Calls Try.prog 27 #[.slice A2 n2 c2] V fun e w' => e = .returned (.int .i64 (rchk xs)) ∧ Below V.heap.size V w') := fun V hV => gcheck_any xs n2 hn2 hz2 A2 c2 V (h2.on hV)
  unfold mgE0 at *
  clear h1 h2 hn1 hn2
  by_cases hr : rkchk r = 0
  · rw [if_neg (by simpa using hr)] at *
    rw [hr] at HC1
    generalize rchk xs = e2 at *
    have t0 : (e2 != 0) = true := by simpa using h0
    clear h0 hr
    go_enter Try.func36, Try.ntmps36
    go_wp2_with fail
    refine HC1.out.mono ?_
    rintro e w1 ⟨rfl, B1⟩
    have HB1 := Lib.hid B1; clear B1
    go_wp2_with fail
    refine (HC2.out w1 HB1.out).mono ?_
    rintro e w2 ⟨rfl, B2⟩
    have HB2 := Lib.hid (HB1.out.trans (B2.mono HB1.out.size)); clear B2
    go_wp2
    go_ret2
    exact ⟨none, 0, rfl, Nat.le_refl _, fun _ => rfl, .inl rfl, HB2.out⟩
  · rw [if_pos hr] at *
    generalize rkchk r = e1 at *
    have t0 : (e1 != 0) = true := by simpa using hr
    clear h0 hr HC2
    go_enter Try.func36, Try.ntmps36
    go_wp2_with fail
    refine HC1.out.mono ?_
    rintro e w1 ⟨rfl, B1⟩
    have HB1 := Lib.hid B1; clear B1
    go_wp2
    go_ret2
    exact ⟨none, 0, rfl, Nat.le_refl _, fun _ => rfl, .inl rfl, HB1.out⟩

theorem rz_at (R : List Rn) (i : Nat) (h : i < R.length) : (rz R)[i]?.getD (0, 0) = (((R[i]?.getD (0, 0)).1 : Int), ((R[i]?.getD (0, 0)).2 : Int)) := by
  unfold rz; rw [List.getElem?_map, List.getElem?_eq_getElem h]; rfl
theorem mem_at (R : List Rn) (i : Nat) (h : i < R.length) : R[i]?.getD (0, 0) ∈ R := by rw [List.getElem?_eq_getElem h]; exact List.getElem_mem h
theorem take_snocR (R : List Rn) (i : Nat) (h : i < R.length) : R.take (i + 1) = R.take i ++ [R[i]?.getD (0, 0)] := by
  rw [List.take_succ_eq_append_getElem h, List.getElem?_eq_getElem h]; rfl
theorem flat_len (R : List Rn) (h : ∀ p ∈ R, p.2 ≤ 300) : (flatR R).length ≤ 300 * R.length := by
  induction R with
  | nil => simp [flatR]
  | cons p R ih =>
    rw [flatR_cons, List.length_append, nums_length, List.length_cons]
    have := ih (fun q hq => h q (by simp [hq]))
    have := h p (by simp)
    omega
theorem rdv_news {w : World} {B : Nat} {a : Addr} {vs : List Value} (h : RdV w B (some a) vs) : ∀ j u, vs[j]? = some u → w.cell? (a.add j) = some u := by
  intro j u hu
  obtain ⟨b, off, e, hb, hc⟩ := h.at_ hu
  cases e
  rw [add_plR]; exact hc
/-- At each round's head: the numbers of the first i runs. -/
def MgRel (R : List Rn) (w : World) (v p : Value) (wr : World) : Prop :=
  ∃ i : Nat, i ≤ R.length ∧ p = .int .i64 (i : Int) ∧ wr.ownsRow w.heap.size 3 1 v (flatR (R.take i)).length (zc (ns (flatR (R.take i)))) ∧ Below w.heap.size w wr
set_option maxHeartbeats 4000000 in
theorem merge_in (R : List Rn) (hR : OkR R) (M1 : List Nat) (M2 : Int) (n1 : Nat) (hn1 : R.length = n1) (l : List Nat) (hl : Rising l) (hM : mg R l = (M1, M2)) (n2 : Nat) (hn2 : l.length = n2) (A1 A2 : Option Addr) (c1 c2 : Nat) (hA2 : A2 = none → c2 = 0) (w : World) (h1 : RdV w w.heap.size A1 (rcs (rz R))) (h2 : RdV w w.heap.size A2 (zc (ns l))) :
    Calls Try.prog 36 #[.slice A1 n1 c1, .slice A2 n2 c2] w (IntsP w M1 M2) := by
  have h300 : n1 ≤ 300 := by have := hR.1; omega
  have h3002 : n2 ≤ 300 := by have := hl.1; omega
  have HC1 : Hid (Calls Try.prog 85 #[.slice A1 n1 c1] w fun e w' => e = .returned (.int .i64 0) ∧ Below w.heap.size w w') := by
    have := rnck_any (rz R) n1 (by rw [rz_length, hn1]) (by omega) A1 c1 w h1
    rwa [rkchk_ok R hR] at this
  have HC2 : Hid (∀ V, Below w.heap.size w V → Calls Try.prog 27 #[.slice A2 n2 c2] V fun e w' => e = .returned (.int .i64 0) ∧ Below V.heap.size V w') := fun V hV => by
    have := gcheck_any (ns l) n2 (by rw [ns_length, hn2]) (by omega) A2 c2 V (h2.on hV)
    rwa [rchk_ok l hl] at this
  have HFl : Hid (∀ i, i ≤ n1 → (flatR (R.take i)).length ≤ 90000) := fun i hi => by
    have := flat_len (R.take i) (fun p hp => (hR.2.2 p (List.mem_of_mem_take hp)).1)
    have := List.length_take_le i R
    omega
  have HBd : Hid (∀ p ∈ R, p.1 ≤ 1048576 ∧ p.2 ≤ 300) := fun p hp => by have := hR.2.2 p hp; have := sep_pos R _ hR.2.1 p hp; omega
  obtain ⟨i0, hi, hz0, hz1, hz2⟩ := info_parts info3
  have HX1 := Lib.hid h1; have HX2 := Lib.hid h2; have HN1 := Lib.hid hn1; have HN2 := Lib.hid hn2; have HMM := Lib.hid hM
  clear h1 h2 hn1 hn2 hR hl hM
  go_enter Try.func36, Try.ntmps36
  go_wp2_with fail
  refine HC1.out.mono ?_
  rintro e w1 ⟨rfl, B1⟩
  have HB1 := Lib.hid B1; clear B1
  go_wp2_with fail
  refine (HC2.out w1 HB1.out).mono ?_
  rintro e w2 ⟨rfl, B2⟩
  have HB2 := Lib.hid (HB1.out.trans (B2.mono HB1.out.size)); clear B2 HB1
  go_wp2
  go_loopw [8, 23] (fun v p wr => MgRel R w v p wr) (fun _ p _ => n1 - (intOf p).toNat)
  case atStart => exact ⟨0, Nat.zero_le _, rfl, ⟨rfl, .inl ⟨rfl, rfl⟩⟩, HB2.out⟩
  case round =>
    obtain ⟨i, hi', rfl, hrow, hbel⟩ := hrel
    rw [HN1.out] at hi'
    by_cases hlt : i < n1
    · have hin : i < R.length := by rw [HN1.out]; exact hlt
      obtain ⟨r0, r1⟩ := rcs_at (rz R) i (by rw [rz_length]; exact hin)
      rw [rz_at R i hin] at r0 r1
      obtain ⟨b, off, rfl, hb, k0⟩ := (HX1.out.on hbel).at_ r0
      obtain ⟨b2, off2, hA2', hb2, k1⟩ := (HX1.out.on hbel).at_ r1
      simp only [Option.some.injEq, Addr.mk.injEq, and_true] at hA2'
      obtain ⟨rfl, rfl⟩ := hA2'
      rw [← Nat.add_assoc] at k1
      have hbd := HBd.out _ (mem_at R i hin)
      have htk := take_snocR R i hin
      have hfl := HFl.out i hi'
      generalize R[i]?.getD (0, 0) = x at *
      obtain ⟨f, m⟩ := x
      simp only at k0 k1 hbd
      have HT : Hid (flatR (R.take (i + 1)) = flatR (R.take i) ++ List.range' f m) := by show _ = _; rw [htk, flatR_snoc]; rfl
      have HB := Lib.hid hbel
      have hrow2 := (hrow.alloc (.cells #[.int .i64 (f : Int), .int .i64 (m : Int)] 60)).alloc (.cells #[.int .i64 (f : Int), .int .i64 (m : Int)] 60)
      have hbox2 : ((wr.alloc (.cells #[.int .i64 (f : Int), .int .i64 (m : Int)] 60)).alloc (.cells #[.int .i64 (f : Int), .int .i64 (m : Int)] 60)).heap[wr.heap.size + 1]? = some (.cells #[.int .i64 (f : Int), .int .i64 (m : Int)] 60 (0, 0)) := by
        have := World.alloc_heap_new (wr.alloc (.cells #[.int .i64 (f : Int), .int .i64 (m : Int)] 60)) (.cells #[.int .i64 (f : Int), .int .i64 (m : Int)] 60)
        rwa [World.size_alloc] at this
      obtain ⟨Av, cv, rfl⟩ := own_slice3 hrow
      have HA := Lib.hid (appseq_in f m hbd.1 hbd.2 (wr.heap.size + 1) w.heap.size _ _ (by omega) _ _ hrow2 hbox2 (by have := hbel.size; simp; omega))
      have hb2 : Below w.heap.size w ((wr.alloc (.cells #[.int .i64 (f : Int), .int .i64 (m : Int)] 60)).alloc (.cells #[.int .i64 (f : Int), .int .i64 (m : Int)] 60)) := (hbel.alloc hbel.size _).alloc (by have := hbel.size; simp; omega) _
      have HBB := Lib.hid hb2
      clear hrow hrow2 hbox2 hb2 hbel htk hbd r0 r1
      generalize hk : (flatR (R.take i)).length = k at *
      have HKl := Lib.hid hk; clear hk
      go_wp2_with fail
      refine (callsIn_wide.1 (nums_of 4 _ _ _)).mono ?_
      rintro e w' ⟨rfl, rfl⟩
      go_wp2_with fail
      refine HA.out.mono ?_
      rintro e w3 ⟨v', rfl, hown', hfr⟩
      obtain ⟨Av', cv', rfl⟩ := own_slice3 hown'
      have HO3 := Lib.hid hown'
      have HB3 : Hid (Below w.heap.size w w3) := HBB.out.trans (hfr.below (fun j hj => ⟨.inl hj, by have := HB.out.size; simp; omega⟩))
      clear hown' hfr
      go_wp2
      go_roundw
      case rel => exact ⟨i + 1, by rw [HN1.out]; omega, by go_num, by rw [HT.out, List.length_append, HKl.out, List.length_range', ns_append, zc_append]; exact HO3.out, HB3.out⟩
      case measure => simp [intOf]; omega
    · have e : R.take i = R := List.take_of_length_le (by rw [HN1.out]; omega)
      rw [e] at hrow
      have hfl := HFl.out n1 (Nat.le_refl _)
      rw [List.take_of_length_le (by rw [HN1.out]; omega)] at hfl
      obtain rfl : i = n1 := by omega
      obtain ⟨Av, cv, rfl⟩ := own_slice3 hrow
      have HB0 := Lib.hid hbel
      have HKl : Hid ((flatR R).length = (flatR R).length) := rfl
      have hX2 := HX2.out.on hbel
      clear hbel e HC1 HC2 HB2
      cases A2 with
      | none =>
        have hc2 := hA2 rfl
        have hl0 : l = [] := by
          rcases hX2 with h | ⟨b, off, h, _⟩
          · cases l with
            | nil => rfl
            | cons x t => simp [zc, ns] at h
          · cases h
        subst hc2
        obtain rfl : n2 = 0 := by rw [← HN2.out, hl0]; rfl
        generalize hN0 : (flatR R).length = N0 at *
        have HLen : Hid ((flatR R ++ l).length = N0) := by show _ = _; rw [hl0, List.append_nil]; exact hN0
        have HO : Hid (wr.ownsRow w.heap.size 3 1 (.slice Av N0 cv) N0 (zc (ns (flatR R ++ l)))) := by
          show World.ownsRow _ _ _ _ _ _ _
          rw [hl0, List.append_nil]; exact hrow
        have HB := HB0
        clear hX2 HB0 HKl hN0 hl0
        go_wp2_with (at_builtin; refine wpList_append_own_none rfl _ _ 22 rfl w.heap.size 3 i0 1 Try.underlying22 hi _ _ _ rfl hrow rfl ?_)
        clear hrow
        obtain ⟨Av', hAv⟩ : ∃ A', A' = Av := ⟨_, rfl⟩
        obtain ⟨cv', hcv⟩ : ∃ c', c' = cv := ⟨_, rfl⟩
        subst hAv hcv
        have HS := Lib.hid (sort_own (flatR R ++ l) N0 HLen.out (by omega) w.heap.size _ _ HO.out HB.out.size)
        go_wp2_with fail
        refine HS.out.mono ?_
        rintro e w4 ⟨rfl, hr4, hb4⟩
        have HB4 : Hid (Below w.heap.size w w4) := HB.out.trans hb4
        have hl4 : (nso (flatR R ++ l)).length = N0 := by rw [(nso_perm _).length_eq]; exact HLen.out
        have HT := Lib.hid (twice_in (nso (flatR R ++ l)) N0 hl4 (by omega) Av' cv' w4 (own_rdv hr4))
        have HO4 := Lib.hid hr4
        have HL4 := Lib.hid hl4
        have HM : Hid ((M1, M2) = if tw (nso (flatR R ++ l)) = true then ([], 6) else if 300 < (nso (flatR R ++ l)).length then ([], 2) else (nso (flatR R ++ l), 0)) := HMM.out.symm
        rw [hl4] at HM
        clear hr4 hb4 hl4 HS HO HB
        generalize nso (flatR R ++ l) = L at *
        cases htw : tw L with
        | true =>
          rw [htw] at HT HM
          rw [if_pos rfl] at HM
          obtain ⟨rfl, rfl⟩ : M1 = [] ∧ M2 = 6 := by have := HM.out; simpa using this
          clear HM htw
          go_wp2_with fail
          refine HT.out.mono ?_
          rintro e w5 ⟨rfl, B5⟩
          have HB5 := Lib.hid (HB4.out.trans (B5.mono HB4.out.size)); clear B5
          go_wp2
          go_ret2
          exact ⟨none, 0, rfl, Nat.le_refl _, fun _ => rfl, .inl rfl, HB5.out⟩
        | false =>
          rw [htw] at HT HM
          rw [if_neg (by decide)] at HM
          by_cases h3 : 300 < N0
          · rw [if_pos h3] at HM
            obtain ⟨rfl, rfl⟩ : M1 = [] ∧ M2 = 2 := by have := HM.out; simpa using this
            clear HM htw
            go_wp2_with fail
            refine HT.out.mono ?_
            rintro e w5 ⟨rfl, B5⟩
            have HB5 := Lib.hid (HB4.out.trans (B5.mono HB4.out.size)); clear B5
            go_wp2
            go_ret2
            exact ⟨none, 0, rfl, Nat.le_refl _, fun _ => rfl, .inl rfl, HB5.out⟩
          · rw [if_neg h3] at HM
            obtain ⟨rfl, rfl⟩ : M1 = L ∧ M2 = 0 := by have := HM.out; simpa using this
            clear HM htw
            go_wp2_with fail
            refine HT.out.mono ?_
            rintro e w5 ⟨rfl, B5⟩
            have HR5 : Hid (RdV w5 w5.heap.size Av' (zc (ns M1))) := (own_rdv HO4.out).on B5
            have HB5 := Lib.hid (HB4.out.trans (B5.mono HB4.out.size)); clear B5
            go_wp2
            go_ret2
            exact ⟨Av', cv', by rw [HL4.out]; rfl, by rw [HL4.out]; exact own_cap HO4.out, own_none HO4.out, HR5.out, HB5.out⟩
      | some a =>
        have hnews := rdv_news hX2
        have HLz : Hid ((zc (ns l)).length = n2 * 1) := by show _ = _; rw [zc_length, ns_length, HN2.out, Nat.mul_one]
        have HOn := Lib.hid (zc_one (ns l))
        generalize hN : (flatR R).length = N at *
        have HNw := Lib.hid hnews
        clear hX2 hnews
        go_wp2_with (at_builtin; refine wpList_append_own _ rfl _ _ 22 rfl w.heap.size 3 i0 (.int .i64 0) 1 8 Try.underlying22 hi hz0 hz1 hz2 rfl (by decide) _ _ _ rfl hrow a n2 c2 (zc (ns l)) rfl HLz.out HNw.out HOn.out (by unfold maxLen; omega) (by omega) HB0.out.size ?_; intro v' w3 hown' hgrow _; obtain ⟨Av', cv', rfl⟩ := own_slice3 hown')
        have HLen : Hid ((flatR R ++ l).length = N + n2) := by show _ = _; rw [List.length_append, hN, HN2.out]
        have HO : Hid (w3.ownsRow w.heap.size 3 1 (.slice Av' (N + n2) cv') (N + n2) (zc (ns (flatR R ++ l)))) := by
          show World.ownsRow _ _ _ _ _ _ _
          rw [ns_append, zc_append]; exact hown'
        have HB : Hid (Below w.heap.size w w3) := HB0.out.trans (grown_low hgrow hrow HB0.out.size)
        clear hown' hgrow hrow hN HB0
        generalize hN0 : N + n2 = N0 at *
        have HS := Lib.hid (sort_own (flatR R ++ l) N0 HLen.out (by omega) w.heap.size _ _ HO.out HB.out.size)
        go_wp2_with fail
        refine HS.out.mono ?_
        rintro e w4 ⟨rfl, hr4, hb4⟩
        have HB4 : Hid (Below w.heap.size w w4) := HB.out.trans hb4
        have hl4 : (nso (flatR R ++ l)).length = N0 := by rw [(nso_perm _).length_eq]; exact HLen.out
        have HT := Lib.hid (twice_in (nso (flatR R ++ l)) N0 hl4 (by omega) Av' cv' w4 (own_rdv hr4))
        have HO4 := Lib.hid hr4
        have HL4 := Lib.hid hl4
        have HM : Hid ((M1, M2) = if tw (nso (flatR R ++ l)) = true then ([], 6) else if 300 < (nso (flatR R ++ l)).length then ([], 2) else (nso (flatR R ++ l), 0)) := HMM.out.symm
        rw [hl4] at HM
        clear hr4 hb4 hl4 HS HO HB
        generalize nso (flatR R ++ l) = L at *
        cases htw : tw L with
        | true =>
          rw [htw] at HT HM
          rw [if_pos rfl] at HM
          obtain ⟨rfl, rfl⟩ : M1 = [] ∧ M2 = 6 := by have := HM.out; simpa using this
          clear HM htw
          go_wp2_with fail
          refine HT.out.mono ?_
          rintro e w5 ⟨rfl, B5⟩
          have HB5 := Lib.hid (HB4.out.trans (B5.mono HB4.out.size)); clear B5
          go_wp2
          go_ret2
          exact ⟨none, 0, rfl, Nat.le_refl _, fun _ => rfl, .inl rfl, HB5.out⟩
        | false =>
          rw [htw] at HT HM
          rw [if_neg (by decide)] at HM
          by_cases h3 : 300 < N0
          · rw [if_pos h3] at HM
            obtain ⟨rfl, rfl⟩ : M1 = [] ∧ M2 = 2 := by have := HM.out; simpa using this
            clear HM htw
            go_wp2_with fail
            refine HT.out.mono ?_
            rintro e w5 ⟨rfl, B5⟩
            have HB5 := Lib.hid (HB4.out.trans (B5.mono HB4.out.size)); clear B5
            go_wp2
            go_ret2
            exact ⟨none, 0, rfl, Nat.le_refl _, fun _ => rfl, .inl rfl, HB5.out⟩
          · rw [if_neg h3] at HM
            obtain ⟨rfl, rfl⟩ : M1 = L ∧ M2 = 0 := by have := HM.out; simpa using this
            clear HM htw
            go_wp2_with fail
            refine HT.out.mono ?_
            rintro e w5 ⟨rfl, B5⟩
            have HR5 : Hid (RdV w5 w5.heap.size Av' (zc (ns M1))) := (own_rdv HO4.out).on B5
            have HB5 := Lib.hid (HB4.out.trans (B5.mono HB4.out.size)); clear B5
            go_wp2
            go_ret2
            exact ⟨Av', cv', by rw [HL4.out]; rfl, by rw [HL4.out]; exact own_cap HO4.out, own_none HO4.out, HR5.out, HB5.out⟩
/-- What is merged, and the error, of whatever is handed in. -/
def rn (r : List Ri) : List Rn := r.map fun p => (p.1.toNat, p.2.toNat)
theorem rn_rz (R : List Rn) : rn (rz R) = R := by
  unfold rn rz; rw [List.map_map]
  exact (List.map_congr_left fun x _ => by simp).trans (List.map_id R)
def mgA (r : List Ri) (xs : List Int) : List Nat × Int := if mgE0 r xs ≠ 0 then ([], mgE0 r xs) else mg (rn r) (xs.map Int.toNat)
theorem mgA_ok (R : List Rn) (hR : OkR R) (l : List Nat) (hl : Rising l) : mgA (rz R) (ns l) = mg R l := by
  unfold mgA mgE0
  rw [rkchk_ok R hR, rchk_ok l hl, rn_rz, ns_nat]; simp
theorem mgA_zero (r : List Ri) (xs : List Int) (h : mgE0 r xs = 0) : ∃ R l, r = rz R ∧ OkR R ∧ xs = ns l ∧ Rising l := by
  unfold mgE0 at h
  by_cases h1 : rkchk r = 0
  · rw [if_neg (by simpa using h1)] at h
    obtain ⟨R, e1, hR⟩ := rkchk_zero r h1
    obtain ⟨l, e2, hl⟩ := rchk_zero xs h
    exact ⟨R, l, e1, hR, e2, hl⟩
  · rw [if_pos h1] at h; exact absurd h h1
theorem merge_any (r : List Ri) (n1 : Nat) (hn1 : r.length = n1) (hz1 : n1 ≤ 9223372036854775807) (xs : List Int) (n2 : Nat) (hn2 : xs.length = n2) (hz2 : n2 ≤ 9223372036854775807) (A1 A2 : Option Addr) (c1 c2 : Nat) (hA2 : A2 = none → c2 = 0) (w : World) (h1 : RdV w w.heap.size A1 (rcs r)) (h2 : RdV w w.heap.size A2 (zc xs)) :
    Calls Try.prog 36 #[.slice A1 n1 c1, .slice A2 n2 c2] w (IntsP w (mgA r xs).1 (mgA r xs).2) := by
  by_cases h0 : mgE0 r xs = 0
  · obtain ⟨R, l, rfl, hR, rfl, hl⟩ := mgA_zero r xs h0
    rw [mgA_ok R hR l hl]
    exact merge_in R hR _ _ n1 (by rw [rz_length] at hn1; exact hn1) l hl rfl n2 (by rw [ns_length] at hn2; exact hn2) A1 A2 c1 c2 hA2 w h1 h2
  · have e : mgA r xs = ([], mgE0 r xs) := by unfold mgA; rw [if_pos h0]
    rw [e]
    exact merge_e r n1 hn1 hz1 xs n2 hn2 hz2 h0 A1 A2 c1 c2 w h1 h2
set_option maxHeartbeats 400000 in
theorem count_any (r : List Ri) (n1 : Nat) (hn1 : r.length = n1) (hz1 : n1 ≤ 9223372036854775807) (M1 : List Nat) (M2 : Int) (hM : mgA r [] = (M1, M2)) (A1 : Option Addr) (c1 : Nat) (w : World) (h1 : RdV w w.heap.size A1 (rcs r)) :
    Calls Try.prog 37 #[.slice A1 n1 c1] w fun e w' => e = .returned (.tuple #[.int .i64 (M1.length : Int), .int .i64 M2]) ∧ Below w.heap.size w w' := by
  have hm := merge_any r n1 hn1 hz1 [] 0 rfl (by decide) A1 none c1 0 (fun _ => rfl) w h1 (.inl rfl)
  rw [hM] at hm
  have HM := Lib.hid hm
  clear hm h1 hn1 hM
  go_enter Try.func37, Try.ntmps37
  go_wp2_with fail
  refine HM.out.mono ?_
  rintro e w1 ⟨A, c, rfl, -, -, -, B1⟩
  have HB1 := Lib.hid B1; clear B1
  go_wp2
  go_ret2
  exact ⟨rfl, HB1.out⟩
end Go.Proofs.Ytbakojhamaladaa
