/- What the program's Copy answers, for whatever lists it is handed. -/
import Derived.Test.YtfcmjjmlijidcaaJQQChk
import Derived.Test.YtfcmjjmlijidcaaJQRUn
namespace Go.Proofs.Ytfcmjjmlijidcaa
set_option maxRecDepth 100000
set_option linter.unusedVariables false
open Go.RowKit Go.Shelf

set_option maxHeartbeats 1000000 in
theorem copy_e (xs : List Int) (n : Nat) (hn : xs.length = n) (hn2 : n ≤ 9223372036854775807) (bs : List Int) (m : Nat) (hm : bs.length = m) (hm2 : m ≤ 9223372036854775807) (e0 : Int) (he : cpE xs bs = e0) (h0 : e0 ≠ 0) (A1 A2 : Option Addr) (c1 c2 : Nat) (w : World) (h1 : RdV w w.heap.size A1 (zc xs)) (h2 : RdV w w.heap.size A2 (zc bs)) :
    Calls Try.prog 13 #[.slice A1 n c1, .slice A2 m c2] w (IntsP w [] e0) := by
  have HC := Lib.hid (gcheck_any xs n hn hn2 A1 c1 w h1)
  unfold cpE at he
  by_cases hr : rchk xs = 0
  · rw [if_neg (by simpa using hr), hn] at he
    have h300 : n ≤ 300 := by
      obtain ⟨l, hl0, hl⟩ := rchk_zero xs hr
      have h3 : l.length ≤ 300 := hl.1
      rw [← hn, hl0, ns_length]; exact h3
    rw [hr] at HC
    have HB : Hid (∀ V, Below w.heap.size w V → Calls Try.prog 54 #[.slice A2 m c2, .int .i64 (n : Int)] V fun e w' => e = .returned (.int .i64 e0) ∧ Below V.heap.size V w') := fun V hV => by
      have := cblk_any bs m hm hm2 n (by omega) A2 c2 V (h2.on hV)
      rwa [he] at this
    have t0 : (e0 != 0) = true := by simpa using h0
    clear h1 h2 hn hm he h0 hr
    go_enter Try.func13, Try.ntmps13
    go_wp2_with fail
    refine HC.out.mono ?_
    rintro e w1 ⟨rfl, B1⟩
    have HB1 := Lib.hid B1; clear B1
    go_wp2_with fail
    refine (HB.out w1 HB1.out).mono ?_
    rintro e w2 ⟨rfl, B2⟩
    have HB2 := Lib.hid (HB1.out.trans (B2.mono HB1.out.size)); clear B2
    go_wp2
    go_ret2
    exact ⟨none, 0, rfl, Nat.le_refl _, fun _ => rfl, .inl rfl, HB2.out⟩
  · rw [if_pos (by simpa using hr)] at he
    rw [he] at HC
    have t0 : (e0 != 0) = true := by simpa using h0
    clear h1 h2 hn hm he h0 hr
    go_enter Try.func13, Try.ntmps13
    go_wp2_with fail
    refine HC.out.mono ?_
    rintro e w1 ⟨rfl, B1⟩
    have HB1 := Lib.hid B1; clear B1
    go_wp2
    go_ret2
    exact ⟨none, 0, rfl, Nat.le_refl _, fun _ => rfl, .inl rfl, HB1.out⟩

theorem cp_step {α : Type} (p : Bool) (B : List Nat) (i : Nat) (h : i < B.length) (F : List α) : cp p (B.drop i) F = (if p then F.take (B[i]?.getD 0) else []) ++ cp (!p) (B.drop (i + 1)) (F.drop (B[i]?.getD 0)) := by
  rw [drop_nat B i h]; rfl
theorem sum_step (B : List Nat) (i : Nat) (h : i < B.length) : (B.drop i).sum = B[i]?.getD 0 + (B.drop (i + 1)).sum := by
  rw [drop_nat B i h, List.sum_cons]
/-- At each round's head: what the first blocks copy is there. -/
def CpRel (B F : List Nat) (w : World) (v s p : Value) (wr : World) : Prop :=
  ∃ (i a : Nat) (out : List Nat), i ≤ B.length ∧ p = .int .i64 (i : Int) ∧ s = .int .i64 (a : Int) ∧ a + (B.drop i).sum ≤ F.length ∧ out.length ≤ a ∧ cp true B F = out ++ cp (decide (i % 2 = 0)) (B.drop i) (F.drop a) ∧
    wr.ownsRow w.heap.size 3 1 v out.length (zc (ns out)) ∧ Below w.heap.size w wr
theorem ns_cut (F : List Nat) (a b : Nat) : zc (ns ((F.drop a).take b)) = ((zc (ns F)).drop a).take b := by simp [zc, ns, List.map_take, List.map_drop]
theorem ns_drop (F : List Nat) (a : Nat) : zc (ns (F.drop a)) = (zc (ns F)).drop a := by simp [zc, ns, List.map_drop]
theorem par_succ (i : Nat) : (!decide (i % 2 = 0)) = decide ((i + 1) % 2 = 0) := by
  by_cases h : i % 2 = 0
  · rw [decide_eq_true h, decide_eq_false (by omega)]; rfl
  · rw [decide_eq_false h, decide_eq_true (by omega)]; rfl
theorem rdv_drop {w : World} {B : Nat} {a : Addr} {vs : List Value} (h : RdV w B (some a) vs) (k : Nat) : ∀ j u, (vs.drop k)[j]? = some u → w.cell? ((a.add k).add j) = some u := by
  intro j u hu
  rw [List.getElem?_drop] at hu
  obtain ⟨b, off, e, hb, hc⟩ := h.at_ hu
  cases e
  rw [add_plU, add_plU, Nat.add_assoc]; exact hc
theorem rdv_take {w : World} {B : Nat} {a : Addr} {vs : List Value} (h : RdV w B (some a) vs) (k b : Nat) : ∀ j u, ((vs.drop k).take b)[j]? = some u → w.cell? ((a.add k).add j) = some u := by
  intro j u hu
  refine rdv_drop h k j u ?_
  rw [List.getElem?_take] at hu
  split at hu
  · exact hu
  · cases hu
set_option maxHeartbeats 8000000 in
theorem copy_in (F : List Nat) (hF : Rising F) (n : Nat) (hn : F.length = n) (B : List Nat) (m : Nat) (hm : B.length = m) (hB : BOk B n) (M : List Nat) (hM : cp true B F = M) (A1 A2 : Option Addr) (c1 c2 : Nat) (hA1 : A1 = none → c1 = 0) (hc1 : n ≤ c1) (w : World) (h1 : RdV w w.heap.size A1 (zc (ns F))) (h2 : RdV w w.heap.size A2 (zc (ns B))) :
    Calls Try.prog 13 #[.slice A1 n c1, .slice A2 m c2] w (IntsP w M 0) := by
  have h300 : n ≤ 300 := by have := hF.1; omega
  have hm300 : m ≤ 301 := by have := hB.1; omega
  have hc63 : c1 ≤ 9223372036854775807 ∨ 9223372036854775807 < c1 := by omega
  have HC : Hid (Calls Try.prog 29 #[.slice A1 n c1] w fun e w' => e = .returned (.int .i64 0) ∧ Below w.heap.size w w') := by
    have := gcheck_any (ns F) n (by rw [ns_length, hn]) (by omega) A1 c1 w h1
    rwa [rchk_ok F hF] at this
  have HBk : Hid (∀ V, Below w.heap.size w V → Calls Try.prog 54 #[.slice A2 m c2, .int .i64 (n : Int)] V fun e w' => e = .returned (.int .i64 0) ∧ Below V.heap.size V w') := fun V hV => by
    have := cblk_any (ns B) m (by rw [ns_length, hm]) (by omega) n (by omega) A2 c2 V (h2.on hV)
    rwa [bchk_ok B n hB] at this
  obtain ⟨i0, hi, hz0, hz1, hz2⟩ := info_parts info3
  have HX1 := Lib.hid h1; have HX2 := Lib.hid h2; have HN := Lib.hid hn; have HM := Lib.hid hm; have HMM := Lib.hid hM
  have HS : Hid (B.sum ≤ F.length) := by show _ ≤ _; rw [hn]; exact hB.2.2
  clear h1 h2 hn hm hM hF hB
  go_enter Try.func13, Try.ntmps13
  go_wp2_with fail
  refine HC.out.mono ?_
  rintro e w1 ⟨rfl, B1⟩
  have HB1 := Lib.hid B1; clear B1
  go_wp2_with fail
  refine (HBk.out w1 HB1.out).mono ?_
  rintro e w2 ⟨rfl, B2⟩
  have HB2 := Lib.hid (HB1.out.trans (B2.mono HB1.out.size)); clear B2
  go_wp2
  go_loopw [8, 9, 26] (fun v s p wr => CpRel B F w v s p wr) (fun _ _ p _ => m - (intOf p).toNat)
  case atStart => exact ⟨0, 0, [], Nat.zero_le _, rfl, rfl, by simpa using HS.out, Nat.le_refl _, rfl, ⟨rfl, .inl ⟨rfl, rfl⟩⟩, HB2.out⟩
  case round =>
    obtain ⟨i, a, out, hi', rfl, rfl, hsum, hol, hcp, hrow, hbel⟩ := hrel
    rw [HM.out] at hi'
    rw [HN.out] at hsum
    by_cases hlt : i < m
    · have hin : i < B.length := by rw [HM.out]; exact hlt
      obtain ⟨b2, off2, rfl, hb2, hcb⟩ := (HX2.out.on hbel).at_ (ns_get B i hin)
      have hst := cp_step (decide (i % 2 = 0)) B i hin (F.drop a)
      have hss := sum_step B i hin
      generalize hb : B[i]?.getD 0 = b at *
      have hab : a + b ≤ n := by omega
      have HSum : Hid (a + b + (B.drop (i + 1)).sum ≤ F.length) := by show _ ≤ _; rw [HN.out]; omega
      have t5 : IntKind.i64.wrap ((a : Int) + (b : Int)) = (a : Int) + (b : Int) := IntWalk.i64_in _ (by omega)
      have HCo := Lib.hid (copies_any i (by omega) wr)
      obtain ⟨Av, cv, rfl⟩ := own_slice3 hrow
      have hX := HX1.out.on hbel
      have HB := Lib.hid hbel
      have HCp := Lib.hid hcp; have HSt := Lib.hid hst
      clear hbel hcp hst hss hsum hb HC HBk HB1 HB2 HS
      by_cases hev : i % 2 = 0
      · rw [decide_eq_true hev] at HCo
        have HOut : Hid (cp true B F = (out ++ (F.drop a).take b) ++ cp (decide ((i + 1) % 2 = 0)) (B.drop (i + 1)) (F.drop (a + b))) := by
          show _ = _
          rw [HCp.out, HSt.out, decide_eq_true hev, show F.drop (a + b) = (F.drop a).drop b by rw [List.drop_drop], decide_eq_false (by omega), if_pos rfl, List.append_assoc]; rfl
        have HTl : Hid (((F.drop a).take b).length = b) := by show _ = _; rw [List.length_take, List.length_drop, HN.out]; omega
        clear HCp HSt
        cases A1 with
        | none =>
          have hc0 := hA1 rfl
          subst hc0
          obtain rfl : n = 0 := by omega
          obtain rfl : a = 0 := by omega
          obtain rfl : b = 0 := by omega
          have HO0 : Hid ((F.drop 0).take 0 = []) := List.take_zero
          rw [HO0.out, List.append_nil] at HOut
          clear hX hev
          go_wp2_with (first | (go_at_call 55; refine HCo.out.mono ?_; rintro e w' ⟨rfl, rfl⟩) | (at_builtin; refine wpList_append_own_none rfl _ _ 22 rfl w.heap.size 3 i0 1 Try.underlying22 hi _ _ _ rfl hrow rfl ?_))
          go_roundw
          case rel => exact ⟨_, _, _, _, _, _, _, _, _, _, _, _, _, _, _, _, _, _, _, _, _, _, _, ⟨i + 1, 0, out, by rw [HM.out]; omega, by go_num, by go_num, HSum.out, hol, HOut.out, hrow, HB.out⟩, rfl⟩
          case measure => simp [intOf]; omega
        | some a1 =>
          have HNw := Lib.hid (rdv_take hX a b)
          rw [← ns_cut] at HNw
          have HLz : Hid ((zc (ns ((F.drop a).take b))).length = (a + b - a) * 1) := by show _ = _; rw [zc_length, ns_length, HTl.out]; omega
          have HOn := Lib.hid (zc_one (ns ((F.drop a).take b)))
          have hk : out.length ≤ 1000 := by omega
          generalize hk2 : out.length = k at *
          have HK := Lib.hid hk2
          clear hX hk2
          by_cases hca : c1 = a
          · obtain rfl : b = 0 := by omega
            have hca2 : (c1 = a) = True := by simp [hca]
            have HNe : Hid (∀ j u, (zc (ns ((F.drop a).take 0)))[j]? = some u → wr.cell? (a1.add j) = some u) := by intro j u hu; simp [zc, ns] at hu
            have hc63 : c1 ≤ 300 := by omega
            clear hca HNw HLz
            have HLz : Hid ((zc (ns ((F.drop a).take 0))).length = 0 * 1) := by show _ = _; simp [zc, ns]
            go_wp2_with (first | (go_at_call 55; refine HCo.out.mono ?_; rintro e w' ⟨rfl, rfl⟩) | (at_builtin; refine wpList_append_own _ rfl _ _ 22 rfl w.heap.size 3 i0 (.int .i64 0) 1 8 Try.underlying22 hi hz0 hz1 hz2 rfl (by decide) _ _ _ rfl hrow a1 _ _ (zc (ns ((F.drop a).take 0))) rfl HLz.out HNe.out HOn.out (by unfold maxLen; omega) (by omega) HB.out.size ?_; intro v' w3 hown' hgrow _; obtain ⟨Av', cv', rfl⟩ := own_slice3 hown'))
            have HO : Hid (w3.ownsRow w.heap.size 3 1 (.slice Av' (k + 0) cv') (k + 0) (zc (ns (out ++ ((F.drop a).take 0))))) := by
              show World.ownsRow _ _ _ _ _ _ _
              rw [ns_append, zc_append]; first | exact hown' | (have := hown'; simp only [Nat.add_sub_cancel_left] at this; exact this)
            have HB3 : Hid (Below w.heap.size w w3) := HB.out.trans (grown_low hgrow hrow HB.out.size)
            have HLn : Hid ((out ++ ((F.drop a).take 0)).length = k + 0) := by show _ = _; rw [List.length_append, HK.out, HTl.out]
            clear hown' hgrow hrow HB
            go_roundw
            case rel => exact ⟨i + 1, a + 0, out ++ (F.drop a).take 0, by rw [HM.out]; omega, by go_num, by go_num, HSum.out, by rw [HLn.out]; omega, HOut.out, by rw [HLn.out]; exact HO.out, HB3.out⟩
            case measure => simp [intOf]; omega
          · have hc64 : (a : Int) ≤ (c1 : Int) := by omega
            have hc65 : (a : Int) + (b : Int) ≤ (c1 : Int) := by omega
            go_wp2_with (first | (go_at_call 55; refine HCo.out.mono ?_; rintro e w' ⟨rfl, rfl⟩) | (at_builtin; refine wpList_append_own _ rfl _ _ 22 rfl w.heap.size 3 i0 (.int .i64 0) 1 8 Try.underlying22 hi hz0 hz1 hz2 rfl (by decide) _ _ _ rfl hrow (a1.add a) _ _ (zc (ns ((F.drop a).take b))) rfl HLz.out HNw.out HOn.out (by unfold maxLen; omega) (by omega) HB.out.size ?_; intro v' w3 hown' hgrow _; obtain ⟨Av', cv', rfl⟩ := own_slice3 hown'))
            have HO : Hid (w3.ownsRow w.heap.size 3 1 (.slice Av' (k + b) cv') (k + b) (zc (ns (out ++ ((F.drop a).take b))))) := by
              show World.ownsRow _ _ _ _ _ _ _
              rw [ns_append, zc_append]; first | exact hown' | (have := hown'; simp only [Nat.add_sub_cancel_left] at this; exact this)
            have HB3 : Hid (Below w.heap.size w w3) := HB.out.trans (grown_low hgrow hrow HB.out.size)
            have HLn : Hid ((out ++ ((F.drop a).take b)).length = k + b) := by show _ = _; rw [List.length_append, HK.out, HTl.out]
            clear hown' hgrow hrow HB
            go_roundw
            case rel => exact ⟨i + 1, a + b, out ++ (F.drop a).take b, by rw [HM.out]; omega, by go_num, by go_num, HSum.out, by rw [HLn.out]; omega, HOut.out, by rw [HLn.out]; exact HO.out, HB3.out⟩
            case measure => simp [intOf]; omega
      · rw [decide_eq_false hev] at HCo
        have HOut : Hid (cp true B F = out ++ cp (decide ((i + 1) % 2 = 0)) (B.drop (i + 1)) (F.drop (a + b))) := by
          show _ = _
          rw [HCp.out, HSt.out, decide_eq_false hev, show F.drop (a + b) = (F.drop a).drop b by rw [List.drop_drop], decide_eq_true (by omega), if_neg (by decide), List.nil_append]; rfl
        clear HCp HSt hX
        go_wp2_with (go_at_call 55; refine HCo.out.mono ?_; rintro e w' ⟨rfl, rfl⟩)
        go_roundw
        case rel => exact ⟨i + 1, a + b, out, by rw [HM.out]; omega, by go_num, by go_num, HSum.out, by omega, HOut.out, hrow, HB.out⟩
        case measure => simp [intOf]; omega
    · obtain rfl : i = m := by omega
      have hd : B.drop i = [] := List.drop_of_length_le (by rw [HM.out]; exact Nat.le_refl _)
      rw [hd] at hcp hsum
      have hM : M = out ++ (if decide (i % 2 = 0) = true then F.drop a else []) := HMM.out.symm.trans hcp
      have han : a ≤ n := by simpa using hsum
      have HCo := Lib.hid (copies_any i (by omega) wr)
      obtain ⟨Av, cv, rfl⟩ := own_slice3 hrow
      have hX := HX1.out.on hbel
      have HB := Lib.hid hbel
      have HMq := Lib.hid hM
      clear hbel hcp hd hsum hM HC HBk HB1 HB2 HS HMM hlt
      by_cases hev : i % 2 = 0
      · rw [decide_eq_true hev] at HCo HMq
        rw [if_pos rfl] at HMq
        have HTl : Hid ((F.drop a).length = n - a) := by show _ = _; rw [List.length_drop, HN.out]
        have hk : out.length ≤ 1000 := by omega
        generalize hk2 : out.length = k at *
        have HK := Lib.hid hk2
        clear hk2 hev
        cases A1 with
        | none =>
          have hc0 := hA1 rfl
          subst hc0
          obtain rfl : n = 0 := by omega
          obtain rfl : a = 0 := by omega
          have hF0 := rdv_none_nil hX
          have HMr : Hid (M = out) := by show _ = _; rw [HMq.out, hF0]; simp
          have HK2 : Hid (k ≤ cv ∧ (Av = none → cv = 0)) := ⟨own_cap hrow, own_none hrow⟩
          have HO := Lib.hid (own_rdv hrow)
          clear hX hF0 HMq
          go_wp2_with (first | (go_at_call 55; refine HCo.out.mono ?_; rintro e w' ⟨rfl, rfl⟩) | (at_builtin; refine wpList_append_own_none rfl _ _ 22 rfl w.heap.size 3 i0 1 Try.underlying22 hi _ _ _ rfl hrow rfl ?_))
          go_ret2
          exact ⟨_, _, by rw [HMr.out, HK.out]; rfl, by rw [HMr.out, HK.out]; exact HK2.out.1, HK2.out.2, by rw [HMr.out]; exact HO.out, HB.out⟩
        | some a1 =>
          have HNw := Lib.hid (rdv_drop hX a)
          rw [← ns_drop] at HNw
          have HLz : Hid ((zc (ns (F.drop a))).length = (n - a) * 1) := by show _ = _; rw [zc_length, ns_length, HTl.out]; omega
          have HOn := Lib.hid (zc_one (ns (F.drop a)))
          clear hX
          by_cases hca : c1 = a
          · have hna : n = a := by omega
            have HNa := Lib.hid hna
            have hca2 : (c1 = a) = True := by simp [hca]
            have HNe : Hid (∀ j u, (zc (ns (F.drop a)))[j]? = some u → wr.cell? (a1.add j) = some u) := by
              intro j u hu
              have : F.drop a = [] := List.eq_nil_of_length_eq_zero (by rw [HTl.out, hna]; omega)
              rw [this] at hu; simp [zc, ns] at hu
            have hc63 : c1 ≤ 300 := by omega
            clear hca HNw hna
            go_wp2_with (first | (go_at_call 55; refine HCo.out.mono ?_; rintro e w' ⟨rfl, rfl⟩) | (at_builtin; refine wpList_append_own _ rfl _ _ 22 rfl w.heap.size 3 i0 (.int .i64 0) 1 8 Try.underlying22 hi hz0 hz1 hz2 rfl (by decide) _ _ _ rfl hrow a1 _ _ (zc (ns (F.drop a))) rfl HLz.out HNe.out HOn.out (by unfold maxLen; omega) (by omega) HB.out.size ?_; intro v' w3 hown' hgrow _; obtain ⟨Av', cv', rfl⟩ := own_slice3 hown'))
            have HO : Hid (w3.ownsRow w.heap.size 3 1 (.slice Av' (k + (n - a)) cv') (k + (n - a)) (zc (ns (out ++ (F.drop a))))) := by
              show World.ownsRow _ _ _ _ _ _ _
              rw [ns_append, zc_append]; first | exact hown' | (have := hown'; simp only [Nat.add_sub_cancel_left] at this; exact this)
            have HB3 : Hid (Below w.heap.size w w3) := HB.out.trans (grown_low hgrow hrow HB.out.size)
            have HLn : Hid ((out ++ (F.drop a)).length = k + (n - a)) := by show _ = _; rw [List.length_append, HK.out, HTl.out]
            clear hown' hgrow hrow HB
            go_ret2
            exact ⟨_, _, by rw [HMq.out, HLn.out]; rfl, by rw [HMq.out, HLn.out]; exact own_cap HO.out, own_none HO.out, by rw [HMq.out]; exact own_rdv HO.out, HB3.out⟩
          · have hc64 : (a : Int) ≤ (c1 : Int) := by omega
            go_wp2_with (first | (go_at_call 55; refine HCo.out.mono ?_; rintro e w' ⟨rfl, rfl⟩) | (at_builtin; refine wpList_append_own _ rfl _ _ 22 rfl w.heap.size 3 i0 (.int .i64 0) 1 8 Try.underlying22 hi hz0 hz1 hz2 rfl (by decide) _ _ _ rfl hrow (a1.add a) _ _ (zc (ns (F.drop a))) rfl HLz.out HNw.out HOn.out (by unfold maxLen; omega) (by omega) HB.out.size ?_; intro v' w3 hown' hgrow _; obtain ⟨Av', cv', rfl⟩ := own_slice3 hown'))
            have HO : Hid (w3.ownsRow w.heap.size 3 1 (.slice Av' (k + (n - a)) cv') (k + (n - a)) (zc (ns (out ++ (F.drop a))))) := by
              show World.ownsRow _ _ _ _ _ _ _
              rw [ns_append, zc_append]; first | exact hown' | (have := hown'; simp only [Nat.add_sub_cancel_left] at this; exact this)
            have HB3 : Hid (Below w.heap.size w w3) := HB.out.trans (grown_low hgrow hrow HB.out.size)
            have HLn : Hid ((out ++ (F.drop a)).length = k + (n - a)) := by show _ = _; rw [List.length_append, HK.out, HTl.out]
            clear hown' hgrow hrow HB
            go_ret2
            exact ⟨_, _, by rw [HMq.out, HLn.out]; rfl, by rw [HMq.out, HLn.out]; exact own_cap HO.out, own_none HO.out, by rw [HMq.out]; exact own_rdv HO.out, HB3.out⟩
      · rw [decide_eq_false hev] at HCo HMq
        rw [if_neg (by decide), List.append_nil] at HMq
        have HK2 : Hid (out.length ≤ cv ∧ (Av = none → cv = 0)) := ⟨own_cap hrow, own_none hrow⟩
        have HO := Lib.hid (own_rdv hrow)
        have hk : out.length ≤ 1000 := by omega
        generalize hk2 : out.length = k at *
        have HK := Lib.hid hk2
        clear hk2 hev hX hrow
        go_wp2_with (go_at_call 55; refine HCo.out.mono ?_; rintro e w' ⟨rfl, rfl⟩)
        go_ret2
        exact ⟨_, _, by rw [HMq.out, HK.out]; rfl, by rw [HMq.out, HK.out]; exact HK2.out.1, HK2.out.2, by rw [HMq.out]; exact HO.out, HB.out⟩
theorem pcopy_any (xs : List Int) (n : Nat) (hn : xs.length = n) (hn2 : n ≤ 9223372036854775807) (bs : List Int) (m : Nat) (hm : bs.length = m) (hm2 : m ≤ 9223372036854775807) (A1 A2 : Option Addr) (c1 c2 : Nat) (hA1 : A1 = none → c1 = 0) (hc1 : n ≤ c1) (w : World) (h1 : RdV w w.heap.size A1 (zc xs)) (h2 : RdV w w.heap.size A2 (zc bs)) :
    Calls Try.prog 13 #[.slice A1 n c1, .slice A2 m c2] w (IntsP w (cpA xs bs) (cpE xs bs)) := by
  by_cases h0 : cpE xs bs = 0
  · have h0' := h0
    unfold cpE at h0'
    by_cases hr : rchk xs = 0
    · rw [if_neg (by simpa using hr)] at h0'
      obtain ⟨F, rfl, hF⟩ := rchk_zero xs hr
      rw [ns_length] at hn h0'
      obtain ⟨B, rfl, hB⟩ := bchk_zero bs _ h0'
      rw [ns_length] at hm
      rw [h0]
      have e : cpA (ns F) (ns B) = cp true B F := by unfold cpA; rw [if_neg (by simpa using h0), tn_ns, tn_ns]
      rw [e]
      exact copy_in F hF n hn B m hm (by rw [← hn]; exact hB) _ rfl A1 A2 c1 c2 hA1 hc1 w h1 h2
    · rw [if_pos (by simpa using hr)] at h0'; exact absurd h0' hr
  · have e : cpA xs bs = [] := by unfold cpA; rw [if_pos (by simpa using h0)]
    rw [e]
    exact copy_e xs n hn hn2 bs m hm hm2 _ rfl h0 A1 A2 c1 c2 w h1 h2
end Go.Proofs.Ytfcmjjmlijidcaa
