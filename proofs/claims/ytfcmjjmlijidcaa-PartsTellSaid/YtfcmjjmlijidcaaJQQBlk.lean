/- What the program's blocks of a list, and Blocks, answer, for whatever lists they are handed. -/
import Derived.Test.YtfcmjjmlijidcaaJQQCopy
namespace Go.Proofs.Ytfcmjjmlijidcaa
set_option maxRecDepth 100000
set_option linter.unusedVariables false
open Go.RowKit Go.Shelf

theorem own_keep {w w' : World} {base : Nat} {v : Value} {n : Nat} {xs : List Value} (h : w.ownsRow base 3 1 v n xs) (hb : Below w.heap.size w w') : w'.ownsRow base 3 1 v n xs := own_below h hb
theorem ris_lt (l : List Nat) (h : Rising l) : l.Pairwise (· < ·) := rising_lt h
/-- At each round's head: the blocks so far, and where the last one ended. -/
def BoRel (F l : List Nat) (w : World) (v s p : Value) (wr : World) : Prop :=
  ∃ (i a : Nat) (out : List Nat), i ≤ F.length ∧ p = .int .i64 (i : Int) ∧ s = .int .i64 (a : Int) ∧ a ≤ i ∧ out.length ≤ i ∧ bks F l = out ++ blk ((F.drop i).map (inL l)) (i - a) (decide (out.length % 2 = 0)) ∧
    wr.ownsRow w.heap.size 3 1 v out.length (zc (ns out)) ∧ Below w.heap.size w wr
/-- A list of the call's own comes back. -/
def OwnI (w : World) (l : List Nat) (e : Ending) (w' : World) : Prop :=
  ∃ A c, e = .returned (.slice A l.length c) ∧ w'.ownsRow w.heap.size 3 1 (.slice A l.length c) l.length (zc (ns l)) ∧ Below w.heap.size w w'
set_option maxHeartbeats 4000000 in
theorem blocksOf_in (F l : List Nat) (hF : Rising F) (hl : Rising l) (n m : Nat) (hn : F.length = n) (hm : l.length = m) (M : List Nat) (hM : bks F l = M) (A1 A2 : Option Addr) (c1 c2 : Nat) (w : World) (h1 : RdV w w.heap.size A1 (zc (ns F))) (h2 : RdV w w.heap.size A2 (zc (ns l))) :
    Calls Try.prog 53 #[.slice A1 n c1, .slice A2 m c2] w (OwnI w M) := by
  have h300 : n ≤ 300 := by have := hF.1; omega
  have HCt : Hid (∀ x V, Below w.heap.size w V → Calls Try.prog 52 #[.slice A2 m c2, .int .i64 ((x : Nat) : Int)] V fun e w' => e = .returned (.bool (inL l x)) ∧ Below V.heap.size V w') := fun x V hV => pcont_any l (ris_lt l hl) (fun y hy => (ris_le l _ hl.2 y hy).2) m hm (by have := hl.1; omega) x A2 c2 V (h2.on hV)
  obtain ⟨i0, hi, hz0, hz1, hz2⟩ := info_parts info3
  have HX := Lib.hid h1; have HN := Lib.hid hn; have HMM := Lib.hid hM
  clear h1 h2 hn hm hM hF hl
  go_enter Try.func53, Try.ntmps53
  go_wp2
  go_loopw [5, 6, 11] (fun v s p wr => BoRel F l w v s p wr) (fun _ _ p _ => n - (intOf p).toNat)
  case atStart => exact ⟨0, 0, [], Nat.zero_le _, rfl, rfl, Nat.le_refl _, Nat.le_refl _, rfl, ⟨rfl, .inl ⟨rfl, rfl⟩⟩, Below.refl _ _⟩
  case round =>
    obtain ⟨i, a, out, hi', rfl, rfl, hai, hol, hbk, hrow, hbel⟩ := hrel
    rw [HN.out] at hi'
    obtain ⟨Av, cv, rfl⟩ := own_slice3 hrow
    by_cases hlt : i < n
    · have hin : i < F.length := by rw [HN.out]; exact hlt
      obtain ⟨b, off, rfl, hb, hcx⟩ := (HX.out.on hbel).at_ (ns_get F i hin)
      have hd : (F.drop i).map (inL l) = inL l (F[i]?.getD 0) :: (F.drop (i + 1)).map (inL l) := by rw [drop_nat F i hin]; rfl
      rw [hd, blk_cons] at hbk
      have HB := Lib.hid hbel
      generalize F[i]?.getD 0 = x at *
      have HC := Lib.hid (HCt.out x wr hbel)
      have HCo := Lib.hid (fun V => copies_any out.length (by omega) V)
      have t1 : IntKind.i64.wrap ((i : Int) - (a : Int)) = (i : Int) - (a : Int) := IntWalk.i64_in _ (by omega)
      clear hbel hd
      generalize hk : out.length = k at *
      have HK := Lib.hid hk
      clear hk
      generalize inL l x = f at *
      generalize hp : decide (k % 2 = 0) = p at *
      have HP := Lib.hid hp
      clear hp
      by_cases hfp : f = p
      · rw [if_pos hfp] at hbk
        have HBk : Hid (bks F l = out ++ blk ((F.drop (i + 1)).map (inL l)) (i + 1 - a) p) := by show _ = _; rw [hbk, show i + 1 - a = i - a + 1 by omega]
        clear hbk
        subst hfp
        have t2 : (f != f) = false := by simp
        go_wp2_with (first | (go_at_call 52; refine HC.out.mono ?_; rintro e w1 ⟨rfl, B1⟩; have HB1 : Hid (Below w.heap.size w w1) := HB.out.trans (B1.mono HB.out.size); have hrow1 := own_keep hrow B1; clear B1) | (go_at_call 55; refine (HCo.out _).mono ?_; rintro e w' ⟨rfl, rfl⟩))
        all_goals (
          go_roundw
          case rel => exact ⟨i + 1, a, out, by rw [HN.out]; omega, by go_num, rfl, by omega, by rw [HK.out]; omega, by rw [HK.out, HP.out]; exact HBk.out, by rw [HK.out]; exact hrow1, HB1.out⟩
          case measure => simp [intOf]; omega)
      · rw [if_neg hfp] at hbk
        have hnp : (!p) = decide ((k + 1) % 2 = 0) := by rw [← HP.out]; exact par_succ k
        have HBk : Hid (bks F l = (out ++ [i - a]) ++ blk ((F.drop (i + 1)).map (inL l)) (i + 1 - i) (decide ((k + 1) % 2 = 0))) := by
          show _ = _
          rw [hbk, ← hnp, show i + 1 - i = 1 by omega, List.append_assoc]; rfl
        have hia : ((i : Int) - (a : Int)) = ((i - a : Nat) : Int) := by omega
        have t2 : (f != p) = true := by cases f <;> cases p <;> simp_all
        have t5 : (f == p) = false := by cases f <;> cases p <;> simp_all
        have t6 : ¬ f = p := hfp
        have HLn : Hid ((out ++ [i - a]).length = k + 1) := by show _ = _; rw [List.length_append, HK.out]; rfl
        have HZc : Hid (zc (ns out) ++ [Value.int .i64 ((i : Int) - (a : Int))] = zc (ns (out ++ [i - a]))) := by show _ = _; rw [ns_append, zc_append, hia]; rfl
        clear hbk hnp hfp hia
        go_wp2_with (first | (go_at_call 52; refine HC.out.mono ?_; rintro e w1 ⟨rfl, B1⟩; have HB1 : Hid (Below w.heap.size w w1) := HB.out.trans (B1.mono HB.out.size); have hrow1 := own_keep hrow B1; clear B1 HB hrow; have hrow := hrow1; have HB := HB1; clear hrow1) | (go_at_call 55; refine (HCo.out _).mono ?_; rintro e w' ⟨rfl, rfl⟩) | (at_builtin; refine wpList_append_own _ rfl _ _ 22 rfl w.heap.size 3 i0 (.int .i64 0) 1 8 Try.underlying22 hi hz0 hz1 hz2 rfl (by decide) _ _ _ rfl (hrow.alloc _) ⟨w1.heap.size, 0, none⟩ 1 1 [.int .i64 ((i : Int) - (a : Int))] rfl rfl (news_row w1 [.int .i64 ((i : Int) - (a : Int))] _) (by simp [Value.oneCell']) (by unfold maxLen; omega) (by omega) (by have := HB.out.size; simp; omega) ?_; intro v' w3 hown' hgrow _; obtain ⟨Av', cv', rfl⟩ := own_slice3 hown'))
        rw [HZc.out] at hown'
        have HO3 := Lib.hid hown'
        have HB3 : Hid (Below w.heap.size w w3) := HB.out.trans (((Below.refl w.heap.size w1).alloc HB.out.size _).trans (grown_low hgrow (hrow.alloc _) (by have := HB.out.size; simp; omega)))
        clear hown' hgrow hrow
        go_wp2
        go_roundw
        case rel => exact ⟨i + 1, i, out ++ [i - a], by rw [HN.out]; omega, by go_num, rfl, by omega, by rw [HLn.out]; omega, by rw [HLn.out]; exact HBk.out, by rw [HLn.out]; exact HO3.out, HB3.out⟩
        case measure => simp [intOf]; omega
    · have e : F.drop i = [] := List.drop_of_length_le (by rw [HN.out]; omega)
      rw [e] at hbk
      have HMq : Hid (M = out) := by show _ = _; rw [← HMM.out, hbk]; simp [blk]
      have HB := Lib.hid hbel
      clear hbel hbk e
      generalize hk : out.length = k at *
      have HK := Lib.hid hk
      have HO := Lib.hid hrow
      clear hk hrow
      go_wp2
      go_ret
      exact ⟨_, _, by rw [HMq.out, HK.out]; rfl, by rw [HMq.out, HK.out]; exact HO.out, HB.out⟩

/-- Two lists and an error come back. -/
def TwoI (w : World) (l1 l2 : List Nat) (err : Int) (e : Ending) (w' : World) : Prop :=
  ∃ A1 c1 A2 c2, e = .returned (.tuple #[.slice A1 l1.length c1, .slice A2 l2.length c2, .int .i64 err]) ∧ (l1.length ≤ c1 ∧ (A1 = none → c1 = 0)) ∧ (l2.length ≤ c2 ∧ (A2 = none → c2 = 0)) ∧ RdV w' w'.heap.size A1 (zc (ns l1)) ∧ RdV w' w'.heap.size A2 (zc (ns l2)) ∧ Below w.heap.size w w'
/-- The same, in rows of the call's own. -/
def TwoO (w : World) (l1 l2 : List Nat) (err : Int) (e : Ending) (w' : World) : Prop :=
  ∃ A1 c1 A2 c2, e = .returned (.tuple #[.slice A1 l1.length c1, .slice A2 l2.length c2, .int .i64 err]) ∧ w'.ownsRow w.heap.size 3 1 (.slice A1 l1.length c1) l1.length (zc (ns l1)) ∧ w'.ownsRow w.heap.size 3 1 (.slice A2 l2.length c2) l2.length (zc (ns l2)) ∧ Below w.heap.size w w'
set_option maxHeartbeats 1000000 in
theorem blocks_e (xs : List Int) (n : Nat) (hn : xs.length = n) (hn2 : n ≤ 9223372036854775807) (ys : List Int) (m : Nat) (hm : ys.length = m) (hm2 : m ≤ 9223372036854775807) (e0 : Int) (he : pbE xs ys = e0) (h0 : e0 ≠ 0) (A1 A2 : Option Addr) (c1 c2 : Nat) (w : World) (h1 : RdV w w.heap.size A1 (zc xs)) (h2 : RdV w w.heap.size A2 (zc ys)) :
    Calls Try.prog 12 #[.slice A1 n c1, .slice A2 m c2] w (TwoI w [] [] e0) := by
  have HC := Lib.hid (gcheck_any xs n hn hn2 A1 c1 w h1)
  have HC2 : Hid (∀ V, Below w.heap.size w V → Calls Try.prog 29 #[.slice A2 m c2] V fun e w' => e = .returned (.int .i64 (rchk ys)) ∧ Below V.heap.size V w') := fun V hV => gcheck_any ys m hm hm2 A2 c2 V (h2.on hV)
  unfold pbE at he
  have t0 : (e0 != 0) = true := by simpa using h0
  by_cases hr : rchk xs = 0
  · rw [if_neg (by simpa using hr)] at he
    rw [hr] at HC
    rw [he] at HC2
    clear h1 h2 hn hm he h0 hr
    go_enter Try.func12, Try.ntmps12
    go_wp2_with fail
    refine HC.out.mono ?_
    rintro e w1 ⟨rfl, B1⟩
    have HB1 := Lib.hid B1; clear B1
    go_wp2_with fail
    refine (HC2.out w1 HB1.out).mono ?_
    rintro e w2 ⟨rfl, B2⟩
    have HB2 := Lib.hid (HB1.out.trans (B2.mono HB1.out.size)); clear B2
    go_wp2
    go_ret3
    exact ⟨none, 0, none, 0, rfl, ⟨Nat.le_refl _, fun _ => rfl⟩, ⟨Nat.le_refl _, fun _ => rfl⟩, .inl rfl, .inl rfl, HB2.out⟩
  · rw [if_pos (by simpa using hr)] at he
    rw [he] at HC
    clear h1 h2 hn hm he h0 hr HC2
    go_enter Try.func12, Try.ntmps12
    go_wp2_with fail
    refine HC.out.mono ?_
    rintro e w1 ⟨rfl, B1⟩
    have HB1 := Lib.hid B1; clear B1
    go_wp2
    go_ret3
    exact ⟨none, 0, none, 0, rfl, ⟨Nat.le_refl _, fun _ => rfl⟩, ⟨Nat.le_refl _, fun _ => rfl⟩, .inl rfl, .inl rfl, HB1.out⟩
theorem notin_step (F l : List Nat) (i : Nat) (h : i < l.length) : notin F (l.take (i + 1)) = notin F (l.take i) ++ (if inL F (l[i]?.getD 0) then [] else [l[i]?.getD 0]) := by
  rw [take_snocN l i h]
  unfold notin
  rw [List.filter_append]
  cases hh : inL F (l[i]?.getD 0) <;> simp [hh]
/-- At each round's head: what is left of the first ones. -/
def RtRel (F l : List Nat) (w : World) (v p : Value) (wr : World) : Prop :=
  ∃ i : Nat, i ≤ l.length ∧ p = .int .i64 (i : Int) ∧ wr.ownsRow w.heap.size 3 1 v (notin F (l.take i)).length (zc (ns (notin F (l.take i)))) ∧ Below w.heap.size w wr
theorem notin_len (F l : List Nat) : (notin F l).length ≤ l.length := List.length_filter_le _ _
set_option maxHeartbeats 4000000 in
theorem blocks_own (F l : List Nat) (hF : Rising F) (hl : Rising l) (n m : Nat) (hn : F.length = n) (hm : l.length = m) (M R : List Nat) (hM : bks F l = M) (hR : notin F l = R) (A1 A2 : Option Addr) (c1 c2 : Nat) (w : World) (h1 : RdV w w.heap.size A1 (zc (ns F))) (h2 : RdV w w.heap.size A2 (zc (ns l))) :
    Calls Try.prog 12 #[.slice A1 n c1, .slice A2 m c2] w (TwoO w M R 0) := by
  have h300 : m ≤ 300 := by have := hl.1; omega
  have HC : Hid (Calls Try.prog 29 #[.slice A1 n c1] w fun e w' => e = .returned (.int .i64 0) ∧ Below w.heap.size w w') := by
    have := gcheck_any (ns F) n (by rw [ns_length, hn]) (by have := hF.1; omega) A1 c1 w h1
    rwa [rchk_ok F hF] at this
  have HC2 : Hid (∀ V, Below w.heap.size w V → Calls Try.prog 29 #[.slice A2 m c2] V fun e w' => e = .returned (.int .i64 0) ∧ Below V.heap.size V w') := fun V hV => by
    have := gcheck_any (ns l) m (by rw [ns_length, hm]) (by omega) A2 c2 V (h2.on hV)
    rwa [rchk_ok l hl] at this
  have HCt : Hid (∀ x V, Below w.heap.size w V → Calls Try.prog 52 #[.slice A1 n c1, .int .i64 ((x : Nat) : Int)] V fun e w' => e = .returned (.bool (inL F x)) ∧ Below V.heap.size V w') := fun x V hV => pcont_any F (ris_lt F hF) (fun y hy => (ris_le F _ hF.2 y hy).2) n hn (by have := hF.1; omega) x A1 c1 V (h1.on hV)
  have HBo : Hid (∀ V, Below w.heap.size w V → Calls Try.prog 53 #[.slice A1 n c1, .slice A2 m c2] V (OwnI V M)) := fun V hV => blocksOf_in F l hF hl n m hn hm M hM A1 A2 c1 c2 V (h1.on hV) (h2.on hV)
  obtain ⟨i0, hi, hz0, hz1, hz2⟩ := info_parts info3
  have HX := Lib.hid h2; have HN := Lib.hid hm; have HRR := Lib.hid hR
  clear h1 h2 hn hm hM hR hF hl
  go_enter Try.func12, Try.ntmps12
  go_wp2_with fail
  refine HC.out.mono ?_
  rintro e w1 ⟨rfl, B1⟩
  have HB1 := Lib.hid B1; clear B1
  go_wp2_with fail
  refine (HC2.out w1 HB1.out).mono ?_
  rintro e w2 ⟨rfl, B2⟩
  have HB2 := Lib.hid (HB1.out.trans (B2.mono HB1.out.size)); clear B2
  clear HC HC2
  go_wp2
  go_loopw [9, 24] (fun v p wr => RtRel F l w v p wr) (fun _ p _ => m - (intOf p).toNat)
  case atStart => exact ⟨0, Nat.zero_le _, rfl, ⟨rfl, .inl ⟨rfl, rfl⟩⟩, HB2.out⟩
  case round =>
    obtain ⟨i, hi', rfl, hrow, hbel⟩ := hrel
    rw [HN.out] at hi'
    obtain ⟨Av, cv, rfl⟩ := own_slice3 hrow
    by_cases hlt : i < m
    · have hin : i < l.length := by rw [HN.out]; exact hlt
      obtain ⟨b, off, rfl, hb, hcx⟩ := (HX.out.on hbel).at_ (ns_get l i hin)
      have hst := notin_step F l i hin
      have hle := Nat.le_trans (notin_len F (l.take i)) (List.length_take_le i l)
      have HB := Lib.hid hbel
      generalize l[i]?.getD 0 = x at *
      have HC := Lib.hid (HCt.out x wr hbel)
      generalize notin F (l.take i) = out at *
      clear hbel
      generalize hk : out.length = k at *
      have HK := Lib.hid hk
      clear hk
      generalize inL F x = f at *
      cases f with
      | true =>
        rw [if_pos rfl, List.append_nil] at hst
        have HSt := Lib.hid hst
        clear hst
        go_wp2_with (go_at_call 52; refine HC.out.mono ?_; rintro e w1 ⟨rfl, B1⟩; have HB1 : Hid (Below w.heap.size w w1) := HB.out.trans (B1.mono HB.out.size); have hrow1 := own_keep hrow B1; clear B1)
        go_roundw
        case rel => exact ⟨i + 1, by rw [HN.out]; omega, by go_num, by rw [HSt.out, HK.out]; exact hrow1, HB1.out⟩
        case measure => simp [intOf]; omega
      | false =>
        rw [if_neg (by decide)] at hst
        have HSt := Lib.hid hst
        have HLn : Hid ((out ++ [x]).length = k + 1) := by show _ = _; rw [List.length_append, HK.out]; rfl
        have HZc : Hid (zc (ns out) ++ [Value.int .i64 (x : Int)] = zc (ns (out ++ [x]))) := by show _ = _; rw [ns_append, zc_append]; rfl
        clear hst
        go_wp2_with (first | (go_at_call 52; refine HC.out.mono ?_; rintro e w1 ⟨rfl, B1⟩; have HB1 : Hid (Below w.heap.size w w1) := HB.out.trans (B1.mono HB.out.size); have hrow1 := own_keep hrow B1; clear B1 HB hrow; have hrow := hrow1; have HB := HB1; clear hrow1) | (at_builtin; refine wpList_append_own _ rfl _ _ 22 rfl w.heap.size 3 i0 (.int .i64 0) 1 8 Try.underlying22 hi hz0 hz1 hz2 rfl (by decide) _ _ _ rfl (hrow.alloc _) ⟨w1.heap.size, 0, none⟩ 1 1 [.int .i64 (x : Int)] rfl rfl (news_row w1 [.int .i64 (x : Int)] _) (by simp [Value.oneCell']) (by unfold maxLen; omega) (by omega) (by have := HB.out.size; simp; omega) ?_; intro v' w3 hown' hgrow _; obtain ⟨Av', cv', rfl⟩ := own_slice3 hown'))
        rw [HZc.out] at hown'
        have HO3 := Lib.hid hown'
        have HB3 : Hid (Below w.heap.size w w3) := HB.out.trans (((Below.refl w.heap.size w1).alloc HB.out.size _).trans (grown_low hgrow (hrow.alloc _) (by have := HB.out.size; simp; omega)))
        clear hown' hgrow hrow
        go_wp2
        go_roundw
        case rel => exact ⟨i + 1, by rw [HN.out]; omega, by go_num, by rw [HSt.out, HLn.out]; exact HO3.out, HB3.out⟩
        case measure => simp [intOf]; omega
    · have e : l.take i = l := List.take_of_length_le (by rw [HN.out]; omega)
      have hLq : Hid ((notin F (l.take i)).length = R.length) := by show _ = _; rw [e, HRR.out]
      rw [e, HRR.out] at hrow
      have HO := Lib.hid hrow
      have HB := Lib.hid hbel
      have HBk := Lib.hid (HBo.out wr hbel)
      clear hrow hbel e
      go_wp2_with fail
      refine HBk.out.mono ?_
      rintro e w3 ⟨A3, c3, rfl, k3, k4⟩
      have HB3 : Hid (Below w.heap.size w w3) := HB.out.trans (k4.mono HB.out.size)
      have HR3 : Hid (w3.ownsRow w.heap.size 3 1 (.slice A3 M.length c3) M.length (zc (ns M))) := own_base k3 HB.out.size
      have HO3 : Hid (w3.ownsRow w.heap.size 3 1 (.slice Av R.length cv) R.length (zc (ns R))) := own_keep HO.out k4
      clear k3 k4
      go_wp2
      go_ret3
      exact ⟨_, _, _, _, by rw [← hLq.out]; rfl, HR3.out, HO3.out, HB3.out⟩
theorem twoO {w : World} {l1 l2 : List Nat} {err : Int} {e : Ending} {w' : World} (h : TwoO w l1 l2 err e w') : TwoI w l1 l2 err e w' := by
  obtain ⟨A1, c1, A2, c2, a, r1, r2, b⟩ := h
  exact ⟨A1, c1, A2, c2, a, ⟨own_cap r1, own_none r1⟩, ⟨own_cap r2, own_none r2⟩, own_rdv r1, own_rdv r2, b⟩
theorem blocks_in (F l : List Nat) (hF : Rising F) (hl : Rising l) (n m : Nat) (hn : F.length = n) (hm : l.length = m) (M R : List Nat) (hM : bks F l = M) (hR : notin F l = R) (A1 A2 : Option Addr) (c1 c2 : Nat) (w : World) (h1 : RdV w w.heap.size A1 (zc (ns F))) (h2 : RdV w w.heap.size A2 (zc (ns l))) :
    Calls Try.prog 12 #[.slice A1 n c1, .slice A2 m c2] w (TwoI w M R 0) :=
  (blocks_own F l hF hl n m hn hm M R hM hR A1 A2 c1 c2 w h1 h2).mono fun _ _ h => twoO h
theorem pblocks_any (xs : List Int) (n : Nat) (hn : xs.length = n) (hn2 : n ≤ 9223372036854775807) (ys : List Int) (m : Nat) (hm : ys.length = m) (hm2 : m ≤ 9223372036854775807) (A1 A2 : Option Addr) (c1 c2 : Nat) (w : World) (h1 : RdV w w.heap.size A1 (zc xs)) (h2 : RdV w w.heap.size A2 (zc ys)) :
    Calls Try.prog 12 #[.slice A1 n c1, .slice A2 m c2] w (TwoI w (pbB xs ys) (pbR xs ys) (pbE xs ys)) := by
  by_cases h0 : pbE xs ys = 0
  · have h0' := h0
    unfold pbE at h0'
    by_cases hr : rchk xs = 0
    · rw [if_neg (by simpa using hr)] at h0'
      obtain ⟨F, rfl, hF⟩ := rchk_zero xs hr
      obtain ⟨l, rfl, hl⟩ := rchk_zero ys h0'
      rw [ns_length] at hn hm
      have e1 : pbB (ns F) (ns l) = bks F l := by unfold pbB; rw [if_neg (by simpa using h0), tn_ns, tn_ns]
      have e2 : pbR (ns F) (ns l) = notin F l := by unfold pbR; rw [if_neg (by simpa using h0), tn_ns, tn_ns]
      rw [h0, e1, e2]
      exact blocks_in F l hF hl n m hn hm _ _ rfl rfl A1 A2 c1 c2 w h1 h2
    · rw [if_pos (by simpa using hr)] at h0'; exact absurd h0' hr
  · have e1 : pbB xs ys = [] := by unfold pbB; rw [if_pos (by simpa using h0)]
    have e2 : pbR xs ys = [] := by unfold pbR; rw [if_pos (by simpa using h0)]
    rw [e1, e2]
    exact blocks_e xs n hn hn2 ys m hm hm2 _ rfl h0 A1 A2 c1 c2 w h1 h2
set_option maxHeartbeats 1000000 in
/-- What Join answers. -/
theorem pjoin_any (xs : List Int) (n : Nat) (hn : xs.length = n) (hn2 : n ≤ 9223372036854775807) (bs : List Int) (m : Nat) (hm : bs.length = m) (hm2 : m ≤ 9223372036854775807) (ys : List Int) (k : Nat) (hk : ys.length = k) (hk2 : k ≤ 9223372036854775807) (A1 A2 A3 : Option Addr) (c1 c2 c3 : Nat) (hA1 : A1 = none → c1 = 0) (hc1 : n ≤ c1) (hA3 : A3 = none → c3 = 0) (w : World) (h1 : RdV w w.heap.size A1 (zc xs)) (h2 : RdV w w.heap.size A2 (zc bs)) (h3 : RdV w w.heap.size A3 (zc ys)) :
    Calls Try.prog 14 #[.slice A1 n c1, .slice A2 m c2, .slice A3 k c3] w (IntsP w (jnA xs bs ys).1 (jnA xs bs ys).2) := by
  have HP := Lib.hid (pcopy_any xs n hn hn2 bs m hm hm2 A1 A2 c1 c2 hA1 hc1 w h1 h2)
  have HC : Hid (∀ V, Below w.heap.size w V → Calls Try.prog 29 #[.slice A3 k c3] V fun e w' => e = .returned (.int .i64 (rchk ys)) ∧ Below V.heap.size V w') := fun V hV => gcheck_any ys k hk hk2 A3 c3 V (h3.on hV)
  by_cases hc : cpE xs bs = 0
  · by_cases hr : rchk ys = 0
    · obtain ⟨l, rfl, hl⟩ := rchk_zero ys hr
      have hz : rchk xs = 0 := by
        by_cases hz : rchk xs = 0
        · exact hz
        · unfold cpE at hc; rw [if_pos (by simpa using hz)] at hc; exact hc
      obtain ⟨F, rfl, hF⟩ := rchk_zero xs hz
      have e : jnA (ns F) bs (ns l) = un (cpA (ns F) bs) l := by
        have e1 : jnE (ns F) bs (ns l) = 0 := by unfold jnE; rw [if_neg (by simpa using hc)]; exact hr
        have e2 : cpA (ns F) bs = cp true (tn bs) (tn (ns F)) := by unfold cpA; rw [if_neg (by simpa using hc)]
        unfold jnA
        rw [if_neg (by simpa using e1), ← e2, tn_ns l]
      rw [e]
      rw [ns_length] at hk
      have hcl : (cpA (ns F) bs).length ≤ 300 := by
        unfold cpA
        rw [if_neg (by simpa using hc), tn_ns]
        exact Nat.le_trans (cp_len (tn bs) true F).length_le hF.1
      rw [hc] at HP
      rw [hr] at HC
      generalize hM : cpA (ns F) bs = M at *
      have HU : Hid (∀ A c V, (A = none → c = 0) → RdV V V.heap.size A (zc (ns M)) → Below w.heap.size w V → Calls Try.prog 56 #[.slice A M.length c, .slice A3 k c3] V (IntsP V (un M l).1 (un M l).2)) := fun A c V hA hV hb => union_any M l M.length k rfl hk (by omega) (by have := hl.1; omega) _ _ rfl A A3 c c3 hA hA3 V hV (h3.on hb)
      clear h1 h2 h3 hn hm hk e hc hr hM hz
      generalize un M l = U at *
      go_enter Try.func14, Try.ntmps14
      go_wp2_with fail
      refine HP.out.mono ?_
      rintro e w1 ⟨A, c, rfl, k1, k2, k3, k4⟩
      have HB1 := Lib.hid k4; have HR1 := Lib.hid k3
      clear k3 k4
      go_wp2_with fail
      refine (HC.out w1 HB1.out).mono ?_
      rintro e w2 ⟨rfl, B2⟩
      have HB2 := Lib.hid (HB1.out.trans (B2.mono HB1.out.size))
      have HUu := Lib.hid (HU.out A c w2 k2 (HR1.out.on B2) HB2.out)
      clear B2 HU
      generalize M.length = ml at *
      go_wp2_with fail
      refine HUu.out.mono ?_
      rintro e w3 ⟨A5, c5, rfl, j1, j2, j3, j4⟩
      have HB3 := Lib.hid (HB2.out.trans (j4.mono HB2.out.size)); have HR3 := Lib.hid j3
      clear j3 j4
      go_wp2
      go_ret2
      exact ⟨_, _, rfl, j1, j2, HR3.out, HB3.out⟩
    · have e : jnA xs bs ys = ([], rchk ys) := by
        have e1 : jnE xs bs ys = rchk ys := by unfold jnE; rw [if_neg (by simpa using hc)]
        unfold jnA
        rw [e1, if_pos (by simpa using hr)]
      rw [e]
      rw [hc] at HP
      generalize rchk ys = er at *
      have t0 : (er != 0) = true := by simpa using hr
      generalize (cpA xs bs) = M at *
      clear h1 h2 h3 hn hm hk e hc hr
      generalize M.length = ml at *
      go_enter Try.func14, Try.ntmps14
      go_wp2_with fail
      refine HP.out.mono ?_
      rintro e w1 ⟨A, c, rfl, k1, k2, k3, k4⟩
      have HB1 := Lib.hid k4
      clear k3 k4
      go_wp2_with fail
      refine (HC.out w1 HB1.out).mono ?_
      rintro e w2 ⟨rfl, B2⟩
      have HB2 := Lib.hid (HB1.out.trans (B2.mono HB1.out.size))
      clear B2
      go_wp2
      go_ret2
      exact ⟨none, 0, rfl, Nat.le_refl _, fun _ => rfl, .inl rfl, HB2.out⟩
  · have e : jnA xs bs ys = ([], cpE xs bs) := by
      have e1 : jnE xs bs ys = cpE xs bs := by unfold jnE; rw [if_pos (by simpa using hc)]
      unfold jnA
      rw [e1, if_pos (by simpa using hc)]
    rw [e]
    generalize cpE xs bs = er at *
    have t0 : (er != 0) = true := by simpa using hc
    clear h1 h2 h3 hn hm hk e hc HC
    generalize (cpA xs bs) = M at *
    generalize M.length = ml at *
    go_enter Try.func14, Try.ntmps14
    go_wp2_with fail
    refine HP.out.mono ?_
    rintro e w1 ⟨A, c, rfl, k1, k2, k3, k4⟩
    have HB1 := Lib.hid k4
    clear k3 k4
    go_wp2
    go_ret2
    exact ⟨none, 0, rfl, Nat.le_refl _, fun _ => rfl, .inl rfl, HB1.out⟩
end Go.Proofs.Ytfcmjjmlijidcaa
