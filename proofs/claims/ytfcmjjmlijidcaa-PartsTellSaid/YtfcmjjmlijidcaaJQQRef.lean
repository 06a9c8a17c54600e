/- The document's own way to tell a list by another one: PartsBlocks, for lists that rise. -/
import Derived.Test.YtfcmjjmlijidcaaJQQBlk
import Derived.Test.YtfcmjjmlijidcaaJQQHas
namespace Go.Proofs.Ytfcmjjmlijidcaa
set_option maxRecDepth 100000
set_option linter.unusedVariables false
open Go.RowKit Go.Shelf

/-- What was ahead: true at the beginning. -/
def wasL (F l : List Nat) (i : Nat) : Bool := if i = 0 then true else inL l (F[i - 1]?.getD 0)
theorem wasL_succ (F l : List Nat) (i : Nat) : wasL F l (i + 1) = inL l (F[i]?.getD 0) := by unfold wasL; rw [if_neg (by omega)]; rfl
/-- At each round's head: the blocks so far, and where the last one ended. -/
def PbRel (F l : List Nat) (w : World) (v s p : Value) (wr : World) : Prop :=
  ∃ (i a : Nat) (out : List Nat), i ≤ F.length ∧ p = .int .i64 (i : Int) ∧ s = .int .i64 (a : Int) ∧ a ≤ i ∧ out.length ≤ i ∧ bks F l = out ++ blk ((F.drop i).map (inL l)) (i - a) (wasL F l i) ∧
    wr.ownsRow w.heap.size 3 1 v out.length (zc (ns out)) ∧ Below w.heap.size w wr
/-- Two lists come back. -/
def TwoL (w : World) (l1 l2 : List Nat) (e : Ending) (w' : World) : Prop :=
  ∃ A1 c1 A2 c2, e = .returned (.tuple #[.slice A1 l1.length c1, .slice A2 l2.length c2]) ∧ (l1.length ≤ c1 ∧ (A1 = none → c1 = 0)) ∧ (l2.length ≤ c2 ∧ (A2 = none → c2 = 0)) ∧ RdV w' w'.heap.size A1 (zc (ns l1)) ∧ RdV w' w'.heap.size A2 (zc (ns l2)) ∧ Below w.heap.size w w'
/-- A row of the call's own, far behind. -/
def RtRel2 (F l : List Nat) (w W : World) (v p : Value) (wr : World) : Prop :=
  ∃ i : Nat, i ≤ l.length ∧ p = .int .i64 (i : Int) ∧ wr.ownsRow W.heap.size 3 1 v (notin F (l.take i)).length (zc (ns (notin F (l.take i)))) ∧ Below W.heap.size W wr
set_option maxHeartbeats 8000000 in
theorem rblocks_in (F l : List Nat) (h300 : F.length ≤ 300) (h301 : l.length ≤ 300) (n m : Nat) (hn : F.length = n) (hm : l.length = m) (M R : List Nat) (hM : bks F l = M) (hR : notin F l = R) (A1 A2 : Option Addr) (c1 c2 : Nat) (w : World) (h1 : RdV w w.heap.size A1 (zc (ns F))) (h2 : RdV w w.heap.size A2 (zc (ns l))) :
    Calls Try.prog 16 #[.slice A1 n c1, .slice A2 m c2] w (TwoL w M R) := by
  rw [hn] at h300
  rw [hm] at h301
  have HH1 : Hid (∀ (x : Nat) V, Below w.heap.size w V → Calls Try.prog 21 #[.slice A2 m c2, .int .i64 (x : Int)] V fun e w' => e = .returned (.bool (inL l x)) ∧ V = w') := fun x V hV => (hasL_any l m hm (by omega) x (inL l x) rfl A2 c2 V (h2.on hV)).mono fun _ _ h => ⟨h.1, h.2.symm⟩
  have HH2 : Hid (∀ (x : Nat) V, Below w.heap.size w V → Calls Try.prog 21 #[.slice A1 n c1, .int .i64 (x : Int)] V fun e w' => e = .returned (.bool (inL F x)) ∧ V = w') := fun x V hV => (hasL_any F n hn (by omega) x (inL F x) rfl A1 c1 V (h1.on hV)).mono fun _ _ h => ⟨h.1, h.2.symm⟩
  obtain ⟨i0, hi, hz0, hz1, hz2⟩ := info_parts info3
  have HX1 := Lib.hid h1; have HX2 := Lib.hid h2; have HN := Lib.hid hn; have HM := Lib.hid hm; have HMM := Lib.hid hM; have HRR := Lib.hid hR
  clear h1 h2 hn hm hM hR
  go_enter Try.func16, Try.ntmps16
  go_wp2
  go_loopw [6, 8, 9] (fun v s p wr => PbRel F l w v s p wr) (fun _ _ p _ => n - (intOf p).toNat)
  case atStart => exact ⟨0, 0, [], Nat.zero_le _, rfl, rfl, Nat.le_refl _, Nat.le_refl _, rfl, ⟨rfl, .inl ⟨rfl, rfl⟩⟩, Below.refl _ _⟩
  case round =>
    obtain ⟨i, a, out, hi', rfl, rfl, hai, hol, hbk, hrow, hbel⟩ := hrel
    rw [HN.out] at hi'
    obtain ⟨Av, cv, rfl⟩ := own_slice3 hrow
    by_cases hlt : i < n
    · have hin : i < F.length := by rw [HN.out]; exact hlt
      have hrd := HX1.out.on hbel
      obtain ⟨b, off, rfl, hb, hcx⟩ := hrd.at_ (ns_get F i hin)
      have hd : (F.drop i).map (inL l) = inL l (F[i]?.getD 0) :: (F.drop (i + 1)).map (inL l) := by rw [drop_nat F i hin]; rfl
      rw [hd, blk_cons] at hbk
      have hws := wasL_succ F l i
      have HB := Lib.hid hbel
      have HC := Lib.hid (fun x => HH1.out x wr hbel)
      have t1 : IntKind.i64.wrap ((i : Int) - (a : Int)) = (i : Int) - (a : Int) := IntWalk.i64_in _ (by omega)
      clear hd
      generalize hk : out.length = k at *
      have HK := Lib.hid hk
      clear hk
      have HBe : Hid (∀ q : Bool, (inL l (F[i]?.getD 0) = q) → wasL F l i = q → bks F l = out ++ blk ((F.drop (i + 1)).map (inL l)) (i + 1 - a) (wasL F l (i + 1))) := fun q h1 h2 => by
        rw [hbk, if_pos (h1.trans h2.symm), hws, h1, h2, show i + 1 - a = i - a + 1 by omega]
      have HBn : Hid (∀ q : Bool, inL l (F[i]?.getD 0) = q → wasL F l i = (!q) → bks F l = (out ++ [i - a]) ++ blk ((F.drop (i + 1)).map (inL l)) (i + 1 - i) (wasL F l (i + 1))) := fun q h1 h2 => by
        rw [hbk, if_neg (by rw [h1, h2]; cases q <;> decide), hws, h1, h2, show i + 1 - i = 1 by omega, List.append_assoc, Bool.not_not]; rfl
      have hia : ((i : Int) - (a : Int)) = ((i - a : Nat) : Int) := by omega
      have HLn : Hid ((out ++ [i - a]).length = k + 1) := by show _ = _; rw [List.length_append, HK.out]; rfl
      have HZc : Hid (zc (ns out) ++ [Value.int .i64 ((i : Int) - (a : Int))] = zc (ns (out ++ [i - a]))) := by show _ = _; rw [ns_append, zc_append, hia]; rfl
      clear hbk hws hia
      generalize F[i]?.getD 0 = x at *
      by_cases hi0 : i = 0
      · have hw0 : wasL F l i = true := by unfold wasL; rw [if_pos hi0]
        have g1 : decide ((i : Int) > 0) = false := by simp; omega
        have g2 : decide ((0 : Int) < (i : Int)) = false := by simp; omega
        have g3 : decide (0 < i) = false := by simp; omega
        have HI0 := Lib.hid hi0
        clear hbel hi0 hrd
        cases hf : inL l x with
        | true =>
          have HBk := Lib.hid (HBe.out true hf hw0)
          have HCx := Lib.hid (HC.out x)
          rw [hf] at HCx
          clear hf hw0 HBe HBn
          go_wp2_with (go_at_call 21; refine HCx.out.mono ?_; rintro e w' ⟨rfl, rfl⟩)
          go_roundw
          case rel => exact ⟨i + 1, a, out, by rw [HN.out]; omega, by go_num, rfl, by omega, by rw [HK.out]; omega, HBk.out, by rw [HK.out]; exact hrow, HB.out⟩
          case measure => simp [intOf]; omega
        | false =>
          have HBk := Lib.hid (HBn.out false hf hw0)
          have HCx := Lib.hid (HC.out x)
          rw [hf] at HCx
          clear hf hw0 HBe HBn
          go_wp2_with (first | (go_at_call 21; refine HCx.out.mono ?_; rintro e w' ⟨rfl, rfl⟩) | (at_builtin; refine wpList_append_own _ rfl _ _ 22 rfl w.heap.size 3 i0 (.int .i64 0) 1 8 Try.underlying22 hi hz0 hz1 hz2 rfl (by decide) _ _ _ rfl (hrow.alloc _) ⟨wr.heap.size, 0, none⟩ 1 1 [.int .i64 ((i : Int) - (a : Int))] rfl rfl (news_row wr [.int .i64 ((i : Int) - (a : Int))] _) (by simp [Value.oneCell']) (by unfold maxLen; omega) (by omega) (by have := HB.out.size; simp; omega) ?_; intro v' w3 hown' hgrow _; obtain ⟨Av', cv', rfl⟩ := own_slice3 hown'))
          rw [HZc.out] at hown'
          have HO3 := Lib.hid hown'
          have HB3 : Hid (Below w.heap.size w w3) := HB.out.trans (((Below.refl w.heap.size _).alloc HB.out.size _).trans (grown_low hgrow (hrow.alloc _) (by have := HB.out.size; simp; omega)))
          clear hown' hgrow hrow
          go_wp2
          go_roundw
          case rel => exact ⟨i + 1, i, out ++ [i - a], by rw [HN.out]; omega, by go_num, rfl, by omega, by rw [HLn.out]; omega, HBk.out, by rw [HLn.out]; exact HO3.out, HB3.out⟩
          case measure => simp [intOf]; omega
      · have hin2 : i - 1 < F.length := by rw [HN.out]; omega
        obtain ⟨b2, off2, hA2', hb2, hcy⟩ := hrd.at_ (ns_get F (i - 1) hin2)
        simp only [Option.some.injEq, Addr.mk.injEq, and_true] at hA2'
        obtain ⟨rfl, rfl⟩ := hA2'
        have hw0 : wasL F l i = inL l (F[i - 1]?.getD 0) := by unfold wasL; rw [if_neg hi0]
        have g1 : decide ((i : Int) > 0) = true := by simp; omega
        have g2 : decide ((0 : Int) < (i : Int)) = true := by simp; omega
        have g3 : decide (0 < i) = true := by simp; omega
        have g4 : IntKind.i64.wrap ((i : Int) - 1) = (i : Int) - 1 := IntWalk.i64_in _ (by omega)
        have g5 : (0 : Int) ≤ (i : Int) - 1 := by omega
        have g6 : (i : Int) - 1 < (n : Int) := by omega
        have g7 : ((i : Int) - 1).toNat = i - 1 := by omega
        have g8 : (1 : Int) ≤ (i : Int) := by omega
        have g9 : (i : Int) < (n : Int) + 1 := by omega
        clear hbel hrd
        generalize F[i - 1]?.getD 0 = y at *
        have HCx := Lib.hid (HC.out x)
        have HCy := Lib.hid (HC.out y)
        generalize hp : inL l y = p at *
        cases hf : inL l x with
        | true =>
          rw [hf] at HCx
          cases p with
          | true =>
            have HBk := Lib.hid (HBe.out true hf hw0)
            clear hf hw0 HBe HBn HC hp
            go_wp2_with (first | (go_at_call 21; refine HCy.out.mono ?_; rintro e w' ⟨rfl, rfl⟩; clear HCy) | (go_at_call 21; refine HCx.out.mono ?_; rintro e w' ⟨rfl, rfl⟩))
            go_roundw
            case rel => exact ⟨i + 1, a, out, by rw [HN.out]; omega, by go_num, rfl, by omega, by rw [HK.out]; omega, HBk.out, by rw [HK.out]; exact hrow, HB.out⟩
            case measure => simp [intOf]; omega
          | false =>
            have HBk := Lib.hid (HBn.out true hf hw0)
            clear hf hw0 HBe HBn HC hp
            go_wp2_with (first | (go_at_call 21; refine HCy.out.mono ?_; rintro e w' ⟨rfl, rfl⟩; clear HCy) | (go_at_call 21; refine HCx.out.mono ?_; rintro e w' ⟨rfl, rfl⟩) | (at_builtin; refine wpList_append_own _ rfl _ _ 22 rfl w.heap.size 3 i0 (.int .i64 0) 1 8 Try.underlying22 hi hz0 hz1 hz2 rfl (by decide) _ _ _ rfl (hrow.alloc _) ⟨wr.heap.size, 0, none⟩ 1 1 [.int .i64 ((i : Int) - (a : Int))] rfl rfl (news_row wr [.int .i64 ((i : Int) - (a : Int))] _) (by simp [Value.oneCell']) (by unfold maxLen; omega) (by omega) (by have := HB.out.size; simp; omega) ?_; intro v' w3 hown' hgrow _; obtain ⟨Av', cv', rfl⟩ := own_slice3 hown'))
            rw [HZc.out] at hown'
            have HO3 := Lib.hid hown'
            have HB3 : Hid (Below w.heap.size w w3) := HB.out.trans (((Below.refl w.heap.size _).alloc HB.out.size _).trans (grown_low hgrow (hrow.alloc _) (by have := HB.out.size; simp; omega)))
            clear hown' hgrow hrow
            go_wp2
            go_roundw
            case rel => exact ⟨i + 1, i, out ++ [i - a], by rw [HN.out]; omega, by go_num, rfl, by omega, by rw [HLn.out]; omega, HBk.out, by rw [HLn.out]; exact HO3.out, HB3.out⟩
            case measure => simp [intOf]; omega
        | false =>
          rw [hf] at HCx
          cases p with
          | false =>
            have HBk := Lib.hid (HBe.out false hf hw0)
            clear hf hw0 HBe HBn HC hp
            go_wp2_with (first | (go_at_call 21; refine HCy.out.mono ?_; rintro e w' ⟨rfl, rfl⟩; clear HCy) | (go_at_call 21; refine HCx.out.mono ?_; rintro e w' ⟨rfl, rfl⟩))
            go_roundw
            case rel => exact ⟨i + 1, a, out, by rw [HN.out]; omega, by go_num, rfl, by omega, by rw [HK.out]; omega, HBk.out, by rw [HK.out]; exact hrow, HB.out⟩
            case measure => simp [intOf]; omega
          | true =>
            have HBk := Lib.hid (HBn.out false hf hw0)
            clear hf hw0 HBe HBn HC hp
            go_wp2_with (first | (go_at_call 21; refine HCy.out.mono ?_; rintro e w' ⟨rfl, rfl⟩; clear HCy) | (go_at_call 21; refine HCx.out.mono ?_; rintro e w' ⟨rfl, rfl⟩) | (at_builtin; refine wpList_append_own _ rfl _ _ 22 rfl w.heap.size 3 i0 (.int .i64 0) 1 8 Try.underlying22 hi hz0 hz1 hz2 rfl (by decide) _ _ _ rfl (hrow.alloc _) ⟨wr.heap.size, 0, none⟩ 1 1 [.int .i64 ((i : Int) - (a : Int))] rfl rfl (news_row wr [.int .i64 ((i : Int) - (a : Int))] _) (by simp [Value.oneCell']) (by unfold maxLen; omega) (by omega) (by have := HB.out.size; simp; omega) ?_; intro v' w3 hown' hgrow _; obtain ⟨Av', cv', rfl⟩ := own_slice3 hown'))
            rw [HZc.out] at hown'
            have HO3 := Lib.hid hown'
            have HB3 : Hid (Below w.heap.size w w3) := HB.out.trans (((Below.refl w.heap.size _).alloc HB.out.size _).trans (grown_low hgrow (hrow.alloc _) (by have := HB.out.size; simp; omega)))
            clear hown' hgrow hrow
            go_wp2
            go_roundw
            case rel => exact ⟨i + 1, i, out ++ [i - a], by rw [HN.out]; omega, by go_num, rfl, by omega, by rw [HLn.out]; omega, HBk.out, by rw [HLn.out]; exact HO3.out, HB3.out⟩
            case measure => simp [intOf]; omega
    · have e : F.drop i = [] := List.drop_of_length_le (by rw [HN.out]; omega)
      rw [e] at hbk
      have hMq : M = out := by rw [← HMM.out, hbk]; simp [blk]
      have HMq := Lib.hid hMq
      have HML : Hid (out.length = M.length) := by show _ = _; rw [hMq]
      have HK2 : Hid (out.length ≤ cv ∧ (Av = none → cv = 0)) := ⟨own_cap hrow, own_none hrow⟩
      have HO := Lib.hid (own_rdv hrow)
      have HB := Lib.hid hbel
      clear hrow hbel hbk e hMq
      generalize hk : out.length = k at *
      have HK := Lib.hid hk
      clear hk
      obtain ⟨W, hW⟩ : ∃ W, W = wr := ⟨_, rfl⟩
      subst hW
      go_wp2
      clear hi' hlt hai hol
      go_loopw [7, 11] (fun v p V => RtRel F l W v p V) (fun _ p _ => m - (intOf p).toNat)
      case atStart => exact ⟨0, Nat.zero_le _, rfl, ⟨rfl, .inl ⟨rfl, rfl⟩⟩, Below.refl _ _⟩
      case round =>
        obtain ⟨i, hi', rfl, hrow, hbel⟩ := hrel
        rw [HM.out] at hi'
        obtain ⟨Av2, cv2, rfl⟩ := own_slice3 hrow
        by_cases hlt : i < m
        · have hin : i < l.length := by rw [HM.out]; exact hlt
          have hbw := HB.out.trans (hbel.mono HB.out.size)
          obtain ⟨b, off, rfl, hb, hcx⟩ := (HX2.out.on hbw).at_ (ns_get l i hin)
          have hst := notin_step F l i hin
          have hle := Nat.le_trans (notin_len F (l.take i)) (List.length_take_le i l)
          have HBo := HB
          generalize l[i]?.getD 0 = x at *
          have HC := Lib.hid (HH2.out x wr hbw)
          generalize notin F (l.take i) = o2 at *
          have HB := Lib.hid hbel
          clear hbel hbw
          generalize hk2 : o2.length = k2 at *
          have HK2' := Lib.hid hk2
          clear hk2
          generalize inL F x = f at *
          cases f with
          | true =>
            rw [if_pos rfl, List.append_nil] at hst
            have HSt := Lib.hid hst
            clear hst
            go_wp2_with (go_at_call 21; refine HC.out.mono ?_; rintro e w' ⟨rfl, rfl⟩)
            go_roundw
            case rel => exact ⟨i + 1, by rw [HM.out]; omega, by go_num, by rw [HSt.out, HK2'.out]; exact hrow, HB.out⟩
            case measure => simp [intOf]; omega
          | false =>
            rw [if_neg (by decide)] at hst
            have HSt := Lib.hid hst
            have HLn : Hid ((o2 ++ [x]).length = k2 + 1) := by show _ = _; rw [List.length_append, HK2'.out]; rfl
            have HZc : Hid (zc (ns o2) ++ [Value.int .i64 (x : Int)] = zc (ns (o2 ++ [x]))) := by show _ = _; rw [ns_append, zc_append]; rfl
            clear hst
            go_wp2_with (first | (go_at_call 21; refine HC.out.mono ?_; rintro e w' ⟨rfl, rfl⟩) | (at_builtin; refine wpList_append_own _ rfl _ _ 22 rfl W.heap.size 3 i0 (.int .i64 0) 1 8 Try.underlying22 hi hz0 hz1 hz2 rfl (by decide) _ _ _ rfl (hrow.alloc _) ⟨wr.heap.size, 0, none⟩ 1 1 [.int .i64 (x : Int)] rfl rfl (news_row wr [.int .i64 (x : Int)] _) (by simp [Value.oneCell']) (by unfold maxLen; omega) (by omega) (by have := HB.out.size; simp; omega) ?_; intro v' w3 hown' hgrow _; obtain ⟨Av', cv', rfl⟩ := own_slice3 hown'))
            rw [HZc.out] at hown'
            have HO3 := Lib.hid hown'
            have HB3 : Hid (Below W.heap.size W w3) := HB.out.trans (((Below.refl W.heap.size _).alloc HB.out.size _).trans (grown_low hgrow (hrow.alloc _) (by have := HB.out.size; simp; omega)))
            clear hown' hgrow hrow
            go_wp2
            go_roundw
            case rel => exact ⟨i + 1, by rw [HM.out]; omega, by go_num, by rw [HSt.out, HLn.out]; exact HO3.out, HB3.out⟩
            case measure => simp [intOf]; omega
        · have e : l.take i = l := List.take_of_length_le (by rw [HM.out]; omega)
          have hLq : Hid ((notin F (l.take i)).length = R.length) := by show _ = _; rw [e, HRR.out]
          rw [e, HRR.out] at hrow
          have HJ2 : Hid (R.length ≤ cv2 ∧ (Av2 = none → cv2 = 0)) := ⟨own_cap hrow, own_none hrow⟩
          have HO2 := Lib.hid (own_rdv hrow)
          have HB2 : Hid (Below w.heap.size w wr) := HB.out.trans (hbel.mono HB.out.size)
          have HO1 : Hid (RdV wr wr.heap.size Av (zc (ns out))) := HO.out.on hbel
          clear hrow hbel e HO
          go_wp2
          go_ret2
          exact ⟨_, _, _, _, by rw [← hLq.out, ← HML.out]; rfl, by rw [← HML.out]; exact HK2.out, HJ2.out, by rw [HMq.out]; exact HO1.out, HO2.out, HB2.out⟩
end Go.Proofs.Ytfcmjjmlijidcaa
