/- The document's own numbers, parts and sums: what FibNum, FibParts and FibSum answer; each fact names its conditions. -/
import Derived.Test.YtjogccpnhcnedaaDoorFSame
import Derived.BigQuiet
namespace Go.Proofs.YtjogccpnhcnedaaDoor
set_option maxRecDepth 100000
set_option linter.unusedVariables false
open Go.RowKit Go.Shelf

/-- The number ahead. -/
def fbp : Nat → Nat
  | 0 => 1
  | k + 1 => fb k
theorem fbp_step (k : Nat) : fb k + fbp k = fb (k + 1) := by
  cases k with
  | zero => decide
  | succ k => rw [fb_step]; rfl
/-- At each round's head. -/
def FnRel (v u p : Value) : Prop := ∃ k : Nat, k ≤ 64 ∧ p = .int .i64 (k : Int) ∧ v = .int .u64 (fb k : Int) ∧ u = .int .u64 (fbp k : Int)
set_option maxHeartbeats 1000000 in
theorem fnumr_any (i : Nat) (hi : i ≤ 64) (w : World) :
    Calls Tryd.prog 14 #[.int .i64 (i : Int)] w fun e w' => e = .returned (.int .u64 (fb i : Int)) ∧ w = w' := by
  go_enter Tryd.func14, Tryd.ntmps14
  go_wp2
  go_loop [3, 4, 5] (fun v u p => FnRel v u p ∧ (intOf p) ≤ (i : Int)) (fun _ _ p => i - (intOf p).toNat)
  case atStart => exact ⟨⟨0, by omega, rfl, rfl, rfl⟩, by simp [intOf]⟩
  case round =>
    obtain ⟨⟨k, hk, rfl, rfl, rfl⟩, hki⟩ := hrel
    have hki2 : k ≤ i := by simpa [intOf] using hki
    clear hki
    by_cases hlt : k < i
    · have hs := fbp_step k
      have h64 := fb_mono (show k + 1 ≤ 64 by omega)
      rw [fb64] at h64
      have HS : Hid ((fb k : Int) + (fbp k : Int) = (fb (k + 1) : Int)) := by show _ = _; omega
      have HSw : Hid (IntKind.u64.wrap ((fb k : Int) + (fbp k : Int)) = (fb (k + 1) : Int)) := by show _ = _; rw [HS.out, IntKind.wrap_u64]; omega
      clear hs h64
      have HP : Hid (fbp (k + 1) = fb k) := rfl
      generalize fbp k = y at *
      generalize hx : fb k = x at *
      have HX := Lib.hid hx; clear hx
      go_wp2
      go_round
      case rel => exact ⟨⟨k + 1, by omega, by go_num, by first | rw [HSw.out] | rw [HS.out], by rw [HP.out]⟩, by simp [intOf]; omega⟩
      case measure => simp [intOf]; omega
    · obtain rfl : k = i := by omega
      go_wp2
      go_ret
      exact ⟨rfl, rfl⟩

theorem pts_zero : pts 0 = [] := by decide +kernel
theorem pts_step (n x : Nat) (h : n < fb 64) (h1 : fb x ≤ n) (h2 : n < fb (x + 1)) : pts n = pts (n - fb x) ++ [x] := by
  unfold pts
  rw [ptd_step n x h h1 h2, List.reverse_cons]
theorem pts_len (n : Nat) : (pts n).length ≤ 64 := by
  have e : (pts n).length = (spl 64 n).length := by show ((spl 64 n).reverse).length = _; rw [List.length_reverse]
  have := spl_len 64 n
  omega
/-- At each round's head: the number at i is no more. -/
def FpRel (n : Nat) (p : Value) : Prop := ∃ i : Nat, p = .int .i64 (i : Int) ∧ i ≤ 63 ∧ fb i ≤ n
set_option maxHeartbeats 2000000 in
theorem fpartsr_any (n : Nat) : ∀ (w : World), n < fb 64 →
    Calls Tryd.prog 15 #[.int .u64 (n : Int)] w (Inted w (ints (pts n))) := by
  induction n using Nat.strongRecOn with
  | _ n ih =>
    intro w hn
    rcases Nat.eq_zero_or_pos n with rfl | hpos
    · rw [pts_zero]
      go_enter Tryd.func15, Tryd.ntmps15
      go_wp2
      go_ret
      exact ⟨none, 0, rfl, ⟨rfl, .inl ⟨rfl, rfl⟩⟩, Below.refl _ _⟩
    · have HIH := Lib.hid ih; clear ih
      have HN := Lib.hid hn
      obtain ⟨i0, hi0, hz0, hz1, hz2⟩ := info_parts info3
      have t0 : ((n : Int) == 0) = false := by simp; omega
      have hn64 := hn
      rw [fb64] at hn64
      have hst : fb 0 ≤ n := hpos
      have HSt := Lib.hid hst
      clear hn hst
      go_enter Tryd.func15, Tryd.ntmps15
      go_wp2
      go_loop [3] (fun p => FpRel n p) (fun p => 64 - (intOf p).toNat)
      case atStart => exact ⟨0, rfl, by omega, HSt.out⟩
      case round =>
        obtain ⟨i, rfl, hi, hle⟩ := hrel
        have HLe := Lib.hid hle; clear hle
        have H1 : Hid (∀ w, Calls Tryd.prog 14 #[.int .i64 ((i : Int) + 1)] w fun e w' => e = .returned (.int .u64 (fb (i + 1) : Int)) ∧ w = w') := fun w => by
          have := fnumr_any (i + 1) (by omega) w
          rwa [show ((i + 1 : Nat) : Int) = (i : Int) + 1 from by omega] at this
        by_cases hgo : fb (i + 1) ≤ n
        · have hi62 : i < 63 := by
            rcases Nat.lt_or_ge i 63 with h | h
            · exact h
            · have := HN.out; have := fb_mono (show 64 ≤ i + 1 by omega); omega
          have t1 : decide (fb (i + 1) ≤ n) = true := by simpa using hgo
          have HGo := Lib.hid hgo; clear hgo
          generalize hf : fb (i + 1) = f1 at *
          have HF := Lib.hid hf; clear hf
          go_wp2_with fail
          refine (H1.out w).mono ?_
          rintro e w_ ⟨rfl, rfl⟩
          go_wp2
          go_round
          case rel => exact ⟨i + 1, by go_num, by omega, by rw [HF.out]; exact HGo.out⟩
          case measure => simp [intOf]; omega
        · have t1 : decide (fb (i + 1) ≤ n) = false := by simp; omega
          have H2 := Lib.hid (fnumr_any i (by omega))
          have HR : Hid (∀ w, Calls Tryd.prog 15 #[.int .u64 ((n : Int) - (fb i : Int))] w (Inted w (ints (pts (n - fb i))))) := fun w => by
            have hp := fb_pos i
            have := HIH.out (n - fb i) (by have := HLe.out; omega) w (Nat.lt_of_le_of_lt (Nat.sub_le _ _) HN.out)
            rwa [show ((n - fb i : Nat) : Int) = (n : Int) - (fb i : Int) from by have := HLe.out; omega] at this
          have HE : Hid (ints (pts n) = ints (pts (n - fb i)) ++ [(i : Int)]) := by
            show _ = _
            rw [pts_step n i HN.out HLe.out (by omega), ints_append]
            rfl
          have hpl := pts_len (n - fb i)
          have hle2 := HLe.out
          unfold Inted at HR
          have hil : (ints (pts (n - fb i))).length ≤ 64 := by rw [ints_length]; exact hpl
          clear hpl HIH HSt hgo
          generalize ints (pts (n - fb i)) = L at *
          generalize hll : L.length = ll at *
          have HLL := Lib.hid hll; clear hll
          generalize fb (i + 1) = f1 at *
          generalize fb i = f0 at *
          go_wp2_with fail
          refine (H1.out w).mono ?_
          rintro e w_ ⟨rfl, rfl⟩
          go_wp2_with fail
          refine (H2.out w).mono ?_
          rintro e w_ ⟨rfl, rfl⟩
          go_wp2_with fail
          refine (HR.out w).mono ?_
          rintro e w1 ⟨A, c, rfl, ho, hb⟩
          have HO := Lib.hid ho; have HB := Lib.hid hb; clear ho hb
          go_wp2_with (at_builtin; refine wpList_append_own _ rfl _ _ 23 rfl w.heap.size 3 i0 (.int .i64 0) 1 8 Tryd.underlying23 hi0 hz0 hz1 hz2 rfl (by decide) _ _ _ rfl (HO.out.alloc _) ⟨w1.heap.size, 0, none⟩ 1 1 [.int .i64 (i : Int)] rfl rfl (cell_one_new _ _ _) (by simp [Value.oneCell']) (by unfold maxLen; omega) (by omega) (by have := HB.out.size; simp; omega) ?_; intro v' w3 hown' hgrow _)
          have hbel3 : Below w.heap.size w w3 := HB.out.trans (((Below.refl w.heap.size w1).alloc HB.out.size _).trans (grown_belowT hgrow (HO.out.alloc _) (by have := HB.out.size; simp; omega)))
          obtain ⟨A3, c3, rfl⟩ := own_slice3 hown'
          go_ret
          have hln : (ints (pts n)).length = ll + 1 := by rw [HE.out, List.length_append, HLL.out]; rfl
          refine ⟨A3, c3, by rw [hln]; rfl, ?_, hbel3⟩
          rw [hln, HE.out, zc_append]
          exact hown'
end Go.Proofs.YtjogccpnhcnedaaDoor
