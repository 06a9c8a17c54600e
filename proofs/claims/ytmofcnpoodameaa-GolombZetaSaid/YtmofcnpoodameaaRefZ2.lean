/- The document's own ZetaRead; with its conditions. -/
import Derived.Test.YtmofcnpoodameaaRefZ
namespace Go.Proofs.Ytmofcnpoodameaa
set_option maxRecDepth 100000
set_option linter.unusedVariables false
open Go.RowKit

def ZRRel (k q : Nat) (v p : Value) : Prop := ∃ j : Nat, j ≤ q ∧ v = .int .u64 ((2 ^ (j * k) : Nat) : Int) ∧ p = .int .u64 (j : Int)
set_option maxHeartbeats 1000000 in
/-- The rest of it, where a quotient was read that is not too great. -/
theorem zetaRead_in (l : List Bool) (N : Nat) (hl : l.length = N) (hN : N ≤ 8192) (A : Option Addr) (c s k q fr : Nat) (hs : s ≤ N) (hk : 1 ≤ k) (hk2 : k ≤ 16) (hq : q * k ≤ 40) (f g x : Nat) (hf : f = 2 ^ (q * k)) (hg : g + f = 2 ^ (q * k + k)) (hx : x ≤ 72057594037927936) (rt : Int) (r1 r2 : Nat) (r3 : Int)
    (hres : (rt < 0 ∧ r1 = 0 ∧ r2 = 0 ∧ r3 = 7) ∨ (0 ≤ rt ∧ 1099511627776 < f + x - 1 ∧ r1 = 0 ∧ r2 = 0 ∧ r3 = 3) ∨ (0 ≤ rt ∧ f + x - 1 ≤ 1099511627776 ∧ r1 = f + x - 1 ∧ (r2 : Int) = rt ∧ r3 = 0)) (w : World)
    (HU : Hid (Calls Try.prog 62 #[.slice A N c, .int .i64 (s : Int)] w fun e w' => e = .returned (.tuple #[.int .u64 (q : Int), .int .i64 (fr : Int)]) ∧ w = w'))
    (HX : Hid (Calls Try.prog 41 #[.slice A N c, .int .i64 (fr : Int), .int .u64 (g : Int)] w fun e w' => e = .returned (.tuple #[.int .u64 (x : Int), .int .i64 rt]) ∧ w = w')) :
    Calls Try.prog 47 #[.slice A N c, .int .i64 (s : Int), .int .i64 (k : Int)] w (ReadP w r1 r2 r3) := by
  have hq40 : q ≤ 40 := Nat.le_trans (Nat.le_mul_of_pos_right q (by omega)) hq
  have t0 : decide ((fr : Int) < 0) = false := by simp
  have t1 : decide ((41 : Int) ≤ (q : Int)) = false := by simp; omega
  have HM := Lib.hid (mulQ q k _ rfl)
  have k0 : (0 : Int) ≤ (k : Int) := by omega
  have hqk : (q : Int) * (k : Int) ≤ 40 := by rw [HM.out]; omega
  have hqk0 : 0 ≤ (q : Int) * (k : Int) := by rw [HM.out]; omega
  go_enter Try.func47, Try.ntmps47
  go_wp2_with fail
  refine HU.out.mono ?_
  rintro e _ ⟨rfl, rfl⟩
  go_wp2
  go_loop [11, 12] (fun v p => ZRRel k q v p) (fun _ p => q - (intOf p).toNat)
  case atStart => exact ⟨0, Nat.zero_le _, by simp, rfl⟩
  case round =>
    obtain ⟨j, hj, rfl, rfl⟩ := hrel
    have hjk : j * k ≤ 40 := Nat.le_trans (Nat.mul_le_mul_right k hj) hq
    have hb := Nat.pow_le_pow_right (n := 2) (by omega) (show j * k + k ≤ 56 by omega)
    have hb1 := Nat.pow_le_pow_right (n := 2) (by omega) hjk
    have hp0 := Nat.two_pow_pos (j * k)
    have hw := shl_fg (2 ^ (j * k)) (2 ^ (j * k + k)) k (Nat.pow_add _ _ _).symm (by omega)
    have HN : Hid (2 ^ ((j + 1) * k) = 2 ^ (j * k + k)) := by show _ = _; rw [Nat.add_mul, Nat.one_mul]
    by_cases hlt : j < q
    · clear hf hg
      have HR : Hid (ZRRel k q (.int .u64 ((2 ^ (j * k + k) : Nat) : Int)) (.int .u64 ((j : Int) + 1))) := ⟨j + 1, hlt, by rw [HN.out], by go_num⟩
      generalize 2 ^ (j * k + k) = G at *
      generalize 2 ^ (j * k) = F at *
      clear hres HX HU HN
      go_wp2
      go_round
      case rel => exact HR.out
      case measure => simp [intOf]; omega
    · obtain rfl : j = q := by omega
      have hgf : g + f = 2 ^ (j * k + k) := hg
      rw [← hf] at hw hb1 hp0 ⊢
      generalize 2 ^ (j * k + k) = G at *
      clear hf hg HN hq hjk
      have HG : Hid ((G : Int) - (f : Int) = (g : Int)) := by show _ = _; omega
      have hfG : f ≤ G := by omega
      rcases hres with ⟨a, rfl, rfl, rfl⟩ | ⟨a, a2, rfl, rfl, rfl⟩ | ⟨a, a2, rfl, rfl, rfl⟩
      · go_wp2_with fail
        rw [HG.out]
        refine HX.out.mono ?_
        rintro e _ ⟨rfl, rfl⟩
        go_wp2
        go_ret3
        exact ⟨rfl, Below.refl _ _⟩
      · go_wp2_with fail
        rw [HG.out]
        refine HX.out.mono ?_
        rintro e _ ⟨rfl, rfl⟩
        go_wp2
        go_ret3
        exact ⟨rfl, Below.refl _ _⟩
      · go_wp2_with fail
        rw [HG.out]
        refine HX.out.mono ?_
        rintro e _ ⟨rfl, rfl⟩
        have HV : Hid (((f + x - 1 : Nat) : Int) = (f : Int) + (x : Int) - 1) := by show _ = _; omega
        go_wp2
        go_ret3
        exact ⟨by rw [HV.out]; rfl, Below.refl _ _⟩

set_option maxHeartbeats 1000000 in
theorem zetaRead_far (N : Nat) (A : Option Addr) (c s k q fr : Nat) (hk : 1 ≤ k) (hk2 : k ≤ 16) (hq2 : q ≤ 8192) (hq : 40 < q * k) (w : World)
    (HU : Hid (Calls Try.prog 62 #[.slice A N c, .int .i64 (s : Int)] w fun e w' => e = .returned (.tuple #[.int .u64 (q : Int), .int .i64 (fr : Int)]) ∧ w = w')) :
    Calls Try.prog 47 #[.slice A N c, .int .i64 (s : Int), .int .i64 (k : Int)] w (ReadP w 0 0 3) := by
  have t0 : decide ((fr : Int) < 0) = false := by simp
  have HM := Lib.hid (mulQ q k _ rfl)
  have hle : q * k ≤ 8192 * 16 := Nat.mul_le_mul hq2 hk2
  have hqk : 41 ≤ (q : Int) * (k : Int) := by rw [HM.out]; omega
  have hqk0 : (q : Int) * (k : Int) ≤ 200000 := by rw [HM.out]; omega
  by_cases h41 : 41 ≤ q
  · have t1 : decide ((41 : Int) ≤ (q : Int)) = true := by simp; omega
    go_enter Try.func47, Try.ntmps47
    go_wp2_with fail
    refine HU.out.mono ?_
    rintro e _ ⟨rfl, rfl⟩
    go_wp2
    go_ret3
    exact ⟨rfl, Below.refl _ _⟩
  · have t1 : decide ((41 : Int) ≤ (q : Int)) = false := by simp; omega
    go_enter Try.func47, Try.ntmps47
    go_wp2_with fail
    refine HU.out.mono ?_
    rintro e _ ⟨rfl, rfl⟩
    go_wp2
    go_ret3
    exact ⟨rfl, Below.refl _ _⟩
set_option maxHeartbeats 1000000 in
theorem zetaRead_none (N : Nat) (A : Option Addr) (c s : Nat) (k q : Int) (w : World)
    (HU : Hid (Calls Try.prog 62 #[.slice A N c, .int .i64 (s : Int)] w fun e w' => e = .returned (.tuple #[.int .u64 q, .int .i64 (-1)]) ∧ w = w')) :
    Calls Try.prog 47 #[.slice A N c, .int .i64 (s : Int), .int .i64 k] w (ReadP w 0 0 7) := by
  go_enter Try.func47, Try.ntmps47
  go_wp2_with fail
  refine HU.out.mono ?_
  rintro e _ ⟨rfl, rfl⟩
  go_wp2
  go_ret3
  exact ⟨rfl, Below.refl _ _⟩
theorem zetaRead_any (l : List Bool) (N : Nat) (hl : l.length = N) (hN : N ≤ 8192) (A : Option Addr) (c s k : Nat) (hs : s ≤ N) (hk : 1 ≤ k) (hk2 : k ≤ 16) (r : Nat × Nat × Int) (hr : r = zetR l s k) (w : World) (h : RdV w w.heap.size A (ic l)) :
    Calls Try.prog 47 #[.slice A N c, .int .i64 (s : Int), .int .i64 (k : Int)] w (ReadP w r.1 r.2.1 r.2.2) := by
  have HU := ur_l l N hl hN A c s hs w h
  have hb := uR_bound l s (by omega)
  unfold zetR at hr
  generalize uR l s = u at *
  obtain ⟨q, fr, e0⟩ := u
  simp only at hb hr HU
  by_cases h0 : e0 = 0
  · subst h0
    rw [if_pos rfl] at HU
    rw [if_neg (by simp)] at hr
    by_cases hq : 40 < q * k
    · rw [if_pos hq] at hr
      subst hr
      exact zetaRead_far N A c s k q fr hk hk2 (by omega) hq w HU
    · rw [if_neg hq] at hr
      have zp := zq_pos q k hk
      have zl := zq_le q k (by omega) hk2
      have hlb := lstR_bound l fr (zq q k) zp (by omega)
      have hb3 := Nat.pow_le_pow_right (n := 2) (by omega) (show q * k ≤ q * k + k by omega)
      have HL := fun (rn : Nat) (rt : Int) hh => leastRead_any l N hl hN A c fr (zq q k) (by omega) zp zl _ rfl rn rt hh w h
      unfold remR at hr
      simp only at hr
      generalize lstR l fr (zq q k) = v at *
      obtain ⟨x, to, er⟩ := v
      simp only at hlb hr HL
      have hres : (((if er = 0 then (to : Int) else -1) < 0 ∧ r.1 = 0 ∧ r.2.1 = 0 ∧ r.2.2 = 7) ∨ (0 ≤ (if er = 0 then (to : Int) else -1) ∧ 1099511627776 < 2 ^ (q * k) + x - 1 ∧ r.1 = 0 ∧ r.2.1 = 0 ∧ r.2.2 = 3) ∨ (0 ≤ (if er = 0 then (to : Int) else -1) ∧ 2 ^ (q * k) + x - 1 ≤ 1099511627776 ∧ r.1 = 2 ^ (q * k) + x - 1 ∧ (r.2.1 : Int) = (if er = 0 then (to : Int) else -1) ∧ r.2.2 = 0)) := by
        by_cases he : er = 0
        · subst he
          rw [if_neg (by simp)] at hr
          rw [if_pos rfl]
          right
          by_cases h3 : 1099511627776 < 2 ^ (q * k) + x - 1
          · left; rw [if_pos h3] at hr; subst hr; exact ⟨by omega, h3, rfl, rfl, rfl⟩
          · right; rw [if_neg h3] at hr; subst hr; exact ⟨by omega, Nat.not_lt.1 h3, rfl, rfl, rfl⟩
        · rw [if_pos he] at hr
          rw [if_neg he]
          left
          subst hr
          exact ⟨by omega, rfl, rfl, by simp only; omega⟩
      exact zetaRead_in l N hl hN A c s k q fr hs hk hk2 (by omega) (2 ^ (q * k)) (zq q k) x rfl (by unfold zq; omega) (by omega) _ _ _ _ hres w HU (HL x _ ⟨rfl, rfl⟩)
  · rw [if_neg h0] at HU
    rw [if_pos h0] at hr
    obtain rfl : e0 = 7 := by omega
    subst hr
    exact zetaRead_none N A c s _ _ w HU
end Go.Proofs.Ytmofcnpoodameaa
