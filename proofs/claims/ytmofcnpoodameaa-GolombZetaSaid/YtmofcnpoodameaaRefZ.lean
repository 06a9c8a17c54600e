/- The document's own zetaSpan and ZetaList; each with its conditions. -/
import Derived.Test.YtmofcnpoodameaaRefG2
namespace Go.Proofs.Ytmofcnpoodameaa
set_option maxRecDepth 100000
set_option linter.unusedVariables false
open Go.RowKit

theorem shl_fg (f g k : Nat) (hg : f * 2 ^ k = g) (hb : g ≤ 144115188075855872) : IntKind.u64.wrap ((f : Int) * 2 ^ k) = (g : Int) := by
  have e : ((f : Int) * 2 ^ k) = (g : Int) := by rw [← hg]; simp
  rw [e]
  exact u64w _ (by omega) (by omega)
def ZSRel (k h : Nat) (v p : Value) : Prop := ∃ j : Nat, j ≤ h ∧ v = .int .u64 (j : Int) ∧ p = .int .u64 ((2 ^ (j * k) : Nat) : Int)
theorem span_iff (n k j : Nat) (hk : 1 ≤ k) : (j < lg n / k → 2 ^ (j * k + k) ≤ n + 1) ∧ (j = lg n / k → n + 1 < 2 ^ (j * k + k)) := by
  have a := lg_le n
  have b := lg_lt n
  constructor
  · intro h
    have h1 : (j + 1) * k ≤ lg n := Nat.le_trans (Nat.mul_le_mul_right k (show j + 1 ≤ lg n / k by omega)) (Nat.div_mul_le_self _ _)
    have := Nat.pow_le_pow_right (n := 2) (by omega) h1
    rw [Nat.add_mul, Nat.one_mul] at this
    omega
  · rintro rfl
    obtain ⟨z1, z2⟩ := zet_in n k hk
    unfold zq at z2
    omega
set_option maxHeartbeats 1000000 in
theorem zetaSpan_any (n k f g : Nat) (hk : 1 ≤ k) (hk2 : k ≤ 16) (hn : n ≤ 1099511627776) (h : Nat) (hh : h = lg n / k) (hf : f = 2 ^ (h * k)) (hg : g = 2 ^ (h * k + k)) (w : World) :
    Calls Try.prog 82 #[.int .u64 (n : Int), .int .i64 (k : Int)] w fun e w' => e = .returned (.tuple #[.int .u64 (h : Int), .int .u64 (f : Int), .int .u64 (g : Int)]) ∧ Below w.heap.size w w' := by
  have h40 := zet_40 n k hn
  rw [← hh] at h40
  have hle : ∀ j, j ≤ h → j * k ≤ 40 := fun j hj => Nat.le_trans (Nat.mul_le_mul_right k hj) h40
  have hh40 : h ≤ 40 := Nat.le_trans (Nat.le_mul_of_pos_right h (by omega)) h40
  have HSp : Hid (∀ j, (j < h → 2 ^ (j * k + k) ≤ n + 1) ∧ (j = h → n + 1 < 2 ^ (j * k + k))) := by
    intro j; have := span_iff n k j hk; rwa [← hh] at this
  have k0 : (0 : Int) ≤ (k : Int) := by omega
  go_enter Try.func82, Try.ntmps82
  go_wp2
  go_loop [7, 8] (fun v p => ZSRel k h v p) (fun v _ => h - (intOf v).toNat)
  case atStart => exact ⟨0, Nat.zero_le _, rfl, by simp⟩
  case round =>
    obtain ⟨j, hj, rfl, rfl⟩ := hrel
    have hjk := hle j hj
    have hb := Nat.pow_le_pow_right (n := 2) (by omega) (show j * k + k ≤ 56 by omega)
    have hb1 := Nat.pow_le_pow_right (n := 2) (by omega) hjk
    have hw := shl_fg (2 ^ (j * k)) (2 ^ (j * k + k)) k (Nat.pow_add _ _ _).symm (by omega)
    have sp := HSp.out j
    have HN : Hid (2 ^ ((j + 1) * k) = 2 ^ (j * k + k)) := by show _ = _; rw [Nat.add_mul, Nat.one_mul]
    by_cases hlt : j < h
    · have hq := sp.1 hlt
      clear sp hf hg
      generalize 2 ^ (j * k + k) = G at *
      generalize 2 ^ (j * k) = F at *
      have HR : Hid (ZSRel k h (.int .u64 ((j : Int) + 1)) (.int .u64 (G : Int))) := ⟨j + 1, hlt, by go_num, by rw [HN.out]⟩
      clear hle hh
      go_wp2
      go_round
      case rel => exact HR.out
      case measure => simp [intOf]; omega
    · obtain rfl : j = h := by omega
      have hq := sp.2 rfl
      have HE : Hid (f = 2 ^ (j * k) ∧ g = 2 ^ (j * k + k)) := ⟨hf, hg⟩
      clear sp HN hle hh HSp hf hg
      generalize 2 ^ (j * k + k) = G at *
      generalize 2 ^ (j * k) = F at *
      have HW := Lib.hid hw
      go_wp2_with fail
      go_region_held3 (fun _ => True) (trivial) (fail)
      go_wp2
      go_ret3
      exact ⟨by rw [HE.out.1, HE.out.2]; rfl, (Below.refl _ _).drew⟩

set_option maxHeartbeats 1000000 in
theorem zetaList_any (n k : Nat) (hk : 1 ≤ k) (hk2 : k ≤ 16) (hn : n ≤ 1099511627776) (L : List Bool) (hL : L = zet n k) (w : World) :
    Calls Try.prog 46 #[.int .u64 (n : Int), .int .i64 (k : Int)] w (Listed w L) := by
  have k40 := lg_lt_of n 41 (by omega)
  have h40 := zet_40 n k hn
  obtain ⟨z1, z2⟩ := zet_in n k hk
  have zp := zq_pos (lg n / k) k hk
  have zl := zq_le (lg n / k) k h40 hk2
  have hd := Nat.div_le_self (lg n) k
  have hb1 := Nat.pow_le_pow_right (n := 2) (by omega) h40
  have hb2 := Nat.pow_le_pow_right (n := 2) (by omega) (show lg n / k * k + k ≤ 56 by omega)
  have hb3 := Nat.pow_le_pow_right (n := 2) (by omega) (show lg n / k * k ≤ lg n / k * k + k by omega)
  have hsl := sz_le (zq (lg n / k) k) 56 (by omega)
  have hll := lst_length_le (n + 1 - 2 ^ (lg n / k * k)) (zq (lg n / k) k)
  have HZ := Lib.hid (zetaSpan_any n k _ _ hk hk2 hn _ rfl rfl rfl)
  have HU := Lib.hid (uList_any (lg n / k) (by omega) _ rfl)
  have HLl := Lib.hid (leastList_any (n + 1 - 2 ^ (lg n / k * k)) (zq (lg n / k) k) zp zl z2 _ rfl)
  have e1 : ((n + 1 - 2 ^ (lg n / k * k) : Nat) : Int) = (n : Int) + 1 - ((2 ^ (lg n / k * k) : Nat) : Int) := by omega
  have e2 : ((zq (lg n / k) k : Nat) : Int) = ((2 ^ (lg n / k * k + k) : Nat) : Int) - ((2 ^ (lg n / k * k) : Nat) : Int) := by unfold zq; omega
  rw [e1, e2] at HLl
  have HL : Hid (L = uc (lg n / k) ++ lst (n + 1 - 2 ^ (lg n / k * k)) (zq (lg n / k) k)) := hL
  have hul := uc_length (lg n / k)
  clear hL e1 e2 z2
  generalize lst (n + 1 - 2 ^ (lg n / k * k)) (zq (lg n / k) k) = B at *
  generalize 2 ^ (lg n / k * k + k) = g at *
  generalize 2 ^ (lg n / k * k) = f at *
  generalize uc (lg n / k) = U at *
  generalize lg n / k = h at *
  have hB57 : B.length ≤ 57 := by omega
  have hU41 : U.length ≤ 41 := by omega
  clear hsl hll zl zp hul hd k40 h40
  go_enter Try.func46, Try.ntmps46
  go_wp2_with fail
  refine (HZ.out _).mono ?_
  rintro e w1 ⟨rfl, b1⟩
  have HB1 := Lib.hid b1; clear b1
  go_wp2_with fail
  refine (HU.out _).mono ?_
  rintro e w2 ⟨A1, c1, rfl, ho1, hb1⟩
  have HO1 := Lib.hid ho1; have HB2 := Lib.hid hb1; clear ho1 hb1
  go_wp2_with fail
  refine (HLl.out _).mono ?_
  rintro e w3 ⟨A2, c2, rfl, ho2, hb2⟩
  have HO1' := Lib.hid (own_below HO1.out hb2)
  have HO2 := Lib.hid ho2
  have HB3 : Hid (Below w1.heap.size w1 w3) := HB2.out.trans (hb2.mono HB2.out.size)
  clear ho2 hb2
  go_wp2_with (at_builtin; refine app3 rfl _ _ rfl w1.heap.size _ U.length (ic U) rfl HO1'.out A2 B.length c2 (ic B) rfl (own_rdv HO2.out) (ic_length _) (ic_one _) (own_none HO2.out) (by omega) HB3.out.size ?_; intro v' w4 hown' hgrow; obtain ⟨A3, c3, rfl⟩ := own_slice3 hown'; have HO3 := Lib.hid hown'; have HB4 : Hid (Below w1.heap.size w1 w4) := join_grown HB3.out (Nat.le_refl _) HB3.out.size HO1'.out hgrow; clear hown' hgrow)
  go_ret
  have hl : L.length = U.length + B.length := by rw [HL.out, List.length_append]
  refine ⟨A3, c3, by rw [hl]; rfl, ?_, HB1.out.trans (HB4.out.mono HB1.out.size)⟩
  rw [hl, HL.out, ic_append]
  exact own_base HO3.out HB1.out.size
end Go.Proofs.Ytmofcnpoodameaa
