/- The document's own GolombRead; with its conditions. -/
import Derived.Test.YtcacbekdghlncaaRefG
import Derived.Test.YtcacbekdghlncaaGWrite
namespace Go.Proofs.Ytcacbekdghlncaa

section
set_option maxRecDepth 100000
set_option linter.unusedVariables false
open Go.RowKit

theorem mulQ (h k s : Nat) (hs : h * k = s) : ((h : Int) * (k : Int)) = (s : Int) := by rw [← hs]; simp
set_option maxHeartbeats 1000000 in
theorem golombRead_any (l : List Bool) (N : Nat) (hl : l.length = N) (hN : N ≤ 8192) (A : Option Addr) (c s m : Nat) (hs : s ≤ N) (h1 : 1 ≤ m) (h2 : m ≤ 1099511627776) (r : Nat × Nat × Int) (hr : r = golR l s m) (w : World) (h : RdV w w.heap.size A (ic l)) :
    Calls Try.prog 42 #[.slice A N c, .int .i64 (s : Int), .int .u64 (m : Int)] w (ReadP w r.1 r.2.1 r.2.2) := by
  have HU := Lib.hid (ur_l l N hl hN A c s hs w h)
  have hb := uR_bound l s (by omega)
  unfold golR at hr
  generalize uR l s = u at *
  obtain ⟨q, fr, e0⟩ := u
  simp only at hb hr HU
  by_cases h0 : e0 = 0
  · subst h0
    rw [if_pos rfl] at HU
    rw [if_neg (by simp)] at hr
    have t0 : decide ((fr : Int) < 0) = false := by simp
    by_cases hq : 8128 ≤ q
    · rw [if_pos hq] at hr
      subst hr
      have t1 : decide ((8128 : Int) ≤ (q : Int)) = true := by simp; omega
      go_enter Try.func42, Try.ntmps42
      go_wp2_with fail
      refine HU.out.mono ?_
      rintro e _ ⟨rfl, rfl⟩
      go_wp2
      go_ret3
      exact ⟨rfl, Below.refl _ _⟩
    · rw [if_neg hq] at hr
      have t1 : decide ((8128 : Int) ≤ (q : Int)) = false := by simp; omega
      have HL : ∀ (rn : Nat) (rt : Int), (rn = (lstR l fr m).1 ∧ rt = if (lstR l fr m).2.2 = 0 then ((lstR l fr m).2.1 : Int) else -1) → Hid (Calls Try.prog 41 #[.slice A N c, .int .i64 (fr : Int), .int .u64 (m : Int)] w fun e w' => e = .returned (.tuple #[.int .u64 (rn : Int), .int .i64 rt]) ∧ w = w') := fun rn rt hh => leastRead_any l N hl hN A c fr m (by omega) h1 (by omega) _ rfl rn rt hh w h
      have hlb := lstR_bound l fr m h1 (by omega)
      have hy : q * m ≤ 8128 * 1099511627776 := Nat.mul_le_mul (by omega) h2
      unfold remR at hr
      simp only at hr
      generalize lstR l fr m = v at *
      obtain ⟨x, to, er⟩ := v
      simp only at hlb hr HL
      by_cases hr2 : er = 0
      · subst hr2
        rw [if_neg (by simp)] at hr
        have HX := HL x (to : Int) ⟨rfl, rfl⟩
        have t2 : decide ((to : Int) < 0) = false := by simp
        clear HL
        have HM := Lib.hid (mulQ q m _ rfl)
        generalize hyy : q * m = y at *
        by_cases h3 : 1099511627776 < y + x
        · rw [if_pos h3] at hr
          subst hr
          have t3 : decide ((1099511627776 : Int) < (y : Int) + (x : Int)) = true := by simp; omega
          go_enter Try.func42, Try.ntmps42
          go_wp2_with fail
          refine HU.out.mono ?_
          rintro e _ ⟨rfl, rfl⟩
          go_wp2_with fail
          refine HX.out.mono ?_
          rintro e _ ⟨rfl, rfl⟩
          go_wp2
          go_ret3
          exact ⟨rfl, Below.refl _ _⟩
        · rw [if_neg h3] at hr
          subst hr
          have t3 : decide ((1099511627776 : Int) < (y : Int) + (x : Int)) = false := by simp; omega
          go_enter Try.func42, Try.ntmps42
          go_wp2_with fail
          refine HU.out.mono ?_
          rintro e _ ⟨rfl, rfl⟩
          go_wp2_with fail
          refine HX.out.mono ?_
          rintro e _ ⟨rfl, rfl⟩
          go_wp2
          go_ret3
          exact ⟨by rw [← hyy]; go_num, Below.refl _ _⟩
      · rw [if_pos hr2] at hr
        obtain rfl : er = 7 := by omega
        have HX := HL x (-1) ⟨rfl, rfl⟩
        clear HL
        subst hr
        go_enter Try.func42, Try.ntmps42
        go_wp2_with fail
        refine HU.out.mono ?_
        rintro e _ ⟨rfl, rfl⟩
        go_wp2_with fail
        refine HX.out.mono ?_
        rintro e _ ⟨rfl, rfl⟩
        go_wp2
        go_ret3
        exact ⟨rfl, Below.refl _ _⟩
  · rw [if_neg h0] at HU
    rw [if_pos h0] at hr
    obtain rfl : e0 = 7 := by omega
    subst hr
    go_enter Try.func42, Try.ntmps42
    go_wp2_with fail
    refine HU.out.mono ?_
    rintro e _ ⟨rfl, rfl⟩
    go_wp2
    go_ret3
    exact ⟨rfl, Below.refl _ _⟩
end

section
set_option maxRecDepth 100000
set_option linter.unusedVariables false
open Go.RowKit

theorem shl_fg (f g k : Nat) (hg : f * 2 ^ k = g) (hb : g ≤ 144115188075855872) : IntKind.u64.wrap ((f : Int) * 2 ^ k) = (g : Int) := by
  have e : ((f : Int) * 2 ^ k) = (g : Int) := by rw [← hg]; simp
  rw [e]
  exact u64w _ (by omega) (by omega)
def ZSRel (k h : Nat) (v p : Value) : Prop := ∃ j : Nat, j ≤ h ∧ v = .int .u64 (j : Int) ∧ p = .int .u64 ((2 ^ (j * k) : Nat) : Int)
theorem span_iff (n k j : Nat) (hk : 1 ≤ k) : (j < lg n / k → 2 ^ (j * k + k) ≤ n + 1) ∧ (j = lg n / k → n + 1 < 2 ^ (j * k + k)) := by
  have a := lg_le n
  have b := lg_lt n
  constructor
  · intro h
    have h1 : (j + 1) * k ≤ lg n := Nat.le_trans (Nat.mul_le_mul_right k (show j + 1 ≤ lg n / k by omega)) (Nat.div_mul_le_self _ _)
    have := Nat.pow_le_pow_right (n := 2) (by omega) h1
    rw [Nat.add_mul, Nat.one_mul] at this
    omega
  · rintro rfl
    obtain ⟨z1, z2⟩ := zet_in n k hk
    unfold zq at z2
    omega
set_option maxHeartbeats 1000000 in
theorem zetaSpan_any (n k f g : Nat) (hk : 1 ≤ k) (hk2 : k ≤ 16) (hn : n ≤ 1099511627776) (h : Nat) (hh : h = lg n / k) (hf : f = 2 ^ (h * k)) (hg : g = 2 ^ (h * k + k)) (w : World) :
    Calls Try.prog 82 #[.int .u64 (n : Int), .int .i64 (k : Int)] w fun e w' => e = .returned (.tuple #[.int .u64 (h : Int), .int .u64 (f : Int), .int .u64 (g : Int)]) ∧ Below w.heap.size w w' := by
  have h40 := zet_40 n k hn
  rw [← hh] at h40
  have hle : ∀ j, j ≤ h → j * k ≤ 40 := fun j hj => Nat.le_trans (Nat.mul_le_mul_right k hj) h40
  have hh40 : h ≤ 40 := Nat.le_trans (Nat.le_mul_of_pos_right h (by omega)) h40
  have HSp : Hid (∀ j, (j < h → 2 ^ (j * k + k) ≤ n + 1) ∧ (j = h → n + 1 < 2 ^ (j * k + k))) := by
    intro j; have := span_iff n k j hk; rwa [← hh] at this
  have k0 : (0 : Int) ≤ (k : Int) := by omega
  go_enter Try.func82, Try.ntmps82
  go_wp2
  go_loop [7, 8] (fun v p => ZSRel k h v p) (fun v _ => h - (intOf v).toNat)
  case atStart => exact ⟨0, Nat.zero_le _, rfl, by simp⟩
  case round =>
    obtain ⟨j, hj, rfl, rfl⟩ := hrel
    have hjk := hle j hj
    have hb := Nat.pow_le_pow_right (n := 2) (by omega) (show j * k + k ≤ 56 by omega)
    have hb1 := Nat.pow_le_pow_right (n := 2) (by omega) hjk
    have hw := shl_fg (2 ^ (j * k)) (2 ^ (j * k + k)) k (Nat.pow_add _ _ _).symm (by omega)
    have sp := HSp.out j
    have HN : Hid (2 ^ ((j + 1) * k) = 2 ^ (j * k + k)) := by show _ = _; rw [Nat.add_mul, Nat.one_mul]
    by_cases hlt : j < h
    · have hq := sp.1 hlt
      clear sp hf hg
      generalize 2 ^ (j * k + k) = G at *
      generalize 2 ^ (j * k) = F at *
      have HR : Hid (ZSRel k h (.int .u64 ((j : Int) + 1)) (.int .u64 (G : Int))) := ⟨j + 1, hlt, by go_num, by rw [HN.out]⟩
      clear hle hh
      go_wp2
      go_round
      case rel => exact HR.out
      case measure => simp [intOf]; omega
    · obtain rfl : j = h := by omega
      have hq := sp.2 rfl
      have HE : Hid (f = 2 ^ (j * k) ∧ g = 2 ^ (j * k + k)) := ⟨hf, hg⟩
      clear sp HN hle hh HSp hf hg
      generalize 2 ^ (j * k + k) = G at *
      generalize 2 ^ (j * k) = F at *
      have HW := Lib.hid hw
      go_wp2_with fail
      go_region_held3 (fun _ => True) (trivial) (fail)
      go_wp2
      go_ret3
      exact ⟨by rw [HE.out.1, HE.out.2]; rfl, (Below.refl _ _).drew⟩

set_option maxHeartbeats 1000000 in
theorem zetaList_any (n k : Nat) (hk : 1 ≤ k) (hk2 : k ≤ 16) (hn : n ≤ 1099511627776) (L : List Bool) (hL : L = zet n k) (w : World) :
    Calls Try.prog 46 #[.int .u64 (n : Int), .int .i64 (k : Int)] w (Listed w L) := by
  have k40 := lg_lt_of n 41 (by omega)
  have h40 := zet_40 n k hn
  obtain ⟨z1, z2⟩ := zet_in n k hk
  have zp := zq_pos (lg n / k) k hk
  have zl := zq_le (lg n / k) k h40 hk2
  have hd := Nat.div_le_self (lg n) k
  have hb1 := Nat.pow_le_pow_right (n := 2) (by omega) h40
  have hb2 := Nat.pow_le_pow_right (n := 2) (by omega) (show lg n / k * k + k ≤ 56 by omega)
  have hb3 := Nat.pow_le_pow_right (n := 2) (by omega) (show lg n / k * k ≤ lg n / k * k + k by omega)
  have hsl := sz_le (zq (lg n / k) k) 56 (by omega)
  have hll := lst_length_le (n + 1 - 2 ^ (lg n / k * k)) (zq (lg n / k) k)
  have HZ := Lib.hid (zetaSpan_any n k _ _ hk hk2 hn _ rfl rfl rfl)
  have HU := Lib.hid (uList_any (lg n / k) (by omega) _ rfl)
  have HLl := Lib.hid (leastList_any (n + 1 - 2 ^ (lg n / k * k)) (zq (lg n / k) k) zp zl z2 _ rfl)
  have e1 : ((n + 1 - 2 ^ (lg n / k * k) : Nat) : Int) = (n : Int) + 1 - ((2 ^ (lg n / k * k) : Nat) : Int) := by omega
  have e2 : ((zq (lg n / k) k : Nat) : Int) = ((2 ^ (lg n / k * k + k) : Nat) : Int) - ((2 ^ (lg n / k * k) : Nat) : Int) := by unfold zq; omega
  rw [e1, e2] at HLl
  have HL : Hid (L = uc (lg n / k) ++ lst (n + 1 - 2 ^ (lg n / k * k)) (zq (lg n / k) k)) := hL
  have hul := uc_length (lg n / k)
  clear hL e1 e2 z2
  generalize lst (n + 1 - 2 ^ (lg n / k * k)) (zq (lg n / k) k) = B at *
  generalize 2 ^ (lg n / k * k + k) = g at *
  generalize 2 ^ (lg n / k * k) = f at *
  generalize uc (lg n / k) = U at *
  generalize lg n / k = h at *
  have hB57 : B.length ≤ 57 := by omega
  have hU41 : U.length ≤ 41 := by omega
  clear hsl hll zl zp hul hd k40 h40
  go_enter Try.func46, Try.ntmps46
  go_wp2_with fail
  refine (HZ.out _).mono ?_
  rintro e w1 ⟨rfl, b1⟩
  have HB1 := Lib.hid b1; clear b1
  go_wp2_with fail
  refine (HU.out _).mono ?_
  rintro e w2 ⟨A1, c1, rfl, ho1, hb1⟩
  have HO1 := Lib.hid ho1; have HB2 := Lib.hid hb1; clear ho1 hb1
  go_wp2_with fail
  refine (HLl.out _).mono ?_
  rintro e w3 ⟨A2, c2, rfl, ho2, hb2⟩
  have HO1' := Lib.hid (own_below HO1.out hb2)
  have HO2 := Lib.hid ho2
  have HB3 : Hid (Below w1.heap.size w1 w3) := HB2.out.trans (hb2.mono HB2.out.size)
  clear ho2 hb2
  go_wp2_with (at_builtin; refine app3 rfl _ _ rfl w1.heap.size _ U.length (ic U) rfl HO1'.out A2 B.length c2 (ic B) rfl (own_rdv HO2.out) (ic_length _) (ic_one _) (own_none HO2.out) (by omega) HB3.out.size ?_; intro v' w4 hown' hgrow; obtain ⟨A3, c3, rfl⟩ := own_slice3 hown'; have HO3 := Lib.hid hown'; have HB4 : Hid (Below w1.heap.size w1 w4) := join_grown HB3.out (Nat.le_refl _) HB3.out.size HO1'.out hgrow; clear hown' hgrow)
  go_ret
  have hl : L.length = U.length + B.length := by rw [HL.out, List.length_append]
  refine ⟨A3, c3, by rw [hl]; rfl, ?_, HB1.out.trans (HB4.out.mono HB1.out.size)⟩
  rw [hl, HL.out, ic_append]
  exact own_base HO3.out HB1.out.size
end

section
set_option maxRecDepth 100000
set_option linter.unusedVariables false
open Go.RowKit

def ZRRel (k q : Nat) (v p : Value) : Prop := ∃ j : Nat, j ≤ q ∧ v = .int .u64 ((2 ^ (j * k) : Nat) : Int) ∧ p = .int .u64 (j : Int)
set_option maxHeartbeats 1000000 in
/-- The rest of it, where a quotient was read that is not too great. -/
theorem zetaRead_in (l : List Bool) (N : Nat) (hl : l.length = N) (hN : N ≤ 8192) (A : Option Addr) (c s k q fr : Nat) (hs : s ≤ N) (hk : 1 ≤ k) (hk2 : k ≤ 16) (hq : q * k ≤ 40) (f g x : Nat) (hf : f = 2 ^ (q * k)) (hg : g + f = 2 ^ (q * k + k)) (hx : x ≤ 72057594037927936) (rt : Int) (r1 r2 : Nat) (r3 : Int)
    (hres : (rt < 0 ∧ r1 = 0 ∧ r2 = 0 ∧ r3 = 7) ∨ (0 ≤ rt ∧ 1099511627776 < f + x - 1 ∧ r1 = 0 ∧ r2 = 0 ∧ r3 = 3) ∨ (0 ≤ rt ∧ f + x - 1 ≤ 1099511627776 ∧ r1 = f + x - 1 ∧ (r2 : Int) = rt ∧ r3 = 0)) (w : World)
    (HU : Hid (Calls Try.prog 62 #[.slice A N c, .int .i64 (s : Int)] w fun e w' => e = .returned (.tuple #[.int .u64 (q : Int), .int .i64 (fr : Int)]) ∧ w = w'))
    (HX : Hid (Calls Try.prog 41 #[.slice A N c, .int .i64 (fr : Int), .int .u64 (g : Int)] w fun e w' => e = .returned (.tuple #[.int .u64 (x : Int), .int .i64 rt]) ∧ w = w')) :
    Calls Try.prog 47 #[.slice A N c, .int .i64 (s : Int), .int .i64 (k : Int)] w (ReadP w r1 r2 r3) := by
  have hq40 : q ≤ 40 := Nat.le_trans (Nat.le_mul_of_pos_right q (by omega)) hq
  have t0 : decide ((fr : Int) < 0) = false := by simp
  have t1 : decide ((41 : Int) ≤ (q : Int)) = false := by simp; omega
  have HM := Lib.hid (mulQ q k _ rfl)
  have k0 : (0 : Int) ≤ (k : Int) := by omega
  have hqk : (q : Int) * (k : Int) ≤ 40 := by rw [HM.out]; omega
  have hqk0 : 0 ≤ (q : Int) * (k : Int) := by rw [HM.out]; omega
  go_enter Try.func47, Try.ntmps47
  go_wp2_with fail
  refine HU.out.mono ?_
  rintro e _ ⟨rfl, rfl⟩
  go_wp2
  go_loop [11, 12] (fun v p => ZRRel k q v p) (fun _ p => q - (intOf p).toNat)
  case atStart => exact ⟨0, Nat.zero_le _, by simp, rfl⟩
  case round =>
    obtain ⟨j, hj, rfl, rfl⟩ := hrel
    have hjk : j * k ≤ 40 := Nat.le_trans (Nat.mul_le_mul_right k hj) hq
    have hb := Nat.pow_le_pow_right (n := 2) (by omega) (show j * k + k ≤ 56 by omega)
    have hb1 := Nat.pow_le_pow_right (n := 2) (by omega) hjk
    have hp0 := Nat.two_pow_pos (j * k)
    have hw := shl_fg (2 ^ (j * k)) (2 ^ (j * k + k)) k (Nat.pow_add _ _ _).symm (by omega)
    have HN : Hid (2 ^ ((j + 1) * k) = 2 ^ (j * k + k)) := by show _ = _; rw [Nat.add_mul, Nat.one_mul]
    by_cases hlt : j < q
    · clear hf hg
      have HR : Hid (ZRRel k q (.int .u64 ((2 ^ (j * k + k) : Nat) : Int)) (.int .u64 ((j : Int) + 1))) := ⟨j + 1, hlt, by rw [HN.out], by go_num⟩
      generalize 2 ^ (j * k + k) = G at *
      generalize 2 ^ (j * k) = F at *
      clear hres HX HU HN
      go_wp2
      go_round
      case rel => exact HR.out
      case measure => simp [intOf]; omega
    · obtain rfl : j = q := by omega
      have hgf : g + f = 2 ^ (j * k + k) := hg
      rw [← hf] at hw hb1 hp0 ⊢
      generalize 2 ^ (j * k + k) = G at *
      clear hf hg HN hq hjk
      have HG : Hid ((G : Int) - (f : Int) = (g : Int)) := by show _ = _; omega
      have hfG : f ≤ G := by omega
      rcases hres with ⟨a, rfl, rfl, rfl⟩ | ⟨a, a2, rfl, rfl, rfl⟩ | ⟨a, a2, rfl, rfl, rfl⟩
      · go_wp2_with fail
        rw [HG.out]
        refine HX.out.mono ?_
        rintro e _ ⟨rfl, rfl⟩
        go_wp2
        go_ret3
        exact ⟨rfl, Below.refl _ _⟩
      · go_wp2_with fail
        rw [HG.out]
        refine HX.out.mono ?_
        rintro e _ ⟨rfl, rfl⟩
        go_wp2
        go_ret3
        exact ⟨rfl, Below.refl _ _⟩
      · go_wp2_with fail
        rw [HG.out]
        refine HX.out.mono ?_
        rintro e _ ⟨rfl, rfl⟩
        have HV : Hid (((f + x - 1 : Nat) : Int) = (f : Int) + (x : Int) - 1) := by show _ = _; omega
        go_wp2
        go_ret3
        exact ⟨by rw [HV.out]; rfl, Below.refl _ _⟩

set_option maxHeartbeats 1000000 in
theorem zetaRead_far (N : Nat) (A : Option Addr) (c s k q fr : Nat) (hk : 1 ≤ k) (hk2 : k ≤ 16) (hq2 : q ≤ 8192) (hq : 40 < q * k) (w : World)
    (HU : Hid (Calls Try.prog 62 #[.slice A N c, .int .i64 (s : Int)] w fun e w' => e = .returned (.tuple #[.int .u64 (q : Int), .int .i64 (fr : Int)]) ∧ w = w')) :
    Calls Try.prog 47 #[.slice A N c, .int .i64 (s : Int), .int .i64 (k : Int)] w (ReadP w 0 0 3) := by
  have t0 : decide ((fr : Int) < 0) = false := by simp
  have HM := Lib.hid (mulQ q k _ rfl)
  have hle : q * k ≤ 8192 * 16 := Nat.mul_le_mul hq2 hk2
  have hqk : 41 ≤ (q : Int) * (k : Int) := by rw [HM.out]; omega
  have hqk0 : (q : Int) * (k : Int) ≤ 200000 := by rw [HM.out]; omega
  by_cases h41 : 41 ≤ q
  · have t1 : decide ((41 : Int) ≤ (q : Int)) = true := by simp; omega
    go_enter Try.func47, Try.ntmps47
    go_wp2_with fail
    refine HU.out.mono ?_
    rintro e _ ⟨rfl, rfl⟩
    go_wp2
    go_ret3
    exact ⟨rfl, Below.refl _ _⟩
  · have t1 : decide ((41 : Int) ≤ (q : Int)) = false := by simp; omega
    go_enter Try.func47, Try.ntmps47
    go_wp2_with fail
    refine HU.out.mono ?_
    rintro e _ ⟨rfl, rfl⟩
    go_wp2
    go_ret3
    exact ⟨rfl, Below.refl _ _⟩
set_option maxHeartbeats 1000000 in
theorem zetaRead_none (N : Nat) (A : Option Addr) (c s : Nat) (k q : Int) (w : World)
    (HU : Hid (Calls Try.prog 62 #[.slice A N c, .int .i64 (s : Int)] w fun e w' => e = .returned (.tuple #[.int .u64 q, .int .i64 (-1)]) ∧ w = w')) :
    Calls Try.prog 47 #[.slice A N c, .int .i64 (s : Int), .int .i64 k] w (ReadP w 0 0 7) := by
  go_enter Try.func47, Try.ntmps47
  go_wp2_with fail
  refine HU.out.mono ?_
  rintro e _ ⟨rfl, rfl⟩
  go_wp2
  go_ret3
  exact ⟨rfl, Below.refl _ _⟩
theorem zetaRead_any (l : List Bool) (N : Nat) (hl : l.length = N) (hN : N ≤ 8192) (A : Option Addr) (c s k : Nat) (hs : s ≤ N) (hk : 1 ≤ k) (hk2 : k ≤ 16) (r : Nat × Nat × Int) (hr : r = zetR l s k) (w : World) (h : RdV w w.heap.size A (ic l)) :
    Calls Try.prog 47 #[.slice A N c, .int .i64 (s : Int), .int .i64 (k : Int)] w (ReadP w r.1 r.2.1 r.2.2) := by
  have HU := ur_l l N hl hN A c s hs w h
  have hb := uR_bound l s (by omega)
  unfold zetR at hr
  generalize uR l s = u at *
  obtain ⟨q, fr, e0⟩ := u
  simp only at hb hr HU
  by_cases h0 : e0 = 0
  · subst h0
    rw [if_pos rfl] at HU
    rw [if_neg (by simp)] at hr
    by_cases hq : 40 < q * k
    · rw [if_pos hq] at hr
      subst hr
      exact zetaRead_far N A c s k q fr hk hk2 (by omega) hq w HU
    · rw [if_neg hq] at hr
      have zp := zq_pos q k hk
      have zl := zq_le q k (by omega) hk2
      have hlb := lstR_bound l fr (zq q k) zp (by omega)
      have hb3 := Nat.pow_le_pow_right (n := 2) (by omega) (show q * k ≤ q * k + k by omega)
      have HL := fun (rn : Nat) (rt : Int) hh => leastRead_any l N hl hN A c fr (zq q k) (by omega) zp zl _ rfl rn rt hh w h
      unfold remR at hr
      simp only at hr
      generalize lstR l fr (zq q k) = v at *
      obtain ⟨x, to, er⟩ := v
      simp only at hlb hr HL
      have hres : (((if er = 0 then (to : Int) else -1) < 0 ∧ r.1 = 0 ∧ r.2.1 = 0 ∧ r.2.2 = 7) ∨ (0 ≤ (if er = 0 then (to : Int) else -1) ∧ 1099511627776 < 2 ^ (q * k) + x - 1 ∧ r.1 = 0 ∧ r.2.1 = 0 ∧ r.2.2 = 3) ∨ (0 ≤ (if er = 0 then (to : Int) else -1) ∧ 2 ^ (q * k) + x - 1 ≤ 1099511627776 ∧ r.1 = 2 ^ (q * k) + x - 1 ∧ (r.2.1 : Int) = (if er = 0 then (to : Int) else -1) ∧ r.2.2 = 0)) := by
        by_cases he : er = 0
        · subst he
          rw [if_neg (by simp)] at hr
          rw [if_pos rfl]
          right
          by_cases h3 : 1099511627776 < 2 ^ (q * k) + x - 1
          · left; rw [if_pos h3] at hr; subst hr; exact ⟨by omega, h3, rfl, rfl, rfl⟩
          · right; rw [if_neg h3] at hr; subst hr; exact ⟨by omega, Nat.not_lt.1 h3, rfl, rfl, rfl⟩
        · rw [if_pos he] at hr
          rw [if_neg he]
          left
          subst hr
          exact ⟨by omega, rfl, rfl, by simp only; omega⟩
      exact zetaRead_in l N hl hN A c s k q fr hs hk hk2 (by omega) (2 ^ (q * k)) (zq q k) x rfl (by unfold zq; omega) (by omega) _ _ _ _ hres w HU (HL x _ ⟨rfl, rfl⟩)
  · rw [if_neg h0] at HU
    rw [if_pos h0] at hr
    obtain rfl : e0 = 7 := by omega
    subst hr
    exact zetaRead_none N A c s _ _ w HU
end
end Go.Proofs.Ytcacbekdghlncaa
