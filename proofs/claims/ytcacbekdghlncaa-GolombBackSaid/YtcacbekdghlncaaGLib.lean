/- The program's small helpers of package golomb; each with its conditions. -/
import Derived.Test.YtcacbekdghlncaaGPure
import Derived.Test.YtcacbekdghlncaaElias
namespace Go.Proofs.Ytcacbekdghlncaa
set_option maxRecDepth 100000
set_option linter.unusedVariables false
open Go.RowKit

def okM (m : Nat) : Bool := decide (1 ≤ m ∧ m ≤ 1099511627776)
def okK (k : Int) : Bool := decide (1 ≤ k ∧ k ≤ 16)
set_option maxHeartbeats 400000 in
theorem isDiv_any (m : Nat) (w : World) : Calls Try.prog 74 #[.int .u64 (m : Int)] w fun e w' => e = .returned (.bool (okM m)) ∧ w = w' := by
  by_cases h1 : 1 ≤ m
  · by_cases h2 : m ≤ 1099511627776
    · have e : okM m = true := by unfold okM; simp; omega
      have t1 : decide ((1 : Int) ≤ (m : Int)) = true := by simp; omega
      have t2 : decide ((m : Int) ≤ 1099511627776) = true := by simp; omega
      rw [e]
      go_enter Try.func74, Try.ntmps74
      go_wp2
      go_ret
      exact ⟨rfl, rfl⟩
    · have e : okM m = false := by unfold okM; simp; omega
      have t1 : decide ((1 : Int) ≤ (m : Int)) = true := by simp; omega
      have t2 : decide ((m : Int) ≤ 1099511627776) = false := by simp; omega
      rw [e]
      go_enter Try.func74, Try.ntmps74
      go_wp2
      go_ret
      exact ⟨rfl, rfl⟩
  · have e : okM m = false := by unfold okM; simp; omega
    have t1 : decide ((1 : Int) ≤ (m : Int)) = false := by simp; omega
    rw [e]
    go_enter Try.func74, Try.ntmps74
    go_wp2
    go_ret
    exact ⟨rfl, rfl⟩
set_option maxHeartbeats 400000 in
theorem isK_any (k : Int) (w : World) : Calls Try.prog 79 #[.int .i64 k] w fun e w' => e = .returned (.bool (okK k)) ∧ w = w' := by
  by_cases h1 : 1 ≤ k
  · by_cases h2 : k ≤ 16
    · have e : okK k = true := by unfold okK; simp; omega
      have t1 : decide ((1 : Int) ≤ k) = true := by simp; omega
      have t2 : decide (k ≤ 16) = true := by simp; omega
      rw [e]
      go_enter Try.func79, Try.ntmps79
      go_wp2
      go_ret
      exact ⟨rfl, rfl⟩
    · have e : okK k = false := by unfold okK; simp; omega
      have t1 : decide ((1 : Int) ≤ k) = true := by simp; omega
      have t2 : decide (k ≤ 16) = false := by simp; omega
      rw [e]
      go_enter Try.func79, Try.ntmps79
      go_wp2
      go_ret
      exact ⟨rfl, rfl⟩
  · have e : okK k = false := by unfold okK; simp; omega
    have t1 : decide ((1 : Int) ≤ k) = false := by simp; omega
    rw [e]
    go_enter Try.func79, Try.ntmps79
    go_wp2
    go_ret
    exact ⟨rfl, rfl⟩

theorem bitLen_sz (m : Nat) (h1 : 1 ≤ m) (h2 : m < 18446744073709551616) : Lib.bitLen (m - 1) = sz m := by
  rcases (show m = 1 ∨ ∃ q, m = q + 2 from by
    rcases m with _ | _ | q
    · omega
    · exact .inl rfl
    · exact .inr ⟨q, rfl⟩) with rfl | ⟨q, rfl⟩
  · rfl
  · have e : q + 2 - 1 = q + 1 := by omega
    rw [e, bitLen_succ q (by omega)]
    unfold sz lg
    rw [if_neg (by omega), e]
theorem sub_sh (m z : Nat) (h1 : z ≤ 57) (hm : m ≤ 2 ^ z) (s : Nat) (hs : s + m = 2 ^ z) : IntKind.u64.wrap (IntKind.u64.wrap (2 ^ z) - (m : Int)) = (s : Int) := by
  have h := Nat.pow_le_pow_right (n := 2) (by omega) h1
  have e : ((2 : Int) ^ z) = ((2 ^ z : Nat) : Int) := by simp
  rw [e]
  generalize 2 ^ z = q at *
  rw [u64w (q : Int) (by omega) (by omega), u64w _ (by omega) (by omega)]
  omega
set_option maxHeartbeats 1000000 in
theorem sizes_any (m : Nat) (h1 : 1 ≤ m) (h2 : m ≤ 72057594037927936) (w : World) :
    Calls Try.prog 92 #[.int .u64 (m : Int)] w fun e w' => e = .returned (.tuple #[.int .i64 (sz m : Int), .int .u64 (sh m : Int)]) ∧ Below w.heap.size w w' := by
  have HL := Lib.hid (len64_any (m - 1) (by omega))
  rw [bitLen_sz m h1 (by omega)] at HL
  have hz := sz_le m 57 (by omega)
  have HW := Lib.hid (sub_sh m (sz m) hz (sz_ge m) (sh m) (sh_add m))
  have e1 : ((m - 1 : Nat) : Int) = (m : Int) - 1 := by omega
  rw [e1] at HL
  generalize sh m = s at *
  generalize sz m = z at *
  have z0 : (0 : Int) ≤ (z : Int) := by omega
  go_enter Try.func92, Try.ntmps92
  go_wp2_with fail
  refine (HL.out _).mono ?_
  rintro e _ ⟨rfl, rfl⟩
  go_wp2_with fail
  go_region_held3 (fun _ => True) (trivial) (fail)
  rw [HW.out]
  go_wp2
  go_ret2
  exact ⟨rfl, (Below.refl _ _).drew⟩

theorem str_w (s k f g : Nat) (hs : s ≤ 40) (hk : k ≤ 16) (hf : 2 ^ s = f) (hg : f + g = 2 ^ (s + k)) : IntKind.u64.wrap (IntKind.u64.wrap ((f : Int) * 2 ^ k) - (f : Int)) = (g : Int) := by
  have h := Nat.pow_le_pow_right (n := 2) (by omega) (show s + k ≤ 56 by omega)
  have e : ((f : Int) * 2 ^ k) = ((2 ^ (s + k) : Nat) : Int) := by rw [Nat.pow_add, hf]; simp
  rw [e]
  generalize 2 ^ (s + k) = q at *
  rw [u64w (q : Int) (by omega) (by omega), u64w _ (by omega) (by omega)]
  omega
theorem pow_w (s f : Nat) (hs : s ≤ 40) (hf : 2 ^ s = f) : IntKind.u64.wrap (2 ^ s) = (f : Int) := by
  have h := Nat.pow_le_pow_right (n := 2) (by omega) hs
  have e : ((2 : Int) ^ s) = ((2 ^ s : Nat) : Int) := by simp
  rw [e, hf]
  rw [hf] at h
  exact u64w _ (by omega) (by omega)
set_option maxHeartbeats 1000000 in
theorem stretch_any (s k f g : Nat) (hs : s ≤ 40) (hk : k ≤ 16) (hf : 2 ^ s = f) (hg : f + g = 2 ^ (s + k)) (w : World) :
    Calls Try.prog 81 #[.int .i64 (s : Int), .int .i64 (k : Int)] w fun e w' => e = .returned (.tuple #[.int .u64 (f : Int), .int .u64 (g : Int)]) ∧ Below w.heap.size w w' := by
  have HP := Lib.hid (pow_w s f hs hf)
  have HW := Lib.hid (str_w s k f g hs hk hf hg)
  clear hf hg
  have s0 : (0 : Int) ≤ (s : Int) := by omega
  have k0 : (0 : Int) ≤ (k : Int) := by omega
  go_enter Try.func81, Try.ntmps81
  go_wp2_with fail
  rw [HP.out]
  go_region_held3 (fun _ => True) (trivial) (fail)
  rw [HW.out]
  go_wp2
  go_ret2
  exact ⟨rfl, (Below.refl _ _).drew⟩
end Go.Proofs.Ytcacbekdghlncaa
