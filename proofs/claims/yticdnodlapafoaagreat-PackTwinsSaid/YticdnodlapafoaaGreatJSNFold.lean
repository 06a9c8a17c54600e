/- Numbers with signs are folded to numbers without, and unfolded; by the program and by the document; for every number. -/
import Derived.Test.YticdnodlapafoaaGreatJSNChk
import Derived.Laws.DeepNot64
import Derived.Laws.Bits64b
namespace Go.Proofs.YticdnodlapafoaaGreat
set_option maxRecDepth 100000
set_option linter.unusedVariables false
open Go.RowKit

theorem ret_u64 {a b : Int} (h : a = b) : Ending.returned (.int .u64 a) = .returned (.int .u64 b) := by rw [h]
theorem u64_not (a : Nat) (ha : a < 18446744073709551616) : bits .xor .u64 IntKind.u64.max (a : Int) = 18446744073709551615 - (a : Int) := by
  show IntKind.u64.wrap ((BitVec.ofInt 64 IntKind.u64.max ^^^ BitVec.ofInt 64 (a : Int)).toNat : Int) = _
  have h1 : BitVec.ofInt 64 IntKind.u64.max = BitVec.allOnes 64 := by decide
  rw [h1, BitVec.allOnes_xor, BitVec.toNat_not, ofInt_u64 a (by omega)]
  simp [IntKind.wrap, IntKind.bits, IntKind.signed]
  omega

set_option maxHeartbeats 400000 in
theorem fold_any (n : Int) (h0 : -9223372036854775808 ≤ n) (h1 : n ≤ 9223372036854775807) (w : World) :
    Calls Tryz.prog 155 #[.int .i64 n] w fun e w' => e = .returned (.int .u64 (fold n : Int)) ∧ w = w' := by
  by_cases hn : n < 0
  · have e : bits BinOp.xor IntKind.u64 IntKind.u64.max (IntKind.u64.wrap (IntKind.u64.wrap n * 2)) = (fold n : Int) := by
      have e1 : IntKind.u64.wrap (IntKind.u64.wrap n * 2) = ((2 * n + 18446744073709551616).toNat : Int) := by
        rw [IntKind.wrap_u64, IntKind.wrap_u64]; omega
      rw [e1, u64_not _ (by omega)]
      unfold fold
      rw [if_pos hn]
      omega
    have HE := Lib.hid e; clear e
    go_enter Tryz.func155, Tryz.ntmps155
    go_wp2
    go_ret
    exact ⟨ret_u64 HE.out, rfl⟩
  · have HE : Hid (n * 2 = (fold n : Int)) := by show _ = _; unfold fold; rw [if_neg hn]; omega
    go_enter Tryz.func155, Tryz.ntmps155
    go_wp2
    go_ret
    exact ⟨ret_u64 HE.out, rfl⟩
set_option maxHeartbeats 400000 in
theorem foldOf_any (n : Int) (h0 : -9223372036854775808 ≤ n) (h1 : n ≤ 9223372036854775807) (w : World) :
    Calls Tryz.prog 82 #[.int .i64 n] w fun e w' => e = .returned (.int .u64 (fold n : Int)) ∧ w = w' := by
  by_cases hn : n < 0
  · have HE : Hid (2 * -(n + 1) + 1 = (fold n : Int)) := by show _ = _; unfold fold; rw [if_pos hn]; omega
    go_enter Tryz.func82, Tryz.ntmps82
    go_wp2
    go_ret
    exact ⟨ret_u64 HE.out, rfl⟩
  · have HE : Hid (2 * n = (fold n : Int)) := by show _ = _; unfold fold; rw [if_neg hn]; omega
    go_enter Tryz.func82, Tryz.ntmps82
    go_wp2
    go_ret
    exact ⟨ret_u64 HE.out, rfl⟩
set_option maxHeartbeats 400000 in
theorem unfold_any (n : Nat) (h1 : n < 18446744073709551616) (w : World) :
    Calls Tryz.prog 179 #[.int .u64 (n : Int)] w fun e w' => e = .returned (.int .i64 (unfold_ n)) ∧ w = w' := by
  by_cases hn : n % 2 = 1
  · have t1 : ((n : Int) % 2 == 1) = true := by simp; omega
    have HE : Hid (bits BinOp.xor IntKind.i64 (-1) ((n : Int) / 2) = unfold_ n) := by
      show _ = _
      rw [show (n : Int) / 2 = ((n / 2 : Nat) : Int) from by omega, i64_not _ (by omega)]
      unfold unfold_
      rw [if_pos hn]
      omega
    clear hn
    go_enter Tryz.func179, Tryz.ntmps179
    go_wp2
    go_ret
    exact ⟨ret_i64 HE.out, rfl⟩
  · have t1 : ((n : Int) % 2 == 1) = false := by simp; omega
    have HE : Hid ((n : Int) / 2 = unfold_ n) := by show _ = _; unfold unfold_; rw [if_neg hn]
    clear hn
    go_enter Tryz.func179, Tryz.ntmps179
    go_wp2
    go_ret
    exact ⟨ret_i64 HE.out, rfl⟩
end Go.Proofs.YticdnodlapafoaaGreat
