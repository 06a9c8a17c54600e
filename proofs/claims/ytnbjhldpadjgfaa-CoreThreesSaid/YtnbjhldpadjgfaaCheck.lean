/- What Check answers, for whatever bits it is handed. -/
import Derived.Test.YtnbjhldpadjgfaaCopy
import Derived.Test.YtnbjhldpadjgfaaPure2
namespace Go.Proofs.Ytnbjhldpadjgfaa
open Go.RowKit

theorem shl_test (x : Nat) (len : Int) (h0 : 0 ≤ len) : ((x : Int) * 2 ^ (len % 8).toNat % 256 != 0) = (x * 2 ^ (len.toNat % 8) % 256 != 0) := by
  have e : (len % 8).toNat = len.toNat % 8 := by omega
  rw [e]
  have e2 : (x : Int) * 2 ^ (len.toNat % 8) % 256 = ((x * 2 ^ (len.toNat % 8) % 256 : Nat) : Int) := by simp
  rw [e2]
  generalize x * 2 ^ (len.toNat % 8) % 256 = y
  rw [Bool.eq_iff_iff]
  simp

end Go.Proofs.Ytnbjhldpadjgfaa
