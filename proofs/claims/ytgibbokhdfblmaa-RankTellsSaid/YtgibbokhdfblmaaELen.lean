/- How many bits a number wants, as Go's own function answers it; the number fits into 64 bits. -/
import Derived.Test.YtgibbokhdfblmaaChecked
import Derived.Lib.Strings
import Derived.Lib.Slices
import Derived.Lib.Small
import Derived.Lib.Walk
import Derived.Lib.BitFns
import Derived.Lib.Hide
namespace Go.Proofs.Ytgibbokhdfblmaa

theorem len_case (x : Nat) (hx : x < 18446744073709551616) (k : Nat) (b : Int) (e : b = ((x / 2 ^ k : Nat) : Int)) (hb : x / 2 ^ k < 256) (hk : k = 0 ∨ 2 ^ k ≤ x) : Lib.len8 b + (k : Int) = (Lib.bitLen x : Int) ∧ Lib.len8 b ≤ 8 ∧ 0 ≤ Lib.len8 b := by
  have hs : k = 0 ∨ Lib.bitLen x = k + Lib.bitLen (x / 2 ^ k) := hk.imp id fun h => Lib.bitLen_shift k x h hx
  have h0 : k = 0 → x / 2 ^ k = x := by rintro rfl; simp
  have l : Lib.bitLen (x / 2 ^ k) ≤ 8 := Lib.bitLen_le8 ⟨x / 2 ^ k, hb⟩
  generalize x / 2 ^ k = y at *
  subst e
  rw [Lib.len8_of _ (by omega) (by omega), Int.toNat_natCast]
  refine ⟨?_, by omega, by omega⟩
  rcases hs with hs | hs
  · rw [h0 hs]; omega
  · omega
end Go.Proofs.Ytgibbokhdfblmaa
