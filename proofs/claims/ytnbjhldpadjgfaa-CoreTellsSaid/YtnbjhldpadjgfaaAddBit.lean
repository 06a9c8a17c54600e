/- One bit is added to a writer, on every writer whose bits are fewer than the document's most. -/
import Derived.Test.YtnbjhldpadjgfaaMem
import Derived.WalkLawsBesides
import Derived.Deep.QuietTactic
import Derived.BigQuiet
import Derived.BigRegion
import Derived.Lib.Hide
import Derived.Deep.AppendLies
import Derived.IntWalk
namespace Go.Proofs.Ytnbjhldpadjgfaa
open Go.RowKit

theorem info5 : (Try.prog.info? 5).map (fun i => (i.zero, i.size, i.bytes)) = some (some (.int .u8 0), 1, 1) := by kernel_rfl

theorem or_byte (x s : Nat) (b : Bool) (hx : x < 256) (hs : s < 8) (hz : x % 2 ^ (s + 1) = 0) : x ||| (b.toNat * 2 ^ s) = x + b.toNat * 2 ^ s := lor_low ⟨x, hx⟩ ⟨s, hs⟩ b hz

theorem orv (x s bn : Nat) (hx : x < 256) (hs : s < 8) (hb : bn ≤ 1) (hor : x ||| bn * 2 ^ s = x + bn * 2 ^ s) :
    bits .or .u8 (x : Int) ((bn : Int) * 2 ^ s % 256) = ((x + bn * 2 ^ s : Nat) : Int) := by
  have h2 : bn * 2 ^ s < 256 := by
    have h3 : 2 ^ s ≤ 2 ^ 7 := Nat.pow_le_pow_right (by omega) (by omega)
    rcases Nat.le_one_iff_eq_zero_or_eq_one.1 hb with rfl | rfl <;> omega
  have e0 : ((bn : Int) * 2 ^ s) = ((bn * 2 ^ s : Nat) : Int) := by simp
  rw [e0, Int.emod_eq_of_lt (by omega) (by omega), u8_or_nat _ _ hx h2, hor]

theorem orv0 (n : Nat) (b : Bool) (hm : (n : Int) % 8 = 0) : bits .or .u8 0 ((b.toNat : Int) * 2 ^ (7 - n % 8) % 256) = ((0 + b.toNat * 2 ^ 7 : Nat) : Int) := by
  have h : n % 8 = 0 := by omega
  rw [h]
  exact orv 0 7 b.toNat (by omega) (by omega) (Bool.toNat_le b) (by simp)

end Go.Proofs.Ytnbjhldpadjgfaa
