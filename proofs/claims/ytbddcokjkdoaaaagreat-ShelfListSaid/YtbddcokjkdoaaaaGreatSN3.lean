/- Texts of this proof, one behind the other; each fact names its conditions. -/
import Derived.Test.YtbddcokjkdoaaaaGreatChecked
import Derived.Lib.Strings
import Derived.Lib.Slices
import Derived.Lib.Small
import Derived.Lib.Walk
import Derived.Lib.BitFns
import Derived.Lib.Hide
namespace Go.Proofs.YtbddcokjkdoaaaaGreat
theorem len_case (x : Nat) (hx : x < 18446744073709551616) (k : Nat) (b : Int) (e : b = ((x / 2 ^ k : Nat) : Int)) (hb : x / 2 ^ k < 256) (hk : k = 0 ∨ 2 ^ k ≤ x) : Lib.len8 b + (k : Int) = (Lib.bitLen x : Int) ∧ Lib.len8 b ≤ 8 ∧ 0 ≤ Lib.len8 b := by
  have hs : k = 0 ∨ Lib.bitLen x = k + Lib.bitLen (x / 2 ^ k) := hk.imp id fun h => Lib.bitLen_shift k x h hx
  have h0 : k = 0 → x / 2 ^ k = x := by rintro rfl; simp
  have l : Lib.bitLen (x / 2 ^ k) ≤ 8 := Lib.bitLen_le8 ⟨x / 2 ^ k, hb⟩
  generalize x / 2 ^ k = y at *
  subst e
  rw [Lib.len8_of _ (by omega) (by omega), Int.toNat_natCast]
  refine ⟨?_, by omega, by omega⟩
  rcases hs with hs | hs
  · rw [h0 hs]; omega
  · omega
set_option maxHeartbeats 4000000 in
set_option maxRecDepth 100000 in
theorem len64_any (x : Nat) (hx : x < 18446744073709551616) (w : World) :
    Calls Tryz.prog 215 #[.int .u64 (x : Int)] w fun e w' => e = .returned (.int .i64 (Lib.bitLen x : Int)) ∧ w = w' := by
  have HC := Lib.hid (len_case x hx)
  go_enter Tryz.func215, Tryz.ntmps215
  go_wp2
  all_goals (go_ret; refine ⟨congrArg Ending.returned (congrArg (Value.int IntKind.i64) ?_), rfl⟩)
  all_goals first
    | (obtain ⟨h1, h2, h3⟩ := HC.out 56 ((x : Int) / 4294967296 / 65536 / 256 % 256) (by omega) (by omega) (by omega); omega)
    | (obtain ⟨h1, h2, h3⟩ := HC.out 48 ((x : Int) / 4294967296 / 65536 % 256) (by omega) (by omega) (by omega); omega)
    | (obtain ⟨h1, h2, h3⟩ := HC.out 40 ((x : Int) / 4294967296 / 256 % 256) (by omega) (by omega) (by omega); omega)
    | (obtain ⟨h1, h2, h3⟩ := HC.out 32 ((x : Int) / 4294967296 % 256) (by omega) (by omega) (by omega); omega)
    | (obtain ⟨h1, h2, h3⟩ := HC.out 24 ((x : Int) / 65536 / 256 % 256) (by omega) (by omega) (by omega); omega)
    | (obtain ⟨h1, h2, h3⟩ := HC.out 16 ((x : Int) / 65536 % 256) (by omega) (by omega) (by omega); omega)
    | (obtain ⟨h1, h2, h3⟩ := HC.out 8 ((x : Int) / 256 % 256) (by omega) (by omega) (by omega); omega)
    | (obtain ⟨h1, h2, h3⟩ := HC.out 0 ((x : Int) % 256) (by omega) (by omega) (by omega); omega)
end Go.Proofs.YtbddcokjkdoaaaaGreat
