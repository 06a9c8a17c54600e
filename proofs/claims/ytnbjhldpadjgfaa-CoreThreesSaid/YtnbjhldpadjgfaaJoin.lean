/- What Join answers, for whatever bits it is handed. -/
import Derived.Test.YtnbjhldpadjgfaaAddBits
namespace Go.Proofs.Ytnbjhldpadjgfaa
open Go.RowKit

/-- What Join answers. -/
def joinE (lx : Int) (xs : List Nat) (ly : Int) (ys : List Nat) : Int := if chk lx xs ≠ 0 then chk lx xs else if chk ly ys ≠ 0 then chk ly ys else if 8192 < lx + ly then 8 else 0

end Go.Proofs.Ytnbjhldpadjgfaa
