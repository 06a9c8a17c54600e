/- What Cut answers, for whatever bits and positions it is handed. -/
import Derived.Test.YtnbjhldpadjgfaaAddBits
namespace Go.Proofs.Ytnbjhldpadjgfaa
open Go.RowKit

/-- What Cut answers. -/
def cutE (len : Int) (bs : List Nat) (fr to : Int) : Int := if chk len bs ≠ 0 then chk len bs else if fr < 0 ∨ to < fr ∨ len < to then 3 else 0

end Go.Proofs.Ytnbjhldpadjgfaa
