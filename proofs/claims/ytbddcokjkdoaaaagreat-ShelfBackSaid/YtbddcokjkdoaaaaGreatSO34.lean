/- Texts of this proof, one behind the other; each fact names its conditions. -/
import Derived.Test.YtbddcokjkdoaaaaGreatSO19
import Derived.Test.YtbddcokjkdoaaaaGreatSO2
import Derived.Test.YtbddcokjkdoaaaaGreatSO7
namespace Go.Proofs.YtbddcokjkdoaaaaGreat
set_option linter.unusedVariables false
open Go.ChangeShapes Go.WideShapes Go.ChangeAt Go.RowKit Go.Joins Go.Shelf
theorem cellsHow : Tryz.prog.cellsOf 24 = 3 := by kernel_rfl
end Go.Proofs.YtbddcokjkdoaaaaGreat
