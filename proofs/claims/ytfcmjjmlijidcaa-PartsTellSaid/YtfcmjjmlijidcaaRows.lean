/-
  No cell of these rows narrows 'for every input' (looked for: loops, veiled, ifaces, maps, wideKeys, modest, calm, conditions, laid).
  DERIVED. THE GIVEN ROWS OF THIS SEAT. 9 by the template 'for every input the law returns true; each argument reads behind the call as it read before'; 0 by the template 'total and deterministic' (their statements: YtfcmjjmlijidcaaTotals.lean).
  GIVEN WITH THE SEED: the statements are not yours to turn. If you find one false, say at which input.
  Laid BY PROGRAM, IN A SANDBOX (cutbox-rows.mjs): the forced cells as the released guide's own fill.sh prints them over the translation 425bb192a69fa27c… (all of the seat's roots in one cut). By AI agents, Wed Nov 11 2026. No macro, syntax, notation, axiom, sorry.
-/
import Derived.Test.YtfcmjjmlijidcaaChecked
import GoSem.Claim
import GoSem.ClaimJoined
import GoSem.ClaimMapViews
import Derived.JoinedTies
import Derived.KernelRfl
namespace Go.Proofs.Ytfcmjjmlijidcaa
/- THE CELL 'sum', in the pinned program and in every row, IS THE sha256 OF THE DUMP (.gsa) THAT YtfcmjjmlijidcaaProg.lean LOADS. Nothing in Lean hashes anything: it is a label: what it is worth is what the hold of that sum in a sandbox is worth. -/
noncomputable def Try.pinned : Pinned := { name := "ytfcmjjmlijidcaa", sum := "425bb192a69fa27c89099f1ecbdd2547a09a2919bee513bf5d4164e1048c37f5", checked := Try.checked }
namespace Rows
def none {H : Type} : Left H := { results := [], args := [] }

/-- 'lampwrightlaw.PartsTell': WHATEVER THE INPUT: true; the input reads as it did. -/
def partsTellSpec : ChangeSpec := { name := "partsTell", fn := fun _ => fun
  | [d1, d2, d3] => { results := [.lit (.bool true)], args := [d1, d2, d3] }
  | _ => none }
def partsTellRow : OpenClaim := { program := "ytfcmjjmlijidcaa", sum := "425bb192a69fa27c89099f1ecbdd2547a09a2919bee513bf5d4164e1048c37f5", func := "lampwright/lampwrightlaw.PartsTell", spec := "partsTell", unfollowed := true, recurses := true, apart := false }
def PartsTellSaid : Prop := partsTellRow.holds Try.pinned (OpenSpec.ofChange partsTellSpec)

/-- ITS FALSE NEIGHBOUR: 'it returns false'. Refute it at one input. -/
def partsTellWrong : ChangeSpec := { name := "partsTell", fn := fun _ => fun
  | [d1, d2, d3] => { results := [.lit (.bool false)], args := [d1, d2, d3] }
  | _ => none }
def PartsTellWrongFalsely : Prop := partsTellRow.holds Try.pinned (OpenSpec.ofChange partsTellWrong)

/-- 'lampwrightlaw.PartsBack': WHATEVER THE INPUT: true; the input reads as it did. -/
def partsBackSpec : ChangeSpec := { name := "partsBack", fn := fun _ => fun
  | [d1, d2] => { results := [.lit (.bool true)], args := [d1, d2] }
  | _ => none }
def partsBackRow : OpenClaim := { program := "ytfcmjjmlijidcaa", sum := "425bb192a69fa27c89099f1ecbdd2547a09a2919bee513bf5d4164e1048c37f5", func := "lampwright/lampwrightlaw.PartsBack", spec := "partsBack", unfollowed := true, recurses := true, apart := false }
def PartsBackSaid : Prop := partsBackRow.holds Try.pinned (OpenSpec.ofChange partsBackSpec)

/-- ITS FALSE NEIGHBOUR: 'it returns false'. Refute it at one input. -/
def partsBackWrong : ChangeSpec := { name := "partsBack", fn := fun _ => fun
  | [d1, d2] => { results := [.lit (.bool false)], args := [d1, d2] }
  | _ => none }
def PartsBackWrongFalsely : Prop := partsBackRow.holds Try.pinned (OpenSpec.ofChange partsBackWrong)

/-- 'lampwrightlaw.PartsFew': WHATEVER THE INPUT: true; the input reads as it did. -/
def partsFewSpec : ChangeSpec := { name := "partsFew", fn := fun _ => fun
  | [d1, d2] => { results := [.lit (.bool true)], args := [d1, d2] }
  | _ => none }
def partsFewRow : OpenClaim := { program := "ytfcmjjmlijidcaa", sum := "425bb192a69fa27c89099f1ecbdd2547a09a2919bee513bf5d4164e1048c37f5", func := "lampwright/lampwrightlaw.PartsFew", spec := "partsFew", unfollowed := true, recurses := true, apart := false }
def PartsFewSaid : Prop := partsFewRow.holds Try.pinned (OpenSpec.ofChange partsFewSpec)

/-- ITS FALSE NEIGHBOUR: 'it returns false'. Refute it at one input. -/
def partsFewWrong : ChangeSpec := { name := "partsFew", fn := fun _ => fun
  | [d1, d2] => { results := [.lit (.bool false)], args := [d1, d2] }
  | _ => none }
def PartsFewWrongFalsely : Prop := partsFewRow.holds Try.pinned (OpenSpec.ofChange partsFewWrong)

/-- 'lampwrightlaw.PartsSelf': WHATEVER THE INPUT: true; the input reads as it did. -/
def partsSelfSpec : ChangeSpec := { name := "partsSelf", fn := fun _ => fun
  | [d] => { results := [.lit (.bool true)], args := [d] }
  | _ => none }
def partsSelfRow : OpenClaim := { program := "ytfcmjjmlijidcaa", sum := "425bb192a69fa27c89099f1ecbdd2547a09a2919bee513bf5d4164e1048c37f5", func := "lampwright/lampwrightlaw.PartsSelf", spec := "partsSelf", unfollowed := true, recurses := true, apart := false }
def PartsSelfSaid : Prop := partsSelfRow.holds Try.pinned (OpenSpec.ofChange partsSelfSpec)

/-- ITS FALSE NEIGHBOUR: 'it returns false'. Refute it at one input. -/
def partsSelfWrong : ChangeSpec := { name := "partsSelf", fn := fun _ => fun
  | [d] => { results := [.lit (.bool false)], args := [d] }
  | _ => none }
def PartsSelfWrongFalsely : Prop := partsSelfRow.holds Try.pinned (OpenSpec.ofChange partsSelfWrong)

/-- 'lampwrightlaw.PartsSwap': WHATEVER THE INPUT: true; the input reads as it did. -/
def partsSwapSpec : ChangeSpec := { name := "partsSwap", fn := fun _ => fun
  | [d1, d2] => { results := [.lit (.bool true)], args := [d1, d2] }
  | _ => none }
def partsSwapRow : OpenClaim := { program := "ytfcmjjmlijidcaa", sum := "425bb192a69fa27c89099f1ecbdd2547a09a2919bee513bf5d4164e1048c37f5", func := "lampwright/lampwrightlaw.PartsSwap", spec := "partsSwap", unfollowed := true, recurses := true, apart := false }
def PartsSwapSaid : Prop := partsSwapRow.holds Try.pinned (OpenSpec.ofChange partsSwapSpec)

/-- ITS FALSE NEIGHBOUR: 'it returns false'. Refute it at one input. -/
def partsSwapWrong : ChangeSpec := { name := "partsSwap", fn := fun _ => fun
  | [d1, d2] => { results := [.lit (.bool false)], args := [d1, d2] }
  | _ => none }
def PartsSwapWrongFalsely : Prop := partsSwapRow.holds Try.pinned (OpenSpec.ofChange partsSwapWrong)

/-- 'lampwrightlaw.PartsApart': WHATEVER THE INPUT: true; the input reads as it did. -/
def partsApartSpec : ChangeSpec := { name := "partsApart", fn := fun _ => fun
  | [d1, d2, d3] => { results := [.lit (.bool true)], args := [d1, d2, d3] }
  | _ => none }
def partsApartRow : OpenClaim := { program := "ytfcmjjmlijidcaa", sum := "425bb192a69fa27c89099f1ecbdd2547a09a2919bee513bf5d4164e1048c37f5", func := "lampwright/lampwrightlaw.PartsApart", spec := "partsApart", unfollowed := true, recurses := true, apart := false }
def PartsApartSaid : Prop := partsApartRow.holds Try.pinned (OpenSpec.ofChange partsApartSpec)

/-- ITS FALSE NEIGHBOUR: 'it returns false'. Refute it at one input. -/
def partsApartWrong : ChangeSpec := { name := "partsApart", fn := fun _ => fun
  | [d1, d2, d3] => { results := [.lit (.bool false)], args := [d1, d2, d3] }
  | _ => none }
def PartsApartWrongFalsely : Prop := partsApartRow.holds Try.pinned (OpenSpec.ofChange partsApartWrong)

/-- 'lampwrightlaw.GapsTell': WHATEVER THE INPUT: true; the input reads as it did. -/
def gapsTellSpec : ChangeSpec := { name := "gapsTell", fn := fun _ => fun
  | [d1, d2, d3, d4] => { results := [.lit (.bool true)], args := [d1, d2, d3, d4] }
  | _ => none }
def gapsTellRow : OpenClaim := { program := "ytfcmjjmlijidcaa", sum := "425bb192a69fa27c89099f1ecbdd2547a09a2919bee513bf5d4164e1048c37f5", func := "lampwright/lampwrightlaw.GapsTell", spec := "gapsTell", unfollowed := true, recurses := true, apart := false }
def GapsTellSaid : Prop := gapsTellRow.holds Try.pinned (OpenSpec.ofChange gapsTellSpec)

/-- ITS FALSE NEIGHBOUR: 'it returns false'. Refute it at one input. -/
def gapsTellWrong : ChangeSpec := { name := "gapsTell", fn := fun _ => fun
  | [d1, d2, d3, d4] => { results := [.lit (.bool false)], args := [d1, d2, d3, d4] }
  | _ => none }
def GapsTellWrongFalsely : Prop := gapsTellRow.holds Try.pinned (OpenSpec.ofChange gapsTellWrong)

/-- 'lampwrightlaw.RunsTell': WHATEVER THE INPUT: true; the input reads as it did. -/
def runsTellSpec : ChangeSpec := { name := "runsTell", fn := fun _ => fun
  | [d1, d2, d3, d4] => { results := [.lit (.bool true)], args := [d1, d2, d3, d4] }
  | _ => none }
def runsTellRow : OpenClaim := { program := "ytfcmjjmlijidcaa", sum := "425bb192a69fa27c89099f1ecbdd2547a09a2919bee513bf5d4164e1048c37f5", func := "lampwright/lampwrightlaw.RunsTell", spec := "runsTell", unfollowed := true, recurses := true, apart := false }
def RunsTellSaid : Prop := runsTellRow.holds Try.pinned (OpenSpec.ofChange runsTellSpec)

/-- ITS FALSE NEIGHBOUR: 'it returns false'. Refute it at one input. -/
def runsTellWrong : ChangeSpec := { name := "runsTell", fn := fun _ => fun
  | [d1, d2, d3, d4] => { results := [.lit (.bool false)], args := [d1, d2, d3, d4] }
  | _ => none }
def RunsTellWrongFalsely : Prop := runsTellRow.holds Try.pinned (OpenSpec.ofChange runsTellWrong)

/-- 'lampwrightlaw.GolombBack': WHATEVER THE INPUT: true; the input reads as it did. -/
def golombBackSpec : ChangeSpec := { name := "golombBack", fn := fun _ => fun
  | [d1, d2, d3, d4] => { results := [.lit (.bool true)], args := [d1, d2, d3, d4] }
  | _ => none }
def golombBackRow : OpenClaim := { program := "ytfcmjjmlijidcaa", sum := "425bb192a69fa27c89099f1ecbdd2547a09a2919bee513bf5d4164e1048c37f5", func := "lampwright/lampwrightlaw.GolombBack", spec := "golombBack", unfollowed := true, recurses := true, apart := false }
def GolombBackSaid : Prop := golombBackRow.holds Try.pinned (OpenSpec.ofChange golombBackSpec)

/-- ITS FALSE NEIGHBOUR: 'it returns false'. Refute it at one input. -/
def golombBackWrong : ChangeSpec := { name := "golombBack", fn := fun _ => fun
  | [d1, d2, d3, d4] => { results := [.lit (.bool false)], args := [d1, d2, d3, d4] }
  | _ => none }
def GolombBackWrongFalsely : Prop := golombBackRow.holds Try.pinned (OpenSpec.ofChange golombBackWrong)

/- THE SECOND FORM. 'bulk': how many values and letters a reading holds, each counted each time it is reached (what is shared counts as often as it is met; a slice's spare places count too). A statement '..UptoSaid' is the law's where the arguments, and the package variables that the reading takes, are together of bulk at most 1048576: NARROWER than '..Said'. Prove '..Said' where nothing that the law and all that it calls make is longer than what came in: it says more and counts as full. Else prove '..UptoSaid'. A law counts once. -/
mutual
def uptoBulk {H : Type} : DataW H → Nat
  | .lit (.string bytes) => bytes.length + 1
  | .lit _ => 1
  | .nil => 1
  | .ptr d => uptoBulk d + 1
  | .slice elems spare => uptoBulkAll elems + uptoBulkAll spare + 1
  | .agg parts => uptoBulkAll parts + 1
  | .iface _ d => uptoBulk d + 1
  | .map entries => uptoBulkEntries entries + 1
  | .held _ => 1
def uptoBulkAll {H : Type} : List (DataW H) → Nat
  | [] => 0
  | d :: r => uptoBulk d + uptoBulkAll r
def uptoBulkEntries {H : Type} : List (Lit × DataW H) → Nat
  | [] => 0
  | x :: r => uptoBulkEntry x + uptoBulkEntries r
def uptoBulkEntry {H : Type} : Lit × DataW H → Nat
  | (.string bytes, d) => bytes.length + uptoBulk d + 1
  | (_, d) => uptoBulk d + 1
 end
def uptoSmall : (H : Type) → List (DataW H) → Bool := fun _ ds => decide (uptoBulkAll ds ≤ 1048576)
def OpenSpec.upto (s : _root_.Go.ChangeSpec) : _root_.Go.OpenSpec := { _root_.Go.OpenSpec.ofChange s with cond := some uptoSmall }

/-- 'lampwrightlaw.PartsTell', WHERE WHAT IT READS IS OF BULK AT MOST 1048576: true; the input reads as it did. -/
def partsTellUptoRow : OpenClaim := { program := "ytfcmjjmlijidcaa", sum := "425bb192a69fa27c89099f1ecbdd2547a09a2919bee513bf5d4164e1048c37f5", func := "lampwright/lampwrightlaw.PartsTell", spec := "partsTell", unfollowed := true, recurses := true, apart := false, narrowed := true }
def PartsTellUptoSaid : Prop := partsTellUptoRow.holds Try.pinned (OpenSpec.upto partsTellSpec)

/-- 'lampwrightlaw.PartsBack', WHERE WHAT IT READS IS OF BULK AT MOST 1048576: true; the input reads as it did. -/
def partsBackUptoRow : OpenClaim := { program := "ytfcmjjmlijidcaa", sum := "425bb192a69fa27c89099f1ecbdd2547a09a2919bee513bf5d4164e1048c37f5", func := "lampwright/lampwrightlaw.PartsBack", spec := "partsBack", unfollowed := true, recurses := true, apart := false, narrowed := true }
def PartsBackUptoSaid : Prop := partsBackUptoRow.holds Try.pinned (OpenSpec.upto partsBackSpec)

/-- 'lampwrightlaw.PartsFew', WHERE WHAT IT READS IS OF BULK AT MOST 1048576: true; the input reads as it did. -/
def partsFewUptoRow : OpenClaim := { program := "ytfcmjjmlijidcaa", sum := "425bb192a69fa27c89099f1ecbdd2547a09a2919bee513bf5d4164e1048c37f5", func := "lampwright/lampwrightlaw.PartsFew", spec := "partsFew", unfollowed := true, recurses := true, apart := false, narrowed := true }
def PartsFewUptoSaid : Prop := partsFewUptoRow.holds Try.pinned (OpenSpec.upto partsFewSpec)

/-- 'lampwrightlaw.PartsSelf', WHERE WHAT IT READS IS OF BULK AT MOST 1048576: true; the input reads as it did. -/
def partsSelfUptoRow : OpenClaim := { program := "ytfcmjjmlijidcaa", sum := "425bb192a69fa27c89099f1ecbdd2547a09a2919bee513bf5d4164e1048c37f5", func := "lampwright/lampwrightlaw.PartsSelf", spec := "partsSelf", unfollowed := true, recurses := true, apart := false, narrowed := true }
def PartsSelfUptoSaid : Prop := partsSelfUptoRow.holds Try.pinned (OpenSpec.upto partsSelfSpec)

/-- 'lampwrightlaw.PartsSwap', WHERE WHAT IT READS IS OF BULK AT MOST 1048576: true; the input reads as it did. -/
def partsSwapUptoRow : OpenClaim := { program := "ytfcmjjmlijidcaa", sum := "425bb192a69fa27c89099f1ecbdd2547a09a2919bee513bf5d4164e1048c37f5", func := "lampwright/lampwrightlaw.PartsSwap", spec := "partsSwap", unfollowed := true, recurses := true, apart := false, narrowed := true }
def PartsSwapUptoSaid : Prop := partsSwapUptoRow.holds Try.pinned (OpenSpec.upto partsSwapSpec)

/-- 'lampwrightlaw.PartsApart', WHERE WHAT IT READS IS OF BULK AT MOST 1048576: true; the input reads as it did. -/
def partsApartUptoRow : OpenClaim := { program := "ytfcmjjmlijidcaa", sum := "425bb192a69fa27c89099f1ecbdd2547a09a2919bee513bf5d4164e1048c37f5", func := "lampwright/lampwrightlaw.PartsApart", spec := "partsApart", unfollowed := true, recurses := true, apart := false, narrowed := true }
def PartsApartUptoSaid : Prop := partsApartUptoRow.holds Try.pinned (OpenSpec.upto partsApartSpec)

/-- 'lampwrightlaw.GapsTell', WHERE WHAT IT READS IS OF BULK AT MOST 1048576: true; the input reads as it did. -/
def gapsTellUptoRow : OpenClaim := { program := "ytfcmjjmlijidcaa", sum := "425bb192a69fa27c89099f1ecbdd2547a09a2919bee513bf5d4164e1048c37f5", func := "lampwright/lampwrightlaw.GapsTell", spec := "gapsTell", unfollowed := true, recurses := true, apart := false, narrowed := true }
def GapsTellUptoSaid : Prop := gapsTellUptoRow.holds Try.pinned (OpenSpec.upto gapsTellSpec)

/-- 'lampwrightlaw.RunsTell', WHERE WHAT IT READS IS OF BULK AT MOST 1048576: true; the input reads as it did. -/
def runsTellUptoRow : OpenClaim := { program := "ytfcmjjmlijidcaa", sum := "425bb192a69fa27c89099f1ecbdd2547a09a2919bee513bf5d4164e1048c37f5", func := "lampwright/lampwrightlaw.RunsTell", spec := "runsTell", unfollowed := true, recurses := true, apart := false, narrowed := true }
def RunsTellUptoSaid : Prop := runsTellUptoRow.holds Try.pinned (OpenSpec.upto runsTellSpec)

/-- 'lampwrightlaw.GolombBack', WHERE WHAT IT READS IS OF BULK AT MOST 1048576: true; the input reads as it did. -/
def golombBackUptoRow : OpenClaim := { program := "ytfcmjjmlijidcaa", sum := "425bb192a69fa27c89099f1ecbdd2547a09a2919bee513bf5d4164e1048c37f5", func := "lampwright/lampwrightlaw.GolombBack", spec := "golombBack", unfollowed := true, recurses := true, apart := false, narrowed := true }
def GolombBackUptoSaid : Prop := golombBackUptoRow.holds Try.pinned (OpenSpec.upto golombBackSpec)

end Rows
end Go.Proofs.Ytfcmjjmlijidcaa
