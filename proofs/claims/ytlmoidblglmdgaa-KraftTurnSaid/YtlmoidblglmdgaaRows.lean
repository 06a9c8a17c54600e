/-
  No cell of these rows narrows 'for every input' (looked for: loops, veiled, ifaces, maps, wideKeys, modest, calm, conditions, laid).
  DERIVED. THE GIVEN ROWS OF THIS SEAT. 14 by the template 'for every input the law returns true; each argument reads behind the call as it read before'; 0 by the template 'total and deterministic' (their statements: YtlmoidblglmdgaaTotals.lean).
  GIVEN WITH THE SEED: the statements are not yours to turn. If you find one false, say at which input.
  Laid BY PROGRAM, IN A SANDBOX (cutbox-rows.mjs): the forced cells as the released guide's own fill.sh prints them over the translation e978afae02f0e7ea… (all of the seat's roots in one cut). By AI agents, Wed Nov 11 2026. No macro, syntax, notation, axiom, sorry.
-/
import Derived.Test.YtlmoidblglmdgaaChecked
import GoSem.Claim
import GoSem.ClaimJoined
import GoSem.ClaimMapViews
import Derived.JoinedTies
import Derived.KernelRfl
namespace Go.Proofs.Ytlmoidblglmdgaa
/- THE CELL 'sum', in the pinned program and in every row, IS THE sha256 OF THE DUMP (.gsa) THAT YtlmoidblglmdgaaProg.lean LOADS. Nothing in Lean hashes anything: it is a label: what it is worth is what the hold of that sum in a sandbox is worth. -/
noncomputable def Try.pinned : Pinned := { name := "ytlmoidblglmdgaa", sum := "e978afae02f0e7eae74789fe1f566e5b1060e88cee5e09c71db2dcb0ecee3d85", checked := Try.checked }
namespace Rows
def none {H : Type} : Left H := { results := [], args := [] }

/-- 'lampwrightlaw.KraftTells': WHATEVER THE INPUT: true; the input reads as it did. -/
def kraftTellsSpec : ChangeSpec := { name := "kraftTells", fn := fun _ => fun
  | [d1, d2, d3, d4] => { results := [.lit (.bool true)], args := [d1, d2, d3, d4] }
  | _ => none }
def kraftTellsRow : OpenClaim := { program := "ytlmoidblglmdgaa", sum := "e978afae02f0e7eae74789fe1f566e5b1060e88cee5e09c71db2dcb0ecee3d85", func := "lampwright/lampwrightlaw.KraftTells", spec := "kraftTells", inPlace := ["internal/bytealg.Compare"], unfollowed := true, recurses := true, apart := false }
def KraftTellsSaid : Prop := kraftTellsRow.holds Try.pinned (OpenSpec.ofChange kraftTellsSpec)

/-- ITS FALSE NEIGHBOUR: 'it returns false'. Refute it at one input. -/
def kraftTellsWrong : ChangeSpec := { name := "kraftTells", fn := fun _ => fun
  | [d1, d2, d3, d4] => { results := [.lit (.bool false)], args := [d1, d2, d3, d4] }
  | _ => none }
def KraftTellsWrongFalsely : Prop := kraftTellsRow.holds Try.pinned (OpenSpec.ofChange kraftTellsWrong)

/-- 'lampwrightlaw.KraftCodes': WHATEVER THE INPUT: true; the input reads as it did. -/
def kraftCodesSpec : ChangeSpec := { name := "kraftCodes", fn := fun _ => fun
  | [d] => { results := [.lit (.bool true)], args := [d] }
  | _ => none }
def kraftCodesRow : OpenClaim := { program := "ytlmoidblglmdgaa", sum := "e978afae02f0e7eae74789fe1f566e5b1060e88cee5e09c71db2dcb0ecee3d85", func := "lampwright/lampwrightlaw.KraftCodes", spec := "kraftCodes", inPlace := ["internal/bytealg.Compare"], unfollowed := true, recurses := true, apart := false }
def KraftCodesSaid : Prop := kraftCodesRow.holds Try.pinned (OpenSpec.ofChange kraftCodesSpec)

/-- ITS FALSE NEIGHBOUR: 'it returns false'. Refute it at one input. -/
def kraftCodesWrong : ChangeSpec := { name := "kraftCodes", fn := fun _ => fun
  | [d] => { results := [.lit (.bool false)], args := [d] }
  | _ => none }
def KraftCodesWrongFalsely : Prop := kraftCodesRow.holds Try.pinned (OpenSpec.ofChange kraftCodesWrong)

/-- 'lampwrightlaw.KraftMust': WHATEVER THE INPUT: true; the input reads as it did. -/
def kraftMustSpec : ChangeSpec := { name := "kraftMust", fn := fun _ => fun
  | [d] => { results := [.lit (.bool true)], args := [d] }
  | _ => none }
def kraftMustRow : OpenClaim := { program := "ytlmoidblglmdgaa", sum := "e978afae02f0e7eae74789fe1f566e5b1060e88cee5e09c71db2dcb0ecee3d85", func := "lampwright/lampwrightlaw.KraftMust", spec := "kraftMust", inPlace := ["internal/bytealg.Compare"], unfollowed := true, recurses := true, apart := false }
def KraftMustSaid : Prop := kraftMustRow.holds Try.pinned (OpenSpec.ofChange kraftMustSpec)

/-- ITS FALSE NEIGHBOUR: 'it returns false'. Refute it at one input. -/
def kraftMustWrong : ChangeSpec := { name := "kraftMust", fn := fun _ => fun
  | [d] => { results := [.lit (.bool false)], args := [d] }
  | _ => none }
def KraftMustWrongFalsely : Prop := kraftMustRow.holds Try.pinned (OpenSpec.ofChange kraftMustWrong)

/-- 'lampwrightlaw.KraftBack': WHATEVER THE INPUT: true; the input reads as it did. -/
def kraftBackSpec : ChangeSpec := { name := "kraftBack", fn := fun _ => fun
  | [d1, d2] => { results := [.lit (.bool true)], args := [d1, d2] }
  | _ => none }
def kraftBackRow : OpenClaim := { program := "ytlmoidblglmdgaa", sum := "e978afae02f0e7eae74789fe1f566e5b1060e88cee5e09c71db2dcb0ecee3d85", func := "lampwright/lampwrightlaw.KraftBack", spec := "kraftBack", inPlace := ["internal/bytealg.Compare"], unfollowed := true, recurses := true, apart := false }
def KraftBackSaid : Prop := kraftBackRow.holds Try.pinned (OpenSpec.ofChange kraftBackSpec)

/-- ITS FALSE NEIGHBOUR: 'it returns false'. Refute it at one input. -/
def kraftBackWrong : ChangeSpec := { name := "kraftBack", fn := fun _ => fun
  | [d1, d2] => { results := [.lit (.bool false)], args := [d1, d2] }
  | _ => none }
def KraftBackWrongFalsely : Prop := kraftBackRow.holds Try.pinned (OpenSpec.ofChange kraftBackWrong)

/-- 'lampwrightlaw.KraftFull': WHATEVER THE INPUT: true; the input reads as it did. -/
def kraftFullSpec : ChangeSpec := { name := "kraftFull", fn := fun _ => fun
  | [d1, d2] => { results := [.lit (.bool true)], args := [d1, d2] }
  | _ => none }
def kraftFullRow : OpenClaim := { program := "ytlmoidblglmdgaa", sum := "e978afae02f0e7eae74789fe1f566e5b1060e88cee5e09c71db2dcb0ecee3d85", func := "lampwright/lampwrightlaw.KraftFull", spec := "kraftFull", inPlace := ["internal/bytealg.Compare"], unfollowed := true, recurses := true, apart := false }
def KraftFullSaid : Prop := kraftFullRow.holds Try.pinned (OpenSpec.ofChange kraftFullSpec)

/-- ITS FALSE NEIGHBOUR: 'it returns false'. Refute it at one input. -/
def kraftFullWrong : ChangeSpec := { name := "kraftFull", fn := fun _ => fun
  | [d1, d2] => { results := [.lit (.bool false)], args := [d1, d2] }
  | _ => none }
def KraftFullWrongFalsely : Prop := kraftFullRow.holds Try.pinned (OpenSpec.ofChange kraftFullWrong)

/-- 'lampwrightlaw.KraftOrder': WHATEVER THE INPUT: true; the input reads as it did. -/
def kraftOrderSpec : ChangeSpec := { name := "kraftOrder", fn := fun _ => fun
  | [d1, d2, d3] => { results := [.lit (.bool true)], args := [d1, d2, d3] }
  | _ => none }
def kraftOrderRow : OpenClaim := { program := "ytlmoidblglmdgaa", sum := "e978afae02f0e7eae74789fe1f566e5b1060e88cee5e09c71db2dcb0ecee3d85", func := "lampwright/lampwrightlaw.KraftOrder", spec := "kraftOrder", inPlace := ["internal/bytealg.Compare"], unfollowed := true, recurses := true, apart := false }
def KraftOrderSaid : Prop := kraftOrderRow.holds Try.pinned (OpenSpec.ofChange kraftOrderSpec)

/-- ITS FALSE NEIGHBOUR: 'it returns false'. Refute it at one input. -/
def kraftOrderWrong : ChangeSpec := { name := "kraftOrder", fn := fun _ => fun
  | [d1, d2, d3] => { results := [.lit (.bool false)], args := [d1, d2, d3] }
  | _ => none }
def KraftOrderWrongFalsely : Prop := kraftOrderRow.holds Try.pinned (OpenSpec.ofChange kraftOrderWrong)

/-- 'lampwrightlaw.KraftTurn': WHATEVER THE INPUT: true; the input reads as it did. -/
def kraftTurnSpec : ChangeSpec := { name := "kraftTurn", fn := fun _ => fun
  | [d1, d2] => { results := [.lit (.bool true)], args := [d1, d2] }
  | _ => none }
def kraftTurnRow : OpenClaim := { program := "ytlmoidblglmdgaa", sum := "e978afae02f0e7eae74789fe1f566e5b1060e88cee5e09c71db2dcb0ecee3d85", func := "lampwright/lampwrightlaw.KraftTurn", spec := "kraftTurn", inPlace := ["internal/bytealg.Compare"], unfollowed := true, recurses := true, apart := false }
def KraftTurnSaid : Prop := kraftTurnRow.holds Try.pinned (OpenSpec.ofChange kraftTurnSpec)

/-- ITS FALSE NEIGHBOUR: 'it returns false'. Refute it at one input. -/
def kraftTurnWrong : ChangeSpec := { name := "kraftTurn", fn := fun _ => fun
  | [d1, d2] => { results := [.lit (.bool false)], args := [d1, d2] }
  | _ => none }
def KraftTurnWrongFalsely : Prop := kraftTurnRow.holds Try.pinned (OpenSpec.ofChange kraftTurnWrong)

/-- 'lampwrightlaw.HuffTells': WHATEVER THE INPUT: true; the input reads as it did. -/
def huffTellsSpec : ChangeSpec := { name := "huffTells", fn := fun _ => fun
  | [d1, d2, d3, d4, d5, d6] => { results := [.lit (.bool true)], args := [d1, d2, d3, d4, d5, d6] }
  | _ => none }
def huffTellsRow : OpenClaim := { program := "ytlmoidblglmdgaa", sum := "e978afae02f0e7eae74789fe1f566e5b1060e88cee5e09c71db2dcb0ecee3d85", func := "lampwright/lampwrightlaw.HuffTells", spec := "huffTells", unfollowed := true, recurses := true, apart := false }
def HuffTellsSaid : Prop := huffTellsRow.holds Try.pinned (OpenSpec.ofChange huffTellsSpec)

/-- ITS FALSE NEIGHBOUR: 'it returns false'. Refute it at one input. -/
def huffTellsWrong : ChangeSpec := { name := "huffTells", fn := fun _ => fun
  | [d1, d2, d3, d4, d5, d6] => { results := [.lit (.bool false)], args := [d1, d2, d3, d4, d5, d6] }
  | _ => none }
def HuffTellsWrongFalsely : Prop := huffTellsRow.holds Try.pinned (OpenSpec.ofChange huffTellsWrong)

/-- 'lampwrightlaw.HuffBack': WHATEVER THE INPUT: true; the input reads as it did. -/
def huffBackSpec : ChangeSpec := { name := "huffBack", fn := fun _ => fun
  | [d1, d2] => { results := [.lit (.bool true)], args := [d1, d2] }
  | _ => none }
def huffBackRow : OpenClaim := { program := "ytlmoidblglmdgaa", sum := "e978afae02f0e7eae74789fe1f566e5b1060e88cee5e09c71db2dcb0ecee3d85", func := "lampwright/lampwrightlaw.HuffBack", spec := "huffBack", unfollowed := true, recurses := true, apart := false }
def HuffBackSaid : Prop := huffBackRow.holds Try.pinned (OpenSpec.ofChange huffBackSpec)

/-- ITS FALSE NEIGHBOUR: 'it returns false'. Refute it at one input. -/
def huffBackWrong : ChangeSpec := { name := "huffBack", fn := fun _ => fun
  | [d1, d2] => { results := [.lit (.bool false)], args := [d1, d2] }
  | _ => none }
def HuffBackWrongFalsely : Prop := huffBackRow.holds Try.pinned (OpenSpec.ofChange huffBackWrong)

/-- 'lampwrightlaw.HuffOften': WHATEVER THE INPUT: true; the input reads as it did. -/
def huffOftenSpec : ChangeSpec := { name := "huffOften", fn := fun _ => fun
  | [d1, d2, d3] => { results := [.lit (.bool true)], args := [d1, d2, d3] }
  | _ => none }
def huffOftenRow : OpenClaim := { program := "ytlmoidblglmdgaa", sum := "e978afae02f0e7eae74789fe1f566e5b1060e88cee5e09c71db2dcb0ecee3d85", func := "lampwright/lampwrightlaw.HuffOften", spec := "huffOften", unfollowed := true, recurses := true, apart := false }
def HuffOftenSaid : Prop := huffOftenRow.holds Try.pinned (OpenSpec.ofChange huffOftenSpec)

/-- ITS FALSE NEIGHBOUR: 'it returns false'. Refute it at one input. -/
def huffOftenWrong : ChangeSpec := { name := "huffOften", fn := fun _ => fun
  | [d1, d2, d3] => { results := [.lit (.bool false)], args := [d1, d2, d3] }
  | _ => none }
def HuffOftenWrongFalsely : Prop := huffOftenRow.holds Try.pinned (OpenSpec.ofChange huffOftenWrong)

/-- 'lampwrightlaw.HuffTimes': WHATEVER THE INPUT: true; the input reads as it did. -/
def huffTimesSpec : ChangeSpec := { name := "huffTimes", fn := fun _ => fun
  | [d1, d2] => { results := [.lit (.bool true)], args := [d1, d2] }
  | _ => none }
def huffTimesRow : OpenClaim := { program := "ytlmoidblglmdgaa", sum := "e978afae02f0e7eae74789fe1f566e5b1060e88cee5e09c71db2dcb0ecee3d85", func := "lampwright/lampwrightlaw.HuffTimes", spec := "huffTimes", unfollowed := true, recurses := true, apart := false }
def HuffTimesSaid : Prop := huffTimesRow.holds Try.pinned (OpenSpec.ofChange huffTimesSpec)

/-- ITS FALSE NEIGHBOUR: 'it returns false'. Refute it at one input. -/
def huffTimesWrong : ChangeSpec := { name := "huffTimes", fn := fun _ => fun
  | [d1, d2] => { results := [.lit (.bool false)], args := [d1, d2] }
  | _ => none }
def HuffTimesWrongFalsely : Prop := huffTimesRow.holds Try.pinned (OpenSpec.ofChange huffTimesWrong)

/-- 'lampwrightlaw.HuffFlat': WHATEVER THE INPUT: true; the input reads as it did. -/
def huffFlatSpec : ChangeSpec := { name := "huffFlat", fn := fun _ => fun
  | [d1, d2] => { results := [.lit (.bool true)], args := [d1, d2] }
  | _ => none }
def huffFlatRow : OpenClaim := { program := "ytlmoidblglmdgaa", sum := "e978afae02f0e7eae74789fe1f566e5b1060e88cee5e09c71db2dcb0ecee3d85", func := "lampwright/lampwrightlaw.HuffFlat", spec := "huffFlat", unfollowed := true, recurses := true, apart := false }
def HuffFlatSaid : Prop := huffFlatRow.holds Try.pinned (OpenSpec.ofChange huffFlatSpec)

/-- ITS FALSE NEIGHBOUR: 'it returns false'. Refute it at one input. -/
def huffFlatWrong : ChangeSpec := { name := "huffFlat", fn := fun _ => fun
  | [d1, d2] => { results := [.lit (.bool false)], args := [d1, d2] }
  | _ => none }
def HuffFlatWrongFalsely : Prop := huffFlatRow.holds Try.pinned (OpenSpec.ofChange huffFlatWrong)

/-- 'lampwrightlaw.HuffTurn': WHATEVER THE INPUT: true; the input reads as it did. -/
def huffTurnSpec : ChangeSpec := { name := "huffTurn", fn := fun _ => fun
  | [d] => { results := [.lit (.bool true)], args := [d] }
  | _ => none }
def huffTurnRow : OpenClaim := { program := "ytlmoidblglmdgaa", sum := "e978afae02f0e7eae74789fe1f566e5b1060e88cee5e09c71db2dcb0ecee3d85", func := "lampwright/lampwrightlaw.HuffTurn", spec := "huffTurn", unfollowed := true, recurses := true, apart := false }
def HuffTurnSaid : Prop := huffTurnRow.holds Try.pinned (OpenSpec.ofChange huffTurnSpec)

/-- ITS FALSE NEIGHBOUR: 'it returns false'. Refute it at one input. -/
def huffTurnWrong : ChangeSpec := { name := "huffTurn", fn := fun _ => fun
  | [d] => { results := [.lit (.bool false)], args := [d] }
  | _ => none }
def HuffTurnWrongFalsely : Prop := huffTurnRow.holds Try.pinned (OpenSpec.ofChange huffTurnWrong)

/-- 'lampwrightlaw.HuffMore': WHATEVER THE INPUT: true; the input reads as it did. -/
def huffMoreSpec : ChangeSpec := { name := "huffMore", fn := fun _ => fun
  | [d1, d2] => { results := [.lit (.bool true)], args := [d1, d2] }
  | _ => none }
def huffMoreRow : OpenClaim := { program := "ytlmoidblglmdgaa", sum := "e978afae02f0e7eae74789fe1f566e5b1060e88cee5e09c71db2dcb0ecee3d85", func := "lampwright/lampwrightlaw.HuffMore", spec := "huffMore", unfollowed := true, recurses := true, apart := false }
def HuffMoreSaid : Prop := huffMoreRow.holds Try.pinned (OpenSpec.ofChange huffMoreSpec)

/-- ITS FALSE NEIGHBOUR: 'it returns false'. Refute it at one input. -/
def huffMoreWrong : ChangeSpec := { name := "huffMore", fn := fun _ => fun
  | [d1, d2] => { results := [.lit (.bool false)], args := [d1, d2] }
  | _ => none }
def HuffMoreWrongFalsely : Prop := huffMoreRow.holds Try.pinned (OpenSpec.ofChange huffMoreWrong)

/- THE SECOND FORM. 'bulk': how many values and letters a reading holds, each counted each time it is reached (what is shared counts as often as it is met; a slice's spare places count too). A statement '..UptoSaid' is the law's where the arguments, and the package variables that the reading takes, are together of bulk at most 1048576: NARROWER than '..Said'. Prove '..Said' where nothing that the law and all that it calls make is longer than what came in: it says more and counts as full. Else prove '..UptoSaid'. A law counts once. -/
mutual
def uptoBulk {H : Type} : DataW H → Nat
  | .lit (.string bytes) => bytes.length + 1
  | .lit _ => 1
  | .nil => 1
  | .ptr d => uptoBulk d + 1
  | .slice elems spare => uptoBulkAll elems + uptoBulkAll spare + 1
  | .agg parts => uptoBulkAll parts + 1
  | .iface _ d => uptoBulk d + 1
  | .map entries => uptoBulkEntries entries + 1
  | .held _ => 1
def uptoBulkAll {H : Type} : List (DataW H) → Nat
  | [] => 0
  | d :: r => uptoBulk d + uptoBulkAll r
def uptoBulkEntries {H : Type} : List (Lit × DataW H) → Nat
  | [] => 0
  | x :: r => uptoBulkEntry x + uptoBulkEntries r
def uptoBulkEntry {H : Type} : Lit × DataW H → Nat
  | (.string bytes, d) => bytes.length + uptoBulk d + 1
  | (_, d) => uptoBulk d + 1
 end
def uptoSmall : (H : Type) → List (DataW H) → Bool := fun _ ds => decide (uptoBulkAll ds ≤ 1048576)
def OpenSpec.upto (s : _root_.Go.ChangeSpec) : _root_.Go.OpenSpec := { _root_.Go.OpenSpec.ofChange s with cond := some uptoSmall }

/-- 'lampwrightlaw.KraftTells', WHERE WHAT IT READS IS OF BULK AT MOST 1048576: true; the input reads as it did. -/
def kraftTellsUptoRow : OpenClaim := { program := "ytlmoidblglmdgaa", sum := "e978afae02f0e7eae74789fe1f566e5b1060e88cee5e09c71db2dcb0ecee3d85", func := "lampwright/lampwrightlaw.KraftTells", spec := "kraftTells", inPlace := ["internal/bytealg.Compare"], unfollowed := true, recurses := true, apart := false, narrowed := true }
def KraftTellsUptoSaid : Prop := kraftTellsUptoRow.holds Try.pinned (OpenSpec.upto kraftTellsSpec)

/-- 'lampwrightlaw.KraftCodes', WHERE WHAT IT READS IS OF BULK AT MOST 1048576: true; the input reads as it did. -/
def kraftCodesUptoRow : OpenClaim := { program := "ytlmoidblglmdgaa", sum := "e978afae02f0e7eae74789fe1f566e5b1060e88cee5e09c71db2dcb0ecee3d85", func := "lampwright/lampwrightlaw.KraftCodes", spec := "kraftCodes", inPlace := ["internal/bytealg.Compare"], unfollowed := true, recurses := true, apart := false, narrowed := true }
def KraftCodesUptoSaid : Prop := kraftCodesUptoRow.holds Try.pinned (OpenSpec.upto kraftCodesSpec)

/-- 'lampwrightlaw.KraftMust', WHERE WHAT IT READS IS OF BULK AT MOST 1048576: true; the input reads as it did. -/
def kraftMustUptoRow : OpenClaim := { program := "ytlmoidblglmdgaa", sum := "e978afae02f0e7eae74789fe1f566e5b1060e88cee5e09c71db2dcb0ecee3d85", func := "lampwright/lampwrightlaw.KraftMust", spec := "kraftMust", inPlace := ["internal/bytealg.Compare"], unfollowed := true, recurses := true, apart := false, narrowed := true }
def KraftMustUptoSaid : Prop := kraftMustUptoRow.holds Try.pinned (OpenSpec.upto kraftMustSpec)

/-- 'lampwrightlaw.KraftBack', WHERE WHAT IT READS IS OF BULK AT MOST 1048576: true; the input reads as it did. -/
def kraftBackUptoRow : OpenClaim := { program := "ytlmoidblglmdgaa", sum := "e978afae02f0e7eae74789fe1f566e5b1060e88cee5e09c71db2dcb0ecee3d85", func := "lampwright/lampwrightlaw.KraftBack", spec := "kraftBack", inPlace := ["internal/bytealg.Compare"], unfollowed := true, recurses := true, apart := false, narrowed := true }
def KraftBackUptoSaid : Prop := kraftBackUptoRow.holds Try.pinned (OpenSpec.upto kraftBackSpec)

/-- 'lampwrightlaw.KraftFull', WHERE WHAT IT READS IS OF BULK AT MOST 1048576: true; the input reads as it did. -/
def kraftFullUptoRow : OpenClaim := { program := "ytlmoidblglmdgaa", sum := "e978afae02f0e7eae74789fe1f566e5b1060e88cee5e09c71db2dcb0ecee3d85", func := "lampwright/lampwrightlaw.KraftFull", spec := "kraftFull", inPlace := ["internal/bytealg.Compare"], unfollowed := true, recurses := true, apart := false, narrowed := true }
def KraftFullUptoSaid : Prop := kraftFullUptoRow.holds Try.pinned (OpenSpec.upto kraftFullSpec)

/-- 'lampwrightlaw.KraftOrder', WHERE WHAT IT READS IS OF BULK AT MOST 1048576: true; the input reads as it did. -/
def kraftOrderUptoRow : OpenClaim := { program := "ytlmoidblglmdgaa", sum := "e978afae02f0e7eae74789fe1f566e5b1060e88cee5e09c71db2dcb0ecee3d85", func := "lampwright/lampwrightlaw.KraftOrder", spec := "kraftOrder", inPlace := ["internal/bytealg.Compare"], unfollowed := true, recurses := true, apart := false, narrowed := true }
def KraftOrderUptoSaid : Prop := kraftOrderUptoRow.holds Try.pinned (OpenSpec.upto kraftOrderSpec)

/-- 'lampwrightlaw.KraftTurn', WHERE WHAT IT READS IS OF BULK AT MOST 1048576: true; the input reads as it did. -/
def kraftTurnUptoRow : OpenClaim := { program := "ytlmoidblglmdgaa", sum := "e978afae02f0e7eae74789fe1f566e5b1060e88cee5e09c71db2dcb0ecee3d85", func := "lampwright/lampwrightlaw.KraftTurn", spec := "kraftTurn", inPlace := ["internal/bytealg.Compare"], unfollowed := true, recurses := true, apart := false, narrowed := true }
def KraftTurnUptoSaid : Prop := kraftTurnUptoRow.holds Try.pinned (OpenSpec.upto kraftTurnSpec)

/-- 'lampwrightlaw.HuffTells', WHERE WHAT IT READS IS OF BULK AT MOST 1048576: true; the input reads as it did. -/
def huffTellsUptoRow : OpenClaim := { program := "ytlmoidblglmdgaa", sum := "e978afae02f0e7eae74789fe1f566e5b1060e88cee5e09c71db2dcb0ecee3d85", func := "lampwright/lampwrightlaw.HuffTells", spec := "huffTells", unfollowed := true, recurses := true, apart := false, narrowed := true }
def HuffTellsUptoSaid : Prop := huffTellsUptoRow.holds Try.pinned (OpenSpec.upto huffTellsSpec)

/-- 'lampwrightlaw.HuffBack', WHERE WHAT IT READS IS OF BULK AT MOST 1048576: true; the input reads as it did. -/
def huffBackUptoRow : OpenClaim := { program := "ytlmoidblglmdgaa", sum := "e978afae02f0e7eae74789fe1f566e5b1060e88cee5e09c71db2dcb0ecee3d85", func := "lampwright/lampwrightlaw.HuffBack", spec := "huffBack", unfollowed := true, recurses := true, apart := false, narrowed := true }
def HuffBackUptoSaid : Prop := huffBackUptoRow.holds Try.pinned (OpenSpec.upto huffBackSpec)

/-- 'lampwrightlaw.HuffOften', WHERE WHAT IT READS IS OF BULK AT MOST 1048576: true; the input reads as it did. -/
def huffOftenUptoRow : OpenClaim := { program := "ytlmoidblglmdgaa", sum := "e978afae02f0e7eae74789fe1f566e5b1060e88cee5e09c71db2dcb0ecee3d85", func := "lampwright/lampwrightlaw.HuffOften", spec := "huffOften", unfollowed := true, recurses := true, apart := false, narrowed := true }
def HuffOftenUptoSaid : Prop := huffOftenUptoRow.holds Try.pinned (OpenSpec.upto huffOftenSpec)

/-- 'lampwrightlaw.HuffTimes', WHERE WHAT IT READS IS OF BULK AT MOST 1048576: true; the input reads as it did. -/
def huffTimesUptoRow : OpenClaim := { program := "ytlmoidblglmdgaa", sum := "e978afae02f0e7eae74789fe1f566e5b1060e88cee5e09c71db2dcb0ecee3d85", func := "lampwright/lampwrightlaw.HuffTimes", spec := "huffTimes", unfollowed := true, recurses := true, apart := false, narrowed := true }
def HuffTimesUptoSaid : Prop := huffTimesUptoRow.holds Try.pinned (OpenSpec.upto huffTimesSpec)

/-- 'lampwrightlaw.HuffFlat', WHERE WHAT IT READS IS OF BULK AT MOST 1048576: true; the input reads as it did. -/
def huffFlatUptoRow : OpenClaim := { program := "ytlmoidblglmdgaa", sum := "e978afae02f0e7eae74789fe1f566e5b1060e88cee5e09c71db2dcb0ecee3d85", func := "lampwright/lampwrightlaw.HuffFlat", spec := "huffFlat", unfollowed := true, recurses := true, apart := false, narrowed := true }
def HuffFlatUptoSaid : Prop := huffFlatUptoRow.holds Try.pinned (OpenSpec.upto huffFlatSpec)

/-- 'lampwrightlaw.HuffTurn', WHERE WHAT IT READS IS OF BULK AT MOST 1048576: true; the input reads as it did. -/
def huffTurnUptoRow : OpenClaim := { program := "ytlmoidblglmdgaa", sum := "e978afae02f0e7eae74789fe1f566e5b1060e88cee5e09c71db2dcb0ecee3d85", func := "lampwright/lampwrightlaw.HuffTurn", spec := "huffTurn", unfollowed := true, recurses := true, apart := false, narrowed := true }
def HuffTurnUptoSaid : Prop := huffTurnUptoRow.holds Try.pinned (OpenSpec.upto huffTurnSpec)

/-- 'lampwrightlaw.HuffMore', WHERE WHAT IT READS IS OF BULK AT MOST 1048576: true; the input reads as it did. -/
def huffMoreUptoRow : OpenClaim := { program := "ytlmoidblglmdgaa", sum := "e978afae02f0e7eae74789fe1f566e5b1060e88cee5e09c71db2dcb0ecee3d85", func := "lampwright/lampwrightlaw.HuffMore", spec := "huffMore", unfollowed := true, recurses := true, apart := false, narrowed := true }
def HuffMoreUptoSaid : Prop := huffMoreUptoRow.holds Try.pinned (OpenSpec.upto huffMoreSpec)

end Rows
end Go.Proofs.Ytlmoidblglmdgaa
