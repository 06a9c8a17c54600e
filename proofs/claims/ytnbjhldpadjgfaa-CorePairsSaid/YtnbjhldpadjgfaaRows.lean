/-
  No cell of these rows narrows 'for every input' (looked for: loops, veiled, ifaces, maps, wideKeys, modest, calm, conditions, laid).
  DERIVED. THE GIVEN ROWS OF THIS SEAT. 11 by the template 'for every input the law returns true; each argument reads behind the call as it read before'; 0 by the template 'total and deterministic' (their statements: YtnbjhldpadjgfaaTotals.lean).
  GIVEN WITH THE SEED: the statements are not yours to turn. If you find one false, say at which input.
  Laid BY PROGRAM, IN A SANDBOX (cutbox-rows.mjs): the forced cells as the released guide's own fill.sh prints them over the translation aa6d5fa882b08bb9… (all of the seat's roots in one cut). By AI agents, Wed Nov 11 2026. No macro, syntax, notation, axiom, sorry.
-/
import Derived.Test.YtnbjhldpadjgfaaChecked
import GoSem.Claim
import GoSem.ClaimJoined
import GoSem.ClaimMapViews
import Derived.JoinedTies
import Derived.KernelRfl
namespace Go.Proofs.Ytnbjhldpadjgfaa
/- THE CELL 'sum', in the pinned program and in every row, IS THE sha256 OF THE DUMP (.gsa) THAT YtnbjhldpadjgfaaProg.lean LOADS. Nothing in Lean hashes anything: it is a label: what it is worth is what the hold of that sum in a sandbox is worth. -/
noncomputable def Try.pinned : Pinned := { name := "ytnbjhldpadjgfaa", sum := "aa6d5fa882b08bb92bfdc4933b5b97a2606d56899bdaf79fd03129af69b5239e", checked := Try.checked }
namespace Rows
def none {H : Type} : Left H := { results := [], args := [] }

/-- 'lampwrightlaw.WalkThree': WHATEVER THE INPUT: true; the input reads as it did. -/
def walkThreeSpec : ChangeSpec := { name := "walkThree", fn := fun _ => fun
  | [d1, d2, d3, d4] => { results := [.lit (.bool true)], args := [d1, d2, d3, d4] }
  | _ => none }
def walkThreeRow : OpenClaim := { program := "ytnbjhldpadjgfaa", sum := "aa6d5fa882b08bb92bfdc4933b5b97a2606d56899bdaf79fd03129af69b5239e", func := "lampwright/lampwrightlaw.WalkThree", spec := "walkThree", unfollowed := true, recurses := true, plainKeys := false, apart := false }
def WalkThreeSaid : Prop := walkThreeRow.holds Try.pinned (OpenSpec.ofChange walkThreeSpec)

/-- ITS FALSE NEIGHBOUR: 'it returns false'. Refute it at one input. -/
def walkThreeWrong : ChangeSpec := { name := "walkThree", fn := fun _ => fun
  | [d1, d2, d3, d4] => { results := [.lit (.bool false)], args := [d1, d2, d3, d4] }
  | _ => none }
def WalkThreeWrongFalsely : Prop := walkThreeRow.holds Try.pinned (OpenSpec.ofChange walkThreeWrong)

/-- 'lampwrightlaw.WalkTurned': WHATEVER THE INPUT: true; the input reads as it did. -/
def walkTurnedSpec : ChangeSpec := { name := "walkTurned", fn := fun _ => fun
  | [d1, d2, d3] => { results := [.lit (.bool true)], args := [d1, d2, d3] }
  | _ => none }
def walkTurnedRow : OpenClaim := { program := "ytnbjhldpadjgfaa", sum := "aa6d5fa882b08bb92bfdc4933b5b97a2606d56899bdaf79fd03129af69b5239e", func := "lampwright/lampwrightlaw.WalkTurned", spec := "walkTurned", unfollowed := true, recurses := true, plainKeys := false, apart := false }
def WalkTurnedSaid : Prop := walkTurnedRow.holds Try.pinned (OpenSpec.ofChange walkTurnedSpec)

/-- ITS FALSE NEIGHBOUR: 'it returns false'. Refute it at one input. -/
def walkTurnedWrong : ChangeSpec := { name := "walkTurned", fn := fun _ => fun
  | [d1, d2, d3] => { results := [.lit (.bool false)], args := [d1, d2, d3] }
  | _ => none }
def WalkTurnedWrongFalsely : Prop := walkTurnedRow.holds Try.pinned (OpenSpec.ofChange walkTurnedWrong)

/-- 'lampwrightlaw.WalkSteps': WHATEVER THE INPUT: true; the input reads as it did. -/
def walkStepsSpec : ChangeSpec := { name := "walkSteps", fn := fun _ => fun
  | [d1, d2] => { results := [.lit (.bool true)], args := [d1, d2] }
  | _ => none }
def walkStepsRow : OpenClaim := { program := "ytnbjhldpadjgfaa", sum := "aa6d5fa882b08bb92bfdc4933b5b97a2606d56899bdaf79fd03129af69b5239e", func := "lampwright/lampwrightlaw.WalkSteps", spec := "walkSteps", unfollowed := true, recurses := true, plainKeys := false, apart := false }
def WalkStepsSaid : Prop := walkStepsRow.holds Try.pinned (OpenSpec.ofChange walkStepsSpec)

/-- ITS FALSE NEIGHBOUR: 'it returns false'. Refute it at one input. -/
def walkStepsWrong : ChangeSpec := { name := "walkSteps", fn := fun _ => fun
  | [d1, d2] => { results := [.lit (.bool false)], args := [d1, d2] }
  | _ => none }
def WalkStepsWrongFalsely : Prop := walkStepsRow.holds Try.pinned (OpenSpec.ofChange walkStepsWrong)

/-- 'lampwrightlaw.WalkMost': WHATEVER THE INPUT: true; the input reads as it did. -/
def walkMostSpec : ChangeSpec := { name := "walkMost", fn := fun _ => fun
  | [d] => { results := [.lit (.bool true)], args := [d] }
  | _ => none }
def walkMostRow : OpenClaim := { program := "ytnbjhldpadjgfaa", sum := "aa6d5fa882b08bb92bfdc4933b5b97a2606d56899bdaf79fd03129af69b5239e", func := "lampwright/lampwrightlaw.WalkMost", spec := "walkMost", unfollowed := true, recurses := true, plainKeys := false, apart := false }
def WalkMostSaid : Prop := walkMostRow.holds Try.pinned (OpenSpec.ofChange walkMostSpec)

/-- ITS FALSE NEIGHBOUR: 'it returns false'. Refute it at one input. -/
def walkMostWrong : ChangeSpec := { name := "walkMost", fn := fun _ => fun
  | [d] => { results := [.lit (.bool false)], args := [d] }
  | _ => none }
def WalkMostWrongFalsely : Prop := walkMostRow.holds Try.pinned (OpenSpec.ofChange walkMostWrong)

/-- 'lampwrightlaw.CoreTells': WHATEVER THE INPUT: true; the input reads as it did. -/
def coreTellsSpec : ChangeSpec := { name := "coreTells", fn := fun _ => fun
  | [d] => { results := [.lit (.bool true)], args := [d] }
  | _ => none }
def coreTellsRow : OpenClaim := { program := "ytnbjhldpadjgfaa", sum := "aa6d5fa882b08bb92bfdc4933b5b97a2606d56899bdaf79fd03129af69b5239e", func := "lampwright/lampwrightlaw.CoreTells", spec := "coreTells", unfollowed := true, recurses := true, plainKeys := false, apart := false }
def CoreTellsSaid : Prop := coreTellsRow.holds Try.pinned (OpenSpec.ofChange coreTellsSpec)

/-- ITS FALSE NEIGHBOUR: 'it returns false'. Refute it at one input. -/
def coreTellsWrong : ChangeSpec := { name := "coreTells", fn := fun _ => fun
  | [d] => { results := [.lit (.bool false)], args := [d] }
  | _ => none }
def CoreTellsWrongFalsely : Prop := coreTellsRow.holds Try.pinned (OpenSpec.ofChange coreTellsWrong)

/-- 'lampwrightlaw.CoreNumbers': WHATEVER THE INPUT: true; the input reads as it did. -/
def coreNumbersSpec : ChangeSpec := { name := "coreNumbers", fn := fun _ => fun
  | [d1, d2] => { results := [.lit (.bool true)], args := [d1, d2] }
  | _ => none }
def coreNumbersRow : OpenClaim := { program := "ytnbjhldpadjgfaa", sum := "aa6d5fa882b08bb92bfdc4933b5b97a2606d56899bdaf79fd03129af69b5239e", func := "lampwright/lampwrightlaw.CoreNumbers", spec := "coreNumbers", unfollowed := true, recurses := true, plainKeys := false, apart := false }
def CoreNumbersSaid : Prop := coreNumbersRow.holds Try.pinned (OpenSpec.ofChange coreNumbersSpec)

/-- ITS FALSE NEIGHBOUR: 'it returns false'. Refute it at one input. -/
def coreNumbersWrong : ChangeSpec := { name := "coreNumbers", fn := fun _ => fun
  | [d1, d2] => { results := [.lit (.bool false)], args := [d1, d2] }
  | _ => none }
def CoreNumbersWrongFalsely : Prop := coreNumbersRow.holds Try.pinned (OpenSpec.ofChange coreNumbersWrong)

/-- 'lampwrightlaw.CoreMore': WHATEVER THE INPUT: true; the input reads as it did. -/
def coreMoreSpec : ChangeSpec := { name := "coreMore", fn := fun _ => fun
  | [d1, d2] => { results := [.lit (.bool true)], args := [d1, d2] }
  | _ => none }
def coreMoreRow : OpenClaim := { program := "ytnbjhldpadjgfaa", sum := "aa6d5fa882b08bb92bfdc4933b5b97a2606d56899bdaf79fd03129af69b5239e", func := "lampwright/lampwrightlaw.CoreMore", spec := "coreMore", unfollowed := true, recurses := true, plainKeys := false, apart := false }
def CoreMoreSaid : Prop := coreMoreRow.holds Try.pinned (OpenSpec.ofChange coreMoreSpec)

/-- ITS FALSE NEIGHBOUR: 'it returns false'. Refute it at one input. -/
def coreMoreWrong : ChangeSpec := { name := "coreMore", fn := fun _ => fun
  | [d1, d2] => { results := [.lit (.bool false)], args := [d1, d2] }
  | _ => none }
def CoreMoreWrongFalsely : Prop := coreMoreRow.holds Try.pinned (OpenSpec.ofChange coreMoreWrong)

/-- 'lampwrightlaw.CoreThrees': WHATEVER THE INPUT: true; the input reads as it did. -/
def coreThreesSpec : ChangeSpec := { name := "coreThrees", fn := fun _ => fun
  | [d] => { results := [.lit (.bool true)], args := [d] }
  | _ => none }
def coreThreesRow : OpenClaim := { program := "ytnbjhldpadjgfaa", sum := "aa6d5fa882b08bb92bfdc4933b5b97a2606d56899bdaf79fd03129af69b5239e", func := "lampwright/lampwrightlaw.CoreThrees", spec := "coreThrees", unfollowed := true, recurses := true, plainKeys := false, apart := false }
def CoreThreesSaid : Prop := coreThreesRow.holds Try.pinned (OpenSpec.ofChange coreThreesSpec)

/-- ITS FALSE NEIGHBOUR: 'it returns false'. Refute it at one input. -/
def coreThreesWrong : ChangeSpec := { name := "coreThrees", fn := fun _ => fun
  | [d] => { results := [.lit (.bool false)], args := [d] }
  | _ => none }
def CoreThreesWrongFalsely : Prop := coreThreesRow.holds Try.pinned (OpenSpec.ofChange coreThreesWrong)

/-- 'lampwrightlaw.CorePairs': WHATEVER THE INPUT: true; the input reads as it did. -/
def corePairsSpec : ChangeSpec := { name := "corePairs", fn := fun _ => fun
  | [d1, d2] => { results := [.lit (.bool true)], args := [d1, d2] }
  | _ => none }
def corePairsRow : OpenClaim := { program := "ytnbjhldpadjgfaa", sum := "aa6d5fa882b08bb92bfdc4933b5b97a2606d56899bdaf79fd03129af69b5239e", func := "lampwright/lampwrightlaw.CorePairs", spec := "corePairs", unfollowed := true, recurses := true, plainKeys := false, apart := false }
def CorePairsSaid : Prop := corePairsRow.holds Try.pinned (OpenSpec.ofChange corePairsSpec)

/-- ITS FALSE NEIGHBOUR: 'it returns false'. Refute it at one input. -/
def corePairsWrong : ChangeSpec := { name := "corePairs", fn := fun _ => fun
  | [d1, d2] => { results := [.lit (.bool false)], args := [d1, d2] }
  | _ => none }
def CorePairsWrongFalsely : Prop := corePairsRow.holds Try.pinned (OpenSpec.ofChange corePairsWrong)

/-- 'lampwrightlaw.CoreBoth': WHATEVER THE INPUT: true; the input reads as it did. -/
def coreBothSpec : ChangeSpec := { name := "coreBoth", fn := fun _ => fun
  | [d] => { results := [.lit (.bool true)], args := [d] }
  | _ => none }
def coreBothRow : OpenClaim := { program := "ytnbjhldpadjgfaa", sum := "aa6d5fa882b08bb92bfdc4933b5b97a2606d56899bdaf79fd03129af69b5239e", func := "lampwright/lampwrightlaw.CoreBoth", spec := "coreBoth", unfollowed := true, recurses := true, plainKeys := false, apart := false }
def CoreBothSaid : Prop := coreBothRow.holds Try.pinned (OpenSpec.ofChange coreBothSpec)

/-- ITS FALSE NEIGHBOUR: 'it returns false'. Refute it at one input. -/
def coreBothWrong : ChangeSpec := { name := "coreBoth", fn := fun _ => fun
  | [d] => { results := [.lit (.bool false)], args := [d] }
  | _ => none }
def CoreBothWrongFalsely : Prop := coreBothRow.holds Try.pinned (OpenSpec.ofChange coreBothWrong)

/-- 'lampwrightlaw.CoreDegree': WHATEVER THE INPUT: true; the input reads as it did. -/
def coreDegreeSpec : ChangeSpec := { name := "coreDegree", fn := fun _ => fun
  | [d] => { results := [.lit (.bool true)], args := [d] }
  | _ => none }
def coreDegreeRow : OpenClaim := { program := "ytnbjhldpadjgfaa", sum := "aa6d5fa882b08bb92bfdc4933b5b97a2606d56899bdaf79fd03129af69b5239e", func := "lampwright/lampwrightlaw.CoreDegree", spec := "coreDegree", unfollowed := true, recurses := true, plainKeys := false, apart := false }
def CoreDegreeSaid : Prop := coreDegreeRow.holds Try.pinned (OpenSpec.ofChange coreDegreeSpec)

/-- ITS FALSE NEIGHBOUR: 'it returns false'. Refute it at one input. -/
def coreDegreeWrong : ChangeSpec := { name := "coreDegree", fn := fun _ => fun
  | [d] => { results := [.lit (.bool false)], args := [d] }
  | _ => none }
def CoreDegreeWrongFalsely : Prop := coreDegreeRow.holds Try.pinned (OpenSpec.ofChange coreDegreeWrong)

/- THE SECOND FORM. 'bulk': how many values and letters a reading holds, each counted each time it is reached (what is shared counts as often as it is met; a slice's spare places count too). A statement '..UptoSaid' is the law's where the arguments, and the package variables that the reading takes, are together of bulk at most 1048576: NARROWER than '..Said'. Prove '..Said' where nothing that the law and all that it calls make is longer than what came in: it says more and counts as full. Else prove '..UptoSaid'. A law counts once. -/
mutual
def uptoBulk {H : Type} : DataW H → Nat
  | .lit (.string bytes) => bytes.length + 1
  | .lit _ => 1
  | .nil => 1
  | .ptr d => uptoBulk d + 1
  | .slice elems spare => uptoBulkAll elems + uptoBulkAll spare + 1
  | .agg parts => uptoBulkAll parts + 1
  | .iface _ d => uptoBulk d + 1
  | .map entries => uptoBulkEntries entries + 1
  | .held _ => 1
def uptoBulkAll {H : Type} : List (DataW H) → Nat
  | [] => 0
  | d :: r => uptoBulk d + uptoBulkAll r
def uptoBulkEntries {H : Type} : List (Lit × DataW H) → Nat
  | [] => 0
  | x :: r => uptoBulkEntry x + uptoBulkEntries r
def uptoBulkEntry {H : Type} : Lit × DataW H → Nat
  | (.string bytes, d) => bytes.length + uptoBulk d + 1
  | (_, d) => uptoBulk d + 1
 end
def uptoSmall : (H : Type) → List (DataW H) → Bool := fun _ ds => decide (uptoBulkAll ds ≤ 1048576)
def OpenSpec.upto (s : _root_.Go.ChangeSpec) : _root_.Go.OpenSpec := { _root_.Go.OpenSpec.ofChange s with cond := some uptoSmall }

/-- 'lampwrightlaw.WalkThree', WHERE WHAT IT READS IS OF BULK AT MOST 1048576: true; the input reads as it did. -/
def walkThreeUptoRow : OpenClaim := { program := "ytnbjhldpadjgfaa", sum := "aa6d5fa882b08bb92bfdc4933b5b97a2606d56899bdaf79fd03129af69b5239e", func := "lampwright/lampwrightlaw.WalkThree", spec := "walkThree", unfollowed := true, recurses := true, plainKeys := false, apart := false, narrowed := true }
def WalkThreeUptoSaid : Prop := walkThreeUptoRow.holds Try.pinned (OpenSpec.upto walkThreeSpec)

/-- 'lampwrightlaw.WalkTurned', WHERE WHAT IT READS IS OF BULK AT MOST 1048576: true; the input reads as it did. -/
def walkTurnedUptoRow : OpenClaim := { program := "ytnbjhldpadjgfaa", sum := "aa6d5fa882b08bb92bfdc4933b5b97a2606d56899bdaf79fd03129af69b5239e", func := "lampwright/lampwrightlaw.WalkTurned", spec := "walkTurned", unfollowed := true, recurses := true, plainKeys := false, apart := false, narrowed := true }
def WalkTurnedUptoSaid : Prop := walkTurnedUptoRow.holds Try.pinned (OpenSpec.upto walkTurnedSpec)

/-- 'lampwrightlaw.WalkSteps', WHERE WHAT IT READS IS OF BULK AT MOST 1048576: true; the input reads as it did. -/
def walkStepsUptoRow : OpenClaim := { program := "ytnbjhldpadjgfaa", sum := "aa6d5fa882b08bb92bfdc4933b5b97a2606d56899bdaf79fd03129af69b5239e", func := "lampwright/lampwrightlaw.WalkSteps", spec := "walkSteps", unfollowed := true, recurses := true, plainKeys := false, apart := false, narrowed := true }
def WalkStepsUptoSaid : Prop := walkStepsUptoRow.holds Try.pinned (OpenSpec.upto walkStepsSpec)

/-- 'lampwrightlaw.WalkMost', WHERE WHAT IT READS IS OF BULK AT MOST 1048576: true; the input reads as it did. -/
def walkMostUptoRow : OpenClaim := { program := "ytnbjhldpadjgfaa", sum := "aa6d5fa882b08bb92bfdc4933b5b97a2606d56899bdaf79fd03129af69b5239e", func := "lampwright/lampwrightlaw.WalkMost", spec := "walkMost", unfollowed := true, recurses := true, plainKeys := false, apart := false, narrowed := true }
def WalkMostUptoSaid : Prop := walkMostUptoRow.holds Try.pinned (OpenSpec.upto walkMostSpec)

/-- 'lampwrightlaw.CoreTells', WHERE WHAT IT READS IS OF BULK AT MOST 1048576: true; the input reads as it did. -/
def coreTellsUptoRow : OpenClaim := { program := "ytnbjhldpadjgfaa", sum := "aa6d5fa882b08bb92bfdc4933b5b97a2606d56899bdaf79fd03129af69b5239e", func := "lampwright/lampwrightlaw.CoreTells", spec := "coreTells", unfollowed := true, recurses := true, plainKeys := false, apart := false, narrowed := true }
def CoreTellsUptoSaid : Prop := coreTellsUptoRow.holds Try.pinned (OpenSpec.upto coreTellsSpec)

/-- 'lampwrightlaw.CoreNumbers', WHERE WHAT IT READS IS OF BULK AT MOST 1048576: true; the input reads as it did. -/
def coreNumbersUptoRow : OpenClaim := { program := "ytnbjhldpadjgfaa", sum := "aa6d5fa882b08bb92bfdc4933b5b97a2606d56899bdaf79fd03129af69b5239e", func := "lampwright/lampwrightlaw.CoreNumbers", spec := "coreNumbers", unfollowed := true, recurses := true, plainKeys := false, apart := false, narrowed := true }
def CoreNumbersUptoSaid : Prop := coreNumbersUptoRow.holds Try.pinned (OpenSpec.upto coreNumbersSpec)

/-- 'lampwrightlaw.CoreMore', WHERE WHAT IT READS IS OF BULK AT MOST 1048576: true; the input reads as it did. -/
def coreMoreUptoRow : OpenClaim := { program := "ytnbjhldpadjgfaa", sum := "aa6d5fa882b08bb92bfdc4933b5b97a2606d56899bdaf79fd03129af69b5239e", func := "lampwright/lampwrightlaw.CoreMore", spec := "coreMore", unfollowed := true, recurses := true, plainKeys := false, apart := false, narrowed := true }
def CoreMoreUptoSaid : Prop := coreMoreUptoRow.holds Try.pinned (OpenSpec.upto coreMoreSpec)

/-- 'lampwrightlaw.CoreThrees', WHERE WHAT IT READS IS OF BULK AT MOST 1048576: true; the input reads as it did. -/
def coreThreesUptoRow : OpenClaim := { program := "ytnbjhldpadjgfaa", sum := "aa6d5fa882b08bb92bfdc4933b5b97a2606d56899bdaf79fd03129af69b5239e", func := "lampwright/lampwrightlaw.CoreThrees", spec := "coreThrees", unfollowed := true, recurses := true, plainKeys := false, apart := false, narrowed := true }
def CoreThreesUptoSaid : Prop := coreThreesUptoRow.holds Try.pinned (OpenSpec.upto coreThreesSpec)

/-- 'lampwrightlaw.CorePairs', WHERE WHAT IT READS IS OF BULK AT MOST 1048576: true; the input reads as it did. -/
def corePairsUptoRow : OpenClaim := { program := "ytnbjhldpadjgfaa", sum := "aa6d5fa882b08bb92bfdc4933b5b97a2606d56899bdaf79fd03129af69b5239e", func := "lampwright/lampwrightlaw.CorePairs", spec := "corePairs", unfollowed := true, recurses := true, plainKeys := false, apart := false, narrowed := true }
def CorePairsUptoSaid : Prop := corePairsUptoRow.holds Try.pinned (OpenSpec.upto corePairsSpec)

/-- 'lampwrightlaw.CoreBoth', WHERE WHAT IT READS IS OF BULK AT MOST 1048576: true; the input reads as it did. -/
def coreBothUptoRow : OpenClaim := { program := "ytnbjhldpadjgfaa", sum := "aa6d5fa882b08bb92bfdc4933b5b97a2606d56899bdaf79fd03129af69b5239e", func := "lampwright/lampwrightlaw.CoreBoth", spec := "coreBoth", unfollowed := true, recurses := true, plainKeys := false, apart := false, narrowed := true }
def CoreBothUptoSaid : Prop := coreBothUptoRow.holds Try.pinned (OpenSpec.upto coreBothSpec)

/-- 'lampwrightlaw.CoreDegree', WHERE WHAT IT READS IS OF BULK AT MOST 1048576: true; the input reads as it did. -/
def coreDegreeUptoRow : OpenClaim := { program := "ytnbjhldpadjgfaa", sum := "aa6d5fa882b08bb92bfdc4933b5b97a2606d56899bdaf79fd03129af69b5239e", func := "lampwright/lampwrightlaw.CoreDegree", spec := "coreDegree", unfollowed := true, recurses := true, plainKeys := false, apart := false, narrowed := true }
def CoreDegreeUptoSaid : Prop := coreDegreeUptoRow.holds Try.pinned (OpenSpec.upto coreDegreeSpec)

end Rows
end Go.Proofs.Ytnbjhldpadjgfaa
