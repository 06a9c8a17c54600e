/-
  No cell of these rows narrows 'for every input' (looked for: loops, veiled, ifaces, maps, wideKeys, modest, calm, conditions, laid).
  DERIVED. THE GIVEN ROWS OF THIS SEAT. 9 by the template 'for every input the law returns true; each argument reads behind the call as it read before'; 0 by the template 'total and deterministic' (their statements: YtehombecoehojaaTotals.lean).
  GIVEN WITH THE SEED: the statements are not yours to turn. If you find one false, say at which input.
  Laid BY PROGRAM, IN A SANDBOX (cutbox-rows.mjs): the forced cells as the released guide's own fill.sh prints them over the translation 3221bb34ae566b5f… (all of the seat's roots in one cut). By AI agents, Wed Nov 11 2026. No macro, syntax, notation, axiom, sorry.
-/
import Derived.Test.YtehombecoehojaaChecked
import GoSem.Claim
import GoSem.ClaimJoined
import GoSem.ClaimMapViews
import Derived.JoinedTies
import Derived.KernelRfl
namespace Go.Proofs.Ytehombecoehojaa
/- THE CELL 'sum', in the pinned program and in every row, IS THE sha256 OF THE DUMP (.gsa) THAT YtehombecoehojaaProg.lean LOADS. Nothing in Lean hashes anything: it is a label: what it is worth is what the hold of that sum in a sandbox is worth. -/
noncomputable def Try.pinned : Pinned := { name := "ytehombecoehojaa", sum := "3221bb34ae566b5f89dfb8de66140d0cf83712971e07365387140aba8c95f116", checked := Try.checked }
namespace Rows
def none {H : Type} : Left H := { results := [], args := [] }

/-- 'lampwrightlaw.GraphTells': WHATEVER THE INPUT: true; the input reads as it did. -/
def graphTellsSpec : ChangeSpec := { name := "graphTells", fn := fun _ => fun
  | [d1, d2, d3] => { results := [.lit (.bool true)], args := [d1, d2, d3] }
  | _ => none }
def graphTellsRow : OpenClaim := { program := "ytehombecoehojaa", sum := "3221bb34ae566b5f89dfb8de66140d0cf83712971e07365387140aba8c95f116", func := "lampwright/lampwrightlaw.GraphTells", spec := "graphTells", unfollowed := true, recurses := true, plainKeys := false, apart := false }
def GraphTellsSaid : Prop := graphTellsRow.holds Try.pinned (OpenSpec.ofChange graphTellsSpec)

/-- ITS FALSE NEIGHBOUR: 'it returns false'. Refute it at one input. -/
def graphTellsWrong : ChangeSpec := { name := "graphTells", fn := fun _ => fun
  | [d1, d2, d3] => { results := [.lit (.bool false)], args := [d1, d2, d3] }
  | _ => none }
def GraphTellsWrongFalsely : Prop := graphTellsRow.holds Try.pinned (OpenSpec.ofChange graphTellsWrong)

/-- 'lampwrightlaw.GraphTurn': WHATEVER THE INPUT: true; the input reads as it did. -/
def graphTurnSpec : ChangeSpec := { name := "graphTurn", fn := fun _ => fun
  | [d] => { results := [.lit (.bool true)], args := [d] }
  | _ => none }
def graphTurnRow : OpenClaim := { program := "ytehombecoehojaa", sum := "3221bb34ae566b5f89dfb8de66140d0cf83712971e07365387140aba8c95f116", func := "lampwright/lampwrightlaw.GraphTurn", spec := "graphTurn", unfollowed := true, recurses := true, plainKeys := false, apart := false }
def GraphTurnSaid : Prop := graphTurnRow.holds Try.pinned (OpenSpec.ofChange graphTurnSpec)

/-- ITS FALSE NEIGHBOUR: 'it returns false'. Refute it at one input. -/
def graphTurnWrong : ChangeSpec := { name := "graphTurn", fn := fun _ => fun
  | [d] => { results := [.lit (.bool false)], args := [d] }
  | _ => none }
def GraphTurnWrongFalsely : Prop := graphTurnRow.holds Try.pinned (OpenSpec.ofChange graphTurnWrong)

/-- 'lampwrightlaw.WalkTells': WHATEVER THE INPUT: true; the input reads as it did. -/
def walkTellsSpec : ChangeSpec := { name := "walkTells", fn := fun _ => fun
  | [d1, d2, d3] => { results := [.lit (.bool true)], args := [d1, d2, d3] }
  | _ => none }
def walkTellsRow : OpenClaim := { program := "ytehombecoehojaa", sum := "3221bb34ae566b5f89dfb8de66140d0cf83712971e07365387140aba8c95f116", func := "lampwright/lampwrightlaw.WalkTells", spec := "walkTells", unfollowed := true, recurses := true, plainKeys := false, apart := false }
def WalkTellsSaid : Prop := walkTellsRow.holds Try.pinned (OpenSpec.ofChange walkTellsSpec)

/-- ITS FALSE NEIGHBOUR: 'it returns false'. Refute it at one input. -/
def walkTellsWrong : ChangeSpec := { name := "walkTells", fn := fun _ => fun
  | [d1, d2, d3] => { results := [.lit (.bool false)], args := [d1, d2, d3] }
  | _ => none }
def WalkTellsWrongFalsely : Prop := walkTellsRow.holds Try.pinned (OpenSpec.ofChange walkTellsWrong)

/-- 'lampwrightlaw.WalkWay': WHATEVER THE INPUT: true; the input reads as it did. -/
def walkWaySpec : ChangeSpec := { name := "walkWay", fn := fun _ => fun
  | [d1, d2, d3, d4] => { results := [.lit (.bool true)], args := [d1, d2, d3, d4] }
  | _ => none }
def walkWayRow : OpenClaim := { program := "ytehombecoehojaa", sum := "3221bb34ae566b5f89dfb8de66140d0cf83712971e07365387140aba8c95f116", func := "lampwright/lampwrightlaw.WalkWay", spec := "walkWay", unfollowed := true, recurses := true, plainKeys := false, apart := false }
def WalkWaySaid : Prop := walkWayRow.holds Try.pinned (OpenSpec.ofChange walkWaySpec)

/-- ITS FALSE NEIGHBOUR: 'it returns false'. Refute it at one input. -/
def walkWayWrong : ChangeSpec := { name := "walkWay", fn := fun _ => fun
  | [d1, d2, d3, d4] => { results := [.lit (.bool false)], args := [d1, d2, d3, d4] }
  | _ => none }
def WalkWayWrongFalsely : Prop := walkWayRow.holds Try.pinned (OpenSpec.ofChange walkWayWrong)

/-- 'lampwrightlaw.WalkThree': WHATEVER THE INPUT: true; the input reads as it did. -/
def walkThreeSpec : ChangeSpec := { name := "walkThree", fn := fun _ => fun
  | [d1, d2, d3, d4] => { results := [.lit (.bool true)], args := [d1, d2, d3, d4] }
  | _ => none }
def walkThreeRow : OpenClaim := { program := "ytehombecoehojaa", sum := "3221bb34ae566b5f89dfb8de66140d0cf83712971e07365387140aba8c95f116", func := "lampwright/lampwrightlaw.WalkThree", spec := "walkThree", unfollowed := true, recurses := true, plainKeys := false, apart := false }
def WalkThreeSaid : Prop := walkThreeRow.holds Try.pinned (OpenSpec.ofChange walkThreeSpec)

/-- ITS FALSE NEIGHBOUR: 'it returns false'. Refute it at one input. -/
def walkThreeWrong : ChangeSpec := { name := "walkThree", fn := fun _ => fun
  | [d1, d2, d3, d4] => { results := [.lit (.bool false)], args := [d1, d2, d3, d4] }
  | _ => none }
def WalkThreeWrongFalsely : Prop := walkThreeRow.holds Try.pinned (OpenSpec.ofChange walkThreeWrong)

/-- 'lampwrightlaw.WalkTurned': WHATEVER THE INPUT: true; the input reads as it did. -/
def walkTurnedSpec : ChangeSpec := { name := "walkTurned", fn := fun _ => fun
  | [d1, d2, d3] => { results := [.lit (.bool true)], args := [d1, d2, d3] }
  | _ => none }
def walkTurnedRow : OpenClaim := { program := "ytehombecoehojaa", sum := "3221bb34ae566b5f89dfb8de66140d0cf83712971e07365387140aba8c95f116", func := "lampwright/lampwrightlaw.WalkTurned", spec := "walkTurned", unfollowed := true, recurses := true, plainKeys := false, apart := false }
def WalkTurnedSaid : Prop := walkTurnedRow.holds Try.pinned (OpenSpec.ofChange walkTurnedSpec)

/-- ITS FALSE NEIGHBOUR: 'it returns false'. Refute it at one input. -/
def walkTurnedWrong : ChangeSpec := { name := "walkTurned", fn := fun _ => fun
  | [d1, d2, d3] => { results := [.lit (.bool false)], args := [d1, d2, d3] }
  | _ => none }
def WalkTurnedWrongFalsely : Prop := walkTurnedRow.holds Try.pinned (OpenSpec.ofChange walkTurnedWrong)

/-- 'lampwrightlaw.WalkParts': WHATEVER THE INPUT: true; the input reads as it did. -/
def walkPartsSpec : ChangeSpec := { name := "walkParts", fn := fun _ => fun
  | [d1, d2, d3] => { results := [.lit (.bool true)], args := [d1, d2, d3] }
  | _ => none }
def walkPartsRow : OpenClaim := { program := "ytehombecoehojaa", sum := "3221bb34ae566b5f89dfb8de66140d0cf83712971e07365387140aba8c95f116", func := "lampwright/lampwrightlaw.WalkParts", spec := "walkParts", unfollowed := true, recurses := true, plainKeys := false, apart := false }
def WalkPartsSaid : Prop := walkPartsRow.holds Try.pinned (OpenSpec.ofChange walkPartsSpec)

/-- ITS FALSE NEIGHBOUR: 'it returns false'. Refute it at one input. -/
def walkPartsWrong : ChangeSpec := { name := "walkParts", fn := fun _ => fun
  | [d1, d2, d3] => { results := [.lit (.bool false)], args := [d1, d2, d3] }
  | _ => none }
def WalkPartsWrongFalsely : Prop := walkPartsRow.holds Try.pinned (OpenSpec.ofChange walkPartsWrong)

/-- 'lampwrightlaw.WalkSteps': WHATEVER THE INPUT: true; the input reads as it did. -/
def walkStepsSpec : ChangeSpec := { name := "walkSteps", fn := fun _ => fun
  | [d1, d2] => { results := [.lit (.bool true)], args := [d1, d2] }
  | _ => none }
def walkStepsRow : OpenClaim := { program := "ytehombecoehojaa", sum := "3221bb34ae566b5f89dfb8de66140d0cf83712971e07365387140aba8c95f116", func := "lampwright/lampwrightlaw.WalkSteps", spec := "walkSteps", unfollowed := true, recurses := true, plainKeys := false, apart := false }
def WalkStepsSaid : Prop := walkStepsRow.holds Try.pinned (OpenSpec.ofChange walkStepsSpec)

/-- ITS FALSE NEIGHBOUR: 'it returns false'. Refute it at one input. -/
def walkStepsWrong : ChangeSpec := { name := "walkSteps", fn := fun _ => fun
  | [d1, d2] => { results := [.lit (.bool false)], args := [d1, d2] }
  | _ => none }
def WalkStepsWrongFalsely : Prop := walkStepsRow.holds Try.pinned (OpenSpec.ofChange walkStepsWrong)

/-- 'lampwrightlaw.WalkMost': WHATEVER THE INPUT: true; the input reads as it did. -/
def walkMostSpec : ChangeSpec := { name := "walkMost", fn := fun _ => fun
  | [d] => { results := [.lit (.bool true)], args := [d] }
  | _ => none }
def walkMostRow : OpenClaim := { program := "ytehombecoehojaa", sum := "3221bb34ae566b5f89dfb8de66140d0cf83712971e07365387140aba8c95f116", func := "lampwright/lampwrightlaw.WalkMost", spec := "walkMost", unfollowed := true, recurses := true, plainKeys := false, apart := false }
def WalkMostSaid : Prop := walkMostRow.holds Try.pinned (OpenSpec.ofChange walkMostSpec)

/-- ITS FALSE NEIGHBOUR: 'it returns false'. Refute it at one input. -/
def walkMostWrong : ChangeSpec := { name := "walkMost", fn := fun _ => fun
  | [d] => { results := [.lit (.bool false)], args := [d] }
  | _ => none }
def WalkMostWrongFalsely : Prop := walkMostRow.holds Try.pinned (OpenSpec.ofChange walkMostWrong)

/- THE SECOND FORM. 'bulk': how many values and letters a reading holds, each counted each time it is reached (what is shared counts as often as it is met; a slice's spare places count too). A statement '..UptoSaid' is the law's where the arguments, and the package variables that the reading takes, are together of bulk at most 1048576: NARROWER than '..Said'. Prove '..Said' where nothing that the law and all that it calls make is longer than what came in: it says more and counts as full. Else prove '..UptoSaid'. A law counts once. -/
mutual
def uptoBulk {H : Type} : DataW H → Nat
  | .lit (.string bytes) => bytes.length + 1
  | .lit _ => 1
  | .nil => 1
  | .ptr d => uptoBulk d + 1
  | .slice elems spare => uptoBulkAll elems + uptoBulkAll spare + 1
  | .agg parts => uptoBulkAll parts + 1
  | .iface _ d => uptoBulk d + 1
  | .map entries => uptoBulkEntries entries + 1
  | .held _ => 1
def uptoBulkAll {H : Type} : List (DataW H) → Nat
  | [] => 0
  | d :: r => uptoBulk d + uptoBulkAll r
def uptoBulkEntries {H : Type} : List (Lit × DataW H) → Nat
  | [] => 0
  | x :: r => uptoBulkEntry x + uptoBulkEntries r
def uptoBulkEntry {H : Type} : Lit × DataW H → Nat
  | (.string bytes, d) => bytes.length + uptoBulk d + 1
  | (_, d) => uptoBulk d + 1
 end
def uptoSmall : (H : Type) → List (DataW H) → Bool := fun _ ds => decide (uptoBulkAll ds ≤ 1048576)
def OpenSpec.upto (s : _root_.Go.ChangeSpec) : _root_.Go.OpenSpec := { _root_.Go.OpenSpec.ofChange s with cond := some uptoSmall }

/-- 'lampwrightlaw.GraphTells', WHERE WHAT IT READS IS OF BULK AT MOST 1048576: true; the input reads as it did. -/
def graphTellsUptoRow : OpenClaim := { program := "ytehombecoehojaa", sum := "3221bb34ae566b5f89dfb8de66140d0cf83712971e07365387140aba8c95f116", func := "lampwright/lampwrightlaw.GraphTells", spec := "graphTells", unfollowed := true, recurses := true, plainKeys := false, apart := false, narrowed := true }
def GraphTellsUptoSaid : Prop := graphTellsUptoRow.holds Try.pinned (OpenSpec.upto graphTellsSpec)

/-- 'lampwrightlaw.GraphTurn', WHERE WHAT IT READS IS OF BULK AT MOST 1048576: true; the input reads as it did. -/
def graphTurnUptoRow : OpenClaim := { program := "ytehombecoehojaa", sum := "3221bb34ae566b5f89dfb8de66140d0cf83712971e07365387140aba8c95f116", func := "lampwright/lampwrightlaw.GraphTurn", spec := "graphTurn", unfollowed := true, recurses := true, plainKeys := false, apart := false, narrowed := true }
def GraphTurnUptoSaid : Prop := graphTurnUptoRow.holds Try.pinned (OpenSpec.upto graphTurnSpec)

/-- 'lampwrightlaw.WalkTells', WHERE WHAT IT READS IS OF BULK AT MOST 1048576: true; the input reads as it did. -/
def walkTellsUptoRow : OpenClaim := { program := "ytehombecoehojaa", sum := "3221bb34ae566b5f89dfb8de66140d0cf83712971e07365387140aba8c95f116", func := "lampwright/lampwrightlaw.WalkTells", spec := "walkTells", unfollowed := true, recurses := true, plainKeys := false, apart := false, narrowed := true }
def WalkTellsUptoSaid : Prop := walkTellsUptoRow.holds Try.pinned (OpenSpec.upto walkTellsSpec)

/-- 'lampwrightlaw.WalkWay', WHERE WHAT IT READS IS OF BULK AT MOST 1048576: true; the input reads as it did. -/
def walkWayUptoRow : OpenClaim := { program := "ytehombecoehojaa", sum := "3221bb34ae566b5f89dfb8de66140d0cf83712971e07365387140aba8c95f116", func := "lampwright/lampwrightlaw.WalkWay", spec := "walkWay", unfollowed := true, recurses := true, plainKeys := false, apart := false, narrowed := true }
def WalkWayUptoSaid : Prop := walkWayUptoRow.holds Try.pinned (OpenSpec.upto walkWaySpec)

/-- 'lampwrightlaw.WalkThree', WHERE WHAT IT READS IS OF BULK AT MOST 1048576: true; the input reads as it did. -/
def walkThreeUptoRow : OpenClaim := { program := "ytehombecoehojaa", sum := "3221bb34ae566b5f89dfb8de66140d0cf83712971e07365387140aba8c95f116", func := "lampwright/lampwrightlaw.WalkThree", spec := "walkThree", unfollowed := true, recurses := true, plainKeys := false, apart := false, narrowed := true }
def WalkThreeUptoSaid : Prop := walkThreeUptoRow.holds Try.pinned (OpenSpec.upto walkThreeSpec)

/-- 'lampwrightlaw.WalkTurned', WHERE WHAT IT READS IS OF BULK AT MOST 1048576: true; the input reads as it did. -/
def walkTurnedUptoRow : OpenClaim := { program := "ytehombecoehojaa", sum := "3221bb34ae566b5f89dfb8de66140d0cf83712971e07365387140aba8c95f116", func := "lampwright/lampwrightlaw.WalkTurned", spec := "walkTurned", unfollowed := true, recurses := true, plainKeys := false, apart := false, narrowed := true }
def WalkTurnedUptoSaid : Prop := walkTurnedUptoRow.holds Try.pinned (OpenSpec.upto walkTurnedSpec)

/-- 'lampwrightlaw.WalkParts', WHERE WHAT IT READS IS OF BULK AT MOST 1048576: true; the input reads as it did. -/
def walkPartsUptoRow : OpenClaim := { program := "ytehombecoehojaa", sum := "3221bb34ae566b5f89dfb8de66140d0cf83712971e07365387140aba8c95f116", func := "lampwright/lampwrightlaw.WalkParts", spec := "walkParts", unfollowed := true, recurses := true, plainKeys := false, apart := false, narrowed := true }
def WalkPartsUptoSaid : Prop := walkPartsUptoRow.holds Try.pinned (OpenSpec.upto walkPartsSpec)

/-- 'lampwrightlaw.WalkSteps', WHERE WHAT IT READS IS OF BULK AT MOST 1048576: true; the input reads as it did. -/
def walkStepsUptoRow : OpenClaim := { program := "ytehombecoehojaa", sum := "3221bb34ae566b5f89dfb8de66140d0cf83712971e07365387140aba8c95f116", func := "lampwright/lampwrightlaw.WalkSteps", spec := "walkSteps", unfollowed := true, recurses := true, plainKeys := false, apart := false, narrowed := true }
def WalkStepsUptoSaid : Prop := walkStepsUptoRow.holds Try.pinned (OpenSpec.upto walkStepsSpec)

/-- 'lampwrightlaw.WalkMost', WHERE WHAT IT READS IS OF BULK AT MOST 1048576: true; the input reads as it did. -/
def walkMostUptoRow : OpenClaim := { program := "ytehombecoehojaa", sum := "3221bb34ae566b5f89dfb8de66140d0cf83712971e07365387140aba8c95f116", func := "lampwright/lampwrightlaw.WalkMost", spec := "walkMost", unfollowed := true, recurses := true, plainKeys := false, apart := false, narrowed := true }
def WalkMostUptoSaid : Prop := walkMostUptoRow.holds Try.pinned (OpenSpec.upto walkMostSpec)

end Rows
end Go.Proofs.Ytehombecoehojaa
