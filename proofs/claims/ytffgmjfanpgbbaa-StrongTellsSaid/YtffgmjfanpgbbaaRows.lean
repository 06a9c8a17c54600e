/-
  No cell of these rows narrows 'for every input' (looked for: loops, veiled, ifaces, maps, wideKeys, modest, calm, conditions, laid).
  DERIVED. THE GIVEN ROWS OF THIS SEAT. 12 by the template 'for every input the law returns true; each argument reads behind the call as it read before'; 0 by the template 'total and deterministic' (their statements: YtffgmjfanpgbbaaTotals.lean).
  GIVEN WITH THE SEED: the statements are not yours to turn. If you find one false, say at which input.
  Laid BY PROGRAM, IN A SANDBOX (cutbox-rows.mjs): the forced cells as the released guide's own fill.sh prints them over the translation ff0b26e167f40c38… (all of the seat's roots in one cut). By AI agents, Wed Nov 11 2026. No macro, syntax, notation, axiom, sorry.
-/
import Derived.Test.YtffgmjfanpgbbaaChecked
import GoSem.Claim
import GoSem.ClaimJoined
import GoSem.ClaimMapViews
import Derived.JoinedTies
import Derived.KernelRfl
namespace Go.Proofs.Ytffgmjfanpgbbaa
/- THE CELL 'sum', in the pinned program and in every row, IS THE sha256 OF THE DUMP (.gsa) THAT YtffgmjfanpgbbaaProg.lean LOADS. Nothing in Lean hashes anything: it is a label: what it is worth is what the hold of that sum in a sandbox is worth. -/
noncomputable def Try.pinned : Pinned := { name := "ytffgmjfanpgbbaa", sum := "ff0b26e167f40c38a700e136af9e502861d0f2e1aadb740a546dff7a40a32f8c", checked := Try.checked }
namespace Rows
def none {H : Type} : Left H := { results := [], args := [] }

/-- 'lampwrightlaw.GraphTells': WHATEVER THE INPUT: true; the input reads as it did. -/
def graphTellsSpec : ChangeSpec := { name := "graphTells", fn := fun _ => fun
  | [d1, d2, d3] => { results := [.lit (.bool true)], args := [d1, d2, d3] }
  | _ => none }
def graphTellsRow : OpenClaim := { program := "ytffgmjfanpgbbaa", sum := "ff0b26e167f40c38a700e136af9e502861d0f2e1aadb740a546dff7a40a32f8c", func := "lampwright/lampwrightlaw.GraphTells", spec := "graphTells", unfollowed := true, recurses := true, plainKeys := false, apart := false }
def GraphTellsSaid : Prop := graphTellsRow.holds Try.pinned (OpenSpec.ofChange graphTellsSpec)

/-- ITS FALSE NEIGHBOUR: 'it returns false'. Refute it at one input. -/
def graphTellsWrong : ChangeSpec := { name := "graphTells", fn := fun _ => fun
  | [d1, d2, d3] => { results := [.lit (.bool false)], args := [d1, d2, d3] }
  | _ => none }
def GraphTellsWrongFalsely : Prop := graphTellsRow.holds Try.pinned (OpenSpec.ofChange graphTellsWrong)

/-- 'lampwrightlaw.WalkTells': WHATEVER THE INPUT: true; the input reads as it did. -/
def walkTellsSpec : ChangeSpec := { name := "walkTells", fn := fun _ => fun
  | [d1, d2, d3] => { results := [.lit (.bool true)], args := [d1, d2, d3] }
  | _ => none }
def walkTellsRow : OpenClaim := { program := "ytffgmjfanpgbbaa", sum := "ff0b26e167f40c38a700e136af9e502861d0f2e1aadb740a546dff7a40a32f8c", func := "lampwright/lampwrightlaw.WalkTells", spec := "walkTells", unfollowed := true, recurses := true, plainKeys := false, apart := false }
def WalkTellsSaid : Prop := walkTellsRow.holds Try.pinned (OpenSpec.ofChange walkTellsSpec)

/-- ITS FALSE NEIGHBOUR: 'it returns false'. Refute it at one input. -/
def walkTellsWrong : ChangeSpec := { name := "walkTells", fn := fun _ => fun
  | [d1, d2, d3] => { results := [.lit (.bool false)], args := [d1, d2, d3] }
  | _ => none }
def WalkTellsWrongFalsely : Prop := walkTellsRow.holds Try.pinned (OpenSpec.ofChange walkTellsWrong)

/-- 'lampwrightlaw.WalkWay': WHATEVER THE INPUT: true; the input reads as it did. -/
def walkWaySpec : ChangeSpec := { name := "walkWay", fn := fun _ => fun
  | [d1, d2, d3, d4] => { results := [.lit (.bool true)], args := [d1, d2, d3, d4] }
  | _ => none }
def walkWayRow : OpenClaim := { program := "ytffgmjfanpgbbaa", sum := "ff0b26e167f40c38a700e136af9e502861d0f2e1aadb740a546dff7a40a32f8c", func := "lampwright/lampwrightlaw.WalkWay", spec := "walkWay", unfollowed := true, recurses := true, plainKeys := false, apart := false }
def WalkWaySaid : Prop := walkWayRow.holds Try.pinned (OpenSpec.ofChange walkWaySpec)

/-- ITS FALSE NEIGHBOUR: 'it returns false'. Refute it at one input. -/
def walkWayWrong : ChangeSpec := { name := "walkWay", fn := fun _ => fun
  | [d1, d2, d3, d4] => { results := [.lit (.bool false)], args := [d1, d2, d3, d4] }
  | _ => none }
def WalkWayWrongFalsely : Prop := walkWayRow.holds Try.pinned (OpenSpec.ofChange walkWayWrong)

/-- 'lampwrightlaw.WalkParts': WHATEVER THE INPUT: true; the input reads as it did. -/
def walkPartsSpec : ChangeSpec := { name := "walkParts", fn := fun _ => fun
  | [d1, d2, d3] => { results := [.lit (.bool true)], args := [d1, d2, d3] }
  | _ => none }
def walkPartsRow : OpenClaim := { program := "ytffgmjfanpgbbaa", sum := "ff0b26e167f40c38a700e136af9e502861d0f2e1aadb740a546dff7a40a32f8c", func := "lampwright/lampwrightlaw.WalkParts", spec := "walkParts", unfollowed := true, recurses := true, plainKeys := false, apart := false }
def WalkPartsSaid : Prop := walkPartsRow.holds Try.pinned (OpenSpec.ofChange walkPartsSpec)

/-- ITS FALSE NEIGHBOUR: 'it returns false'. Refute it at one input. -/
def walkPartsWrong : ChangeSpec := { name := "walkParts", fn := fun _ => fun
  | [d1, d2, d3] => { results := [.lit (.bool false)], args := [d1, d2, d3] }
  | _ => none }
def WalkPartsWrongFalsely : Prop := walkPartsRow.holds Try.pinned (OpenSpec.ofChange walkPartsWrong)

/-- 'lampwrightlaw.StrongTells': WHATEVER THE INPUT: true; the input reads as it did. -/
def strongTellsSpec : ChangeSpec := { name := "strongTells", fn := fun _ => fun
  | [d] => { results := [.lit (.bool true)], args := [d] }
  | _ => none }
def strongTellsRow : OpenClaim := { program := "ytffgmjfanpgbbaa", sum := "ff0b26e167f40c38a700e136af9e502861d0f2e1aadb740a546dff7a40a32f8c", func := "lampwright/lampwrightlaw.StrongTells", spec := "strongTells", unfollowed := true, recurses := true, plainKeys := false, apart := false }
def StrongTellsSaid : Prop := strongTellsRow.holds Try.pinned (OpenSpec.ofChange strongTellsSpec)

/-- ITS FALSE NEIGHBOUR: 'it returns false'. Refute it at one input. -/
def strongTellsWrong : ChangeSpec := { name := "strongTells", fn := fun _ => fun
  | [d] => { results := [.lit (.bool false)], args := [d] }
  | _ => none }
def StrongTellsWrongFalsely : Prop := strongTellsRow.holds Try.pinned (OpenSpec.ofChange strongTellsWrong)

/-- 'lampwrightlaw.StrongParts': WHATEVER THE INPUT: true; the input reads as it did. -/
def strongPartsSpec : ChangeSpec := { name := "strongParts", fn := fun _ => fun
  | [d1, d2, d3] => { results := [.lit (.bool true)], args := [d1, d2, d3] }
  | _ => none }
def strongPartsRow : OpenClaim := { program := "ytffgmjfanpgbbaa", sum := "ff0b26e167f40c38a700e136af9e502861d0f2e1aadb740a546dff7a40a32f8c", func := "lampwright/lampwrightlaw.StrongParts", spec := "strongParts", unfollowed := true, recurses := true, plainKeys := false, apart := false }
def StrongPartsSaid : Prop := strongPartsRow.holds Try.pinned (OpenSpec.ofChange strongPartsSpec)

/-- ITS FALSE NEIGHBOUR: 'it returns false'. Refute it at one input. -/
def strongPartsWrong : ChangeSpec := { name := "strongParts", fn := fun _ => fun
  | [d1, d2, d3] => { results := [.lit (.bool false)], args := [d1, d2, d3] }
  | _ => none }
def StrongPartsWrongFalsely : Prop := strongPartsRow.holds Try.pinned (OpenSpec.ofChange strongPartsWrong)

/-- 'lampwrightlaw.StrongOrder': WHATEVER THE INPUT: true; the input reads as it did. -/
def strongOrderSpec : ChangeSpec := { name := "strongOrder", fn := fun _ => fun
  | [d1, d2] => { results := [.lit (.bool true)], args := [d1, d2] }
  | _ => none }
def strongOrderRow : OpenClaim := { program := "ytffgmjfanpgbbaa", sum := "ff0b26e167f40c38a700e136af9e502861d0f2e1aadb740a546dff7a40a32f8c", func := "lampwright/lampwrightlaw.StrongOrder", spec := "strongOrder", unfollowed := true, recurses := true, plainKeys := false, apart := false }
def StrongOrderSaid : Prop := strongOrderRow.holds Try.pinned (OpenSpec.ofChange strongOrderSpec)

/-- ITS FALSE NEIGHBOUR: 'it returns false'. Refute it at one input. -/
def strongOrderWrong : ChangeSpec := { name := "strongOrder", fn := fun _ => fun
  | [d1, d2] => { results := [.lit (.bool false)], args := [d1, d2] }
  | _ => none }
def StrongOrderWrongFalsely : Prop := strongOrderRow.holds Try.pinned (OpenSpec.ofChange strongOrderWrong)

/-- 'lampwrightlaw.StrongShrink': WHATEVER THE INPUT: true; the input reads as it did. -/
def strongShrinkSpec : ChangeSpec := { name := "strongShrink", fn := fun _ => fun
  | [d] => { results := [.lit (.bool true)], args := [d] }
  | _ => none }
def strongShrinkRow : OpenClaim := { program := "ytffgmjfanpgbbaa", sum := "ff0b26e167f40c38a700e136af9e502861d0f2e1aadb740a546dff7a40a32f8c", func := "lampwright/lampwrightlaw.StrongShrink", spec := "strongShrink", unfollowed := true, recurses := true, plainKeys := false, apart := false }
def StrongShrinkSaid : Prop := strongShrinkRow.holds Try.pinned (OpenSpec.ofChange strongShrinkSpec)

/-- ITS FALSE NEIGHBOUR: 'it returns false'. Refute it at one input. -/
def strongShrinkWrong : ChangeSpec := { name := "strongShrink", fn := fun _ => fun
  | [d] => { results := [.lit (.bool false)], args := [d] }
  | _ => none }
def StrongShrinkWrongFalsely : Prop := strongShrinkRow.holds Try.pinned (OpenSpec.ofChange strongShrinkWrong)

/-- 'lampwrightlaw.StrongWays': WHATEVER THE INPUT: true; the input reads as it did. -/
def strongWaysSpec : ChangeSpec := { name := "strongWays", fn := fun _ => fun
  | [d1, d2, d3] => { results := [.lit (.bool true)], args := [d1, d2, d3] }
  | _ => none }
def strongWaysRow : OpenClaim := { program := "ytffgmjfanpgbbaa", sum := "ff0b26e167f40c38a700e136af9e502861d0f2e1aadb740a546dff7a40a32f8c", func := "lampwright/lampwrightlaw.StrongWays", spec := "strongWays", unfollowed := true, recurses := true, plainKeys := false, apart := false }
def StrongWaysSaid : Prop := strongWaysRow.holds Try.pinned (OpenSpec.ofChange strongWaysSpec)

/-- ITS FALSE NEIGHBOUR: 'it returns false'. Refute it at one input. -/
def strongWaysWrong : ChangeSpec := { name := "strongWays", fn := fun _ => fun
  | [d1, d2, d3] => { results := [.lit (.bool false)], args := [d1, d2, d3] }
  | _ => none }
def StrongWaysWrongFalsely : Prop := strongWaysRow.holds Try.pinned (OpenSpec.ofChange strongWaysWrong)

/-- 'lampwrightlaw.StrongTurned': WHATEVER THE INPUT: true; the input reads as it did. -/
def strongTurnedSpec : ChangeSpec := { name := "strongTurned", fn := fun _ => fun
  | [d] => { results := [.lit (.bool true)], args := [d] }
  | _ => none }
def strongTurnedRow : OpenClaim := { program := "ytffgmjfanpgbbaa", sum := "ff0b26e167f40c38a700e136af9e502861d0f2e1aadb740a546dff7a40a32f8c", func := "lampwright/lampwrightlaw.StrongTurned", spec := "strongTurned", unfollowed := true, recurses := true, plainKeys := false, apart := false }
def StrongTurnedSaid : Prop := strongTurnedRow.holds Try.pinned (OpenSpec.ofChange strongTurnedSpec)

/-- ITS FALSE NEIGHBOUR: 'it returns false'. Refute it at one input. -/
def strongTurnedWrong : ChangeSpec := { name := "strongTurned", fn := fun _ => fun
  | [d] => { results := [.lit (.bool false)], args := [d] }
  | _ => none }
def StrongTurnedWrongFalsely : Prop := strongTurnedRow.holds Try.pinned (OpenSpec.ofChange strongTurnedWrong)

/-- 'lampwrightlaw.StrongMore': WHATEVER THE INPUT: true; the input reads as it did. -/
def strongMoreSpec : ChangeSpec := { name := "strongMore", fn := fun _ => fun
  | [d1, d2, d3] => { results := [.lit (.bool true)], args := [d1, d2, d3] }
  | _ => none }
def strongMoreRow : OpenClaim := { program := "ytffgmjfanpgbbaa", sum := "ff0b26e167f40c38a700e136af9e502861d0f2e1aadb740a546dff7a40a32f8c", func := "lampwright/lampwrightlaw.StrongMore", spec := "strongMore", unfollowed := true, recurses := true, plainKeys := false, apart := false }
def StrongMoreSaid : Prop := strongMoreRow.holds Try.pinned (OpenSpec.ofChange strongMoreSpec)

/-- ITS FALSE NEIGHBOUR: 'it returns false'. Refute it at one input. -/
def strongMoreWrong : ChangeSpec := { name := "strongMore", fn := fun _ => fun
  | [d1, d2, d3] => { results := [.lit (.bool false)], args := [d1, d2, d3] }
  | _ => none }
def StrongMoreWrongFalsely : Prop := strongMoreRow.holds Try.pinned (OpenSpec.ofChange strongMoreWrong)

/-- 'lampwrightlaw.StrongBack': WHATEVER THE INPUT: true; the input reads as it did. -/
def strongBackSpec : ChangeSpec := { name := "strongBack", fn := fun _ => fun
  | [d1, d2] => { results := [.lit (.bool true)], args := [d1, d2] }
  | _ => none }
def strongBackRow : OpenClaim := { program := "ytffgmjfanpgbbaa", sum := "ff0b26e167f40c38a700e136af9e502861d0f2e1aadb740a546dff7a40a32f8c", func := "lampwright/lampwrightlaw.StrongBack", spec := "strongBack", unfollowed := true, recurses := true, plainKeys := false, apart := false }
def StrongBackSaid : Prop := strongBackRow.holds Try.pinned (OpenSpec.ofChange strongBackSpec)

/-- ITS FALSE NEIGHBOUR: 'it returns false'. Refute it at one input. -/
def strongBackWrong : ChangeSpec := { name := "strongBack", fn := fun _ => fun
  | [d1, d2] => { results := [.lit (.bool false)], args := [d1, d2] }
  | _ => none }
def StrongBackWrongFalsely : Prop := strongBackRow.holds Try.pinned (OpenSpec.ofChange strongBackWrong)

/- THE SECOND FORM. 'bulk': how many values and letters a reading holds, each counted each time it is reached (what is shared counts as often as it is met; a slice's spare places count too). A statement '..UptoSaid' is the law's where the arguments, and the package variables that the reading takes, are together of bulk at most 1048576: NARROWER than '..Said'. Prove '..Said' where nothing that the law and all that it calls make is longer than what came in: it says more and counts as full. Else prove '..UptoSaid'. A law counts once. -/
mutual
def uptoBulk {H : Type} : DataW H → Nat
  | .lit (.string bytes) => bytes.length + 1
  | .lit _ => 1
  | .nil => 1
  | .ptr d => uptoBulk d + 1
  | .slice elems spare => uptoBulkAll elems + uptoBulkAll spare + 1
  | .agg parts => uptoBulkAll parts + 1
  | .iface _ d => uptoBulk d + 1
  | .map entries => uptoBulkEntries entries + 1
  | .held _ => 1
def uptoBulkAll {H : Type} : List (DataW H) → Nat
  | [] => 0
  | d :: r => uptoBulk d + uptoBulkAll r
def uptoBulkEntries {H : Type} : List (Lit × DataW H) → Nat
  | [] => 0
  | x :: r => uptoBulkEntry x + uptoBulkEntries r
def uptoBulkEntry {H : Type} : Lit × DataW H → Nat
  | (.string bytes, d) => bytes.length + uptoBulk d + 1
  | (_, d) => uptoBulk d + 1
 end
def uptoSmall : (H : Type) → List (DataW H) → Bool := fun _ ds => decide (uptoBulkAll ds ≤ 1048576)
def OpenSpec.upto (s : _root_.Go.ChangeSpec) : _root_.Go.OpenSpec := { _root_.Go.OpenSpec.ofChange s with cond := some uptoSmall }

/-- 'lampwrightlaw.GraphTells', WHERE WHAT IT READS IS OF BULK AT MOST 1048576: true; the input reads as it did. -/
def graphTellsUptoRow : OpenClaim := { program := "ytffgmjfanpgbbaa", sum := "ff0b26e167f40c38a700e136af9e502861d0f2e1aadb740a546dff7a40a32f8c", func := "lampwright/lampwrightlaw.GraphTells", spec := "graphTells", unfollowed := true, recurses := true, plainKeys := false, apart := false, narrowed := true }
def GraphTellsUptoSaid : Prop := graphTellsUptoRow.holds Try.pinned (OpenSpec.upto graphTellsSpec)

/-- 'lampwrightlaw.WalkTells', WHERE WHAT IT READS IS OF BULK AT MOST 1048576: true; the input reads as it did. -/
def walkTellsUptoRow : OpenClaim := { program := "ytffgmjfanpgbbaa", sum := "ff0b26e167f40c38a700e136af9e502861d0f2e1aadb740a546dff7a40a32f8c", func := "lampwright/lampwrightlaw.WalkTells", spec := "walkTells", unfollowed := true, recurses := true, plainKeys := false, apart := false, narrowed := true }
def WalkTellsUptoSaid : Prop := walkTellsUptoRow.holds Try.pinned (OpenSpec.upto walkTellsSpec)

/-- 'lampwrightlaw.WalkWay', WHERE WHAT IT READS IS OF BULK AT MOST 1048576: true; the input reads as it did. -/
def walkWayUptoRow : OpenClaim := { program := "ytffgmjfanpgbbaa", sum := "ff0b26e167f40c38a700e136af9e502861d0f2e1aadb740a546dff7a40a32f8c", func := "lampwright/lampwrightlaw.WalkWay", spec := "walkWay", unfollowed := true, recurses := true, plainKeys := false, apart := false, narrowed := true }
def WalkWayUptoSaid : Prop := walkWayUptoRow.holds Try.pinned (OpenSpec.upto walkWaySpec)

/-- 'lampwrightlaw.WalkParts', WHERE WHAT IT READS IS OF BULK AT MOST 1048576: true; the input reads as it did. -/
def walkPartsUptoRow : OpenClaim := { program := "ytffgmjfanpgbbaa", sum := "ff0b26e167f40c38a700e136af9e502861d0f2e1aadb740a546dff7a40a32f8c", func := "lampwright/lampwrightlaw.WalkParts", spec := "walkParts", unfollowed := true, recurses := true, plainKeys := false, apart := false, narrowed := true }
def WalkPartsUptoSaid : Prop := walkPartsUptoRow.holds Try.pinned (OpenSpec.upto walkPartsSpec)

/-- 'lampwrightlaw.StrongTells', WHERE WHAT IT READS IS OF BULK AT MOST 1048576: true; the input reads as it did. -/
def strongTellsUptoRow : OpenClaim := { program := "ytffgmjfanpgbbaa", sum := "ff0b26e167f40c38a700e136af9e502861d0f2e1aadb740a546dff7a40a32f8c", func := "lampwright/lampwrightlaw.StrongTells", spec := "strongTells", unfollowed := true, recurses := true, plainKeys := false, apart := false, narrowed := true }
def StrongTellsUptoSaid : Prop := strongTellsUptoRow.holds Try.pinned (OpenSpec.upto strongTellsSpec)

/-- 'lampwrightlaw.StrongParts', WHERE WHAT IT READS IS OF BULK AT MOST 1048576: true; the input reads as it did. -/
def strongPartsUptoRow : OpenClaim := { program := "ytffgmjfanpgbbaa", sum := "ff0b26e167f40c38a700e136af9e502861d0f2e1aadb740a546dff7a40a32f8c", func := "lampwright/lampwrightlaw.StrongParts", spec := "strongParts", unfollowed := true, recurses := true, plainKeys := false, apart := false, narrowed := true }
def StrongPartsUptoSaid : Prop := strongPartsUptoRow.holds Try.pinned (OpenSpec.upto strongPartsSpec)

/-- 'lampwrightlaw.StrongOrder', WHERE WHAT IT READS IS OF BULK AT MOST 1048576: true; the input reads as it did. -/
def strongOrderUptoRow : OpenClaim := { program := "ytffgmjfanpgbbaa", sum := "ff0b26e167f40c38a700e136af9e502861d0f2e1aadb740a546dff7a40a32f8c", func := "lampwright/lampwrightlaw.StrongOrder", spec := "strongOrder", unfollowed := true, recurses := true, plainKeys := false, apart := false, narrowed := true }
def StrongOrderUptoSaid : Prop := strongOrderUptoRow.holds Try.pinned (OpenSpec.upto strongOrderSpec)

/-- 'lampwrightlaw.StrongShrink', WHERE WHAT IT READS IS OF BULK AT MOST 1048576: true; the input reads as it did. -/
def strongShrinkUptoRow : OpenClaim := { program := "ytffgmjfanpgbbaa", sum := "ff0b26e167f40c38a700e136af9e502861d0f2e1aadb740a546dff7a40a32f8c", func := "lampwright/lampwrightlaw.StrongShrink", spec := "strongShrink", unfollowed := true, recurses := true, plainKeys := false, apart := false, narrowed := true }
def StrongShrinkUptoSaid : Prop := strongShrinkUptoRow.holds Try.pinned (OpenSpec.upto strongShrinkSpec)

/-- 'lampwrightlaw.StrongWays', WHERE WHAT IT READS IS OF BULK AT MOST 1048576: true; the input reads as it did. -/
def strongWaysUptoRow : OpenClaim := { program := "ytffgmjfanpgbbaa", sum := "ff0b26e167f40c38a700e136af9e502861d0f2e1aadb740a546dff7a40a32f8c", func := "lampwright/lampwrightlaw.StrongWays", spec := "strongWays", unfollowed := true, recurses := true, plainKeys := false, apart := false, narrowed := true }
def StrongWaysUptoSaid : Prop := strongWaysUptoRow.holds Try.pinned (OpenSpec.upto strongWaysSpec)

/-- 'lampwrightlaw.StrongTurned', WHERE WHAT IT READS IS OF BULK AT MOST 1048576: true; the input reads as it did. -/
def strongTurnedUptoRow : OpenClaim := { program := "ytffgmjfanpgbbaa", sum := "ff0b26e167f40c38a700e136af9e502861d0f2e1aadb740a546dff7a40a32f8c", func := "lampwright/lampwrightlaw.StrongTurned", spec := "strongTurned", unfollowed := true, recurses := true, plainKeys := false, apart := false, narrowed := true }
def StrongTurnedUptoSaid : Prop := strongTurnedUptoRow.holds Try.pinned (OpenSpec.upto strongTurnedSpec)

/-- 'lampwrightlaw.StrongMore', WHERE WHAT IT READS IS OF BULK AT MOST 1048576: true; the input reads as it did. -/
def strongMoreUptoRow : OpenClaim := { program := "ytffgmjfanpgbbaa", sum := "ff0b26e167f40c38a700e136af9e502861d0f2e1aadb740a546dff7a40a32f8c", func := "lampwright/lampwrightlaw.StrongMore", spec := "strongMore", unfollowed := true, recurses := true, plainKeys := false, apart := false, narrowed := true }
def StrongMoreUptoSaid : Prop := strongMoreUptoRow.holds Try.pinned (OpenSpec.upto strongMoreSpec)

/-- 'lampwrightlaw.StrongBack', WHERE WHAT IT READS IS OF BULK AT MOST 1048576: true; the input reads as it did. -/
def strongBackUptoRow : OpenClaim := { program := "ytffgmjfanpgbbaa", sum := "ff0b26e167f40c38a700e136af9e502861d0f2e1aadb740a546dff7a40a32f8c", func := "lampwright/lampwrightlaw.StrongBack", spec := "strongBack", unfollowed := true, recurses := true, plainKeys := false, apart := false, narrowed := true }
def StrongBackUptoSaid : Prop := strongBackUptoRow.holds Try.pinned (OpenSpec.upto strongBackSpec)

end Rows
end Go.Proofs.Ytffgmjfanpgbbaa
