/-
  No cell of these rows narrows 'for every input' (looked for: loops, veiled, ifaces, maps, wideKeys, modest, calm, conditions, laid).
  DERIVED. THE GIVEN ROWS OF THIS SEAT. 13 by the template 'for every input the law returns true; each argument reads behind the call as it read before'; 0 by the template 'total and deterministic' (their statements: YtndiocehkdbjkaaTotals.lean).
  GIVEN WITH THE SEED: the statements are not yours to turn. If you find one false, say at which input.
  Laid BY PROGRAM, IN A SANDBOX (cutbox-rows.mjs): the forced cells as the released guide's own fill.sh prints them over the translation b39a60edf1bd86a5… (all of the seat's roots in one cut). By AI agents, Wed Nov 11 2026. No macro, syntax, notation, axiom, sorry.
-/
import Derived.Test.YtndiocehkdbjkaaChecked
import GoSem.Claim
import GoSem.ClaimJoined
import GoSem.ClaimMapViews
import Derived.JoinedTies
import Derived.KernelRfl
namespace Go.Proofs.Ytndiocehkdbjkaa
/- THE CELL 'sum', in the pinned program and in every row, IS THE sha256 OF THE DUMP (.gsa) THAT YtndiocehkdbjkaaProg.lean LOADS. Nothing in Lean hashes anything: it is a label: what it is worth is what the hold of that sum in a sandbox is worth. -/
noncomputable def Try.pinned : Pinned := { name := "ytndiocehkdbjkaa", sum := "b39a60edf1bd86a5e87cd364febc6247a7b3cf5e8c24f6e92465d51d3b8de090", checked := Try.checked }
namespace Rows
def none {H : Type} : Left H := { results := [], args := [] }

/-- 'lampwrightlaw.HuffTells': WHATEVER THE INPUT: true; the input reads as it did. -/
def huffTellsSpec : ChangeSpec := { name := "huffTells", fn := fun _ => fun
  | [d1, d2, d3, d4, d5, d6] => { results := [.lit (.bool true)], args := [d1, d2, d3, d4, d5, d6] }
  | _ => none }
def huffTellsRow : OpenClaim := { program := "ytndiocehkdbjkaa", sum := "b39a60edf1bd86a5e87cd364febc6247a7b3cf5e8c24f6e92465d51d3b8de090", func := "lampwright/lampwrightlaw.HuffTells", spec := "huffTells", unfollowed := true, recurses := true, plainKeys := false, apart := false }
def HuffTellsSaid : Prop := huffTellsRow.holds Try.pinned (OpenSpec.ofChange huffTellsSpec)

/-- ITS FALSE NEIGHBOUR: 'it returns false'. Refute it at one input. -/
def huffTellsWrong : ChangeSpec := { name := "huffTells", fn := fun _ => fun
  | [d1, d2, d3, d4, d5, d6] => { results := [.lit (.bool false)], args := [d1, d2, d3, d4, d5, d6] }
  | _ => none }
def HuffTellsWrongFalsely : Prop := huffTellsRow.holds Try.pinned (OpenSpec.ofChange huffTellsWrong)

/-- 'lampwrightlaw.HuffBack': WHATEVER THE INPUT: true; the input reads as it did. -/
def huffBackSpec : ChangeSpec := { name := "huffBack", fn := fun _ => fun
  | [d1, d2] => { results := [.lit (.bool true)], args := [d1, d2] }
  | _ => none }
def huffBackRow : OpenClaim := { program := "ytndiocehkdbjkaa", sum := "b39a60edf1bd86a5e87cd364febc6247a7b3cf5e8c24f6e92465d51d3b8de090", func := "lampwright/lampwrightlaw.HuffBack", spec := "huffBack", unfollowed := true, recurses := true, plainKeys := false, apart := false }
def HuffBackSaid : Prop := huffBackRow.holds Try.pinned (OpenSpec.ofChange huffBackSpec)

/-- ITS FALSE NEIGHBOUR: 'it returns false'. Refute it at one input. -/
def huffBackWrong : ChangeSpec := { name := "huffBack", fn := fun _ => fun
  | [d1, d2] => { results := [.lit (.bool false)], args := [d1, d2] }
  | _ => none }
def HuffBackWrongFalsely : Prop := huffBackRow.holds Try.pinned (OpenSpec.ofChange huffBackWrong)

/-- 'lampwrightlaw.HuffOften': WHATEVER THE INPUT: true; the input reads as it did. -/
def huffOftenSpec : ChangeSpec := { name := "huffOften", fn := fun _ => fun
  | [d1, d2, d3] => { results := [.lit (.bool true)], args := [d1, d2, d3] }
  | _ => none }
def huffOftenRow : OpenClaim := { program := "ytndiocehkdbjkaa", sum := "b39a60edf1bd86a5e87cd364febc6247a7b3cf5e8c24f6e92465d51d3b8de090", func := "lampwright/lampwrightlaw.HuffOften", spec := "huffOften", unfollowed := true, recurses := true, plainKeys := false, apart := false }
def HuffOftenSaid : Prop := huffOftenRow.holds Try.pinned (OpenSpec.ofChange huffOftenSpec)

/-- ITS FALSE NEIGHBOUR: 'it returns false'. Refute it at one input. -/
def huffOftenWrong : ChangeSpec := { name := "huffOften", fn := fun _ => fun
  | [d1, d2, d3] => { results := [.lit (.bool false)], args := [d1, d2, d3] }
  | _ => none }
def HuffOftenWrongFalsely : Prop := huffOftenRow.holds Try.pinned (OpenSpec.ofChange huffOftenWrong)

/-- 'lampwrightlaw.HuffTimes': WHATEVER THE INPUT: true; the input reads as it did. -/
def huffTimesSpec : ChangeSpec := { name := "huffTimes", fn := fun _ => fun
  | [d1, d2] => { results := [.lit (.bool true)], args := [d1, d2] }
  | _ => none }
def huffTimesRow : OpenClaim := { program := "ytndiocehkdbjkaa", sum := "b39a60edf1bd86a5e87cd364febc6247a7b3cf5e8c24f6e92465d51d3b8de090", func := "lampwright/lampwrightlaw.HuffTimes", spec := "huffTimes", unfollowed := true, recurses := true, plainKeys := false, apart := false }
def HuffTimesSaid : Prop := huffTimesRow.holds Try.pinned (OpenSpec.ofChange huffTimesSpec)

/-- ITS FALSE NEIGHBOUR: 'it returns false'. Refute it at one input. -/
def huffTimesWrong : ChangeSpec := { name := "huffTimes", fn := fun _ => fun
  | [d1, d2] => { results := [.lit (.bool false)], args := [d1, d2] }
  | _ => none }
def HuffTimesWrongFalsely : Prop := huffTimesRow.holds Try.pinned (OpenSpec.ofChange huffTimesWrong)

/-- 'lampwrightlaw.HuffFlat': WHATEVER THE INPUT: true; the input reads as it did. -/
def huffFlatSpec : ChangeSpec := { name := "huffFlat", fn := fun _ => fun
  | [d1, d2] => { results := [.lit (.bool true)], args := [d1, d2] }
  | _ => none }
def huffFlatRow : OpenClaim := { program := "ytndiocehkdbjkaa", sum := "b39a60edf1bd86a5e87cd364febc6247a7b3cf5e8c24f6e92465d51d3b8de090", func := "lampwright/lampwrightlaw.HuffFlat", spec := "huffFlat", unfollowed := true, recurses := true, plainKeys := false, apart := false }
def HuffFlatSaid : Prop := huffFlatRow.holds Try.pinned (OpenSpec.ofChange huffFlatSpec)

/-- ITS FALSE NEIGHBOUR: 'it returns false'. Refute it at one input. -/
def huffFlatWrong : ChangeSpec := { name := "huffFlat", fn := fun _ => fun
  | [d1, d2] => { results := [.lit (.bool false)], args := [d1, d2] }
  | _ => none }
def HuffFlatWrongFalsely : Prop := huffFlatRow.holds Try.pinned (OpenSpec.ofChange huffFlatWrong)

/-- 'lampwrightlaw.HuffTurn': WHATEVER THE INPUT: true; the input reads as it did. -/
def huffTurnSpec : ChangeSpec := { name := "huffTurn", fn := fun _ => fun
  | [d] => { results := [.lit (.bool true)], args := [d] }
  | _ => none }
def huffTurnRow : OpenClaim := { program := "ytndiocehkdbjkaa", sum := "b39a60edf1bd86a5e87cd364febc6247a7b3cf5e8c24f6e92465d51d3b8de090", func := "lampwright/lampwrightlaw.HuffTurn", spec := "huffTurn", unfollowed := true, recurses := true, plainKeys := false, apart := false }
def HuffTurnSaid : Prop := huffTurnRow.holds Try.pinned (OpenSpec.ofChange huffTurnSpec)

/-- ITS FALSE NEIGHBOUR: 'it returns false'. Refute it at one input. -/
def huffTurnWrong : ChangeSpec := { name := "huffTurn", fn := fun _ => fun
  | [d] => { results := [.lit (.bool false)], args := [d] }
  | _ => none }
def HuffTurnWrongFalsely : Prop := huffTurnRow.holds Try.pinned (OpenSpec.ofChange huffTurnWrong)

/-- 'lampwrightlaw.HuffMore': WHATEVER THE INPUT: true; the input reads as it did. -/
def huffMoreSpec : ChangeSpec := { name := "huffMore", fn := fun _ => fun
  | [d1, d2] => { results := [.lit (.bool true)], args := [d1, d2] }
  | _ => none }
def huffMoreRow : OpenClaim := { program := "ytndiocehkdbjkaa", sum := "b39a60edf1bd86a5e87cd364febc6247a7b3cf5e8c24f6e92465d51d3b8de090", func := "lampwright/lampwrightlaw.HuffMore", spec := "huffMore", unfollowed := true, recurses := true, plainKeys := false, apart := false }
def HuffMoreSaid : Prop := huffMoreRow.holds Try.pinned (OpenSpec.ofChange huffMoreSpec)

/-- ITS FALSE NEIGHBOUR: 'it returns false'. Refute it at one input. -/
def huffMoreWrong : ChangeSpec := { name := "huffMore", fn := fun _ => fun
  | [d1, d2] => { results := [.lit (.bool false)], args := [d1, d2] }
  | _ => none }
def HuffMoreWrongFalsely : Prop := huffMoreRow.holds Try.pinned (OpenSpec.ofChange huffMoreWrong)

/-- 'lampwrightlaw.GraphTells': WHATEVER THE INPUT: true; the input reads as it did. -/
def graphTellsSpec : ChangeSpec := { name := "graphTells", fn := fun _ => fun
  | [d1, d2, d3] => { results := [.lit (.bool true)], args := [d1, d2, d3] }
  | _ => none }
def graphTellsRow : OpenClaim := { program := "ytndiocehkdbjkaa", sum := "b39a60edf1bd86a5e87cd364febc6247a7b3cf5e8c24f6e92465d51d3b8de090", func := "lampwright/lampwrightlaw.GraphTells", spec := "graphTells", unfollowed := true, recurses := true, plainKeys := false, apart := false }
def GraphTellsSaid : Prop := graphTellsRow.holds Try.pinned (OpenSpec.ofChange graphTellsSpec)

/-- ITS FALSE NEIGHBOUR: 'it returns false'. Refute it at one input. -/
def graphTellsWrong : ChangeSpec := { name := "graphTells", fn := fun _ => fun
  | [d1, d2, d3] => { results := [.lit (.bool false)], args := [d1, d2, d3] }
  | _ => none }
def GraphTellsWrongFalsely : Prop := graphTellsRow.holds Try.pinned (OpenSpec.ofChange graphTellsWrong)

/-- 'lampwrightlaw.GraphBack': WHATEVER THE INPUT: true; the input reads as it did. -/
def graphBackSpec : ChangeSpec := { name := "graphBack", fn := fun _ => fun
  | [d1, d2] => { results := [.lit (.bool true)], args := [d1, d2] }
  | _ => none }
def graphBackRow : OpenClaim := { program := "ytndiocehkdbjkaa", sum := "b39a60edf1bd86a5e87cd364febc6247a7b3cf5e8c24f6e92465d51d3b8de090", func := "lampwright/lampwrightlaw.GraphBack", spec := "graphBack", unfollowed := true, recurses := true, plainKeys := false, apart := false }
def GraphBackSaid : Prop := graphBackRow.holds Try.pinned (OpenSpec.ofChange graphBackSpec)

/-- ITS FALSE NEIGHBOUR: 'it returns false'. Refute it at one input. -/
def graphBackWrong : ChangeSpec := { name := "graphBack", fn := fun _ => fun
  | [d1, d2] => { results := [.lit (.bool false)], args := [d1, d2] }
  | _ => none }
def GraphBackWrongFalsely : Prop := graphBackRow.holds Try.pinned (OpenSpec.ofChange graphBackWrong)

/-- 'lampwrightlaw.GraphTurn': WHATEVER THE INPUT: true; the input reads as it did. -/
def graphTurnSpec : ChangeSpec := { name := "graphTurn", fn := fun _ => fun
  | [d] => { results := [.lit (.bool true)], args := [d] }
  | _ => none }
def graphTurnRow : OpenClaim := { program := "ytndiocehkdbjkaa", sum := "b39a60edf1bd86a5e87cd364febc6247a7b3cf5e8c24f6e92465d51d3b8de090", func := "lampwright/lampwrightlaw.GraphTurn", spec := "graphTurn", unfollowed := true, recurses := true, plainKeys := false, apart := false }
def GraphTurnSaid : Prop := graphTurnRow.holds Try.pinned (OpenSpec.ofChange graphTurnSpec)

/-- ITS FALSE NEIGHBOUR: 'it returns false'. Refute it at one input. -/
def graphTurnWrong : ChangeSpec := { name := "graphTurn", fn := fun _ => fun
  | [d] => { results := [.lit (.bool false)], args := [d] }
  | _ => none }
def GraphTurnWrongFalsely : Prop := graphTurnRow.holds Try.pinned (OpenSpec.ofChange graphTurnWrong)

/-- 'lampwrightlaw.GraphBoth': WHATEVER THE INPUT: true; the input reads as it did. -/
def graphBothSpec : ChangeSpec := { name := "graphBoth", fn := fun _ => fun
  | [d1, d2] => { results := [.lit (.bool true)], args := [d1, d2] }
  | _ => none }
def graphBothRow : OpenClaim := { program := "ytndiocehkdbjkaa", sum := "b39a60edf1bd86a5e87cd364febc6247a7b3cf5e8c24f6e92465d51d3b8de090", func := "lampwright/lampwrightlaw.GraphBoth", spec := "graphBoth", unfollowed := true, recurses := true, plainKeys := false, apart := false }
def GraphBothSaid : Prop := graphBothRow.holds Try.pinned (OpenSpec.ofChange graphBothSpec)

/-- ITS FALSE NEIGHBOUR: 'it returns false'. Refute it at one input. -/
def graphBothWrong : ChangeSpec := { name := "graphBoth", fn := fun _ => fun
  | [d1, d2] => { results := [.lit (.bool false)], args := [d1, d2] }
  | _ => none }
def GraphBothWrongFalsely : Prop := graphBothRow.holds Try.pinned (OpenSpec.ofChange graphBothWrong)

/-- 'lampwrightlaw.GraphMore': WHATEVER THE INPUT: true; the input reads as it did. -/
def graphMoreSpec : ChangeSpec := { name := "graphMore", fn := fun _ => fun
  | [d1, d2] => { results := [.lit (.bool true)], args := [d1, d2] }
  | _ => none }
def graphMoreRow : OpenClaim := { program := "ytndiocehkdbjkaa", sum := "b39a60edf1bd86a5e87cd364febc6247a7b3cf5e8c24f6e92465d51d3b8de090", func := "lampwright/lampwrightlaw.GraphMore", spec := "graphMore", unfollowed := true, recurses := true, plainKeys := false, apart := false }
def GraphMoreSaid : Prop := graphMoreRow.holds Try.pinned (OpenSpec.ofChange graphMoreSpec)

/-- ITS FALSE NEIGHBOUR: 'it returns false'. Refute it at one input. -/
def graphMoreWrong : ChangeSpec := { name := "graphMore", fn := fun _ => fun
  | [d1, d2] => { results := [.lit (.bool false)], args := [d1, d2] }
  | _ => none }
def GraphMoreWrongFalsely : Prop := graphMoreRow.holds Try.pinned (OpenSpec.ofChange graphMoreWrong)

/-- 'lampwrightlaw.GraphLess': WHATEVER THE INPUT: true; the input reads as it did. -/
def graphLessSpec : ChangeSpec := { name := "graphLess", fn := fun _ => fun
  | [d1, d2] => { results := [.lit (.bool true)], args := [d1, d2] }
  | _ => none }
def graphLessRow : OpenClaim := { program := "ytndiocehkdbjkaa", sum := "b39a60edf1bd86a5e87cd364febc6247a7b3cf5e8c24f6e92465d51d3b8de090", func := "lampwright/lampwrightlaw.GraphLess", spec := "graphLess", unfollowed := true, recurses := true, plainKeys := false, apart := false }
def GraphLessSaid : Prop := graphLessRow.holds Try.pinned (OpenSpec.ofChange graphLessSpec)

/-- ITS FALSE NEIGHBOUR: 'it returns false'. Refute it at one input. -/
def graphLessWrong : ChangeSpec := { name := "graphLess", fn := fun _ => fun
  | [d1, d2] => { results := [.lit (.bool false)], args := [d1, d2] }
  | _ => none }
def GraphLessWrongFalsely : Prop := graphLessRow.holds Try.pinned (OpenSpec.ofChange graphLessWrong)

/- THE SECOND FORM. 'bulk': how many values and letters a reading holds, each counted each time it is reached (what is shared counts as often as it is met; a slice's spare places count too). A statement '..UptoSaid' is the law's where the arguments, and the package variables that the reading takes, are together of bulk at most 1048576: NARROWER than '..Said'. Prove '..Said' where nothing that the law and all that it calls make is longer than what came in: it says more and counts as full. Else prove '..UptoSaid'. A law counts once. -/
mutual
def uptoBulk {H : Type} : DataW H → Nat
  | .lit (.string bytes) => bytes.length + 1
  | .lit _ => 1
  | .nil => 1
  | .ptr d => uptoBulk d + 1
  | .slice elems spare => uptoBulkAll elems + uptoBulkAll spare + 1
  | .agg parts => uptoBulkAll parts + 1
  | .iface _ d => uptoBulk d + 1
  | .map entries => uptoBulkEntries entries + 1
  | .held _ => 1
def uptoBulkAll {H : Type} : List (DataW H) → Nat
  | [] => 0
  | d :: r => uptoBulk d + uptoBulkAll r
def uptoBulkEntries {H : Type} : List (Lit × DataW H) → Nat
  | [] => 0
  | x :: r => uptoBulkEntry x + uptoBulkEntries r
def uptoBulkEntry {H : Type} : Lit × DataW H → Nat
  | (.string bytes, d) => bytes.length + uptoBulk d + 1
  | (_, d) => uptoBulk d + 1
 end
def uptoSmall : (H : Type) → List (DataW H) → Bool := fun _ ds => decide (uptoBulkAll ds ≤ 1048576)
def OpenSpec.upto (s : _root_.Go.ChangeSpec) : _root_.Go.OpenSpec := { _root_.Go.OpenSpec.ofChange s with cond := some uptoSmall }

/-- 'lampwrightlaw.HuffTells', WHERE WHAT IT READS IS OF BULK AT MOST 1048576: true; the input reads as it did. -/
def huffTellsUptoRow : OpenClaim := { program := "ytndiocehkdbjkaa", sum := "b39a60edf1bd86a5e87cd364febc6247a7b3cf5e8c24f6e92465d51d3b8de090", func := "lampwright/lampwrightlaw.HuffTells", spec := "huffTells", unfollowed := true, recurses := true, plainKeys := false, apart := false, narrowed := true }
def HuffTellsUptoSaid : Prop := huffTellsUptoRow.holds Try.pinned (OpenSpec.upto huffTellsSpec)

/-- 'lampwrightlaw.HuffBack', WHERE WHAT IT READS IS OF BULK AT MOST 1048576: true; the input reads as it did. -/
def huffBackUptoRow : OpenClaim := { program := "ytndiocehkdbjkaa", sum := "b39a60edf1bd86a5e87cd364febc6247a7b3cf5e8c24f6e92465d51d3b8de090", func := "lampwright/lampwrightlaw.HuffBack", spec := "huffBack", unfollowed := true, recurses := true, plainKeys := false, apart := false, narrowed := true }
def HuffBackUptoSaid : Prop := huffBackUptoRow.holds Try.pinned (OpenSpec.upto huffBackSpec)

/-- 'lampwrightlaw.HuffOften', WHERE WHAT IT READS IS OF BULK AT MOST 1048576: true; the input reads as it did. -/
def huffOftenUptoRow : OpenClaim := { program := "ytndiocehkdbjkaa", sum := "b39a60edf1bd86a5e87cd364febc6247a7b3cf5e8c24f6e92465d51d3b8de090", func := "lampwright/lampwrightlaw.HuffOften", spec := "huffOften", unfollowed := true, recurses := true, plainKeys := false, apart := false, narrowed := true }
def HuffOftenUptoSaid : Prop := huffOftenUptoRow.holds Try.pinned (OpenSpec.upto huffOftenSpec)

/-- 'lampwrightlaw.HuffTimes', WHERE WHAT IT READS IS OF BULK AT MOST 1048576: true; the input reads as it did. -/
def huffTimesUptoRow : OpenClaim := { program := "ytndiocehkdbjkaa", sum := "b39a60edf1bd86a5e87cd364febc6247a7b3cf5e8c24f6e92465d51d3b8de090", func := "lampwright/lampwrightlaw.HuffTimes", spec := "huffTimes", unfollowed := true, recurses := true, plainKeys := false, apart := false, narrowed := true }
def HuffTimesUptoSaid : Prop := huffTimesUptoRow.holds Try.pinned (OpenSpec.upto huffTimesSpec)

/-- 'lampwrightlaw.HuffFlat', WHERE WHAT IT READS IS OF BULK AT MOST 1048576: true; the input reads as it did. -/
def huffFlatUptoRow : OpenClaim := { program := "ytndiocehkdbjkaa", sum := "b39a60edf1bd86a5e87cd364febc6247a7b3cf5e8c24f6e92465d51d3b8de090", func := "lampwright/lampwrightlaw.HuffFlat", spec := "huffFlat", unfollowed := true, recurses := true, plainKeys := false, apart := false, narrowed := true }
def HuffFlatUptoSaid : Prop := huffFlatUptoRow.holds Try.pinned (OpenSpec.upto huffFlatSpec)

/-- 'lampwrightlaw.HuffTurn', WHERE WHAT IT READS IS OF BULK AT MOST 1048576: true; the input reads as it did. -/
def huffTurnUptoRow : OpenClaim := { program := "ytndiocehkdbjkaa", sum := "b39a60edf1bd86a5e87cd364febc6247a7b3cf5e8c24f6e92465d51d3b8de090", func := "lampwright/lampwrightlaw.HuffTurn", spec := "huffTurn", unfollowed := true, recurses := true, plainKeys := false, apart := false, narrowed := true }
def HuffTurnUptoSaid : Prop := huffTurnUptoRow.holds Try.pinned (OpenSpec.upto huffTurnSpec)

/-- 'lampwrightlaw.HuffMore', WHERE WHAT IT READS IS OF BULK AT MOST 1048576: true; the input reads as it did. -/
def huffMoreUptoRow : OpenClaim := { program := "ytndiocehkdbjkaa", sum := "b39a60edf1bd86a5e87cd364febc6247a7b3cf5e8c24f6e92465d51d3b8de090", func := "lampwright/lampwrightlaw.HuffMore", spec := "huffMore", unfollowed := true, recurses := true, plainKeys := false, apart := false, narrowed := true }
def HuffMoreUptoSaid : Prop := huffMoreUptoRow.holds Try.pinned (OpenSpec.upto huffMoreSpec)

/-- 'lampwrightlaw.GraphTells', WHERE WHAT IT READS IS OF BULK AT MOST 1048576: true; the input reads as it did. -/
def graphTellsUptoRow : OpenClaim := { program := "ytndiocehkdbjkaa", sum := "b39a60edf1bd86a5e87cd364febc6247a7b3cf5e8c24f6e92465d51d3b8de090", func := "lampwright/lampwrightlaw.GraphTells", spec := "graphTells", unfollowed := true, recurses := true, plainKeys := false, apart := false, narrowed := true }
def GraphTellsUptoSaid : Prop := graphTellsUptoRow.holds Try.pinned (OpenSpec.upto graphTellsSpec)

/-- 'lampwrightlaw.GraphBack', WHERE WHAT IT READS IS OF BULK AT MOST 1048576: true; the input reads as it did. -/
def graphBackUptoRow : OpenClaim := { program := "ytndiocehkdbjkaa", sum := "b39a60edf1bd86a5e87cd364febc6247a7b3cf5e8c24f6e92465d51d3b8de090", func := "lampwright/lampwrightlaw.GraphBack", spec := "graphBack", unfollowed := true, recurses := true, plainKeys := false, apart := false, narrowed := true }
def GraphBackUptoSaid : Prop := graphBackUptoRow.holds Try.pinned (OpenSpec.upto graphBackSpec)

/-- 'lampwrightlaw.GraphTurn', WHERE WHAT IT READS IS OF BULK AT MOST 1048576: true; the input reads as it did. -/
def graphTurnUptoRow : OpenClaim := { program := "ytndiocehkdbjkaa", sum := "b39a60edf1bd86a5e87cd364febc6247a7b3cf5e8c24f6e92465d51d3b8de090", func := "lampwright/lampwrightlaw.GraphTurn", spec := "graphTurn", unfollowed := true, recurses := true, plainKeys := false, apart := false, narrowed := true }
def GraphTurnUptoSaid : Prop := graphTurnUptoRow.holds Try.pinned (OpenSpec.upto graphTurnSpec)

/-- 'lampwrightlaw.GraphBoth', WHERE WHAT IT READS IS OF BULK AT MOST 1048576: true; the input reads as it did. -/
def graphBothUptoRow : OpenClaim := { program := "ytndiocehkdbjkaa", sum := "b39a60edf1bd86a5e87cd364febc6247a7b3cf5e8c24f6e92465d51d3b8de090", func := "lampwright/lampwrightlaw.GraphBoth", spec := "graphBoth", unfollowed := true, recurses := true, plainKeys := false, apart := false, narrowed := true }
def GraphBothUptoSaid : Prop := graphBothUptoRow.holds Try.pinned (OpenSpec.upto graphBothSpec)

/-- 'lampwrightlaw.GraphMore', WHERE WHAT IT READS IS OF BULK AT MOST 1048576: true; the input reads as it did. -/
def graphMoreUptoRow : OpenClaim := { program := "ytndiocehkdbjkaa", sum := "b39a60edf1bd86a5e87cd364febc6247a7b3cf5e8c24f6e92465d51d3b8de090", func := "lampwright/lampwrightlaw.GraphMore", spec := "graphMore", unfollowed := true, recurses := true, plainKeys := false, apart := false, narrowed := true }
def GraphMoreUptoSaid : Prop := graphMoreUptoRow.holds Try.pinned (OpenSpec.upto graphMoreSpec)

/-- 'lampwrightlaw.GraphLess', WHERE WHAT IT READS IS OF BULK AT MOST 1048576: true; the input reads as it did. -/
def graphLessUptoRow : OpenClaim := { program := "ytndiocehkdbjkaa", sum := "b39a60edf1bd86a5e87cd364febc6247a7b3cf5e8c24f6e92465d51d3b8de090", func := "lampwright/lampwrightlaw.GraphLess", spec := "graphLess", unfollowed := true, recurses := true, plainKeys := false, apart := false, narrowed := true }
def GraphLessUptoSaid : Prop := graphLessUptoRow.holds Try.pinned (OpenSpec.upto graphLessSpec)

end Rows
end Go.Proofs.Ytndiocehkdbjkaa
