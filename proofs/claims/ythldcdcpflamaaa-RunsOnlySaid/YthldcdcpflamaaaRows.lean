/-
  No cell of these rows narrows 'for every input' (looked for: loops, veiled, ifaces, maps, wideKeys, modest, calm, conditions, laid).
  DERIVED. THE GIVEN ROWS OF THIS SEAT. 12 by the template 'for every input the law returns true; each argument reads behind the call as it read before'; 0 by the template 'total and deterministic' (their statements: YthldcdcpflamaaaTotals.lean).
  GIVEN WITH THE SEED: the statements are not yours to turn. If you find one false, say at which input.
  Laid BY PROGRAM, IN A SANDBOX (cutbox-rows.mjs): the forced cells as the released guide's own fill.sh prints them over the translation e25d6b39d6e36a31… (all of the seat's roots in one cut). By AI agents, Wed Nov 11 2026. No macro, syntax, notation, axiom, sorry.
-/
import Derived.Test.YthldcdcpflamaaaChecked
import GoSem.Claim
import GoSem.ClaimJoined
import GoSem.ClaimMapViews
import Derived.JoinedTies
import Derived.KernelRfl
namespace Go.Proofs.Ythldcdcpflamaaa
/- THE CELL 'sum', in the pinned program and in every row, IS THE sha256 OF THE DUMP (.gsa) THAT YthldcdcpflamaaaProg.lean LOADS. Nothing in Lean hashes anything: it is a label: what it is worth is what the hold of that sum in a sandbox is worth. -/
noncomputable def Try.pinned : Pinned := { name := "ythldcdcpflamaaa", sum := "e25d6b39d6e36a31cc973ccb8fbd9f71f863179f19d1811fd889d0739f11fa4c", checked := Try.checked }
namespace Rows
def none {H : Type} : Left H := { results := [], args := [] }

/-- 'lampwrightlaw.GapsTell': WHATEVER THE INPUT: true; the input reads as it did. -/
def gapsTellSpec : ChangeSpec := { name := "gapsTell", fn := fun _ => fun
  | [d1, d2, d3, d4] => { results := [.lit (.bool true)], args := [d1, d2, d3, d4] }
  | _ => none }
def gapsTellRow : OpenClaim := { program := "ythldcdcpflamaaa", sum := "e25d6b39d6e36a31cc973ccb8fbd9f71f863179f19d1811fd889d0739f11fa4c", func := "lampwright/lampwrightlaw.GapsTell", spec := "gapsTell", unfollowed := true, recurses := true, apart := false }
def GapsTellSaid : Prop := gapsTellRow.holds Try.pinned (OpenSpec.ofChange gapsTellSpec)

/-- ITS FALSE NEIGHBOUR: 'it returns false'. Refute it at one input. -/
def gapsTellWrong : ChangeSpec := { name := "gapsTell", fn := fun _ => fun
  | [d1, d2, d3, d4] => { results := [.lit (.bool false)], args := [d1, d2, d3, d4] }
  | _ => none }
def GapsTellWrongFalsely : Prop := gapsTellRow.holds Try.pinned (OpenSpec.ofChange gapsTellWrong)

/-- 'lampwrightlaw.GapsRead': WHATEVER THE INPUT: true; the input reads as it did. -/
def gapsReadSpec : ChangeSpec := { name := "gapsRead", fn := fun _ => fun
  | [d1, d2, d3, d4, d5] => { results := [.lit (.bool true)], args := [d1, d2, d3, d4, d5] }
  | _ => none }
def gapsReadRow : OpenClaim := { program := "ythldcdcpflamaaa", sum := "e25d6b39d6e36a31cc973ccb8fbd9f71f863179f19d1811fd889d0739f11fa4c", func := "lampwright/lampwrightlaw.GapsRead", spec := "gapsRead", unfollowed := true, recurses := true, apart := false }
def GapsReadSaid : Prop := gapsReadRow.holds Try.pinned (OpenSpec.ofChange gapsReadSpec)

/-- ITS FALSE NEIGHBOUR: 'it returns false'. Refute it at one input. -/
def gapsReadWrong : ChangeSpec := { name := "gapsRead", fn := fun _ => fun
  | [d1, d2, d3, d4, d5] => { results := [.lit (.bool false)], args := [d1, d2, d3, d4, d5] }
  | _ => none }
def GapsReadWrongFalsely : Prop := gapsReadRow.holds Try.pinned (OpenSpec.ofChange gapsReadWrong)

/-- 'lampwrightlaw.GapsBack': WHATEVER THE INPUT: true; the input reads as it did. -/
def gapsBackSpec : ChangeSpec := { name := "gapsBack", fn := fun _ => fun
  | [d1, d2, d3] => { results := [.lit (.bool true)], args := [d1, d2, d3] }
  | _ => none }
def gapsBackRow : OpenClaim := { program := "ythldcdcpflamaaa", sum := "e25d6b39d6e36a31cc973ccb8fbd9f71f863179f19d1811fd889d0739f11fa4c", func := "lampwright/lampwrightlaw.GapsBack", spec := "gapsBack", unfollowed := true, recurses := true, apart := false }
def GapsBackSaid : Prop := gapsBackRow.holds Try.pinned (OpenSpec.ofChange gapsBackSpec)

/-- ITS FALSE NEIGHBOUR: 'it returns false'. Refute it at one input. -/
def gapsBackWrong : ChangeSpec := { name := "gapsBack", fn := fun _ => fun
  | [d1, d2, d3] => { results := [.lit (.bool false)], args := [d1, d2, d3] }
  | _ => none }
def GapsBackWrongFalsely : Prop := gapsBackRow.holds Try.pinned (OpenSpec.ofChange gapsBackWrong)

/-- 'lampwrightlaw.GapsBits': WHATEVER THE INPUT: true; the input reads as it did. -/
def gapsBitsSpec : ChangeSpec := { name := "gapsBits", fn := fun _ => fun
  | [d1, d2, d3, d4, d5] => { results := [.lit (.bool true)], args := [d1, d2, d3, d4, d5] }
  | _ => none }
def gapsBitsRow : OpenClaim := { program := "ythldcdcpflamaaa", sum := "e25d6b39d6e36a31cc973ccb8fbd9f71f863179f19d1811fd889d0739f11fa4c", func := "lampwright/lampwrightlaw.GapsBits", spec := "gapsBits", unfollowed := true, recurses := true, apart := false }
def GapsBitsSaid : Prop := gapsBitsRow.holds Try.pinned (OpenSpec.ofChange gapsBitsSpec)

/-- ITS FALSE NEIGHBOUR: 'it returns false'. Refute it at one input. -/
def gapsBitsWrong : ChangeSpec := { name := "gapsBits", fn := fun _ => fun
  | [d1, d2, d3, d4, d5] => { results := [.lit (.bool false)], args := [d1, d2, d3, d4, d5] }
  | _ => none }
def GapsBitsWrongFalsely : Prop := gapsBitsRow.holds Try.pinned (OpenSpec.ofChange gapsBitsWrong)

/-- 'lampwrightlaw.GapsShift': WHATEVER THE INPUT: true; the input reads as it did. -/
def gapsShiftSpec : ChangeSpec := { name := "gapsShift", fn := fun _ => fun
  | [d1, d2, d3] => { results := [.lit (.bool true)], args := [d1, d2, d3] }
  | _ => none }
def gapsShiftRow : OpenClaim := { program := "ythldcdcpflamaaa", sum := "e25d6b39d6e36a31cc973ccb8fbd9f71f863179f19d1811fd889d0739f11fa4c", func := "lampwright/lampwrightlaw.GapsShift", spec := "gapsShift", unfollowed := true, recurses := true, apart := false }
def GapsShiftSaid : Prop := gapsShiftRow.holds Try.pinned (OpenSpec.ofChange gapsShiftSpec)

/-- ITS FALSE NEIGHBOUR: 'it returns false'. Refute it at one input. -/
def gapsShiftWrong : ChangeSpec := { name := "gapsShift", fn := fun _ => fun
  | [d1, d2, d3] => { results := [.lit (.bool false)], args := [d1, d2, d3] }
  | _ => none }
def GapsShiftWrongFalsely : Prop := gapsShiftRow.holds Try.pinned (OpenSpec.ofChange gapsShiftWrong)

/-- 'lampwrightlaw.GapsAhead': WHATEVER THE INPUT: true; the input reads as it did. -/
def gapsAheadSpec : ChangeSpec := { name := "gapsAhead", fn := fun _ => fun
  | [d1, d2, d3] => { results := [.lit (.bool true)], args := [d1, d2, d3] }
  | _ => none }
def gapsAheadRow : OpenClaim := { program := "ythldcdcpflamaaa", sum := "e25d6b39d6e36a31cc973ccb8fbd9f71f863179f19d1811fd889d0739f11fa4c", func := "lampwright/lampwrightlaw.GapsAhead", spec := "gapsAhead", unfollowed := true, recurses := true, apart := false }
def GapsAheadSaid : Prop := gapsAheadRow.holds Try.pinned (OpenSpec.ofChange gapsAheadSpec)

/-- ITS FALSE NEIGHBOUR: 'it returns false'. Refute it at one input. -/
def gapsAheadWrong : ChangeSpec := { name := "gapsAhead", fn := fun _ => fun
  | [d1, d2, d3] => { results := [.lit (.bool false)], args := [d1, d2, d3] }
  | _ => none }
def GapsAheadWrongFalsely : Prop := gapsAheadRow.holds Try.pinned (OpenSpec.ofChange gapsAheadWrong)

/-- 'lampwrightlaw.RunsTell': WHATEVER THE INPUT: true; the input reads as it did. -/
def runsTellSpec : ChangeSpec := { name := "runsTell", fn := fun _ => fun
  | [d1, d2, d3, d4] => { results := [.lit (.bool true)], args := [d1, d2, d3, d4] }
  | _ => none }
def runsTellRow : OpenClaim := { program := "ythldcdcpflamaaa", sum := "e25d6b39d6e36a31cc973ccb8fbd9f71f863179f19d1811fd889d0739f11fa4c", func := "lampwright/lampwrightlaw.RunsTell", spec := "runsTell", unfollowed := true, recurses := true, apart := false }
def RunsTellSaid : Prop := runsTellRow.holds Try.pinned (OpenSpec.ofChange runsTellSpec)

/-- ITS FALSE NEIGHBOUR: 'it returns false'. Refute it at one input. -/
def runsTellWrong : ChangeSpec := { name := "runsTell", fn := fun _ => fun
  | [d1, d2, d3, d4] => { results := [.lit (.bool false)], args := [d1, d2, d3, d4] }
  | _ => none }
def RunsTellWrongFalsely : Prop := runsTellRow.holds Try.pinned (OpenSpec.ofChange runsTellWrong)

/-- 'lampwrightlaw.RunsBack': WHATEVER THE INPUT: true; the input reads as it did. -/
def runsBackSpec : ChangeSpec := { name := "runsBack", fn := fun _ => fun
  | [d1, d2] => { results := [.lit (.bool true)], args := [d1, d2] }
  | _ => none }
def runsBackRow : OpenClaim := { program := "ythldcdcpflamaaa", sum := "e25d6b39d6e36a31cc973ccb8fbd9f71f863179f19d1811fd889d0739f11fa4c", func := "lampwright/lampwrightlaw.RunsBack", spec := "runsBack", unfollowed := true, recurses := true, apart := false }
def RunsBackSaid : Prop := runsBackRow.holds Try.pinned (OpenSpec.ofChange runsBackSpec)

/-- ITS FALSE NEIGHBOUR: 'it returns false'. Refute it at one input. -/
def runsBackWrong : ChangeSpec := { name := "runsBack", fn := fun _ => fun
  | [d1, d2] => { results := [.lit (.bool false)], args := [d1, d2] }
  | _ => none }
def RunsBackWrongFalsely : Prop := runsBackRow.holds Try.pinned (OpenSpec.ofChange runsBackWrong)

/-- 'lampwrightlaw.RunsOnly': WHATEVER THE INPUT: true; the input reads as it did. -/
def runsOnlySpec : ChangeSpec := { name := "runsOnly", fn := fun _ => fun
  | [d1, d2, d3] => { results := [.lit (.bool true)], args := [d1, d2, d3] }
  | _ => none }
def runsOnlyRow : OpenClaim := { program := "ythldcdcpflamaaa", sum := "e25d6b39d6e36a31cc973ccb8fbd9f71f863179f19d1811fd889d0739f11fa4c", func := "lampwright/lampwrightlaw.RunsOnly", spec := "runsOnly", unfollowed := true, recurses := true, apart := false }
def RunsOnlySaid : Prop := runsOnlyRow.holds Try.pinned (OpenSpec.ofChange runsOnlySpec)

/-- ITS FALSE NEIGHBOUR: 'it returns false'. Refute it at one input. -/
def runsOnlyWrong : ChangeSpec := { name := "runsOnly", fn := fun _ => fun
  | [d1, d2, d3] => { results := [.lit (.bool false)], args := [d1, d2, d3] }
  | _ => none }
def RunsOnlyWrongFalsely : Prop := runsOnlyRow.holds Try.pinned (OpenSpec.ofChange runsOnlyWrong)

/-- 'lampwrightlaw.RunsMore': WHATEVER THE INPUT: true; the input reads as it did. -/
def runsMoreSpec : ChangeSpec := { name := "runsMore", fn := fun _ => fun
  | [d1, d2] => { results := [.lit (.bool true)], args := [d1, d2] }
  | _ => none }
def runsMoreRow : OpenClaim := { program := "ythldcdcpflamaaa", sum := "e25d6b39d6e36a31cc973ccb8fbd9f71f863179f19d1811fd889d0739f11fa4c", func := "lampwright/lampwrightlaw.RunsMore", spec := "runsMore", unfollowed := true, recurses := true, apart := false }
def RunsMoreSaid : Prop := runsMoreRow.holds Try.pinned (OpenSpec.ofChange runsMoreSpec)

/-- ITS FALSE NEIGHBOUR: 'it returns false'. Refute it at one input. -/
def runsMoreWrong : ChangeSpec := { name := "runsMore", fn := fun _ => fun
  | [d1, d2] => { results := [.lit (.bool false)], args := [d1, d2] }
  | _ => none }
def RunsMoreWrongFalsely : Prop := runsMoreRow.holds Try.pinned (OpenSpec.ofChange runsMoreWrong)

/-- 'lampwrightlaw.RunsShift': WHATEVER THE INPUT: true; the input reads as it did. -/
def runsShiftSpec : ChangeSpec := { name := "runsShift", fn := fun _ => fun
  | [d1, d2, d3] => { results := [.lit (.bool true)], args := [d1, d2, d3] }
  | _ => none }
def runsShiftRow : OpenClaim := { program := "ythldcdcpflamaaa", sum := "e25d6b39d6e36a31cc973ccb8fbd9f71f863179f19d1811fd889d0739f11fa4c", func := "lampwright/lampwrightlaw.RunsShift", spec := "runsShift", unfollowed := true, recurses := true, apart := false }
def RunsShiftSaid : Prop := runsShiftRow.holds Try.pinned (OpenSpec.ofChange runsShiftSpec)

/-- ITS FALSE NEIGHBOUR: 'it returns false'. Refute it at one input. -/
def runsShiftWrong : ChangeSpec := { name := "runsShift", fn := fun _ => fun
  | [d1, d2, d3] => { results := [.lit (.bool false)], args := [d1, d2, d3] }
  | _ => none }
def RunsShiftWrongFalsely : Prop := runsShiftRow.holds Try.pinned (OpenSpec.ofChange runsShiftWrong)

/-- 'lampwrightlaw.RunsWhole': WHATEVER THE INPUT: true; the input reads as it did. -/
def runsWholeSpec : ChangeSpec := { name := "runsWhole", fn := fun _ => fun
  | [d1, d2, d3] => { results := [.lit (.bool true)], args := [d1, d2, d3] }
  | _ => none }
def runsWholeRow : OpenClaim := { program := "ythldcdcpflamaaa", sum := "e25d6b39d6e36a31cc973ccb8fbd9f71f863179f19d1811fd889d0739f11fa4c", func := "lampwright/lampwrightlaw.RunsWhole", spec := "runsWhole", unfollowed := true, recurses := true, apart := false }
def RunsWholeSaid : Prop := runsWholeRow.holds Try.pinned (OpenSpec.ofChange runsWholeSpec)

/-- ITS FALSE NEIGHBOUR: 'it returns false'. Refute it at one input. -/
def runsWholeWrong : ChangeSpec := { name := "runsWhole", fn := fun _ => fun
  | [d1, d2, d3] => { results := [.lit (.bool false)], args := [d1, d2, d3] }
  | _ => none }
def RunsWholeWrongFalsely : Prop := runsWholeRow.holds Try.pinned (OpenSpec.ofChange runsWholeWrong)

/- THE SECOND FORM. 'bulk': how many values and letters a reading holds, each counted each time it is reached (what is shared counts as often as it is met; a slice's spare places count too). A statement '..UptoSaid' is the law's where the arguments, and the package variables that the reading takes, are together of bulk at most 1048576: NARROWER than '..Said'. Prove '..Said' where nothing that the law and all that it calls make is longer than what came in: it says more and counts as full. Else prove '..UptoSaid'. A law counts once. -/
mutual
def uptoBulk {H : Type} : DataW H → Nat
  | .lit (.string bytes) => bytes.length + 1
  | .lit _ => 1
  | .nil => 1
  | .ptr d => uptoBulk d + 1
  | .slice elems spare => uptoBulkAll elems + uptoBulkAll spare + 1
  | .agg parts => uptoBulkAll parts + 1
  | .iface _ d => uptoBulk d + 1
  | .map entries => uptoBulkEntries entries + 1
  | .held _ => 1
def uptoBulkAll {H : Type} : List (DataW H) → Nat
  | [] => 0
  | d :: r => uptoBulk d + uptoBulkAll r
def uptoBulkEntries {H : Type} : List (Lit × DataW H) → Nat
  | [] => 0
  | x :: r => uptoBulkEntry x + uptoBulkEntries r
def uptoBulkEntry {H : Type} : Lit × DataW H → Nat
  | (.string bytes, d) => bytes.length + uptoBulk d + 1
  | (_, d) => uptoBulk d + 1
 end
def uptoSmall : (H : Type) → List (DataW H) → Bool := fun _ ds => decide (uptoBulkAll ds ≤ 1048576)
def OpenSpec.upto (s : _root_.Go.ChangeSpec) : _root_.Go.OpenSpec := { _root_.Go.OpenSpec.ofChange s with cond := some uptoSmall }

/-- 'lampwrightlaw.GapsTell', WHERE WHAT IT READS IS OF BULK AT MOST 1048576: true; the input reads as it did. -/
def gapsTellUptoRow : OpenClaim := { program := "ythldcdcpflamaaa", sum := "e25d6b39d6e36a31cc973ccb8fbd9f71f863179f19d1811fd889d0739f11fa4c", func := "lampwright/lampwrightlaw.GapsTell", spec := "gapsTell", unfollowed := true, recurses := true, apart := false, narrowed := true }
def GapsTellUptoSaid : Prop := gapsTellUptoRow.holds Try.pinned (OpenSpec.upto gapsTellSpec)

/-- 'lampwrightlaw.GapsRead', WHERE WHAT IT READS IS OF BULK AT MOST 1048576: true; the input reads as it did. -/
def gapsReadUptoRow : OpenClaim := { program := "ythldcdcpflamaaa", sum := "e25d6b39d6e36a31cc973ccb8fbd9f71f863179f19d1811fd889d0739f11fa4c", func := "lampwright/lampwrightlaw.GapsRead", spec := "gapsRead", unfollowed := true, recurses := true, apart := false, narrowed := true }
def GapsReadUptoSaid : Prop := gapsReadUptoRow.holds Try.pinned (OpenSpec.upto gapsReadSpec)

/-- 'lampwrightlaw.GapsBack', WHERE WHAT IT READS IS OF BULK AT MOST 1048576: true; the input reads as it did. -/
def gapsBackUptoRow : OpenClaim := { program := "ythldcdcpflamaaa", sum := "e25d6b39d6e36a31cc973ccb8fbd9f71f863179f19d1811fd889d0739f11fa4c", func := "lampwright/lampwrightlaw.GapsBack", spec := "gapsBack", unfollowed := true, recurses := true, apart := false, narrowed := true }
def GapsBackUptoSaid : Prop := gapsBackUptoRow.holds Try.pinned (OpenSpec.upto gapsBackSpec)

/-- 'lampwrightlaw.GapsBits', WHERE WHAT IT READS IS OF BULK AT MOST 1048576: true; the input reads as it did. -/
def gapsBitsUptoRow : OpenClaim := { program := "ythldcdcpflamaaa", sum := "e25d6b39d6e36a31cc973ccb8fbd9f71f863179f19d1811fd889d0739f11fa4c", func := "lampwright/lampwrightlaw.GapsBits", spec := "gapsBits", unfollowed := true, recurses := true, apart := false, narrowed := true }
def GapsBitsUptoSaid : Prop := gapsBitsUptoRow.holds Try.pinned (OpenSpec.upto gapsBitsSpec)

/-- 'lampwrightlaw.GapsShift', WHERE WHAT IT READS IS OF BULK AT MOST 1048576: true; the input reads as it did. -/
def gapsShiftUptoRow : OpenClaim := { program := "ythldcdcpflamaaa", sum := "e25d6b39d6e36a31cc973ccb8fbd9f71f863179f19d1811fd889d0739f11fa4c", func := "lampwright/lampwrightlaw.GapsShift", spec := "gapsShift", unfollowed := true, recurses := true, apart := false, narrowed := true }
def GapsShiftUptoSaid : Prop := gapsShiftUptoRow.holds Try.pinned (OpenSpec.upto gapsShiftSpec)

/-- 'lampwrightlaw.GapsAhead', WHERE WHAT IT READS IS OF BULK AT MOST 1048576: true; the input reads as it did. -/
def gapsAheadUptoRow : OpenClaim := { program := "ythldcdcpflamaaa", sum := "e25d6b39d6e36a31cc973ccb8fbd9f71f863179f19d1811fd889d0739f11fa4c", func := "lampwright/lampwrightlaw.GapsAhead", spec := "gapsAhead", unfollowed := true, recurses := true, apart := false, narrowed := true }
def GapsAheadUptoSaid : Prop := gapsAheadUptoRow.holds Try.pinned (OpenSpec.upto gapsAheadSpec)

/-- 'lampwrightlaw.RunsTell', WHERE WHAT IT READS IS OF BULK AT MOST 1048576: true; the input reads as it did. -/
def runsTellUptoRow : OpenClaim := { program := "ythldcdcpflamaaa", sum := "e25d6b39d6e36a31cc973ccb8fbd9f71f863179f19d1811fd889d0739f11fa4c", func := "lampwright/lampwrightlaw.RunsTell", spec := "runsTell", unfollowed := true, recurses := true, apart := false, narrowed := true }
def RunsTellUptoSaid : Prop := runsTellUptoRow.holds Try.pinned (OpenSpec.upto runsTellSpec)

/-- 'lampwrightlaw.RunsBack', WHERE WHAT IT READS IS OF BULK AT MOST 1048576: true; the input reads as it did. -/
def runsBackUptoRow : OpenClaim := { program := "ythldcdcpflamaaa", sum := "e25d6b39d6e36a31cc973ccb8fbd9f71f863179f19d1811fd889d0739f11fa4c", func := "lampwright/lampwrightlaw.RunsBack", spec := "runsBack", unfollowed := true, recurses := true, apart := false, narrowed := true }
def RunsBackUptoSaid : Prop := runsBackUptoRow.holds Try.pinned (OpenSpec.upto runsBackSpec)

/-- 'lampwrightlaw.RunsOnly', WHERE WHAT IT READS IS OF BULK AT MOST 1048576: true; the input reads as it did. -/
def runsOnlyUptoRow : OpenClaim := { program := "ythldcdcpflamaaa", sum := "e25d6b39d6e36a31cc973ccb8fbd9f71f863179f19d1811fd889d0739f11fa4c", func := "lampwright/lampwrightlaw.RunsOnly", spec := "runsOnly", unfollowed := true, recurses := true, apart := false, narrowed := true }
def RunsOnlyUptoSaid : Prop := runsOnlyUptoRow.holds Try.pinned (OpenSpec.upto runsOnlySpec)

/-- 'lampwrightlaw.RunsMore', WHERE WHAT IT READS IS OF BULK AT MOST 1048576: true; the input reads as it did. -/
def runsMoreUptoRow : OpenClaim := { program := "ythldcdcpflamaaa", sum := "e25d6b39d6e36a31cc973ccb8fbd9f71f863179f19d1811fd889d0739f11fa4c", func := "lampwright/lampwrightlaw.RunsMore", spec := "runsMore", unfollowed := true, recurses := true, apart := false, narrowed := true }
def RunsMoreUptoSaid : Prop := runsMoreUptoRow.holds Try.pinned (OpenSpec.upto runsMoreSpec)

/-- 'lampwrightlaw.RunsShift', WHERE WHAT IT READS IS OF BULK AT MOST 1048576: true; the input reads as it did. -/
def runsShiftUptoRow : OpenClaim := { program := "ythldcdcpflamaaa", sum := "e25d6b39d6e36a31cc973ccb8fbd9f71f863179f19d1811fd889d0739f11fa4c", func := "lampwright/lampwrightlaw.RunsShift", spec := "runsShift", unfollowed := true, recurses := true, apart := false, narrowed := true }
def RunsShiftUptoSaid : Prop := runsShiftUptoRow.holds Try.pinned (OpenSpec.upto runsShiftSpec)

/-- 'lampwrightlaw.RunsWhole', WHERE WHAT IT READS IS OF BULK AT MOST 1048576: true; the input reads as it did. -/
def runsWholeUptoRow : OpenClaim := { program := "ythldcdcpflamaaa", sum := "e25d6b39d6e36a31cc973ccb8fbd9f71f863179f19d1811fd889d0739f11fa4c", func := "lampwright/lampwrightlaw.RunsWhole", spec := "runsWhole", unfollowed := true, recurses := true, apart := false, narrowed := true }
def RunsWholeUptoSaid : Prop := runsWholeUptoRow.holds Try.pinned (OpenSpec.upto runsWholeSpec)

end Rows
end Go.Proofs.Ythldcdcpflamaaa
