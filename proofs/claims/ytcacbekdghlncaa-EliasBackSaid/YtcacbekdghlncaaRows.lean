/-
  No cell of these rows narrows 'for every input' (looked for: loops, veiled, ifaces, maps, wideKeys, modest, calm, conditions, laid).
  DERIVED. THE GIVEN ROWS OF THIS SEAT. 12 by the template 'for every input the law returns true; each argument reads behind the call as it read before'; 0 by the template 'total and deterministic' (their statements: YtcacbekdghlncaaTotals.lean).
  GIVEN WITH THE SEED: the statements are not yours to turn. If you find one false, say at which input.
  Laid BY PROGRAM, IN A SANDBOX (cutbox-rows.mjs): the forced cells as the released guide's own fill.sh prints them over the translation 76a18261f8b904f2… (all of the seat's roots in one cut). By AI agents, Wed Nov 11 2026. No macro, syntax, notation, axiom, sorry.
-/
import Derived.Test.YtcacbekdghlncaaChecked
import GoSem.Claim
import GoSem.ClaimJoined
import GoSem.ClaimMapViews
import Derived.JoinedTies
import Derived.KernelRfl
namespace Go.Proofs.Ytcacbekdghlncaa
/- THE CELL 'sum', in the pinned program and in every row, IS THE sha256 OF THE DUMP (.gsa) THAT YtcacbekdghlncaaProg.lean LOADS. Nothing in Lean hashes anything: it is a label: what it is worth is what the hold of that sum in a sandbox is worth. -/
noncomputable def Try.pinned : Pinned := { name := "ytcacbekdghlncaa", sum := "76a18261f8b904f2dd2a0c5910b554e8393904066626946fd796ab9875eac518", checked := Try.checked }
namespace Rows
def none {H : Type} : Left H := { results := [], args := [] }

/-- 'lampwrightlaw.EliasTells': WHATEVER THE INPUT: true; the input reads as it did. -/
def eliasTellsSpec : ChangeSpec := { name := "eliasTells", fn := fun _ => fun
  | [d1, d2, d3] => { results := [.lit (.bool true)], args := [d1, d2, d3] }
  | _ => none }
def eliasTellsRow : OpenClaim := { program := "ytcacbekdghlncaa", sum := "76a18261f8b904f2dd2a0c5910b554e8393904066626946fd796ab9875eac518", func := "lampwright/lampwrightlaw.EliasTells", spec := "eliasTells", unfollowed := true, recurses := true, apart := false }
def EliasTellsSaid : Prop := eliasTellsRow.holds Try.pinned (OpenSpec.ofChange eliasTellsSpec)

/-- ITS FALSE NEIGHBOUR: 'it returns false'. Refute it at one input. -/
def eliasTellsWrong : ChangeSpec := { name := "eliasTells", fn := fun _ => fun
  | [d1, d2, d3] => { results := [.lit (.bool false)], args := [d1, d2, d3] }
  | _ => none }
def EliasTellsWrongFalsely : Prop := eliasTellsRow.holds Try.pinned (OpenSpec.ofChange eliasTellsWrong)

/-- 'lampwrightlaw.EliasBack': WHATEVER THE INPUT: true; the input reads as it did. -/
def eliasBackSpec : ChangeSpec := { name := "eliasBack", fn := fun _ => fun
  | [d1, d2] => { results := [.lit (.bool true)], args := [d1, d2] }
  | _ => none }
def eliasBackRow : OpenClaim := { program := "ytcacbekdghlncaa", sum := "76a18261f8b904f2dd2a0c5910b554e8393904066626946fd796ab9875eac518", func := "lampwright/lampwrightlaw.EliasBack", spec := "eliasBack", unfollowed := true, recurses := true, apart := false }
def EliasBackSaid : Prop := eliasBackRow.holds Try.pinned (OpenSpec.ofChange eliasBackSpec)

/-- ITS FALSE NEIGHBOUR: 'it returns false'. Refute it at one input. -/
def eliasBackWrong : ChangeSpec := { name := "eliasBack", fn := fun _ => fun
  | [d1, d2] => { results := [.lit (.bool false)], args := [d1, d2] }
  | _ => none }
def EliasBackWrongFalsely : Prop := eliasBackRow.holds Try.pinned (OpenSpec.ofChange eliasBackWrong)

/-- 'lampwrightlaw.EliasLong': WHATEVER THE INPUT: true; the input reads as it did. -/
def eliasLongSpec : ChangeSpec := { name := "eliasLong", fn := fun _ => fun
  | [d1, d2] => { results := [.lit (.bool true)], args := [d1, d2] }
  | _ => none }
def eliasLongRow : OpenClaim := { program := "ytcacbekdghlncaa", sum := "76a18261f8b904f2dd2a0c5910b554e8393904066626946fd796ab9875eac518", func := "lampwright/lampwrightlaw.EliasLong", spec := "eliasLong", unfollowed := true, recurses := true, apart := false }
def EliasLongSaid : Prop := eliasLongRow.holds Try.pinned (OpenSpec.ofChange eliasLongSpec)

/-- ITS FALSE NEIGHBOUR: 'it returns false'. Refute it at one input. -/
def eliasLongWrong : ChangeSpec := { name := "eliasLong", fn := fun _ => fun
  | [d1, d2] => { results := [.lit (.bool false)], args := [d1, d2] }
  | _ => none }
def EliasLongWrongFalsely : Prop := eliasLongRow.holds Try.pinned (OpenSpec.ofChange eliasLongWrong)

/-- 'lampwrightlaw.EliasApart': WHATEVER THE INPUT: true; the input reads as it did. -/
def eliasApartSpec : ChangeSpec := { name := "eliasApart", fn := fun _ => fun
  | [d1, d2] => { results := [.lit (.bool true)], args := [d1, d2] }
  | _ => none }
def eliasApartRow : OpenClaim := { program := "ytcacbekdghlncaa", sum := "76a18261f8b904f2dd2a0c5910b554e8393904066626946fd796ab9875eac518", func := "lampwright/lampwrightlaw.EliasApart", spec := "eliasApart", unfollowed := true, recurses := true, apart := false }
def EliasApartSaid : Prop := eliasApartRow.holds Try.pinned (OpenSpec.ofChange eliasApartSpec)

/-- ITS FALSE NEIGHBOUR: 'it returns false'. Refute it at one input. -/
def eliasApartWrong : ChangeSpec := { name := "eliasApart", fn := fun _ => fun
  | [d1, d2] => { results := [.lit (.bool false)], args := [d1, d2] }
  | _ => none }
def EliasApartWrongFalsely : Prop := eliasApartRow.holds Try.pinned (OpenSpec.ofChange eliasApartWrong)

/-- 'lampwrightlaw.EliasShape': WHATEVER THE INPUT: true; the input reads as it did. -/
def eliasShapeSpec : ChangeSpec := { name := "eliasShape", fn := fun _ => fun
  | [d] => { results := [.lit (.bool true)], args := [d] }
  | _ => none }
def eliasShapeRow : OpenClaim := { program := "ytcacbekdghlncaa", sum := "76a18261f8b904f2dd2a0c5910b554e8393904066626946fd796ab9875eac518", func := "lampwright/lampwrightlaw.EliasShape", spec := "eliasShape", unfollowed := true, recurses := true, apart := false }
def EliasShapeSaid : Prop := eliasShapeRow.holds Try.pinned (OpenSpec.ofChange eliasShapeSpec)

/-- ITS FALSE NEIGHBOUR: 'it returns false'. Refute it at one input. -/
def eliasShapeWrong : ChangeSpec := { name := "eliasShape", fn := fun _ => fun
  | [d] => { results := [.lit (.bool false)], args := [d] }
  | _ => none }
def EliasShapeWrongFalsely : Prop := eliasShapeRow.holds Try.pinned (OpenSpec.ofChange eliasShapeWrong)

/-- 'lampwrightlaw.GolombTells': WHATEVER THE INPUT: true; the input reads as it did. -/
def golombTellsSpec : ChangeSpec := { name := "golombTells", fn := fun _ => fun
  | [d1, d2, d3, d4] => { results := [.lit (.bool true)], args := [d1, d2, d3, d4] }
  | _ => none }
def golombTellsRow : OpenClaim := { program := "ytcacbekdghlncaa", sum := "76a18261f8b904f2dd2a0c5910b554e8393904066626946fd796ab9875eac518", func := "lampwright/lampwrightlaw.GolombTells", spec := "golombTells", unfollowed := true, recurses := true, apart := false }
def GolombTellsSaid : Prop := golombTellsRow.holds Try.pinned (OpenSpec.ofChange golombTellsSpec)

/-- ITS FALSE NEIGHBOUR: 'it returns false'. Refute it at one input. -/
def golombTellsWrong : ChangeSpec := { name := "golombTells", fn := fun _ => fun
  | [d1, d2, d3, d4] => { results := [.lit (.bool false)], args := [d1, d2, d3, d4] }
  | _ => none }
def GolombTellsWrongFalsely : Prop := golombTellsRow.holds Try.pinned (OpenSpec.ofChange golombTellsWrong)

/-- 'lampwrightlaw.GolombZeta': WHATEVER THE INPUT: true; the input reads as it did. -/
def golombZetaSpec : ChangeSpec := { name := "golombZeta", fn := fun _ => fun
  | [d1, d2, d3, d4] => { results := [.lit (.bool true)], args := [d1, d2, d3, d4] }
  | _ => none }
def golombZetaRow : OpenClaim := { program := "ytcacbekdghlncaa", sum := "76a18261f8b904f2dd2a0c5910b554e8393904066626946fd796ab9875eac518", func := "lampwright/lampwrightlaw.GolombZeta", spec := "golombZeta", unfollowed := true, recurses := true, apart := false }
def GolombZetaSaid : Prop := golombZetaRow.holds Try.pinned (OpenSpec.ofChange golombZetaSpec)

/-- ITS FALSE NEIGHBOUR: 'it returns false'. Refute it at one input. -/
def golombZetaWrong : ChangeSpec := { name := "golombZeta", fn := fun _ => fun
  | [d1, d2, d3, d4] => { results := [.lit (.bool false)], args := [d1, d2, d3, d4] }
  | _ => none }
def GolombZetaWrongFalsely : Prop := golombZetaRow.holds Try.pinned (OpenSpec.ofChange golombZetaWrong)

/-- 'lampwrightlaw.GolombBack': WHATEVER THE INPUT: true; the input reads as it did. -/
def golombBackSpec : ChangeSpec := { name := "golombBack", fn := fun _ => fun
  | [d1, d2, d3, d4] => { results := [.lit (.bool true)], args := [d1, d2, d3, d4] }
  | _ => none }
def golombBackRow : OpenClaim := { program := "ytcacbekdghlncaa", sum := "76a18261f8b904f2dd2a0c5910b554e8393904066626946fd796ab9875eac518", func := "lampwright/lampwrightlaw.GolombBack", spec := "golombBack", unfollowed := true, recurses := true, apart := false }
def GolombBackSaid : Prop := golombBackRow.holds Try.pinned (OpenSpec.ofChange golombBackSpec)

/-- ITS FALSE NEIGHBOUR: 'it returns false'. Refute it at one input. -/
def golombBackWrong : ChangeSpec := { name := "golombBack", fn := fun _ => fun
  | [d1, d2, d3, d4] => { results := [.lit (.bool false)], args := [d1, d2, d3, d4] }
  | _ => none }
def GolombBackWrongFalsely : Prop := golombBackRow.holds Try.pinned (OpenSpec.ofChange golombBackWrong)

/-- 'lampwrightlaw.GolombSame': WHATEVER THE INPUT: true; the input reads as it did. -/
def golombSameSpec : ChangeSpec := { name := "golombSame", fn := fun _ => fun
  | [d] => { results := [.lit (.bool true)], args := [d] }
  | _ => none }
def golombSameRow : OpenClaim := { program := "ytcacbekdghlncaa", sum := "76a18261f8b904f2dd2a0c5910b554e8393904066626946fd796ab9875eac518", func := "lampwright/lampwrightlaw.GolombSame", spec := "golombSame", unfollowed := true, recurses := true, apart := false }
def GolombSameSaid : Prop := golombSameRow.holds Try.pinned (OpenSpec.ofChange golombSameSpec)

/-- ITS FALSE NEIGHBOUR: 'it returns false'. Refute it at one input. -/
def golombSameWrong : ChangeSpec := { name := "golombSame", fn := fun _ => fun
  | [d] => { results := [.lit (.bool false)], args := [d] }
  | _ => none }
def GolombSameWrongFalsely : Prop := golombSameRow.holds Try.pinned (OpenSpec.ofChange golombSameWrong)

/-- 'lampwrightlaw.GolombFull': WHATEVER THE INPUT: true; the input reads as it did. -/
def golombFullSpec : ChangeSpec := { name := "golombFull", fn := fun _ => fun
  | [d] => { results := [.lit (.bool true)], args := [d] }
  | _ => none }
def golombFullRow : OpenClaim := { program := "ytcacbekdghlncaa", sum := "76a18261f8b904f2dd2a0c5910b554e8393904066626946fd796ab9875eac518", func := "lampwright/lampwrightlaw.GolombFull", spec := "golombFull", unfollowed := true, recurses := true, apart := false }
def GolombFullSaid : Prop := golombFullRow.holds Try.pinned (OpenSpec.ofChange golombFullSpec)

/-- ITS FALSE NEIGHBOUR: 'it returns false'. Refute it at one input. -/
def golombFullWrong : ChangeSpec := { name := "golombFull", fn := fun _ => fun
  | [d] => { results := [.lit (.bool false)], args := [d] }
  | _ => none }
def GolombFullWrongFalsely : Prop := golombFullRow.holds Try.pinned (OpenSpec.ofChange golombFullWrong)

/-- 'lampwrightlaw.GolombRises': WHATEVER THE INPUT: true; the input reads as it did. -/
def golombRisesSpec : ChangeSpec := { name := "golombRises", fn := fun _ => fun
  | [d1, d2, d3] => { results := [.lit (.bool true)], args := [d1, d2, d3] }
  | _ => none }
def golombRisesRow : OpenClaim := { program := "ytcacbekdghlncaa", sum := "76a18261f8b904f2dd2a0c5910b554e8393904066626946fd796ab9875eac518", func := "lampwright/lampwrightlaw.GolombRises", spec := "golombRises", unfollowed := true, recurses := true, apart := false }
def GolombRisesSaid : Prop := golombRisesRow.holds Try.pinned (OpenSpec.ofChange golombRisesSpec)

/-- ITS FALSE NEIGHBOUR: 'it returns false'. Refute it at one input. -/
def golombRisesWrong : ChangeSpec := { name := "golombRises", fn := fun _ => fun
  | [d1, d2, d3] => { results := [.lit (.bool false)], args := [d1, d2, d3] }
  | _ => none }
def GolombRisesWrongFalsely : Prop := golombRisesRow.holds Try.pinned (OpenSpec.ofChange golombRisesWrong)

/-- 'lampwrightlaw.GolombApart': WHATEVER THE INPUT: true; the input reads as it did. -/
def golombApartSpec : ChangeSpec := { name := "golombApart", fn := fun _ => fun
  | [d1, d2, d3, d4] => { results := [.lit (.bool true)], args := [d1, d2, d3, d4] }
  | _ => none }
def golombApartRow : OpenClaim := { program := "ytcacbekdghlncaa", sum := "76a18261f8b904f2dd2a0c5910b554e8393904066626946fd796ab9875eac518", func := "lampwright/lampwrightlaw.GolombApart", spec := "golombApart", unfollowed := true, recurses := true, apart := false }
def GolombApartSaid : Prop := golombApartRow.holds Try.pinned (OpenSpec.ofChange golombApartSpec)

/-- ITS FALSE NEIGHBOUR: 'it returns false'. Refute it at one input. -/
def golombApartWrong : ChangeSpec := { name := "golombApart", fn := fun _ => fun
  | [d1, d2, d3, d4] => { results := [.lit (.bool false)], args := [d1, d2, d3, d4] }
  | _ => none }
def GolombApartWrongFalsely : Prop := golombApartRow.holds Try.pinned (OpenSpec.ofChange golombApartWrong)

/- THE SECOND FORM. 'bulk': how many values and letters a reading holds, each counted each time it is reached (what is shared counts as often as it is met; a slice's spare places count too). A statement '..UptoSaid' is the law's where the arguments, and the package variables that the reading takes, are together of bulk at most 1048576: NARROWER than '..Said'. Prove '..Said' where nothing that the law and all that it calls make is longer than what came in: it says more and counts as full. Else prove '..UptoSaid'. A law counts once. -/
mutual
def uptoBulk {H : Type} : DataW H → Nat
  | .lit (.string bytes) => bytes.length + 1
  | .lit _ => 1
  | .nil => 1
  | .ptr d => uptoBulk d + 1
  | .slice elems spare => uptoBulkAll elems + uptoBulkAll spare + 1
  | .agg parts => uptoBulkAll parts + 1
  | .iface _ d => uptoBulk d + 1
  | .map entries => uptoBulkEntries entries + 1
  | .held _ => 1
def uptoBulkAll {H : Type} : List (DataW H) → Nat
  | [] => 0
  | d :: r => uptoBulk d + uptoBulkAll r
def uptoBulkEntries {H : Type} : List (Lit × DataW H) → Nat
  | [] => 0
  | x :: r => uptoBulkEntry x + uptoBulkEntries r
def uptoBulkEntry {H : Type} : Lit × DataW H → Nat
  | (.string bytes, d) => bytes.length + uptoBulk d + 1
  | (_, d) => uptoBulk d + 1
 end
def uptoSmall : (H : Type) → List (DataW H) → Bool := fun _ ds => decide (uptoBulkAll ds ≤ 1048576)
def OpenSpec.upto (s : _root_.Go.ChangeSpec) : _root_.Go.OpenSpec := { _root_.Go.OpenSpec.ofChange s with cond := some uptoSmall }

/-- 'lampwrightlaw.EliasTells', WHERE WHAT IT READS IS OF BULK AT MOST 1048576: true; the input reads as it did. -/
def eliasTellsUptoRow : OpenClaim := { program := "ytcacbekdghlncaa", sum := "76a18261f8b904f2dd2a0c5910b554e8393904066626946fd796ab9875eac518", func := "lampwright/lampwrightlaw.EliasTells", spec := "eliasTells", unfollowed := true, recurses := true, apart := false, narrowed := true }
def EliasTellsUptoSaid : Prop := eliasTellsUptoRow.holds Try.pinned (OpenSpec.upto eliasTellsSpec)

/-- 'lampwrightlaw.EliasBack', WHERE WHAT IT READS IS OF BULK AT MOST 1048576: true; the input reads as it did. -/
def eliasBackUptoRow : OpenClaim := { program := "ytcacbekdghlncaa", sum := "76a18261f8b904f2dd2a0c5910b554e8393904066626946fd796ab9875eac518", func := "lampwright/lampwrightlaw.EliasBack", spec := "eliasBack", unfollowed := true, recurses := true, apart := false, narrowed := true }
def EliasBackUptoSaid : Prop := eliasBackUptoRow.holds Try.pinned (OpenSpec.upto eliasBackSpec)

/-- 'lampwrightlaw.EliasLong', WHERE WHAT IT READS IS OF BULK AT MOST 1048576: true; the input reads as it did. -/
def eliasLongUptoRow : OpenClaim := { program := "ytcacbekdghlncaa", sum := "76a18261f8b904f2dd2a0c5910b554e8393904066626946fd796ab9875eac518", func := "lampwright/lampwrightlaw.EliasLong", spec := "eliasLong", unfollowed := true, recurses := true, apart := false, narrowed := true }
def EliasLongUptoSaid : Prop := eliasLongUptoRow.holds Try.pinned (OpenSpec.upto eliasLongSpec)

/-- 'lampwrightlaw.EliasApart', WHERE WHAT IT READS IS OF BULK AT MOST 1048576: true; the input reads as it did. -/
def eliasApartUptoRow : OpenClaim := { program := "ytcacbekdghlncaa", sum := "76a18261f8b904f2dd2a0c5910b554e8393904066626946fd796ab9875eac518", func := "lampwright/lampwrightlaw.EliasApart", spec := "eliasApart", unfollowed := true, recurses := true, apart := false, narrowed := true }
def EliasApartUptoSaid : Prop := eliasApartUptoRow.holds Try.pinned (OpenSpec.upto eliasApartSpec)

/-- 'lampwrightlaw.EliasShape', WHERE WHAT IT READS IS OF BULK AT MOST 1048576: true; the input reads as it did. -/
def eliasShapeUptoRow : OpenClaim := { program := "ytcacbekdghlncaa", sum := "76a18261f8b904f2dd2a0c5910b554e8393904066626946fd796ab9875eac518", func := "lampwright/lampwrightlaw.EliasShape", spec := "eliasShape", unfollowed := true, recurses := true, apart := false, narrowed := true }
def EliasShapeUptoSaid : Prop := eliasShapeUptoRow.holds Try.pinned (OpenSpec.upto eliasShapeSpec)

/-- 'lampwrightlaw.GolombTells', WHERE WHAT IT READS IS OF BULK AT MOST 1048576: true; the input reads as it did. -/
def golombTellsUptoRow : OpenClaim := { program := "ytcacbekdghlncaa", sum := "76a18261f8b904f2dd2a0c5910b554e8393904066626946fd796ab9875eac518", func := "lampwright/lampwrightlaw.GolombTells", spec := "golombTells", unfollowed := true, recurses := true, apart := false, narrowed := true }
def GolombTellsUptoSaid : Prop := golombTellsUptoRow.holds Try.pinned (OpenSpec.upto golombTellsSpec)

/-- 'lampwrightlaw.GolombZeta', WHERE WHAT IT READS IS OF BULK AT MOST 1048576: true; the input reads as it did. -/
def golombZetaUptoRow : OpenClaim := { program := "ytcacbekdghlncaa", sum := "76a18261f8b904f2dd2a0c5910b554e8393904066626946fd796ab9875eac518", func := "lampwright/lampwrightlaw.GolombZeta", spec := "golombZeta", unfollowed := true, recurses := true, apart := false, narrowed := true }
def GolombZetaUptoSaid : Prop := golombZetaUptoRow.holds Try.pinned (OpenSpec.upto golombZetaSpec)

/-- 'lampwrightlaw.GolombBack', WHERE WHAT IT READS IS OF BULK AT MOST 1048576: true; the input reads as it did. -/
def golombBackUptoRow : OpenClaim := { program := "ytcacbekdghlncaa", sum := "76a18261f8b904f2dd2a0c5910b554e8393904066626946fd796ab9875eac518", func := "lampwright/lampwrightlaw.GolombBack", spec := "golombBack", unfollowed := true, recurses := true, apart := false, narrowed := true }
def GolombBackUptoSaid : Prop := golombBackUptoRow.holds Try.pinned (OpenSpec.upto golombBackSpec)

/-- 'lampwrightlaw.GolombSame', WHERE WHAT IT READS IS OF BULK AT MOST 1048576: true; the input reads as it did. -/
def golombSameUptoRow : OpenClaim := { program := "ytcacbekdghlncaa", sum := "76a18261f8b904f2dd2a0c5910b554e8393904066626946fd796ab9875eac518", func := "lampwright/lampwrightlaw.GolombSame", spec := "golombSame", unfollowed := true, recurses := true, apart := false, narrowed := true }
def GolombSameUptoSaid : Prop := golombSameUptoRow.holds Try.pinned (OpenSpec.upto golombSameSpec)

/-- 'lampwrightlaw.GolombFull', WHERE WHAT IT READS IS OF BULK AT MOST 1048576: true; the input reads as it did. -/
def golombFullUptoRow : OpenClaim := { program := "ytcacbekdghlncaa", sum := "76a18261f8b904f2dd2a0c5910b554e8393904066626946fd796ab9875eac518", func := "lampwright/lampwrightlaw.GolombFull", spec := "golombFull", unfollowed := true, recurses := true, apart := false, narrowed := true }
def GolombFullUptoSaid : Prop := golombFullUptoRow.holds Try.pinned (OpenSpec.upto golombFullSpec)

/-- 'lampwrightlaw.GolombRises', WHERE WHAT IT READS IS OF BULK AT MOST 1048576: true; the input reads as it did. -/
def golombRisesUptoRow : OpenClaim := { program := "ytcacbekdghlncaa", sum := "76a18261f8b904f2dd2a0c5910b554e8393904066626946fd796ab9875eac518", func := "lampwright/lampwrightlaw.GolombRises", spec := "golombRises", unfollowed := true, recurses := true, apart := false, narrowed := true }
def GolombRisesUptoSaid : Prop := golombRisesUptoRow.holds Try.pinned (OpenSpec.upto golombRisesSpec)

/-- 'lampwrightlaw.GolombApart', WHERE WHAT IT READS IS OF BULK AT MOST 1048576: true; the input reads as it did. -/
def golombApartUptoRow : OpenClaim := { program := "ytcacbekdghlncaa", sum := "76a18261f8b904f2dd2a0c5910b554e8393904066626946fd796ab9875eac518", func := "lampwright/lampwrightlaw.GolombApart", spec := "golombApart", unfollowed := true, recurses := true, apart := false, narrowed := true }
def GolombApartUptoSaid : Prop := golombApartUptoRow.holds Try.pinned (OpenSpec.upto golombApartSpec)

end Rows
end Go.Proofs.Ytcacbekdghlncaa
