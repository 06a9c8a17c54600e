/-
  No cell of these rows narrows 'for every input' (looked for: loops, veiled, ifaces, maps, wideKeys, modest, calm, conditions, laid).
  DERIVED. THE GIVEN ROWS OF THIS SEAT. 12 by the template 'for every input the law returns true; each argument reads behind the call as it read before'; 0 by the template 'total and deterministic' (their statements: YtgibbokhdfblmaaTotals.lean).
  GIVEN WITH THE SEED: the statements are not yours to turn. If you find one false, say at which input.
  Laid BY PROGRAM, IN A SANDBOX (cutbox-rows.mjs): the forced cells as the released guide's own fill.sh prints them over the translation 68e954c895dc590f… (all of the seat's roots in one cut). By AI agents, Wed Nov 11 2026. No macro, syntax, notation, axiom, sorry.
-/
import Derived.Test.YtgibbokhdfblmaaChecked
import GoSem.Claim
import GoSem.ClaimJoined
import GoSem.ClaimMapViews
import Derived.JoinedTies
import Derived.KernelRfl
namespace Go.Proofs.Ytgibbokhdfblmaa
/- THE CELL 'sum', in the pinned program and in every row, IS THE sha256 OF THE DUMP (.gsa) THAT YtgibbokhdfblmaaProg.lean LOADS. Nothing in Lean hashes anything: it is a label: what it is worth is what the hold of that sum in a sandbox is worth. -/
noncomputable def Try.pinned : Pinned := { name := "ytgibbokhdfblmaa", sum := "68e954c895dc590f78216c38f377d0cafa154ddaae6e670dd6ef1c39f50ff808", checked := Try.checked }
namespace Rows
def none {H : Type} : Left H := { results := [], args := [] }

/-- 'lampwrightlaw.UnaryTells': WHATEVER THE INPUT: true; the input reads as it did. -/
def unaryTellsSpec : ChangeSpec := { name := "unaryTells", fn := fun _ => fun
  | [d1, d2, d3, d4, d5] => { results := [.lit (.bool true)], args := [d1, d2, d3, d4, d5] }
  | _ => none }
def unaryTellsRow : OpenClaim := { program := "ytgibbokhdfblmaa", sum := "68e954c895dc590f78216c38f377d0cafa154ddaae6e670dd6ef1c39f50ff808", func := "lampwright/lampwrightlaw.UnaryTells", spec := "unaryTells", unfollowed := true, recurses := true, apart := false }
def UnaryTellsSaid : Prop := unaryTellsRow.holds Try.pinned (OpenSpec.ofChange unaryTellsSpec)

/-- ITS FALSE NEIGHBOUR: 'it returns false'. Refute it at one input. -/
def unaryTellsWrong : ChangeSpec := { name := "unaryTells", fn := fun _ => fun
  | [d1, d2, d3, d4, d5] => { results := [.lit (.bool false)], args := [d1, d2, d3, d4, d5] }
  | _ => none }
def UnaryTellsWrongFalsely : Prop := unaryTellsRow.holds Try.pinned (OpenSpec.ofChange unaryTellsWrong)

/-- 'lampwrightlaw.RankTells': WHATEVER THE INPUT: true; the input reads as it did. -/
def rankTellsSpec : ChangeSpec := { name := "rankTells", fn := fun _ => fun
  | [d1, d2, d3, d4, d5, d6] => { results := [.lit (.bool true)], args := [d1, d2, d3, d4, d5, d6] }
  | _ => none }
def rankTellsRow : OpenClaim := { program := "ytgibbokhdfblmaa", sum := "68e954c895dc590f78216c38f377d0cafa154ddaae6e670dd6ef1c39f50ff808", func := "lampwright/lampwrightlaw.RankTells", spec := "rankTells", unfollowed := true, recurses := true, apart := false }
def RankTellsSaid : Prop := rankTellsRow.holds Try.pinned (OpenSpec.ofChange rankTellsSpec)

/-- ITS FALSE NEIGHBOUR: 'it returns false'. Refute it at one input. -/
def rankTellsWrong : ChangeSpec := { name := "rankTells", fn := fun _ => fun
  | [d1, d2, d3, d4, d5, d6] => { results := [.lit (.bool false)], args := [d1, d2, d3, d4, d5, d6] }
  | _ => none }
def RankTellsWrongFalsely : Prop := rankTellsRow.holds Try.pinned (OpenSpec.ofChange rankTellsWrong)

/-- 'lampwrightlaw.RankBack': WHATEVER THE INPUT: true; the input reads as it did. -/
def rankBackSpec : ChangeSpec := { name := "rankBack", fn := fun _ => fun
  | [d1, d2, d3] => { results := [.lit (.bool true)], args := [d1, d2, d3] }
  | _ => none }
def rankBackRow : OpenClaim := { program := "ytgibbokhdfblmaa", sum := "68e954c895dc590f78216c38f377d0cafa154ddaae6e670dd6ef1c39f50ff808", func := "lampwright/lampwrightlaw.RankBack", spec := "rankBack", unfollowed := true, recurses := true, apart := false }
def RankBackSaid : Prop := rankBackRow.holds Try.pinned (OpenSpec.ofChange rankBackSpec)

/-- ITS FALSE NEIGHBOUR: 'it returns false'. Refute it at one input. -/
def rankBackWrong : ChangeSpec := { name := "rankBack", fn := fun _ => fun
  | [d1, d2, d3] => { results := [.lit (.bool false)], args := [d1, d2, d3] }
  | _ => none }
def RankBackWrongFalsely : Prop := rankBackRow.holds Try.pinned (OpenSpec.ofChange rankBackWrong)

/-- 'lampwrightlaw.RankBy': WHATEVER THE INPUT: true; the input reads as it did. -/
def rankBySpec : ChangeSpec := { name := "rankBy", fn := fun _ => fun
  | [d1, d2, d3, d4] => { results := [.lit (.bool true)], args := [d1, d2, d3, d4] }
  | _ => none }
def rankByRow : OpenClaim := { program := "ytgibbokhdfblmaa", sum := "68e954c895dc590f78216c38f377d0cafa154ddaae6e670dd6ef1c39f50ff808", func := "lampwright/lampwrightlaw.RankBy", spec := "rankBy", unfollowed := true, recurses := true, apart := false }
def RankBySaid : Prop := rankByRow.holds Try.pinned (OpenSpec.ofChange rankBySpec)

/-- ITS FALSE NEIGHBOUR: 'it returns false'. Refute it at one input. -/
def rankByWrong : ChangeSpec := { name := "rankBy", fn := fun _ => fun
  | [d1, d2, d3, d4] => { results := [.lit (.bool false)], args := [d1, d2, d3, d4] }
  | _ => none }
def RankByWrongFalsely : Prop := rankByRow.holds Try.pinned (OpenSpec.ofChange rankByWrong)

/-- 'lampwrightlaw.RankParts': WHATEVER THE INPUT: true; the input reads as it did. -/
def rankPartsSpec : ChangeSpec := { name := "rankParts", fn := fun _ => fun
  | [d1, d2, d3] => { results := [.lit (.bool true)], args := [d1, d2, d3] }
  | _ => none }
def rankPartsRow : OpenClaim := { program := "ytgibbokhdfblmaa", sum := "68e954c895dc590f78216c38f377d0cafa154ddaae6e670dd6ef1c39f50ff808", func := "lampwright/lampwrightlaw.RankParts", spec := "rankParts", unfollowed := true, recurses := true, apart := false }
def RankPartsSaid : Prop := rankPartsRow.holds Try.pinned (OpenSpec.ofChange rankPartsSpec)

/-- ITS FALSE NEIGHBOUR: 'it returns false'. Refute it at one input. -/
def rankPartsWrong : ChangeSpec := { name := "rankParts", fn := fun _ => fun
  | [d1, d2, d3] => { results := [.lit (.bool false)], args := [d1, d2, d3] }
  | _ => none }
def RankPartsWrongFalsely : Prop := rankPartsRow.holds Try.pinned (OpenSpec.ofChange rankPartsWrong)

/-- 'lampwrightlaw.RankEnds': WHATEVER THE INPUT: true; the input reads as it did. -/
def rankEndsSpec : ChangeSpec := { name := "rankEnds", fn := fun _ => fun
  | [d1, d2] => { results := [.lit (.bool true)], args := [d1, d2] }
  | _ => none }
def rankEndsRow : OpenClaim := { program := "ytgibbokhdfblmaa", sum := "68e954c895dc590f78216c38f377d0cafa154ddaae6e670dd6ef1c39f50ff808", func := "lampwright/lampwrightlaw.RankEnds", spec := "rankEnds", unfollowed := true, recurses := true, apart := false }
def RankEndsSaid : Prop := rankEndsRow.holds Try.pinned (OpenSpec.ofChange rankEndsSpec)

/-- ITS FALSE NEIGHBOUR: 'it returns false'. Refute it at one input. -/
def rankEndsWrong : ChangeSpec := { name := "rankEnds", fn := fun _ => fun
  | [d1, d2] => { results := [.lit (.bool false)], args := [d1, d2] }
  | _ => none }
def RankEndsWrongFalsely : Prop := rankEndsRow.holds Try.pinned (OpenSpec.ofChange rankEndsWrong)

/-- 'lampwrightlaw.FanoTells': WHATEVER THE INPUT: true; the input reads as it did. -/
def fanoTellsSpec : ChangeSpec := { name := "fanoTells", fn := fun _ => fun
  | [d1, d2, d3, d4] => { results := [.lit (.bool true)], args := [d1, d2, d3, d4] }
  | _ => none }
def fanoTellsRow : OpenClaim := { program := "ytgibbokhdfblmaa", sum := "68e954c895dc590f78216c38f377d0cafa154ddaae6e670dd6ef1c39f50ff808", func := "lampwright/lampwrightlaw.FanoTells", spec := "fanoTells", unfollowed := true, recurses := true, apart := false }
def FanoTellsSaid : Prop := fanoTellsRow.holds Try.pinned (OpenSpec.ofChange fanoTellsSpec)

/-- ITS FALSE NEIGHBOUR: 'it returns false'. Refute it at one input. -/
def fanoTellsWrong : ChangeSpec := { name := "fanoTells", fn := fun _ => fun
  | [d1, d2, d3, d4] => { results := [.lit (.bool false)], args := [d1, d2, d3, d4] }
  | _ => none }
def FanoTellsWrongFalsely : Prop := fanoTellsRow.holds Try.pinned (OpenSpec.ofChange fanoTellsWrong)

/-- 'lampwrightlaw.FanoBack': WHATEVER THE INPUT: true; the input reads as it did. -/
def fanoBackSpec : ChangeSpec := { name := "fanoBack", fn := fun _ => fun
  | [d1, d2, d3] => { results := [.lit (.bool true)], args := [d1, d2, d3] }
  | _ => none }
def fanoBackRow : OpenClaim := { program := "ytgibbokhdfblmaa", sum := "68e954c895dc590f78216c38f377d0cafa154ddaae6e670dd6ef1c39f50ff808", func := "lampwright/lampwrightlaw.FanoBack", spec := "fanoBack", unfollowed := true, recurses := true, apart := false }
def FanoBackSaid : Prop := fanoBackRow.holds Try.pinned (OpenSpec.ofChange fanoBackSpec)

/-- ITS FALSE NEIGHBOUR: 'it returns false'. Refute it at one input. -/
def fanoBackWrong : ChangeSpec := { name := "fanoBack", fn := fun _ => fun
  | [d1, d2, d3] => { results := [.lit (.bool false)], args := [d1, d2, d3] }
  | _ => none }
def FanoBackWrongFalsely : Prop := fanoBackRow.holds Try.pinned (OpenSpec.ofChange fanoBackWrong)

/-- 'lampwrightlaw.FanoRoom': WHATEVER THE INPUT: true; the input reads as it did. -/
def fanoRoomSpec : ChangeSpec := { name := "fanoRoom", fn := fun _ => fun
  | [d1, d2] => { results := [.lit (.bool true)], args := [d1, d2] }
  | _ => none }
def fanoRoomRow : OpenClaim := { program := "ytgibbokhdfblmaa", sum := "68e954c895dc590f78216c38f377d0cafa154ddaae6e670dd6ef1c39f50ff808", func := "lampwright/lampwrightlaw.FanoRoom", spec := "fanoRoom", unfollowed := true, recurses := true, apart := false }
def FanoRoomSaid : Prop := fanoRoomRow.holds Try.pinned (OpenSpec.ofChange fanoRoomSpec)

/-- ITS FALSE NEIGHBOUR: 'it returns false'. Refute it at one input. -/
def fanoRoomWrong : ChangeSpec := { name := "fanoRoom", fn := fun _ => fun
  | [d1, d2] => { results := [.lit (.bool false)], args := [d1, d2] }
  | _ => none }
def FanoRoomWrongFalsely : Prop := fanoRoomRow.holds Try.pinned (OpenSpec.ofChange fanoRoomWrong)

/-- 'lampwrightlaw.FanoGet': WHATEVER THE INPUT: true; the input reads as it did. -/
def fanoGetSpec : ChangeSpec := { name := "fanoGet", fn := fun _ => fun
  | [d1, d2, d3] => { results := [.lit (.bool true)], args := [d1, d2, d3] }
  | _ => none }
def fanoGetRow : OpenClaim := { program := "ytgibbokhdfblmaa", sum := "68e954c895dc590f78216c38f377d0cafa154ddaae6e670dd6ef1c39f50ff808", func := "lampwright/lampwrightlaw.FanoGet", spec := "fanoGet", unfollowed := true, recurses := true, apart := false }
def FanoGetSaid : Prop := fanoGetRow.holds Try.pinned (OpenSpec.ofChange fanoGetSpec)

/-- ITS FALSE NEIGHBOUR: 'it returns false'. Refute it at one input. -/
def fanoGetWrong : ChangeSpec := { name := "fanoGet", fn := fun _ => fun
  | [d1, d2, d3] => { results := [.lit (.bool false)], args := [d1, d2, d3] }
  | _ => none }
def FanoGetWrongFalsely : Prop := fanoGetRow.holds Try.pinned (OpenSpec.ofChange fanoGetWrong)

/-- 'lampwrightlaw.FanoNext': WHATEVER THE INPUT: true; the input reads as it did. -/
def fanoNextSpec : ChangeSpec := { name := "fanoNext", fn := fun _ => fun
  | [d1, d2, d3] => { results := [.lit (.bool true)], args := [d1, d2, d3] }
  | _ => none }
def fanoNextRow : OpenClaim := { program := "ytgibbokhdfblmaa", sum := "68e954c895dc590f78216c38f377d0cafa154ddaae6e670dd6ef1c39f50ff808", func := "lampwright/lampwrightlaw.FanoNext", spec := "fanoNext", unfollowed := true, recurses := true, apart := false }
def FanoNextSaid : Prop := fanoNextRow.holds Try.pinned (OpenSpec.ofChange fanoNextSpec)

/-- ITS FALSE NEIGHBOUR: 'it returns false'. Refute it at one input. -/
def fanoNextWrong : ChangeSpec := { name := "fanoNext", fn := fun _ => fun
  | [d1, d2, d3] => { results := [.lit (.bool false)], args := [d1, d2, d3] }
  | _ => none }
def FanoNextWrongFalsely : Prop := fanoNextRow.holds Try.pinned (OpenSpec.ofChange fanoNextWrong)

/-- 'lampwrightlaw.FanoSame': WHATEVER THE INPUT: true; the input reads as it did. -/
def fanoSameSpec : ChangeSpec := { name := "fanoSame", fn := fun _ => fun
  | [d1, d2, d3] => { results := [.lit (.bool true)], args := [d1, d2, d3] }
  | _ => none }
def fanoSameRow : OpenClaim := { program := "ytgibbokhdfblmaa", sum := "68e954c895dc590f78216c38f377d0cafa154ddaae6e670dd6ef1c39f50ff808", func := "lampwright/lampwrightlaw.FanoSame", spec := "fanoSame", unfollowed := true, recurses := true, apart := false }
def FanoSameSaid : Prop := fanoSameRow.holds Try.pinned (OpenSpec.ofChange fanoSameSpec)

/-- ITS FALSE NEIGHBOUR: 'it returns false'. Refute it at one input. -/
def fanoSameWrong : ChangeSpec := { name := "fanoSame", fn := fun _ => fun
  | [d1, d2, d3] => { results := [.lit (.bool false)], args := [d1, d2, d3] }
  | _ => none }
def FanoSameWrongFalsely : Prop := fanoSameRow.holds Try.pinned (OpenSpec.ofChange fanoSameWrong)

/- THE SECOND FORM. 'bulk': how many values and letters a reading holds, each counted each time it is reached (what is shared counts as often as it is met; a slice's spare places count too). A statement '..UptoSaid' is the law's where the arguments, and the package variables that the reading takes, are together of bulk at most 1048576: NARROWER than '..Said'. Prove '..Said' where nothing that the law and all that it calls make is longer than what came in: it says more and counts as full. Else prove '..UptoSaid'. A law counts once. -/
mutual
def uptoBulk {H : Type} : DataW H → Nat
  | .lit (.string bytes) => bytes.length + 1
  | .lit _ => 1
  | .nil => 1
  | .ptr d => uptoBulk d + 1
  | .slice elems spare => uptoBulkAll elems + uptoBulkAll spare + 1
  | .agg parts => uptoBulkAll parts + 1
  | .iface _ d => uptoBulk d + 1
  | .map entries => uptoBulkEntries entries + 1
  | .held _ => 1
def uptoBulkAll {H : Type} : List (DataW H) → Nat
  | [] => 0
  | d :: r => uptoBulk d + uptoBulkAll r
def uptoBulkEntries {H : Type} : List (Lit × DataW H) → Nat
  | [] => 0
  | x :: r => uptoBulkEntry x + uptoBulkEntries r
def uptoBulkEntry {H : Type} : Lit × DataW H → Nat
  | (.string bytes, d) => bytes.length + uptoBulk d + 1
  | (_, d) => uptoBulk d + 1
 end
def uptoSmall : (H : Type) → List (DataW H) → Bool := fun _ ds => decide (uptoBulkAll ds ≤ 1048576)
def OpenSpec.upto (s : _root_.Go.ChangeSpec) : _root_.Go.OpenSpec := { _root_.Go.OpenSpec.ofChange s with cond := some uptoSmall }

/-- 'lampwrightlaw.UnaryTells', WHERE WHAT IT READS IS OF BULK AT MOST 1048576: true; the input reads as it did. -/
def unaryTellsUptoRow : OpenClaim := { program := "ytgibbokhdfblmaa", sum := "68e954c895dc590f78216c38f377d0cafa154ddaae6e670dd6ef1c39f50ff808", func := "lampwright/lampwrightlaw.UnaryTells", spec := "unaryTells", unfollowed := true, recurses := true, apart := false, narrowed := true }
def UnaryTellsUptoSaid : Prop := unaryTellsUptoRow.holds Try.pinned (OpenSpec.upto unaryTellsSpec)

/-- 'lampwrightlaw.RankTells', WHERE WHAT IT READS IS OF BULK AT MOST 1048576: true; the input reads as it did. -/
def rankTellsUptoRow : OpenClaim := { program := "ytgibbokhdfblmaa", sum := "68e954c895dc590f78216c38f377d0cafa154ddaae6e670dd6ef1c39f50ff808", func := "lampwright/lampwrightlaw.RankTells", spec := "rankTells", unfollowed := true, recurses := true, apart := false, narrowed := true }
def RankTellsUptoSaid : Prop := rankTellsUptoRow.holds Try.pinned (OpenSpec.upto rankTellsSpec)

/-- 'lampwrightlaw.RankBack', WHERE WHAT IT READS IS OF BULK AT MOST 1048576: true; the input reads as it did. -/
def rankBackUptoRow : OpenClaim := { program := "ytgibbokhdfblmaa", sum := "68e954c895dc590f78216c38f377d0cafa154ddaae6e670dd6ef1c39f50ff808", func := "lampwright/lampwrightlaw.RankBack", spec := "rankBack", unfollowed := true, recurses := true, apart := false, narrowed := true }
def RankBackUptoSaid : Prop := rankBackUptoRow.holds Try.pinned (OpenSpec.upto rankBackSpec)

/-- 'lampwrightlaw.RankBy', WHERE WHAT IT READS IS OF BULK AT MOST 1048576: true; the input reads as it did. -/
def rankByUptoRow : OpenClaim := { program := "ytgibbokhdfblmaa", sum := "68e954c895dc590f78216c38f377d0cafa154ddaae6e670dd6ef1c39f50ff808", func := "lampwright/lampwrightlaw.RankBy", spec := "rankBy", unfollowed := true, recurses := true, apart := false, narrowed := true }
def RankByUptoSaid : Prop := rankByUptoRow.holds Try.pinned (OpenSpec.upto rankBySpec)

/-- 'lampwrightlaw.RankParts', WHERE WHAT IT READS IS OF BULK AT MOST 1048576: true; the input reads as it did. -/
def rankPartsUptoRow : OpenClaim := { program := "ytgibbokhdfblmaa", sum := "68e954c895dc590f78216c38f377d0cafa154ddaae6e670dd6ef1c39f50ff808", func := "lampwright/lampwrightlaw.RankParts", spec := "rankParts", unfollowed := true, recurses := true, apart := false, narrowed := true }
def RankPartsUptoSaid : Prop := rankPartsUptoRow.holds Try.pinned (OpenSpec.upto rankPartsSpec)

/-- 'lampwrightlaw.RankEnds', WHERE WHAT IT READS IS OF BULK AT MOST 1048576: true; the input reads as it did. -/
def rankEndsUptoRow : OpenClaim := { program := "ytgibbokhdfblmaa", sum := "68e954c895dc590f78216c38f377d0cafa154ddaae6e670dd6ef1c39f50ff808", func := "lampwright/lampwrightlaw.RankEnds", spec := "rankEnds", unfollowed := true, recurses := true, apart := false, narrowed := true }
def RankEndsUptoSaid : Prop := rankEndsUptoRow.holds Try.pinned (OpenSpec.upto rankEndsSpec)

/-- 'lampwrightlaw.FanoTells', WHERE WHAT IT READS IS OF BULK AT MOST 1048576: true; the input reads as it did. -/
def fanoTellsUptoRow : OpenClaim := { program := "ytgibbokhdfblmaa", sum := "68e954c895dc590f78216c38f377d0cafa154ddaae6e670dd6ef1c39f50ff808", func := "lampwright/lampwrightlaw.FanoTells", spec := "fanoTells", unfollowed := true, recurses := true, apart := false, narrowed := true }
def FanoTellsUptoSaid : Prop := fanoTellsUptoRow.holds Try.pinned (OpenSpec.upto fanoTellsSpec)

/-- 'lampwrightlaw.FanoBack', WHERE WHAT IT READS IS OF BULK AT MOST 1048576: true; the input reads as it did. -/
def fanoBackUptoRow : OpenClaim := { program := "ytgibbokhdfblmaa", sum := "68e954c895dc590f78216c38f377d0cafa154ddaae6e670dd6ef1c39f50ff808", func := "lampwright/lampwrightlaw.FanoBack", spec := "fanoBack", unfollowed := true, recurses := true, apart := false, narrowed := true }
def FanoBackUptoSaid : Prop := fanoBackUptoRow.holds Try.pinned (OpenSpec.upto fanoBackSpec)

/-- 'lampwrightlaw.FanoRoom', WHERE WHAT IT READS IS OF BULK AT MOST 1048576: true; the input reads as it did. -/
def fanoRoomUptoRow : OpenClaim := { program := "ytgibbokhdfblmaa", sum := "68e954c895dc590f78216c38f377d0cafa154ddaae6e670dd6ef1c39f50ff808", func := "lampwright/lampwrightlaw.FanoRoom", spec := "fanoRoom", unfollowed := true, recurses := true, apart := false, narrowed := true }
def FanoRoomUptoSaid : Prop := fanoRoomUptoRow.holds Try.pinned (OpenSpec.upto fanoRoomSpec)

/-- 'lampwrightlaw.FanoGet', WHERE WHAT IT READS IS OF BULK AT MOST 1048576: true; the input reads as it did. -/
def fanoGetUptoRow : OpenClaim := { program := "ytgibbokhdfblmaa", sum := "68e954c895dc590f78216c38f377d0cafa154ddaae6e670dd6ef1c39f50ff808", func := "lampwright/lampwrightlaw.FanoGet", spec := "fanoGet", unfollowed := true, recurses := true, apart := false, narrowed := true }
def FanoGetUptoSaid : Prop := fanoGetUptoRow.holds Try.pinned (OpenSpec.upto fanoGetSpec)

/-- 'lampwrightlaw.FanoNext', WHERE WHAT IT READS IS OF BULK AT MOST 1048576: true; the input reads as it did. -/
def fanoNextUptoRow : OpenClaim := { program := "ytgibbokhdfblmaa", sum := "68e954c895dc590f78216c38f377d0cafa154ddaae6e670dd6ef1c39f50ff808", func := "lampwright/lampwrightlaw.FanoNext", spec := "fanoNext", unfollowed := true, recurses := true, apart := false, narrowed := true }
def FanoNextUptoSaid : Prop := fanoNextUptoRow.holds Try.pinned (OpenSpec.upto fanoNextSpec)

/-- 'lampwrightlaw.FanoSame', WHERE WHAT IT READS IS OF BULK AT MOST 1048576: true; the input reads as it did. -/
def fanoSameUptoRow : OpenClaim := { program := "ytgibbokhdfblmaa", sum := "68e954c895dc590f78216c38f377d0cafa154ddaae6e670dd6ef1c39f50ff808", func := "lampwright/lampwrightlaw.FanoSame", spec := "fanoSame", unfollowed := true, recurses := true, apart := false, narrowed := true }
def FanoSameUptoSaid : Prop := fanoSameUptoRow.holds Try.pinned (OpenSpec.upto fanoSameSpec)

end Rows
end Go.Proofs.Ytgibbokhdfblmaa
