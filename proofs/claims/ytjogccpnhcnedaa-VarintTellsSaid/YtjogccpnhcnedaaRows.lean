/-
  No cell of these rows narrows 'for every input' (looked for: loops, veiled, ifaces, maps, wideKeys, modest, calm, conditions, laid).
  DERIVED. THE GIVEN ROWS OF THIS SEAT. 8 by the template 'for every input the law returns true; each argument reads behind the call as it read before'; 0 by the template 'total and deterministic' (their statements: YtjogccpnhcnedaaTotals.lean).
  GIVEN WITH THE SEED: the statements are not yours to turn. If you find one false, say at which input.
  Laid BY PROGRAM, IN A SANDBOX (cutbox-rows.mjs): the forced cells as the released guide's own fill.sh prints them over the translation d04057b2b24e09cf… (all of the seat's roots in one cut). By AI agents, Wed Nov 11 2026. No macro, syntax, notation, axiom, sorry.
-/
import Derived.Test.YtjogccpnhcnedaaChecked
import GoSem.Claim
import GoSem.ClaimJoined
import GoSem.ClaimMapViews
import Derived.JoinedTies
import Derived.KernelRfl
namespace Go.Proofs.Ytjogccpnhcnedaa
/- THE CELL 'sum', in the pinned program and in every row, IS THE sha256 OF THE DUMP (.gsa) THAT YtjogccpnhcnedaaProg.lean LOADS. Nothing in Lean hashes anything: it is a label: what it is worth is what the hold of that sum in a sandbox is worth. -/
noncomputable def Try.pinned : Pinned := { name := "ytjogccpnhcnedaa", sum := "d04057b2b24e09cfb73f3918bbbece85d8ae04af85d8e0c9c529f8ccd3f2bf0a", checked := Try.checked }
namespace Rows
def none {H : Type} : Left H := { results := [], args := [] }

/-- 'lampwrightlaw.GolombTells': WHATEVER THE INPUT: true; the input reads as it did. -/
def golombTellsSpec : ChangeSpec := { name := "golombTells", fn := fun _ => fun
  | [d1, d2, d3, d4] => { results := [.lit (.bool true)], args := [d1, d2, d3, d4] }
  | _ => none }
def golombTellsRow : OpenClaim := { program := "ytjogccpnhcnedaa", sum := "d04057b2b24e09cfb73f3918bbbece85d8ae04af85d8e0c9c529f8ccd3f2bf0a", func := "lampwright/lampwrightlaw.GolombTells", spec := "golombTells", unfollowed := true, recurses := true, apart := false }
def GolombTellsSaid : Prop := golombTellsRow.holds Try.pinned (OpenSpec.ofChange golombTellsSpec)

/-- ITS FALSE NEIGHBOUR: 'it returns false'. Refute it at one input. -/
def golombTellsWrong : ChangeSpec := { name := "golombTells", fn := fun _ => fun
  | [d1, d2, d3, d4] => { results := [.lit (.bool false)], args := [d1, d2, d3, d4] }
  | _ => none }
def GolombTellsWrongFalsely : Prop := golombTellsRow.holds Try.pinned (OpenSpec.ofChange golombTellsWrong)

/-- 'lampwrightlaw.GolombSame': WHATEVER THE INPUT: true; the input reads as it did. -/
def golombSameSpec : ChangeSpec := { name := "golombSame", fn := fun _ => fun
  | [d] => { results := [.lit (.bool true)], args := [d] }
  | _ => none }
def golombSameRow : OpenClaim := { program := "ytjogccpnhcnedaa", sum := "d04057b2b24e09cfb73f3918bbbece85d8ae04af85d8e0c9c529f8ccd3f2bf0a", func := "lampwright/lampwrightlaw.GolombSame", spec := "golombSame", unfollowed := true, recurses := true, apart := false }
def GolombSameSaid : Prop := golombSameRow.holds Try.pinned (OpenSpec.ofChange golombSameSpec)

/-- ITS FALSE NEIGHBOUR: 'it returns false'. Refute it at one input. -/
def golombSameWrong : ChangeSpec := { name := "golombSame", fn := fun _ => fun
  | [d] => { results := [.lit (.bool false)], args := [d] }
  | _ => none }
def GolombSameWrongFalsely : Prop := golombSameRow.holds Try.pinned (OpenSpec.ofChange golombSameWrong)

/-- 'lampwrightlaw.VarintTells': WHATEVER THE INPUT: true; the input reads as it did. -/
def varintTellsSpec : ChangeSpec := { name := "varintTells", fn := fun _ => fun
  | [d1, d2, d3, d4] => { results := [.lit (.bool true)], args := [d1, d2, d3, d4] }
  | _ => none }
def varintTellsRow : OpenClaim := { program := "ytjogccpnhcnedaa", sum := "d04057b2b24e09cfb73f3918bbbece85d8ae04af85d8e0c9c529f8ccd3f2bf0a", func := "lampwright/lampwrightlaw.VarintTells", spec := "varintTells", unfollowed := true, recurses := true, apart := false }
def VarintTellsSaid : Prop := varintTellsRow.holds Try.pinned (OpenSpec.ofChange varintTellsSpec)

/-- ITS FALSE NEIGHBOUR: 'it returns false'. Refute it at one input. -/
def varintTellsWrong : ChangeSpec := { name := "varintTells", fn := fun _ => fun
  | [d1, d2, d3, d4] => { results := [.lit (.bool false)], args := [d1, d2, d3, d4] }
  | _ => none }
def VarintTellsWrongFalsely : Prop := varintTellsRow.holds Try.pinned (OpenSpec.ofChange varintTellsWrong)

/-- 'lampwrightlaw.VarintFold': WHATEVER THE INPUT: true; the input reads as it did. -/
def varintFoldSpec : ChangeSpec := { name := "varintFold", fn := fun _ => fun
  | [d1, d2, d3] => { results := [.lit (.bool true)], args := [d1, d2, d3] }
  | _ => none }
def varintFoldRow : OpenClaim := { program := "ytjogccpnhcnedaa", sum := "d04057b2b24e09cfb73f3918bbbece85d8ae04af85d8e0c9c529f8ccd3f2bf0a", func := "lampwright/lampwrightlaw.VarintFold", spec := "varintFold", unfollowed := true, recurses := true, apart := false }
def VarintFoldSaid : Prop := varintFoldRow.holds Try.pinned (OpenSpec.ofChange varintFoldSpec)

/-- ITS FALSE NEIGHBOUR: 'it returns false'. Refute it at one input. -/
def varintFoldWrong : ChangeSpec := { name := "varintFold", fn := fun _ => fun
  | [d1, d2, d3] => { results := [.lit (.bool false)], args := [d1, d2, d3] }
  | _ => none }
def VarintFoldWrongFalsely : Prop := varintFoldRow.holds Try.pinned (OpenSpec.ofChange varintFoldWrong)

/-- 'lampwrightlaw.VarintBack': WHATEVER THE INPUT: true; the input reads as it did. -/
def varintBackSpec : ChangeSpec := { name := "varintBack", fn := fun _ => fun
  | [d1, d2] => { results := [.lit (.bool true)], args := [d1, d2] }
  | _ => none }
def varintBackRow : OpenClaim := { program := "ytjogccpnhcnedaa", sum := "d04057b2b24e09cfb73f3918bbbece85d8ae04af85d8e0c9c529f8ccd3f2bf0a", func := "lampwright/lampwrightlaw.VarintBack", spec := "varintBack", unfollowed := true, recurses := true, apart := false }
def VarintBackSaid : Prop := varintBackRow.holds Try.pinned (OpenSpec.ofChange varintBackSpec)

/-- ITS FALSE NEIGHBOUR: 'it returns false'. Refute it at one input. -/
def varintBackWrong : ChangeSpec := { name := "varintBack", fn := fun _ => fun
  | [d1, d2] => { results := [.lit (.bool false)], args := [d1, d2] }
  | _ => none }
def VarintBackWrongFalsely : Prop := varintBackRow.holds Try.pinned (OpenSpec.ofChange varintBackWrong)

/-- 'lampwrightlaw.VarintLong': WHATEVER THE INPUT: true; the input reads as it did. -/
def varintLongSpec : ChangeSpec := { name := "varintLong", fn := fun _ => fun
  | [d1, d2] => { results := [.lit (.bool true)], args := [d1, d2] }
  | _ => none }
def varintLongRow : OpenClaim := { program := "ytjogccpnhcnedaa", sum := "d04057b2b24e09cfb73f3918bbbece85d8ae04af85d8e0c9c529f8ccd3f2bf0a", func := "lampwright/lampwrightlaw.VarintLong", spec := "varintLong", unfollowed := true, recurses := true, apart := false }
def VarintLongSaid : Prop := varintLongRow.holds Try.pinned (OpenSpec.ofChange varintLongSpec)

/-- ITS FALSE NEIGHBOUR: 'it returns false'. Refute it at one input. -/
def varintLongWrong : ChangeSpec := { name := "varintLong", fn := fun _ => fun
  | [d1, d2] => { results := [.lit (.bool false)], args := [d1, d2] }
  | _ => none }
def VarintLongWrongFalsely : Prop := varintLongRow.holds Try.pinned (OpenSpec.ofChange varintLongWrong)

/-- 'lampwrightlaw.VarintJoins': WHATEVER THE INPUT: true; the input reads as it did. -/
def varintJoinsSpec : ChangeSpec := { name := "varintJoins", fn := fun _ => fun
  | [d1, d2] => { results := [.lit (.bool true)], args := [d1, d2] }
  | _ => none }
def varintJoinsRow : OpenClaim := { program := "ytjogccpnhcnedaa", sum := "d04057b2b24e09cfb73f3918bbbece85d8ae04af85d8e0c9c529f8ccd3f2bf0a", func := "lampwright/lampwrightlaw.VarintJoins", spec := "varintJoins", unfollowed := true, recurses := true, apart := false }
def VarintJoinsSaid : Prop := varintJoinsRow.holds Try.pinned (OpenSpec.ofChange varintJoinsSpec)

/-- ITS FALSE NEIGHBOUR: 'it returns false'. Refute it at one input. -/
def varintJoinsWrong : ChangeSpec := { name := "varintJoins", fn := fun _ => fun
  | [d1, d2] => { results := [.lit (.bool false)], args := [d1, d2] }
  | _ => none }
def VarintJoinsWrongFalsely : Prop := varintJoinsRow.holds Try.pinned (OpenSpec.ofChange varintJoinsWrong)

/-- 'lampwrightlaw.VarintCut': WHATEVER THE INPUT: true; the input reads as it did. -/
def varintCutSpec : ChangeSpec := { name := "varintCut", fn := fun _ => fun
  | [d1, d2] => { results := [.lit (.bool true)], args := [d1, d2] }
  | _ => none }
def varintCutRow : OpenClaim := { program := "ytjogccpnhcnedaa", sum := "d04057b2b24e09cfb73f3918bbbece85d8ae04af85d8e0c9c529f8ccd3f2bf0a", func := "lampwright/lampwrightlaw.VarintCut", spec := "varintCut", unfollowed := true, recurses := true, apart := false }
def VarintCutSaid : Prop := varintCutRow.holds Try.pinned (OpenSpec.ofChange varintCutSpec)

/-- ITS FALSE NEIGHBOUR: 'it returns false'. Refute it at one input. -/
def varintCutWrong : ChangeSpec := { name := "varintCut", fn := fun _ => fun
  | [d1, d2] => { results := [.lit (.bool false)], args := [d1, d2] }
  | _ => none }
def VarintCutWrongFalsely : Prop := varintCutRow.holds Try.pinned (OpenSpec.ofChange varintCutWrong)

/- THE SECOND FORM. 'bulk': how many values and letters a reading holds, each counted each time it is reached (what is shared counts as often as it is met; a slice's spare places count too). A statement '..UptoSaid' is the law's where the arguments, and the package variables that the reading takes, are together of bulk at most 1048576: NARROWER than '..Said'. Prove '..Said' where nothing that the law and all that it calls make is longer than what came in: it says more and counts as full. Else prove '..UptoSaid'. A law counts once. -/
mutual
def uptoBulk {H : Type} : DataW H → Nat
  | .lit (.string bytes) => bytes.length + 1
  | .lit _ => 1
  | .nil => 1
  | .ptr d => uptoBulk d + 1
  | .slice elems spare => uptoBulkAll elems + uptoBulkAll spare + 1
  | .agg parts => uptoBulkAll parts + 1
  | .iface _ d => uptoBulk d + 1
  | .map entries => uptoBulkEntries entries + 1
  | .held _ => 1
def uptoBulkAll {H : Type} : List (DataW H) → Nat
  | [] => 0
  | d :: r => uptoBulk d + uptoBulkAll r
def uptoBulkEntries {H : Type} : List (Lit × DataW H) → Nat
  | [] => 0
  | x :: r => uptoBulkEntry x + uptoBulkEntries r
def uptoBulkEntry {H : Type} : Lit × DataW H → Nat
  | (.string bytes, d) => bytes.length + uptoBulk d + 1
  | (_, d) => uptoBulk d + 1
 end
def uptoSmall : (H : Type) → List (DataW H) → Bool := fun _ ds => decide (uptoBulkAll ds ≤ 1048576)
def OpenSpec.upto (s : _root_.Go.ChangeSpec) : _root_.Go.OpenSpec := { _root_.Go.OpenSpec.ofChange s with cond := some uptoSmall }

/-- 'lampwrightlaw.GolombTells', WHERE WHAT IT READS IS OF BULK AT MOST 1048576: true; the input reads as it did. -/
def golombTellsUptoRow : OpenClaim := { program := "ytjogccpnhcnedaa", sum := "d04057b2b24e09cfb73f3918bbbece85d8ae04af85d8e0c9c529f8ccd3f2bf0a", func := "lampwright/lampwrightlaw.GolombTells", spec := "golombTells", unfollowed := true, recurses := true, apart := false, narrowed := true }
def GolombTellsUptoSaid : Prop := golombTellsUptoRow.holds Try.pinned (OpenSpec.upto golombTellsSpec)

/-- 'lampwrightlaw.GolombSame', WHERE WHAT IT READS IS OF BULK AT MOST 1048576: true; the input reads as it did. -/
def golombSameUptoRow : OpenClaim := { program := "ytjogccpnhcnedaa", sum := "d04057b2b24e09cfb73f3918bbbece85d8ae04af85d8e0c9c529f8ccd3f2bf0a", func := "lampwright/lampwrightlaw.GolombSame", spec := "golombSame", unfollowed := true, recurses := true, apart := false, narrowed := true }
def GolombSameUptoSaid : Prop := golombSameUptoRow.holds Try.pinned (OpenSpec.upto golombSameSpec)

/-- 'lampwrightlaw.VarintTells', WHERE WHAT IT READS IS OF BULK AT MOST 1048576: true; the input reads as it did. -/
def varintTellsUptoRow : OpenClaim := { program := "ytjogccpnhcnedaa", sum := "d04057b2b24e09cfb73f3918bbbece85d8ae04af85d8e0c9c529f8ccd3f2bf0a", func := "lampwright/lampwrightlaw.VarintTells", spec := "varintTells", unfollowed := true, recurses := true, apart := false, narrowed := true }
def VarintTellsUptoSaid : Prop := varintTellsUptoRow.holds Try.pinned (OpenSpec.upto varintTellsSpec)

/-- 'lampwrightlaw.VarintFold', WHERE WHAT IT READS IS OF BULK AT MOST 1048576: true; the input reads as it did. -/
def varintFoldUptoRow : OpenClaim := { program := "ytjogccpnhcnedaa", sum := "d04057b2b24e09cfb73f3918bbbece85d8ae04af85d8e0c9c529f8ccd3f2bf0a", func := "lampwright/lampwrightlaw.VarintFold", spec := "varintFold", unfollowed := true, recurses := true, apart := false, narrowed := true }
def VarintFoldUptoSaid : Prop := varintFoldUptoRow.holds Try.pinned (OpenSpec.upto varintFoldSpec)

/-- 'lampwrightlaw.VarintBack', WHERE WHAT IT READS IS OF BULK AT MOST 1048576: true; the input reads as it did. -/
def varintBackUptoRow : OpenClaim := { program := "ytjogccpnhcnedaa", sum := "d04057b2b24e09cfb73f3918bbbece85d8ae04af85d8e0c9c529f8ccd3f2bf0a", func := "lampwright/lampwrightlaw.VarintBack", spec := "varintBack", unfollowed := true, recurses := true, apart := false, narrowed := true }
def VarintBackUptoSaid : Prop := varintBackUptoRow.holds Try.pinned (OpenSpec.upto varintBackSpec)

/-- 'lampwrightlaw.VarintLong', WHERE WHAT IT READS IS OF BULK AT MOST 1048576: true; the input reads as it did. -/
def varintLongUptoRow : OpenClaim := { program := "ytjogccpnhcnedaa", sum := "d04057b2b24e09cfb73f3918bbbece85d8ae04af85d8e0c9c529f8ccd3f2bf0a", func := "lampwright/lampwrightlaw.VarintLong", spec := "varintLong", unfollowed := true, recurses := true, apart := false, narrowed := true }
def VarintLongUptoSaid : Prop := varintLongUptoRow.holds Try.pinned (OpenSpec.upto varintLongSpec)

/-- 'lampwrightlaw.VarintJoins', WHERE WHAT IT READS IS OF BULK AT MOST 1048576: true; the input reads as it did. -/
def varintJoinsUptoRow : OpenClaim := { program := "ytjogccpnhcnedaa", sum := "d04057b2b24e09cfb73f3918bbbece85d8ae04af85d8e0c9c529f8ccd3f2bf0a", func := "lampwright/lampwrightlaw.VarintJoins", spec := "varintJoins", unfollowed := true, recurses := true, apart := false, narrowed := true }
def VarintJoinsUptoSaid : Prop := varintJoinsUptoRow.holds Try.pinned (OpenSpec.upto varintJoinsSpec)

/-- 'lampwrightlaw.VarintCut', WHERE WHAT IT READS IS OF BULK AT MOST 1048576: true; the input reads as it did. -/
def varintCutUptoRow : OpenClaim := { program := "ytjogccpnhcnedaa", sum := "d04057b2b24e09cfb73f3918bbbece85d8ae04af85d8e0c9c529f8ccd3f2bf0a", func := "lampwright/lampwrightlaw.VarintCut", spec := "varintCut", unfollowed := true, recurses := true, apart := false, narrowed := true }
def VarintCutUptoSaid : Prop := varintCutUptoRow.holds Try.pinned (OpenSpec.upto varintCutSpec)

end Rows
end Go.Proofs.Ytjogccpnhcnedaa
