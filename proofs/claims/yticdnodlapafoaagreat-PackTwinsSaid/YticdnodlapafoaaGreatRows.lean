/-
  No cell of these rows narrows 'for every input' (looked for: loops, veiled, ifaces, maps, wideKeys, modest, calm, conditions, laid).
  DERIVED. THE GIVEN ROWS OF THIS SEAT. 12 by the template 'for every input the law returns true; each argument reads behind the call as it read before'; 0 by the template 'total and deterministic' (their statements: YticdnodlapafoaaGreatTotals.lean).
  GIVEN WITH THE SEED: the statements are not yours to turn. If you find one false, say at which input.
  Laid BY PROGRAM, IN A SANDBOX (cutbox-rows.mjs): the forced cells as the released guide's own fill.sh prints them over the translation 2133907ff585f095… (all of the seat's roots in one cut). By AI agents, Wed Nov 11 2026. No macro, syntax, notation, axiom, sorry.
-/
import Derived.Test.YticdnodlapafoaaGreatChecked
import GoSem.Claim
import GoSem.ClaimJoined
import GoSem.ClaimMapViews
import Derived.JoinedTies
import Derived.KernelRfl
namespace Go.Proofs.YticdnodlapafoaaGreat
/- THE CELL 'sum', in the pinned program and in every row, IS THE sha256 OF THE DUMP (.gsa) THAT YticdnodlapafoaaGreatProg.lean LOADS. Nothing in Lean hashes anything: it is a label: what it is worth is what the hold of that sum in a sandbox is worth. -/
noncomputable def Tryz.pinned : Pinned := { name := "yticdnodlapafoaagreat", sum := "2133907ff585f09503769c0abd66edd8b73464a2f25d330ab0710607ed3b6771", checked := Tryz.checked }
namespace Rows
def none {H : Type} : Left H := { results := [], args := [] }

/-- 'lampwrightlaw.SuccTells': WHATEVER THE INPUT: true; the input reads as it did. -/
def succTellsSpec : ChangeSpec := { name := "succTells", fn := fun _ => fun
  | [d1, d2, d3, d4, d5, d6] => { results := [.lit (.bool true)], args := [d1, d2, d3, d4, d5, d6] }
  | _ => none }
def succTellsRow : OpenClaim := { program := "yticdnodlapafoaagreat", sum := "2133907ff585f09503769c0abd66edd8b73464a2f25d330ab0710607ed3b6771", func := "lampwright/lampwrightlaw.SuccTells", spec := "succTells", unfollowed := true, recurses := true, apart := false }
def SuccTellsSaid : Prop := succTellsRow.holds Tryz.pinned (OpenSpec.ofChange succTellsSpec)

/-- ITS FALSE NEIGHBOUR: 'it returns false'. Refute it at one input. -/
def succTellsWrong : ChangeSpec := { name := "succTells", fn := fun _ => fun
  | [d1, d2, d3, d4, d5, d6] => { results := [.lit (.bool false)], args := [d1, d2, d3, d4, d5, d6] }
  | _ => none }
def SuccTellsWrongFalsely : Prop := succTellsRow.holds Tryz.pinned (OpenSpec.ofChange succTellsWrong)

/-- 'lampwrightlaw.SuccBack': WHATEVER THE INPUT: true; the input reads as it did. -/
def succBackSpec : ChangeSpec := { name := "succBack", fn := fun _ => fun
  | [d1, d2, d3, d4, d5, d6] => { results := [.lit (.bool true)], args := [d1, d2, d3, d4, d5, d6] }
  | _ => none }
def succBackRow : OpenClaim := { program := "yticdnodlapafoaagreat", sum := "2133907ff585f09503769c0abd66edd8b73464a2f25d330ab0710607ed3b6771", func := "lampwright/lampwrightlaw.SuccBack", spec := "succBack", unfollowed := true, recurses := true, apart := false }
def SuccBackSaid : Prop := succBackRow.holds Tryz.pinned (OpenSpec.ofChange succBackSpec)

/-- ITS FALSE NEIGHBOUR: 'it returns false'. Refute it at one input. -/
def succBackWrong : ChangeSpec := { name := "succBack", fn := fun _ => fun
  | [d1, d2, d3, d4, d5, d6] => { results := [.lit (.bool false)], args := [d1, d2, d3, d4, d5, d6] }
  | _ => none }
def SuccBackWrongFalsely : Prop := succBackRow.holds Tryz.pinned (OpenSpec.ofChange succBackWrong)

/-- 'lampwrightlaw.SuccOnly': WHATEVER THE INPUT: true; the input reads as it did. -/
def succOnlySpec : ChangeSpec := { name := "succOnly", fn := fun _ => fun
  | [d1, d2, d3, d4, d5] => { results := [.lit (.bool true)], args := [d1, d2, d3, d4, d5] }
  | _ => none }
def succOnlyRow : OpenClaim := { program := "yticdnodlapafoaagreat", sum := "2133907ff585f09503769c0abd66edd8b73464a2f25d330ab0710607ed3b6771", func := "lampwright/lampwrightlaw.SuccOnly", spec := "succOnly", unfollowed := true, recurses := true, apart := false }
def SuccOnlySaid : Prop := succOnlyRow.holds Tryz.pinned (OpenSpec.ofChange succOnlySpec)

/-- ITS FALSE NEIGHBOUR: 'it returns false'. Refute it at one input. -/
def succOnlyWrong : ChangeSpec := { name := "succOnly", fn := fun _ => fun
  | [d1, d2, d3, d4, d5] => { results := [.lit (.bool false)], args := [d1, d2, d3, d4, d5] }
  | _ => none }
def SuccOnlyWrongFalsely : Prop := succOnlyRow.holds Tryz.pinned (OpenSpec.ofChange succOnlyWrong)

/-- 'lampwrightlaw.SuccShift': WHATEVER THE INPUT: true; the input reads as it did. -/
def succShiftSpec : ChangeSpec := { name := "succShift", fn := fun _ => fun
  | [d1, d2, d3, d4, d5] => { results := [.lit (.bool true)], args := [d1, d2, d3, d4, d5] }
  | _ => none }
def succShiftRow : OpenClaim := { program := "yticdnodlapafoaagreat", sum := "2133907ff585f09503769c0abd66edd8b73464a2f25d330ab0710607ed3b6771", func := "lampwright/lampwrightlaw.SuccShift", spec := "succShift", unfollowed := true, recurses := true, apart := false }
def SuccShiftSaid : Prop := succShiftRow.holds Tryz.pinned (OpenSpec.ofChange succShiftSpec)

/-- ITS FALSE NEIGHBOUR: 'it returns false'. Refute it at one input. -/
def succShiftWrong : ChangeSpec := { name := "succShift", fn := fun _ => fun
  | [d1, d2, d3, d4, d5] => { results := [.lit (.bool false)], args := [d1, d2, d3, d4, d5] }
  | _ => none }
def SuccShiftWrongFalsely : Prop := succShiftRow.holds Tryz.pinned (OpenSpec.ofChange succShiftWrong)

/-- 'lampwrightlaw.SuccCopy': WHATEVER THE INPUT: true; the input reads as it did. -/
def succCopySpec : ChangeSpec := { name := "succCopy", fn := fun _ => fun
  | [d1, d2, d3] => { results := [.lit (.bool true)], args := [d1, d2, d3] }
  | _ => none }
def succCopyRow : OpenClaim := { program := "yticdnodlapafoaagreat", sum := "2133907ff585f09503769c0abd66edd8b73464a2f25d330ab0710607ed3b6771", func := "lampwright/lampwrightlaw.SuccCopy", spec := "succCopy", unfollowed := true, recurses := true, apart := false }
def SuccCopySaid : Prop := succCopyRow.holds Tryz.pinned (OpenSpec.ofChange succCopySpec)

/-- ITS FALSE NEIGHBOUR: 'it returns false'. Refute it at one input. -/
def succCopyWrong : ChangeSpec := { name := "succCopy", fn := fun _ => fun
  | [d1, d2, d3] => { results := [.lit (.bool false)], args := [d1, d2, d3] }
  | _ => none }
def SuccCopyWrongFalsely : Prop := succCopyRow.holds Tryz.pinned (OpenSpec.ofChange succCopyWrong)

/-- 'lampwrightlaw.SuccNone': WHATEVER THE INPUT: true; the input reads as it did. -/
def succNoneSpec : ChangeSpec := { name := "succNone", fn := fun _ => fun
  | [d1, d2, d3, d4] => { results := [.lit (.bool true)], args := [d1, d2, d3, d4] }
  | _ => none }
def succNoneRow : OpenClaim := { program := "yticdnodlapafoaagreat", sum := "2133907ff585f09503769c0abd66edd8b73464a2f25d330ab0710607ed3b6771", func := "lampwright/lampwrightlaw.SuccNone", spec := "succNone", unfollowed := true, recurses := true, apart := false }
def SuccNoneSaid : Prop := succNoneRow.holds Tryz.pinned (OpenSpec.ofChange succNoneSpec)

/-- ITS FALSE NEIGHBOUR: 'it returns false'. Refute it at one input. -/
def succNoneWrong : ChangeSpec := { name := "succNone", fn := fun _ => fun
  | [d1, d2, d3, d4] => { results := [.lit (.bool false)], args := [d1, d2, d3, d4] }
  | _ => none }
def SuccNoneWrongFalsely : Prop := succNoneRow.holds Tryz.pinned (OpenSpec.ofChange succNoneWrong)

/-- 'lampwrightlaw.PackTells': WHATEVER THE INPUT: true; the input reads as it did. -/
def packTellsSpec : ChangeSpec := { name := "packTells", fn := fun _ => fun
  | [d1, d2, d3] => { results := [.lit (.bool true)], args := [d1, d2, d3] }
  | _ => none }
def packTellsRow : OpenClaim := { program := "yticdnodlapafoaagreat", sum := "2133907ff585f09503769c0abd66edd8b73464a2f25d330ab0710607ed3b6771", func := "lampwright/lampwrightlaw.PackTells", spec := "packTells", unfollowed := true, recurses := true, apart := false }
def PackTellsSaid : Prop := packTellsRow.holds Tryz.pinned (OpenSpec.ofChange packTellsSpec)

/-- ITS FALSE NEIGHBOUR: 'it returns false'. Refute it at one input. -/
def packTellsWrong : ChangeSpec := { name := "packTells", fn := fun _ => fun
  | [d1, d2, d3] => { results := [.lit (.bool false)], args := [d1, d2, d3] }
  | _ => none }
def PackTellsWrongFalsely : Prop := packTellsRow.holds Tryz.pinned (OpenSpec.ofChange packTellsWrong)

/-- 'lampwrightlaw.PackBack': WHATEVER THE INPUT: true; the input reads as it did. -/
def packBackSpec : ChangeSpec := { name := "packBack", fn := fun _ => fun
  | [d1, d2, d3] => { results := [.lit (.bool true)], args := [d1, d2, d3] }
  | _ => none }
def packBackRow : OpenClaim := { program := "yticdnodlapafoaagreat", sum := "2133907ff585f09503769c0abd66edd8b73464a2f25d330ab0710607ed3b6771", func := "lampwright/lampwrightlaw.PackBack", spec := "packBack", unfollowed := true, recurses := true, apart := false }
def PackBackSaid : Prop := packBackRow.holds Tryz.pinned (OpenSpec.ofChange packBackSpec)

/-- ITS FALSE NEIGHBOUR: 'it returns false'. Refute it at one input. -/
def packBackWrong : ChangeSpec := { name := "packBack", fn := fun _ => fun
  | [d1, d2, d3] => { results := [.lit (.bool false)], args := [d1, d2, d3] }
  | _ => none }
def PackBackWrongFalsely : Prop := packBackRow.holds Tryz.pinned (OpenSpec.ofChange packBackWrong)

/-- 'lampwrightlaw.PackNear': WHATEVER THE INPUT: true; the input reads as it did. -/
def packNearSpec : ChangeSpec := { name := "packNear", fn := fun _ => fun
  | [d1, d2, d3, d4] => { results := [.lit (.bool true)], args := [d1, d2, d3, d4] }
  | _ => none }
def packNearRow : OpenClaim := { program := "yticdnodlapafoaagreat", sum := "2133907ff585f09503769c0abd66edd8b73464a2f25d330ab0710607ed3b6771", func := "lampwright/lampwrightlaw.PackNear", spec := "packNear", unfollowed := true, recurses := true, apart := false }
def PackNearSaid : Prop := packNearRow.holds Tryz.pinned (OpenSpec.ofChange packNearSpec)

/-- ITS FALSE NEIGHBOUR: 'it returns false'. Refute it at one input. -/
def packNearWrong : ChangeSpec := { name := "packNear", fn := fun _ => fun
  | [d1, d2, d3, d4] => { results := [.lit (.bool false)], args := [d1, d2, d3, d4] }
  | _ => none }
def PackNearWrongFalsely : Prop := packNearRow.holds Tryz.pinned (OpenSpec.ofChange packNearWrong)

/-- 'lampwrightlaw.PackFarther': WHATEVER THE INPUT: true; the input reads as it did. -/
def packFartherSpec : ChangeSpec := { name := "packFarther", fn := fun _ => fun
  | [d1, d2] => { results := [.lit (.bool true)], args := [d1, d2] }
  | _ => none }
def packFartherRow : OpenClaim := { program := "yticdnodlapafoaagreat", sum := "2133907ff585f09503769c0abd66edd8b73464a2f25d330ab0710607ed3b6771", func := "lampwright/lampwrightlaw.PackFarther", spec := "packFarther", unfollowed := true, recurses := true, apart := false }
def PackFartherSaid : Prop := packFartherRow.holds Tryz.pinned (OpenSpec.ofChange packFartherSpec)

/-- ITS FALSE NEIGHBOUR: 'it returns false'. Refute it at one input. -/
def packFartherWrong : ChangeSpec := { name := "packFarther", fn := fun _ => fun
  | [d1, d2] => { results := [.lit (.bool false)], args := [d1, d2] }
  | _ => none }
def PackFartherWrongFalsely : Prop := packFartherRow.holds Tryz.pinned (OpenSpec.ofChange packFartherWrong)

/-- 'lampwrightlaw.PackTwins': WHATEVER THE INPUT: true; the input reads as it did. -/
def packTwinsSpec : ChangeSpec := { name := "packTwins", fn := fun _ => fun
  | [d1, d2, d3] => { results := [.lit (.bool true)], args := [d1, d2, d3] }
  | _ => none }
def packTwinsRow : OpenClaim := { program := "yticdnodlapafoaagreat", sum := "2133907ff585f09503769c0abd66edd8b73464a2f25d330ab0710607ed3b6771", func := "lampwright/lampwrightlaw.PackTwins", spec := "packTwins", unfollowed := true, recurses := true, apart := false }
def PackTwinsSaid : Prop := packTwinsRow.holds Tryz.pinned (OpenSpec.ofChange packTwinsSpec)

/-- ITS FALSE NEIGHBOUR: 'it returns false'. Refute it at one input. -/
def packTwinsWrong : ChangeSpec := { name := "packTwins", fn := fun _ => fun
  | [d1, d2, d3] => { results := [.lit (.bool false)], args := [d1, d2, d3] }
  | _ => none }
def PackTwinsWrongFalsely : Prop := packTwinsRow.holds Tryz.pinned (OpenSpec.ofChange packTwinsWrong)

/-- 'lampwrightlaw.PackPlain': WHATEVER THE INPUT: true; the input reads as it did. -/
def packPlainSpec : ChangeSpec := { name := "packPlain", fn := fun _ => fun
  | [d1, d2] => { results := [.lit (.bool true)], args := [d1, d2] }
  | _ => none }
def packPlainRow : OpenClaim := { program := "yticdnodlapafoaagreat", sum := "2133907ff585f09503769c0abd66edd8b73464a2f25d330ab0710607ed3b6771", func := "lampwright/lampwrightlaw.PackPlain", spec := "packPlain", unfollowed := true, recurses := true, apart := false }
def PackPlainSaid : Prop := packPlainRow.holds Tryz.pinned (OpenSpec.ofChange packPlainSpec)

/-- ITS FALSE NEIGHBOUR: 'it returns false'. Refute it at one input. -/
def packPlainWrong : ChangeSpec := { name := "packPlain", fn := fun _ => fun
  | [d1, d2] => { results := [.lit (.bool false)], args := [d1, d2] }
  | _ => none }
def PackPlainWrongFalsely : Prop := packPlainRow.holds Tryz.pinned (OpenSpec.ofChange packPlainWrong)

/- THE SECOND FORM. 'bulk': how many values and letters a reading holds, each counted each time it is reached (what is shared counts as often as it is met; a slice's spare places count too). A statement '..UptoSaid' is the law's where the arguments, and the package variables that the reading takes, are together of bulk at most 1048576: NARROWER than '..Said'. Prove '..Said' where nothing that the law and all that it calls make is longer than what came in: it says more and counts as full. Else prove '..UptoSaid'. A law counts once. -/
mutual
def uptoBulk {H : Type} : DataW H → Nat
  | .lit (.string bytes) => bytes.length + 1
  | .lit _ => 1
  | .nil => 1
  | .ptr d => uptoBulk d + 1
  | .slice elems spare => uptoBulkAll elems + uptoBulkAll spare + 1
  | .agg parts => uptoBulkAll parts + 1
  | .iface _ d => uptoBulk d + 1
  | .map entries => uptoBulkEntries entries + 1
  | .held _ => 1
def uptoBulkAll {H : Type} : List (DataW H) → Nat
  | [] => 0
  | d :: r => uptoBulk d + uptoBulkAll r
def uptoBulkEntries {H : Type} : List (Lit × DataW H) → Nat
  | [] => 0
  | x :: r => uptoBulkEntry x + uptoBulkEntries r
def uptoBulkEntry {H : Type} : Lit × DataW H → Nat
  | (.string bytes, d) => bytes.length + uptoBulk d + 1
  | (_, d) => uptoBulk d + 1
 end
def uptoSmall : (H : Type) → List (DataW H) → Bool := fun _ ds => decide (uptoBulkAll ds ≤ 1048576)
def OpenSpec.upto (s : _root_.Go.ChangeSpec) : _root_.Go.OpenSpec := { _root_.Go.OpenSpec.ofChange s with cond := some uptoSmall }

/-- 'lampwrightlaw.SuccTells', WHERE WHAT IT READS IS OF BULK AT MOST 1048576: true; the input reads as it did. -/
def succTellsUptoRow : OpenClaim := { program := "yticdnodlapafoaagreat", sum := "2133907ff585f09503769c0abd66edd8b73464a2f25d330ab0710607ed3b6771", func := "lampwright/lampwrightlaw.SuccTells", spec := "succTells", unfollowed := true, recurses := true, apart := false, narrowed := true }
def SuccTellsUptoSaid : Prop := succTellsUptoRow.holds Tryz.pinned (OpenSpec.upto succTellsSpec)

/-- 'lampwrightlaw.SuccBack', WHERE WHAT IT READS IS OF BULK AT MOST 1048576: true; the input reads as it did. -/
def succBackUptoRow : OpenClaim := { program := "yticdnodlapafoaagreat", sum := "2133907ff585f09503769c0abd66edd8b73464a2f25d330ab0710607ed3b6771", func := "lampwright/lampwrightlaw.SuccBack", spec := "succBack", unfollowed := true, recurses := true, apart := false, narrowed := true }
def SuccBackUptoSaid : Prop := succBackUptoRow.holds Tryz.pinned (OpenSpec.upto succBackSpec)

/-- 'lampwrightlaw.SuccOnly', WHERE WHAT IT READS IS OF BULK AT MOST 1048576: true; the input reads as it did. -/
def succOnlyUptoRow : OpenClaim := { program := "yticdnodlapafoaagreat", sum := "2133907ff585f09503769c0abd66edd8b73464a2f25d330ab0710607ed3b6771", func := "lampwright/lampwrightlaw.SuccOnly", spec := "succOnly", unfollowed := true, recurses := true, apart := false, narrowed := true }
def SuccOnlyUptoSaid : Prop := succOnlyUptoRow.holds Tryz.pinned (OpenSpec.upto succOnlySpec)

/-- 'lampwrightlaw.SuccShift', WHERE WHAT IT READS IS OF BULK AT MOST 1048576: true; the input reads as it did. -/
def succShiftUptoRow : OpenClaim := { program := "yticdnodlapafoaagreat", sum := "2133907ff585f09503769c0abd66edd8b73464a2f25d330ab0710607ed3b6771", func := "lampwright/lampwrightlaw.SuccShift", spec := "succShift", unfollowed := true, recurses := true, apart := false, narrowed := true }
def SuccShiftUptoSaid : Prop := succShiftUptoRow.holds Tryz.pinned (OpenSpec.upto succShiftSpec)

/-- 'lampwrightlaw.SuccCopy', WHERE WHAT IT READS IS OF BULK AT MOST 1048576: true; the input reads as it did. -/
def succCopyUptoRow : OpenClaim := { program := "yticdnodlapafoaagreat", sum := "2133907ff585f09503769c0abd66edd8b73464a2f25d330ab0710607ed3b6771", func := "lampwright/lampwrightlaw.SuccCopy", spec := "succCopy", unfollowed := true, recurses := true, apart := false, narrowed := true }
def SuccCopyUptoSaid : Prop := succCopyUptoRow.holds Tryz.pinned (OpenSpec.upto succCopySpec)

/-- 'lampwrightlaw.SuccNone', WHERE WHAT IT READS IS OF BULK AT MOST 1048576: true; the input reads as it did. -/
def succNoneUptoRow : OpenClaim := { program := "yticdnodlapafoaagreat", sum := "2133907ff585f09503769c0abd66edd8b73464a2f25d330ab0710607ed3b6771", func := "lampwright/lampwrightlaw.SuccNone", spec := "succNone", unfollowed := true, recurses := true, apart := false, narrowed := true }
def SuccNoneUptoSaid : Prop := succNoneUptoRow.holds Tryz.pinned (OpenSpec.upto succNoneSpec)

/-- 'lampwrightlaw.PackTells', WHERE WHAT IT READS IS OF BULK AT MOST 1048576: true; the input reads as it did. -/
def packTellsUptoRow : OpenClaim := { program := "yticdnodlapafoaagreat", sum := "2133907ff585f09503769c0abd66edd8b73464a2f25d330ab0710607ed3b6771", func := "lampwright/lampwrightlaw.PackTells", spec := "packTells", unfollowed := true, recurses := true, apart := false, narrowed := true }
def PackTellsUptoSaid : Prop := packTellsUptoRow.holds Tryz.pinned (OpenSpec.upto packTellsSpec)

/-- 'lampwrightlaw.PackBack', WHERE WHAT IT READS IS OF BULK AT MOST 1048576: true; the input reads as it did. -/
def packBackUptoRow : OpenClaim := { program := "yticdnodlapafoaagreat", sum := "2133907ff585f09503769c0abd66edd8b73464a2f25d330ab0710607ed3b6771", func := "lampwright/lampwrightlaw.PackBack", spec := "packBack", unfollowed := true, recurses := true, apart := false, narrowed := true }
def PackBackUptoSaid : Prop := packBackUptoRow.holds Tryz.pinned (OpenSpec.upto packBackSpec)

/-- 'lampwrightlaw.PackNear', WHERE WHAT IT READS IS OF BULK AT MOST 1048576: true; the input reads as it did. -/
def packNearUptoRow : OpenClaim := { program := "yticdnodlapafoaagreat", sum := "2133907ff585f09503769c0abd66edd8b73464a2f25d330ab0710607ed3b6771", func := "lampwright/lampwrightlaw.PackNear", spec := "packNear", unfollowed := true, recurses := true, apart := false, narrowed := true }
def PackNearUptoSaid : Prop := packNearUptoRow.holds Tryz.pinned (OpenSpec.upto packNearSpec)

/-- 'lampwrightlaw.PackFarther', WHERE WHAT IT READS IS OF BULK AT MOST 1048576: true; the input reads as it did. -/
def packFartherUptoRow : OpenClaim := { program := "yticdnodlapafoaagreat", sum := "2133907ff585f09503769c0abd66edd8b73464a2f25d330ab0710607ed3b6771", func := "lampwright/lampwrightlaw.PackFarther", spec := "packFarther", unfollowed := true, recurses := true, apart := false, narrowed := true }
def PackFartherUptoSaid : Prop := packFartherUptoRow.holds Tryz.pinned (OpenSpec.upto packFartherSpec)

/-- 'lampwrightlaw.PackTwins', WHERE WHAT IT READS IS OF BULK AT MOST 1048576: true; the input reads as it did. -/
def packTwinsUptoRow : OpenClaim := { program := "yticdnodlapafoaagreat", sum := "2133907ff585f09503769c0abd66edd8b73464a2f25d330ab0710607ed3b6771", func := "lampwright/lampwrightlaw.PackTwins", spec := "packTwins", unfollowed := true, recurses := true, apart := false, narrowed := true }
def PackTwinsUptoSaid : Prop := packTwinsUptoRow.holds Tryz.pinned (OpenSpec.upto packTwinsSpec)

/-- 'lampwrightlaw.PackPlain', WHERE WHAT IT READS IS OF BULK AT MOST 1048576: true; the input reads as it did. -/
def packPlainUptoRow : OpenClaim := { program := "yticdnodlapafoaagreat", sum := "2133907ff585f09503769c0abd66edd8b73464a2f25d330ab0710607ed3b6771", func := "lampwright/lampwrightlaw.PackPlain", spec := "packPlain", unfollowed := true, recurses := true, apart := false, narrowed := true }
def PackPlainUptoSaid : Prop := packPlainUptoRow.holds Tryz.pinned (OpenSpec.upto packPlainSpec)

end Rows
end Go.Proofs.YticdnodlapafoaaGreat
