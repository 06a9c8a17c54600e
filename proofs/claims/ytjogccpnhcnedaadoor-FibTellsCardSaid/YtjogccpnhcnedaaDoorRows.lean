/-
  NARROWER THAN 'FOR EVERY INPUT', by the rows' own cells (each row's printed sentence says how): FibTells: laid · FibOnly: laid · FibBack: laid · FibNext: laid · FibLong: laid · FibNumbers: laid.
  DERIVED. THE GIVEN ROWS OF THIS SEAT. 6 by the template 'for every input the law returns true; each argument reads behind the call as it read before'; 0 by the template 'total and deterministic' (their statements: YtjogccpnhcnedaaDoorTotals.lean).
  GIVEN WITH THE SEED: the statements are not yours to turn. If you find one false, say at which input.
  Laid BY PROGRAM, IN A SANDBOX (cutbox-rows.mjs): the forced cells as the released guide's own fill.sh prints them over the translation 18a32380fe48d1ed… (all of the seat's roots in one cut). By AI agents, Wed Nov 11 2026. No macro, syntax, notation, axiom, sorry.
-/
import Derived.Test.YtjogccpnhcnedaaDoorChecked
import GoSem.Claim
import GoSem.ClaimJoined
import GoSem.ClaimMapViews
import Derived.JoinedTies
import Derived.KernelRfl
namespace Go.Proofs.YtjogccpnhcnedaaDoor
/- THE CELL 'sum', in the pinned program and in every row, IS THE sha256 OF THE DUMP (.gsa) THAT YtjogccpnhcnedaaDoorProg.lean LOADS. Nothing in Lean hashes anything: it is a label: what it is worth is what the hold of that sum in a sandbox is worth. -/
noncomputable def Tryd.pinned : Pinned := { name := "ytjogccpnhcnedaadoor", sum := "18a32380fe48d1ed56229590d18284be2f493d84adbf9fb4e298cebddae16cf4", checked := Tryd.checked }
namespace Rows
def none {H : Type} : Left H := { results := [], args := [] }

/- WHAT THE LISTED PACKAGE-LEVEL VARIABLES READ AS WHEN THE CALL BEGINS. Each datum BY PROGRAM (the guide's laid-datum.mjs) off the statement by which the dump's own 'gosem.cut.vars' lays the variable. In a bare row this is a premise. The card (YtjogccpnhcnedaaDoorCards.lean) ties it to the program's text. -/
def laid_lampwright_fib_numbers {H : Type} : DataW H := .agg [.lit (.int .u64 1), .lit (.int .u64 2), .lit (.int .u64 3), .lit (.int .u64 5), .lit (.int .u64 8), .lit (.int .u64 13), .lit (.int .u64 21), .lit (.int .u64 34), .lit (.int .u64 55), .lit (.int .u64 89), .lit (.int .u64 144), .lit (.int .u64 233), .lit (.int .u64 377), .lit (.int .u64 610), .lit (.int .u64 987), .lit (.int .u64 1597), .lit (.int .u64 2584), .lit (.int .u64 4181), .lit (.int .u64 6765), .lit (.int .u64 10946), .lit (.int .u64 17711), .lit (.int .u64 28657), .lit (.int .u64 46368), .lit (.int .u64 75025), .lit (.int .u64 121393), .lit (.int .u64 196418), .lit (.int .u64 317811), .lit (.int .u64 514229), .lit (.int .u64 832040), .lit (.int .u64 1346269), .lit (.int .u64 2178309), .lit (.int .u64 3524578), .lit (.int .u64 5702887), .lit (.int .u64 9227465), .lit (.int .u64 14930352), .lit (.int .u64 24157817), .lit (.int .u64 39088169), .lit (.int .u64 63245986), .lit (.int .u64 102334155), .lit (.int .u64 165580141), .lit (.int .u64 267914296), .lit (.int .u64 433494437), .lit (.int .u64 701408733), .lit (.int .u64 1134903170), .lit (.int .u64 1836311903), .lit (.int .u64 2971215073), .lit (.int .u64 4807526976), .lit (.int .u64 7778742049), .lit (.int .u64 12586269025), .lit (.int .u64 20365011074), .lit (.int .u64 32951280099), .lit (.int .u64 53316291173), .lit (.int .u64 86267571272), .lit (.int .u64 139583862445), .lit (.int .u64 225851433717), .lit (.int .u64 365435296162), .lit (.int .u64 591286729879), .lit (.int .u64 956722026041), .lit (.int .u64 1548008755920), .lit (.int .u64 2504730781961), .lit (.int .u64 4052739537881), .lit (.int .u64 6557470319842), .lit (.int .u64 10610209857723), .lit (.int .u64 17167680177565)]

/-- 'lampwrightlaw.FibTells': WHATEVER THE INPUT: true; the input reads as it did. -/
def fibTellsSpec : ChangeSpec := { name := "fibTells", fn := fun _ => fun
  | [d1, d2, d3, d4, d5] => { results := [.lit (.bool true)], args := [d1, d2, d3, d4, d5] }
  | _ => none }
def fibTellsRow : OpenClaim := { program := "ytjogccpnhcnedaadoor", sum := "18a32380fe48d1ed56229590d18284be2f493d84adbf9fb4e298cebddae16cf4", func := "lampwright/lampwrightlaw.FibTells", spec := "fibTells", unfollowed := true, recurses := true, named := ["lampwright/fib.numbers"], apart := false, laid := [("lampwright/fib.numbers", laid_lampwright_fib_numbers)] }
def FibTellsSaid : Prop := fibTellsRow.holds Tryd.pinned (OpenSpec.ofChange fibTellsSpec)

/-- ITS FALSE NEIGHBOUR: 'it returns false'. Refute it at one input. -/
def fibTellsWrong : ChangeSpec := { name := "fibTells", fn := fun _ => fun
  | [d1, d2, d3, d4, d5] => { results := [.lit (.bool false)], args := [d1, d2, d3, d4, d5] }
  | _ => none }
def FibTellsWrongFalsely : Prop := fibTellsRow.holds Tryd.pinned (OpenSpec.ofChange fibTellsWrong)

/-- 'lampwrightlaw.FibOnly': WHATEVER THE INPUT: true; the input reads as it did. -/
def fibOnlySpec : ChangeSpec := { name := "fibOnly", fn := fun _ => fun
  | [d1, d2] => { results := [.lit (.bool true)], args := [d1, d2] }
  | _ => none }
def fibOnlyRow : OpenClaim := { program := "ytjogccpnhcnedaadoor", sum := "18a32380fe48d1ed56229590d18284be2f493d84adbf9fb4e298cebddae16cf4", func := "lampwright/lampwrightlaw.FibOnly", spec := "fibOnly", unfollowed := true, recurses := true, named := ["lampwright/fib.numbers"], apart := false, laid := [("lampwright/fib.numbers", laid_lampwright_fib_numbers)] }
def FibOnlySaid : Prop := fibOnlyRow.holds Tryd.pinned (OpenSpec.ofChange fibOnlySpec)

/-- ITS FALSE NEIGHBOUR: 'it returns false'. Refute it at one input. -/
def fibOnlyWrong : ChangeSpec := { name := "fibOnly", fn := fun _ => fun
  | [d1, d2] => { results := [.lit (.bool false)], args := [d1, d2] }
  | _ => none }
def FibOnlyWrongFalsely : Prop := fibOnlyRow.holds Tryd.pinned (OpenSpec.ofChange fibOnlyWrong)

/-- 'lampwrightlaw.FibBack': WHATEVER THE INPUT: true; the input reads as it did. -/
def fibBackSpec : ChangeSpec := { name := "fibBack", fn := fun _ => fun
  | [d1, d2] => { results := [.lit (.bool true)], args := [d1, d2] }
  | _ => none }
def fibBackRow : OpenClaim := { program := "ytjogccpnhcnedaadoor", sum := "18a32380fe48d1ed56229590d18284be2f493d84adbf9fb4e298cebddae16cf4", func := "lampwright/lampwrightlaw.FibBack", spec := "fibBack", unfollowed := true, recurses := true, named := ["lampwright/fib.numbers"], apart := false, laid := [("lampwright/fib.numbers", laid_lampwright_fib_numbers)] }
def FibBackSaid : Prop := fibBackRow.holds Tryd.pinned (OpenSpec.ofChange fibBackSpec)

/-- ITS FALSE NEIGHBOUR: 'it returns false'. Refute it at one input. -/
def fibBackWrong : ChangeSpec := { name := "fibBack", fn := fun _ => fun
  | [d1, d2] => { results := [.lit (.bool false)], args := [d1, d2] }
  | _ => none }
def FibBackWrongFalsely : Prop := fibBackRow.holds Tryd.pinned (OpenSpec.ofChange fibBackWrong)

/-- 'lampwrightlaw.FibNext': WHATEVER THE INPUT: true; the input reads as it did. -/
def fibNextSpec : ChangeSpec := { name := "fibNext", fn := fun _ => fun
  | [d1, d2, d3] => { results := [.lit (.bool true)], args := [d1, d2, d3] }
  | _ => none }
def fibNextRow : OpenClaim := { program := "ytjogccpnhcnedaadoor", sum := "18a32380fe48d1ed56229590d18284be2f493d84adbf9fb4e298cebddae16cf4", func := "lampwright/lampwrightlaw.FibNext", spec := "fibNext", unfollowed := true, recurses := true, named := ["lampwright/fib.numbers"], apart := false, laid := [("lampwright/fib.numbers", laid_lampwright_fib_numbers)] }
def FibNextSaid : Prop := fibNextRow.holds Tryd.pinned (OpenSpec.ofChange fibNextSpec)

/-- ITS FALSE NEIGHBOUR: 'it returns false'. Refute it at one input. -/
def fibNextWrong : ChangeSpec := { name := "fibNext", fn := fun _ => fun
  | [d1, d2, d3] => { results := [.lit (.bool false)], args := [d1, d2, d3] }
  | _ => none }
def FibNextWrongFalsely : Prop := fibNextRow.holds Tryd.pinned (OpenSpec.ofChange fibNextWrong)

/-- 'lampwrightlaw.FibLong': WHATEVER THE INPUT: true; the input reads as it did. -/
def fibLongSpec : ChangeSpec := { name := "fibLong", fn := fun _ => fun
  | [d1, d2] => { results := [.lit (.bool true)], args := [d1, d2] }
  | _ => none }
def fibLongRow : OpenClaim := { program := "ytjogccpnhcnedaadoor", sum := "18a32380fe48d1ed56229590d18284be2f493d84adbf9fb4e298cebddae16cf4", func := "lampwright/lampwrightlaw.FibLong", spec := "fibLong", unfollowed := true, recurses := true, named := ["lampwright/fib.numbers"], apart := false, laid := [("lampwright/fib.numbers", laid_lampwright_fib_numbers)] }
def FibLongSaid : Prop := fibLongRow.holds Tryd.pinned (OpenSpec.ofChange fibLongSpec)

/-- ITS FALSE NEIGHBOUR: 'it returns false'. Refute it at one input. -/
def fibLongWrong : ChangeSpec := { name := "fibLong", fn := fun _ => fun
  | [d1, d2] => { results := [.lit (.bool false)], args := [d1, d2] }
  | _ => none }
def FibLongWrongFalsely : Prop := fibLongRow.holds Tryd.pinned (OpenSpec.ofChange fibLongWrong)

/-- 'lampwrightlaw.FibNumbers': WHATEVER THE INPUT: true; the input reads as it did. -/
def fibNumbersSpec : ChangeSpec := { name := "fibNumbers", fn := fun _ => fun
  | [d] => { results := [.lit (.bool true)], args := [d] }
  | _ => none }
def fibNumbersRow : OpenClaim := { program := "ytjogccpnhcnedaadoor", sum := "18a32380fe48d1ed56229590d18284be2f493d84adbf9fb4e298cebddae16cf4", func := "lampwright/lampwrightlaw.FibNumbers", spec := "fibNumbers", unfollowed := true, recurses := true, named := ["lampwright/fib.numbers"], apart := false, laid := [("lampwright/fib.numbers", laid_lampwright_fib_numbers)] }
def FibNumbersSaid : Prop := fibNumbersRow.holds Tryd.pinned (OpenSpec.ofChange fibNumbersSpec)

/-- ITS FALSE NEIGHBOUR: 'it returns false'. Refute it at one input. -/
def fibNumbersWrong : ChangeSpec := { name := "fibNumbers", fn := fun _ => fun
  | [d] => { results := [.lit (.bool false)], args := [d] }
  | _ => none }
def FibNumbersWrongFalsely : Prop := fibNumbersRow.holds Tryd.pinned (OpenSpec.ofChange fibNumbersWrong)

/- THE SECOND FORM. 'bulk': how many values and letters a reading holds, each counted each time it is reached (what is shared counts as often as it is met; a slice's spare places count too). A statement '..UptoSaid' is the law's where the arguments, and the package variables that the reading takes, are together of bulk at most 1048576: NARROWER than '..Said'. Prove '..Said' where nothing that the law and all that it calls make is longer than what came in: it says more and counts as full. Else prove '..UptoSaid'. A law counts once. -/
mutual
def uptoBulk {H : Type} : DataW H → Nat
  | .lit (.string bytes) => bytes.length + 1
  | .lit _ => 1
  | .nil => 1
  | .ptr d => uptoBulk d + 1
  | .slice elems spare => uptoBulkAll elems + uptoBulkAll spare + 1
  | .agg parts => uptoBulkAll parts + 1
  | .iface _ d => uptoBulk d + 1
  | .map entries => uptoBulkEntries entries + 1
  | .held _ => 1
def uptoBulkAll {H : Type} : List (DataW H) → Nat
  | [] => 0
  | d :: r => uptoBulk d + uptoBulkAll r
def uptoBulkEntries {H : Type} : List (Lit × DataW H) → Nat
  | [] => 0
  | x :: r => uptoBulkEntry x + uptoBulkEntries r
def uptoBulkEntry {H : Type} : Lit × DataW H → Nat
  | (.string bytes, d) => bytes.length + uptoBulk d + 1
  | (_, d) => uptoBulk d + 1
 end
def uptoSmall : (H : Type) → List (DataW H) → Bool := fun _ ds => decide (uptoBulkAll ds ≤ 1048576)
def OpenSpec.upto (s : _root_.Go.ChangeSpec) : _root_.Go.OpenSpec := { _root_.Go.OpenSpec.ofChange s with cond := some uptoSmall }

/-- 'lampwrightlaw.FibTells', WHERE WHAT IT READS IS OF BULK AT MOST 1048576: true; the input reads as it did. -/
def fibTellsUptoRow : OpenClaim := { program := "ytjogccpnhcnedaadoor", sum := "18a32380fe48d1ed56229590d18284be2f493d84adbf9fb4e298cebddae16cf4", func := "lampwright/lampwrightlaw.FibTells", spec := "fibTells", unfollowed := true, recurses := true, named := ["lampwright/fib.numbers"], apart := false, laid := [("lampwright/fib.numbers", laid_lampwright_fib_numbers)], narrowed := true }
def FibTellsUptoSaid : Prop := fibTellsUptoRow.holds Tryd.pinned (OpenSpec.upto fibTellsSpec)

/-- 'lampwrightlaw.FibOnly', WHERE WHAT IT READS IS OF BULK AT MOST 1048576: true; the input reads as it did. -/
def fibOnlyUptoRow : OpenClaim := { program := "ytjogccpnhcnedaadoor", sum := "18a32380fe48d1ed56229590d18284be2f493d84adbf9fb4e298cebddae16cf4", func := "lampwright/lampwrightlaw.FibOnly", spec := "fibOnly", unfollowed := true, recurses := true, named := ["lampwright/fib.numbers"], apart := false, laid := [("lampwright/fib.numbers", laid_lampwright_fib_numbers)], narrowed := true }
def FibOnlyUptoSaid : Prop := fibOnlyUptoRow.holds Tryd.pinned (OpenSpec.upto fibOnlySpec)

/-- 'lampwrightlaw.FibBack', WHERE WHAT IT READS IS OF BULK AT MOST 1048576: true; the input reads as it did. -/
def fibBackUptoRow : OpenClaim := { program := "ytjogccpnhcnedaadoor", sum := "18a32380fe48d1ed56229590d18284be2f493d84adbf9fb4e298cebddae16cf4", func := "lampwright/lampwrightlaw.FibBack", spec := "fibBack", unfollowed := true, recurses := true, named := ["lampwright/fib.numbers"], apart := false, laid := [("lampwright/fib.numbers", laid_lampwright_fib_numbers)], narrowed := true }
def FibBackUptoSaid : Prop := fibBackUptoRow.holds Tryd.pinned (OpenSpec.upto fibBackSpec)

/-- 'lampwrightlaw.FibNext', WHERE WHAT IT READS IS OF BULK AT MOST 1048576: true; the input reads as it did. -/
def fibNextUptoRow : OpenClaim := { program := "ytjogccpnhcnedaadoor", sum := "18a32380fe48d1ed56229590d18284be2f493d84adbf9fb4e298cebddae16cf4", func := "lampwright/lampwrightlaw.FibNext", spec := "fibNext", unfollowed := true, recurses := true, named := ["lampwright/fib.numbers"], apart := false, laid := [("lampwright/fib.numbers", laid_lampwright_fib_numbers)], narrowed := true }
def FibNextUptoSaid : Prop := fibNextUptoRow.holds Tryd.pinned (OpenSpec.upto fibNextSpec)

/-- 'lampwrightlaw.FibLong', WHERE WHAT IT READS IS OF BULK AT MOST 1048576: true; the input reads as it did. -/
def fibLongUptoRow : OpenClaim := { program := "ytjogccpnhcnedaadoor", sum := "18a32380fe48d1ed56229590d18284be2f493d84adbf9fb4e298cebddae16cf4", func := "lampwright/lampwrightlaw.FibLong", spec := "fibLong", unfollowed := true, recurses := true, named := ["lampwright/fib.numbers"], apart := false, laid := [("lampwright/fib.numbers", laid_lampwright_fib_numbers)], narrowed := true }
def FibLongUptoSaid : Prop := fibLongUptoRow.holds Tryd.pinned (OpenSpec.upto fibLongSpec)

/-- 'lampwrightlaw.FibNumbers', WHERE WHAT IT READS IS OF BULK AT MOST 1048576: true; the input reads as it did. -/
def fibNumbersUptoRow : OpenClaim := { program := "ytjogccpnhcnedaadoor", sum := "18a32380fe48d1ed56229590d18284be2f493d84adbf9fb4e298cebddae16cf4", func := "lampwright/lampwrightlaw.FibNumbers", spec := "fibNumbers", unfollowed := true, recurses := true, named := ["lampwright/fib.numbers"], apart := false, laid := [("lampwright/fib.numbers", laid_lampwright_fib_numbers)], narrowed := true }
def FibNumbersUptoSaid : Prop := fibNumbersUptoRow.holds Tryd.pinned (OpenSpec.upto fibNumbersSpec)

end Rows
end Go.Proofs.YtjogccpnhcnedaaDoor
