/-
  DERIVED. GIVEN WITH THE SEED: THE CARDS: each row of YtjogccpnhcnedaaDoorRows.lean that lists a variable, with what it lists TIED to the program's text (the seventh form; the later family's looks); each row that meets fmt, with fmt's text TOLD by the authors' own Lean function (tested against real Go, not proved from fmt's source: count such statements apart). THE CARD IS WHAT COUNTS. Prove the row's statement (the work); the ties are given (YtjogccpnhcnedaaDoorTie.lean); close each card by the builder's one call (the guide's Derived/Test/ToyasCard.lean, 'card_holds'). Laid BY PROGRAM, IN A SANDBOX (cutbox-door.mjs). By AI agents, Wed Nov 11 2026. No macro, syntax, notation, axiom, sorry.
-/
import Derived.Test.YtjogccpnhcnedaaDoorRows
import GoSem.ClaimSeven
namespace Go.Proofs.YtjogccpnhcnedaaDoor
namespace Rows

/-- THE TIED CARD OF 'lampwrightlaw.FibTells'. -/
def fibTellsCard : Claim7 := { stood := { row := fibTellsRow, standIns := [], harness := (true, "7acdfa7b4610b44243de485c6e62565d5df49cefe91e7b4ccc8ec81375d934bb"), looks := false }, kinds := [], alts := [], laidByText := true, laidKinds := [.data], laidTests := true, laidLooks := .later }
def FibTellsCardSaid : Prop := Claim7.holds Tryd.pinned (.plain (OpenSpec.ofChange fibTellsSpec)) fibTellsCard

/-- THE TIED CARD OF 'lampwrightlaw.FibOnly'. -/
def fibOnlyCard : Claim7 := { stood := { row := fibOnlyRow, standIns := [], harness := (true, "7acdfa7b4610b44243de485c6e62565d5df49cefe91e7b4ccc8ec81375d934bb"), looks := false }, kinds := [], alts := [], laidByText := true, laidKinds := [.data], laidTests := true, laidLooks := .later }
def FibOnlyCardSaid : Prop := Claim7.holds Tryd.pinned (.plain (OpenSpec.ofChange fibOnlySpec)) fibOnlyCard

/-- THE TIED CARD OF 'lampwrightlaw.FibBack'. -/
def fibBackCard : Claim7 := { stood := { row := fibBackRow, standIns := [], harness := (true, "7acdfa7b4610b44243de485c6e62565d5df49cefe91e7b4ccc8ec81375d934bb"), looks := false }, kinds := [], alts := [], laidByText := true, laidKinds := [.data], laidTests := true, laidLooks := .later }
def FibBackCardSaid : Prop := Claim7.holds Tryd.pinned (.plain (OpenSpec.ofChange fibBackSpec)) fibBackCard

/-- THE TIED CARD OF 'lampwrightlaw.FibNext'. -/
def fibNextCard : Claim7 := { stood := { row := fibNextRow, standIns := [], harness := (true, "7acdfa7b4610b44243de485c6e62565d5df49cefe91e7b4ccc8ec81375d934bb"), looks := false }, kinds := [], alts := [], laidByText := true, laidKinds := [.data], laidTests := true, laidLooks := .later }
def FibNextCardSaid : Prop := Claim7.holds Tryd.pinned (.plain (OpenSpec.ofChange fibNextSpec)) fibNextCard

/-- THE TIED CARD OF 'lampwrightlaw.FibLong'. -/
def fibLongCard : Claim7 := { stood := { row := fibLongRow, standIns := [], harness := (true, "7acdfa7b4610b44243de485c6e62565d5df49cefe91e7b4ccc8ec81375d934bb"), looks := false }, kinds := [], alts := [], laidByText := true, laidKinds := [.data], laidTests := true, laidLooks := .later }
def FibLongCardSaid : Prop := Claim7.holds Tryd.pinned (.plain (OpenSpec.ofChange fibLongSpec)) fibLongCard

/-- THE TIED CARD OF 'lampwrightlaw.FibNumbers'. -/
def fibNumbersCard : Claim7 := { stood := { row := fibNumbersRow, standIns := [], harness := (true, "7acdfa7b4610b44243de485c6e62565d5df49cefe91e7b4ccc8ec81375d934bb"), looks := false }, kinds := [], alts := [], laidByText := true, laidKinds := [.data], laidTests := true, laidLooks := .later }
def FibNumbersCardSaid : Prop := Claim7.holds Tryd.pinned (.plain (OpenSpec.ofChange fibNumbersSpec)) fibNumbersCard

/-- THE SECOND FORM's CARD OF 'lampwrightlaw.FibTells'. -/
def fibTellsUptoCard : Claim7 := { stood := { row := fibTellsUptoRow, standIns := [], harness := (true, "7acdfa7b4610b44243de485c6e62565d5df49cefe91e7b4ccc8ec81375d934bb"), looks := false }, kinds := [], alts := [], laidByText := true, laidKinds := [.data], laidTests := true, laidLooks := .later }
def FibTellsUptoCardSaid : Prop := Claim7.holds Tryd.pinned (.plain (OpenSpec.upto fibTellsSpec)) fibTellsUptoCard

/-- THE SECOND FORM's CARD OF 'lampwrightlaw.FibOnly'. -/
def fibOnlyUptoCard : Claim7 := { stood := { row := fibOnlyUptoRow, standIns := [], harness := (true, "7acdfa7b4610b44243de485c6e62565d5df49cefe91e7b4ccc8ec81375d934bb"), looks := false }, kinds := [], alts := [], laidByText := true, laidKinds := [.data], laidTests := true, laidLooks := .later }
def FibOnlyUptoCardSaid : Prop := Claim7.holds Tryd.pinned (.plain (OpenSpec.upto fibOnlySpec)) fibOnlyUptoCard

/-- THE SECOND FORM's CARD OF 'lampwrightlaw.FibBack'. -/
def fibBackUptoCard : Claim7 := { stood := { row := fibBackUptoRow, standIns := [], harness := (true, "7acdfa7b4610b44243de485c6e62565d5df49cefe91e7b4ccc8ec81375d934bb"), looks := false }, kinds := [], alts := [], laidByText := true, laidKinds := [.data], laidTests := true, laidLooks := .later }
def FibBackUptoCardSaid : Prop := Claim7.holds Tryd.pinned (.plain (OpenSpec.upto fibBackSpec)) fibBackUptoCard

/-- THE SECOND FORM's CARD OF 'lampwrightlaw.FibNext'. -/
def fibNextUptoCard : Claim7 := { stood := { row := fibNextUptoRow, standIns := [], harness := (true, "7acdfa7b4610b44243de485c6e62565d5df49cefe91e7b4ccc8ec81375d934bb"), looks := false }, kinds := [], alts := [], laidByText := true, laidKinds := [.data], laidTests := true, laidLooks := .later }
def FibNextUptoCardSaid : Prop := Claim7.holds Tryd.pinned (.plain (OpenSpec.upto fibNextSpec)) fibNextUptoCard

/-- THE SECOND FORM's CARD OF 'lampwrightlaw.FibLong'. -/
def fibLongUptoCard : Claim7 := { stood := { row := fibLongUptoRow, standIns := [], harness := (true, "7acdfa7b4610b44243de485c6e62565d5df49cefe91e7b4ccc8ec81375d934bb"), looks := false }, kinds := [], alts := [], laidByText := true, laidKinds := [.data], laidTests := true, laidLooks := .later }
def FibLongUptoCardSaid : Prop := Claim7.holds Tryd.pinned (.plain (OpenSpec.upto fibLongSpec)) fibLongUptoCard

/-- THE SECOND FORM's CARD OF 'lampwrightlaw.FibNumbers'. -/
def fibNumbersUptoCard : Claim7 := { stood := { row := fibNumbersUptoRow, standIns := [], harness := (true, "7acdfa7b4610b44243de485c6e62565d5df49cefe91e7b4ccc8ec81375d934bb"), looks := false }, kinds := [], alts := [], laidByText := true, laidKinds := [.data], laidTests := true, laidLooks := .later }
def FibNumbersUptoCardSaid : Prop := Claim7.holds Tryd.pinned (.plain (OpenSpec.upto fibNumbersSpec)) fibNumbersUptoCard
end Rows
end Go.Proofs.YtjogccpnhcnedaaDoor
