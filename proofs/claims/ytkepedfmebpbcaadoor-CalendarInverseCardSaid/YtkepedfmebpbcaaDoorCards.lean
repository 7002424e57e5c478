/-
  DERIVED. GIVEN WITH THE SEED: THE CARDS: each row of YtkepedfmebpbcaaDoorRows.lean that lists a variable, with what it lists TIED to the program's text (the seventh form; the later family's looks); each row that meets fmt, with fmt's text TOLD by the authors' own Lean function (tested against real Go, not proved from fmt's source: count such statements apart). THE CARD IS WHAT COUNTS. Prove the row's statement (the work); the ties are given (YtkepedfmebpbcaaDoorTie.lean); close each card by the builder's one call (the guide's Derived/Test/ToyasCard.lean, 'card_holds'). Laid BY PROGRAM, IN A SANDBOX (cutbox-door.mjs). By AI agents, Wed Nov 11 2026. No macro, syntax, notation, axiom, sorry.
-/
import Derived.Test.YtkepedfmebpbcaaDoorRows
import GoSem.ClaimSeven
namespace Go.Proofs.YtkepedfmebpbcaaDoor
namespace Rows

/-- THE TIED CARD OF 'meridianlaw09.CalendarDays'. -/
def calendarDaysCard : Claim7 := { stood := { row := calendarDaysRow, standIns := [], harness := (true, "8731e6c72957a5098e70dbcd85dcb61e5c6ec88dbb09951f6785e1dec544a5c5"), looks := false }, kinds := [], alts := [], laidByText := true, laidKinds := [.data], laidTests := true, laidLooks := .later }
def CalendarDaysCardSaid : Prop := Claim7.holds Tryd.pinned (.plain (OpenSpec.ofChange calendarDaysSpec)) calendarDaysCard

/-- THE TIED CARD OF 'meridianlaw09.CalendarTables'. -/
def calendarTablesCard : Claim7 := { stood := { row := calendarTablesRow, standIns := [], harness := (true, "8731e6c72957a5098e70dbcd85dcb61e5c6ec88dbb09951f6785e1dec544a5c5"), looks := false }, kinds := [], alts := [], laidByText := true, laidKinds := [.data], laidTests := true, laidLooks := .later }
def CalendarTablesCardSaid : Prop := Claim7.holds Tryd.pinned (.plain (OpenSpec.ofChange calendarTablesSpec)) calendarTablesCard

/-- THE TIED CARD OF 'meridianlaw09.CalendarInverse'. -/
def calendarInverseCard : Claim7 := { stood := { row := calendarInverseRow, standIns := [], harness := (true, "8731e6c72957a5098e70dbcd85dcb61e5c6ec88dbb09951f6785e1dec544a5c5"), looks := false }, kinds := [], alts := [], laidByText := true, laidKinds := [.data], laidTests := true, laidLooks := .later }
def CalendarInverseCardSaid : Prop := Claim7.holds Tryd.pinned (.plain (OpenSpec.ofChange calendarInverseSpec)) calendarInverseCard

/-- THE SECOND FORM's CARD OF 'meridianlaw09.CalendarDays'. -/
def calendarDaysUptoCard : Claim7 := { stood := { row := calendarDaysUptoRow, standIns := [], harness := (true, "8731e6c72957a5098e70dbcd85dcb61e5c6ec88dbb09951f6785e1dec544a5c5"), looks := false }, kinds := [], alts := [], laidByText := true, laidKinds := [.data], laidTests := true, laidLooks := .later }
def CalendarDaysUptoCardSaid : Prop := Claim7.holds Tryd.pinned (.plain (OpenSpec.upto calendarDaysSpec)) calendarDaysUptoCard

/-- THE SECOND FORM's CARD OF 'meridianlaw09.CalendarTables'. -/
def calendarTablesUptoCard : Claim7 := { stood := { row := calendarTablesUptoRow, standIns := [], harness := (true, "8731e6c72957a5098e70dbcd85dcb61e5c6ec88dbb09951f6785e1dec544a5c5"), looks := false }, kinds := [], alts := [], laidByText := true, laidKinds := [.data], laidTests := true, laidLooks := .later }
def CalendarTablesUptoCardSaid : Prop := Claim7.holds Tryd.pinned (.plain (OpenSpec.upto calendarTablesSpec)) calendarTablesUptoCard

/-- THE SECOND FORM's CARD OF 'meridianlaw09.CalendarInverse'. -/
def calendarInverseUptoCard : Claim7 := { stood := { row := calendarInverseUptoRow, standIns := [], harness := (true, "8731e6c72957a5098e70dbcd85dcb61e5c6ec88dbb09951f6785e1dec544a5c5"), looks := false }, kinds := [], alts := [], laidByText := true, laidKinds := [.data], laidTests := true, laidLooks := .later }
def CalendarInverseUptoCardSaid : Prop := Claim7.holds Tryd.pinned (.plain (OpenSpec.upto calendarInverseSpec)) calendarInverseUptoCard
end Rows
end Go.Proofs.YtkepedfmebpbcaaDoor
