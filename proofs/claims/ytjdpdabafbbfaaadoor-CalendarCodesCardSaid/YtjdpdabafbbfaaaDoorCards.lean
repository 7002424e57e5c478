/-
  DERIVED. GIVEN WITH THE SEED: THE CARDS: each row of YtjdpdabafbbfaaaDoorRows.lean that lists a variable, with what it lists TIED to the program's text (the seventh form; the later family's looks); each row that meets fmt, with fmt's text TOLD by the authors' own Lean function (tested against real Go, not proved from fmt's source: count such statements apart). THE CARD IS WHAT COUNTS. Prove the row's statement (the work); the ties are given (YtjdpdabafbbfaaaDoorTie.lean); close each card by the builder's one call (the guide's Derived/Test/ToyasCard.lean, 'card_holds'). Laid BY PROGRAM, IN A SANDBOX (cutbox-door.mjs). By AI agents, Wed Nov 11 2026. No macro, syntax, notation, axiom, sorry.
-/
import Derived.Test.YtjdpdabafbbfaaaDoorRows
import GoSem.ClaimSeven
namespace Go.Proofs.YtjdpdabafbbfaaaDoor
namespace Rows

/-- THE TIED CARD OF 'meridianlaw09.CalendarCodes'. -/
def calendarCodesCard : Claim7 := { stood := { row := calendarCodesRow, standIns := [], harness := (true, "a768da0f6b7593da0e0dc78fb1256536bc7d5bec5978a8d4a2ed2c073cdc0d66"), looks := false }, kinds := [], alts := [], laidByText := true, laidKinds := [.data], laidTests := true, laidLooks := .later }
def CalendarCodesCardSaid : Prop := Claim7.holds Tryd.pinned (.plain (OpenSpec.ofChange calendarCodesSpec)) calendarCodesCard

/-- THE SECOND FORM's CARD OF 'meridianlaw09.CalendarCodes'. -/
def calendarCodesUptoCard : Claim7 := { stood := { row := calendarCodesUptoRow, standIns := [], harness := (true, "a768da0f6b7593da0e0dc78fb1256536bc7d5bec5978a8d4a2ed2c073cdc0d66"), looks := false }, kinds := [], alts := [], laidByText := true, laidKinds := [.data], laidTests := true, laidLooks := .later }
def CalendarCodesUptoCardSaid : Prop := Claim7.holds Tryd.pinned (.plain (OpenSpec.upto calendarCodesSpec)) calendarCodesUptoCard
end Rows
end Go.Proofs.YtjdpdabafbbfaaaDoor
