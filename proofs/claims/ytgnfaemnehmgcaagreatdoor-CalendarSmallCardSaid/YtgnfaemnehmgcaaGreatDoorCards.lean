/-
  DERIVED. GIVEN WITH THE SEED: THE CARDS: each row of YtgnfaemnehmgcaaGreatDoorRows.lean that lists a variable, with what it lists TIED to the program's text (the seventh form; the later family's looks); each row that meets fmt, with fmt's text TOLD by the authors' own Lean function (tested against real Go, not proved from fmt's source: count such statements apart). THE CARD IS WHAT COUNTS. Prove the row's statement (the work); the ties are given (YtgnfaemnehmgcaaGreatDoorTie.lean); close each card by the builder's one call (the guide's Derived/Test/ToyasCard.lean, 'card_holds'). Laid BY PROGRAM, IN A SANDBOX (cutbox-door.mjs). By AI agents, Wed Nov 11 2026. No macro, syntax, notation, axiom, sorry.
-/
import Derived.Test.YtgnfaemnehmgcaaGreatDoorRows
import GoSem.ClaimSeven
namespace Go.Proofs.YtgnfaemnehmgcaaGreatDoor
namespace Rows

/-- THE TIED CARD OF 'meridianlaw09.CalendarTexts'. -/
def calendarTextsCard : Claim7 := { stood := { row := calendarTextsRow, standIns := [], harness := (true, "b685e65d4abdc03e09c58bed910226aebb3edfcff9d19386d8d576f4c71812bf"), looks := true }, kinds := [], alts := [], laidByText := true, laidKinds := [.data, .data, .data, .sentinel, .sentinel, .data], laidTests := true, laidLooks := .later }
def CalendarTextsCardSaid : Prop := Claim7.holds Tryz.pinned (.plain (OpenSpec.ofChange calendarTextsSpec)) calendarTextsCard

/-- THE TIED CARD OF 'meridianlaw09.CalendarSmall'. -/
def calendarSmallCard : Claim7 := { stood := { row := calendarSmallRow, standIns := [], harness := (true, "b685e65d4abdc03e09c58bed910226aebb3edfcff9d19386d8d576f4c71812bf"), looks := true }, kinds := [], alts := [], laidByText := true, laidKinds := [.data, .data, .data, .sentinel, .sentinel, .data], laidTests := true, laidLooks := .later }
def CalendarSmallCardSaid : Prop := Claim7.holds Tryz.pinned (.plain (OpenSpec.ofChange calendarSmallSpec)) calendarSmallCard

/-- THE SECOND FORM's CARD OF 'meridianlaw09.CalendarTexts'. -/
def calendarTextsUptoCard : Claim7 := { stood := { row := calendarTextsUptoRow, standIns := [], harness := (true, "b685e65d4abdc03e09c58bed910226aebb3edfcff9d19386d8d576f4c71812bf"), looks := true }, kinds := [], alts := [], laidByText := true, laidKinds := [.data, .data, .data, .sentinel, .sentinel, .data], laidTests := true, laidLooks := .later }
def CalendarTextsUptoCardSaid : Prop := Claim7.holds Tryz.pinned (.plain (OpenSpec.upto calendarTextsSpec)) calendarTextsUptoCard

/-- THE SECOND FORM's CARD OF 'meridianlaw09.CalendarSmall'. -/
def calendarSmallUptoCard : Claim7 := { stood := { row := calendarSmallUptoRow, standIns := [], harness := (true, "b685e65d4abdc03e09c58bed910226aebb3edfcff9d19386d8d576f4c71812bf"), looks := true }, kinds := [], alts := [], laidByText := true, laidKinds := [.data, .data, .data, .sentinel, .sentinel, .data], laidTests := true, laidLooks := .later }
def CalendarSmallUptoCardSaid : Prop := Claim7.holds Tryz.pinned (.plain (OpenSpec.upto calendarSmallSpec)) calendarSmallUptoCard
end Rows
end Go.Proofs.YtgnfaemnehmgcaaGreatDoor
