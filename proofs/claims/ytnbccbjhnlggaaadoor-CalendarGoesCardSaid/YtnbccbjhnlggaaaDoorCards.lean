/-
  DERIVED. GIVEN WITH THE SEED: THE CARDS: each row of YtnbccbjhnlggaaaDoorRows.lean that lists a variable, with what it lists TIED to the program's text (the seventh form; the later family's looks); each row that meets fmt, with fmt's text TOLD by the authors' own Lean function (tested against real Go, not proved from fmt's source: count such statements apart). THE CARD IS WHAT COUNTS. Prove the row's statement (the work); the ties are given (YtnbccbjhnlggaaaDoorTie.lean); close each card by the builder's one call (the guide's Derived/Test/ToyasCard.lean, 'card_holds'). Laid BY PROGRAM, IN A SANDBOX (cutbox-door.mjs). By AI agents, Wed Nov 11 2026. No macro, syntax, notation, axiom, sorry.
-/
import Derived.Test.YtnbccbjhnlggaaaDoorRows
import GoSem.ClaimSeven
namespace Go.Proofs.YtnbccbjhnlggaaaDoor
namespace Rows

/-- THE TIED CARD OF 'meridianlaw09.CalendarGoes'. -/
def calendarGoesCard : Claim7 := { stood := { row := calendarGoesRow, standIns := [], harness := (true, "876a3f29b74d70ac8491009f6a8b41acf219b5fcfeb8df9aae195a834f9468b7"), looks := true }, kinds := [], alts := [], laidByText := true, laidKinds := [.data, .data, .data, .sentinel, .sentinel, .data], laidTests := true, laidLooks := .later }
def CalendarGoesCardSaid : Prop := Claim7.holds Tryd.pinned (.plain (OpenSpec.ofChange calendarGoesSpec)) calendarGoesCard

/-- THE TIED CARD OF 'meridianlaw09.CalendarExtends'. -/
def calendarExtendsCard : Claim7 := { stood := { row := calendarExtendsRow, standIns := [], harness := (true, "876a3f29b74d70ac8491009f6a8b41acf219b5fcfeb8df9aae195a834f9468b7"), looks := true }, kinds := [], alts := [], laidByText := true, laidKinds := [.data], laidTests := true, laidLooks := .later }
def CalendarExtendsCardSaid : Prop := Claim7.holds Tryd.pinned (.plain (OpenSpec.ofChange calendarExtendsSpec)) calendarExtendsCard

/-- THE TIED CARD OF 'meridianlaw09.CalendarEncodes'. -/
def calendarEncodesCard : Claim7 := { stood := { row := calendarEncodesRow, standIns := [], harness := (true, "876a3f29b74d70ac8491009f6a8b41acf219b5fcfeb8df9aae195a834f9468b7"), looks := true }, kinds := [], alts := [], laidByText := true, laidKinds := [.data], laidTests := true, laidLooks := .later }
def CalendarEncodesCardSaid : Prop := Claim7.holds Tryd.pinned (.plain (OpenSpec.ofChange calendarEncodesSpec)) calendarEncodesCard

/-- THE TIED CARD OF 'meridianlaw09.CalendarLocal'. -/
def calendarLocalCard : Claim7 := { stood := { row := calendarLocalRow, standIns := [], harness := (true, "876a3f29b74d70ac8491009f6a8b41acf219b5fcfeb8df9aae195a834f9468b7"), looks := true }, kinds := [], alts := [], laidByText := true, laidKinds := [.data], laidTests := true, laidLooks := .later }
def CalendarLocalCardSaid : Prop := Claim7.holds Tryd.pinned (.plain (OpenSpec.ofChange calendarLocalSpec)) calendarLocalCard

/-- THE SECOND FORM's CARD OF 'meridianlaw09.CalendarGoes'. -/
def calendarGoesUptoCard : Claim7 := { stood := { row := calendarGoesUptoRow, standIns := [], harness := (true, "876a3f29b74d70ac8491009f6a8b41acf219b5fcfeb8df9aae195a834f9468b7"), looks := true }, kinds := [], alts := [], laidByText := true, laidKinds := [.data, .data, .data, .sentinel, .sentinel, .data], laidTests := true, laidLooks := .later }
def CalendarGoesUptoCardSaid : Prop := Claim7.holds Tryd.pinned (.plain (OpenSpec.upto calendarGoesSpec)) calendarGoesUptoCard

/-- THE SECOND FORM's CARD OF 'meridianlaw09.CalendarExtends'. -/
def calendarExtendsUptoCard : Claim7 := { stood := { row := calendarExtendsUptoRow, standIns := [], harness := (true, "876a3f29b74d70ac8491009f6a8b41acf219b5fcfeb8df9aae195a834f9468b7"), looks := true }, kinds := [], alts := [], laidByText := true, laidKinds := [.data], laidTests := true, laidLooks := .later }
def CalendarExtendsUptoCardSaid : Prop := Claim7.holds Tryd.pinned (.plain (OpenSpec.upto calendarExtendsSpec)) calendarExtendsUptoCard

/-- THE SECOND FORM's CARD OF 'meridianlaw09.CalendarEncodes'. -/
def calendarEncodesUptoCard : Claim7 := { stood := { row := calendarEncodesUptoRow, standIns := [], harness := (true, "876a3f29b74d70ac8491009f6a8b41acf219b5fcfeb8df9aae195a834f9468b7"), looks := true }, kinds := [], alts := [], laidByText := true, laidKinds := [.data], laidTests := true, laidLooks := .later }
def CalendarEncodesUptoCardSaid : Prop := Claim7.holds Tryd.pinned (.plain (OpenSpec.upto calendarEncodesSpec)) calendarEncodesUptoCard

/-- THE SECOND FORM's CARD OF 'meridianlaw09.CalendarLocal'. -/
def calendarLocalUptoCard : Claim7 := { stood := { row := calendarLocalUptoRow, standIns := [], harness := (true, "876a3f29b74d70ac8491009f6a8b41acf219b5fcfeb8df9aae195a834f9468b7"), looks := true }, kinds := [], alts := [], laidByText := true, laidKinds := [.data], laidTests := true, laidLooks := .later }
def CalendarLocalUptoCardSaid : Prop := Claim7.holds Tryd.pinned (.plain (OpenSpec.upto calendarLocalSpec)) calendarLocalUptoCard
end Rows
end Go.Proofs.YtnbccbjhnlggaaaDoor
