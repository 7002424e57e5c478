/-
  DERIVED. GIVEN WITH THE SEED: THE CARDS: each row of YtahdkgldhiekjaaDoorRows.lean that lists a variable, with what it lists TIED to the program's text (the seventh form; the later family's looks); each row that meets fmt, with fmt's text TOLD by the authors' own Lean function (tested against real Go, not proved from fmt's source: count such statements apart). THE CARD IS WHAT COUNTS. Prove the row's statement (the work); the ties are given (YtahdkgldhiekjaaDoorTie.lean); close each card by the builder's one call (the guide's Derived/Test/ToyasCard.lean, 'card_holds'). Laid BY PROGRAM, IN A SANDBOX (cutbox-door.mjs). By AI agents, Wed Nov 11 2026. No macro, syntax, notation, axiom, sorry.
-/
import Derived.Test.YtahdkgldhiekjaaDoorRows
import GoSem.ClaimSeven
namespace Go.Proofs.YtahdkgldhiekjaaDoor
namespace Rows

/-- THE TIED CARD OF 'meridianlaw09.CalendarOffsets'. -/
def calendarOffsetsCard : Claim7 := { stood := { row := calendarOffsetsRow, standIns := [], harness := (true, "d91938299fe5a0ad76ffd3a4440489e4ab888fbb2ddbfd679ffb1075ef2c1615"), looks := false }, kinds := [], alts := [], laidByText := true, laidKinds := [.data], laidTests := true, laidLooks := .later }
def CalendarOffsetsCardSaid : Prop := Claim7.holds Tryd.pinned (.plain (OpenSpec.ofChange calendarOffsetsSpec)) calendarOffsetsCard

/-- THE TIED CARD OF 'meridianlaw09.CalendarExtends'. -/
def calendarExtendsCard : Claim7 := { stood := { row := calendarExtendsRow, standIns := [], harness := (true, "d91938299fe5a0ad76ffd3a4440489e4ab888fbb2ddbfd679ffb1075ef2c1615"), looks := false }, kinds := [], alts := [], laidByText := true, laidKinds := [.data], laidTests := true, laidLooks := .later }
def CalendarExtendsCardSaid : Prop := Claim7.holds Tryd.pinned (.plain (OpenSpec.ofChange calendarExtendsSpec)) calendarExtendsCard

/-- THE TIED CARD OF 'meridianlaw09.CalendarEncodes'. -/
def calendarEncodesCard : Claim7 := { stood := { row := calendarEncodesRow, standIns := [], harness := (true, "d91938299fe5a0ad76ffd3a4440489e4ab888fbb2ddbfd679ffb1075ef2c1615"), looks := false }, kinds := [], alts := [], laidByText := true, laidKinds := [.data], laidTests := true, laidLooks := .later }
def CalendarEncodesCardSaid : Prop := Claim7.holds Tryd.pinned (.plain (OpenSpec.ofChange calendarEncodesSpec)) calendarEncodesCard

/-- THE SECOND FORM's CARD OF 'meridianlaw09.CalendarOffsets'. -/
def calendarOffsetsUptoCard : Claim7 := { stood := { row := calendarOffsetsUptoRow, standIns := [], harness := (true, "d91938299fe5a0ad76ffd3a4440489e4ab888fbb2ddbfd679ffb1075ef2c1615"), looks := false }, kinds := [], alts := [], laidByText := true, laidKinds := [.data], laidTests := true, laidLooks := .later }
def CalendarOffsetsUptoCardSaid : Prop := Claim7.holds Tryd.pinned (.plain (OpenSpec.upto calendarOffsetsSpec)) calendarOffsetsUptoCard

/-- THE SECOND FORM's CARD OF 'meridianlaw09.CalendarExtends'. -/
def calendarExtendsUptoCard : Claim7 := { stood := { row := calendarExtendsUptoRow, standIns := [], harness := (true, "d91938299fe5a0ad76ffd3a4440489e4ab888fbb2ddbfd679ffb1075ef2c1615"), looks := false }, kinds := [], alts := [], laidByText := true, laidKinds := [.data], laidTests := true, laidLooks := .later }
def CalendarExtendsUptoCardSaid : Prop := Claim7.holds Tryd.pinned (.plain (OpenSpec.upto calendarExtendsSpec)) calendarExtendsUptoCard

/-- THE SECOND FORM's CARD OF 'meridianlaw09.CalendarEncodes'. -/
def calendarEncodesUptoCard : Claim7 := { stood := { row := calendarEncodesUptoRow, standIns := [], harness := (true, "d91938299fe5a0ad76ffd3a4440489e4ab888fbb2ddbfd679ffb1075ef2c1615"), looks := false }, kinds := [], alts := [], laidByText := true, laidKinds := [.data], laidTests := true, laidLooks := .later }
def CalendarEncodesUptoCardSaid : Prop := Claim7.holds Tryd.pinned (.plain (OpenSpec.upto calendarEncodesSpec)) calendarEncodesUptoCard
end Rows
end Go.Proofs.YtahdkgldhiekjaaDoor
