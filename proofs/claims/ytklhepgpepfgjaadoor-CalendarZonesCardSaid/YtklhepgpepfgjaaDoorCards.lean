/-
  DERIVED. GIVEN WITH THE SEED: THE CARDS: each row of YtklhepgpepfgjaaDoorRows.lean that lists a variable, with what it lists TIED to the program's text (the seventh form; the later family's looks); each row that meets fmt, with fmt's text TOLD by the authors' own Lean function (tested against real Go, not proved from fmt's source: count such statements apart). THE CARD IS WHAT COUNTS. Prove the row's statement (the work); the ties are given (YtklhepgpepfgjaaDoorTie.lean); close each card by the builder's one call (the guide's Derived/Test/ToyasCard.lean, 'card_holds'). Laid BY PROGRAM, IN A SANDBOX (cutbox-door.mjs). By AI agents, Wed Nov 11 2026. No macro, syntax, notation, axiom, sorry.
-/
import Derived.Test.YtklhepgpepfgjaaDoorRows
import GoSem.ClaimSeven
namespace Go.Proofs.YtklhepgpepfgjaaDoor
namespace Rows

/-- THE TIED CARD OF 'meridianlaw09.CalendarZones'. -/
def calendarZonesCard : Claim7 := { stood := { row := calendarZonesRow, standIns := [], harness := (true, "69aee20985b65e850638a62b2ee101057af4da55561567d90db18ba0a2122999"), looks := false }, kinds := [], alts := [], laidByText := true, laidKinds := [.data], laidTests := true, laidLooks := .later }
def CalendarZonesCardSaid : Prop := Claim7.holds Tryd.pinned (.plain (OpenSpec.ofChange calendarZonesSpec)) calendarZonesCard

/-- THE TIED CARD OF 'meridianlaw09.CalendarLocal'. -/
def calendarLocalCard : Claim7 := { stood := { row := calendarLocalRow, standIns := [], harness := (true, "69aee20985b65e850638a62b2ee101057af4da55561567d90db18ba0a2122999"), looks := false }, kinds := [], alts := [], laidByText := true, laidKinds := [.data], laidTests := true, laidLooks := .later }
def CalendarLocalCardSaid : Prop := Claim7.holds Tryd.pinned (.plain (OpenSpec.ofChange calendarLocalSpec)) calendarLocalCard

/-- THE SECOND FORM's CARD OF 'meridianlaw09.CalendarZones'. -/
def calendarZonesUptoCard : Claim7 := { stood := { row := calendarZonesUptoRow, standIns := [], harness := (true, "69aee20985b65e850638a62b2ee101057af4da55561567d90db18ba0a2122999"), looks := false }, kinds := [], alts := [], laidByText := true, laidKinds := [.data], laidTests := true, laidLooks := .later }
def CalendarZonesUptoCardSaid : Prop := Claim7.holds Tryd.pinned (.plain (OpenSpec.upto calendarZonesSpec)) calendarZonesUptoCard

/-- THE SECOND FORM's CARD OF 'meridianlaw09.CalendarLocal'. -/
def calendarLocalUptoCard : Claim7 := { stood := { row := calendarLocalUptoRow, standIns := [], harness := (true, "69aee20985b65e850638a62b2ee101057af4da55561567d90db18ba0a2122999"), looks := false }, kinds := [], alts := [], laidByText := true, laidKinds := [.data], laidTests := true, laidLooks := .later }
def CalendarLocalUptoCardSaid : Prop := Claim7.holds Tryd.pinned (.plain (OpenSpec.upto calendarLocalSpec)) calendarLocalUptoCard
end Rows
end Go.Proofs.YtklhepgpepfgjaaDoor
