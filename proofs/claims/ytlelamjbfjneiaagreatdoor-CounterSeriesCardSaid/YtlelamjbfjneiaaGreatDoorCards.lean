/-
  DERIVED. GIVEN WITH THE SEED: THE CARDS: each row of YtlelamjbfjneiaaGreatDoorRows.lean that lists a variable, with what it lists TIED to the program's text (the seventh form; the later family's looks); each row that meets fmt, with fmt's text TOLD by the authors' own Lean function (tested against real Go, not proved from fmt's source: count such statements apart). THE CARD IS WHAT COUNTS. Prove the row's statement (the work); the ties are given (YtlelamjbfjneiaaGreatDoorTie.lean); close each card by the builder's one call (the guide's Derived/Test/ToyasCard.lean, 'card_holds'). Laid BY PROGRAM, IN A SANDBOX (cutbox-door.mjs). By AI agents, Wed Nov 11 2026. No macro, syntax, notation, axiom, sorry.
-/
import Derived.Test.YtlelamjbfjneiaaGreatDoorRows
import GoSem.ClaimSeven
namespace Go.Proofs.YtlelamjbfjneiaaGreatDoor
namespace Rows

/-- THE TIED CARD OF 'meridianlaw02.CounterSeries'. -/
def counterSeriesCard : Claim7 := { stood := { row := counterSeriesRow, standIns := [], harness := (true, "137822b3e79f88192ddefbc60b1d2e113da208bd2d85376bcc3289b1c297e55f"), looks := false }, kinds := [], alts := [], laidByText := true, laidKinds := [.data, .data], laidTests := true, laidLooks := .later }
def CounterSeriesCardSaid : Prop := Claim7.holds Tryz.pinned (.plain (OpenSpec.ofChange counterSeriesSpec)) counterSeriesCard

/-- THE SECOND FORM's CARD OF 'meridianlaw02.CounterSeries'. -/
def counterSeriesUptoCard : Claim7 := { stood := { row := counterSeriesUptoRow, standIns := [], harness := (true, "137822b3e79f88192ddefbc60b1d2e113da208bd2d85376bcc3289b1c297e55f"), looks := false }, kinds := [], alts := [], laidByText := true, laidKinds := [.data, .data], laidTests := true, laidLooks := .later }
def CounterSeriesUptoCardSaid : Prop := Claim7.holds Tryz.pinned (.plain (OpenSpec.upto counterSeriesSpec)) counterSeriesUptoCard
end Rows
end Go.Proofs.YtlelamjbfjneiaaGreatDoor
