/-
  DERIVED. GIVEN WITH THE SEED: THE CARDS: each row of YtmfpnfdoidihcaaGreatDoorRows.lean that lists a variable, with what it lists TIED to the program's text (the seventh form; the later family's looks); each row that meets fmt, with fmt's text TOLD by the authors' own Lean function (tested against real Go, not proved from fmt's source: count such statements apart). THE CARD IS WHAT COUNTS. Prove the row's statement (the work); the ties are given (YtmfpnfdoidihcaaGreatDoorTie.lean); close each card by the builder's one call (the guide's Derived/Test/ToyasCard.lean, 'card_holds'). Laid BY PROGRAM, IN A SANDBOX (cutbox-door.mjs). By AI agents, Wed Nov 11 2026. No macro, syntax, notation, axiom, sorry.
-/
import Derived.Test.YtmfpnfdoidihcaaGreatDoorRows
import GoSem.ClaimSeven
namespace Go.Proofs.YtmfpnfdoidihcaaGreatDoor
namespace Rows

/-- THE TIED CARD OF 'meridianlaw02.CounterSeries'. -/
def counterSeriesCard : Claim7 := { stood := { row := counterSeriesRow, standIns := [], harness := (true, "e843544ad79c31a155cca83394d8ba94bc3d6a1659066f1103a9890b5d6d6ee3"), looks := false }, kinds := [], alts := [], laidByText := true, laidKinds := [.data, .data], laidTests := true, laidLooks := .later }
def CounterSeriesCardSaid : Prop := Claim7.holds Tryz.pinned (.plain (OpenSpec.ofChange counterSeriesSpec)) counterSeriesCard

/-- THE TIED CARD OF 'meridianlaw02.CounterFollows'. -/
def counterFollowsCard : Claim7 := { stood := { row := counterFollowsRow, standIns := [], harness := (true, "e843544ad79c31a155cca83394d8ba94bc3d6a1659066f1103a9890b5d6d6ee3"), looks := false }, kinds := [], alts := [], laidByText := true, laidKinds := [.data, .data], laidTests := true, laidLooks := .later }
def CounterFollowsCardSaid : Prop := Claim7.holds Tryz.pinned (.plain (OpenSpec.ofChange counterFollowsSpec)) counterFollowsCard

/-- THE SECOND FORM's CARD OF 'meridianlaw02.CounterSeries'. -/
def counterSeriesUptoCard : Claim7 := { stood := { row := counterSeriesUptoRow, standIns := [], harness := (true, "e843544ad79c31a155cca83394d8ba94bc3d6a1659066f1103a9890b5d6d6ee3"), looks := false }, kinds := [], alts := [], laidByText := true, laidKinds := [.data, .data], laidTests := true, laidLooks := .later }
def CounterSeriesUptoCardSaid : Prop := Claim7.holds Tryz.pinned (.plain (OpenSpec.upto counterSeriesSpec)) counterSeriesUptoCard

/-- THE SECOND FORM's CARD OF 'meridianlaw02.CounterFollows'. -/
def counterFollowsUptoCard : Claim7 := { stood := { row := counterFollowsUptoRow, standIns := [], harness := (true, "e843544ad79c31a155cca83394d8ba94bc3d6a1659066f1103a9890b5d6d6ee3"), looks := false }, kinds := [], alts := [], laidByText := true, laidKinds := [.data, .data], laidTests := true, laidLooks := .later }
def CounterFollowsUptoCardSaid : Prop := Claim7.holds Tryz.pinned (.plain (OpenSpec.upto counterFollowsSpec)) counterFollowsUptoCard
end Rows
end Go.Proofs.YtmfpnfdoidihcaaGreatDoor
