/-
  DERIVED. GIVEN WITH THE SEED: THE CARDS: each row of YtemblamamgfodaaGreatDoorRows.lean that lists a variable, with what it lists TIED to the program's text (the seventh form; the later family's looks); each row that meets fmt, with fmt's text TOLD by the authors' own Lean function (tested against real Go, not proved from fmt's source: count such statements apart). THE CARD IS WHAT COUNTS. Prove the row's statement (the work); the ties are given (YtemblamamgfodaaGreatDoorTie.lean); close each card by the builder's one call (the guide's Derived/Test/ToyasCard.lean, 'card_holds'). Laid BY PROGRAM, IN A SANDBOX (cutbox-door.mjs). By AI agents, Wed Nov 11 2026. No macro, syntax, notation, axiom, sorry.
-/
import Derived.Test.YtemblamamgfodaaGreatDoorRows
import GoSem.ClaimSeven
namespace Go.Proofs.YtemblamamgfodaaGreatDoor
namespace Rows

/-- THE TIED CARD OF 'meridianlaw02.CounterFollows'. -/
def counterFollowsCard : Claim7 := { stood := { row := counterFollowsRow, standIns := [], harness := (true, "e6b3c65a5df5dfee6044924470a23d9d307256db1cf39c24928cd33bee7989da"), looks := false }, kinds := [], alts := [], laidByText := true, laidKinds := [.data, .data], laidTests := true, laidLooks := .later }
def CounterFollowsCardSaid : Prop := Claim7.holds Tryz.pinned (.plain (OpenSpec.ofChange counterFollowsSpec)) counterFollowsCard

/-- THE TIED CARD OF 'meridianlaw03.StabilityReached'. -/
def stabilityReachedCard : Claim7 := { stood := { row := stabilityReachedRow, standIns := [], harness := (true, "e6b3c65a5df5dfee6044924470a23d9d307256db1cf39c24928cd33bee7989da"), looks := false }, kinds := [], alts := [], laidByText := true, laidKinds := [.data, .data], laidTests := true, laidLooks := .later }
def StabilityReachedCardSaid : Prop := Claim7.holds Tryz.pinned (.plain (OpenSpec.ofChange stabilityReachedSpec)) stabilityReachedCard

/-- THE SECOND FORM's CARD OF 'meridianlaw02.CounterFollows'. -/
def counterFollowsUptoCard : Claim7 := { stood := { row := counterFollowsUptoRow, standIns := [], harness := (true, "e6b3c65a5df5dfee6044924470a23d9d307256db1cf39c24928cd33bee7989da"), looks := false }, kinds := [], alts := [], laidByText := true, laidKinds := [.data, .data], laidTests := true, laidLooks := .later }
def CounterFollowsUptoCardSaid : Prop := Claim7.holds Tryz.pinned (.plain (OpenSpec.upto counterFollowsSpec)) counterFollowsUptoCard

/-- THE SECOND FORM's CARD OF 'meridianlaw03.StabilityReached'. -/
def stabilityReachedUptoCard : Claim7 := { stood := { row := stabilityReachedUptoRow, standIns := [], harness := (true, "e6b3c65a5df5dfee6044924470a23d9d307256db1cf39c24928cd33bee7989da"), looks := false }, kinds := [], alts := [], laidByText := true, laidKinds := [.data, .data], laidTests := true, laidLooks := .later }
def StabilityReachedUptoCardSaid : Prop := Claim7.holds Tryz.pinned (.plain (OpenSpec.upto stabilityReachedSpec)) stabilityReachedUptoCard
end Rows
end Go.Proofs.YtemblamamgfodaaGreatDoor
