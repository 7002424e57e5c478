/-
  DERIVED. GIVEN WITH THE SEED: THE CARDS: each row of YtmfpnfdoidihcaaDoorRows.lean that lists a variable, with what it lists TIED to the program's text (the seventh form; the later family's looks); each row that meets fmt, with fmt's text TOLD by the authors' own Lean function (tested against real Go, not proved from fmt's source: count such statements apart). THE CARD IS WHAT COUNTS. Prove the row's statement (the work); the ties are given (YtmfpnfdoidihcaaDoorTie.lean); close each card by the builder's one call (the guide's Derived/Test/ToyasCard.lean, 'card_holds'). Laid BY PROGRAM, IN A SANDBOX (cutbox-door.mjs). By AI agents, Wed Nov 11 2026. No macro, syntax, notation, axiom, sorry.
-/
import Derived.Test.YtmfpnfdoidihcaaDoorRows
import GoSem.ClaimSeven
namespace Go.Proofs.YtmfpnfdoidihcaaDoor
namespace Rows

/-- THE TIED CARD OF 'meridianlaw02.CounterMeets'. -/
def counterMeetsCard : Claim7 := { stood := { row := counterMeetsRow, standIns := [], harness := (true, "756848446f65927f464402ce08eb4a542067dd621bceb13feef9e8c983b9e00c"), looks := false }, kinds := [], alts := [], laidByText := true, laidKinds := [.data, .data], laidTests := true, laidLooks := .later }
def CounterMeetsCardSaid : Prop := Claim7.holds Tryd.pinned (.plain (OpenSpec.ofChange counterMeetsSpec)) counterMeetsCard

/-- THE SECOND FORM's CARD OF 'meridianlaw02.CounterMeets'. -/
def counterMeetsUptoCard : Claim7 := { stood := { row := counterMeetsUptoRow, standIns := [], harness := (true, "756848446f65927f464402ce08eb4a542067dd621bceb13feef9e8c983b9e00c"), looks := false }, kinds := [], alts := [], laidByText := true, laidKinds := [.data, .data], laidTests := true, laidLooks := .later }
def CounterMeetsUptoCardSaid : Prop := Claim7.holds Tryd.pinned (.plain (OpenSpec.upto counterMeetsSpec)) counterMeetsUptoCard
end Rows
end Go.Proofs.YtmfpnfdoidihcaaDoor
