/-
  No cell of these rows narrows 'for every input' (looked for: loops, veiled, ifaces, maps, wideKeys, modest, calm, conditions, laid).
  DERIVED. THE GIVEN ROWS OF THIS SEAT. 10 by the template 'for every input the law returns true; each argument reads behind the call as it read before'; 0 by the template 'total and deterministic' (their statements: YtpmhphdpomiacaaTotals.lean).
  GIVEN WITH THE SEED: the statements are not yours to turn. If you find one false, say at which input.
  Laid BY PROGRAM, IN A SANDBOX (cutbox-rows.mjs): the forced cells as the released guide's own fill.sh prints them over the translation 4a54d3da7092f49b… (all of the seat's roots in one cut). By AI agents, Wed Nov 11 2026. No macro, syntax, notation, axiom, sorry.
-/
import Derived.Test.YtpmhphdpomiacaaChecked
import GoSem.Claim
import GoSem.ClaimJoined
import GoSem.ClaimMapViews
import Derived.JoinedTies
import Derived.KernelRfl
namespace Go.Proofs.Ytpmhphdpomiacaa
/- THE CELL 'sum', in the pinned program and in every row, IS THE sha256 OF THE DUMP (.gsa) THAT YtpmhphdpomiacaaProg.lean LOADS. Nothing in Lean hashes anything: it is a label: what it is worth is what the hold of that sum in a sandbox is worth. -/
noncomputable def Try.pinned : Pinned := { name := "ytpmhphdpomiacaa", sum := "4a54d3da7092f49bb931db24edca568e67e5b4d9ad7c0a77ffbf8ba17fe2e20b", checked := Try.checked }
namespace Rows
def none {H : Type} : Left H := { results := [], args := [] }

/-- 'meridianlaw03.StabilityVariances': WHATEVER THE INPUT: true; the input reads as it did. -/
def stabilityVariancesSpec : ChangeSpec := { name := "stabilityVariances", fn := fun _ => fun
  | [d1, d2] => { results := [.lit (.bool true)], args := [d1, d2] }
  | _ => none }
def stabilityVariancesRow : OpenClaim := { program := "ytpmhphdpomiacaa", sum := "4a54d3da7092f49bb931db24edca568e67e5b4d9ad7c0a77ffbf8ba17fe2e20b", func := "meridian/meridianlaw03.StabilityVariances", spec := "stabilityVariances", unfollowed := true, recurses := true, apart := false }
def StabilityVariancesSaid : Prop := stabilityVariancesRow.holds Try.pinned (OpenSpec.ofChange stabilityVariancesSpec)

/-- ITS FALSE NEIGHBOUR: 'it returns false'. Refute it at one input. -/
def stabilityVariancesWrong : ChangeSpec := { name := "stabilityVariances", fn := fun _ => fun
  | [d1, d2] => { results := [.lit (.bool false)], args := [d1, d2] }
  | _ => none }
def StabilityVariancesWrongFalsely : Prop := stabilityVariancesRow.holds Try.pinned (OpenSpec.ofChange stabilityVariancesWrong)

/-- 'meridianlaw03.StabilityFits': WHATEVER THE INPUT: true; the input reads as it did. -/
def stabilityFitsSpec : ChangeSpec := { name := "stabilityFits", fn := fun _ => fun
  | [d1, d2] => { results := [.lit (.bool true)], args := [d1, d2] }
  | _ => none }
def stabilityFitsRow : OpenClaim := { program := "ytpmhphdpomiacaa", sum := "4a54d3da7092f49bb931db24edca568e67e5b4d9ad7c0a77ffbf8ba17fe2e20b", func := "meridian/meridianlaw03.StabilityFits", spec := "stabilityFits", unfollowed := true, recurses := true, apart := false }
def StabilityFitsSaid : Prop := stabilityFitsRow.holds Try.pinned (OpenSpec.ofChange stabilityFitsSpec)

/-- ITS FALSE NEIGHBOUR: 'it returns false'. Refute it at one input. -/
def stabilityFitsWrong : ChangeSpec := { name := "stabilityFits", fn := fun _ => fun
  | [d1, d2] => { results := [.lit (.bool false)], args := [d1, d2] }
  | _ => none }
def StabilityFitsWrongFalsely : Prop := stabilityFitsRow.holds Try.pinned (OpenSpec.ofChange stabilityFitsWrong)

/-- 'meridianlaw03.StabilityCovers': WHATEVER THE INPUT: true; the input reads as it did. -/
def stabilityCoversSpec : ChangeSpec := { name := "stabilityCovers", fn := fun _ => fun
  | [d1, d2, d3, d4, d5, d6] => { results := [.lit (.bool true)], args := [d1, d2, d3, d4, d5, d6] }
  | _ => none }
def stabilityCoversRow : OpenClaim := { program := "ytpmhphdpomiacaa", sum := "4a54d3da7092f49bb931db24edca568e67e5b4d9ad7c0a77ffbf8ba17fe2e20b", func := "meridian/meridianlaw03.StabilityCovers", spec := "stabilityCovers", unfollowed := true, recurses := true, apart := false }
def StabilityCoversSaid : Prop := stabilityCoversRow.holds Try.pinned (OpenSpec.ofChange stabilityCoversSpec)

/-- ITS FALSE NEIGHBOUR: 'it returns false'. Refute it at one input. -/
def stabilityCoversWrong : ChangeSpec := { name := "stabilityCovers", fn := fun _ => fun
  | [d1, d2, d3, d4, d5, d6] => { results := [.lit (.bool false)], args := [d1, d2, d3, d4, d5, d6] }
  | _ => none }
def StabilityCoversWrongFalsely : Prop := stabilityCoversRow.holds Try.pinned (OpenSpec.ofChange stabilityCoversWrong)

/-- 'meridianlaw03.StabilitySmall': WHATEVER THE INPUT: true; the input reads as it did. -/
def stabilitySmallSpec : ChangeSpec := { name := "stabilitySmall", fn := fun _ => fun
  | [] => { results := [.lit (.bool true)], args := [] }
  | _ => none }
def stabilitySmallRow : OpenClaim := { program := "ytpmhphdpomiacaa", sum := "4a54d3da7092f49bb931db24edca568e67e5b4d9ad7c0a77ffbf8ba17fe2e20b", func := "meridian/meridianlaw03.StabilitySmall", spec := "stabilitySmall", unfollowed := true, recurses := true, apart := false }
def StabilitySmallSaid : Prop := stabilitySmallRow.holds Try.pinned (OpenSpec.ofChange stabilitySmallSpec)

/-- ITS FALSE NEIGHBOUR: 'it returns false'. Refute it at one input. -/
def stabilitySmallWrong : ChangeSpec := { name := "stabilitySmall", fn := fun _ => fun
  | [] => { results := [.lit (.bool false)], args := [] }
  | _ => none }
def StabilitySmallWrongFalsely : Prop := stabilitySmallRow.holds Try.pinned (OpenSpec.ofChange stabilitySmallWrong)

/-- 'meridianlaw03.StabilityLines': WHATEVER THE INPUT: true; the input reads as it did. -/
def stabilityLinesSpec : ChangeSpec := { name := "stabilityLines", fn := fun _ => fun
  | [d1, d2, d3, d4, d5, d6] => { results := [.lit (.bool true)], args := [d1, d2, d3, d4, d5, d6] }
  | _ => none }
def stabilityLinesRow : OpenClaim := { program := "ytpmhphdpomiacaa", sum := "4a54d3da7092f49bb931db24edca568e67e5b4d9ad7c0a77ffbf8ba17fe2e20b", func := "meridian/meridianlaw03.StabilityLines", spec := "stabilityLines", unfollowed := true, recurses := true, apart := false }
def StabilityLinesSaid : Prop := stabilityLinesRow.holds Try.pinned (OpenSpec.ofChange stabilityLinesSpec)

/-- ITS FALSE NEIGHBOUR: 'it returns false'. Refute it at one input. -/
def stabilityLinesWrong : ChangeSpec := { name := "stabilityLines", fn := fun _ => fun
  | [d1, d2, d3, d4, d5, d6] => { results := [.lit (.bool false)], args := [d1, d2, d3, d4, d5, d6] }
  | _ => none }
def StabilityLinesWrongFalsely : Prop := stabilityLinesRow.holds Try.pinned (OpenSpec.ofChange stabilityLinesWrong)

/-- 'meridianlaw03.StabilityScales': WHATEVER THE INPUT: true; the input reads as it did. -/
def stabilityScalesSpec : ChangeSpec := { name := "stabilityScales", fn := fun _ => fun
  | [d1, d2, d3, d4] => { results := [.lit (.bool true)], args := [d1, d2, d3, d4] }
  | _ => none }
def stabilityScalesRow : OpenClaim := { program := "ytpmhphdpomiacaa", sum := "4a54d3da7092f49bb931db24edca568e67e5b4d9ad7c0a77ffbf8ba17fe2e20b", func := "meridian/meridianlaw03.StabilityScales", spec := "stabilityScales", unfollowed := true, recurses := true, apart := false }
def StabilityScalesSaid : Prop := stabilityScalesRow.holds Try.pinned (OpenSpec.ofChange stabilityScalesSpec)

/-- ITS FALSE NEIGHBOUR: 'it returns false'. Refute it at one input. -/
def stabilityScalesWrong : ChangeSpec := { name := "stabilityScales", fn := fun _ => fun
  | [d1, d2, d3, d4] => { results := [.lit (.bool false)], args := [d1, d2, d3, d4] }
  | _ => none }
def StabilityScalesWrongFalsely : Prop := stabilityScalesRow.holds Try.pinned (OpenSpec.ofChange stabilityScalesWrong)

/-- 'meridianlaw03.StabilityBest': WHATEVER THE INPUT: true; the input reads as it did. -/
def stabilityBestSpec : ChangeSpec := { name := "stabilityBest", fn := fun _ => fun
  | [d1, d2, d3] => { results := [.lit (.bool true)], args := [d1, d2, d3] }
  | _ => none }
def stabilityBestRow : OpenClaim := { program := "ytpmhphdpomiacaa", sum := "4a54d3da7092f49bb931db24edca568e67e5b4d9ad7c0a77ffbf8ba17fe2e20b", func := "meridian/meridianlaw03.StabilityBest", spec := "stabilityBest", unfollowed := true, recurses := true, apart := false }
def StabilityBestSaid : Prop := stabilityBestRow.holds Try.pinned (OpenSpec.ofChange stabilityBestSpec)

/-- ITS FALSE NEIGHBOUR: 'it returns false'. Refute it at one input. -/
def stabilityBestWrong : ChangeSpec := { name := "stabilityBest", fn := fun _ => fun
  | [d1, d2, d3] => { results := [.lit (.bool false)], args := [d1, d2, d3] }
  | _ => none }
def StabilityBestWrongFalsely : Prop := stabilityBestRow.holds Try.pinned (OpenSpec.ofChange stabilityBestWrong)

/-- 'meridianlaw03.StabilityCovered': WHATEVER THE INPUT: true; the input reads as it did. -/
def stabilityCoveredSpec : ChangeSpec := { name := "stabilityCovered", fn := fun _ => fun
  | [d1, d2, d3, d4] => { results := [.lit (.bool true)], args := [d1, d2, d3, d4] }
  | _ => none }
def stabilityCoveredRow : OpenClaim := { program := "ytpmhphdpomiacaa", sum := "4a54d3da7092f49bb931db24edca568e67e5b4d9ad7c0a77ffbf8ba17fe2e20b", func := "meridian/meridianlaw03.StabilityCovered", spec := "stabilityCovered", unfollowed := true, recurses := true, apart := false }
def StabilityCoveredSaid : Prop := stabilityCoveredRow.holds Try.pinned (OpenSpec.ofChange stabilityCoveredSpec)

/-- ITS FALSE NEIGHBOUR: 'it returns false'. Refute it at one input. -/
def stabilityCoveredWrong : ChangeSpec := { name := "stabilityCovered", fn := fun _ => fun
  | [d1, d2, d3, d4] => { results := [.lit (.bool false)], args := [d1, d2, d3, d4] }
  | _ => none }
def StabilityCoveredWrongFalsely : Prop := stabilityCoveredRow.holds Try.pinned (OpenSpec.ofChange stabilityCoveredWrong)

/-- 'meridianlaw03.StabilityExchanged': WHATEVER THE INPUT: true; the input reads as it did. -/
def stabilityExchangedSpec : ChangeSpec := { name := "stabilityExchanged", fn := fun _ => fun
  | [d1, d2, d3] => { results := [.lit (.bool true)], args := [d1, d2, d3] }
  | _ => none }
def stabilityExchangedRow : OpenClaim := { program := "ytpmhphdpomiacaa", sum := "4a54d3da7092f49bb931db24edca568e67e5b4d9ad7c0a77ffbf8ba17fe2e20b", func := "meridian/meridianlaw03.StabilityExchanged", spec := "stabilityExchanged", unfollowed := true, recurses := true, apart := false }
def StabilityExchangedSaid : Prop := stabilityExchangedRow.holds Try.pinned (OpenSpec.ofChange stabilityExchangedSpec)

/-- ITS FALSE NEIGHBOUR: 'it returns false'. Refute it at one input. -/
def stabilityExchangedWrong : ChangeSpec := { name := "stabilityExchanged", fn := fun _ => fun
  | [d1, d2, d3] => { results := [.lit (.bool false)], args := [d1, d2, d3] }
  | _ => none }
def StabilityExchangedWrongFalsely : Prop := stabilityExchangedRow.holds Try.pinned (OpenSpec.ofChange stabilityExchangedWrong)

/-- 'meridianlaw03.StabilityCounted': WHATEVER THE INPUT: true; the input reads as it did. -/
def stabilityCountedSpec : ChangeSpec := { name := "stabilityCounted", fn := fun _ => fun
  | [d1, d2, d3, d4, d5, d6] => { results := [.lit (.bool true)], args := [d1, d2, d3, d4, d5, d6] }
  | _ => none }
def stabilityCountedRow : OpenClaim := { program := "ytpmhphdpomiacaa", sum := "4a54d3da7092f49bb931db24edca568e67e5b4d9ad7c0a77ffbf8ba17fe2e20b", func := "meridian/meridianlaw03.StabilityCounted", spec := "stabilityCounted", unfollowed := true, recurses := true, apart := false }
def StabilityCountedSaid : Prop := stabilityCountedRow.holds Try.pinned (OpenSpec.ofChange stabilityCountedSpec)

/-- ITS FALSE NEIGHBOUR: 'it returns false'. Refute it at one input. -/
def stabilityCountedWrong : ChangeSpec := { name := "stabilityCounted", fn := fun _ => fun
  | [d1, d2, d3, d4, d5, d6] => { results := [.lit (.bool false)], args := [d1, d2, d3, d4, d5, d6] }
  | _ => none }
def StabilityCountedWrongFalsely : Prop := stabilityCountedRow.holds Try.pinned (OpenSpec.ofChange stabilityCountedWrong)

/- THE SECOND FORM. 'bulk': how many values and letters a reading holds, each counted each time it is reached (what is shared counts as often as it is met; a slice's spare places count too). A statement '..UptoSaid' is the law's where the arguments, and the package variables that the reading takes, are together of bulk at most 1048576: NARROWER than '..Said'. Prove '..Said' where nothing that the law and all that it calls make is longer than what came in: it says more and counts as full. Else prove '..UptoSaid'. A law counts once. -/
mutual
def uptoBulk {H : Type} : DataW H → Nat
  | .lit (.string bytes) => bytes.length + 1
  | .lit _ => 1
  | .nil => 1
  | .ptr d => uptoBulk d + 1
  | .slice elems spare => uptoBulkAll elems + uptoBulkAll spare + 1
  | .agg parts => uptoBulkAll parts + 1
  | .iface _ d => uptoBulk d + 1
  | .map entries => uptoBulkEntries entries + 1
  | .held _ => 1
def uptoBulkAll {H : Type} : List (DataW H) → Nat
  | [] => 0
  | d :: r => uptoBulk d + uptoBulkAll r
def uptoBulkEntries {H : Type} : List (Lit × DataW H) → Nat
  | [] => 0
  | x :: r => uptoBulkEntry x + uptoBulkEntries r
def uptoBulkEntry {H : Type} : Lit × DataW H → Nat
  | (.string bytes, d) => bytes.length + uptoBulk d + 1
  | (_, d) => uptoBulk d + 1
 end
def uptoSmall : (H : Type) → List (DataW H) → Bool := fun _ ds => decide (uptoBulkAll ds ≤ 1048576)
def OpenSpec.upto (s : _root_.Go.ChangeSpec) : _root_.Go.OpenSpec := { _root_.Go.OpenSpec.ofChange s with cond := some uptoSmall }

/-- 'meridianlaw03.StabilityVariances', WHERE WHAT IT READS IS OF BULK AT MOST 1048576: true; the input reads as it did. -/
def stabilityVariancesUptoRow : OpenClaim := { program := "ytpmhphdpomiacaa", sum := "4a54d3da7092f49bb931db24edca568e67e5b4d9ad7c0a77ffbf8ba17fe2e20b", func := "meridian/meridianlaw03.StabilityVariances", spec := "stabilityVariances", unfollowed := true, recurses := true, apart := false, narrowed := true }
def StabilityVariancesUptoSaid : Prop := stabilityVariancesUptoRow.holds Try.pinned (OpenSpec.upto stabilityVariancesSpec)

/-- 'meridianlaw03.StabilityFits', WHERE WHAT IT READS IS OF BULK AT MOST 1048576: true; the input reads as it did. -/
def stabilityFitsUptoRow : OpenClaim := { program := "ytpmhphdpomiacaa", sum := "4a54d3da7092f49bb931db24edca568e67e5b4d9ad7c0a77ffbf8ba17fe2e20b", func := "meridian/meridianlaw03.StabilityFits", spec := "stabilityFits", unfollowed := true, recurses := true, apart := false, narrowed := true }
def StabilityFitsUptoSaid : Prop := stabilityFitsUptoRow.holds Try.pinned (OpenSpec.upto stabilityFitsSpec)

/-- 'meridianlaw03.StabilityCovers', WHERE WHAT IT READS IS OF BULK AT MOST 1048576: true; the input reads as it did. -/
def stabilityCoversUptoRow : OpenClaim := { program := "ytpmhphdpomiacaa", sum := "4a54d3da7092f49bb931db24edca568e67e5b4d9ad7c0a77ffbf8ba17fe2e20b", func := "meridian/meridianlaw03.StabilityCovers", spec := "stabilityCovers", unfollowed := true, recurses := true, apart := false, narrowed := true }
def StabilityCoversUptoSaid : Prop := stabilityCoversUptoRow.holds Try.pinned (OpenSpec.upto stabilityCoversSpec)

/-- 'meridianlaw03.StabilitySmall', WHERE WHAT IT READS IS OF BULK AT MOST 1048576: true; the input reads as it did. -/
def stabilitySmallUptoRow : OpenClaim := { program := "ytpmhphdpomiacaa", sum := "4a54d3da7092f49bb931db24edca568e67e5b4d9ad7c0a77ffbf8ba17fe2e20b", func := "meridian/meridianlaw03.StabilitySmall", spec := "stabilitySmall", unfollowed := true, recurses := true, apart := false, narrowed := true }
def StabilitySmallUptoSaid : Prop := stabilitySmallUptoRow.holds Try.pinned (OpenSpec.upto stabilitySmallSpec)

/-- 'meridianlaw03.StabilityLines', WHERE WHAT IT READS IS OF BULK AT MOST 1048576: true; the input reads as it did. -/
def stabilityLinesUptoRow : OpenClaim := { program := "ytpmhphdpomiacaa", sum := "4a54d3da7092f49bb931db24edca568e67e5b4d9ad7c0a77ffbf8ba17fe2e20b", func := "meridian/meridianlaw03.StabilityLines", spec := "stabilityLines", unfollowed := true, recurses := true, apart := false, narrowed := true }
def StabilityLinesUptoSaid : Prop := stabilityLinesUptoRow.holds Try.pinned (OpenSpec.upto stabilityLinesSpec)

/-- 'meridianlaw03.StabilityScales', WHERE WHAT IT READS IS OF BULK AT MOST 1048576: true; the input reads as it did. -/
def stabilityScalesUptoRow : OpenClaim := { program := "ytpmhphdpomiacaa", sum := "4a54d3da7092f49bb931db24edca568e67e5b4d9ad7c0a77ffbf8ba17fe2e20b", func := "meridian/meridianlaw03.StabilityScales", spec := "stabilityScales", unfollowed := true, recurses := true, apart := false, narrowed := true }
def StabilityScalesUptoSaid : Prop := stabilityScalesUptoRow.holds Try.pinned (OpenSpec.upto stabilityScalesSpec)

/-- 'meridianlaw03.StabilityBest', WHERE WHAT IT READS IS OF BULK AT MOST 1048576: true; the input reads as it did. -/
def stabilityBestUptoRow : OpenClaim := { program := "ytpmhphdpomiacaa", sum := "4a54d3da7092f49bb931db24edca568e67e5b4d9ad7c0a77ffbf8ba17fe2e20b", func := "meridian/meridianlaw03.StabilityBest", spec := "stabilityBest", unfollowed := true, recurses := true, apart := false, narrowed := true }
def StabilityBestUptoSaid : Prop := stabilityBestUptoRow.holds Try.pinned (OpenSpec.upto stabilityBestSpec)

/-- 'meridianlaw03.StabilityCovered', WHERE WHAT IT READS IS OF BULK AT MOST 1048576: true; the input reads as it did. -/
def stabilityCoveredUptoRow : OpenClaim := { program := "ytpmhphdpomiacaa", sum := "4a54d3da7092f49bb931db24edca568e67e5b4d9ad7c0a77ffbf8ba17fe2e20b", func := "meridian/meridianlaw03.StabilityCovered", spec := "stabilityCovered", unfollowed := true, recurses := true, apart := false, narrowed := true }
def StabilityCoveredUptoSaid : Prop := stabilityCoveredUptoRow.holds Try.pinned (OpenSpec.upto stabilityCoveredSpec)

/-- 'meridianlaw03.StabilityExchanged', WHERE WHAT IT READS IS OF BULK AT MOST 1048576: true; the input reads as it did. -/
def stabilityExchangedUptoRow : OpenClaim := { program := "ytpmhphdpomiacaa", sum := "4a54d3da7092f49bb931db24edca568e67e5b4d9ad7c0a77ffbf8ba17fe2e20b", func := "meridian/meridianlaw03.StabilityExchanged", spec := "stabilityExchanged", unfollowed := true, recurses := true, apart := false, narrowed := true }
def StabilityExchangedUptoSaid : Prop := stabilityExchangedUptoRow.holds Try.pinned (OpenSpec.upto stabilityExchangedSpec)

/-- 'meridianlaw03.StabilityCounted', WHERE WHAT IT READS IS OF BULK AT MOST 1048576: true; the input reads as it did. -/
def stabilityCountedUptoRow : OpenClaim := { program := "ytpmhphdpomiacaa", sum := "4a54d3da7092f49bb931db24edca568e67e5b4d9ad7c0a77ffbf8ba17fe2e20b", func := "meridian/meridianlaw03.StabilityCounted", spec := "stabilityCounted", unfollowed := true, recurses := true, apart := false, narrowed := true }
def StabilityCountedUptoSaid : Prop := stabilityCountedUptoRow.holds Try.pinned (OpenSpec.upto stabilityCountedSpec)

end Rows
end Go.Proofs.Ytpmhphdpomiacaa
