/-
  No cell of these rows narrows 'for every input' (looked for: loops, veiled, ifaces, maps, wideKeys, modest, calm, conditions, laid).
  DERIVED. THE GIVEN ROWS OF THIS SEAT. 3 by the template 'for every input the law returns true; each argument reads behind the call as it read before'; 0 by the template 'total and deterministic' (their statements: YthkndjkgokojmaaTotals.lean).
  GIVEN WITH THE SEED: the statements are not yours to turn. If you find one false, say at which input.
  Laid BY PROGRAM, IN A SANDBOX (cutbox-rows.mjs): the forced cells as the released guide's own fill.sh prints them over the translation 8177caa1e94c0944… (all of the seat's roots in one cut). By AI agents, Wed Nov 11 2026. No macro, syntax, notation, axiom, sorry.
-/
import Derived.Test.YthkndjkgokojmaaChecked
import GoSem.Claim
import GoSem.ClaimJoined
import GoSem.ClaimMapViews
import Derived.JoinedTies
import Derived.KernelRfl
namespace Go.Proofs.Ythkndjkgokojmaa
/- THE CELL 'sum', in the pinned program and in every row, IS THE sha256 OF THE DUMP (.gsa) THAT YthkndjkgokojmaaProg.lean LOADS. Nothing in Lean hashes anything: it is a label: what it is worth is what the hold of that sum in a sandbox is worth. -/
noncomputable def Try.pinned : Pinned := { name := "ythkndjkgokojmaa", sum := "8177caa1e94c0944fb6210ea0808b7506eae79b94e60f8d617fa954a5653c864", checked := Try.checked }
namespace Rows
def none {H : Type} : Left H := { results := [], args := [] }

/-- 'meridianlaw03.StabilityCovers': WHATEVER THE INPUT: true; the input reads as it did. -/
def stabilityCoversSpec : ChangeSpec := { name := "stabilityCovers", fn := fun _ => fun
  | [d1, d2, d3, d4, d5, d6] => { results := [.lit (.bool true)], args := [d1, d2, d3, d4, d5, d6] }
  | _ => none }
def stabilityCoversRow : OpenClaim := { program := "ythkndjkgokojmaa", sum := "8177caa1e94c0944fb6210ea0808b7506eae79b94e60f8d617fa954a5653c864", func := "meridian/meridianlaw03.StabilityCovers", spec := "stabilityCovers", unfollowed := true, recurses := true, apart := false }
def StabilityCoversSaid : Prop := stabilityCoversRow.holds Try.pinned (OpenSpec.ofChange stabilityCoversSpec)

/-- ITS FALSE NEIGHBOUR: 'it returns false'. Refute it at one input. -/
def stabilityCoversWrong : ChangeSpec := { name := "stabilityCovers", fn := fun _ => fun
  | [d1, d2, d3, d4, d5, d6] => { results := [.lit (.bool false)], args := [d1, d2, d3, d4, d5, d6] }
  | _ => none }
def StabilityCoversWrongFalsely : Prop := stabilityCoversRow.holds Try.pinned (OpenSpec.ofChange stabilityCoversWrong)

/-- 'meridianlaw03.StabilitySmall': WHATEVER THE INPUT: true; the input reads as it did. -/
def stabilitySmallSpec : ChangeSpec := { name := "stabilitySmall", fn := fun _ => fun
  | [] => { results := [.lit (.bool true)], args := [] }
  | _ => none }
def stabilitySmallRow : OpenClaim := { program := "ythkndjkgokojmaa", sum := "8177caa1e94c0944fb6210ea0808b7506eae79b94e60f8d617fa954a5653c864", func := "meridian/meridianlaw03.StabilitySmall", spec := "stabilitySmall", unfollowed := true, recurses := true, apart := false }
def StabilitySmallSaid : Prop := stabilitySmallRow.holds Try.pinned (OpenSpec.ofChange stabilitySmallSpec)

/-- ITS FALSE NEIGHBOUR: 'it returns false'. Refute it at one input. -/
def stabilitySmallWrong : ChangeSpec := { name := "stabilitySmall", fn := fun _ => fun
  | [] => { results := [.lit (.bool false)], args := [] }
  | _ => none }
def StabilitySmallWrongFalsely : Prop := stabilitySmallRow.holds Try.pinned (OpenSpec.ofChange stabilitySmallWrong)

/-- 'meridianlaw03.StabilityCounted': WHATEVER THE INPUT: true; the input reads as it did. -/
def stabilityCountedSpec : ChangeSpec := { name := "stabilityCounted", fn := fun _ => fun
  | [d1, d2, d3, d4, d5, d6] => { results := [.lit (.bool true)], args := [d1, d2, d3, d4, d5, d6] }
  | _ => none }
def stabilityCountedRow : OpenClaim := { program := "ythkndjkgokojmaa", sum := "8177caa1e94c0944fb6210ea0808b7506eae79b94e60f8d617fa954a5653c864", func := "meridian/meridianlaw03.StabilityCounted", spec := "stabilityCounted", unfollowed := true, recurses := true, apart := false }
def StabilityCountedSaid : Prop := stabilityCountedRow.holds Try.pinned (OpenSpec.ofChange stabilityCountedSpec)

/-- ITS FALSE NEIGHBOUR: 'it returns false'. Refute it at one input. -/
def stabilityCountedWrong : ChangeSpec := { name := "stabilityCounted", fn := fun _ => fun
  | [d1, d2, d3, d4, d5, d6] => { results := [.lit (.bool false)], args := [d1, d2, d3, d4, d5, d6] }
  | _ => none }
def StabilityCountedWrongFalsely : Prop := stabilityCountedRow.holds Try.pinned (OpenSpec.ofChange stabilityCountedWrong)

/- THE SECOND FORM. 'bulk': how many values and letters a reading holds, each counted each time it is reached (what is shared counts as often as it is met; a slice's spare places count too). A statement '..UptoSaid' is the law's where the arguments, and the package variables that the reading takes, are together of bulk at most 1048576: NARROWER than '..Said'. Prove '..Said' where nothing that the law and all that it calls make is longer than what came in: it says more and counts as full. Else prove '..UptoSaid'. A law counts once. -/
mutual
def uptoBulk {H : Type} : DataW H → Nat
  | .lit (.string bytes) => bytes.length + 1
  | .lit _ => 1
  | .nil => 1
  | .ptr d => uptoBulk d + 1
  | .slice elems spare => uptoBulkAll elems + uptoBulkAll spare + 1
  | .agg parts => uptoBulkAll parts + 1
  | .iface _ d => uptoBulk d + 1
  | .map entries => uptoBulkEntries entries + 1
  | .held _ => 1
def uptoBulkAll {H : Type} : List (DataW H) → Nat
  | [] => 0
  | d :: r => uptoBulk d + uptoBulkAll r
def uptoBulkEntries {H : Type} : List (Lit × DataW H) → Nat
  | [] => 0
  | x :: r => uptoBulkEntry x + uptoBulkEntries r
def uptoBulkEntry {H : Type} : Lit × DataW H → Nat
  | (.string bytes, d) => bytes.length + uptoBulk d + 1
  | (_, d) => uptoBulk d + 1
 end
def uptoSmall : (H : Type) → List (DataW H) → Bool := fun _ ds => decide (uptoBulkAll ds ≤ 1048576)
def OpenSpec.upto (s : _root_.Go.ChangeSpec) : _root_.Go.OpenSpec := { _root_.Go.OpenSpec.ofChange s with cond := some uptoSmall }

/-- 'meridianlaw03.StabilityCovers', WHERE WHAT IT READS IS OF BULK AT MOST 1048576: true; the input reads as it did. -/
def stabilityCoversUptoRow : OpenClaim := { program := "ythkndjkgokojmaa", sum := "8177caa1e94c0944fb6210ea0808b7506eae79b94e60f8d617fa954a5653c864", func := "meridian/meridianlaw03.StabilityCovers", spec := "stabilityCovers", unfollowed := true, recurses := true, apart := false, narrowed := true }
def StabilityCoversUptoSaid : Prop := stabilityCoversUptoRow.holds Try.pinned (OpenSpec.upto stabilityCoversSpec)

/-- 'meridianlaw03.StabilitySmall', WHERE WHAT IT READS IS OF BULK AT MOST 1048576: true; the input reads as it did. -/
def stabilitySmallUptoRow : OpenClaim := { program := "ythkndjkgokojmaa", sum := "8177caa1e94c0944fb6210ea0808b7506eae79b94e60f8d617fa954a5653c864", func := "meridian/meridianlaw03.StabilitySmall", spec := "stabilitySmall", unfollowed := true, recurses := true, apart := false, narrowed := true }
def StabilitySmallUptoSaid : Prop := stabilitySmallUptoRow.holds Try.pinned (OpenSpec.upto stabilitySmallSpec)

/-- 'meridianlaw03.StabilityCounted', WHERE WHAT IT READS IS OF BULK AT MOST 1048576: true; the input reads as it did. -/
def stabilityCountedUptoRow : OpenClaim := { program := "ythkndjkgokojmaa", sum := "8177caa1e94c0944fb6210ea0808b7506eae79b94e60f8d617fa954a5653c864", func := "meridian/meridianlaw03.StabilityCounted", spec := "stabilityCounted", unfollowed := true, recurses := true, apart := false, narrowed := true }
def StabilityCountedUptoSaid : Prop := stabilityCountedUptoRow.holds Try.pinned (OpenSpec.upto stabilityCountedSpec)

end Rows
end Go.Proofs.Ythkndjkgokojmaa
