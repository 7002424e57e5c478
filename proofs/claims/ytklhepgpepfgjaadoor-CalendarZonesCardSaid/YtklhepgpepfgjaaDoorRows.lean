/-
  NARROWER THAN 'FOR EVERY INPUT', by the rows' own cells (each row's printed sentence says how): CalendarZones: laid · CalendarLocal: laid.
  DERIVED. THE GIVEN ROWS OF THIS SEAT. 2 by the template 'for every input the law returns true; each argument reads behind the call as it read before'; 0 by the template 'total and deterministic' (their statements: YtklhepgpepfgjaaDoorTotals.lean).
  GIVEN WITH THE SEED: the statements are not yours to turn. If you find one false, say at which input.
  Laid BY PROGRAM, IN A SANDBOX (cutbox-rows.mjs): the forced cells as the released guide's own fill.sh prints them over the translation fa7614376b6ae444… (all of the seat's roots in one cut). By AI agents, Wed Nov 11 2026. No macro, syntax, notation, axiom, sorry.
-/
import Derived.Test.YtklhepgpepfgjaaDoorChecked
import GoSem.Claim
import GoSem.ClaimJoined
import GoSem.ClaimMapViews
import Derived.JoinedTies
import Derived.KernelRfl
namespace Go.Proofs.YtklhepgpepfgjaaDoor
/- THE CELL 'sum', in the pinned program and in every row, IS THE sha256 OF THE DUMP (.gsa) THAT YtklhepgpepfgjaaDoorProg.lean LOADS. Nothing in Lean hashes anything: it is a label: what it is worth is what the hold of that sum in a sandbox is worth. -/
noncomputable def Tryd.pinned : Pinned := { name := "ytklhepgpepfgjaadoor", sum := "fa7614376b6ae44450abdb06cf18ce71d5db16e2b1d12307baa5530206b31671", checked := Tryd.checked }
namespace Rows
def none {H : Type} : Left H := { results := [], args := [] }

/- WHAT THE LISTED PACKAGE-LEVEL VARIABLES READ AS WHEN THE CALL BEGINS. Each datum BY PROGRAM (the guide's laid-datum.mjs) off the statement by which the dump's own 'gosem.cut.vars' lays the variable. In a bare row this is a premise. The card (YtklhepgpepfgjaaDoorCards.lean) ties it to the program's text. -/
def laid_meridian_calendar_months {H : Type} : DataW H := .agg [.lit (.int .i64 31), .lit (.int .i64 28), .lit (.int .i64 31), .lit (.int .i64 30), .lit (.int .i64 31), .lit (.int .i64 30), .lit (.int .i64 31), .lit (.int .i64 31), .lit (.int .i64 30), .lit (.int .i64 31), .lit (.int .i64 30), .lit (.int .i64 31)]

/-- 'meridianlaw09.CalendarZones': WHATEVER THE INPUT: true; the input reads as it did. -/
def calendarZonesSpec : ChangeSpec := { name := "calendarZones", fn := fun _ => fun
  | [d1, d2, d3, d4] => { results := [.lit (.bool true)], args := [d1, d2, d3, d4] }
  | _ => none }
def calendarZonesRow : OpenClaim := { program := "ytklhepgpepfgjaadoor", sum := "fa7614376b6ae44450abdb06cf18ce71d5db16e2b1d12307baa5530206b31671", func := "meridian/meridianlaw09.CalendarZones", spec := "calendarZones", unfollowed := true, recurses := true, named := ["meridian/calendar.months"], apart := false, laid := [("meridian/calendar.months", laid_meridian_calendar_months)] }
def CalendarZonesSaid : Prop := calendarZonesRow.holds Tryd.pinned (OpenSpec.ofChange calendarZonesSpec)

/-- ITS FALSE NEIGHBOUR: 'it returns false'. Refute it at one input. -/
def calendarZonesWrong : ChangeSpec := { name := "calendarZones", fn := fun _ => fun
  | [d1, d2, d3, d4] => { results := [.lit (.bool false)], args := [d1, d2, d3, d4] }
  | _ => none }
def CalendarZonesWrongFalsely : Prop := calendarZonesRow.holds Tryd.pinned (OpenSpec.ofChange calendarZonesWrong)

/-- 'meridianlaw09.CalendarLocal': WHATEVER THE INPUT: true; the input reads as it did. -/
def calendarLocalSpec : ChangeSpec := { name := "calendarLocal", fn := fun _ => fun
  | [d1, d2, d3, d4, d5] => { results := [.lit (.bool true)], args := [d1, d2, d3, d4, d5] }
  | _ => none }
def calendarLocalRow : OpenClaim := { program := "ytklhepgpepfgjaadoor", sum := "fa7614376b6ae44450abdb06cf18ce71d5db16e2b1d12307baa5530206b31671", func := "meridian/meridianlaw09.CalendarLocal", spec := "calendarLocal", unfollowed := true, recurses := true, named := ["meridian/calendar.months"], apart := false, laid := [("meridian/calendar.months", laid_meridian_calendar_months)] }
def CalendarLocalSaid : Prop := calendarLocalRow.holds Tryd.pinned (OpenSpec.ofChange calendarLocalSpec)

/-- ITS FALSE NEIGHBOUR: 'it returns false'. Refute it at one input. -/
def calendarLocalWrong : ChangeSpec := { name := "calendarLocal", fn := fun _ => fun
  | [d1, d2, d3, d4, d5] => { results := [.lit (.bool false)], args := [d1, d2, d3, d4, d5] }
  | _ => none }
def CalendarLocalWrongFalsely : Prop := calendarLocalRow.holds Tryd.pinned (OpenSpec.ofChange calendarLocalWrong)

/- THE SECOND FORM. 'bulk': how many values and letters a reading holds, each counted each time it is reached (what is shared counts as often as it is met; a slice's spare places count too). A statement '..UptoSaid' is the law's where the arguments, and the package variables that the reading takes, are together of bulk at most 1048576: NARROWER than '..Said'. Prove '..Said' where nothing that the law and all that it calls make is longer than what came in: it says more and counts as full. Else prove '..UptoSaid'. A law counts once. -/
mutual
def uptoBulk {H : Type} : DataW H → Nat
  | .lit (.string bytes) => bytes.length + 1
  | .lit _ => 1
  | .nil => 1
  | .ptr d => uptoBulk d + 1
  | .slice elems spare => uptoBulkAll elems + uptoBulkAll spare + 1
  | .agg parts => uptoBulkAll parts + 1
  | .iface _ d => uptoBulk d + 1
  | .map entries => uptoBulkEntries entries + 1
  | .held _ => 1
def uptoBulkAll {H : Type} : List (DataW H) → Nat
  | [] => 0
  | d :: r => uptoBulk d + uptoBulkAll r
def uptoBulkEntries {H : Type} : List (Lit × DataW H) → Nat
  | [] => 0
  | x :: r => uptoBulkEntry x + uptoBulkEntries r
def uptoBulkEntry {H : Type} : Lit × DataW H → Nat
  | (.string bytes, d) => bytes.length + uptoBulk d + 1
  | (_, d) => uptoBulk d + 1
 end
def uptoSmall : (H : Type) → List (DataW H) → Bool := fun _ ds => decide (uptoBulkAll ds ≤ 1048576)
def OpenSpec.upto (s : _root_.Go.ChangeSpec) : _root_.Go.OpenSpec := { _root_.Go.OpenSpec.ofChange s with cond := some uptoSmall }

/-- 'meridianlaw09.CalendarZones', WHERE WHAT IT READS IS OF BULK AT MOST 1048576: true; the input reads as it did. -/
def calendarZonesUptoRow : OpenClaim := { program := "ytklhepgpepfgjaadoor", sum := "fa7614376b6ae44450abdb06cf18ce71d5db16e2b1d12307baa5530206b31671", func := "meridian/meridianlaw09.CalendarZones", spec := "calendarZones", unfollowed := true, recurses := true, named := ["meridian/calendar.months"], apart := false, laid := [("meridian/calendar.months", laid_meridian_calendar_months)], narrowed := true }
def CalendarZonesUptoSaid : Prop := calendarZonesUptoRow.holds Tryd.pinned (OpenSpec.upto calendarZonesSpec)

/-- 'meridianlaw09.CalendarLocal', WHERE WHAT IT READS IS OF BULK AT MOST 1048576: true; the input reads as it did. -/
def calendarLocalUptoRow : OpenClaim := { program := "ytklhepgpepfgjaadoor", sum := "fa7614376b6ae44450abdb06cf18ce71d5db16e2b1d12307baa5530206b31671", func := "meridian/meridianlaw09.CalendarLocal", spec := "calendarLocal", unfollowed := true, recurses := true, named := ["meridian/calendar.months"], apart := false, laid := [("meridian/calendar.months", laid_meridian_calendar_months)], narrowed := true }
def CalendarLocalUptoSaid : Prop := calendarLocalUptoRow.holds Tryd.pinned (OpenSpec.upto calendarLocalSpec)

end Rows
end Go.Proofs.YtklhepgpepfgjaaDoor
