/-
  NARROWER THAN 'FOR EVERY INPUT', by the rows' own cells (each row's printed sentence says how): CalendarOffsets: laid · CalendarExtends: laid · CalendarEncodes: laid.
  DERIVED. THE GIVEN ROWS OF THIS SEAT. 3 by the template 'for every input the law returns true; each argument reads behind the call as it read before'; 0 by the template 'total and deterministic' (their statements: YtahdkgldhiekjaaDoorTotals.lean).
  GIVEN WITH THE SEED: the statements are not yours to turn. If you find one false, say at which input.
  Laid BY PROGRAM, IN A SANDBOX (cutbox-rows.mjs): the forced cells as the released guide's own fill.sh prints them over the translation 3622717c5ecfa6f2… (all of the seat's roots in one cut). By AI agents, Wed Nov 11 2026. No macro, syntax, notation, axiom, sorry.
-/
import Derived.Test.YtahdkgldhiekjaaDoorChecked
import GoSem.Claim
import GoSem.ClaimJoined
import GoSem.ClaimMapViews
import Derived.JoinedTies
import Derived.KernelRfl
namespace Go.Proofs.YtahdkgldhiekjaaDoor
/- THE CELL 'sum', in the pinned program and in every row, IS THE sha256 OF THE DUMP (.gsa) THAT YtahdkgldhiekjaaDoorProg.lean LOADS. Nothing in Lean hashes anything: it is a label: what it is worth is what the hold of that sum in a sandbox is worth. -/
noncomputable def Tryd.pinned : Pinned := { name := "ytahdkgldhiekjaadoor", sum := "3622717c5ecfa6f2b5aa68f8c6a69bb389a143785967e537e931c2fe44f80210", checked := Tryd.checked }
namespace Rows
def none {H : Type} : Left H := { results := [], args := [] }

/- WHAT THE LISTED PACKAGE-LEVEL VARIABLES READ AS WHEN THE CALL BEGINS. Each datum BY PROGRAM (the guide's laid-datum.mjs) off the statement by which the dump's own 'gosem.cut.vars' lays the variable. In a bare row this is a premise. The card (YtahdkgldhiekjaaDoorCards.lean) ties it to the program's text. -/
def laid_meridian_calendar_months {H : Type} : DataW H := .agg [.lit (.int .i64 31), .lit (.int .i64 28), .lit (.int .i64 31), .lit (.int .i64 30), .lit (.int .i64 31), .lit (.int .i64 30), .lit (.int .i64 31), .lit (.int .i64 31), .lit (.int .i64 30), .lit (.int .i64 31), .lit (.int .i64 30), .lit (.int .i64 31)]

/-- 'meridianlaw09.CalendarOffsets': WHATEVER THE INPUT: true; the input reads as it did. -/
def calendarOffsetsSpec : ChangeSpec := { name := "calendarOffsets", fn := fun _ => fun
  | [d1, d2, d3] => { results := [.lit (.bool true)], args := [d1, d2, d3] }
  | _ => none }
def calendarOffsetsRow : OpenClaim := { program := "ytahdkgldhiekjaadoor", sum := "3622717c5ecfa6f2b5aa68f8c6a69bb389a143785967e537e931c2fe44f80210", func := "meridian/meridianlaw09.CalendarOffsets", spec := "calendarOffsets", unfollowed := true, recurses := true, named := ["meridian/calendar.months"], apart := false, laid := [("meridian/calendar.months", laid_meridian_calendar_months)] }
def CalendarOffsetsSaid : Prop := calendarOffsetsRow.holds Tryd.pinned (OpenSpec.ofChange calendarOffsetsSpec)

/-- ITS FALSE NEIGHBOUR: 'it returns false'. Refute it at one input. -/
def calendarOffsetsWrong : ChangeSpec := { name := "calendarOffsets", fn := fun _ => fun
  | [d1, d2, d3] => { results := [.lit (.bool false)], args := [d1, d2, d3] }
  | _ => none }
def CalendarOffsetsWrongFalsely : Prop := calendarOffsetsRow.holds Tryd.pinned (OpenSpec.ofChange calendarOffsetsWrong)

/-- 'meridianlaw09.CalendarExtends': WHATEVER THE INPUT: true; the input reads as it did. -/
def calendarExtendsSpec : ChangeSpec := { name := "calendarExtends", fn := fun _ => fun
  | [d1, d2, d3, d4] => { results := [.lit (.bool true)], args := [d1, d2, d3, d4] }
  | _ => none }
def calendarExtendsRow : OpenClaim := { program := "ytahdkgldhiekjaadoor", sum := "3622717c5ecfa6f2b5aa68f8c6a69bb389a143785967e537e931c2fe44f80210", func := "meridian/meridianlaw09.CalendarExtends", spec := "calendarExtends", unfollowed := true, recurses := true, named := ["meridian/calendar.months"], apart := false, laid := [("meridian/calendar.months", laid_meridian_calendar_months)] }
def CalendarExtendsSaid : Prop := calendarExtendsRow.holds Tryd.pinned (OpenSpec.ofChange calendarExtendsSpec)

/-- ITS FALSE NEIGHBOUR: 'it returns false'. Refute it at one input. -/
def calendarExtendsWrong : ChangeSpec := { name := "calendarExtends", fn := fun _ => fun
  | [d1, d2, d3, d4] => { results := [.lit (.bool false)], args := [d1, d2, d3, d4] }
  | _ => none }
def CalendarExtendsWrongFalsely : Prop := calendarExtendsRow.holds Tryd.pinned (OpenSpec.ofChange calendarExtendsWrong)

/-- 'meridianlaw09.CalendarEncodes': WHATEVER THE INPUT: true; the input reads as it did. -/
def calendarEncodesSpec : ChangeSpec := { name := "calendarEncodes", fn := fun _ => fun
  | [d1, d2, d3, d4] => { results := [.lit (.bool true)], args := [d1, d2, d3, d4] }
  | _ => none }
def calendarEncodesRow : OpenClaim := { program := "ytahdkgldhiekjaadoor", sum := "3622717c5ecfa6f2b5aa68f8c6a69bb389a143785967e537e931c2fe44f80210", func := "meridian/meridianlaw09.CalendarEncodes", spec := "calendarEncodes", unfollowed := true, recurses := true, named := ["meridian/calendar.months"], apart := false, laid := [("meridian/calendar.months", laid_meridian_calendar_months)] }
def CalendarEncodesSaid : Prop := calendarEncodesRow.holds Tryd.pinned (OpenSpec.ofChange calendarEncodesSpec)

/-- ITS FALSE NEIGHBOUR: 'it returns false'. Refute it at one input. -/
def calendarEncodesWrong : ChangeSpec := { name := "calendarEncodes", fn := fun _ => fun
  | [d1, d2, d3, d4] => { results := [.lit (.bool false)], args := [d1, d2, d3, d4] }
  | _ => none }
def CalendarEncodesWrongFalsely : Prop := calendarEncodesRow.holds Tryd.pinned (OpenSpec.ofChange calendarEncodesWrong)

/- THE SECOND FORM. 'bulk': how many values and letters a reading holds, each counted each time it is reached (what is shared counts as often as it is met; a slice's spare places count too). A statement '..UptoSaid' is the law's where the arguments, and the package variables that the reading takes, are together of bulk at most 1048576: NARROWER than '..Said'. Prove '..Said' where nothing that the law and all that it calls make is longer than what came in: it says more and counts as full. Else prove '..UptoSaid'. A law counts once. -/
mutual
def uptoBulk {H : Type} : DataW H → Nat
  | .lit (.string bytes) => bytes.length + 1
  | .lit _ => 1
  | .nil => 1
  | .ptr d => uptoBulk d + 1
  | .slice elems spare => uptoBulkAll elems + uptoBulkAll spare + 1
  | .agg parts => uptoBulkAll parts + 1
  | .iface _ d => uptoBulk d + 1
  | .map entries => uptoBulkEntries entries + 1
  | .held _ => 1
def uptoBulkAll {H : Type} : List (DataW H) → Nat
  | [] => 0
  | d :: r => uptoBulk d + uptoBulkAll r
def uptoBulkEntries {H : Type} : List (Lit × DataW H) → Nat
  | [] => 0
  | x :: r => uptoBulkEntry x + uptoBulkEntries r
def uptoBulkEntry {H : Type} : Lit × DataW H → Nat
  | (.string bytes, d) => bytes.length + uptoBulk d + 1
  | (_, d) => uptoBulk d + 1
 end
def uptoSmall : (H : Type) → List (DataW H) → Bool := fun _ ds => decide (uptoBulkAll ds ≤ 1048576)
def OpenSpec.upto (s : _root_.Go.ChangeSpec) : _root_.Go.OpenSpec := { _root_.Go.OpenSpec.ofChange s with cond := some uptoSmall }

/-- 'meridianlaw09.CalendarOffsets', WHERE WHAT IT READS IS OF BULK AT MOST 1048576: true; the input reads as it did. -/
def calendarOffsetsUptoRow : OpenClaim := { program := "ytahdkgldhiekjaadoor", sum := "3622717c5ecfa6f2b5aa68f8c6a69bb389a143785967e537e931c2fe44f80210", func := "meridian/meridianlaw09.CalendarOffsets", spec := "calendarOffsets", unfollowed := true, recurses := true, named := ["meridian/calendar.months"], apart := false, laid := [("meridian/calendar.months", laid_meridian_calendar_months)], narrowed := true }
def CalendarOffsetsUptoSaid : Prop := calendarOffsetsUptoRow.holds Tryd.pinned (OpenSpec.upto calendarOffsetsSpec)

/-- 'meridianlaw09.CalendarExtends', WHERE WHAT IT READS IS OF BULK AT MOST 1048576: true; the input reads as it did. -/
def calendarExtendsUptoRow : OpenClaim := { program := "ytahdkgldhiekjaadoor", sum := "3622717c5ecfa6f2b5aa68f8c6a69bb389a143785967e537e931c2fe44f80210", func := "meridian/meridianlaw09.CalendarExtends", spec := "calendarExtends", unfollowed := true, recurses := true, named := ["meridian/calendar.months"], apart := false, laid := [("meridian/calendar.months", laid_meridian_calendar_months)], narrowed := true }
def CalendarExtendsUptoSaid : Prop := calendarExtendsUptoRow.holds Tryd.pinned (OpenSpec.upto calendarExtendsSpec)

/-- 'meridianlaw09.CalendarEncodes', WHERE WHAT IT READS IS OF BULK AT MOST 1048576: true; the input reads as it did. -/
def calendarEncodesUptoRow : OpenClaim := { program := "ytahdkgldhiekjaadoor", sum := "3622717c5ecfa6f2b5aa68f8c6a69bb389a143785967e537e931c2fe44f80210", func := "meridian/meridianlaw09.CalendarEncodes", spec := "calendarEncodes", unfollowed := true, recurses := true, named := ["meridian/calendar.months"], apart := false, laid := [("meridian/calendar.months", laid_meridian_calendar_months)], narrowed := true }
def CalendarEncodesUptoSaid : Prop := calendarEncodesUptoRow.holds Tryd.pinned (OpenSpec.upto calendarEncodesSpec)

end Rows
end Go.Proofs.YtahdkgldhiekjaaDoor
