/-
  NARROWER THAN 'FOR EVERY INPUT', by the rows' own cells (each row's printed sentence says how): CalendarDays: laid · CalendarTables: laid · CalendarInverse: laid.
  DERIVED. THE GIVEN ROWS OF THIS SEAT. 3 by the template 'for every input the law returns true; each argument reads behind the call as it read before'; 0 by the template 'total and deterministic' (their statements: YtkepedfmebpbcaaDoorTotals.lean).
  GIVEN WITH THE SEED: the statements are not yours to turn. If you find one false, say at which input.
  Laid BY PROGRAM, IN A SANDBOX (cutbox-rows.mjs): the forced cells as the released guide's own fill.sh prints them over the translation efb7f6bf1c4a17e8… (all of the seat's roots in one cut). By AI agents, Wed Nov 11 2026. No macro, syntax, notation, axiom, sorry.
-/
import Derived.Test.YtkepedfmebpbcaaDoorChecked
import GoSem.Claim
import GoSem.ClaimJoined
import GoSem.ClaimMapViews
import Derived.JoinedTies
import Derived.KernelRfl
namespace Go.Proofs.YtkepedfmebpbcaaDoor
/- THE CELL 'sum', in the pinned program and in every row, IS THE sha256 OF THE DUMP (.gsa) THAT YtkepedfmebpbcaaDoorProg.lean LOADS. Nothing in Lean hashes anything: it is a label: what it is worth is what the hold of that sum in a sandbox is worth. -/
noncomputable def Tryd.pinned : Pinned := { name := "ytkepedfmebpbcaadoor", sum := "efb7f6bf1c4a17e8fb80929d062ebbc0f2769e9c2f49b99221b43eb3eb2de54b", checked := Tryd.checked }
namespace Rows
def none {H : Type} : Left H := { results := [], args := [] }

/- WHAT THE LISTED PACKAGE-LEVEL VARIABLES READ AS WHEN THE CALL BEGINS. Each datum BY PROGRAM (the guide's laid-datum.mjs) off the statement by which the dump's own 'gosem.cut.vars' lays the variable. In a bare row this is a premise. The card (YtkepedfmebpbcaaDoorCards.lean) ties it to the program's text. -/
def laid_meridian_calendar_months {H : Type} : DataW H := .agg [.lit (.int .i64 31), .lit (.int .i64 28), .lit (.int .i64 31), .lit (.int .i64 30), .lit (.int .i64 31), .lit (.int .i64 30), .lit (.int .i64 31), .lit (.int .i64 31), .lit (.int .i64 30), .lit (.int .i64 31), .lit (.int .i64 30), .lit (.int .i64 31)]

/-- 'meridianlaw09.CalendarDays': WHATEVER THE INPUT: true; the input reads as it did. -/
def calendarDaysSpec : ChangeSpec := { name := "calendarDays", fn := fun _ => fun
  | [d1, d2, d3, d4] => { results := [.lit (.bool true)], args := [d1, d2, d3, d4] }
  | _ => none }
def calendarDaysRow : OpenClaim := { program := "ytkepedfmebpbcaadoor", sum := "efb7f6bf1c4a17e8fb80929d062ebbc0f2769e9c2f49b99221b43eb3eb2de54b", func := "meridian/meridianlaw09.CalendarDays", spec := "calendarDays", named := ["meridian/calendar.months"], apart := false, laid := [("meridian/calendar.months", laid_meridian_calendar_months)] }
def CalendarDaysSaid : Prop := calendarDaysRow.holds Tryd.pinned (OpenSpec.ofChange calendarDaysSpec)

/-- ITS FALSE NEIGHBOUR: 'it returns false'. Refute it at one input. -/
def calendarDaysWrong : ChangeSpec := { name := "calendarDays", fn := fun _ => fun
  | [d1, d2, d3, d4] => { results := [.lit (.bool false)], args := [d1, d2, d3, d4] }
  | _ => none }
def CalendarDaysWrongFalsely : Prop := calendarDaysRow.holds Tryd.pinned (OpenSpec.ofChange calendarDaysWrong)

/-- 'meridianlaw09.CalendarTables': WHATEVER THE INPUT: true; the input reads as it did. -/
def calendarTablesSpec : ChangeSpec := { name := "calendarTables", fn := fun _ => fun
  | [d1, d2, d3, d4] => { results := [.lit (.bool true)], args := [d1, d2, d3, d4] }
  | _ => none }
def calendarTablesRow : OpenClaim := { program := "ytkepedfmebpbcaadoor", sum := "efb7f6bf1c4a17e8fb80929d062ebbc0f2769e9c2f49b99221b43eb3eb2de54b", func := "meridian/meridianlaw09.CalendarTables", spec := "calendarTables", unfollowed := true, recurses := true, named := ["meridian/calendar.months"], apart := false, laid := [("meridian/calendar.months", laid_meridian_calendar_months)] }
def CalendarTablesSaid : Prop := calendarTablesRow.holds Tryd.pinned (OpenSpec.ofChange calendarTablesSpec)

/-- ITS FALSE NEIGHBOUR: 'it returns false'. Refute it at one input. -/
def calendarTablesWrong : ChangeSpec := { name := "calendarTables", fn := fun _ => fun
  | [d1, d2, d3, d4] => { results := [.lit (.bool false)], args := [d1, d2, d3, d4] }
  | _ => none }
def CalendarTablesWrongFalsely : Prop := calendarTablesRow.holds Tryd.pinned (OpenSpec.ofChange calendarTablesWrong)

/-- 'meridianlaw09.CalendarInverse': WHATEVER THE INPUT: true; the input reads as it did. -/
def calendarInverseSpec : ChangeSpec := { name := "calendarInverse", fn := fun _ => fun
  | [d1, d2, d3, d4] => { results := [.lit (.bool true)], args := [d1, d2, d3, d4] }
  | _ => none }
def calendarInverseRow : OpenClaim := { program := "ytkepedfmebpbcaadoor", sum := "efb7f6bf1c4a17e8fb80929d062ebbc0f2769e9c2f49b99221b43eb3eb2de54b", func := "meridian/meridianlaw09.CalendarInverse", spec := "calendarInverse", unfollowed := true, recurses := true, named := ["meridian/calendar.months"], apart := false, laid := [("meridian/calendar.months", laid_meridian_calendar_months)] }
def CalendarInverseSaid : Prop := calendarInverseRow.holds Tryd.pinned (OpenSpec.ofChange calendarInverseSpec)

/-- ITS FALSE NEIGHBOUR: 'it returns false'. Refute it at one input. -/
def calendarInverseWrong : ChangeSpec := { name := "calendarInverse", fn := fun _ => fun
  | [d1, d2, d3, d4] => { results := [.lit (.bool false)], args := [d1, d2, d3, d4] }
  | _ => none }
def CalendarInverseWrongFalsely : Prop := calendarInverseRow.holds Tryd.pinned (OpenSpec.ofChange calendarInverseWrong)

/- THE SECOND FORM. 'bulk': how many values and letters a reading holds, each counted each time it is reached (what is shared counts as often as it is met; a slice's spare places count too). A statement '..UptoSaid' is the law's where the arguments, and the package variables that the reading takes, are together of bulk at most 1048576: NARROWER than '..Said'. Prove '..Said' where nothing that the law and all that it calls make is longer than what came in: it says more and counts as full. Else prove '..UptoSaid'. A law counts once. -/
mutual
def uptoBulk {H : Type} : DataW H → Nat
  | .lit (.string bytes) => bytes.length + 1
  | .lit _ => 1
  | .nil => 1
  | .ptr d => uptoBulk d + 1
  | .slice elems spare => uptoBulkAll elems + uptoBulkAll spare + 1
  | .agg parts => uptoBulkAll parts + 1
  | .iface _ d => uptoBulk d + 1
  | .map entries => uptoBulkEntries entries + 1
  | .held _ => 1
def uptoBulkAll {H : Type} : List (DataW H) → Nat
  | [] => 0
  | d :: r => uptoBulk d + uptoBulkAll r
def uptoBulkEntries {H : Type} : List (Lit × DataW H) → Nat
  | [] => 0
  | x :: r => uptoBulkEntry x + uptoBulkEntries r
def uptoBulkEntry {H : Type} : Lit × DataW H → Nat
  | (.string bytes, d) => bytes.length + uptoBulk d + 1
  | (_, d) => uptoBulk d + 1
 end
def uptoSmall : (H : Type) → List (DataW H) → Bool := fun _ ds => decide (uptoBulkAll ds ≤ 1048576)
def OpenSpec.upto (s : _root_.Go.ChangeSpec) : _root_.Go.OpenSpec := { _root_.Go.OpenSpec.ofChange s with cond := some uptoSmall }

/-- 'meridianlaw09.CalendarDays', WHERE WHAT IT READS IS OF BULK AT MOST 1048576: true; the input reads as it did. -/
def calendarDaysUptoRow : OpenClaim := { program := "ytkepedfmebpbcaadoor", sum := "efb7f6bf1c4a17e8fb80929d062ebbc0f2769e9c2f49b99221b43eb3eb2de54b", func := "meridian/meridianlaw09.CalendarDays", spec := "calendarDays", named := ["meridian/calendar.months"], apart := false, laid := [("meridian/calendar.months", laid_meridian_calendar_months)], narrowed := true }
def CalendarDaysUptoSaid : Prop := calendarDaysUptoRow.holds Tryd.pinned (OpenSpec.upto calendarDaysSpec)

/-- 'meridianlaw09.CalendarTables', WHERE WHAT IT READS IS OF BULK AT MOST 1048576: true; the input reads as it did. -/
def calendarTablesUptoRow : OpenClaim := { program := "ytkepedfmebpbcaadoor", sum := "efb7f6bf1c4a17e8fb80929d062ebbc0f2769e9c2f49b99221b43eb3eb2de54b", func := "meridian/meridianlaw09.CalendarTables", spec := "calendarTables", unfollowed := true, recurses := true, named := ["meridian/calendar.months"], apart := false, laid := [("meridian/calendar.months", laid_meridian_calendar_months)], narrowed := true }
def CalendarTablesUptoSaid : Prop := calendarTablesUptoRow.holds Tryd.pinned (OpenSpec.upto calendarTablesSpec)

/-- 'meridianlaw09.CalendarInverse', WHERE WHAT IT READS IS OF BULK AT MOST 1048576: true; the input reads as it did. -/
def calendarInverseUptoRow : OpenClaim := { program := "ytkepedfmebpbcaadoor", sum := "efb7f6bf1c4a17e8fb80929d062ebbc0f2769e9c2f49b99221b43eb3eb2de54b", func := "meridian/meridianlaw09.CalendarInverse", spec := "calendarInverse", unfollowed := true, recurses := true, named := ["meridian/calendar.months"], apart := false, laid := [("meridian/calendar.months", laid_meridian_calendar_months)], narrowed := true }
def CalendarInverseUptoSaid : Prop := calendarInverseUptoRow.holds Tryd.pinned (OpenSpec.upto calendarInverseSpec)

end Rows
end Go.Proofs.YtkepedfmebpbcaaDoor
