/- The law CalendarDays: Day, Civil, Weekday and Week against the reference, for any numbers. -/
import Derived.Test.YtkepedfmebpbcaaDoorDe
import Derived.Test.YtkepedfmebpbcaaDoorDo
namespace Go.Proofs.YtkepedfmebpbcaaDoor.Cal
open Go Go.RowKit
attribute [local go_sem] Oper.semAt_some
theorem calendarDays_any (y m d n : Int) (w : World) (hw : Mon w) :
    Calls Tryd.prog 3 #[.int .i64 y, .int .i64 m, .int .i64 d, .int .i64 n] w fun e w' => e = .returned (.bool true) ∧ Below w.heap.size w w' := by
  have H1 := Lib.hid (days_any y m d w hw)
  have H2 := Lib.hid (numbers_any n w hw)
  have H3 := Lib.hid (awake_any w hw)
  clear hw
  go_enter Tryd.func3, Tryd.ntmps3
  go_wp2_with (first | (go_at_call 6; refine H1.out.mono ?_; rintro e w' ⟨rfl, rfl⟩) | (go_at_call 7; refine H2.out.mono ?_; rintro e w' ⟨rfl, rfl⟩) | (go_at_call 8; refine H3.out.mono ?_; rintro e w' ⟨rfl, hb⟩; have HB := Lib.hid hb; clear hb))
  go_ret
  exact ⟨rfl, HB.out⟩
end Go.Proofs.YtkepedfmebpbcaaDoor.Cal
