/- Layer 9 (calendar): what the laws compare of days (days, numbers). -/
import Derived.Test.YtkepedfmebpbcaaDoorDc
import Derived.Test.YtkepedfmebpbcaaDoorDd
namespace Go.Proofs.YtkepedfmebpbcaaDoor.Cal
open Go Go.RowKit
attribute [local go_sem] Oper.semAt_some
theorem days_any (y m d : Int) (w : World) (hw : Mon w) :
    Calls Tryd.prog 6 #[.int .i64 y, .int .i64 m, .int .i64 d] w fun e w' => e = .returned (.bool true) ∧ w = w' := by
  cases h : okDate y m d
  · have H1 := Lib.hid (Day_no y m d w hw h)
    have H2 := Lib.hid (rDay_no y m d w h)
    clear h hw
    go_enter Tryd.func6, Tryd.ntmps6
    go_wp2_with (first | (go_at_call 16; refine H1.out.mono ?_; rintro e w' ⟨rfl, rfl⟩) | (go_at_call 17; refine H2.out.mono ?_; rintro e w' ⟨rfl, rfl⟩))
    go_ret
    exact ⟨rfl, rfl⟩
  · obtain ⟨k, rfl, hd⟩ := okDate_yes h
    have H1 := Lib.hid (Day_ok w hw hd)
    have H2 := Lib.hid (rDay_ok w hd)
    clear h hw hd
    generalize dayN y k d = n at *
    go_enter Tryd.func6, Tryd.ntmps6
    go_wp2_with (first | (go_at_call 16; refine H1.out.mono ?_; rintro e w' ⟨rfl, rfl⟩) | (go_at_call 17; refine H2.out.mono ?_; rintro e w' ⟨rfl, rfl⟩))
    go_ret
    exact ⟨rfl, rfl⟩
theorem numbers_any (n : Int) (w : World) (hw : Mon w) :
    Calls Tryd.prog 7 #[.int .i64 n] w fun e w' => e = .returned (.bool true) ∧ w = w' := by
  cases h : (decide (41317 ≤ n) && decide (n ≤ 88068))
  · have H1 := Lib.hid (Civil_no n w h)
    have H2 := Lib.hid (rCivil_no n w h)
    have H3 := Lib.hid (Weekday_no n w h)
    have H4 := Lib.hid (rWeekday_no n w h)
    have H5 := Lib.hid (Week_no n w h)
    have H6 := Lib.hid (rWeek_no n w h)
    clear h hw
    go_enter Tryd.func7, Tryd.ntmps7
    go_wp2_with (first | (go_at_call 18; refine H1.out.mono ?_; rintro e w' ⟨rfl, rfl⟩) | (go_at_call 19; refine H2.out.mono ?_; rintro e w' ⟨rfl, rfl⟩) | (go_at_call 20; refine H3.out.mono ?_; rintro e w' ⟨rfl, rfl⟩) | (go_at_call 21; refine H4.out.mono ?_; rintro e w' ⟨rfl, rfl⟩) | (go_at_call 22; refine H5.out.mono ?_; rintro e w' ⟨rfl, rfl⟩) | (go_at_call 23; refine H6.out.mono ?_; rintro e w' ⟨rfl, rfl⟩))
    go_ret
    exact ⟨rfl, rfl⟩
  · have hn : 41317 ≤ n ∧ n ≤ 88068 := by simpa using h
    obtain ⟨y, m, d, hc⟩ := civ_exists n hn
    have H1 := Lib.hid (Civil_ok w hw hc)
    have H2 := Lib.hid (rCivil_ok w hc)
    have H3 := Lib.hid (Weekday_ok n w hn)
    have H4 := Lib.hid (rWeekday_ok n w hn)
    have H5 := Lib.hid (Week_ok n w hn)
    have H6 := Lib.hid (rWeek_ok n w hn)
    clear h hw hn hc
    generalize wd n = wn at *
    generalize weekY n = wy at *
    generalize weekN n = wk at *
    go_enter Tryd.func7, Tryd.ntmps7
    go_wp2_with (first | (go_at_call 18; refine H1.out.mono ?_; rintro e w' ⟨rfl, rfl⟩) | (go_at_call 19; refine H2.out.mono ?_; rintro e w' ⟨rfl, rfl⟩) | (go_at_call 20; refine H3.out.mono ?_; rintro e w' ⟨rfl, rfl⟩) | (go_at_call 21; refine H4.out.mono ?_; rintro e w' ⟨rfl, rfl⟩) | (go_at_call 22; refine H5.out.mono ?_; rintro e w' ⟨rfl, rfl⟩) | (go_at_call 23; refine H6.out.mono ?_; rintro e w' ⟨rfl, rfl⟩))
    go_ret
    exact ⟨rfl, rfl⟩
end Go.Proofs.YtkepedfmebpbcaaDoor.Cal
