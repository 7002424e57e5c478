/- Layer 9 (calendar): lists of numbers are compared. -/
import Derived.Test.YtjdpdabafbbfaaaDoorDn
namespace Go.Proofs.YtjdpdabafbbfaaaDoor.Cal
open Go Go.RowKit
attribute [local go_sem] Oper.semAt_some
def cmpI (x y : Int) : Int := if x < y then -1 else if y < x then 1 else 0
theorem isNaN_any (x : Int) (w : World) : Calls Tryd.prog 70 #[.int .i64 x] w fun e w' => e = .returned (.bool false) ∧ w = w' := by
  go_enter Tryd.func70, Tryd.ntmps70
  go_wp2_with fail
  go_ret
  exact ⟨by first | rfl | simp, rfl⟩
theorem cmp_any (x y : Int) (w : World) : Calls Tryd.prog 51 #[.int .i64 x, .int .i64 y] w fun e w' => e = .returned (.int .i64 (cmpI x y)) ∧ w = w' := by
  by_cases h1 : x < y
  · have HV := Lib.hid (show (-1 : Int) = cmpI x y by unfold cmpI; rw [if_pos h1])
    go_enter Tryd.func51, Tryd.ntmps51
    go_wp2_with (go_at_call 70; refine (isNaN_any _ _).mono ?_; rintro e w' ⟨rfl, rfl⟩)
    go_ret
    exact ⟨ret_i64 HV.out, rfl⟩
  · by_cases h2 : y < x
    · have HV := Lib.hid (show (1 : Int) = cmpI x y by unfold cmpI; rw [if_neg h1, if_pos h2])
      go_enter Tryd.func51, Tryd.ntmps51
      go_wp2_with (go_at_call 70; refine (isNaN_any _ _).mono ?_; rintro e w' ⟨rfl, rfl⟩)
      go_ret
      exact ⟨ret_i64 HV.out, rfl⟩
    · have HV := Lib.hid (show (0 : Int) = cmpI x y by unfold cmpI; rw [if_neg h1, if_neg h2])
      go_enter Tryd.func51, Tryd.ntmps51
      go_wp2_with (go_at_call 70; refine (isNaN_any _ _).mono ?_; rintro e w' ⟨rfl, rfl⟩)
      go_ret
      exact ⟨ret_i64 HV.out, rfl⟩
/-- the first difference of two lists, from place k on, m places left -/
def lexF (f g : Nat → Int) (k : Nat) : Nat → Int
  | 0 => 0
  | m + 1 => if cmpI (f k) (g k) = 0 then lexF f g (k + 1) m else cmpI (f k) (g k)
end Go.Proofs.YtjdpdabafbbfaaaDoor.Cal
