/- The walk over the law WorldExact. -/
import Derived.Test.YtehjkmnamgafaaaDoorWalksLaw
import Derived.Test.YtehjkmnamgafaaaDoorExactPlain
namespace Go.Proofs.YtehjkmnamgafaaaDoor
open Go Go.RowKit
theorem bounded_any (n most : Int) (w : World) (h : 0 ≤ most ∧ most ≤ 1000000000000000) :
    Calls Tryd.prog 41 #[.int .i64 n, .int .i64 most] w fun e w' => e = .returned (.int .i64 (boundS n most)) ∧ w = w' := by
  have hb := boundS_bd n most h.1
  unfold boundS at hb ⊢
  go_enter Tryd.func41, Tryd.ntmps41
  go_wp2
  go_ret
  exact ⟨rfl, rfl⟩
theorem down_floor (n : Int) (h : n < n.tdiv 1000 * 1000) : n.tdiv 1000 - 1 = n / 1000 := by
  have h1 := Int.mul_tdiv_add_tmod n 1000
  have h2 := Int.lt_tmod_of_pos n (show (0 : Int) < 1000 by decide)
  omega
theorem down_floor' (n : Int) (h : ¬ n < n.tdiv 1000 * 1000) : n.tdiv 1000 = n / 1000 := by
  have h1 := Int.mul_tdiv_add_tmod n 1000
  have h2 := Int.tmod_lt_of_pos n (show (0 : Int) < 1000 by decide)
  omega
theorem down_any (n : Int) (w : World) (h : -9000000000000000000 ≤ n ∧ n ≤ 9000000000000000000) :
    Calls Tryd.prog 43 #[.int .i64 n] w fun e w' => e = .returned (.int .i64 (n / 1000)) ∧ w = w' := by
  have h1 := Int.mul_tdiv_add_tmod n 1000
  have h2 := Int.tmod_lt_of_pos n (show (0 : Int) < 1000 by decide)
  have h3 := Int.lt_tmod_of_pos n (show (0 : Int) < 1000 by decide)
  have h4 : -9000000000000001000 ≤ n.tdiv 1000 * 1000 ∧ n.tdiv 1000 * 1000 ≤ 9000000000000001000 := by omega
  have h5 : -9000000000000001 ≤ n.tdiv 1000 ∧ n.tdiv 1000 ≤ 9000000000000001 := by omega
  clear h1 h2 h3
  by_cases hc : n < n.tdiv 1000 * 1000
  · have e := down_floor n hc
    have E := Lib.hid e
    clear e
    go_enter Tryd.func43, Tryd.ntmps43
    go_wp2
    go_ret
    exact ⟨ret_i64 E.out, rfl⟩
  · have e := down_floor' n hc
    have E := Lib.hid e
    clear e
    go_enter Tryd.func43, Tryd.ntmps43
    go_wp2
    go_ret
    exact ⟨ret_i64 E.out, rfl⟩
end Go.Proofs.YtehjkmnamgafaaaDoor
