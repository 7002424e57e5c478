/- Contracts of layer 2: bounds, their limits, the iterator over them. -/
import Derived.Test.YtlelamjbfjneiaaCd
import Derived.Test.YtlelamjbfjneiaaNb
import Derived.Test.YtlelamjbfjneiaaStPre
import Derived.RangeFuncNested
import Derived.RangeFuncBound
import Derived.RangeFuncCalls
import Derived.RangeFuncLeaves
import Derived.Shelf.Abstract
import Derived.Shelf.RegionOpen
import Derived.OwnWalkIn
import Derived.TacticsInMore
import Derived.LoopNIn
import Derived.LoopIn
namespace Go.Proofs.Ytlelamjbfjneiaa.Ct
open Go Go.RowKit Go.Shelf
attribute [local go_sem] Oper.semAt_some
def bndVal (x : Bnd) : Value := .agg #[.int .i64 x.a, .int .i64 x.b, .int .i64 x.lo, .int .i64 x.hi]
def limVal (x : Lim) : Value := .agg #[.int .i64 x.f, .int .i64 x.s, .int .i64 x.m]
theorem isIndex_any (n c : Int) (w : World) (h : 0 ≤ c ∧ c ≤ 9223372036854775807) :
    Calls Try.prog 47 #[.int .i64 n, .int .i64 c] w fun e w' => e = .returned (.bool (decide (0 ≤ n) && decide (n ≤ c - 1))) ∧ w = w' := by
  have HW := Lib.hid (fun W => within_any n 0 (c - 1) W)
  have w1 : IntKind.i64.wrap (c - 1) = c - 1 := IntWalk.i64_in _ (by omega)
  generalize (decide (0 ≤ n) && decide (n ≤ c - 1)) = bv at *
  go_enter Try.func47, Try.ntmps47
  go_wp2_with (go_at_call 33; refine (HW.out _).mono ?_; rintro e w1 ⟨rfl, rfl⟩)
  go_ret
  exact ⟨rfl, rfl⟩
set_option maxRecDepth 100000 in
set_option maxHeartbeats 2000000 in
theorem allowed_any (x : Bnd) (n : Int) (w : World) (hn : 0 ≤ n ∧ n ≤ 9223372036854775807) :
    Calls Try.prog 43 #[bndVal x, .int .i64 n] w fun e w' => e = .returned (.bool (bndOk n x)) ∧ Below w.heap.size w w' := by
  obtain ⟨a, b, lo, hi⟩ := x
  unfold bndVal
  have HN := Lib.hid hn
  clear hn
  go_enter Try.func43, Try.ntmps43
  go_wp2_with (first | (go_at_call 47; refine (isIndex_any _ _ _ HN.out).mono ?_; rintro e w' ⟨rfl, rfl⟩) | (go_at_call 39; refine (isDifference_any _ _).mono ?_; rintro e w' ⟨rfl, rfl⟩))
  all_goals go_ret
  all_goals exact ⟨ret_bool (by simp [bndOk, *]), by go_grown⟩
set_option maxRecDepth 100000 in
theorem limit_any (x : Bnd) (up : Bool) (w : World) (hlo : -1000000000000000 ≤ x.lo ∧ x.lo ≤ 1000000000000000) :
    Calls Try.prog 48 #[bndVal x, .bool up] w fun e w' => e = .returned (limVal (limOf x up)) ∧ Below w.heap.size w w' := by
  obtain ⟨a, b, lo, hi⟩ := x
  have w1 : IntKind.i64.wrap (-lo) = -lo := IntWalk.i64_in _ (by dsimp only at hlo; omega)
  unfold bndVal limVal
  cases up
  · go_enter Try.func48, Try.ntmps48
    go_wp2
    refine bodyPost_ret (v := .agg #[.int .i64 b, .int .i64 a, .int .i64 (-lo)]) (by simp [results, Try.results48, go_sem]) rfl ?_
    exact ⟨rfl, by go_grown⟩
  · go_enter Try.func48, Try.ntmps48
    go_wp2
    refine bodyPost_ret (v := .agg #[.int .i64 a, .int .i64 b, .int .i64 hi]) (by simp [results, Try.results48, go_sem]) rfl ?_
    exact ⟨rfl, by go_grown⟩
theorem limits_any (p : Option Addr) (n cap : Nat) (w : World) :
    Calls Try.prog 46 #[.slice p n cap] w fun e w' => e = .returned (.func (.func 71) #[] #[.pointer (some ⟨w.heap.size, 0, none⟩)]) ∧ w.alloc (.cells #[.slice p n cap] 25) = w' := by
  go_enter Try.func46, Try.ntmps46
  go_wp2
  go_ret
  exact ⟨rfl, rfl⟩
end Go.Proofs.Ytlelamjbfjneiaa.Ct
