/- Layer 9 (calendar): lists of numbers are compared. -/
import Derived.Test.YtklhepgpepfgjaaDoorQ13
namespace Go.Proofs.YtklhepgpepfgjaaDoor.Cal
open Go Go.RowKit
attribute [local go_sem] Oper.semAt_some
def cmpI (x y : Int) : Int := if x < y then -1 else if y < x then 1 else 0
theorem isNaN_any (x : Int) (w : World) : Calls Tryd.prog 80 #[.int .i64 x] w fun e w' => e = .returned (.bool false) ∧ w = w' := by
  go_enter Tryd.func80, Tryd.ntmps80
  go_wp2_with fail
  go_ret
  exact ⟨by first | rfl | simp, rfl⟩
/-- the first difference of two lists, from place k on, m places left -/
def lexF (f g : Nat → Int) (k : Nat) : Nat → Int
  | 0 => 0
  | m + 1 => if cmpI (f k) (g k) = 0 then lexF f g (k + 1) m else cmpI (f k) (g k)
end Go.Proofs.YtklhepgpepfgjaaDoor.Cal
