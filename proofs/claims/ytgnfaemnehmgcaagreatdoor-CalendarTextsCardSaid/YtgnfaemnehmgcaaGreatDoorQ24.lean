/- Layer 9 (calendar): strings.CutPrefix where the '-' is there. -/
import Derived.Test.YtgnfaemnehmgcaaGreatDoorQ02
import Derived.Lib.Strings
import Derived.Lib.Slices
import Derived.Lib.Walk
namespace Go.Proofs.YtgnfaemnehmgcaaGreatDoor.Cal
open Go Go.RowKit
attribute [local go_sem] Oper.semAt_some
set_option maxHeartbeats 1000000 in
theorem cut_some (s : ByteArray) (w : World) (h : ((s.extract 0 1).toList == [45]) = true) (hs : 1 ≤ s.size) :
    Calls Tryz.prog 128 #[.string s, .string ⟨#[45]⟩] w fun e w' => e = .returned (.tuple #[.string (s.extract 1 s.size), .bool true]) ∧ w = w' := by
  have hi : (1 : Int) ≤ s.size := by omega
  have hn : ¬ ((s.size : Int) < 1) := by omega
  go_enter Tryz.func128, Tryz.ntmps128
  go_wp2
  go_ret2
  exact ⟨rfl, rfl⟩
end Go.Proofs.YtgnfaemnehmgcaaGreatDoor.Cal
