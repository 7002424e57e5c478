/-  -/
import Derived.Test.YtgnfaemnehmgcaaGreatDoorQ27
import Derived.Test.YtgnfaemnehmgcaaGreatDoorQ05
import Derived.Lib.SmallJoins
namespace Go.Proofs.YtgnfaemnehmgcaaGreatDoor.Cal
open Go Go.RowKit
attribute [local go_sem] Oper.semAt_some
def Pow (w : World) : Prop := Lib.TabIs Tryz.prog w "internal/strconv.uint64pow10" .u64 Lib.pow10Tab
theorem gPow : Tryz.prog.globalNamed "internal/strconv.uint64pow10" = some 3 := by kernel_rfl
theorem Pow.below {w w' : World} (h : Pow w) (hb : Below w.heap.size w w') : Pow w' := Go.Joins.tab_stays gPow h hb (Nat.le_refl _)
def fmtL (y k d h m s : Nat) : List UInt8 := dig4 y ++ [45] ++ dig2 k ++ [45] ++ dig2 d ++ [32] ++ dig2 h ++ [58] ++ dig2 m ++ [58] ++ dig2 s
end Go.Proofs.YtgnfaemnehmgcaaGreatDoor.Cal
