/-  -/
import Derived.Test.YtgnfaemnehmgcaaGreatDoorQ26
import Derived.Lib.Strings
import Derived.Lib.Slices
import Derived.Lib.Walk
namespace Go.Proofs.YtgnfaemnehmgcaaGreatDoor.Cal
open Go Go.RowKit
attribute [local go_sem] Oper.semAt_some
set_option maxHeartbeats 1000000 in
theorem cut_none (s : ByteArray) (w : World) (h : ((s.extract 0 1).toList == [45]) = false) :
    Calls Tryz.prog 128 #[.string s, .string ⟨#[45]⟩] w fun e w' => e = .returned (.tuple #[.string s, .bool false]) ∧ w = w' := by
  go_enter Tryz.func128, Tryz.ntmps128
  go_wp2
  · go_ret2
    exact ⟨rfl, rfl⟩
  · go_ret2
    exact ⟨rfl, rfl⟩
set_option maxRecDepth 1000000 in
theorem repeat_zero (s : ByteArray) (w : World) :
    Calls Tryz.prog 130 #[.string s, .int .i64 0] w fun e w' => e = .returned (.string ⟨#[]⟩) ∧ w = w' := by
  go_enter Tryz.func130, Tryz.ntmps130
  go_wp2
  go_ret
  exact ⟨rfl, rfl⟩
set_option maxRecDepth 1000000 in
theorem repeat_one (s : ByteArray) (w : World) :
    Calls Tryz.prog 130 #[.string s, .int .i64 1] w fun e w' => e = .returned (.string s) ∧ w = w' := by
  go_enter Tryz.func130, Tryz.ntmps130
  go_wp2
  go_ret
  exact ⟨rfl, rfl⟩
theorem ba_append (a b : ByteArray) : (a ++ b).data.toList = a.data.toList ++ b.data.toList := by simp
def dig2 (n : Nat) : List UInt8 := [UInt8.ofNat (48 + n / 10), UInt8.ofNat (48 + n % 10)]
def dig4 (n : Nat) : List UInt8 := dig2 (n / 100) ++ dig2 (n % 100)
theorem not_minus {n : Nat} (h : n < 10) (l : List UInt8) : (((⟨(UInt8.ofNat (48 + n) :: l).toArray⟩ : ByteArray).extract 0 1).toList == [45]) = false := by
  have e : ((⟨(UInt8.ofNat (48 + n) :: l).toArray⟩ : ByteArray).extract 0 1).toList = [UInt8.ofNat (48 + n)] := by
    rw [Lib.toList_data]
    simp [ByteArray.data_extract]
  rw [e]
  rcases (by omega : n = 0 ∨ n = 1 ∨ n = 2 ∨ n = 3 ∨ n = 4 ∨ n = 5 ∨ n = 6 ∨ n = 7 ∨ n = 8 ∨ n = 9) with rfl | rfl | rfl | rfl | rfl | rfl | rfl | rfl | rfl | rfl <;> rfl
theorem grow_below (w : World) (k : Nat) (os : Array Obj) : Below w.heap.size w (Sort.grow (w.drewN k) os) :=
  ⟨rfl, rfl, rfl, by show w.heap.size ≤ (w.heap ++ os).size; simp, fun i hi => by show (w.heap ++ os)[i]? = w.heap[i]?; rw [Array.getElem?_append_left hi]⟩
end Go.Proofs.YtgnfaemnehmgcaaGreatDoor.Cal
