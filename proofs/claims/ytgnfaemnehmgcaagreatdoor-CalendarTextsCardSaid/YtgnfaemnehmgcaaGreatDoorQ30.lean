/- Layer 9 (calendar): the program's Digits of any number. (by gen_vk.py) -/
import Derived.Test.YtgnfaemnehmgcaaGreatDoorQ24
import Derived.Test.YtgnfaemnehmgcaaGreatDoorQ29
import Derived.Test.YtgnfaemnehmgcaaGreatDoorQ23
import Derived.Laws.Bits64b
namespace Go.Proofs.YtgnfaemnehmgcaaGreatDoor.Cal
open Go Go.RowKit
attribute [local go_sem] Oper.semAt_some
set_option maxRecDepth 100000 in
set_option maxHeartbeats 1000000 in
theorem mul64_one (c : Nat) (hc : c ≤ 100000) (w : World) :
    Calls Tryz.prog 156 #[.int .u64 1, .int .u64 c] w fun e w' => e = .returned (.tuple #[.int .u64 0, .int .u64 c]) ∧ w = w' := by
  have k1 : bits .and .u64 (c : Int) 4294967295 = (c : Int) := by
    have h := bits_and_u64_nat c 4294967295 (by omega) (by omega)
    have e : c &&& 4294967295 = c % 4294967296 := Nat.and_two_pow_sub_one_eq_mod c 32
    rw [e, Nat.mod_eq_of_lt (by omega)] at h
    exact h
  have k2 : (c : Int) / 4294967296 = 0 := by omega
  have k3 : bits .and .u64 1 4294967295 = 1 := by decide
  have k4 : bits .and .u64 0 4294967295 = 0 := by decide
  have k5 : IntKind.u64.wrap (c : Int) = (c : Int) := by rw [IntKind.wrap_u64]; omega
  go_enter Tryz.func156, Tryz.ntmps156
  go_wp2
  go_ret2
  exact ⟨rfl, rfl⟩
theorem mul_one (c : Nat) (hc : c ≤ 100000) (w : World) :
    Calls Tryz.prog 142 #[.int .u64 1, .int .u64 c] w fun e w' => e = .returned (.tuple #[.int .u64 0, .int .u64 c]) ∧ w = w' := by
  have HM := Lib.hid (fun W => mul64_one c hc W)
  go_enter Tryz.func142, Tryz.ntmps142
  go_wp2_with (go_at_call 156; refine (HM.out _).mono ?_; rintro e w1 ⟨rfl, rfl⟩)
  go_ret2
  exact ⟨rfl, rfl⟩
theorem pre_is (b : Bool) (S : ByteArray) (w : World) (hs : Nat.ble 1 S.size = true) (hb : ((S.extract 0 1).toList == [48]) = b) :
    Calls Tryz.prog 143 #[.string S, .string ⟨#[48]⟩] w fun e w' => e = .returned (.bool b) ∧ w = w' := by
  have h1 : 1 ≤ S.size := Nat.le_of_ble_eq_true hs
  have h2 : (1 : Int) ≤ S.size := by omega
  have h3 : ¬ ((S.size : Int) < 1) := by omega
  go_enter Tryz.func143, Tryz.ntmps143
  go_wp2
  all_goals go_ret
  all_goals exact ⟨by simp_all, rfl⟩
set_option maxRecDepth 1000000 in
set_option maxHeartbeats 4000000 in
theorem repeat_two (w : World) :
    Calls Tryz.prog 130 #[.string ⟨#[48]⟩, .int .i64 2] w fun e w' => e = .returned (.string ⟨#[48, 48]⟩) ∧ w = w' := by
  have h42 : ((({ data := #[48] } : ByteArray)[0]'(by decide)).toNat : Int) = 48 := rfl
  have HM := Lib.hid (fun W => mul_one 2 (by decide) W)
  go_enter Tryz.func130, Tryz.ntmps130
  go_wp2_with (first | (go_at_call 142; refine (HM.out _).mono ?_; rintro e w1 ⟨rfl, rfl⟩) | (go_at_call 143; first | (refine (pre_is false _ _ (by decide +kernel) (by decide +kernel)).mono ?_; rintro e w1 ⟨rfl, rfl⟩) | (refine (pre_is true _ _ (by decide +kernel) (by decide +kernel)).mono ?_; rintro e w1 ⟨rfl, rfl⟩)))
  go_ret
  exact ⟨rfl, rfl⟩
set_option maxRecDepth 1000000 in
set_option maxHeartbeats 4000000 in
theorem repeat_three (w : World) :
    Calls Tryz.prog 130 #[.string ⟨#[48]⟩, .int .i64 3] w fun e w' => e = .returned (.string ⟨#[48, 48, 48]⟩) ∧ w = w' := by
  have h42 : ((({ data := #[48] } : ByteArray)[0]'(by decide)).toNat : Int) = 48 := rfl
  have HM := Lib.hid (fun W => mul_one 3 (by decide) W)
  go_enter Tryz.func130, Tryz.ntmps130
  go_wp2_with (first | (go_at_call 142; refine (HM.out _).mono ?_; rintro e w1 ⟨rfl, rfl⟩) | (go_at_call 143; first | (refine (pre_is false _ _ (by decide +kernel) (by decide +kernel)).mono ?_; rintro e w1 ⟨rfl, rfl⟩) | (refine (pre_is true _ _ (by decide +kernel) (by decide +kernel)).mono ?_; rintro e w1 ⟨rfl, rfl⟩)))
  go_ret
  exact ⟨rfl, rfl⟩
/-- so many zeros -/
def zs (c : Nat) : ByteArray := ⟨(List.replicate c (48 : UInt8)).toArray⟩
theorem repeat_few (c : Nat) (hc : c ≤ 3) (w : World) :
    Calls Tryz.prog 130 #[.string ⟨#[48]⟩, .int .i64 (c : Int)] w fun e w' => e = .returned (.string (zs c)) ∧ w = w' := by
  rcases (by omega : c = 0 ∨ c = 1 ∨ c = 2 ∨ c = 3) with rfl | rfl | rfl | rfl
  · exact repeat_zero _ w
  · exact repeat_one _ w
  · exact repeat_two w
  · exact repeat_three w
set_option maxRecDepth 100000 in
set_option maxHeartbeats 4000000 in
theorem dig_pos (n cnt m : Int) (s t : ByteArray) (c : Nat) (w : World) (hI : Calls Tryz.prog 129 #[.int .i64 n] w fun e w' => e = .returned (.string s) ∧ Below w.heap.size w w') (HC : ∀ X, Calls Tryz.prog 128 #[.string s, .string ⟨#[45]⟩] X fun e w' => e = .returned (.tuple #[.string t, .bool false]) ∧ X = w') (ht : t.size ≤ 30) (hm : IntKind.i64.wrap (cnt - (t.size : Int)) = m) (hmx : max 0 m = (c : Int)) (hc3 : c ≤ 3) :
    Calls Tryz.prog 74 #[.int .i64 n, .int .i64 cnt] w fun e w' => e = .returned (.string (zs c ++ t)) ∧ Below w.heap.size w w' := by
  have HI := Lib.hid hI
  have HC := Lib.hid HC
  have HR := Lib.hid (fun X => repeat_few c hc3 X)
  have hz : (zs c).size = c := by unfold zs; simp [ByteArray.size]
  obtain ⟨Z, hZ⟩ : ∃ Z, zs c = Z := ⟨_, rfl⟩
  rw [hZ] at HR hz ⊢
  obtain ⟨zt, hzt⟩ : ∃ z, (t.size : Int) = z := ⟨_, rfl⟩
  rw [hzt] at hm
  have hl1 : (Z ++ t).size = c + t.size := by rw [ByteArray.size_append, hz]
  clear hI hZ
  go_enter Tryz.func74, Tryz.ntmps74
  go_wp2_with (first | (go_at_call 129; refine HI.out.mono ?_; rintro e w2 ⟨rfl, hb2⟩; have HB2 := Lib.hid hb2; clear hb2) | (go_at_call 128; refine (HC.out _).mono ?_; rintro e w' ⟨rfl, rfl⟩) | (go_at_call 130; refine (HR.out _).mono ?_; rintro e w' ⟨rfl, rfl⟩))
  go_ret
  exact ⟨rfl, HB2.out⟩
set_option maxRecDepth 100000 in
set_option maxHeartbeats 4000000 in
theorem dig_neg (n cnt m : Int) (s t : ByteArray) (c : Nat) (w : World) (hI : Calls Tryz.prog 129 #[.int .i64 n] w fun e w' => e = .returned (.string s) ∧ Below w.heap.size w w') (HC : ∀ X, Calls Tryz.prog 128 #[.string s, .string ⟨#[45]⟩] X fun e w' => e = .returned (.tuple #[.string t, .bool true]) ∧ X = w') (ht : t.size ≤ 30) (hm : IntKind.i64.wrap (cnt - (t.size : Int)) = m) (hmx : max 0 m = (c : Int)) (hc3 : c ≤ 3) :
    Calls Tryz.prog 74 #[.int .i64 n, .int .i64 cnt] w fun e w' => e = .returned (.string (⟨#[45]⟩ ++ (zs c ++ t))) ∧ Below w.heap.size w w' := by
  have HI := Lib.hid hI
  have HC := Lib.hid HC
  have HR := Lib.hid (fun X => repeat_few c hc3 X)
  have hz : (zs c).size = c := by unfold zs; simp [ByteArray.size]
  obtain ⟨Z, hZ⟩ : ∃ Z, zs c = Z := ⟨_, rfl⟩
  rw [hZ] at HR hz ⊢
  obtain ⟨zt, hzt⟩ : ∃ z, (t.size : Int) = z := ⟨_, rfl⟩
  rw [hzt] at hm
  have hl1 : (Z ++ t).size = c + t.size := by rw [ByteArray.size_append, hz]
  clear hI hZ
  go_enter Tryz.func74, Tryz.ntmps74
  go_wp2_with (first | (go_at_call 129; refine HI.out.mono ?_; rintro e w2 ⟨rfl, hb2⟩; have HB2 := Lib.hid hb2; clear hb2) | (go_at_call 128; refine (HC.out _).mono ?_; rintro e w' ⟨rfl, rfl⟩) | (go_at_call 130; refine (HR.out _).mono ?_; rintro e w' ⟨rfl, rfl⟩))
  go_ret
  exact ⟨rfl, HB2.out⟩
end Go.Proofs.YtgnfaemnehmgcaaGreatDoor.Cal
