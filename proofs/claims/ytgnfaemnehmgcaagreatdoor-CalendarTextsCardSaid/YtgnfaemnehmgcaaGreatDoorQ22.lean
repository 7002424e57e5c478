/- Layer 9 (calendar): the digits of numbers. -/
import Derived.Test.YtgnfaemnehmgcaaGreatDoorQ21
import Derived.Lib.Strings
import Derived.Lib.Slices
import Derived.Lib.Walk
namespace Go.Proofs.YtgnfaemnehmgcaaGreatDoor.Cal
open Go Go.RowKit
attribute [local go_sem] Oper.semAt_some
set_option maxHeartbeats 1000000 in
theorem cut_none (s : ByteArray) (w : World) (h : ((s.extract 0 1).toList == [45]) = false) :
    Calls Tryz.prog 128 #[.string s, .string ⟨#[45]⟩] w fun e w' => e = .returned (.tuple #[.string s, .bool false]) ∧ w = w' := by
  go_enter Tryz.func128, Tryz.ntmps128
  go_wp2
  · go_ret2
    exact ⟨rfl, rfl⟩
  · go_ret2
    exact ⟨rfl, rfl⟩
set_option maxRecDepth 1000000 in
theorem repeat_zero (s : ByteArray) (w : World) :
    Calls Tryz.prog 130 #[.string s, .int .i64 0] w fun e w' => e = .returned (.string ⟨#[]⟩) ∧ w = w' := by
  go_enter Tryz.func130, Tryz.ntmps130
  go_wp2
  go_ret
  exact ⟨rfl, rfl⟩
set_option maxRecDepth 1000000 in
theorem repeat_one (s : ByteArray) (w : World) :
    Calls Tryz.prog 130 #[.string s, .int .i64 1] w fun e w' => e = .returned (.string s) ∧ w = w' := by
  go_enter Tryz.func130, Tryz.ntmps130
  go_wp2
  go_ret
  exact ⟨rfl, rfl⟩
theorem ba_append (a b : ByteArray) : (a ++ b).data.toList = a.data.toList ++ b.data.toList := by simp
set_option maxHeartbeats 1000000 in
theorem digits_full (n cnt : Int) (s : ByteArray) (w : World) (hI : Calls Tryz.prog 129 #[.int .i64 n] w fun e w' => e = .returned (.string s) ∧ Below w.heap.size w w') (hc : cnt = (s.size : Int)) (hs : s.size ≤ 20) (h : ((s.extract 0 1).toList == [45]) = false) :
    Calls Tryz.prog 74 #[.int .i64 n, .int .i64 cnt] w fun e w' => ∃ S, e = .returned (.string S) ∧ S.data.toList = s.data.toList ∧ Below w.heap.size w w' := by
  have HI := Lib.hid hI
  have HC := Lib.hid (fun X => cut_none s X h)
  obtain ⟨z, hz⟩ : ∃ z, (s.size : Int) = z := ⟨_, rfl⟩
  rw [hz] at hc
  subst hc
  have c1 : IntKind.i64.wrap (cnt - cnt) = 0 := by rw [Int.sub_self]; decide
  have c2 : cnt - cnt = 0 := Int.sub_self _
  clear hI h
  go_enter Tryz.func74, Tryz.ntmps74
  go_wp2_with (first | (go_at_call 129; refine HI.out.mono ?_; rintro e w2 ⟨rfl, hb2⟩; have HB2 := Lib.hid hb2; clear hb2) | (go_at_call 128; refine (HC.out _).mono ?_; rintro e w' ⟨rfl, rfl⟩) | (go_at_call 130; refine (repeat_zero _ _).mono ?_; rintro e w' ⟨rfl, rfl⟩))
  go_ret
  exact ⟨_, rfl, by simp, HB2.out⟩
set_option maxHeartbeats 1000000 in
theorem digits_one (n cnt : Int) (s : ByteArray) (w : World) (hI : Calls Tryz.prog 129 #[.int .i64 n] w fun e w' => e = .returned (.string s) ∧ Below w.heap.size w w') (hc : cnt = (s.size : Int) + 1) (hs : s.size ≤ 20) (h : ((s.extract 0 1).toList == [45]) = false) :
    Calls Tryz.prog 74 #[.int .i64 n, .int .i64 cnt] w fun e w' => ∃ S, e = .returned (.string S) ∧ S.data.toList = 48 :: s.data.toList ∧ Below w.heap.size w w' := by
  have HI := Lib.hid hI
  have HC := Lib.hid (fun X => cut_none s X h)
  obtain ⟨z, hz⟩ : ∃ z, (s.size : Int) = z := ⟨_, rfl⟩
  rw [hz] at hc
  subst hc
  have c2 : z + 1 - z = 1 := by omega
  have c1 : IntKind.i64.wrap (z + 1 - z) = 1 := by rw [c2]; decide
  clear hI h
  go_enter Tryz.func74, Tryz.ntmps74
  go_wp2_with (first | (go_at_call 129; refine HI.out.mono ?_; rintro e w2 ⟨rfl, hb2⟩; have HB2 := Lib.hid hb2; clear hb2) | (go_at_call 128; refine (HC.out _).mono ?_; rintro e w' ⟨rfl, rfl⟩) | (go_at_call 130; refine (repeat_one _ _).mono ?_; rintro e w' ⟨rfl, rfl⟩))
  go_ret
  exact ⟨_, rfl, by simp, HB2.out⟩
/-- two digits; four digits -/
def dig2 (n : Nat) : List UInt8 := [UInt8.ofNat (48 + n / 10), UInt8.ofNat (48 + n % 10)]
def dig4 (n : Nat) : List UInt8 := dig2 (n / 100) ++ dig2 (n % 100)
theorem dec_lt {n : Nat} (h : n < 10) : Lib.decDigits n = [UInt8.ofNat (48 + n)] := by rw [Lib.decDigits, dif_pos h]
theorem dec_two {n : Nat} (h1 : 10 ≤ n) (h : n < 100) : Lib.decDigits n = dig2 n := by rw [Lib.decDigits, dif_neg (by omega), dec_lt (by omega)]; rfl
theorem dec_four {n : Nat} (h1 : 1000 ≤ n) (h : n < 10000) : Lib.decDigits n = dig4 n := by
  rw [Lib.decDigits, dif_neg (by omega), Lib.decDigits, dif_neg (by omega), dec_two (by omega) (by omega)]
  unfold dig4 dig2
  rw [show n / 10 / 10 / 10 = n / 100 / 10 by omega, show n / 10 / 10 % 10 = n / 100 % 10 by omega, show n / 10 % 10 = n % 100 / 10 by omega, show n % 100 % 10 = n % 10 by omega]
  rfl
theorem not_minus {n : Nat} (h : n < 10) (l : List UInt8) : (((⟨(UInt8.ofNat (48 + n) :: l).toArray⟩ : ByteArray).extract 0 1).toList == [45]) = false := by
  have e : ((⟨(UInt8.ofNat (48 + n) :: l).toArray⟩ : ByteArray).extract 0 1).toList = [UInt8.ofNat (48 + n)] := by
    rw [Lib.toList_data]
    simp [ByteArray.data_extract]
  rw [e]
  rcases (by omega : n = 0 ∨ n = 1 ∨ n = 2 ∨ n = 3 ∨ n = 4 ∨ n = 5 ∨ n = 6 ∨ n = 7 ∨ n = 8 ∨ n = 9) with rfl | rfl | rfl | rfl | rfl | rfl | rfl | rfl | rfl | rfl <;> rfl
theorem grow_below (w : World) (k : Nat) (os : Array Obj) : Below w.heap.size w (Sort.grow (w.drewN k) os) :=
  ⟨rfl, rfl, rfl, by show w.heap.size ≤ (w.heap ++ os).size; simp, fun i hi => by show (w.heap ++ os)[i]? = w.heap[i]?; rw [Array.getElem?_append_left hi]⟩
theorem digits2_any (n : Nat) (hn : n < 100) (w : World) :
    Calls Tryz.prog 74 #[.int .i64 n, .int .i64 2] w fun e w' => ∃ S, e = .returned (.string S) ∧ S.data.toList = dig2 n ∧ Below w.heap.size w w' := by
  have hI := (itoa_small n hn w).mono (fun e w' (q : _ ∧ _) => (⟨q.1, by rw [q.2]; exact Below.refl _ _⟩ : e = .returned (.string ⟨(Lib.decDigits n).toArray⟩) ∧ Below w.heap.size w w'))
  by_cases h : n < 10
  · have e1 := dec_lt h
    rw [e1] at hI
    refine (digits_one n 2 _ w hI (by simp [ByteArray.size]) (by simp [ByteArray.size]) (not_minus h [])).mono ?_
    rintro e w' ⟨S, rfl, hS, hb⟩
    refine ⟨S, rfl, ?_, hb⟩
    rw [hS]
    unfold dig2
    rw [show n / 10 = 0 by omega, show n % 10 = n by omega]
    rfl
  · have e1 := dec_two (by omega) hn
    rw [e1] at hI
    refine (digits_full n 2 _ w hI (by simp [ByteArray.size, dig2]) (by simp [ByteArray.size, dig2]) (not_minus (n := n / 10) (by omega) [_])).mono ?_
    rintro e w' ⟨S, rfl, hS, hb⟩
    exact ⟨S, rfl, by rw [hS], hb⟩
theorem digits4_any (n : Nat) (h1 : 1000 ≤ n) (hn : n < 10000) (w : World) (htab : Lib.TabIs Tryz.prog w "internal/strconv.uint64pow10" .u64 Lib.pow10Tab) :
    Calls Tryz.prog 74 #[.int .i64 n, .int .i64 4] w fun e w' => ∃ S, e = .returned (.string S) ∧ S.data.toList = dig4 n ∧ Below w.heap.size w w' := by
  have hI := (itoa_any n (by omega) (by omega) w htab).mono (fun e w' (q : _ ∧ _) => (⟨q.1, by obtain ⟨k, os, h⟩ := q.2; rw [h]; exact grow_below _ _ _⟩ : e = .returned (.string ⟨(Lib.itoa n).toArray⟩) ∧ Below w.heap.size w w'))
  have e1 : Lib.itoa (n : Int) = dig4 n := by unfold Lib.itoa; rw [if_neg (by omega), Int.toNat_natCast]; exact dec_four h1 hn
  rw [e1] at hI
  refine (digits_full n 4 _ w hI (by simp [ByteArray.size, dig4, dig2]) (by simp [ByteArray.size, dig4, dig2]) (not_minus (n := n / 100 / 10) (by omega) (UInt8.ofNat (48 + n / 100 % 10) :: dig2 (n % 100)))).mono ?_
  rintro e w' ⟨S, rfl, hS, hb⟩
  exact ⟨S, rfl, by rw [hS], hb⟩
end Go.Proofs.YtgnfaemnehmgcaaGreatDoor.Cal
