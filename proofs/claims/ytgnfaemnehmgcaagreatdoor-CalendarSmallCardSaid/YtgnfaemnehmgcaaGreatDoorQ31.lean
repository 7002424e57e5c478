/-  ·  ·  -/
import Derived.Test.YtgnfaemnehmgcaaGreatDoorQ02
import Derived.Lib.Strings
import Derived.Lib.Slices
import Derived.Lib.Walk
import Derived.Test.YtgnfaemnehmgcaaGreatDoorQ30
import Derived.Test.YtgnfaemnehmgcaaGreatDoorQ28
import Derived.Laws.Bits64b
import Derived.Lib.ItoaLen
namespace Go.Proofs.YtgnfaemnehmgcaaGreatDoor.Cal
open Go Go.RowKit
attribute [local go_sem] Oper.semAt_some
set_option maxHeartbeats 1000000 in
theorem cut_some (s : ByteArray) (w : World) (h : ((s.extract 0 1).toList == [45]) = true) (hs : 1 ≤ s.size) :
    Calls Tryz.prog 128 #[.string s, .string ⟨#[45]⟩] w fun e w' => e = .returned (.tuple #[.string (s.extract 1 s.size), .bool true]) ∧ w = w' := by
  have hi : (1 : Int) ≤ s.size := by omega
  have hn : ¬ ((s.size : Int) < 1) := by omega
  go_enter Tryz.func128, Tryz.ntmps128
  go_wp2
  go_ret2
  exact ⟨rfl, rfl⟩
end Go.Proofs.YtgnfaemnehmgcaaGreatDoor.Cal
namespace Go.Proofs.YtgnfaemnehmgcaaGreatDoor.Cal
open Go Go.RowKit
attribute [local go_sem] Oper.semAt_some
set_option maxRecDepth 100000 in
set_option maxHeartbeats 1000000 in
theorem mul64_one (c : Nat) (hc : c ≤ 100000) (w : World) :
    Calls Tryz.prog 156 #[.int .u64 1, .int .u64 c] w fun e w' => e = .returned (.tuple #[.int .u64 0, .int .u64 c]) ∧ w = w' := by
  have k1 : bits .and .u64 (c : Int) 4294967295 = (c : Int) := by
    have h := bits_and_u64_nat c 4294967295 (by omega) (by omega)
    have e : c &&& 4294967295 = c % 4294967296 := Nat.and_two_pow_sub_one_eq_mod c 32
    rw [e, Nat.mod_eq_of_lt (by omega)] at h
    exact h
  have k2 : (c : Int) / 4294967296 = 0 := by omega
  have k3 : bits .and .u64 1 4294967295 = 1 := by decide
  have k4 : bits .and .u64 0 4294967295 = 0 := by decide
  have k5 : IntKind.u64.wrap (c : Int) = (c : Int) := by rw [IntKind.wrap_u64]; omega
  go_enter Tryz.func156, Tryz.ntmps156
  go_wp2
  go_ret2
  exact ⟨rfl, rfl⟩
theorem mul_one (c : Nat) (hc : c ≤ 100000) (w : World) :
    Calls Tryz.prog 142 #[.int .u64 1, .int .u64 c] w fun e w' => e = .returned (.tuple #[.int .u64 0, .int .u64 c]) ∧ w = w' := by
  have HM := Lib.hid (fun W => mul64_one c hc W)
  go_enter Tryz.func142, Tryz.ntmps142
  go_wp2_with (go_at_call 156; refine (HM.out _).mono ?_; rintro e w1 ⟨rfl, rfl⟩)
  go_ret2
  exact ⟨rfl, rfl⟩
theorem pre_is (b : Bool) (S : ByteArray) (w : World) (hs : Nat.ble 1 S.size = true) (hb : ((S.extract 0 1).toList == [48]) = b) :
    Calls Tryz.prog 143 #[.string S, .string ⟨#[48]⟩] w fun e w' => e = .returned (.bool b) ∧ w = w' := by
  have h1 : 1 ≤ S.size := Nat.le_of_ble_eq_true hs
  have h2 : (1 : Int) ≤ S.size := by omega
  have h3 : ¬ ((S.size : Int) < 1) := by omega
  go_enter Tryz.func143, Tryz.ntmps143
  go_wp2
  all_goals go_ret
  all_goals exact ⟨by simp_all, rfl⟩
set_option maxRecDepth 1000000 in
set_option maxHeartbeats 4000000 in
theorem repeat_two (w : World) :
    Calls Tryz.prog 130 #[.string ⟨#[48]⟩, .int .i64 2] w fun e w' => e = .returned (.string ⟨#[48, 48]⟩) ∧ w = w' := by
  have h42 : ((({ data := #[48] } : ByteArray)[0]'(by decide)).toNat : Int) = 48 := rfl
  have HM := Lib.hid (fun W => mul_one 2 (by decide) W)
  go_enter Tryz.func130, Tryz.ntmps130
  go_wp2_with (first | (go_at_call 142; refine (HM.out _).mono ?_; rintro e w1 ⟨rfl, rfl⟩) | (go_at_call 143; first | (refine (pre_is false _ _ (by decide +kernel) (by decide +kernel)).mono ?_; rintro e w1 ⟨rfl, rfl⟩) | (refine (pre_is true _ _ (by decide +kernel) (by decide +kernel)).mono ?_; rintro e w1 ⟨rfl, rfl⟩)))
  go_ret
  exact ⟨rfl, rfl⟩
set_option maxRecDepth 1000000 in
set_option maxHeartbeats 4000000 in
theorem repeat_three (w : World) :
    Calls Tryz.prog 130 #[.string ⟨#[48]⟩, .int .i64 3] w fun e w' => e = .returned (.string ⟨#[48, 48, 48]⟩) ∧ w = w' := by
  have h42 : ((({ data := #[48] } : ByteArray)[0]'(by decide)).toNat : Int) = 48 := rfl
  have HM := Lib.hid (fun W => mul_one 3 (by decide) W)
  go_enter Tryz.func130, Tryz.ntmps130
  go_wp2_with (first | (go_at_call 142; refine (HM.out _).mono ?_; rintro e w1 ⟨rfl, rfl⟩) | (go_at_call 143; first | (refine (pre_is false _ _ (by decide +kernel) (by decide +kernel)).mono ?_; rintro e w1 ⟨rfl, rfl⟩) | (refine (pre_is true _ _ (by decide +kernel) (by decide +kernel)).mono ?_; rintro e w1 ⟨rfl, rfl⟩)))
  go_ret
  exact ⟨rfl, rfl⟩
def zs (c : Nat) : ByteArray := ⟨(List.replicate c (48 : UInt8)).toArray⟩
theorem repeat_few (c : Nat) (hc : c ≤ 3) (w : World) :
    Calls Tryz.prog 130 #[.string ⟨#[48]⟩, .int .i64 (c : Int)] w fun e w' => e = .returned (.string (zs c)) ∧ w = w' := by
  rcases (by omega : c = 0 ∨ c = 1 ∨ c = 2 ∨ c = 3) with rfl | rfl | rfl | rfl
  · exact repeat_zero _ w
  · exact repeat_one _ w
  · exact repeat_two w
  · exact repeat_three w
set_option maxRecDepth 100000 in
set_option maxHeartbeats 4000000 in
theorem dig_pos (n cnt m : Int) (s t : ByteArray) (c : Nat) (w : World) (hI : Calls Tryz.prog 129 #[.int .i64 n] w fun e w' => e = .returned (.string s) ∧ Below w.heap.size w w') (HC : ∀ X, Calls Tryz.prog 128 #[.string s, .string ⟨#[45]⟩] X fun e w' => e = .returned (.tuple #[.string t, .bool false]) ∧ X = w') (ht : t.size ≤ 30) (hm : IntKind.i64.wrap (cnt - (t.size : Int)) = m) (hmx : max 0 m = (c : Int)) (hc3 : c ≤ 3) :
    Calls Tryz.prog 74 #[.int .i64 n, .int .i64 cnt] w fun e w' => e = .returned (.string (zs c ++ t)) ∧ Below w.heap.size w w' := by
  have HI := Lib.hid hI
  have HC := Lib.hid HC
  have HR := Lib.hid (fun X => repeat_few c hc3 X)
  have hz : (zs c).size = c := by unfold zs; simp [ByteArray.size]
  obtain ⟨Z, hZ⟩ : ∃ Z, zs c = Z := ⟨_, rfl⟩
  rw [hZ] at HR hz ⊢
  obtain ⟨zt, hzt⟩ : ∃ z, (t.size : Int) = z := ⟨_, rfl⟩
  rw [hzt] at hm
  have hl1 : (Z ++ t).size = c + t.size := by rw [ByteArray.size_append, hz]
  clear hI hZ
  go_enter Tryz.func74, Tryz.ntmps74
  go_wp2_with (first | (go_at_call 129; refine HI.out.mono ?_; rintro e w2 ⟨rfl, hb2⟩; have HB2 := Lib.hid hb2; clear hb2) | (go_at_call 128; refine (HC.out _).mono ?_; rintro e w' ⟨rfl, rfl⟩) | (go_at_call 130; refine (HR.out _).mono ?_; rintro e w' ⟨rfl, rfl⟩))
  go_ret
  exact ⟨rfl, HB2.out⟩
set_option maxRecDepth 100000 in
set_option maxHeartbeats 4000000 in
theorem dig_neg (n cnt m : Int) (s t : ByteArray) (c : Nat) (w : World) (hI : Calls Tryz.prog 129 #[.int .i64 n] w fun e w' => e = .returned (.string s) ∧ Below w.heap.size w w') (HC : ∀ X, Calls Tryz.prog 128 #[.string s, .string ⟨#[45]⟩] X fun e w' => e = .returned (.tuple #[.string t, .bool true]) ∧ X = w') (ht : t.size ≤ 30) (hm : IntKind.i64.wrap (cnt - (t.size : Int)) = m) (hmx : max 0 m = (c : Int)) (hc3 : c ≤ 3) :
    Calls Tryz.prog 74 #[.int .i64 n, .int .i64 cnt] w fun e w' => e = .returned (.string (⟨#[45]⟩ ++ (zs c ++ t))) ∧ Below w.heap.size w w' := by
  have HI := Lib.hid hI
  have HC := Lib.hid HC
  have HR := Lib.hid (fun X => repeat_few c hc3 X)
  have hz : (zs c).size = c := by unfold zs; simp [ByteArray.size]
  obtain ⟨Z, hZ⟩ : ∃ Z, zs c = Z := ⟨_, rfl⟩
  rw [hZ] at HR hz ⊢
  obtain ⟨zt, hzt⟩ : ∃ z, (t.size : Int) = z := ⟨_, rfl⟩
  rw [hzt] at hm
  have hl1 : (Z ++ t).size = c + t.size := by rw [ByteArray.size_append, hz]
  clear hI hZ
  go_enter Tryz.func74, Tryz.ntmps74
  go_wp2_with (first | (go_at_call 129; refine HI.out.mono ?_; rintro e w2 ⟨rfl, hb2⟩; have HB2 := Lib.hid hb2; clear hb2) | (go_at_call 128; refine (HC.out _).mono ?_; rintro e w' ⟨rfl, rfl⟩) | (go_at_call 130; refine (HR.out _).mono ?_; rintro e w' ⟨rfl, rfl⟩))
  go_ret
  exact ⟨rfl, HB2.out⟩
end Go.Proofs.YtgnfaemnehmgcaaGreatDoor.Cal
namespace Go.Proofs.YtgnfaemnehmgcaaGreatDoor.Cal
open Go Go.RowKit
attribute [local go_sem] Oper.semAt_some
theorem dec_digR (u : Nat) (h : u ≠ 0) : Lib.decDigits u = digR u := by
  induction u using Nat.strongRecOn with
  | _ u ih =>
    rw [digR_step h]
    by_cases h10 : u < 10
    · rw [Lib.decDigits, dif_pos h10, show u / 10 = 0 by omega, digR_zero, Nat.mod_eq_of_lt h10, List.nil_append, UInt8.ofNat_add]
      rfl
    · rw [Lib.decDigits, dif_neg h10, ih (u / 10) (by omega) (by omega), UInt8.ofNat_add]
      rfl
theorem pad_is (n : Int) {cnt : Nat} (hc : 1 ≤ cnt) : (if n < 0 then [45] else []) ++ (List.replicate (cnt - (Lib.decDigits n.natAbs).length) 48 ++ Lib.decDigits n.natAbs) = padL n cnt := by
  unfold padL
  by_cases h : n.natAbs = 0
  · rw [h, digR_zero, Lib.decDigits, dif_pos (by decide)]
    obtain ⟨k, rfl⟩ : ∃ k, cnt = k + 1 := ⟨cnt - 1, by omega⟩
    show _ ++ (List.replicate k 48 ++ [48]) = _ ++ (List.replicate (k + 1) 48 ++ [])
    rw [List.replicate_succ', List.append_nil]
  · rw [dec_digR _ h]
theorem dec_head : ∀ u : Nat, ∃ a l, a < 10 ∧ Lib.decDigits u = UInt8.ofNat (48 + a) :: l := fun u => by
  induction u using Nat.strongRecOn with
  | _ u ih =>
    by_cases h10 : u < 10
    · exact ⟨u, [], h10, by rw [Lib.decDigits, dif_pos h10]⟩
    · obtain ⟨a, l, ha, hl⟩ := ih (u / 10) (by omega)
      exact ⟨a, _, ha, by rw [Lib.decDigits, dif_neg h10, hl]; rfl⟩
theorem ba_eq {S T : ByteArray} (h : S.data.toList = T.data.toList) : S = T := by
  apply ByteArray.ext
  apply Array.toList_inj.1
  exact h
theorem digits_any (n : Int) (h0 : -9223372036854775808 ≤ n) (h9 : n ≤ 9223372036854775807) (cnt : Nat) (hc : 1 ≤ cnt ∧ cnt ≤ 4) (w : World) (hp : Pow w) :
    Calls Tryz.prog 74 #[.int .i64 n, .int .i64 (cnt : Int)] w fun e w' => e = .returned (.string (padB n cnt)) ∧ Below w.heap.size w w' := by
  have hI := (itoa_any n h0 h9 w hp).mono (fun e w' (q : _ ∧ _) => (⟨q.1, by obtain ⟨k, os, h⟩ := q.2; rw [h]; exact grow_below _ _ _⟩ : e = .returned (.string ⟨(Lib.itoa n).toArray⟩) ∧ Below w.heap.size w w'))
  obtain ⟨a, l, ha, hl⟩ := dec_head n.natAbs
  have hlen : (Lib.decDigits n.natAbs).length ≤ 21 ∧ 1 ≤ (Lib.decDigits n.natAbs).length := by
    have h21 := Lib.itoa_length_le n h0 h9
    refine ⟨?_, by rw [hl]; simp⟩
    unfold Lib.itoa at h21
    split at h21
    · simp at h21; omega
    · rwa [show n.toNat = n.natAbs by omega] at h21
  obtain ⟨T, hT⟩ : ∃ T : ByteArray, T = ⟨(Lib.decDigits n.natAbs).toArray⟩ := ⟨_, rfl⟩
  have hTl : T.data.toList = Lib.decDigits n.natAbs := by rw [hT]
  have hTs : T.size = (Lib.decDigits n.natAbs).length := by rw [hT]; simp [ByteArray.size]
  have hw : IntKind.i64.wrap ((cnt : Int) - (T.size : Int)) = (cnt : Int) - (T.size : Int) := IntWalk.i64_in _ (by omega)
  by_cases hn : n < 0
  · have eI : Lib.itoa n = 45 :: Lib.decDigits n.natAbs := by unfold Lib.itoa; rw [if_pos hn]
    rw [eI] at hI
    have hsz : (⟨(45 :: Lib.decDigits n.natAbs).toArray⟩ : ByteArray).size = T.size + 1 := by rw [hTs]; simp [ByteArray.size]
    have hx : (⟨(45 :: Lib.decDigits n.natAbs).toArray⟩ : ByteArray).extract 1 (⟨(45 :: Lib.decDigits n.natAbs).toArray⟩ : ByteArray).size = T := ba_eq (by
      rw [Lib.extract_data, hsz, hTl]
      simp [hTs])
    have HC : ∀ X, Calls Tryz.prog 128 #[.string ⟨(45 :: Lib.decDigits n.natAbs).toArray⟩, .string ⟨#[45]⟩] X fun e w' => e = .returned (.tuple #[.string T, .bool true]) ∧ X = w' := fun X => by
      have := cut_some ⟨(45 :: Lib.decDigits n.natAbs).toArray⟩ X (by rw [Lib.toList_data]; simp [ByteArray.data_extract]) (by rw [hsz]; omega)
      rwa [hx] at this
    have fin : ∀ c : Nat, c = cnt - T.size → (⟨#[45]⟩ : ByteArray) ++ (zs c ++ T) = padB n cnt := fun c hcc => ba_eq (by
      unfold padB
      rw [← pad_is n hc.1, if_pos hn, ba_append, ba_append, hTl, ← hTs, hcc]
      rfl)
    by_cases hm : (cnt : Int) - (T.size : Int) ≤ 0
    · rw [← fin 0 (by omega)]
      exact dig_neg n cnt _ _ T 0 w hI HC (by omega) hw (by omega) (by decide)
    · rw [← fin (cnt - T.size) rfl]
      exact dig_neg n cnt _ _ T (cnt - T.size) w hI HC (by omega) hw (by omega) (by omega)
  · have eI : Lib.itoa n = Lib.decDigits n.natAbs := by unfold Lib.itoa; rw [if_neg hn, show n.toNat = n.natAbs by omega]
    rw [eI, ← hT] at hI
    have HC : ∀ X, Calls Tryz.prog 128 #[.string T, .string ⟨#[45]⟩] X fun e w' => e = .returned (.tuple #[.string T, .bool false]) ∧ X = w' := fun X =>
      cut_none T X (by rw [hT, hl]; exact not_minus ha l)
    have fin : ∀ c : Nat, c = cnt - T.size → zs c ++ T = padB n cnt := fun c hcc => ba_eq (by
      unfold padB
      rw [← pad_is n hc.1, if_neg hn, ba_append, hTl, ← hTs, hcc]
      rfl)
    by_cases hm : (cnt : Int) - (T.size : Int) ≤ 0
    · rw [← fin 0 (by omega)]
      exact dig_pos n cnt _ _ T 0 w hI HC (by omega) hw (by omega) (by decide)
    · rw [← fin (cnt - T.size) rfl]
      exact dig_pos n cnt _ _ T (cnt - T.size) w hI HC (by omega) hw (by omega) (by omega)
set_option maxRecDepth 100000 in
set_option maxHeartbeats 4000000 in
theorem Format_all (y m d h i s : Int) (Ly : -9223372036854775808 ≤ y ∧ y ≤ 9223372036854775807) (Lm : -9223372036854775808 ≤ m ∧ m ≤ 9223372036854775807) (Ld : -9223372036854775808 ≤ d ∧ d ≤ 9223372036854775807) (Lh : -9223372036854775808 ≤ h ∧ h ≤ 9223372036854775807) (Li : -9223372036854775808 ≤ i ∧ i ≤ 9223372036854775807) (Ls : -9223372036854775808 ≤ s ∧ s ≤ 9223372036854775807) (w : World) (hp : Pow w) :
    Calls Tryz.prog 19 #[.agg #[.int .i64 y, .int .i64 m, .int .i64 d, .int .i64 h, .int .i64 i, .int .i64 s]] w fun e w' => e = .returned (.string (fmtB y m d h i s)) ∧ Below w.heap.size w w' := by
  have A0 := below_alloc (Below.refl w.heap.size w) (.cells #[.int .i64 y, .int .i64 m, .int .i64 d, .int .i64 h, .int .i64 i, .int .i64 s] 26)
  have HP := Lib.hid (hp.below A0)
  clear hp
  obtain ⟨P0, hP0⟩ : ∃ P, padB y 4 = P := ⟨_, rfl⟩
  have hz0 : P0.size ≤ 30 := by rw [← hP0]; exact padB_size Ly.1 Ly.2 (by decide)
  have K0 := Lib.hid (fun X hX => digits_any y Ly.1 Ly.2 4 (by decide) X hX)
  rw [hP0] at K0
  obtain ⟨P1, hP1⟩ : ∃ P, padB m 2 = P := ⟨_, rfl⟩
  have hz1 : P1.size ≤ 30 := by rw [← hP1]; exact padB_size Lm.1 Lm.2 (by decide)
  have K1 := Lib.hid (fun X hX => digits_any m Lm.1 Lm.2 2 (by decide) X hX)
  rw [hP1] at K1
  obtain ⟨P2, hP2⟩ : ∃ P, padB d 2 = P := ⟨_, rfl⟩
  have hz2 : P2.size ≤ 30 := by rw [← hP2]; exact padB_size Ld.1 Ld.2 (by decide)
  have K2 := Lib.hid (fun X hX => digits_any d Ld.1 Ld.2 2 (by decide) X hX)
  rw [hP2] at K2
  obtain ⟨P3, hP3⟩ : ∃ P, padB h 2 = P := ⟨_, rfl⟩
  have hz3 : P3.size ≤ 30 := by rw [← hP3]; exact padB_size Lh.1 Lh.2 (by decide)
  have K3 := Lib.hid (fun X hX => digits_any h Lh.1 Lh.2 2 (by decide) X hX)
  rw [hP3] at K3
  obtain ⟨P4, hP4⟩ : ∃ P, padB i 2 = P := ⟨_, rfl⟩
  have hz4 : P4.size ≤ 30 := by rw [← hP4]; exact padB_size Li.1 Li.2 (by decide)
  have K4 := Lib.hid (fun X hX => digits_any i Li.1 Li.2 2 (by decide) X hX)
  rw [hP4] at K4
  obtain ⟨P5, hP5⟩ : ∃ P, padB s 2 = P := ⟨_, rfl⟩
  have hz5 : P5.size ≤ 30 := by rw [← hP5]; exact padB_size Ls.1 Ls.2 (by decide)
  have K5 := Lib.hid (fun X hX => digits_any s Ls.1 Ls.2 2 (by decide) X hX)
  rw [hP5] at K5
  have HF := Lib.hid (show fmtB y m d h i s = P0 ++ ⟨#[45]⟩ ++ P1 ++ ⟨#[45]⟩ ++ P2 ++ ⟨#[32]⟩ ++ P3 ++ ⟨#[58]⟩ ++ P4 ++ ⟨#[58]⟩ ++ P5 by unfold fmtB; rw [hP0, hP1, hP2, hP3, hP4, hP5])
  rw [HF.out]
  clear Ly Lm Ld Lh Li Ls hP0 hP1 hP2 hP3 hP4 hP5
  have HQ : ∀ j : Nat, j < 6 → (w.alloc (.cells #[.int .i64 y, .int .i64 m, .int .i64 d, .int .i64 h, .int .i64 i, .int .i64 s] 26)).cell? ⟨w.heap.size, j, none⟩ = some (.int .i64 (match j with | 0 => y | 1 => m | 2 => d | 3 => h | 4 => i | _ => s)) := fun j hj => by
    rcases (by omega : j = 0 ∨ j = 1 ∨ j = 2 ∨ j = 3 ∨ j = 4 ∨ j = 5) with rfl | rfl | rfl | rfl | rfl | rfl <;> simp
  have A0 := Lib.hid A0
  have HQ := Lib.hid HQ
  go_enter Tryz.func19, Tryz.ntmps19
  go_upto_region 1 with fail
  generalize w.alloc (.cells #[.int .i64 y, .int .i64 m, .int .i64 d, .int .i64 h, .int .i64 i, .int .i64 s] 26) = W1 at *
  refine (wpIn_wide (n := 9)).1 ?_
  refine wpIn_region_cls (fun Z => Below W1.heap.size W1 Z) 28 1 (Below.drew (Below.refl _ _)) (by kernel_rfl) (by kernel_rfl) (by kernel_rfl) (by kernel_rfl) (by kernel_rfl) rfl ?_
  simp only [List.take_succ_cons, List.take_zero]
  refine wpQuietIn_step (fun _ _ _ _ => trivial) (fun KQ hKQ => ?_)
  rw [if_pos (by rfl)]
  refine ⟨.pointer (some ⟨w.heap.size, 0, none⟩), fun Z hZ => ?_, hKQ _ ?_⟩
  · unfold Oper.quietAtIn; go_simp
  clear hKQ KQ
  simp only [Act.put, List.setIfInBounds_toArray, List.set_cons_zero, List.set_cons_succ]
  refine wpQuietIn_step (fun _ _ _ _ => trivial) (fun KQ hKQ => ?_)
  rw [if_pos (by rfl)]
  refine ⟨.int .i64 y, fun Z hZ => ?_, hKQ _ ?_⟩
  · have q0 := cell_below hZ (HQ.out 0 (by decide)); have qz := cell_lt q0; unfold Oper.quietAtIn; go_simp
  clear hKQ KQ
  simp only [Act.put, List.setIfInBounds_toArray, List.set_cons_zero, List.set_cons_succ]
  refine wpQuietIn_step (fun _ _ _ _ => trivial) (fun KQ hKQ => ?_)
  rw [if_pos (by rfl)]
  refine ⟨.string P0, fun Z hZ => ?_, hKQ _ ?_⟩
  · unfold Oper.quietAtIn; go_simp; exact callsIn_wide.2 (Calls.bel hZ (K0.out Z (HP.out.below hZ)))
  clear hKQ KQ
  simp only [Act.put, List.setIfInBounds_toArray, List.set_cons_zero, List.set_cons_succ]
  refine wpQuietIn_step (fun _ _ _ _ => trivial) (fun KQ hKQ => ?_)
  rw [if_pos (by rfl)]
  refine ⟨.string (P0 ++ ⟨#[45]⟩), fun Z hZ => ?_, hKQ _ ?_⟩
  · unfold Oper.quietAtIn; go_simp; rw [if_neg (by omega)]; exact ⟨rfl, rfl⟩
  clear hKQ KQ
  simp only [Act.put, List.setIfInBounds_toArray, List.set_cons_zero, List.set_cons_succ]
  refine wpQuietIn_step (fun _ _ _ _ => trivial) (fun KQ hKQ => ?_)
  rw [if_pos (by rfl)]
  refine ⟨.pointer (some ⟨w.heap.size, 1, none⟩), fun Z hZ => ?_, hKQ _ ?_⟩
  · unfold Oper.quietAtIn; go_simp
  clear hKQ KQ
  simp only [Act.put, List.setIfInBounds_toArray, List.set_cons_zero, List.set_cons_succ]
  refine wpQuietIn_step (fun _ _ _ _ => trivial) (fun KQ hKQ => ?_)
  rw [if_pos (by rfl)]
  refine ⟨.int .i64 m, fun Z hZ => ?_, hKQ _ ?_⟩
  · have q0 := cell_below hZ (HQ.out 1 (by decide)); have qz := cell_lt q0; unfold Oper.quietAtIn; go_simp
  clear hKQ KQ
  simp only [Act.put, List.setIfInBounds_toArray, List.set_cons_zero, List.set_cons_succ]
  refine wpQuietIn_step (fun _ _ _ _ => trivial) (fun KQ hKQ => ?_)
  rw [if_pos (by rfl)]
  refine ⟨.string P1, fun Z hZ => ?_, hKQ _ ?_⟩
  · unfold Oper.quietAtIn; go_simp; exact callsIn_wide.2 (Calls.bel hZ (K1.out Z (HP.out.below hZ)))
  clear hKQ KQ
  simp only [Act.put, List.setIfInBounds_toArray, List.set_cons_zero, List.set_cons_succ]
  refine wpQuietIn_step (fun _ _ _ _ => trivial) (fun KQ hKQ => ?_)
  rw [if_pos (by rfl)]
  refine ⟨.string (P0 ++ ⟨#[45]⟩ ++ P1), fun Z hZ => ?_, hKQ _ ?_⟩
  · unfold Oper.quietAtIn; go_simp; rw [if_neg (by omega)]; exact ⟨rfl, rfl⟩
  clear hKQ KQ
  simp only [Act.put, List.setIfInBounds_toArray, List.set_cons_zero, List.set_cons_succ]
  refine wpQuietIn_step (fun _ _ _ _ => trivial) (fun KQ hKQ => ?_)
  rw [if_pos (by rfl)]
  refine ⟨.string (P0 ++ ⟨#[45]⟩ ++ P1 ++ ⟨#[45]⟩), fun Z hZ => ?_, hKQ _ ?_⟩
  · unfold Oper.quietAtIn; go_simp; rw [if_neg (by omega)]; exact ⟨rfl, rfl⟩
  clear hKQ KQ
  simp only [Act.put, List.setIfInBounds_toArray, List.set_cons_zero, List.set_cons_succ]
  refine wpQuietIn_step (fun _ _ _ _ => trivial) (fun KQ hKQ => ?_)
  rw [if_pos (by rfl)]
  refine ⟨.pointer (some ⟨w.heap.size, 2, none⟩), fun Z hZ => ?_, hKQ _ ?_⟩
  · unfold Oper.quietAtIn; go_simp
  clear hKQ KQ
  simp only [Act.put, List.setIfInBounds_toArray, List.set_cons_zero, List.set_cons_succ]
  refine wpQuietIn_step (fun _ _ _ _ => trivial) (fun KQ hKQ => ?_)
  rw [if_pos (by rfl)]
  refine ⟨.int .i64 d, fun Z hZ => ?_, hKQ _ ?_⟩
  · have q0 := cell_below hZ (HQ.out 2 (by decide)); have qz := cell_lt q0; unfold Oper.quietAtIn; go_simp
  clear hKQ KQ
  simp only [Act.put, List.setIfInBounds_toArray, List.set_cons_zero, List.set_cons_succ]
  refine wpQuietIn_step (fun _ _ _ _ => trivial) (fun KQ hKQ => ?_)
  rw [if_pos (by rfl)]
  refine ⟨.string P2, fun Z hZ => ?_, hKQ _ ?_⟩
  · unfold Oper.quietAtIn; go_simp; exact callsIn_wide.2 (Calls.bel hZ (K2.out Z (HP.out.below hZ)))
  clear hKQ KQ
  simp only [Act.put, List.setIfInBounds_toArray, List.set_cons_zero, List.set_cons_succ]
  refine wpQuietIn_step (fun _ _ _ _ => trivial) (fun KQ hKQ => ?_)
  rw [if_pos (by rfl)]
  refine ⟨.string (P0 ++ ⟨#[45]⟩ ++ P1 ++ ⟨#[45]⟩ ++ P2), fun Z hZ => ?_, hKQ _ ?_⟩
  · unfold Oper.quietAtIn; go_simp; rw [if_neg (by omega)]; exact ⟨rfl, rfl⟩
  clear hKQ KQ
  simp only [Act.put, List.setIfInBounds_toArray, List.set_cons_zero, List.set_cons_succ]
  refine wpQuietIn_step (fun _ _ _ _ => trivial) (fun KQ hKQ => ?_)
  rw [if_pos (by rfl)]
  refine ⟨.string (P0 ++ ⟨#[45]⟩ ++ P1 ++ ⟨#[45]⟩ ++ P2 ++ ⟨#[32]⟩), fun Z hZ => ?_, hKQ _ ?_⟩
  · unfold Oper.quietAtIn; go_simp; rw [if_neg (by omega)]; exact ⟨rfl, rfl⟩
  clear hKQ KQ
  simp only [Act.put, List.setIfInBounds_toArray, List.set_cons_zero, List.set_cons_succ]
  refine wpQuietIn_step (fun _ _ _ _ => trivial) (fun KQ hKQ => ?_)
  rw [if_pos (by rfl)]
  refine ⟨.pointer (some ⟨w.heap.size, 3, none⟩), fun Z hZ => ?_, hKQ _ ?_⟩
  · unfold Oper.quietAtIn; go_simp
  clear hKQ KQ
  simp only [Act.put, List.setIfInBounds_toArray, List.set_cons_zero, List.set_cons_succ]
  refine wpQuietIn_step (fun _ _ _ _ => trivial) (fun KQ hKQ => ?_)
  rw [if_pos (by rfl)]
  refine ⟨.int .i64 h, fun Z hZ => ?_, hKQ _ ?_⟩
  · have q0 := cell_below hZ (HQ.out 3 (by decide)); have qz := cell_lt q0; unfold Oper.quietAtIn; go_simp
  clear hKQ KQ
  simp only [Act.put, List.setIfInBounds_toArray, List.set_cons_zero, List.set_cons_succ]
  refine wpQuietIn_step (fun _ _ _ _ => trivial) (fun KQ hKQ => ?_)
  rw [if_pos (by rfl)]
  refine ⟨.string P3, fun Z hZ => ?_, hKQ _ ?_⟩
  · unfold Oper.quietAtIn; go_simp; exact callsIn_wide.2 (Calls.bel hZ (K3.out Z (HP.out.below hZ)))
  clear hKQ KQ
  simp only [Act.put, List.setIfInBounds_toArray, List.set_cons_zero, List.set_cons_succ]
  refine wpQuietIn_step (fun _ _ _ _ => trivial) (fun KQ hKQ => ?_)
  rw [if_pos (by rfl)]
  refine ⟨.string (P0 ++ ⟨#[45]⟩ ++ P1 ++ ⟨#[45]⟩ ++ P2 ++ ⟨#[32]⟩ ++ P3), fun Z hZ => ?_, hKQ _ ?_⟩
  · unfold Oper.quietAtIn; go_simp; rw [if_neg (by omega)]; exact ⟨rfl, rfl⟩
  clear hKQ KQ
  simp only [Act.put, List.setIfInBounds_toArray, List.set_cons_zero, List.set_cons_succ]
  refine wpQuietIn_step (fun _ _ _ _ => trivial) (fun KQ hKQ => ?_)
  rw [if_pos (by rfl)]
  refine ⟨.string (P0 ++ ⟨#[45]⟩ ++ P1 ++ ⟨#[45]⟩ ++ P2 ++ ⟨#[32]⟩ ++ P3 ++ ⟨#[58]⟩), fun Z hZ => ?_, hKQ _ ?_⟩
  · unfold Oper.quietAtIn; go_simp; rw [if_neg (by omega)]; exact ⟨rfl, rfl⟩
  clear hKQ KQ
  simp only [Act.put, List.setIfInBounds_toArray, List.set_cons_zero, List.set_cons_succ]
  refine wpQuietIn_step (fun _ _ _ _ => trivial) (fun KQ hKQ => ?_)
  rw [if_pos (by rfl)]
  refine ⟨.pointer (some ⟨w.heap.size, 4, none⟩), fun Z hZ => ?_, hKQ _ ?_⟩
  · unfold Oper.quietAtIn; go_simp
  clear hKQ KQ
  simp only [Act.put, List.setIfInBounds_toArray, List.set_cons_zero, List.set_cons_succ]
  refine wpQuietIn_step (fun _ _ _ _ => trivial) (fun KQ hKQ => ?_)
  rw [if_pos (by rfl)]
  refine ⟨.int .i64 i, fun Z hZ => ?_, hKQ _ ?_⟩
  · have q0 := cell_below hZ (HQ.out 4 (by decide)); have qz := cell_lt q0; unfold Oper.quietAtIn; go_simp
  clear hKQ KQ
  simp only [Act.put, List.setIfInBounds_toArray, List.set_cons_zero, List.set_cons_succ]
  refine wpQuietIn_step (fun _ _ _ _ => trivial) (fun KQ hKQ => ?_)
  rw [if_pos (by rfl)]
  refine ⟨.string P4, fun Z hZ => ?_, hKQ _ ?_⟩
  · unfold Oper.quietAtIn; go_simp; exact callsIn_wide.2 (Calls.bel hZ (K4.out Z (HP.out.below hZ)))
  clear hKQ KQ
  simp only [Act.put, List.setIfInBounds_toArray, List.set_cons_zero, List.set_cons_succ]
  refine wpQuietIn_step (fun _ _ _ _ => trivial) (fun KQ hKQ => ?_)
  rw [if_pos (by rfl)]
  refine ⟨.string (P0 ++ ⟨#[45]⟩ ++ P1 ++ ⟨#[45]⟩ ++ P2 ++ ⟨#[32]⟩ ++ P3 ++ ⟨#[58]⟩ ++ P4), fun Z hZ => ?_, hKQ _ ?_⟩
  · unfold Oper.quietAtIn; go_simp; rw [if_neg (by omega)]; exact ⟨rfl, rfl⟩
  clear hKQ KQ
  simp only [Act.put, List.setIfInBounds_toArray, List.set_cons_zero, List.set_cons_succ]
  refine wpQuietIn_step (fun _ _ _ _ => trivial) (fun KQ hKQ => ?_)
  rw [if_pos (by rfl)]
  refine ⟨.string (P0 ++ ⟨#[45]⟩ ++ P1 ++ ⟨#[45]⟩ ++ P2 ++ ⟨#[32]⟩ ++ P3 ++ ⟨#[58]⟩ ++ P4 ++ ⟨#[58]⟩), fun Z hZ => ?_, hKQ _ ?_⟩
  · unfold Oper.quietAtIn; go_simp; rw [if_neg (by omega)]; exact ⟨rfl, rfl⟩
  clear hKQ KQ
  simp only [Act.put, List.setIfInBounds_toArray, List.set_cons_zero, List.set_cons_succ]
  refine wpQuietIn_step (fun _ _ _ _ => trivial) (fun KQ hKQ => ?_)
  rw [if_pos (by rfl)]
  refine ⟨.pointer (some ⟨w.heap.size, 5, none⟩), fun Z hZ => ?_, hKQ _ ?_⟩
  · unfold Oper.quietAtIn; go_simp
  clear hKQ KQ
  simp only [Act.put, List.setIfInBounds_toArray, List.set_cons_zero, List.set_cons_succ]
  refine wpQuietIn_step (fun _ _ _ _ => trivial) (fun KQ hKQ => ?_)
  rw [if_pos (by rfl)]
  refine ⟨.int .i64 s, fun Z hZ => ?_, hKQ _ ?_⟩
  · have q0 := cell_below hZ (HQ.out 5 (by decide)); have qz := cell_lt q0; unfold Oper.quietAtIn; go_simp
  clear hKQ KQ
  simp only [Act.put, List.setIfInBounds_toArray, List.set_cons_zero, List.set_cons_succ]
  refine wpQuietIn_step (fun _ _ _ _ => trivial) (fun KQ hKQ => ?_)
  rw [if_pos (by rfl)]
  refine ⟨.string P5, fun Z hZ => ?_, hKQ _ ?_⟩
  · unfold Oper.quietAtIn; go_simp; exact callsIn_wide.2 (Calls.bel hZ (K5.out Z (HP.out.below hZ)))
  clear hKQ KQ
  simp only [Act.put, List.setIfInBounds_toArray, List.set_cons_zero, List.set_cons_succ]
  refine wpQuietIn_step (fun _ _ _ _ => trivial) (fun KQ hKQ => ?_)
  rw [if_pos (by rfl)]
  refine ⟨.string (P0 ++ ⟨#[45]⟩ ++ P1 ++ ⟨#[45]⟩ ++ P2 ++ ⟨#[32]⟩ ++ P3 ++ ⟨#[58]⟩ ++ P4 ++ ⟨#[58]⟩ ++ P5), fun Z hZ => ?_, hKQ _ ?_⟩
  · unfold Oper.quietAtIn; go_simp; rw [if_neg (by omega)]; exact ⟨rfl, rfl⟩
  clear hKQ KQ
  simp only [Act.put, List.setIfInBounds_toArray, List.set_cons_zero, List.set_cons_succ]
  refine wpQuietIn_nil ?_
  intro Z hZ
  simp only [List.replicate_succ, List.replicate_zero, List.cons_append, List.nil_append]
  have HBZ := Lib.hid hZ
  clear hZ
  refine wpAnyIn_ready (rs := [28]) (by kernel_rfl) (by simp) (AllReadyIn.cons rfl (fun K' hKK => ?_) AllReadyIn.nil)
  go_simp
  refine hKK _ _ ?_
  clear hKK
  refine wpAnyIn_done (by kernel_rfl) ?_ _
  go_wp2_with fail
  go_ret
  exact ⟨rfl, bt A0.out HBZ.out⟩
end Go.Proofs.YtgnfaemnehmgcaaGreatDoor.Cal
