/-  ·  ·  -/
import Derived.Test.YtgnfaemnehmgcaaGreatDoorQ02
namespace Go.Proofs.YtgnfaemnehmgcaaGreatDoor.Cal
open Go Go.RowKit
attribute [local go_sem] Oper.semAt_some
theorem Civil_ok {n y : Int} {m : Nat} {d : Int} (w : World) (hw : Mon w) (h : IsCiv n y m d) :
    Calls Tryz.prog 28 #[.int .i64 n] w fun e w' => e = .returned (.tuple #[.int .i64 y, .int .i64 (m : Int), .int .i64 d, .int .i64 0]) ∧ w = w' := by
  have H0 := Lib.hid (show (decide (41317 ≤ n) && decide (n ≤ 88068)) = true by simp [h.n_bd])
  have HC := Lib.hid (civil_any w hw h)
  clear h hw
  go_enter Tryz.func28, Tryz.ntmps28
  go_wp2_with (first | (go_at_call 79; refine (isDay_any _ _).mono ?_; rintro e w' ⟨rfl, rfl⟩; rw [H0.out]) | (go_at_call 89; refine HC.out.mono ?_; rintro e w' ⟨rfl, rfl⟩))
  exact bodyPost_ret (v := .tuple #[.int .i64 y, .int .i64 (m : Int), .int .i64 d, .int .i64 0]) (by simp [results, Tryz.results28, go_sem]) rfl ⟨rfl, rfl⟩
theorem Civil_no (n : Int) (w : World) (h : (decide (41317 ≤ n) && decide (n ≤ 88068)) = false) :
    Calls Tryz.prog 28 #[.int .i64 n] w fun e w' => e = .returned (.tuple #[.int .i64 0, .int .i64 0, .int .i64 0, .int .i64 6]) ∧ w = w' := by
  have H0 := Lib.hid h
  clear h
  go_enter Tryz.func28, Tryz.ntmps28
  go_wp2_with (go_at_call 79; refine (isDay_any _ _).mono ?_; rintro e w' ⟨rfl, rfl⟩; rw [H0.out])
  exact bodyPost_ret (v := .tuple #[.int .i64 0, .int .i64 0, .int .i64 0, .int .i64 6]) (by simp [results, Tryz.results28, go_sem]) rfl ⟨rfl, rfl⟩
theorem Weekday_ok (n : Int) (w : World) (h : 41317 ≤ n ∧ n ≤ 88068) :
    Calls Tryz.prog 23 #[.int .i64 n] w fun e w' => e = .returned (.tuple #[.int .i64 (wd n), .int .i64 0]) ∧ w = w' := by
  have H0 := Lib.hid (show (decide (41317 ≤ n) && decide (n ≤ 88068)) = true by simp [h])
  have HC := Lib.hid (weekday_any n w (by omega))
  clear h
  go_enter Tryz.func23, Tryz.ntmps23
  go_wp2_with (first | (go_at_call 79; refine (isDay_any _ _).mono ?_; rintro e w' ⟨rfl, rfl⟩; rw [H0.out]) | (go_at_call 80; refine HC.out.mono ?_; rintro e w' ⟨rfl, rfl⟩))
  go_ret2
  exact ⟨rfl, rfl⟩
theorem Weekday_no (n : Int) (w : World) (h : (decide (41317 ≤ n) && decide (n ≤ 88068)) = false) :
    Calls Tryz.prog 23 #[.int .i64 n] w fun e w' => e = .returned (.tuple #[.int .i64 0, .int .i64 6]) ∧ w = w' := by
  have H0 := Lib.hid h
  clear h
  go_enter Tryz.func23, Tryz.ntmps23
  go_wp2_with (go_at_call 79; refine (isDay_any _ _).mono ?_; rintro e w' ⟨rfl, rfl⟩; rw [H0.out])
  go_ret2
  exact ⟨rfl, rfl⟩
theorem Week_ok (n : Int) (w : World) (h : 41317 ≤ n ∧ n ≤ 88068) :
    Calls Tryz.prog 24 #[.int .i64 n] w fun e w' => e = .returned (.tuple #[.int .i64 (weekY n), .int .i64 (weekN n), .int .i64 0]) ∧ w = w' := by
  have H0 := Lib.hid (show (decide (41317 ≤ n) && decide (n ≤ 88068)) = true by simp [h])
  have HC := Lib.hid (weekday_any n w (by omega))
  have hwb := wd_bd n
  have htb := thu_bd n
  have hyb := weekY_bd n h
  have hsp := yr_spec (thu n)
  have h12 := cm_le (weekY n) 12 (by decide)
  have hns := ny_succ (weekY n)
  have k1 : IntKind.i64.wrap (n - wd n) = n - wd n := IntWalk.i64_in _ (by omega)
  have k2 : IntKind.i64.wrap (n - wd n + 4) = n - wd n + 4 := IntWalk.i64_in _ (by omega)
  have HY := Lib.hid (yearOf_any (n - wd n + 4) w (by unfold thu at htb; omega))
  rw [show yr (n - wd n + 4) = weekY n from rfl] at HY
  have HNY := Lib.hid (newYear_any (weekY n) w (by omega))
  change ny (weekY n) ≤ thu n ∧ thu n < ny (weekY n + 1) at hsp
  have hnn : 0 ≤ n - wd n + 4 - ny (weekY n) ∧ n - wd n + 4 - ny (weekY n) ≤ 366 := by
    have : n - wd n + 4 = thu n := rfl
    omega
  have k3 : IntKind.i64.wrap (n - wd n + 4 - ny (weekY n)) = n - wd n + 4 - ny (weekY n) := IntWalk.i64_in _ (by omega)
  have HW := Lib.hid (show (n - wd n + 4 - ny (weekY n)) / 7 + 1 = weekN n from rfl)
  generalize ny (weekY n) = nw at *
  generalize weekY n = yw at *
  generalize wd n = wn at *
  clear hsp hns h12 hyb htb hwb
  go_enter Tryz.func24, Tryz.ntmps24
  go_wp2_with (first | (go_at_call 79; refine (isDay_any _ _).mono ?_; rintro e w' ⟨rfl, rfl⟩; rw [H0.out]) | (go_at_call 80; refine HC.out.mono ?_; rintro e w' ⟨rfl, rfl⟩) | (go_at_call 81; refine HY.out.mono ?_; rintro e w' ⟨rfl, rfl⟩) | (go_at_call 69; refine HNY.out.mono ?_; rintro e w' ⟨rfl, rfl⟩))
  exact bodyPost_ret (v := .tuple #[.int .i64 yw, .int .i64 ((n - wn + 4 - nw) / 7 + 1), .int .i64 0]) (by simp [results, Tryz.results24, go_sem]) rfl ⟨by rw [HW.out], rfl⟩
theorem Week_no (n : Int) (w : World) (h : (decide (41317 ≤ n) && decide (n ≤ 88068)) = false) :
    Calls Tryz.prog 24 #[.int .i64 n] w fun e w' => e = .returned (.tuple #[.int .i64 0, .int .i64 0, .int .i64 6]) ∧ w = w' := by
  have H0 := Lib.hid h
  clear h
  go_enter Tryz.func24, Tryz.ntmps24
  go_wp2_with (go_at_call 79; refine (isDay_any _ _).mono ?_; rintro e w' ⟨rfl, rfl⟩; rw [H0.out])
  exact bodyPost_ret (v := .tuple #[.int .i64 0, .int .i64 0, .int .i64 6]) (by simp [results, Tryz.results24, go_sem]) rfl ⟨rfl, rfl⟩
theorem Day_ok {y : Int} {m : Nat} {d : Int} (w : World) (hw : Mon w) (h : IsDate y m d) :
    Calls Tryz.prog 13 #[.int .i64 y, .int .i64 (m : Int), .int .i64 d] w fun e w' => e = .returned (.tuple #[.int .i64 (dayN y m d), .int .i64 0]) ∧ w = w' := by
  have hy1 := h.y1
  have hy2 := h.y2
  have hd1 := h.d1
  have hm1 := h.m1
  have hm2 := h.m2
  have hdb := dm_bd y m
  have hd2 := h.d2
  have hd3 : d ≤ 31 := by omega
  have hnyb := ny_bd y ⟨hy1, hy2⟩
  have H1 := Lib.hid (show (decide (1972 ≤ y) && decide (y ≤ 2099)) = true by simp; omega)
  have H2 := Lib.hid (show (decide ((1 : Int) ≤ m) && decide ((m : Int) ≤ 12)) = true by simp; omega)
  have H3 := Lib.hid (show (decide (1 ≤ d) && decide (d ≤ dm y m)) = true by simp; omega)
  have HM := Lib.hid (fun k : Nat => fun h1 h2 => monthDays_any y k w hw (by omega) h1 h2)
  have HNY := Lib.hid (newYear_any y w (by omega))
  have hdm := Lib.hid (And.intro hm1 hm2)
  have h12 := cm_nonneg y 12
  have k1 : IntKind.i64.wrap (ny y + d) = ny y + d := IntWalk.i64_in _ (by omega)
  have k2 : IntKind.i64.wrap (ny y + d - 1) = ny y + d - 1 := IntWalk.i64_in _ (by omega)
  clear h hw hd2 hm1
  go_enter Tryz.func13, Tryz.ntmps13
  go_wp2_with (first | (go_at_call 67; refine (within_any _ _ _ _).mono ?_; rintro e w' ⟨rfl, rfl⟩; first | rw [H1.out] | rw [H2.out] | rw [H3.out]) | (go_at_call 68; refine (HM.out _ hdm.out.1 hdm.out.2).mono ?_; rintro e w' ⟨rfl, rfl⟩) | (go_at_call 69; refine HNY.out.mono ?_; rintro e w' ⟨rfl, rfl⟩))
  go_loop [8, 9] (fun s8 s9 => ∃ k : Nat, 1 ≤ k ∧ k ≤ m ∧ s8 = .int .i64 (ny y + d - 1 + cm y (k - 1)) ∧ s9 = .int .i64 (k : Int)) (fun _ s => 13 - (intOf s).toNat)
  case atStart => exact ⟨1, by omega, hdm.out.1, by simp [cm], rfl⟩
  case round =>
    obtain ⟨k, hk1, hk2, rfl, rfl⟩ := hrel
    have hmb := cm_le y (k - 1) (by omega)
    have hmn := cm_nonneg y (k - 1)
    have hkb := dm_bd y k
    have vk : IntKind.i64.wrap ((k : Int) + 1) = (k : Int) + 1 := IntWalk.i64_in _ (by omega)
    have va : IntKind.i64.wrap (ny y + d - 1 + cm y (k - 1) + dm y k) = ny y + d - 1 + cm y (k - 1) + dm y k := IntWalk.i64_in _ (by omega)
    by_cases hlt : k < m
    · have hki : (k : Int) < m := by omega
      have HMD := Lib.hid (HM.out k hk1 (by omega))
      have HE := Lib.hid (show ny y + d - 1 + cm y (k - 1) + dm y k = ny y + d - 1 + cm y (k + 1 - 1) by have := cm_pred y k hk1; rw [Nat.add_sub_cancel]; omega)
      have HK := Lib.hid (And.intro hlt hk1)
      clear hlt hk1 hk2
      generalize dm y (k : Int) = dd at *
      generalize cm y (k - 1) = cc at *
      go_wp2_with (go_at_call 68; refine HMD.out.mono ?_; rintro e w' ⟨rfl, rfl⟩)
      go_round
      case rel => exact ⟨k + 1, by omega, HK.out.1, by rw [HE.out], by simp⟩
      case measure => have := HK.out; simp [intOf]; omega
    · obtain rfl : k = m := by omega
      have hki : ¬ ((k : Int) < k) := by omega
      have HE := Lib.hid (show ny y + d - 1 + cm y (k - 1) = dayN y k d by unfold dayN; omega)
      clear hlt hk1 hk2 va
      generalize cm y (k - 1) = cc at *
      go_wp2_with fail
      go_ret2
      exact ⟨congrArg (fun z => Ending.returned (.tuple #[.int .i64 z, .int .i64 0])) HE.out, rfl⟩
theorem Day_no (y m d : Int) (w : World) (hw : Mon w) (h : okDate y m d = false) :
    Calls Tryz.prog 13 #[.int .i64 y, .int .i64 m, .int .i64 d] w fun e w' => e = .returned (.tuple #[.int .i64 0, .int .i64 90]) ∧ w = w' := by
  unfold okDate at h
  cases h1 : (decide (1972 ≤ y) && decide (y ≤ 2099))
  · have H1 := Lib.hid h1
    clear h h1
    go_enter Tryz.func13, Tryz.ntmps13
    go_wp2_with (go_at_call 67; refine (within_any _ _ _ _).mono ?_; rintro e w' ⟨rfl, rfl⟩; rw [H1.out])
    go_ret2
    exact ⟨rfl, rfl⟩
  · cases h2 : (decide (1 ≤ m) && decide (m ≤ 12))
    · have H1 := Lib.hid h1
      have H2 := Lib.hid h2
      clear h h1 h2
      go_enter Tryz.func13, Tryz.ntmps13
      go_wp2_with (go_at_call 67; refine (within_any _ _ _ _).mono ?_; rintro e w' ⟨rfl, rfl⟩; first | rw [H1.out] | rw [H2.out])
      go_ret2
      exact ⟨rfl, rfl⟩
    · rw [h1, h2] at h
      simp only [Bool.true_and] at h
      have hm : m = ((m.toNat : Nat) : Int) := by simp at h2; omega
      have hmb : 1 ≤ m.toNat ∧ m.toNat ≤ 12 := by simp at h2; omega
      have hy0 : 0 ≤ y := by simp at h1; omega
      generalize m.toNat = k at hm hmb
      subst hm
      have H1 := Lib.hid h1
      have H2 := Lib.hid h2
      have H3 := Lib.hid h
      have HM := Lib.hid (monthDays_any y k w hw hy0 hmb.1 hmb.2)
      clear h h1 h2 hw hmb hy0
      go_enter Tryz.func13, Tryz.ntmps13
      go_wp2_with (first | (go_at_call 67; refine (within_any _ _ _ _).mono ?_; rintro e w' ⟨rfl, rfl⟩; first | rw [H1.out] | rw [H2.out] | rw [H3.out]) | (go_at_call 68; refine HM.out.mono ?_; rintro e w' ⟨rfl, rfl⟩))
      go_ret2
      exact ⟨rfl, rfl⟩
end Go.Proofs.YtgnfaemnehmgcaaGreatDoor.Cal
namespace Go.Proofs.YtgnfaemnehmgcaaGreatDoor.Cal
open Go Go.RowKit
attribute [local go_sem] Oper.semAt_some
theorem month_any (y : Int) (m : Nat) (w : World) (hy : 0 ≤ y) :
    Calls Tryz.prog 91 #[.int .i64 y, .int .i64 (m : Int)] w fun e w' => e = .returned (.int .i64 (dm y m)) ∧ w = w' := by
  by_cases e2 : (m : Int) = 2
  · obtain rfl : m = 2 := by omega
    by_cases e4 : y % 4 = 0
    · have H := Lib.hid (show 29 = dm y ((2 : Nat) : Int) by unfold dm; rw [if_pos ⟨by decide, e4⟩])
      go_enter Tryz.func91, Tryz.ntmps91
      go_wp2
      go_ret
      exact ⟨ret_i64 H.out, rfl⟩
    · have H := Lib.hid (show 28 = dm y ((2 : Nat) : Int) by unfold dm mon; rw [if_neg (by omega), if_pos (by decide)])
      go_enter Tryz.func91, Tryz.ntmps91
      go_wp2
      go_ret
      exact ⟨ret_i64 H.out, rfl⟩
  · have k2 : ((m : Int) == 2) = false := by simp; omega
    by_cases e4 : (m : Int) = 4
    · have H := Lib.hid (show 30 = dm y (m : Int) by unfold dm mon; rw [if_neg (by omega), if_neg e2, if_pos (by omega)])
      have k4 : ((m : Int) == 4) = true := by simp; omega
      clear e2 e4
      go_enter Tryz.func91, Tryz.ntmps91
      go_wp2
      go_ret
      exact ⟨ret_i64 H.out, rfl⟩
    · have k4 : ((m : Int) == 4) = false := by simp; omega
      by_cases e6 : (m : Int) = 6
      · have H := Lib.hid (show 30 = dm y (m : Int) by unfold dm mon; rw [if_neg (by omega), if_neg e2, if_pos (by omega)])
        have k6 : ((m : Int) == 6) = true := by simp; omega
        clear e2 e4 e6
        go_enter Tryz.func91, Tryz.ntmps91
        go_wp2
        go_ret
        exact ⟨ret_i64 H.out, rfl⟩
      · have k6 : ((m : Int) == 6) = false := by simp; omega
        by_cases e9 : (m : Int) = 9
        · have H := Lib.hid (show 30 = dm y (m : Int) by unfold dm mon; rw [if_neg (by omega), if_neg e2, if_pos (by omega)])
          have k9 : ((m : Int) == 9) = true := by simp; omega
          clear e2 e4 e6 e9
          go_enter Tryz.func91, Tryz.ntmps91
          go_wp2
          go_ret
          exact ⟨ret_i64 H.out, rfl⟩
        · have k9 : ((m : Int) == 9) = false := by simp; omega
          by_cases e11 : (m : Int) = 11
          · have H := Lib.hid (show 30 = dm y (m : Int) by unfold dm mon; rw [if_neg (by omega), if_neg e2, if_pos (by omega)])
            have k11 : ((m : Int) == 11) = true := by simp; omega
            clear e2 e4 e6 e9 e11
            go_enter Tryz.func91, Tryz.ntmps91
            go_wp2
            go_ret
            exact ⟨ret_i64 H.out, rfl⟩
          · have H := Lib.hid (show 31 = dm y (m : Int) by unfold dm mon; rw [if_neg (by omega), if_neg e2, if_neg (by omega)])
            have k11 : ((m : Int) == 11) = false := by simp; omega
            clear e2 e4 e6 e9 e11
            go_enter Tryz.func91, Tryz.ntmps91
            go_wp2
            go_ret
            exact ⟨ret_i64 H.out, rfl⟩
theorem rDay_ok {y : Int} {m : Nat} {d : Int} (w : World) (h : IsDate y m d) :
    Calls Tryz.prog 32 #[.int .i64 y, .int .i64 (m : Int), .int .i64 d] w fun e w' => e = .returned (.tuple #[.int .i64 (dayN y m d), .int .i64 0]) ∧ w = w' := by
  have hy1 := h.y1
  have hy2 := h.y2
  have hd1 := h.d1
  have hm1 := h.m1
  have hm2 := h.m2
  have hdb := dm_bd y m
  have hd2 := h.d2
  have hd3 : d ≤ 31 := by omega
  have H1 := Lib.hid (show (decide (1972 ≤ y) && decide (y ≤ 2099)) = true by simp; omega)
  have H2 := Lib.hid (show (decide ((1 : Int) ≤ m) && decide ((m : Int) ≤ 12)) = true by simp; omega)
  have H3 := Lib.hid (show (decide (1 ≤ d) && decide (d ≤ dm y m)) = true by simp; omega)
  have HM := Lib.hid (fun (yy : Int) (k : Nat) (W : World) => fun h1 => month_any yy k W h1)
  have hdm := Lib.hid (And.intro hm1 hm2)
  clear h hd2 hm1
  go_enter Tryz.func32, Tryz.ntmps32
  go_wp2_with (first | (go_at_call 90; refine (in_any _ _ _ _).mono ?_; rintro e w' ⟨rfl, rfl⟩; first | rw [H1.out] | rw [H2.out] | rw [H3.out]) | (go_at_call 91; refine (HM.out _ _ _ (by omega)).mono ?_; rintro e w' ⟨rfl, rfl⟩))
  go_loop [8, 9, 10] (fun s8 s9 s10 => ∃ (yy : Int) (v : Value), 1972 ≤ yy ∧ yy ≤ y ∧ s8 = .int .i64 (ny yy) ∧ s9 = .int .i64 yy ∧ s10 = v) (fun _ s _ => (2100 - intOf s).toNat)
  case atStart => exact ⟨1972, _, by omega, by omega, rfl, rfl, rfl⟩
  case round =>
    obtain ⟨yy, v, hy3, hy4, rfl, rfl, rfl⟩ := hrel
    have hyb := ny_bd yy ⟨hy3, by omega⟩
    have vy : IntKind.i64.wrap (yy + 1) = yy + 1 := IntWalk.i64_in _ (by omega)
    by_cases hlt : yy < y
    · have HK := Lib.hid hlt
      go_wp2_with fail
      go_loop [8, 10] (fun s8 s10 => ∃ k : Nat, 1 ≤ k ∧ k ≤ 13 ∧ s8 = .int .i64 (ny yy + cm yy (k - 1)) ∧ s10 = .int .i64 (k : Int)) (fun _ s => 13 - (intOf s).toNat)
      case atStart => exact ⟨1, by omega, by omega, by simp [cm], rfl⟩
      case round =>
        obtain ⟨k, hk1, hk2, rfl, rfl⟩ := hrel
        have hmb := cm_le yy (k - 1) (by omega)
        have hmn := cm_nonneg yy (k - 1)
        have h12 := cm_nonneg yy 12
        have hkb := dm_bd yy k
        have vk : IntKind.i64.wrap ((k : Int) + 1) = (k : Int) + 1 := IntWalk.i64_in _ (by omega)
        have va : IntKind.i64.wrap (ny yy + cm yy (k - 1) + dm yy k) = ny yy + cm yy (k - 1) + dm yy k := IntWalk.i64_in _ (by omega)
        by_cases hk3 : k ≤ 12
        · have hki : (k : Int) ≤ 12 := by omega
          have HE := Lib.hid (show ny yy + cm yy (k - 1) + dm yy k = ny yy + cm yy (k + 1 - 1) by have := cm_pred yy k hk1; rw [Nat.add_sub_cancel]; omega)
          have HKK := Lib.hid (And.intro hk3 hk1)
          have HMM := Lib.hid (HM.out yy k)
          clear hk1 hk2 hk3
          generalize dm yy (k : Int) = dd at *
          generalize cm yy (k - 1) = cc at *
          go_wp2_with (go_at_call 91; refine (HMM.out _ (by omega)).mono ?_; rintro e w' ⟨rfl, rfl⟩)
          go_round
          case rel => exact ⟨k + 1, by omega, by have := HKK.out; omega, by rw [HE.out], by simp⟩
          case measure => have := HKK.out; simp [intOf]; omega
        · obtain rfl : k = 13 := by omega
          have HE := Lib.hid (show ny yy + cm yy (13 - 1) = ny (yy + 1) from (ny_succ yy).symm)
          clear hk1 hk2 hk3 vk va
          generalize cm yy (13 - 1) = cc at *
          go_wp2_with fail
          go_round
          case rel => exact ⟨yy + 1, _, by omega, by have := HK.out; omega, by rw [HE.out], rfl, rfl⟩
          case measure => have := HK.out; simp [intOf]; omega
    · obtain rfl : yy = y := by omega
      clear hlt vy
      have k0 : ¬ yy < yy := by omega
      go_wp2_with fail
      go_loop [8, 11] (fun s8 s9 => ∃ k : Nat, 1 ≤ k ∧ k ≤ m ∧ s8 = .int .i64 (ny yy + cm yy (k - 1)) ∧ s9 = .int .i64 (k : Int)) (fun _ s => 13 - (intOf s).toNat)
      case atStart => exact ⟨1, by omega, hdm.out.1, by simp [cm], rfl⟩
      case round =>
        obtain ⟨k, hk1, hk2, rfl, rfl⟩ := hrel
        have hmb := cm_le yy (k - 1) (by omega)
        have hmn := cm_nonneg yy (k - 1)
        have h12 := cm_nonneg yy 12
        have hkb := dm_bd yy k
        have vk : IntKind.i64.wrap ((k : Int) + 1) = (k : Int) + 1 := IntWalk.i64_in _ (by omega)
        have va : IntKind.i64.wrap (ny yy + cm yy (k - 1) + dm yy k) = ny yy + cm yy (k - 1) + dm yy k := IntWalk.i64_in _ (by omega)
        have vb : IntKind.i64.wrap (ny yy + cm yy (k - 1) + d) = ny yy + cm yy (k - 1) + d := IntWalk.i64_in _ (by omega)
        have vc : IntKind.i64.wrap (ny yy + cm yy (k - 1) + d - 1) = ny yy + cm yy (k - 1) + d - 1 := IntWalk.i64_in _ (by omega)
        by_cases hlt : k < m
        · have hki : (k : Int) < m := by omega
          have HMD := Lib.hid (HM.out yy k)
          have HE := Lib.hid (show ny yy + cm yy (k - 1) + dm yy k = ny yy + cm yy (k + 1 - 1) by have := cm_pred yy k hk1; rw [Nat.add_sub_cancel]; omega)
          have HK := Lib.hid (And.intro hlt hk1)
          clear hlt hk1 hk2 vb vc
          generalize dm yy (k : Int) = dd at *
          generalize cm yy (k - 1) = cc at *
          go_wp2_with (go_at_call 91; refine (HMD.out _ (by omega)).mono ?_; rintro e w' ⟨rfl, rfl⟩)
          go_round
          case rel => exact ⟨k + 1, by omega, HK.out.1, by rw [HE.out], by simp⟩
          case measure => have := HK.out; simp [intOf]; omega
        · obtain rfl : k = m := by omega
          have hki : ¬ ((k : Int) < k) := by omega
          have HE := Lib.hid (show ny yy + cm yy (k - 1) + d - 1 = dayN yy k d from rfl)
          clear hlt hk1 hk2 va
          generalize cm yy (k - 1) = cc at *
          go_wp2_with fail
          go_ret2
          exact ⟨congrArg (fun z => Ending.returned (.tuple #[.int .i64 z, .int .i64 0])) HE.out, rfl⟩
theorem rDay_no (y m d : Int) (w : World) (h : okDate y m d = false) :
    Calls Tryz.prog 32 #[.int .i64 y, .int .i64 m, .int .i64 d] w fun e w' => e = .returned (.tuple #[.int .i64 0, .int .i64 90]) ∧ w = w' := by
  unfold okDate at h
  cases h1 : (decide (1972 ≤ y) && decide (y ≤ 2099))
  · have H1 := Lib.hid h1
    clear h h1
    go_enter Tryz.func32, Tryz.ntmps32
    go_wp2_with (go_at_call 90; refine (in_any _ _ _ _).mono ?_; rintro e w' ⟨rfl, rfl⟩; rw [H1.out])
    go_ret2
    exact ⟨rfl, rfl⟩
  · cases h2 : (decide (1 ≤ m) && decide (m ≤ 12))
    · have H1 := Lib.hid h1
      have H2 := Lib.hid h2
      clear h h1 h2
      go_enter Tryz.func32, Tryz.ntmps32
      go_wp2_with (go_at_call 90; refine (in_any _ _ _ _).mono ?_; rintro e w' ⟨rfl, rfl⟩; first | rw [H1.out] | rw [H2.out])
      go_ret2
      exact ⟨rfl, rfl⟩
    · rw [h1, h2] at h
      simp only [Bool.true_and] at h
      have hm : m = ((m.toNat : Nat) : Int) := by simp at h2; omega
      have hy0 : 0 ≤ y := by simp at h1; omega
      generalize m.toNat = k at hm
      subst hm
      have H1 := Lib.hid h1
      have H2 := Lib.hid h2
      have H3 := Lib.hid h
      have HM := Lib.hid (month_any y k w hy0)
      clear h h1 h2 hy0
      go_enter Tryz.func32, Tryz.ntmps32
      go_wp2_with (first | (go_at_call 90; refine (in_any _ _ _ _).mono ?_; rintro e w' ⟨rfl, rfl⟩; first | rw [H1.out] | rw [H2.out] | rw [H3.out]) | (go_at_call 91; refine HM.out.mono ?_; rintro e w' ⟨rfl, rfl⟩))
      go_ret2
      exact ⟨rfl, rfl⟩
theorem rCivil_ok {n y : Int} {m : Nat} {d : Int} (w : World) (h : IsCiv n y m d) :
    Calls Tryz.prog 29 #[.int .i64 n] w fun e w' => e = .returned (.tuple #[.int .i64 y, .int .i64 (m : Int), .int .i64 d, .int .i64 0]) ∧ w = w' := by
  have hnb := h.n_bd
  have hy1 := h.y1
  have hy2 := h.y2
  have hm2 := h.m2
  have hm1 := h.m1
  have HCI := Lib.hid h
  have H0 := Lib.hid (show (decide (41317 ≤ n) && decide (n ≤ 88068)) = true by simp [h.n_bd])
  have k0 : IntKind.i64.wrap (n - 41317) = n - 41317 := IntWalk.i64_in _ (by omega)
  clear h
  go_enter Tryz.func29, Tryz.ntmps29
  go_wp2_with (go_at_call 90; refine (in_any _ _ _ _).mono ?_; rintro e w' ⟨rfl, rfl⟩; rw [H0.out])
  go_loop [6, 7, 8] (fun s6 s7 s8 => ∃ (yy : Int) (k : Nat), 1972 ≤ yy ∧ 1 ≤ k ∧ k ≤ 12 ∧ 12 * yy + k ≤ 12 * y + m ∧ s6 = .int .i64 (n - (ny yy + cm yy (k - 1))) ∧ s7 = .int .i64 yy ∧ s8 = .int .i64 (k : Int)) (fun _ s7 s8 => (40000 - (12 * intOf s7 + intOf s8)).toNat)
  case atStart => exact ⟨1972, 1, by omega, by omega, by omega, by omega, by simp [cm, ny], rfl, rfl⟩
  case round =>
    obtain ⟨yy, k, hy3, hk1, hk2, hpos, rfl, rfl, rfl⟩ := hrel
    have hmb := cm_le yy (k - 1) (by omega)
    have hmn := cm_nonneg yy (k - 1)
    have hkb := dm_bd yy k
    have hyb := ny_bd yy ⟨hy3, by omega⟩
    have h12 := cm_nonneg yy 12
    have vk : IntKind.i64.wrap ((k : Int) + 1) = (k : Int) + 1 := IntWalk.i64_in _ (by omega)
    have vy : IntKind.i64.wrap (yy + 1) = yy + 1 := IntWalk.i64_in _ (by omega)
    have va : IntKind.i64.wrap (n - (ny yy + cm yy (k - 1)) - dm yy k) = n - (ny yy + cm yy (k - 1)) - dm yy k := IntWalk.i64_in _ (by omega)
    have vb : IntKind.i64.wrap (n - (ny yy + cm yy (k - 1)) + 1) = n - (ny yy + cm yy (k - 1)) + 1 := IntWalk.i64_in _ (by omega)
    have HMD := Lib.hid (month_any yy k w (by omega))
    by_cases hlt : 12 * yy + k < 12 * y + m
    · have hle := HCI.out.on (yy := yy) (k := k) ⟨hk1, hk2⟩ hlt
      by_cases hk12 : k = 12
      · subst hk12
        have HE := Lib.hid (show n - (ny yy + cm yy (12 - 1)) - dm yy ((12 : Nat) : Int) = n - (ny (yy + 1) + cm (yy + 1) (1 - 1)) by have e1 := cm_pred yy 12 (by decide); have e2 := ny_succ yy; have e3 : cm (yy + 1) (1 - 1) = 0 := rfl; omega)
        have HK := Lib.hid hlt
        clear hlt hpos vk
        generalize dm yy ((12 : Nat) : Int) = dd at *
        generalize cm yy (12 - 1) = cc at *
        go_wp2_with (go_at_call 91; refine HMD.out.mono ?_; rintro e w' ⟨rfl, rfl⟩)
        go_round
        case rel => exact ⟨yy + 1, 1, by omega, by omega, by omega, by have := HK.out; omega, by rw [HE.out], rfl, rfl⟩
        case measure => have := HK.out; simp [intOf]; omega
      · have k13 : (((k + 1 : Nat) : Int) == 13) = false := by simp; omega
        have k13' : ((k : Int) + 1 == 13) = false := by simp; omega
        have k13n : ¬ (k : Int) = 12 := by omega
        have HE := Lib.hid (show n - (ny yy + cm yy (k - 1)) - dm yy k = n - (ny yy + cm yy (k + 1 - 1)) by have := cm_pred yy k hk1; rw [Nat.add_sub_cancel]; omega)
        have HK := Lib.hid (And.intro hlt (And.intro hk1 (And.intro hk2 hk12)))
        clear hlt hpos hk1 hk2 hk12
        generalize dm yy (k : Int) = dd at *
        generalize cm yy (k - 1) = cc at *
        go_wp2_with (go_at_call 91; refine HMD.out.mono ?_; rintro e w' ⟨rfl, rfl⟩)
        go_round
        case rel => exact ⟨yy, k + 1, by omega, by omega, by have := HK.out; omega, by have := HK.out; omega, by rw [HE.out], rfl, by simp⟩
        case measure => have := HK.out; simp [intOf]; omega
    · have e1 : yy = y := by omega
      subst e1
      obtain rfl : k = m := by omega
      have hle := HCI.out.off
      have HE := Lib.hid HCI.out.rest
      clear hlt hpos hk1 hk2 hm1 hm2
      generalize dm yy (k : Int) = dd at *
      generalize cm yy (k - 1) = cc at *
      go_wp2_with (go_at_call 91; refine HMD.out.mono ?_; rintro e w' ⟨rfl, rfl⟩)
      exact bodyPost_ret (v := .tuple #[.int .i64 yy, .int .i64 (k : Int), .int .i64 (n - (ny yy + cc) + 1), .int .i64 0]) (by simp [results, Tryz.results29, go_sem]) rfl ⟨by rw [HE.out], rfl⟩
theorem rCivil_no (n : Int) (w : World) (h : (decide (41317 ≤ n) && decide (n ≤ 88068)) = false) :
    Calls Tryz.prog 29 #[.int .i64 n] w fun e w' => e = .returned (.tuple #[.int .i64 0, .int .i64 0, .int .i64 0, .int .i64 6]) ∧ w = w' := by
  have H0 := Lib.hid h
  clear h
  go_enter Tryz.func29, Tryz.ntmps29
  go_wp2_with (go_at_call 90; refine (in_any _ _ _ _).mono ?_; rintro e w' ⟨rfl, rfl⟩; rw [H0.out])
  exact bodyPost_ret (v := .tuple #[.int .i64 0, .int .i64 0, .int .i64 0, .int .i64 6]) (by simp [results, Tryz.results29, go_sem]) rfl ⟨rfl, rfl⟩
theorem rWeekday_ok (n : Int) (w : World) (h : 41317 ≤ n ∧ n ≤ 88068) :
    Calls Tryz.prog 30 #[.int .i64 n] w fun e w' => e = .returned (.tuple #[.int .i64 (wd n), .int .i64 0]) ∧ w = w' := by
  have H0 := Lib.hid (show (decide (41317 ≤ n) && decide (n ≤ 88068)) = true by simp [h])
  have k1 : IntKind.i64.wrap (n - 41317) = n - 41317 := IntWalk.i64_in _ (by omega)
  have k2 : IntKind.i64.wrap (n - 41317 + 6) = n - 41317 + 6 := IntWalk.i64_in _ (by omega)
  obtain ⟨v, hv⟩ : ∃ v, (n - 41317 + 6).tmod 7 = v := ⟨_, rfl⟩
  have hv2 : v = (n - 41317 + 6) % 7 := by rw [← hv]; exact Int.tmod_eq_emod_of_nonneg (by omega)
  have hv3 : IntKind.i64.wrap v = v := IntWalk.i64_in _ (by omega)
  by_cases e : v = 0
  · subst e
    have H := Lib.hid (show 7 = wd n by unfold wd; omega)
    clear h hv2
    go_enter Tryz.func30, Tryz.ntmps30
    go_wp2_with (go_at_call 90; refine (in_any _ _ _ _).mono ?_; rintro e w' ⟨rfl, rfl⟩; rw [H0.out])
    go_ret2
    exact ⟨congrArg (fun z => Ending.returned (.tuple #[.int .i64 z, .int .i64 0])) H.out, rfl⟩
  · have H := Lib.hid (show v = wd n by unfold wd; omega)
    have k3 : (v == 0) = false := by simp; omega
    clear h hv2 e
    go_enter Tryz.func30, Tryz.ntmps30
    go_wp2_with (go_at_call 90; refine (in_any _ _ _ _).mono ?_; rintro e w' ⟨rfl, rfl⟩; rw [H0.out])
    go_ret2
    exact ⟨congrArg (fun z => Ending.returned (.tuple #[.int .i64 z, .int .i64 0])) H.out, rfl⟩
theorem rWeekday_no (n : Int) (w : World) (h : (decide (41317 ≤ n) && decide (n ≤ 88068)) = false) :
    Calls Tryz.prog 30 #[.int .i64 n] w fun e w' => e = .returned (.tuple #[.int .i64 0, .int .i64 6]) ∧ w = w' := by
  have H0 := Lib.hid h
  clear h
  go_enter Tryz.func30, Tryz.ntmps30
  go_wp2_with (go_at_call 90; refine (in_any _ _ _ _).mono ?_; rintro e w' ⟨rfl, rfl⟩; rw [H0.out])
  go_ret2
  exact ⟨rfl, rfl⟩
theorem rWeek_no (n : Int) (w : World) (h : (decide (41317 ≤ n) && decide (n ≤ 88068)) = false) :
    Calls Tryz.prog 31 #[.int .i64 n] w fun e w' => e = .returned (.tuple #[.int .i64 0, .int .i64 0, .int .i64 6]) ∧ w = w' := by
  have H0 := Lib.hid (rWeekday_no n w h)
  clear h
  go_enter Tryz.func31, Tryz.ntmps31
  go_wp2_with (go_at_call 30; refine H0.out.mono ?_; rintro e w' ⟨rfl, rfl⟩)
  exact bodyPost_ret (v := .tuple #[.int .i64 0, .int .i64 0, .int .i64 6]) (by simp [results, Tryz.results31, go_sem]) rfl ⟨rfl, rfl⟩
set_option maxHeartbeats 1000000 in
theorem rWeek_ok (n : Int) (w : World) (h : 41317 ≤ n ∧ n ≤ 88068) :
    Calls Tryz.prog 31 #[.int .i64 n] w fun e w' => e = .returned (.tuple #[.int .i64 (weekY n), .int .i64 (weekN n), .int .i64 0]) ∧ w = w' := by
  obtain ⟨yc, mc, dc, hciv⟩ := civ_exists n h
  have H0 := Lib.hid (rWeekday_ok n w h)
  have HCV := Lib.hid (rCivil_ok w hciv)
  have hyc1 := hciv.y1
  have hyc2 := hciv.y2
  have hyr := hciv.yr_
  have hwy := weekY_bd n h
  rw [hyr] at hwy
  have hwd := wd_bd n
  have vyc : IntKind.i64.wrap (yc + 1) = yc + 1 := IntWalk.i64_in _ (by omega)
  have HN := Lib.hid h
  clear h hciv hyr
  go_enter Tryz.func31, Tryz.ntmps31
  go_wp2_with (first | (go_at_call 30; refine H0.out.mono ?_; rintro e w' ⟨rfl, rfl⟩) | (go_at_call 29; refine HCV.out.mono ?_; rintro e w' ⟨rfl, rfl⟩))
  go_loop [2, 3, 4, 11, 12, 13, 14, 15, 16] (fun s2 s3 s4 s11 s12 s13 s14 s15 s16 => ∃ (y : Int) (a12 a13 a14 a15 a16 : Value), 1971 ≤ y ∧ y ≤ 2100 ∧ weekY n ≤ y ∧ s2 = .int .i64 0 ∧ s3 = .int .i64 0 ∧ s4 = .int .i64 0 ∧ s11 = .int .i64 y ∧ s12 = a12 ∧ s13 = a13 ∧ s14 = a14 ∧ s15 = a15 ∧ s16 = a16) (fun _ _ _ s _ _ _ _ _ => (intOf s).toNat)
  case atStart => exact ⟨yc + 1, _, _, _, _, _, by omega, by omega, by omega, rfl, rfl, rfl, rfl, rfl, rfl, rfl, rfl, rfl⟩
  case round =>
    obtain ⟨y, a12, a13, a14, a15, a16, hy1, hy2, hyw, rfl, rfl, rfl, rfl, rfl, rfl, rfl, rfl, rfl⟩ := hrel
    by_cases h71 : 1972 ≤ y
    · have vm : IntKind.i64.wrap (y - 1) = y - 1 := IntWalk.i64_in _ (by omega)
      by_cases h00 : y = 2100
      · subst h00
        have HD := Lib.hid (rDay_no 2100 1 4 w (by unfold okDate; simp))
        have HK := Lib.hid (show weekY n ≤ 2100 - 1 by omega)
        clear hyw hwy hwd
        go_wp2_with (go_at_call 32; refine HD.out.mono ?_; rintro e w' ⟨rfl, rfl⟩)
        go_round
        case rel => exact ⟨2099, _, _, _, _, _, by omega, by omega, by have := HK.out; omega, rfl, rfl, rfl, rfl, rfl, rfl, rfl, rfl, rfl⟩
        case measure => simp [intOf]
      · have hdt : IsDate y 1 4 := ⟨h71, by omega, by decide, by decide, by decide, by have := dm_bd y ((1 : Nat) : Int); omega⟩
        have hnyb := ny_bd y ⟨h71, by omega⟩
        have h12 := cm_twelve y
        have h365 : 365 ≤ cm y 12 := by rw [h12]; split <;> omega
        have hdy : dayN y 1 4 = ny y + 3 := by unfold dayN; simp [cm]; omega
        have hwd3 := wd_bd (ny y + 3)
        have HD := rDay_ok w hdt
        rw [hdy] at HD
        have HD := Lib.hid HD
        have HWD := Lib.hid (rWeekday_ok (ny y + 3) w (by omega))
        have v1 : IntKind.i64.wrap (ny y + 3 - wd (ny y + 3)) = ny y + 3 - wd (ny y + 3) := IntWalk.i64_in _ (by omega)
        have v2 : IntKind.i64.wrap (ny y + 3 - wd (ny y + 3) + 1) = mond y := IntWalk.i64_in _ (by omega)
        have hmb := mond_bd y
        have hnb := HN.out
        by_cases hw : mond y ≤ n
        · have HE := (mond_iff n y).1 hw
          have e : weekY n = y := by omega
          have HE2 := week_at n
          rw [e] at HE2
          have HY := Lib.hid e
          have hq : 0 ≤ n - wd n + 1 - mond y := by have h1 := (mond_le n y).1 hw; revert h1; unfold mond thu wd; omega
          have v3 : IntKind.i64.wrap (n - wd n) = n - wd n := IntWalk.i64_in _ (by omega)
          have v4 : IntKind.i64.wrap (n - wd n + 1) = n - wd n + 1 := IntWalk.i64_in _ (by omega)
          have v5 : IntKind.i64.wrap (n - wd n + 1 - mond y) = n - wd n + 1 - mond y := IntWalk.i64_in _ (by omega)
          have hq2 : n - wd n + 1 - mond y ≤ 100000 := by omega
          have HX := Lib.hid HE2
          clear HE2 HE e hyw hwy h12 hdy hdt hnyb h365
          generalize mond y = mo at *
          generalize wd (ny y + 3) = w3 at *
          generalize wd n = wn at *
          generalize ny y = nn at *
          go_wp2_with (first | (go_at_call 32; refine HD.out.mono ?_; rintro e w' ⟨rfl, rfl⟩) | (go_at_call 30; refine HWD.out.mono ?_; rintro e w' ⟨rfl, rfl⟩))
          exact bodyPost_ret (v := .tuple #[.int .i64 y, .int .i64 ((n - wn + 1 - mo) / 7 + 1), .int .i64 0]) (by simp [results, Tryz.results31, go_sem]) rfl ⟨by rw [HX.out, HY.out], rfl⟩
        · have HE : ¬ y ≤ weekY n := fun h => hw ((mond_iff n y).2 h)
          have HK := Lib.hid (show weekY n ≤ y - 1 by omega)
          clear HE hyw hwy h12 hdy hdt hnyb h365
          generalize mond y = mo at *
          generalize wd (ny y + 3) = w3 at *
          generalize wd n = wn at *
          generalize ny y = nn at *
          go_wp2_with (first | (go_at_call 32; refine HD.out.mono ?_; rintro e w' ⟨rfl, rfl⟩) | (go_at_call 30; refine HWD.out.mono ?_; rintro e w' ⟨rfl, rfl⟩))
          go_round
          case rel => exact ⟨y - 1, _, _, _, _, _, by omega, by omega, HK.out, rfl, rfl, rfl, rfl, rfl, rfl, rfl, rfl, rfl⟩
          case measure => simp [intOf]; omega
    · obtain rfl : y = 1971 := by omega
      obtain ⟨e1, e2⟩ := week_1971 n HN.out.1 (by omega)
      have HX := Lib.hid (And.intro e1 e2)
      clear e1 e2 hyw hwy hwd
      go_wp2_with fail
      exact bodyPost_ret (v := .tuple #[.int .i64 1971, .int .i64 52, .int .i64 0]) (by simp [results, Tryz.results31, go_sem]) rfl ⟨by rw [HX.out.1, HX.out.2], rfl⟩
end Go.Proofs.YtgnfaemnehmgcaaGreatDoor.Cal
namespace Go.Proofs.YtgnfaemnehmgcaaGreatDoor.Cal
open Go Go.RowKit
attribute [local go_sem] Oper.semAt_some
theorem days_any (y m d : Int) (w : World) (hw : Mon w) :
    Calls Tryz.prog 8 #[.int .i64 y, .int .i64 m, .int .i64 d] w fun e w' => e = .returned (.bool true) ∧ w = w' := by
  cases h : okDate y m d
  · have H1 := Lib.hid (Day_no y m d w hw h)
    have H2 := Lib.hid (rDay_no y m d w h)
    clear h hw
    go_enter Tryz.func8, Tryz.ntmps8
    go_wp2_with (first | (go_at_call 13; refine H1.out.mono ?_; rintro e w' ⟨rfl, rfl⟩) | (go_at_call 32; refine H2.out.mono ?_; rintro e w' ⟨rfl, rfl⟩))
    go_ret
    exact ⟨rfl, rfl⟩
  · obtain ⟨k, rfl, hd⟩ := okDate_yes h
    have H1 := Lib.hid (Day_ok w hw hd)
    have H2 := Lib.hid (rDay_ok w hd)
    clear h hw hd
    generalize dayN y k d = n at *
    go_enter Tryz.func8, Tryz.ntmps8
    go_wp2_with (first | (go_at_call 13; refine H1.out.mono ?_; rintro e w' ⟨rfl, rfl⟩) | (go_at_call 32; refine H2.out.mono ?_; rintro e w' ⟨rfl, rfl⟩))
    go_ret
    exact ⟨rfl, rfl⟩
theorem numbers_any (n : Int) (w : World) (hw : Mon w) :
    Calls Tryz.prog 7 #[.int .i64 n] w fun e w' => e = .returned (.bool true) ∧ w = w' := by
  cases h : (decide (41317 ≤ n) && decide (n ≤ 88068))
  · have H1 := Lib.hid (Civil_no n w h)
    have H2 := Lib.hid (rCivil_no n w h)
    have H3 := Lib.hid (Weekday_no n w h)
    have H4 := Lib.hid (rWeekday_no n w h)
    have H5 := Lib.hid (Week_no n w h)
    have H6 := Lib.hid (rWeek_no n w h)
    clear h hw
    go_enter Tryz.func7, Tryz.ntmps7
    go_wp2_with (first | (go_at_call 28; refine H1.out.mono ?_; rintro e w' ⟨rfl, rfl⟩) | (go_at_call 29; refine H2.out.mono ?_; rintro e w' ⟨rfl, rfl⟩) | (go_at_call 23; refine H3.out.mono ?_; rintro e w' ⟨rfl, rfl⟩) | (go_at_call 30; refine H4.out.mono ?_; rintro e w' ⟨rfl, rfl⟩) | (go_at_call 24; refine H5.out.mono ?_; rintro e w' ⟨rfl, rfl⟩) | (go_at_call 31; refine H6.out.mono ?_; rintro e w' ⟨rfl, rfl⟩))
    go_ret
    exact ⟨rfl, rfl⟩
  · have hn : 41317 ≤ n ∧ n ≤ 88068 := by simpa using h
    obtain ⟨y, m, d, hc⟩ := civ_exists n hn
    have H1 := Lib.hid (Civil_ok w hw hc)
    have H2 := Lib.hid (rCivil_ok w hc)
    have H3 := Lib.hid (Weekday_ok n w hn)
    have H4 := Lib.hid (rWeekday_ok n w hn)
    have H5 := Lib.hid (Week_ok n w hn)
    have H6 := Lib.hid (rWeek_ok n w hn)
    clear h hw hn hc
    generalize wd n = wn at *
    generalize weekY n = wy at *
    generalize weekN n = wk at *
    go_enter Tryz.func7, Tryz.ntmps7
    go_wp2_with (first | (go_at_call 28; refine H1.out.mono ?_; rintro e w' ⟨rfl, rfl⟩) | (go_at_call 29; refine H2.out.mono ?_; rintro e w' ⟨rfl, rfl⟩) | (go_at_call 23; refine H3.out.mono ?_; rintro e w' ⟨rfl, rfl⟩) | (go_at_call 30; refine H4.out.mono ?_; rintro e w' ⟨rfl, rfl⟩) | (go_at_call 24; refine H5.out.mono ?_; rintro e w' ⟨rfl, rfl⟩) | (go_at_call 31; refine H6.out.mono ?_; rintro e w' ⟨rfl, rfl⟩))
    go_ret
    exact ⟨rfl, rfl⟩
end Go.Proofs.YtgnfaemnehmgcaaGreatDoor.Cal
