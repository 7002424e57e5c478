/- Layer 9 (calendar): the program's Day, Civil, Weekday, Week. -/
import Derived.Test.YtgnfaemnehmgcaaGreatDoorQ02
namespace Go.Proofs.YtgnfaemnehmgcaaGreatDoor.Cal
open Go Go.RowKit
attribute [local go_sem] Oper.semAt_some
theorem Civil_ok {n y : Int} {m : Nat} {d : Int} (w : World) (hw : Mon w) (h : IsCiv n y m d) :
    Calls Tryz.prog 28 #[.int .i64 n] w fun e w' => e = .returned (.tuple #[.int .i64 y, .int .i64 (m : Int), .int .i64 d, .int .i64 0]) ∧ w = w' := by
  have H0 := Lib.hid (show (decide (41317 ≤ n) && decide (n ≤ 88068)) = true by simp [h.n_bd])
  have HC := Lib.hid (civil_any w hw h)
  clear h hw
  go_enter Tryz.func28, Tryz.ntmps28
  go_wp2_with (first | (go_at_call 79; refine (isDay_any _ _).mono ?_; rintro e w' ⟨rfl, rfl⟩; rw [H0.out]) | (go_at_call 89; refine HC.out.mono ?_; rintro e w' ⟨rfl, rfl⟩))
  exact bodyPost_ret (v := .tuple #[.int .i64 y, .int .i64 (m : Int), .int .i64 d, .int .i64 0]) (by simp [results, Tryz.results28, go_sem]) rfl ⟨rfl, rfl⟩
theorem Civil_no (n : Int) (w : World) (h : (decide (41317 ≤ n) && decide (n ≤ 88068)) = false) :
    Calls Tryz.prog 28 #[.int .i64 n] w fun e w' => e = .returned (.tuple #[.int .i64 0, .int .i64 0, .int .i64 0, .int .i64 6]) ∧ w = w' := by
  have H0 := Lib.hid h
  clear h
  go_enter Tryz.func28, Tryz.ntmps28
  go_wp2_with (go_at_call 79; refine (isDay_any _ _).mono ?_; rintro e w' ⟨rfl, rfl⟩; rw [H0.out])
  exact bodyPost_ret (v := .tuple #[.int .i64 0, .int .i64 0, .int .i64 0, .int .i64 6]) (by simp [results, Tryz.results28, go_sem]) rfl ⟨rfl, rfl⟩
theorem Weekday_ok (n : Int) (w : World) (h : 41317 ≤ n ∧ n ≤ 88068) :
    Calls Tryz.prog 23 #[.int .i64 n] w fun e w' => e = .returned (.tuple #[.int .i64 (wd n), .int .i64 0]) ∧ w = w' := by
  have H0 := Lib.hid (show (decide (41317 ≤ n) && decide (n ≤ 88068)) = true by simp [h])
  have HC := Lib.hid (weekday_any n w (by omega))
  clear h
  go_enter Tryz.func23, Tryz.ntmps23
  go_wp2_with (first | (go_at_call 79; refine (isDay_any _ _).mono ?_; rintro e w' ⟨rfl, rfl⟩; rw [H0.out]) | (go_at_call 80; refine HC.out.mono ?_; rintro e w' ⟨rfl, rfl⟩))
  go_ret2
  exact ⟨rfl, rfl⟩
theorem Weekday_no (n : Int) (w : World) (h : (decide (41317 ≤ n) && decide (n ≤ 88068)) = false) :
    Calls Tryz.prog 23 #[.int .i64 n] w fun e w' => e = .returned (.tuple #[.int .i64 0, .int .i64 6]) ∧ w = w' := by
  have H0 := Lib.hid h
  clear h
  go_enter Tryz.func23, Tryz.ntmps23
  go_wp2_with (go_at_call 79; refine (isDay_any _ _).mono ?_; rintro e w' ⟨rfl, rfl⟩; rw [H0.out])
  go_ret2
  exact ⟨rfl, rfl⟩
theorem Week_ok (n : Int) (w : World) (h : 41317 ≤ n ∧ n ≤ 88068) :
    Calls Tryz.prog 24 #[.int .i64 n] w fun e w' => e = .returned (.tuple #[.int .i64 (weekY n), .int .i64 (weekN n), .int .i64 0]) ∧ w = w' := by
  have H0 := Lib.hid (show (decide (41317 ≤ n) && decide (n ≤ 88068)) = true by simp [h])
  have HC := Lib.hid (weekday_any n w (by omega))
  have hwb := wd_bd n
  have htb := thu_bd n
  have hyb := weekY_bd n h
  have hsp := yr_spec (thu n)
  have h12 := cm_le (weekY n) 12 (by decide)
  have hns := ny_succ (weekY n)
  have k1 : IntKind.i64.wrap (n - wd n) = n - wd n := IntWalk.i64_in _ (by omega)
  have k2 : IntKind.i64.wrap (n - wd n + 4) = n - wd n + 4 := IntWalk.i64_in _ (by omega)
  have HY := Lib.hid (yearOf_any (n - wd n + 4) w (by unfold thu at htb; omega))
  rw [show yr (n - wd n + 4) = weekY n from rfl] at HY
  have HNY := Lib.hid (newYear_any (weekY n) w (by omega))
  change ny (weekY n) ≤ thu n ∧ thu n < ny (weekY n + 1) at hsp
  have hnn : 0 ≤ n - wd n + 4 - ny (weekY n) ∧ n - wd n + 4 - ny (weekY n) ≤ 366 := by
    have : n - wd n + 4 = thu n := rfl
    omega
  have k3 : IntKind.i64.wrap (n - wd n + 4 - ny (weekY n)) = n - wd n + 4 - ny (weekY n) := IntWalk.i64_in _ (by omega)
  have HW := Lib.hid (show (n - wd n + 4 - ny (weekY n)) / 7 + 1 = weekN n from rfl)
  generalize ny (weekY n) = nw at *
  generalize weekY n = yw at *
  generalize wd n = wn at *
  clear hsp hns h12 hyb htb hwb
  go_enter Tryz.func24, Tryz.ntmps24
  go_wp2_with (first | (go_at_call 79; refine (isDay_any _ _).mono ?_; rintro e w' ⟨rfl, rfl⟩; rw [H0.out]) | (go_at_call 80; refine HC.out.mono ?_; rintro e w' ⟨rfl, rfl⟩) | (go_at_call 81; refine HY.out.mono ?_; rintro e w' ⟨rfl, rfl⟩) | (go_at_call 69; refine HNY.out.mono ?_; rintro e w' ⟨rfl, rfl⟩))
  exact bodyPost_ret (v := .tuple #[.int .i64 yw, .int .i64 ((n - wn + 4 - nw) / 7 + 1), .int .i64 0]) (by simp [results, Tryz.results24, go_sem]) rfl ⟨by rw [HW.out], rfl⟩
theorem Week_no (n : Int) (w : World) (h : (decide (41317 ≤ n) && decide (n ≤ 88068)) = false) :
    Calls Tryz.prog 24 #[.int .i64 n] w fun e w' => e = .returned (.tuple #[.int .i64 0, .int .i64 0, .int .i64 6]) ∧ w = w' := by
  have H0 := Lib.hid h
  clear h
  go_enter Tryz.func24, Tryz.ntmps24
  go_wp2_with (go_at_call 79; refine (isDay_any _ _).mono ?_; rintro e w' ⟨rfl, rfl⟩; rw [H0.out])
  exact bodyPost_ret (v := .tuple #[.int .i64 0, .int .i64 0, .int .i64 6]) (by simp [results, Tryz.results24, go_sem]) rfl ⟨rfl, rfl⟩
theorem Day_ok {y : Int} {m : Nat} {d : Int} (w : World) (hw : Mon w) (h : IsDate y m d) :
    Calls Tryz.prog 13 #[.int .i64 y, .int .i64 (m : Int), .int .i64 d] w fun e w' => e = .returned (.tuple #[.int .i64 (dayN y m d), .int .i64 0]) ∧ w = w' := by
  have hy1 := h.y1
  have hy2 := h.y2
  have hd1 := h.d1
  have hm1 := h.m1
  have hm2 := h.m2
  have hdb := dm_bd y m
  have hd2 := h.d2
  have hd3 : d ≤ 31 := by omega
  have hnyb := ny_bd y ⟨hy1, hy2⟩
  have H1 := Lib.hid (show (decide (1972 ≤ y) && decide (y ≤ 2099)) = true by simp; omega)
  have H2 := Lib.hid (show (decide ((1 : Int) ≤ m) && decide ((m : Int) ≤ 12)) = true by simp; omega)
  have H3 := Lib.hid (show (decide (1 ≤ d) && decide (d ≤ dm y m)) = true by simp; omega)
  have HM := Lib.hid (fun k : Nat => fun h1 h2 => monthDays_any y k w hw (by omega) h1 h2)
  have HNY := Lib.hid (newYear_any y w (by omega))
  have hdm := Lib.hid (And.intro hm1 hm2)
  have h12 := cm_nonneg y 12
  have k1 : IntKind.i64.wrap (ny y + d) = ny y + d := IntWalk.i64_in _ (by omega)
  have k2 : IntKind.i64.wrap (ny y + d - 1) = ny y + d - 1 := IntWalk.i64_in _ (by omega)
  clear h hw hd2 hm1
  go_enter Tryz.func13, Tryz.ntmps13
  go_wp2_with (first | (go_at_call 67; refine (within_any _ _ _ _).mono ?_; rintro e w' ⟨rfl, rfl⟩; first | rw [H1.out] | rw [H2.out] | rw [H3.out]) | (go_at_call 68; refine (HM.out _ hdm.out.1 hdm.out.2).mono ?_; rintro e w' ⟨rfl, rfl⟩) | (go_at_call 69; refine HNY.out.mono ?_; rintro e w' ⟨rfl, rfl⟩))
  go_loop [8, 9] (fun s8 s9 => ∃ k : Nat, 1 ≤ k ∧ k ≤ m ∧ s8 = .int .i64 (ny y + d - 1 + cm y (k - 1)) ∧ s9 = .int .i64 (k : Int)) (fun _ s => 13 - (intOf s).toNat)
  case atStart => exact ⟨1, by omega, hdm.out.1, by simp [cm], rfl⟩
  case round =>
    obtain ⟨k, hk1, hk2, rfl, rfl⟩ := hrel
    have hmb := cm_le y (k - 1) (by omega)
    have hmn := cm_nonneg y (k - 1)
    have hkb := dm_bd y k
    have vk : IntKind.i64.wrap ((k : Int) + 1) = (k : Int) + 1 := IntWalk.i64_in _ (by omega)
    have va : IntKind.i64.wrap (ny y + d - 1 + cm y (k - 1) + dm y k) = ny y + d - 1 + cm y (k - 1) + dm y k := IntWalk.i64_in _ (by omega)
    by_cases hlt : k < m
    · have hki : (k : Int) < m := by omega
      have HMD := Lib.hid (HM.out k hk1 (by omega))
      have HE := Lib.hid (show ny y + d - 1 + cm y (k - 1) + dm y k = ny y + d - 1 + cm y (k + 1 - 1) by have := cm_pred y k hk1; rw [Nat.add_sub_cancel]; omega)
      have HK := Lib.hid (And.intro hlt hk1)
      clear hlt hk1 hk2
      generalize dm y (k : Int) = dd at *
      generalize cm y (k - 1) = cc at *
      go_wp2_with (go_at_call 68; refine HMD.out.mono ?_; rintro e w' ⟨rfl, rfl⟩)
      go_round
      case rel => exact ⟨k + 1, by omega, HK.out.1, by rw [HE.out], by simp⟩
      case measure => have := HK.out; simp [intOf]; omega
    · obtain rfl : k = m := by omega
      have hki : ¬ ((k : Int) < k) := by omega
      have HE := Lib.hid (show ny y + d - 1 + cm y (k - 1) = dayN y k d by unfold dayN; omega)
      clear hlt hk1 hk2 va
      generalize cm y (k - 1) = cc at *
      go_wp2_with fail
      go_ret2
      exact ⟨congrArg (fun z => Ending.returned (.tuple #[.int .i64 z, .int .i64 0])) HE.out, rfl⟩
theorem Day_no (y m d : Int) (w : World) (hw : Mon w) (h : okDate y m d = false) :
    Calls Tryz.prog 13 #[.int .i64 y, .int .i64 m, .int .i64 d] w fun e w' => e = .returned (.tuple #[.int .i64 0, .int .i64 90]) ∧ w = w' := by
  unfold okDate at h
  cases h1 : (decide (1972 ≤ y) && decide (y ≤ 2099))
  · have H1 := Lib.hid h1
    clear h h1
    go_enter Tryz.func13, Tryz.ntmps13
    go_wp2_with (go_at_call 67; refine (within_any _ _ _ _).mono ?_; rintro e w' ⟨rfl, rfl⟩; rw [H1.out])
    go_ret2
    exact ⟨rfl, rfl⟩
  · cases h2 : (decide (1 ≤ m) && decide (m ≤ 12))
    · have H1 := Lib.hid h1
      have H2 := Lib.hid h2
      clear h h1 h2
      go_enter Tryz.func13, Tryz.ntmps13
      go_wp2_with (go_at_call 67; refine (within_any _ _ _ _).mono ?_; rintro e w' ⟨rfl, rfl⟩; first | rw [H1.out] | rw [H2.out])
      go_ret2
      exact ⟨rfl, rfl⟩
    · rw [h1, h2] at h
      simp only [Bool.true_and] at h
      have hm : m = ((m.toNat : Nat) : Int) := by simp at h2; omega
      have hmb : 1 ≤ m.toNat ∧ m.toNat ≤ 12 := by simp at h2; omega
      have hy0 : 0 ≤ y := by simp at h1; omega
      generalize m.toNat = k at hm hmb
      subst hm
      have H1 := Lib.hid h1
      have H2 := Lib.hid h2
      have H3 := Lib.hid h
      have HM := Lib.hid (monthDays_any y k w hw hy0 hmb.1 hmb.2)
      clear h h1 h2 hw hmb hy0
      go_enter Tryz.func13, Tryz.ntmps13
      go_wp2_with (first | (go_at_call 67; refine (within_any _ _ _ _).mono ?_; rintro e w' ⟨rfl, rfl⟩; first | rw [H1.out] | rw [H2.out] | rw [H3.out]) | (go_at_call 68; refine HM.out.mono ?_; rintro e w' ⟨rfl, rfl⟩))
      go_ret2
      exact ⟨rfl, rfl⟩
end Go.Proofs.YtgnfaemnehmgcaaGreatDoor.Cal
