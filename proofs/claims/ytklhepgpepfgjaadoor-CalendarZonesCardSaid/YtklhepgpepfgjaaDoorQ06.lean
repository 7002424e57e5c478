/- Layer 9 (calendar): the program's Day, Civil, Weekday, Week. · Layer 9 (calendar): moments; the first second of a day. -/
import Derived.Test.YtklhepgpepfgjaaDoorQ02
import Derived.Test.YtklhepgpepfgjaaDoorQ05
namespace Go.Proofs.YtklhepgpepfgjaaDoor.Cal
open Go Go.RowKit
attribute [local go_sem] Oper.semAt_some
theorem Civil_ok {n y : Int} {m : Nat} {d : Int} (w : World) (hw : Mon w) (h : IsCiv n y m d) :
    Calls Tryd.prog 73 #[.int .i64 n] w fun e w' => e = .returned (.tuple #[.int .i64 y, .int .i64 (m : Int), .int .i64 d, .int .i64 0]) ∧ w = w' := by
  have H0 := Lib.hid (show (decide (41317 ≤ n) && decide (n ≤ 88068)) = true by simp [h.n_bd])
  have HC := Lib.hid (civil_any w hw h)
  clear h hw
  go_enter Tryd.func73, Tryd.ntmps73
  go_wp2_with (first | (go_at_call 40; refine (isDay_any _ _).mono ?_; rintro e w' ⟨rfl, rfl⟩; rw [H0.out]) | (go_at_call 77; refine HC.out.mono ?_; rintro e w' ⟨rfl, rfl⟩))
  exact bodyPost_ret (v := .tuple #[.int .i64 y, .int .i64 (m : Int), .int .i64 d, .int .i64 0]) (by simp [results, Tryd.results73, go_sem]) rfl ⟨rfl, rfl⟩
theorem Civil_no (n : Int) (w : World) (h : (decide (41317 ≤ n) && decide (n ≤ 88068)) = false) :
    Calls Tryd.prog 73 #[.int .i64 n] w fun e w' => e = .returned (.tuple #[.int .i64 0, .int .i64 0, .int .i64 0, .int .i64 6]) ∧ w = w' := by
  have H0 := Lib.hid h
  clear h
  go_enter Tryd.func73, Tryd.ntmps73
  go_wp2_with (go_at_call 40; refine (isDay_any _ _).mono ?_; rintro e w' ⟨rfl, rfl⟩; rw [H0.out])
  exact bodyPost_ret (v := .tuple #[.int .i64 0, .int .i64 0, .int .i64 0, .int .i64 6]) (by simp [results, Tryd.results73, go_sem]) rfl ⟨rfl, rfl⟩
theorem Weekday_ok (n : Int) (w : World) (h : 41317 ≤ n ∧ n ≤ 88068) :
    Calls Tryd.prog 26 #[.int .i64 n] w fun e w' => e = .returned (.tuple #[.int .i64 (wd n), .int .i64 0]) ∧ w = w' := by
  have H0 := Lib.hid (show (decide (41317 ≤ n) && decide (n ≤ 88068)) = true by simp [h])
  have HC := Lib.hid (weekday_any n w (by omega))
  clear h
  go_enter Tryd.func26, Tryd.ntmps26
  go_wp2_with (first | (go_at_call 40; refine (isDay_any _ _).mono ?_; rintro e w' ⟨rfl, rfl⟩; rw [H0.out]) | (go_at_call 64; refine HC.out.mono ?_; rintro e w' ⟨rfl, rfl⟩))
  go_ret2
  exact ⟨rfl, rfl⟩
theorem Weekday_no (n : Int) (w : World) (h : (decide (41317 ≤ n) && decide (n ≤ 88068)) = false) :
    Calls Tryd.prog 26 #[.int .i64 n] w fun e w' => e = .returned (.tuple #[.int .i64 0, .int .i64 6]) ∧ w = w' := by
  have H0 := Lib.hid h
  clear h
  go_enter Tryd.func26, Tryd.ntmps26
  go_wp2_with (go_at_call 40; refine (isDay_any _ _).mono ?_; rintro e w' ⟨rfl, rfl⟩; rw [H0.out])
  go_ret2
  exact ⟨rfl, rfl⟩
theorem Week_ok (n : Int) (w : World) (h : 41317 ≤ n ∧ n ≤ 88068) :
    Calls Tryd.prog 27 #[.int .i64 n] w fun e w' => e = .returned (.tuple #[.int .i64 (weekY n), .int .i64 (weekN n), .int .i64 0]) ∧ w = w' := by
  have H0 := Lib.hid (show (decide (41317 ≤ n) && decide (n ≤ 88068)) = true by simp [h])
  have HC := Lib.hid (weekday_any n w (by omega))
  have hwb := wd_bd n
  have htb := thu_bd n
  have hyb := weekY_bd n h
  have hsp := yr_spec (thu n)
  have h12 := cm_le (weekY n) 12 (by decide)
  have hns := ny_succ (weekY n)
  have k1 : IntKind.i64.wrap (n - wd n) = n - wd n := IntWalk.i64_in _ (by omega)
  have k2 : IntKind.i64.wrap (n - wd n + 4) = n - wd n + 4 := IntWalk.i64_in _ (by omega)
  have HY := Lib.hid (yearOf_any (n - wd n + 4) w (by unfold thu at htb; omega))
  rw [show yr (n - wd n + 4) = weekY n from rfl] at HY
  have HNY := Lib.hid (newYear_any (weekY n) w (by omega))
  change ny (weekY n) ≤ thu n ∧ thu n < ny (weekY n + 1) at hsp
  have hnn : 0 ≤ n - wd n + 4 - ny (weekY n) ∧ n - wd n + 4 - ny (weekY n) ≤ 366 := by
    have : n - wd n + 4 = thu n := rfl
    omega
  have k3 : IntKind.i64.wrap (n - wd n + 4 - ny (weekY n)) = n - wd n + 4 - ny (weekY n) := IntWalk.i64_in _ (by omega)
  have HW := Lib.hid (show (n - wd n + 4 - ny (weekY n)) / 7 + 1 = weekN n from rfl)
  generalize ny (weekY n) = nw at *
  generalize weekY n = yw at *
  generalize wd n = wn at *
  clear hsp hns h12 hyb htb hwb
  go_enter Tryd.func27, Tryd.ntmps27
  go_wp2_with (first | (go_at_call 40; refine (isDay_any _ _).mono ?_; rintro e w' ⟨rfl, rfl⟩; rw [H0.out]) | (go_at_call 64; refine HC.out.mono ?_; rintro e w' ⟨rfl, rfl⟩) | (go_at_call 65; refine HY.out.mono ?_; rintro e w' ⟨rfl, rfl⟩) | (go_at_call 53; refine HNY.out.mono ?_; rintro e w' ⟨rfl, rfl⟩))
  exact bodyPost_ret (v := .tuple #[.int .i64 yw, .int .i64 ((n - wn + 4 - nw) / 7 + 1), .int .i64 0]) (by simp [results, Tryd.results27, go_sem]) rfl ⟨by rw [HW.out], rfl⟩
theorem Week_no (n : Int) (w : World) (h : (decide (41317 ≤ n) && decide (n ≤ 88068)) = false) :
    Calls Tryd.prog 27 #[.int .i64 n] w fun e w' => e = .returned (.tuple #[.int .i64 0, .int .i64 0, .int .i64 6]) ∧ w = w' := by
  have H0 := Lib.hid h
  clear h
  go_enter Tryd.func27, Tryd.ntmps27
  go_wp2_with (go_at_call 40; refine (isDay_any _ _).mono ?_; rintro e w' ⟨rfl, rfl⟩; rw [H0.out])
  exact bodyPost_ret (v := .tuple #[.int .i64 0, .int .i64 0, .int .i64 6]) (by simp [results, Tryd.results27, go_sem]) rfl ⟨rfl, rfl⟩
theorem Day_ok {y : Int} {m : Nat} {d : Int} (w : World) (hw : Mon w) (h : IsDate y m d) :
    Calls Tryd.prog 16 #[.int .i64 y, .int .i64 (m : Int), .int .i64 d] w fun e w' => e = .returned (.tuple #[.int .i64 (dayN y m d), .int .i64 0]) ∧ w = w' := by
  have hy1 := h.y1
  have hy2 := h.y2
  have hd1 := h.d1
  have hm1 := h.m1
  have hm2 := h.m2
  have hdb := dm_bd y m
  have hd2 := h.d2
  have hd3 : d ≤ 31 := by omega
  have hnyb := ny_bd y ⟨hy1, hy2⟩
  have H1 := Lib.hid (show (decide (1972 ≤ y) && decide (y ≤ 2099)) = true by simp; omega)
  have H2 := Lib.hid (show (decide ((1 : Int) ≤ m) && decide ((m : Int) ≤ 12)) = true by simp; omega)
  have H3 := Lib.hid (show (decide (1 ≤ d) && decide (d ≤ dm y m)) = true by simp; omega)
  have HM := Lib.hid (fun k : Nat => fun h1 h2 => monthDays_any y k w hw (by omega) h1 h2)
  have HNY := Lib.hid (newYear_any y w (by omega))
  have hdm := Lib.hid (And.intro hm1 hm2)
  have h12 := cm_nonneg y 12
  have k1 : IntKind.i64.wrap (ny y + d) = ny y + d := IntWalk.i64_in _ (by omega)
  have k2 : IntKind.i64.wrap (ny y + d - 1) = ny y + d - 1 := IntWalk.i64_in _ (by omega)
  clear h hw hd2 hm1
  go_enter Tryd.func16, Tryd.ntmps16
  go_wp2_with (first | (go_at_call 48; refine (within_any _ _ _ _).mono ?_; rintro e w' ⟨rfl, rfl⟩; first | rw [H1.out] | rw [H2.out] | rw [H3.out]) | (go_at_call 52; refine (HM.out _ hdm.out.1 hdm.out.2).mono ?_; rintro e w' ⟨rfl, rfl⟩) | (go_at_call 53; refine HNY.out.mono ?_; rintro e w' ⟨rfl, rfl⟩))
  go_loop [8, 9] (fun s8 s9 => ∃ k : Nat, 1 ≤ k ∧ k ≤ m ∧ s8 = .int .i64 (ny y + d - 1 + cm y (k - 1)) ∧ s9 = .int .i64 (k : Int)) (fun _ s => 13 - (intOf s).toNat)
  case atStart => exact ⟨1, by omega, hdm.out.1, by simp [cm], rfl⟩
  case round =>
    obtain ⟨k, hk1, hk2, rfl, rfl⟩ := hrel
    have hmb := cm_le y (k - 1) (by omega)
    have hmn := cm_nonneg y (k - 1)
    have hkb := dm_bd y k
    have vk : IntKind.i64.wrap ((k : Int) + 1) = (k : Int) + 1 := IntWalk.i64_in _ (by omega)
    have va : IntKind.i64.wrap (ny y + d - 1 + cm y (k - 1) + dm y k) = ny y + d - 1 + cm y (k - 1) + dm y k := IntWalk.i64_in _ (by omega)
    by_cases hlt : k < m
    · have hki : (k : Int) < m := by omega
      have HMD := Lib.hid (HM.out k hk1 (by omega))
      have HE := Lib.hid (show ny y + d - 1 + cm y (k - 1) + dm y k = ny y + d - 1 + cm y (k + 1 - 1) by have := cm_pred y k hk1; rw [Nat.add_sub_cancel]; omega)
      have HK := Lib.hid (And.intro hlt hk1)
      clear hlt hk1 hk2
      generalize dm y (k : Int) = dd at *
      generalize cm y (k - 1) = cc at *
      go_wp2_with (go_at_call 52; refine HMD.out.mono ?_; rintro e w' ⟨rfl, rfl⟩)
      go_round
      case rel => exact ⟨k + 1, by omega, HK.out.1, by rw [HE.out], by simp⟩
      case measure => have := HK.out; simp [intOf]; omega
    · obtain rfl : k = m := by omega
      have hki : ¬ ((k : Int) < k) := by omega
      have HE := Lib.hid (show ny y + d - 1 + cm y (k - 1) = dayN y k d by unfold dayN; omega)
      clear hlt hk1 hk2 va
      generalize cm y (k - 1) = cc at *
      go_wp2_with fail
      go_ret2
      exact ⟨congrArg (fun z => Ending.returned (.tuple #[.int .i64 z, .int .i64 0])) HE.out, rfl⟩
theorem Day_no (y m d : Int) (w : World) (hw : Mon w) (h : okDate y m d = false) :
    Calls Tryd.prog 16 #[.int .i64 y, .int .i64 m, .int .i64 d] w fun e w' => e = .returned (.tuple #[.int .i64 0, .int .i64 90]) ∧ w = w' := by
  unfold okDate at h
  cases h1 : (decide (1972 ≤ y) && decide (y ≤ 2099))
  · have H1 := Lib.hid h1
    clear h h1
    go_enter Tryd.func16, Tryd.ntmps16
    go_wp2_with (go_at_call 48; refine (within_any _ _ _ _).mono ?_; rintro e w' ⟨rfl, rfl⟩; rw [H1.out])
    go_ret2
    exact ⟨rfl, rfl⟩
  · cases h2 : (decide (1 ≤ m) && decide (m ≤ 12))
    · have H1 := Lib.hid h1
      have H2 := Lib.hid h2
      clear h h1 h2
      go_enter Tryd.func16, Tryd.ntmps16
      go_wp2_with (go_at_call 48; refine (within_any _ _ _ _).mono ?_; rintro e w' ⟨rfl, rfl⟩; first | rw [H1.out] | rw [H2.out])
      go_ret2
      exact ⟨rfl, rfl⟩
    · rw [h1, h2] at h
      simp only [Bool.true_and] at h
      have hm : m = ((m.toNat : Nat) : Int) := by simp at h2; omega
      have hmb : 1 ≤ m.toNat ∧ m.toNat ≤ 12 := by simp at h2; omega
      have hy0 : 0 ≤ y := by simp at h1; omega
      generalize m.toNat = k at hm hmb
      subst hm
      have H1 := Lib.hid h1
      have H2 := Lib.hid h2
      have H3 := Lib.hid h
      have HM := Lib.hid (monthDays_any y k w hw hy0 hmb.1 hmb.2)
      clear h h1 h2 hw hmb hy0
      go_enter Tryd.func16, Tryd.ntmps16
      go_wp2_with (first | (go_at_call 48; refine (within_any _ _ _ _).mono ?_; rintro e w' ⟨rfl, rfl⟩; first | rw [H1.out] | rw [H2.out] | rw [H3.out]) | (go_at_call 52; refine HM.out.mono ?_; rintro e w' ⟨rfl, rfl⟩))
      go_ret2
      exact ⟨rfl, rfl⟩
end Go.Proofs.YtklhepgpepfgjaaDoor.Cal
namespace Go.Proofs.YtklhepgpepfgjaaDoor.Cal
open Go Go.RowKit
attribute [local go_sem] Oper.semAt_some
theorem modulo_any (a b : Int) (w : World) (hb : 1 ≤ b ∧ b ≤ 9223372036854775807) :
    Calls Tryd.prog 69 #[.int .i64 a, .int .i64 b] w fun e w' => e = .returned (.int .i64 (a % b)) ∧ w = w' := by
  have hm := tmod_bd a b hb.1
  have hne : (b == 0) = false := by simp; omega
  have hnz : ¬ b = 0 := by omega
  have k2 : IntKind.i64.wrap (a.tmod b) = a.tmod b := IntWalk.i64_in _ (by omega)
  by_cases h : a.tmod b < 0
  · have H := Lib.hid (modulo_neg a b hb.1 h)
    have k3 : IntKind.i64.wrap (a.tmod b + b) = a.tmod b + b := IntWalk.i64_in _ (by omega)
    clear hm
    go_enter Tryd.func69, Tryd.ntmps69
    go_wp2
    go_ret
    exact ⟨ret_i64 H.out, rfl⟩
  · have H := Lib.hid (modulo_pos a b hb.1 h)
    clear hm
    go_enter Tryd.func69, Tryd.ntmps69
    go_wp2
    go_ret
    exact ⟨ret_i64 H.out, rfl⟩
theorem mday_any (m s : Int) (w : World) (hm : -9000000000000000000 ≤ m ∧ m ≤ 9000000000000000000) :
    Calls Tryd.prog 41 #[.agg #[.int .i64 m, .int .i64 s]] w fun e w' => e = .returned (.int .i64 (m / 1440)) ∧ Below w.heap.size w w' := by
  have A0 := Lib.hid (below_alloc (Below.refl w.heap.size w) (.cells #[.int .i64 m, .int .i64 s] 88))
  go_enter Tryd.func41, Tryd.ntmps41
  go_wp2_with (go_at_call 68; refine (floor_any _ _ _ hm (by decide)).mono ?_; rintro e w' ⟨rfl, rfl⟩)
  go_ret
  exact ⟨rfl, A0.out⟩
theorem mofday_any (m s : Int) (w : World) :
    Calls Tryd.prog 78 #[.agg #[.int .i64 m, .int .i64 s]] w fun e w' => e = .returned (.int .i64 (m % 1440)) ∧ Below w.heap.size w w' := by
  have A0 := Lib.hid (below_alloc (Below.refl w.heap.size w) (.cells #[.int .i64 m, .int .i64 s] 88))
  go_enter Tryd.func78, Tryd.ntmps78
  go_wp2_with (go_at_call 69; refine (modulo_any _ _ _ (by decide)).mono ?_; rintro e w' ⟨rfl, rfl⟩)
  go_ret
  exact ⟨rfl, A0.out⟩
set_option maxHeartbeats 1000000 in
theorem before_any (b u d : Int) (n c : Nat) (p : Option Addr) (f : Nat → Int × Int) (w : World) (hs : LpIn w f n p) (hn : n ≤ 1000) (hc : n ≤ c) (hcm : c ≤ maxLen) :
    Calls Tryd.prog 95 #[.agg #[.int .i64 b, .slice p n c, .int .i64 u], .int .i64 d] w fun e w' => ∃ i : Nat, i ≤ n ∧ e = .returned (.slice p i c) ∧ (∀ j, j < i → (f j).1 < d) ∧ (i < n → d ≤ (f i).1) ∧ Below w.heap.size w w' := by
  have A0 := below_alloc (Below.refl w.heap.size w) (.cells #[.int .i64 b, .slice p n c, .int .i64 u] 24)
  have HBX := Lib.hid (TBox.new w b u n c p 24)
  have HS := Lib.hid (hs.below A0)
  have A0 := Lib.hid A0
  obtain ⟨x0, x1, x2⟩ := HBX.out
  unfold maxLen at hcm
  clear hs
  go_enter Tryd.func95, Tryd.ntmps95
  go_upto_region 1 with fail
  generalize w.alloc (.cells #[.int .i64 b, .slice p n c, .int .i64 u] 24) = W0 at *
  have zx := cell_lt x0
  go_wp2_with fail
  clear x0 x1 x2 zx
  go_loopw [4, 5, 6, 10] (fun s4 s5 s6 s10 wr => ∃ (k : Nat) (a5 a6 : Value), k ≤ n ∧ s4 = .slice none 0 0 ∧ s5 = a5 ∧ s6 = a6 ∧ s10 = .int .i64 (k : Int) ∧ Hid (∀ j, j < k → (f j).1 < d) ∧ Hid (Below W0.heap.size W0 wr)) (fun _ _ _ s _ => n - (intOf s).toNat)
  case atStart => exact ⟨0, _, _, Nat.zero_le _, rfl, rfl, rfl, rfl, Lib.hid (fun j hj => absurd hj (Nat.not_lt_zero _)), Lib.hid (Below.refl _ _)⟩
  case round =>
    obtain ⟨k, a5, a6, hk, rfl, rfl, rfl, rfl, HL, HB⟩ := hrel
    obtain ⟨x0, x1, x2⟩ := HBX.out.below HB.out
    have zx := cell_lt x0
    by_cases hlt : k < n
    · have hki : (k : Int) < n := by omega
      have vk : IntKind.i64.wrap ((k : Int) + 1) = (k : Int) + 1 := IntWalk.i64_in _ (by omega)
      obtain ⟨bb, oo, rfl, hsi⟩ := HS.out.resolve_left (by omega)
      obtain ⟨y0, y1⟩ := (hsi.below HB.out) k hlt
      have zy := cell_lt y0
      have hb1 := below_alloc (Below.refl wr.heap.size wr) (.cells #[.int .i64 (f k).1, .int .i64 (f k).2] 81)
      have q0 : (wr.alloc (.cells #[.int .i64 (f k).1, .int .i64 (f k).2] 81)).cell? ⟨wr.heap.size, 0, none⟩ = some (.int .i64 (f k).1) := by simp
      have HB1 := Lib.hid hb1
      have HBB := Lib.hid ((HBX.out.below HB.out).below hb1)
      have HK := Lib.hid hlt
      have HFK := Lib.hid (show (f k).1 = (f k).1 from rfl)
      obtain ⟨dk, hdk⟩ : ∃ dk, (f k).1 = dk := ⟨_, rfl⟩
      have HDK := Lib.hid hdk
      rw [hdk] at y0 q0
      rw [hdk] at HB1 HBB
      clear hlt hsi hb1 HFK
      go_upto_region 4 with fail
      clear hdk x0 x1 x2 zx y0 y1 zy
      generalize wr.alloc (.cells #[.int .i64 dk, .int .i64 (f k).2] 81) = W1 at *
      have zq := cell_lt q0
      obtain ⟨x0, x1, x2⟩ := HBB.out
      have zx := cell_lt x0
      have hkc : (k : Int) ≤ c := by omega
      by_cases hge : d ≤ dk
      · go_wp2_with fail
        go_ret
        exact ⟨k, hk, rfl, HL.out, fun _ => by rw [HDK.out]; exact hge, bt (bt A0.out HB.out) HB1.out⟩
      · have HLT := Lib.hid (show dk < d by omega)
        go_wp2_with fail
        go_roundw
        case rel => exact ⟨k + 1, _, _, HK.out, rfl, rfl, rfl, by simp, Lib.hid (fun j hj => by
          by_cases e : j = k
          · subst e; rw [HDK.out]; exact HLT.out
          · exact HL.out j (by omega)), Lib.hid (bt HB.out HB1.out)⟩
        case measure => have := HK.out; simp [intOf]; omega
    · obtain rfl : k = n := by omega
      have hki : ¬ ((k : Int) < k) := by omega
      clear hlt
      go_wp2_with fail
      go_ret
      exact ⟨k, Nat.le_refl _, rfl, HL.out, fun h => absurd h (Nat.lt_irrefl _), bt A0.out HB.out⟩
end Go.Proofs.YtklhepgpepfgjaaDoor.Cal
