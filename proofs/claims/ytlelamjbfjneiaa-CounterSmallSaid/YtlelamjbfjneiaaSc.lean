/- Layer 2, the reference: Show. -/
import Derived.Test.YtlelamjbfjneiaaSb
namespace Go.Proofs.Ytlelamjbfjneiaa.Ct
open Go Go.RowKit Go.Shelf
attribute [local go_sem] Oper.semAt_some
theorem round_near (c : Cnt) (h : CntIn c) (raw : Int) : roundS c raw = if c.g ≤ 2 * (raw % c.g) then raw - raw % c.g + c.g else raw - raw % c.g := by
  have hg := h.g
  have h1 := Int.emod_add_mul_ediv raw c.g
  have h2 := Int.emod_nonneg raw (show c.g ≠ 0 by omega)
  have h3 := Int.emod_lt_of_pos raw (show 0 < c.g by omega)
  unfold roundS
  generalize raw % c.g = t at *
  generalize raw / c.g = q at *
  have hq : c.g * q = q * c.g := Int.mul_comm _ _
  have e : 2 * raw + c.g = (2 * t + c.g) + 2 * c.g * q := by
    have : 2 * c.g * q = 2 * (c.g * q) := by grind
    omega
  rw [e, Int.add_mul_ediv_left _ _ (show 2 * c.g ≠ 0 by omega), Int.add_mul]
  split
  · have e2 : (2 * t + c.g) / (2 * c.g) = 1 := by
      rw [show 2 * t + c.g = (2 * t - c.g) + 2 * c.g * 1 by omega, Int.add_mul_ediv_left _ _ (show 2 * c.g ≠ 0 by omega), Int.ediv_eq_zero_of_lt (by omega) (by omega)]
      rfl
    rw [e2]; omega
  · rw [Int.ediv_eq_zero_of_lt (by omega) (by omega)]; omega
set_option maxRecDepth 100000 in
set_option maxHeartbeats 8000000 in
theorem rShow_any (c : Cnt) (seed s d : Int) (w : World) :
    Calls Try.prog 30 #[cntVal c, .int .u64 seed, .int .i64 s, .int .i64 d] w fun e w' => e = .returned (.tuple #[.int .i64 (if showErr c s d = 0 then shownS c seed s d else 0), .int .i64 (showErr c s d)]) ∧ Below w.heap.size w w' := by
  have A0 := Lib.hid (below_alloc (Below.refl w.heap.size w) (rcObj c))
  have HB := Lib.hid (RBox.new w c)
  unfold rcObj at A0 HB
  have HCK := Lib.hid (fun W => rcheck_any c W)
  obtain ⟨x0, x1, x2, x3, x4, x5, x6⟩ := HB.out
  have hz := cell_lt x0
  unfold cntVal at HCK ⊢
  by_cases hc : cntB c = true
  · rw [show checkC c = 0 from if_pos hc] at HCK
    have HCI := Lib.hid (cntB_in hc)
    have HM := Lib.hid (fun W => rready_any c s W (cntB_in hc))
    unfold cntVal at HM
    have hE : showErr c s d = (if meetB c s = true then (if -1000000000000000 ≤ d ∧ d ≤ 1000000000000000 then 0 else 6) else 21) := if_pos hc
    clear hc
    by_cases hm : meetB c s = true
    · rw [if_pos hm] at hE
      rw [hm] at HM
      have HS := Lib.hid (meetB_yes hm)
      clear hm
      by_cases h1 : d < -1000000000000000
      · rw [if_neg (by omega)] at hE
        rw [hE, if_neg (by decide)]
        clear hE
        go_enter Try.func30, Try.ntmps30
        go_wp2_with fail
        refine (HCK.out _).mono ?_
        rintro e w1 ⟨rfl, hb⟩
        have A1 := Lib.hid (below_go A0.out hb)
        have HB1 := HB.out.below hb
        clear x0 x1 x2 x3 x4 x5 x6 hz hb
        obtain ⟨x0, x1, x2, x3, x4, x5, x6⟩ := HB1
        have hz := cell_lt x0
        go_wp2_with (go_at_call 51; refine (HM.out _).mono ?_; rintro e w2 ⟨rfl, hb⟩; have A2 := Lib.hid (below_go A1.out hb); clear hb)
        go_ret2
        exact ⟨rfl, A2.out⟩
      · by_cases h2 : 1000000000000000 < d
        · rw [if_neg (by omega)] at hE
          rw [hE, if_neg (by decide)]
          clear hE
          go_enter Try.func30, Try.ntmps30
          go_wp2_with fail
          refine (HCK.out _).mono ?_
          rintro e w1 ⟨rfl, hb⟩
          have A1 := Lib.hid (below_go A0.out hb)
          have HB1 := HB.out.below hb
          clear x0 x1 x2 x3 x4 x5 x6 hz hb
          obtain ⟨x0, x1, x2, x3, x4, x5, x6⟩ := HB1
          have hz := cell_lt x0
          go_wp2_with (go_at_call 51; refine (HM.out _).mono ?_; rintro e w2 ⟨rfl, hb⟩; have A2 := Lib.hid (below_go A1.out hb); clear hb)
          go_ret2
          exact ⟨rfl, A2.out⟩
        · rw [if_pos (by omega)] at hE
          rw [hE, if_pos rfl]
          obtain ⟨b1, b2, b3, b4⟩ := raw_bd HCI.out seed s d (by omega)
          have hdr := drawS_bd (sourceS seed 3 c.i) s c.j HCI.out.j.1
          have hj := HCI.out.j
          have ho := HCI.out.o
          have hg := HCI.out.g
          have hi := HCI.out.i
          have hrn := round_near c HCI.out (rawS c seed s d)
          have HWR := Lib.hid (fun n W hn => rwrap_any c n W HCI.out hn)
          unfold cntVal at HWR
          have HDR := Lib.hid (fun W => rdraw_ok seed 3 c.i s c.j W (by omega) (by omega) (by have := HS.out; omega) (by omega))
          have HSH : Hid (shownS c seed s d = wrapS c (roundS c (rawS c seed s d))) := Lib.hid rfl
          obtain ⟨dr, hdrr⟩ : ∃ dr, dr = drawS (sourceS seed 3 c.i) s c.j := ⟨_, rfl⟩
          have hraw : rawS c seed s d = c.f * d + c.o + dr := by rw [hdrr]; rfl
          rw [← hdrr] at HDR hdr
          have k1 : IntKind.i64.wrap (c.f * d) = c.f * d := IntWalk.i64_in _ (by omega)
          have k2 : IntKind.i64.wrap (c.f * d + c.o) = c.f * d + c.o := IntWalk.i64_in _ (by omega)
          have k3 : IntKind.i64.wrap (c.f * d + c.o + dr) = rawS c seed s d := by rw [← hraw]; exact IntWalk.i64_in _ (by omega)
          generalize rawS c seed s d = raw at *
          have ht1 := Int.emod_nonneg raw (show c.g ≠ 0 by omega)
          have ht2 := Int.emod_lt_of_pos raw (show 0 < c.g by omega)
          have HMO := Lib.hid (fun W => rmodulo_any raw c.g W (by omega))
          obtain ⟨t, ht⟩ : ∃ t, t = raw % c.g := ⟨_, rfl⟩
          rw [← ht] at hrn ht1 ht2 HMO
          obtain ⟨be, hbe⟩ : ∃ be, be = raw - t := ⟨_, rfl⟩
          have k4 : IntKind.i64.wrap (raw - t) = be := by rw [← hbe]; exact IntWalk.i64_in _ (by omega)
          have k5 : IntKind.i64.wrap (raw - be) = t := by rw [hbe, show raw - (raw - t) = t by omega]; exact IntWalk.i64_in _ (by omega)
          have k6 : IntKind.i64.wrap (2 * t) = 2 * t := IntWalk.i64_in _ (by omega)
          have k7 : IntKind.i64.wrap (be + c.g) = be + c.g := IntWalk.i64_in _ (by omega)
          rw [← hbe] at hrn
          have hbb : -4000000000000000000 ≤ be ∧ be ≤ 3000000000000000000 := by omega
          clear hE hdr hj ho hi b1 b2 b3 b4 hdrr hraw ht ht1 ht2 hbe
          by_cases hh : c.g ≤ 2 * t
          · rw [if_pos hh] at hrn
            have hwv : wrapS c (be + c.g) = shownS c seed s d := by rw [HSH.out, hrn]
            have HW := Lib.hid (fun W => HWR.out (be + c.g) W (by omega))
            rw [hwv] at HW
            clear hwv
            clear hrn hbb hg HWR HSH
            go_enter Try.func30, Try.ntmps30
            go_wp2_with fail
            refine (HCK.out _).mono ?_
            rintro e w1 ⟨rfl, hb⟩
            have A1 := Lib.hid (below_go A0.out hb)
            have HB1 := Lib.hid (HB.out.below hb)
            clear x0 x1 x2 x3 x4 x5 x6 hz hb
            obtain ⟨x0, x1, x2, x3, x4, x5, x6⟩ := HB1.out
            have hz := cell_lt x0
            go_wp2_with fail
            refine (HM.out _).mono ?_
            rintro e w2 ⟨rfl, hb⟩
            have A2 := Lib.hid (below_go A1.out hb)
            have HB2 := HB1.out.below hb
            clear x0 x1 x2 x3 x4 x5 x6 hz hb
            obtain ⟨x0, x1, x2, x3, x4, x5, x6⟩ := HB2
            have hz := cell_lt x0
            go_wp2_with (first | (go_at_call 52; refine (HDR.out _).mono ?_; rintro e w3 ⟨rfl, rfl⟩) | (go_at_call 53; refine (HMO.out _).mono ?_; rintro e w4 ⟨rfl, rfl⟩) | (go_at_call 50; refine (HW.out _).mono ?_; rintro e w5 ⟨rfl, hb5⟩; have A3 := Lib.hid (below_go A2.out hb5); clear hb5))
            go_ret2
            exact ⟨rfl, A3.out⟩
          · rw [if_neg hh] at hrn
            have hwv : wrapS c be = shownS c seed s d := by rw [HSH.out, hrn]
            have HW := Lib.hid (fun W => HWR.out be W (by omega))
            rw [hwv] at HW
            clear hwv
            clear hrn hbb hg HWR HSH
            go_enter Try.func30, Try.ntmps30
            go_wp2_with fail
            refine (HCK.out _).mono ?_
            rintro e w1 ⟨rfl, hb⟩
            have A1 := Lib.hid (below_go A0.out hb)
            have HB1 := Lib.hid (HB.out.below hb)
            clear x0 x1 x2 x3 x4 x5 x6 hz hb
            obtain ⟨x0, x1, x2, x3, x4, x5, x6⟩ := HB1.out
            have hz := cell_lt x0
            go_wp2_with fail
            refine (HM.out _).mono ?_
            rintro e w2 ⟨rfl, hb⟩
            have A2 := Lib.hid (below_go A1.out hb)
            have HB2 := HB1.out.below hb
            clear x0 x1 x2 x3 x4 x5 x6 hz hb
            obtain ⟨x0, x1, x2, x3, x4, x5, x6⟩ := HB2
            have hz := cell_lt x0
            go_wp2_with (first | (go_at_call 52; refine (HDR.out _).mono ?_; rintro e w3 ⟨rfl, rfl⟩) | (go_at_call 53; refine (HMO.out _).mono ?_; rintro e w4 ⟨rfl, rfl⟩) | (go_at_call 50; refine (HW.out _).mono ?_; rintro e w5 ⟨rfl, hb5⟩; have A3 := Lib.hid (below_go A2.out hb5); clear hb5))
            go_ret2
            exact ⟨rfl, A3.out⟩
    · rw [if_neg hm] at hE
      rw [hE, if_neg (by decide)]
      rw [show meetB c s = false by simpa using hm] at HM
      clear hE hm
      go_enter Try.func30, Try.ntmps30
      go_wp2_with fail
      refine (HCK.out _).mono ?_
      rintro e w1 ⟨rfl, hb⟩
      have A1 := Lib.hid (below_go A0.out hb)
      have HB1 := HB.out.below hb
      clear x0 x1 x2 x3 x4 x5 x6 hz hb
      obtain ⟨x0, x1, x2, x3, x4, x5, x6⟩ := HB1
      have hz := cell_lt x0
      go_wp2_with (go_at_call 51; refine (HM.out _).mono ?_; rintro e w2 ⟨rfl, hb⟩; have A2 := Lib.hid (below_go A1.out hb); clear hb)
      go_ret2
      exact ⟨rfl, A2.out⟩
  · rw [show checkC c = 30 from if_neg hc] at HCK
    have hE : showErr c s d = 30 := if_neg hc
    rw [hE, if_neg (by decide)]
    clear hE hc
    go_enter Try.func30, Try.ntmps30
    go_wp2_with (go_at_call 16; refine (HCK.out _).mono ?_; rintro e w1 ⟨rfl, hb⟩; have A1 := Lib.hid (below_go A0.out hb); clear hb)
    go_ret2
    exact ⟨rfl, A1.out⟩
end Go.Proofs.Ytlelamjbfjneiaa.Ct
