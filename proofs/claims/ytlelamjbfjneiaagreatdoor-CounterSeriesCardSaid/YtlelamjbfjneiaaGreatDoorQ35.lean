/- Layer 2, the reference: Show. · The reference's Observe. · The reference's Watch: its refusals. -/
import Derived.Test.YtlelamjbfjneiaaGreatDoorQ34
import Derived.Test.YtlelamjbfjneiaaGreatDoorQ30
namespace Go.Proofs.YtlelamjbfjneiaaGreatDoor.Ct
open Go Go.RowKit Go.Shelf
attribute [local go_sem] Oper.semAt_some
theorem round_near (c : Cnt) (h : CntIn c) (raw : Int) : roundS c raw = if c.g ≤ 2 * (raw % c.g) then raw - raw % c.g + c.g else raw - raw % c.g := by
  have hg := h.g
  have h1 := Int.emod_add_mul_ediv raw c.g
  have h2 := Int.emod_nonneg raw (show c.g ≠ 0 by omega)
  have h3 := Int.emod_lt_of_pos raw (show 0 < c.g by omega)
  unfold roundS
  generalize raw % c.g = t at *
  generalize raw / c.g = q at *
  have hq : c.g * q = q * c.g := Int.mul_comm _ _
  have e : 2 * raw + c.g = (2 * t + c.g) + 2 * c.g * q := by
    have : 2 * c.g * q = 2 * (c.g * q) := by grind
    omega
  rw [e, Int.add_mul_ediv_left _ _ (show 2 * c.g ≠ 0 by omega), Int.add_mul]
  split
  · have e2 : (2 * t + c.g) / (2 * c.g) = 1 := by
      rw [show 2 * t + c.g = (2 * t - c.g) + 2 * c.g * 1 by omega, Int.add_mul_ediv_left _ _ (show 2 * c.g ≠ 0 by omega), Int.ediv_eq_zero_of_lt (by omega) (by omega)]
      rfl
    rw [e2]; omega
  · rw [Int.ediv_eq_zero_of_lt (by omega) (by omega)]; omega
set_option maxRecDepth 100000 in
set_option maxHeartbeats 8000000 in
theorem rShow_any (c : Cnt) (seed s d : Int) (w : World) :
    Calls Tryz.prog 29 #[cntVal c, .int .u64 seed, .int .i64 s, .int .i64 d] w fun e w' => e = .returned (.tuple #[.int .i64 (if showErr c s d = 0 then shownS c seed s d else 0), .int .i64 (showErr c s d)]) ∧ Below w.heap.size w w' := by
  have A0 := Lib.hid (below_alloc (Below.refl w.heap.size w) (rcObj c))
  have HB := Lib.hid (RBox.new w c)
  unfold rcObj at A0 HB
  have HCK := Lib.hid (fun W => rcheck_any c W)
  obtain ⟨x0, x1, x2, x3, x4, x5, x6⟩ := HB.out
  have hz := cell_lt x0
  unfold cntVal at HCK ⊢
  by_cases hc : cntB c = true
  · rw [show checkC c = 0 from if_pos hc] at HCK
    have HCI := Lib.hid (cntB_in hc)
    have HM := Lib.hid (fun W => rready_any c s W (cntB_in hc))
    unfold cntVal at HM
    have hE : showErr c s d = (if meetB c s = true then (if -1000000000000000 ≤ d ∧ d ≤ 1000000000000000 then 0 else 6) else 21) := if_pos hc
    clear hc
    by_cases hm : meetB c s = true
    · rw [if_pos hm] at hE
      rw [hm] at HM
      have HS := Lib.hid (meetB_yes hm)
      clear hm
      by_cases h1 : d < -1000000000000000
      · rw [if_neg (by omega)] at hE
        rw [hE, if_neg (by decide)]
        clear hE
        go_enter Tryz.func29, Tryz.ntmps29
        go_wp2_with fail
        refine (HCK.out _).mono ?_
        rintro e w1 ⟨rfl, hb⟩
        have A1 := Lib.hid (below_go A0.out hb)
        have HB1 := HB.out.below hb
        clear x0 x1 x2 x3 x4 x5 x6 hz hb
        obtain ⟨x0, x1, x2, x3, x4, x5, x6⟩ := HB1
        have hz := cell_lt x0
        go_wp2_with (go_at_call 41; refine (HM.out _).mono ?_; rintro e w2 ⟨rfl, hb⟩; have A2 := Lib.hid (below_go A1.out hb); clear hb)
        go_ret2
        exact ⟨rfl, A2.out⟩
      · by_cases h2 : 1000000000000000 < d
        · rw [if_neg (by omega)] at hE
          rw [hE, if_neg (by decide)]
          clear hE
          go_enter Tryz.func29, Tryz.ntmps29
          go_wp2_with fail
          refine (HCK.out _).mono ?_
          rintro e w1 ⟨rfl, hb⟩
          have A1 := Lib.hid (below_go A0.out hb)
          have HB1 := HB.out.below hb
          clear x0 x1 x2 x3 x4 x5 x6 hz hb
          obtain ⟨x0, x1, x2, x3, x4, x5, x6⟩ := HB1
          have hz := cell_lt x0
          go_wp2_with (go_at_call 41; refine (HM.out _).mono ?_; rintro e w2 ⟨rfl, hb⟩; have A2 := Lib.hid (below_go A1.out hb); clear hb)
          go_ret2
          exact ⟨rfl, A2.out⟩
        · rw [if_pos (by omega)] at hE
          rw [hE, if_pos rfl]
          obtain ⟨b1, b2, b3, b4⟩ := raw_bd HCI.out seed s d (by omega)
          have hdr := drawS_bd (sourceS seed 3 c.i) s c.j HCI.out.j.1
          have hj := HCI.out.j
          have ho := HCI.out.o
          have hg := HCI.out.g
          have hi := HCI.out.i
          have hrn := round_near c HCI.out (rawS c seed s d)
          have HWR := Lib.hid (fun n W hn => rwrap_any c n W HCI.out hn)
          unfold cntVal at HWR
          have HDR := Lib.hid (fun W => rdraw_ok seed 3 c.i s c.j W (by omega) (by omega) (by have := HS.out; omega) (by omega))
          have HSH : Hid (shownS c seed s d = wrapS c (roundS c (rawS c seed s d))) := Lib.hid rfl
          obtain ⟨dr, hdrr⟩ : ∃ dr, dr = drawS (sourceS seed 3 c.i) s c.j := ⟨_, rfl⟩
          have hraw : rawS c seed s d = c.f * d + c.o + dr := by rw [hdrr]; rfl
          rw [← hdrr] at HDR hdr
          have k1 : IntKind.i64.wrap (c.f * d) = c.f * d := IntWalk.i64_in _ (by omega)
          have k2 : IntKind.i64.wrap (c.f * d + c.o) = c.f * d + c.o := IntWalk.i64_in _ (by omega)
          have k3 : IntKind.i64.wrap (c.f * d + c.o + dr) = rawS c seed s d := by rw [← hraw]; exact IntWalk.i64_in _ (by omega)
          generalize rawS c seed s d = raw at *
          have ht1 := Int.emod_nonneg raw (show c.g ≠ 0 by omega)
          have ht2 := Int.emod_lt_of_pos raw (show 0 < c.g by omega)
          have HMO := Lib.hid (fun W => rmodulo_any raw c.g W (by omega))
          obtain ⟨t, ht⟩ : ∃ t, t = raw % c.g := ⟨_, rfl⟩
          rw [← ht] at hrn ht1 ht2 HMO
          obtain ⟨be, hbe⟩ : ∃ be, be = raw - t := ⟨_, rfl⟩
          have k4 : IntKind.i64.wrap (raw - t) = be := by rw [← hbe]; exact IntWalk.i64_in _ (by omega)
          have k5 : IntKind.i64.wrap (raw - be) = t := by rw [hbe, show raw - (raw - t) = t by omega]; exact IntWalk.i64_in _ (by omega)
          have k6 : IntKind.i64.wrap (2 * t) = 2 * t := IntWalk.i64_in _ (by omega)
          have k7 : IntKind.i64.wrap (be + c.g) = be + c.g := IntWalk.i64_in _ (by omega)
          rw [← hbe] at hrn
          have hbb : -4000000000000000000 ≤ be ∧ be ≤ 3000000000000000000 := by omega
          clear hE hdr hj ho hi b1 b2 b3 b4 hdrr hraw ht ht1 ht2 hbe
          by_cases hh : c.g ≤ 2 * t
          · rw [if_pos hh] at hrn
            have hwv : wrapS c (be + c.g) = shownS c seed s d := by rw [HSH.out, hrn]
            have HW := Lib.hid (fun W => HWR.out (be + c.g) W (by omega))
            rw [hwv] at HW
            clear hwv
            clear hrn hbb hg HWR HSH
            go_enter Tryz.func29, Tryz.ntmps29
            go_wp2_with fail
            refine (HCK.out _).mono ?_
            rintro e w1 ⟨rfl, hb⟩
            have A1 := Lib.hid (below_go A0.out hb)
            have HB1 := Lib.hid (HB.out.below hb)
            clear x0 x1 x2 x3 x4 x5 x6 hz hb
            obtain ⟨x0, x1, x2, x3, x4, x5, x6⟩ := HB1.out
            have hz := cell_lt x0
            go_wp2_with fail
            refine (HM.out _).mono ?_
            rintro e w2 ⟨rfl, hb⟩
            have A2 := Lib.hid (below_go A1.out hb)
            have HB2 := HB1.out.below hb
            clear x0 x1 x2 x3 x4 x5 x6 hz hb
            obtain ⟨x0, x1, x2, x3, x4, x5, x6⟩ := HB2
            have hz := cell_lt x0
            go_wp2_with (first | (go_at_call 60; refine (HDR.out _).mono ?_; rintro e w3 ⟨rfl, rfl⟩) | (go_at_call 61; refine (HMO.out _).mono ?_; rintro e w4 ⟨rfl, rfl⟩) | (go_at_call 35; refine (HW.out _).mono ?_; rintro e w5 ⟨rfl, hb5⟩; have A3 := Lib.hid (below_go A2.out hb5); clear hb5))
            go_ret2
            exact ⟨rfl, A3.out⟩
          · rw [if_neg hh] at hrn
            have hwv : wrapS c be = shownS c seed s d := by rw [HSH.out, hrn]
            have HW := Lib.hid (fun W => HWR.out be W (by omega))
            rw [hwv] at HW
            clear hwv
            clear hrn hbb hg HWR HSH
            go_enter Tryz.func29, Tryz.ntmps29
            go_wp2_with fail
            refine (HCK.out _).mono ?_
            rintro e w1 ⟨rfl, hb⟩
            have A1 := Lib.hid (below_go A0.out hb)
            have HB1 := Lib.hid (HB.out.below hb)
            clear x0 x1 x2 x3 x4 x5 x6 hz hb
            obtain ⟨x0, x1, x2, x3, x4, x5, x6⟩ := HB1.out
            have hz := cell_lt x0
            go_wp2_with fail
            refine (HM.out _).mono ?_
            rintro e w2 ⟨rfl, hb⟩
            have A2 := Lib.hid (below_go A1.out hb)
            have HB2 := HB1.out.below hb
            clear x0 x1 x2 x3 x4 x5 x6 hz hb
            obtain ⟨x0, x1, x2, x3, x4, x5, x6⟩ := HB2
            have hz := cell_lt x0
            go_wp2_with (first | (go_at_call 60; refine (HDR.out _).mono ?_; rintro e w3 ⟨rfl, rfl⟩) | (go_at_call 61; refine (HMO.out _).mono ?_; rintro e w4 ⟨rfl, rfl⟩) | (go_at_call 35; refine (HW.out _).mono ?_; rintro e w5 ⟨rfl, hb5⟩; have A3 := Lib.hid (below_go A2.out hb5); clear hb5))
            go_ret2
            exact ⟨rfl, A3.out⟩
    · rw [if_neg hm] at hE
      rw [hE, if_neg (by decide)]
      rw [show meetB c s = false by simpa using hm] at HM
      clear hE hm
      go_enter Tryz.func29, Tryz.ntmps29
      go_wp2_with fail
      refine (HCK.out _).mono ?_
      rintro e w1 ⟨rfl, hb⟩
      have A1 := Lib.hid (below_go A0.out hb)
      have HB1 := HB.out.below hb
      clear x0 x1 x2 x3 x4 x5 x6 hz hb
      obtain ⟨x0, x1, x2, x3, x4, x5, x6⟩ := HB1
      have hz := cell_lt x0
      go_wp2_with (go_at_call 41; refine (HM.out _).mono ?_; rintro e w2 ⟨rfl, hb⟩; have A2 := Lib.hid (below_go A1.out hb); clear hb)
      go_ret2
      exact ⟨rfl, A2.out⟩
  · rw [show checkC c = 30 from if_neg hc] at HCK
    have hE : showErr c s d = 30 := if_neg hc
    rw [hE, if_neg (by decide)]
    clear hE hc
    go_enter Tryz.func29, Tryz.ntmps29
    go_wp2_with (go_at_call 27; refine (HCK.out _).mono ?_; rintro e w1 ⟨rfl, hb⟩; have A1 := Lib.hid (below_go A0.out hb); clear hb)
    go_ret2
    exact ⟨rfl, A1.out⟩
end Go.Proofs.YtlelamjbfjneiaaGreatDoor.Ct
namespace Go.Proofs.YtlelamjbfjneiaaGreatDoor.Ct
open Go Go.RowKit Go.Shelf
attribute [local go_sem] Oper.semAt_some
theorem RObsAt.new (w : World) (c : Cnt) (W : Wd.Wld) (p1 p2 : Option Addr) (k1 k2 : Nat) : ObsAt w ((w.alloc (.cells #[.int .i64 c.f, .int .i64 c.o, .int .i64 c.j, .int .i64 c.g, .int .i64 c.r, .int .i64 c.d, .int .i64 c.i] 23)).alloc (.cells #[.int .u64 W.seed, .slice p1 W.chs.length k1, .slice p2 W.cls.length k2] 28)) c W p1 p2 k1 k2 :=
  ⟨(RBox.new w c).below (below_alloc (Below.refl _ _) _), by simp, by simp, by simp, below_alloc (below_alloc (Below.refl _ _) _) _⟩
/-- the reference's Shown, in every later memory -/
def RShown (W : Wd.Wld) (p1 p2 : Option Addr) (k1 k2 : Nat) (w : World) : Prop :=
  ∀ k s X, Below w.heap.size w X → Calls Tryz.prog 28 #[.agg #[.int .u64 W.seed, .slice p1 W.chs.length k1, .slice p2 W.cls.length k2], .int .i64 k, .int .i64 s] X fun en Y => en = .returned (.tuple #[.int .i64 (Wd.shownE W k s).v, .int .i64 (Wd.shownE W k s).e]) ∧ Below X.heap.size X Y
theorem rshownAs {W : Wd.Wld} {p1 p2 : Option Addr} {k1 k2 : Nat} {w : World} (h : RShown W p1 p2 k1 k2 w) (k s : Int) {x e : Int} (hx : Wd.shownE W k s = ⟨x, e⟩) :
    ∀ X, Below w.heap.size w X → Calls Tryz.prog 28 #[.agg #[.int .u64 W.seed, .slice p1 W.chs.length k1, .slice p2 W.cls.length k2], .int .i64 k, .int .i64 s] X fun en Y => en = .returned (.tuple #[.int .i64 x, .int .i64 e]) ∧ Below X.heap.size X Y := fun X hb => by
  have := h k s X hb
  rw [hx] at this
  exact this
set_option maxRecDepth 100000 in
set_option maxHeartbeats 4000000 in
theorem rObserve_any (c : Cnt) (W : Wd.Wld) (a b s : Int) (p1 p2 : Option Addr) (k1 k2 : Nat) (w : World) (HS : RShown W p1 p2 k1 k2 w) :
    Calls Tryz.prog 9 #[cntVal c, wV W p1 p2 k1 k2, .int .i64 a, .int .i64 b, .int .i64 s] w fun e w' => e = .returned (.tuple #[.int .i64 (obsE c W a b s).1, .int .i64 (obsE c W a b s).2]) ∧ Below w.heap.size w w' := by
  have HB := Lib.hid (RObsAt.new w c W p1 p2 k1 k2)
  have HCK := Lib.hid (fun W => rcheck_any c W)
  obtain ⟨⟨x, ex⟩, hx⟩ : ∃ r, r = Wd.shownE W a s := ⟨_, rfl⟩
  obtain ⟨⟨y, ey⟩, hy⟩ : ∃ r, r = Wd.shownE W b s := ⟨_, rfl⟩
  have HX := Lib.hid (rshownAs HS a s hx.symm)
  have HY := Lib.hid (rshownAs HS b s hy.symm)
  have hxs := shown_small W a s
  have hys := shown_small W b s
  rw [← hx] at hxs
  rw [← hy] at hys
  dsimp only at hxs hys
  obtain ⟨⟨m, g⟩, hmg⟩ : ∃ r, r = obsE c W a b s := ⟨_, rfl⟩
  rw [← hmg]
  unfold obsE at hmg
  rw [← hx, ← hy] at hmg
  dsimp only at hmg
  unfold cntVal at *
  unfold wV
  clear HS hx hy
  by_cases hc : cntB c = true
  · rw [if_pos hc] at hmg
    rw [show checkC c = 0 from if_pos hc] at HCK
    clear hc
    by_cases h1 : ex = 0
    · rw [if_pos h1] at hmg
      have hxs' := hxs h1
      subst h1
      by_cases h2 : ey = 0
      · rw [if_pos h2] at hmg
        have hys' := hys h2
        subst h2
        by_cases h3 : a = b
        · rw [if_pos h3] at hmg
          obtain ⟨rfl, rfl⟩ := Prod.mk.inj hmg
          subst h3
          clear hxs' hys'
          clear hmg hxs hys
          go_enter Tryz.func9, Tryz.ntmps9
          go_upto_region 1 with fail
          generalize ((w.alloc (.cells #[.int .i64 c.f, .int .i64 c.o, .int .i64 c.j, .int .i64 c.g, .int .i64 c.r, .int .i64 c.d, .int .i64 c.i] 23)).alloc (.cells #[.int .u64 W.seed, .slice p1 W.chs.length k1, .slice p2 W.cls.length k2] 28)) = W0 at *
          obtain ⟨x0, x1, x2, x3, x4, x5, x6⟩ := HB.out.cb
          have zx := cell_lt x0
          go_upto_region 3 with (go_at_call 27; refine (HCK.out _).mono ?_; rintro e w1 ⟨rfl, hb1⟩; have HB1 := Lib.hid (HB.out.below hb1); clear hb1)
          clear x0 x1 x2 x3 x4 x5 x6 zx HB
          obtain ⟨-, l0, l1, l2, -⟩ := HB1.out
          have zl := cell_lt l0
          go_upto_region 4 with (go_at_call 28; refine (HX.out _ HB1.out.bel).mono ?_; rintro e w2 ⟨rfl, hb2⟩; have HB2 := Lib.hid (HB1.out.below hb2); clear hb2)
          clear l0 l1 l2 zl HB1
          obtain ⟨-, l0, l1, l2, -⟩ := HB2.out
          have zl := cell_lt l0
          go_upto_region 7 with (go_at_call 28; refine (HY.out _ HB2.out.bel).mono ?_; rintro e w3 ⟨rfl, hb3⟩; have HB3 := Lib.hid (HB2.out.below hb3); clear hb3)
          clear l0 l1 l2 zl HB2
          go_wp2_with fail
          go_ret2
          exact ⟨rfl, HB3.out.bel⟩
        · rw [if_neg h3] at hmg
          have kw : IntKind.i64.wrap (x - y) = x - y := IntWalk.i64_in _ (by omega)
          have HSW := Lib.hid (fun X => rShow_any c W.seed s (x - y) X)
          obtain ⟨hm, hg⟩ := Prod.mk.inj hmg
          rw [← hm, ← hg] at HSW
          unfold cntVal at HSW
          clear hmg hxs hys hm hg hxs' hys'
          go_enter Tryz.func9, Tryz.ntmps9
          go_upto_region 1 with fail
          generalize ((w.alloc (.cells #[.int .i64 c.f, .int .i64 c.o, .int .i64 c.j, .int .i64 c.g, .int .i64 c.r, .int .i64 c.d, .int .i64 c.i] 23)).alloc (.cells #[.int .u64 W.seed, .slice p1 W.chs.length k1, .slice p2 W.cls.length k2] 28)) = W0 at *
          obtain ⟨x0, x1, x2, x3, x4, x5, x6⟩ := HB.out.cb
          have zx := cell_lt x0
          go_upto_region 3 with (go_at_call 27; refine (HCK.out _).mono ?_; rintro e w1 ⟨rfl, hb1⟩; have HB1 := Lib.hid (HB.out.below hb1); clear hb1)
          clear x0 x1 x2 x3 x4 x5 x6 zx HB
          obtain ⟨-, l0, l1, l2, -⟩ := HB1.out
          have zl := cell_lt l0
          go_upto_region 4 with (go_at_call 28; refine (HX.out _ HB1.out.bel).mono ?_; rintro e w2 ⟨rfl, hb2⟩; have HB2 := Lib.hid (HB1.out.below hb2); clear hb2)
          clear l0 l1 l2 zl HB1
          obtain ⟨-, l0, l1, l2, -⟩ := HB2.out
          have zl := cell_lt l0
          go_upto_region 7 with (go_at_call 28; refine (HY.out _ HB2.out.bel).mono ?_; rintro e w3 ⟨rfl, hb3⟩; have HB3 := Lib.hid (HB2.out.below hb3); clear hb3)
          clear l0 l1 l2 zl HB2
          obtain ⟨-, l0, l1, l2, -⟩ := HB3.out
          have zl := cell_lt l0
          obtain ⟨x0, x1, x2, x3, x4, x5, x6⟩ := HB3.out.cb
          have zx := cell_lt x0
          go_wp2_with (go_at_call 29; refine (HSW.out _).mono ?_; rintro e w4 ⟨rfl, hb4⟩; have HB4 := Lib.hid (HB3.out.below hb4); clear hb4)
          go_ret2
          exact ⟨rfl, HB4.out.bel⟩
      · rw [if_neg h2] at hmg
        obtain ⟨rfl, rfl⟩ := Prod.mk.inj hmg
        have hge : (g != 0) = true := by simpa using h2
        clear hxs'
        clear hmg hxs hys
        go_enter Tryz.func9, Tryz.ntmps9
        go_upto_region 1 with fail
        generalize ((w.alloc (.cells #[.int .i64 c.f, .int .i64 c.o, .int .i64 c.j, .int .i64 c.g, .int .i64 c.r, .int .i64 c.d, .int .i64 c.i] 23)).alloc (.cells #[.int .u64 W.seed, .slice p1 W.chs.length k1, .slice p2 W.cls.length k2] 28)) = W0 at *
        obtain ⟨x0, x1, x2, x3, x4, x5, x6⟩ := HB.out.cb
        have zx := cell_lt x0
        go_upto_region 3 with (go_at_call 27; refine (HCK.out _).mono ?_; rintro e w1 ⟨rfl, hb1⟩; have HB1 := Lib.hid (HB.out.below hb1); clear hb1)
        clear x0 x1 x2 x3 x4 x5 x6 zx HB
        obtain ⟨-, l0, l1, l2, -⟩ := HB1.out
        have zl := cell_lt l0
        go_upto_region 4 with (go_at_call 28; refine (HX.out _ HB1.out.bel).mono ?_; rintro e w2 ⟨rfl, hb2⟩; have HB2 := Lib.hid (HB1.out.below hb2); clear hb2)
        clear l0 l1 l2 zl HB1
        obtain ⟨-, l0, l1, l2, -⟩ := HB2.out
        have zl := cell_lt l0
        go_wp2_with (go_at_call 28; refine (HY.out _ HB2.out.bel).mono ?_; rintro e w3 ⟨rfl, hb3⟩; have HB3 := Lib.hid (HB2.out.below hb3); clear hb3)
        go_ret2
        exact ⟨rfl, HB3.out.bel⟩
    · rw [if_neg h1] at hmg
      obtain ⟨rfl, rfl⟩ := Prod.mk.inj hmg
      have hge : (g != 0) = true := by simpa using h1
      clear hmg hxs hys
      go_enter Tryz.func9, Tryz.ntmps9
      go_upto_region 1 with fail
      generalize ((w.alloc (.cells #[.int .i64 c.f, .int .i64 c.o, .int .i64 c.j, .int .i64 c.g, .int .i64 c.r, .int .i64 c.d, .int .i64 c.i] 23)).alloc (.cells #[.int .u64 W.seed, .slice p1 W.chs.length k1, .slice p2 W.cls.length k2] 28)) = W0 at *
      obtain ⟨x0, x1, x2, x3, x4, x5, x6⟩ := HB.out.cb
      have zx := cell_lt x0
      go_upto_region 3 with (go_at_call 27; refine (HCK.out _).mono ?_; rintro e w1 ⟨rfl, hb1⟩; have HB1 := Lib.hid (HB.out.below hb1); clear hb1)
      clear x0 x1 x2 x3 x4 x5 x6 zx HB
      obtain ⟨-, l0, l1, l2, -⟩ := HB1.out
      have zl := cell_lt l0
      go_wp2_with (go_at_call 28; refine (HX.out _ HB1.out.bel).mono ?_; rintro e w2 ⟨rfl, hb2⟩; have HB2 := Lib.hid (HB1.out.below hb2); clear hb2)
      go_ret2
      exact ⟨rfl, HB2.out.bel⟩
  · rw [if_neg hc] at hmg
    rw [show checkC c = 30 from if_neg hc] at HCK
    obtain ⟨rfl, rfl⟩ := Prod.mk.inj hmg
    clear hc
    clear hmg hxs hys
    go_enter Tryz.func9, Tryz.ntmps9
    go_upto_region 1 with fail
    generalize ((w.alloc (.cells #[.int .i64 c.f, .int .i64 c.o, .int .i64 c.j, .int .i64 c.g, .int .i64 c.r, .int .i64 c.d, .int .i64 c.i] 23)).alloc (.cells #[.int .u64 W.seed, .slice p1 W.chs.length k1, .slice p2 W.cls.length k2] 28)) = W0 at *
    obtain ⟨x0, x1, x2, x3, x4, x5, x6⟩ := HB.out.cb
    have zx := cell_lt x0
    go_wp2_with (go_at_call 27; refine (HCK.out _).mono ?_; rintro e w1 ⟨rfl, hb1⟩; have HB1 := Lib.hid (HB.out.below hb1); clear hb1)
    go_ret2
    exact ⟨rfl, HB1.out.bel⟩
end Go.Proofs.YtlelamjbfjneiaaGreatDoor.Ct
namespace Go.Proofs.YtlelamjbfjneiaaGreatDoor.Ct
open Go Go.RowKit Go.Shelf
attribute [local go_sem] Oper.semAt_some
set_option maxRecDepth 100000 in
set_option maxHeartbeats 4000000 in
theorem rWatch_no (c : Cnt) (W : Wd.Wld) (a b from_ step n r : Int) (p1 p2 : Option Addr) (k1 k2 : Nat) (w : World) (h : cntB c = false ∧ r = 30 ∨ cntB c = true ∧ r = 1 ∧ (step < 1 ∨ ¬ (0 ≤ n ∧ n ≤ 2000))) :
    Calls Tryz.prog 11 #[cntVal c, wV W p1 p2 k1 k2, .int .i64 a, .int .i64 b, .int .i64 from_, .int .i64 step, .int .i64 n] w fun e w' => e = .returned (.tuple #[.slice none 0 0, .int .i64 r]) ∧ Below w.heap.size w w' := by
  have HB := Lib.hid (RObsAt.new w c W p1 p2 k1 k2)
  have HCK := Lib.hid (fun W => rcheck_any c W)
  unfold cntVal at *
  unfold wV
  rcases h with ⟨hc, rfl⟩ | ⟨hc, rfl, h1⟩
  · rw [show checkC c = 30 from if_neg (by rw [hc]; decide)] at HCK
    clear hc
    go_enter Tryz.func11, Tryz.ntmps11
    go_upto_region 1 with fail
    generalize ((w.alloc (.cells #[.int .i64 c.f, .int .i64 c.o, .int .i64 c.j, .int .i64 c.g, .int .i64 c.r, .int .i64 c.d, .int .i64 c.i] 23)).alloc (.cells #[.int .u64 W.seed, .slice p1 W.chs.length k1, .slice p2 W.cls.length k2] 28)) = W0 at *
    obtain ⟨x0, x1, x2, x3, x4, x5, x6⟩ := HB.out.cb
    have zx := cell_lt x0
    go_wp2_with (go_at_call 27; refine (HCK.out _).mono ?_; rintro e w1 ⟨rfl, hb1⟩; have HB1 := Lib.hid (HB.out.below hb1); clear hb1)
    go_ret2
    exact ⟨rfl, HB1.out.bel⟩
  · rw [show checkC c = 0 from if_pos hc] at HCK
    clear hc
    by_cases h2 : step < 1
    · clear h1
      go_enter Tryz.func11, Tryz.ntmps11
      go_upto_region 1 with fail
      generalize ((w.alloc (.cells #[.int .i64 c.f, .int .i64 c.o, .int .i64 c.j, .int .i64 c.g, .int .i64 c.r, .int .i64 c.d, .int .i64 c.i] 23)).alloc (.cells #[.int .u64 W.seed, .slice p1 W.chs.length k1, .slice p2 W.cls.length k2] 28)) = W0 at *
      obtain ⟨x0, x1, x2, x3, x4, x5, x6⟩ := HB.out.cb
      have zx := cell_lt x0
      go_wp2_with (go_at_call 27; refine (HCK.out _).mono ?_; rintro e w1 ⟨rfl, hb1⟩; have HB1 := Lib.hid (HB.out.below hb1); clear hb1)
      go_ret2
      exact ⟨rfl, HB1.out.bel⟩
    · have h3 := h1.resolve_left h2
      clear h1
      by_cases h4 : n < 0
      · clear h3
        go_enter Tryz.func11, Tryz.ntmps11
        go_upto_region 1 with fail
        generalize ((w.alloc (.cells #[.int .i64 c.f, .int .i64 c.o, .int .i64 c.j, .int .i64 c.g, .int .i64 c.r, .int .i64 c.d, .int .i64 c.i] 23)).alloc (.cells #[.int .u64 W.seed, .slice p1 W.chs.length k1, .slice p2 W.cls.length k2] 28)) = W0 at *
        obtain ⟨x0, x1, x2, x3, x4, x5, x6⟩ := HB.out.cb
        have zx := cell_lt x0
        go_wp2_with (go_at_call 27; refine (HCK.out _).mono ?_; rintro e w1 ⟨rfl, hb1⟩; have HB1 := Lib.hid (HB.out.below hb1); clear hb1)
        go_ret2
        exact ⟨rfl, HB1.out.bel⟩
      · have h5 : 2000 < n := by omega
        clear h3
        go_enter Tryz.func11, Tryz.ntmps11
        go_upto_region 1 with fail
        generalize ((w.alloc (.cells #[.int .i64 c.f, .int .i64 c.o, .int .i64 c.j, .int .i64 c.g, .int .i64 c.r, .int .i64 c.d, .int .i64 c.i] 23)).alloc (.cells #[.int .u64 W.seed, .slice p1 W.chs.length k1, .slice p2 W.cls.length k2] 28)) = W0 at *
        obtain ⟨x0, x1, x2, x3, x4, x5, x6⟩ := HB.out.cb
        have zx := cell_lt x0
        go_wp2_with (go_at_call 27; refine (HCK.out _).mono ?_; rintro e w1 ⟨rfl, hb1⟩; have HB1 := Lib.hid (HB.out.below hb1); clear hb1)
        go_ret2
        exact ⟨rfl, HB1.out.bel⟩
end Go.Proofs.YtlelamjbfjneiaaGreatDoor.Ct
