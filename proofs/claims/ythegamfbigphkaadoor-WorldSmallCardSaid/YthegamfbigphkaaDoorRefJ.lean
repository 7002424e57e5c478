/- Contracts of the reference's exported calls: Runs, Phase, Shown. -/
import Derived.Test.YthegamfbigphkaaDoorRefI
namespace Go.Proofs.YthegamfbigphkaaDoor
open Go Go.RowKit
set_option maxRecDepth 100000 in
set_option maxHeartbeats 2000000 in
theorem rPhase_any (W : Wld) (k s : Int) (p1 p2 : Option Addr) (c1 c2 : Nat) (w : World) (hW : WldIn w W p1 p2) :
    Calls Tryd.prog 20 #[.agg #[.int .u64 W.seed, .slice p1 W.chs.length c1, .slice p2 W.cls.length c2], .int .i64 k, .int .i64 s] w fun e w' => e = .returned (.tuple #[.int .i64 (phaseE W k s).v, .int .i64 (phaseE W k s).e]) ∧ Below w.heap.size w w' := by
  have hm2 := hW.2.1
  unfold maxLen at hm2
  have a0 := below_alloc' (Below.refl w.heap.size w) (.cells #[.int .u64 W.seed, .slice p1 W.chs.length c1, .slice p2 W.cls.length c2] 26)
  have x0 : (w.alloc (.cells #[.int .u64 W.seed, .slice p1 W.chs.length c1, .slice p2 W.cls.length c2] 26)).cell? ⟨w.heap.size, 0, none⟩ = some (.int .u64 W.seed) := by simp
  have x1 : (w.alloc (.cells #[.int .u64 W.seed, .slice p1 W.chs.length c1, .slice p2 W.cls.length c2] 26)).cell? ⟨w.heap.size, 1, none⟩ = some (.slice p1 W.chs.length c1) := by simp
  have x2 : (w.alloc (.cells #[.int .u64 W.seed, .slice p1 W.chs.length c1, .slice p2 W.cls.length c2] 26)).cell? ⟨w.heap.size, 2, none⟩ = some (.slice p2 W.cls.length c2) := by simp
  have X0 := Lib.hid x0
  have X1 := Lib.hid x1
  have X2 := Lib.hid x2
  have HW0 := Lib.hid (hW.below a0)
  have A0 := Lib.hid a0
  clear hW a0 x0 x1 x2
  by_cases he : findErr W k [s] = 0
  · have al := allowed_find he
    obtain ⟨s0, s1⟩ := sec_of he
    have HE := Lib.hid he
    have AL := Lib.hid al
    have hfin := show phaseE W k s = _ from if_pos he
    have HF := Lib.hid hfin
    clear hfin
    clear al he
    go_enter Tryd.func20, Tryd.ntmps20
    go_wp2_with fail
    refine (clocked_any W k s p1 p2 c1 c2 _ HW0.out).mono ?_
    rintro e w1 ⟨rfl, hb1⟩
    rw [HE.out]
    have HB1 := Lib.hid (A0.out.trans (hb1.mono A0.out.size))
    have HW1 := Lib.hid (HW0.out.below hb1)
    have y0 := cell_below hb1 X0.out
    have y1 := cell_below hb1 X1.out
    have y2 := cell_below hb1 X2.out
    have hz := cell_lt y0
    clear hb1 X0 X1 X2 HW0
    go_wp2_with fail
    refine (rphase_any W k s p1 p2 c1 c2 _ HW1.out AL.out s0 s1).mono ?_
    rintro e w2 ⟨rfl, hb2⟩
    have HB2 := Lib.hid (HB1.out.trans (hb2.mono HB1.out.size))
    clear hb2
    go_wp2
    go_ret2
    exact ⟨by rw [HF.out]; rfl, HB2.out⟩
  · have hne : (findErr W k [s] != 0) = true := by simpa using he
    have hne2 : (findErr W k [s] == 0) = false := by simpa using he
    have hfin := show phaseE W k s = _ from if_neg he
    have HF := Lib.hid hfin
    clear he hfin X0 X1 X2
    go_enter Tryd.func20, Tryd.ntmps20
    go_wp2_with fail
    refine (clocked_any W k s p1 p2 c1 c2 _ HW0.out).mono ?_
    rintro e w1 ⟨rfl, hb1⟩
    have HB1 := Lib.hid (A0.out.trans (hb1.mono A0.out.size))
    clear hb1
    go_wp2
    go_ret2
    exact ⟨by rw [HF.out]; rfl, HB1.out⟩
set_option maxRecDepth 100000 in
set_option maxHeartbeats 2000000 in
theorem rRuns_any (W : Wld) (k s : Int) (p1 p2 : Option Addr) (c1 c2 : Nat) (w : World) (hW : WldIn w W p1 p2) :
    Calls Tryd.prog 18 #[.agg #[.int .u64 W.seed, .slice p1 W.chs.length c1, .slice p2 W.cls.length c2], .int .i64 k, .int .i64 s] w fun e w' => e = .returned (.tuple #[.bool (runsE W k s).v, .int .i64 (runsE W k s).e]) ∧ Below w.heap.size w w' := by
  have hm2 := hW.2.1
  unfold maxLen at hm2
  have a0 := below_alloc' (Below.refl w.heap.size w) (.cells #[.int .u64 W.seed, .slice p1 W.chs.length c1, .slice p2 W.cls.length c2] 26)
  have x0 : (w.alloc (.cells #[.int .u64 W.seed, .slice p1 W.chs.length c1, .slice p2 W.cls.length c2] 26)).cell? ⟨w.heap.size, 0, none⟩ = some (.int .u64 W.seed) := by simp
  have x1 : (w.alloc (.cells #[.int .u64 W.seed, .slice p1 W.chs.length c1, .slice p2 W.cls.length c2] 26)).cell? ⟨w.heap.size, 1, none⟩ = some (.slice p1 W.chs.length c1) := by simp
  have x2 : (w.alloc (.cells #[.int .u64 W.seed, .slice p1 W.chs.length c1, .slice p2 W.cls.length c2] 26)).cell? ⟨w.heap.size, 2, none⟩ = some (.slice p2 W.cls.length c2) := by simp
  have X0 := Lib.hid x0
  have X1 := Lib.hid x1
  have X2 := Lib.hid x2
  have HW0 := Lib.hid (hW.below a0)
  have A0 := Lib.hid a0
  clear hW a0 x0 x1 x2
  by_cases he : findErr W k [s] = 0
  · have al := allowed_find he
    obtain ⟨s0, s1⟩ := sec_of he
    have HE := Lib.hid he
    have AL := Lib.hid al
    have hfin := show runsE W k s = _ from if_pos he
    have HF := Lib.hid hfin
    clear hfin
    clear al he
    go_enter Tryd.func18, Tryd.ntmps18
    go_wp2_with fail
    refine (clocked_any W k s p1 p2 c1 c2 _ HW0.out).mono ?_
    rintro e w1 ⟨rfl, hb1⟩
    rw [HE.out]
    have HB1 := Lib.hid (A0.out.trans (hb1.mono A0.out.size))
    have HW1 := Lib.hid (HW0.out.below hb1)
    have y0 := cell_below hb1 X0.out
    have y1 := cell_below hb1 X1.out
    have y2 := cell_below hb1 X2.out
    have hz := cell_lt y0
    clear hb1 X0 X1 X2 HW0
    obtain ⟨b2, o2, rfl, hkl, hkk, hcl⟩ := clk_at HW1.out AL.out
    obtain ⟨⟨m0, m1, m2, m3, m4, m5, m6, m7⟩, v, m8, hv⟩ := hcl
    have HV := Lib.hid hv
    have hevs := AL.out.cin.evs
    have HEVS := Lib.hid hevs
    obtain ⟨pv, cv, rfl, -, -⟩ := hv
    clear hevs
    have hjl : ((k.toNat : Nat) : Int) < (W.cls.length : Int) := by omega
    have hzm := cell_lt m0
    have hk2 : k < (W.cls.length : Int) := by omega
    have hk0 : 0 ≤ k := by omega
    go_wp2_with (go_at_call 66; refine (running_any (clkOf W k).kind (clkOf W k).phase (clkOf W k).rate (clkOf W k).drift (clkOf W k).white (clkOf W k).walk (clkOf W k).heat (clkOf W k).room (clkOf W k).evs _ s _ HV.out HEVS.out).mono ?_; rintro e w2 ⟨rfl, hb2⟩; have HB2 := Lib.hid hb2; clear hb2)
    go_ret2
    exact ⟨by rw [HF.out]; rfl, HB1.out.trans (HB2.out.mono HB1.out.size)⟩
  · have hne : (findErr W k [s] != 0) = true := by simpa using he
    have hne2 : (findErr W k [s] == 0) = false := by simpa using he
    have hfin := show runsE W k s = _ from if_neg he
    have HF := Lib.hid hfin
    clear he hfin X0 X1 X2
    go_enter Tryd.func18, Tryd.ntmps18
    go_wp2_with fail
    refine (clocked_any W k s p1 p2 c1 c2 _ HW0.out).mono ?_
    rintro e w1 ⟨rfl, hb1⟩
    have HB1 := Lib.hid (A0.out.trans (hb1.mono A0.out.size))
    clear hb1
    go_wp2
    go_ret2
    exact ⟨by rw [HF.out]; rfl, HB1.out⟩
set_option maxRecDepth 100000 in
set_option maxHeartbeats 2000000 in
theorem rShown_any (W : Wld) (k s : Int) (p1 p2 : Option Addr) (c1 c2 : Nat) (w : World) (hW : WldIn w W p1 p2) :
    Calls Tryd.prog 22 #[.agg #[.int .u64 W.seed, .slice p1 W.chs.length c1, .slice p2 W.cls.length c2], .int .i64 k, .int .i64 s] w fun e w' => e = .returned (.tuple #[.int .i64 (shownE W k s).v, .int .i64 (shownE W k s).e]) ∧ Below w.heap.size w w' := by
  have hm2 := hW.2.1
  unfold maxLen at hm2
  have a0 := below_alloc' (Below.refl w.heap.size w) (.cells #[.int .u64 W.seed, .slice p1 W.chs.length c1, .slice p2 W.cls.length c2] 26)
  have x0 : (w.alloc (.cells #[.int .u64 W.seed, .slice p1 W.chs.length c1, .slice p2 W.cls.length c2] 26)).cell? ⟨w.heap.size, 0, none⟩ = some (.int .u64 W.seed) := by simp
  have x1 : (w.alloc (.cells #[.int .u64 W.seed, .slice p1 W.chs.length c1, .slice p2 W.cls.length c2] 26)).cell? ⟨w.heap.size, 1, none⟩ = some (.slice p1 W.chs.length c1) := by simp
  have x2 : (w.alloc (.cells #[.int .u64 W.seed, .slice p1 W.chs.length c1, .slice p2 W.cls.length c2] 26)).cell? ⟨w.heap.size, 2, none⟩ = some (.slice p2 W.cls.length c2) := by simp
  have X0 := Lib.hid x0
  have X1 := Lib.hid x1
  have X2 := Lib.hid x2
  have HW0 := Lib.hid (hW.below a0)
  have A0 := Lib.hid a0
  clear hW a0 x0 x1 x2
  by_cases he : findErr W k [s] = 0
  · have al := allowed_find he
    obtain ⟨s0, s1⟩ := sec_of he
    have HE := Lib.hid he
    have AL := Lib.hid al
    have hre := show runErr W k s = _ from if_pos he
    have HRE := Lib.hid hre
    clear hre
    clear al he
    go_enter Tryd.func22, Tryd.ntmps22
    go_wp2_with fail
    refine (clocked_any W k s p1 p2 c1 c2 _ HW0.out).mono ?_
    rintro e w1 ⟨rfl, hb1⟩
    rw [HE.out]
    have HB1 := Lib.hid (A0.out.trans (hb1.mono A0.out.size))
    have HW1 := Lib.hid (HW0.out.below hb1)
    have y0 := cell_below hb1 X0.out
    have y1 := cell_below hb1 X1.out
    have y2 := cell_below hb1 X2.out
    have hz := cell_lt y0
    clear hb1 X0 X1 X2 HW0
    obtain ⟨b2, o2, rfl, hkl, hkk, hcl⟩ := clk_at HW1.out AL.out
    obtain ⟨⟨m0, m1, m2, m3, m4, m5, m6, m7⟩, v, m8, hv⟩ := hcl
    have HV := Lib.hid hv
    have hevs := AL.out.cin.evs
    have HEVS := Lib.hid hevs
    obtain ⟨pv, cv, rfl, -, -⟩ := hv
    clear hevs
    have hjl : ((k.toNat : Nat) : Int) < (W.cls.length : Int) := by omega
    have hzm := cell_lt m0
    have hk2 : k < (W.cls.length : Int) := by omega
    have hk0 : 0 ≤ k := by omega
    cases hrun : runsS (clkOf W k) s
    · have hr2 : runsL (clkOf W k).evs s = false := hrun
      have hfin : shownE W k s = ⟨0, 22⟩ := by
        have := HRE.out
        rw [hrun] at this
        unfold shownE
        rw [this]; rfl
      have HF := Lib.hid hfin
      clear hfin hrun HRE
      go_wp2_with (go_at_call 66; refine (running_any (clkOf W k).kind (clkOf W k).phase (clkOf W k).rate (clkOf W k).drift (clkOf W k).white (clkOf W k).walk (clkOf W k).heat (clkOf W k).room (clkOf W k).evs _ s _ HV.out HEVS.out).mono ?_; rintro e w2 ⟨rfl, hb2⟩; have HB2 := Lib.hid hb2; clear hb2)
      go_ret2
      exact ⟨by rw [HF.out]; rfl, HB1.out.trans (HB2.out.mono HB1.out.size)⟩
    · have hr2 : runsL (clkOf W k).evs s = true := hrun
      have hfin : shownE W k s = ⟨shownS W.seed k (clkOf W k) (roomOf W k) s, 0⟩ := by
        have := HRE.out
        rw [hrun] at this
        unfold shownE
        rw [this]; rfl
      have HF := Lib.hid hfin
      clear hfin hrun HRE
      have Y0 := Lib.hid y0
      have Y1 := Lib.hid y1
      have Y2 := Lib.hid y2
      go_wp2_with (go_at_call 66; refine (running_any (clkOf W k).kind (clkOf W k).phase (clkOf W k).rate (clkOf W k).drift (clkOf W k).white (clkOf W k).walk (clkOf W k).heat (clkOf W k).room (clkOf W k).evs _ s _ HV.out HEVS.out).mono ?_; rintro e w2 ⟨rfl, hb2⟩; have z0 := cell_below hb2 Y0.out; have z1 := cell_below hb2 Y1.out; have z2 := cell_below hb2 Y2.out; have hzz := cell_lt z0; have HB2 := Lib.hid hb2; clear hb2)
      refine (rshown_any W k s p1 (some ⟨b2, o2, none⟩) c1 c2 _ (HW1.out.below HB2.out) AL.out s0 s1).mono ?_
      rintro e w3 ⟨rfl, hb3⟩
      have HB12 := Lib.hid (HB1.out.trans (HB2.out.mono HB1.out.size))
      have HB3 := Lib.hid (HB12.out.trans (hb3.mono HB12.out.size))
      clear hb3
      go_wp2
      go_ret2
      exact ⟨by rw [HF.out]; rfl, HB3.out⟩
  · have hne : (findErr W k [s] != 0) = true := by simpa using he
    have hne2 : (findErr W k [s] == 0) = false := by simpa using he
    have hfin := show runErr W k s = _ from if_neg he
    have hsf : shownE W k s = ⟨0, findErr W k [s]⟩ := by
      unfold shownE; rw [hfin, if_neg he]
    have HSF := Lib.hid hsf
    clear he hfin hsf X0 X1 X2
    go_enter Tryd.func22, Tryd.ntmps22
    go_wp2_with fail
    refine (clocked_any W k s p1 p2 c1 c2 _ HW0.out).mono ?_
    rintro e w1 ⟨rfl, hb1⟩
    have HB1 := Lib.hid (A0.out.trans (hb1.mono A0.out.size))
    clear hb1
    go_wp2
    go_ret2
    exact ⟨by rw [HSF.out]; rfl, HB1.out⟩
end Go.Proofs.YthegamfbigphkaaDoor
