/- Contracts of the reference: phases, and what is shown. · Contracts of the reference's exported calls: Runs, Phase, Shown. · Contracts of the reference's exported calls: Read, Reach, Temperature. -/
import Derived.Test.YtlelamjbfjneiaaGreatDoorQ42
import Derived.Test.YtlelamjbfjneiaaGreatDoorQ26
namespace Go.Proofs.YtlelamjbfjneiaaGreatDoor.Wd
open Go Go.RowKit
theorem rdraw_ok (sd ki cl ix mo : Int) (w : World) (h1 : 0 ≤ ki ∧ ki ≤ 9223372036854775807) (h2 : 0 ≤ cl ∧ cl ≤ 9223372036854775807) (h3 : 0 ≤ ix ∧ ix ≤ 9223372036854775807) (h4 : 0 ≤ mo ∧ mo ≤ 1000000000000000) :
    Calls Tryz.prog 60 #[.int .u64 sd, .int .i64 ki, .int .i64 cl, .int .i64 ix, .int .i64 mo] w fun e w' => e = .returned (.tuple #[.int .i64 (drawS (sourceS sd ki cl) ix mo), .int .i64 0]) ∧ w = w' := by
  have hok : drawOk ki cl ix mo = true := by
    have a : inR mo 0 1000000000000000 = true := (inR_iff _ _ _).2 h4
    simp [drawOk, h1.1, h2.1, h3.1, a]
  have he : drawE sd ki cl ix mo = ⟨drawS (sourceS sd ki cl) ix mo, 0⟩ := if_pos hok
  refine (rdraw_any sd ki cl ix mo w h1.2 h2.2 h3.2).mono fun e w' ⟨a, b⟩ => ⟨?_, b⟩
  rw [a, he]
/-- the clock of a world that is allowed, as it lies in memory -/
theorem clk_at {W : Wld} {k : Int} {p1 p2 : Option Addr} {w : World} (hW : WldIn w W p1 p2) (al : Allowed W k) :
    ∃ b2 o2, p2 = some ⟨b2, o2, none⟩ ∧ k.toNat < W.cls.length ∧ ((k.toNat : Nat) : Int) = k ∧ ClkCells w b2 (o2 + k.toNat * 9) (clkOf W k) := by
  obtain ⟨-, -, -, s2⟩ := hW
  have hk := al.hk
  obtain ⟨b2, o2, rfl, hs2⟩ := s2.resolve_left (by omega)
  have hcl := hs2 k.toNat hk
  have ec : W.cls[k.toNat] = clkOf W k := Option.some.inj ((List.getElem?_eq_getElem hk).symm.trans al.hc)
  rw [ec] at hcl
  exact ⟨b2, o2, rfl, hk, by have := al.k16; omega, hcl⟩
set_option maxRecDepth 100000 in
set_option maxHeartbeats 2000000 in
theorem rphase_any (W : Wld) (k s : Int) (p1 p2 : Option Addr) (c1 c2 : Nat) (w : World) (hW : WldIn w W p1 p2) (al : Allowed W k) (h0 : 0 ≤ s) (h1 : s ≤ 1000000) :
    Calls Tryz.prog 95 #[.agg #[.int .u64 W.seed, .slice p1 W.chs.length c1, .slice p2 W.cls.length c2], .int .i64 k, .int .i64 s] w fun e w' => e = .returned (.int .i64 (phaseS W.seed k (clkOf W k) (roomOf W k) s)) ∧ Below w.heap.size w w' := by
  have fb := fixed_bd al.cin al.rok s h0 h1
  have wb := al.cin.walk
  have hsb := fun (n : Nat) => sumDraws_bd (sourceS W.seed 1 k) (clkOf W k).walk 0 wb.1 n
  have hfin : phaseS W.seed k (clkOf W k) (roomOf W k) s = fixedS (clkOf W k) (roomOf W k) s + sumDraws (sourceS W.seed 1 k) (clkOf W k).walk 0 (s / 100).toNat := by
    unfold phaseS walkedS
    rw [show s / 100 - 0 / 100 = s / 100 by omega]; rfl
  have hm2 := hW.2.1
  unfold maxLen at hm2
  obtain ⟨b2, o2, rfl, hkl, hkk, hcl⟩ := clk_at hW al
  obtain ⟨jk, hjk⟩ : ∃ jk, jk = k.toNat := ⟨_, rfl⟩
  rw [← hjk] at hkl hkk hcl
  have a0 := below_alloc' (Below.refl w.heap.size w) (.cells #[.int .u64 W.seed, .slice p1 W.chs.length c1, .slice (some ⟨b2, o2, none⟩) W.cls.length c2] 28)
  have x0 : (w.alloc (.cells #[.int .u64 W.seed, .slice p1 W.chs.length c1, .slice (some ⟨b2, o2, none⟩) W.cls.length c2] 28)).cell? ⟨w.heap.size, 0, none⟩ = some (.int .u64 W.seed) := by simp
  have x2 : (w.alloc (.cells #[.int .u64 W.seed, .slice p1 W.chs.length c1, .slice (some ⟨b2, o2, none⟩) W.cls.length c2] 28)).cell? ⟨w.heap.size, 2, none⟩ = some (.slice (some ⟨b2, o2, none⟩) W.cls.length c2) := by simp
  have hst := still_any W k s p1 (some ⟨b2, o2, none⟩) c1 c2 _ (hW.below a0) al h0 h1
  have HST := Lib.hid hst
  have A0 := Lib.hid a0
  have HCL := Lib.hid hcl
  have HSB := Lib.hid hsb
  have HF := Lib.hid hfin
  have X0 := Lib.hid x0
  have X2 := Lib.hid x2
  have k16 := al.k16
  clear hst a0 hcl hsb hfin x0 x2 hW al hjk
  subst hkk
  go_enter Tryz.func95, Tryz.ntmps95
  go_wp2_with fail
  refine HST.out.mono ?_
  rintro e w1 ⟨rfl, hb1⟩
  have y0 := cell_below hb1 X0.out
  have y2 := cell_below hb1 X2.out
  have HB1 := Lib.hid (A0.out.trans (hb1.mono A0.out.size))
  have Y0 := Lib.hid y0
  have Y2 := Lib.hid y2
  have hz := cell_lt y0
  clear hb1 HST X0 X2
  generalize fixedS (clkOf W (jk : Int)) (roomOf W (jk : Int)) s = fx at *
  generalize hwk : (clkOf W (jk : Int)).walk = wk at *
  have HWK := Lib.hid hwk
  clear hwk
  go_wp2
  clear y0 y2
  go_loopw [7, 8] (fun nn i wr => ∃ q : Nat, (q : Int) ≤ s / 100 ∧ i = .int .i64 ((q : Int) + 1) ∧ nn = .int .i64 (fx + sumDraws (sourceS W.seed 1 jk) wk 0 q) ∧ Hid (Below w1.heap.size w1 wr)) (fun _ i _ => (s / 100 + 1 - intOf i).toNat)
  case atStart => exact ⟨0, by omega, rfl, by simp [sumDraws], Lib.hid (Below.refl _ _)⟩
  case round =>
    obtain ⟨q, hq, rfl, rfl, HB⟩ := hrel
    have y0 := cell_below HB.out Y0.out
    have y2 := cell_below HB.out Y2.out
    have hzy := cell_lt y0
    have HBW := Lib.hid (HB1.out.trans (HB.out.mono HB1.out.size))
    have sb := HSB.out q
    have hmq := mul_bd wk q 1000000000 10000 (by omega) (by omega)
    by_cases hlt : (q : Int) + 1 ≤ s / 100
    · obtain ⟨⟨-, -, -, -, -, m5, -, -⟩, -⟩ := HCL.out.below HBW.out
      rw [HWK.out] at m5
      have hzm := cell_lt m5
      have hjl : (jk : Int) < (W.cls.length : Int) := by omega
      have sb2 := HSB.out (q + 1)
      have hmq2 := mul_bd wk ((q + 1 : Nat) : Int) 1000000000 10000 (by omega) (by omega)
      have hsd : sumDraws (sourceS W.seed 1 jk) wk 0 (q + 1) = sumDraws (sourceS W.seed 1 jk) wk 0 q + drawS (sourceS W.seed 1 jk) ((q : Int) + 1) wk := by
        show sumDraws (sourceS W.seed 1 jk) wk 0 q + drawS (sourceS W.seed 1 jk) (0 + (q : Int) + 1) wk = _
        rw [Int.zero_add]
      have db := drawS_bd (sourceS W.seed 1 jk) ((q : Int) + 1) wk wb.1
      have HSD := Lib.hid hsd
      clear hsd sb2 hmq2
      go_wp2
      go_quiet ((go_at_call 60; exact quiet_eq (rdraw_ok _ _ _ _ _ _ (by omega) (by omega) (by omega) (by omega))))
      go_wp2
      go_roundw
      case rel => exact ⟨q + 1, by omega, congrArg (Value.int .i64) (by omega), congrArg (Value.int .i64) (by rw [HSD.out]; omega), Lib.hid (below_drewN HB.out _)⟩
      case measure => simp [intOf]; omega
    · have hq2 : (s / 100).toNat = q := by omega
      have hres : fx + sumDraws (sourceS W.seed 1 jk) wk 0 q = phaseS W.seed jk (clkOf W jk) (roomOf W jk) s := by rw [HF.out, hq2]
      have HRES := Lib.hid hres
      clear hres hq2
      go_wp2
      go_ret
      exact ⟨ret_i64 HRES.out, HBW.out⟩
set_option maxRecDepth 100000 in
set_option maxHeartbeats 2000000 in
theorem rshown_any (W : Wld) (k s : Int) (p1 p2 : Option Addr) (c1 c2 : Nat) (w : World) (hW : WldIn w W p1 p2) (al : Allowed W k) (h0 : 0 ≤ s) (h1 : s ≤ 1000000) :
    Calls Tryz.prog 59 #[.agg #[.int .u64 W.seed, .slice p1 W.chs.length c1, .slice p2 W.cls.length c2], .int .i64 k, .int .i64 s] w fun e w' => e = .returned (.int .i64 (shownS W.seed k (clkOf W k) (roomOf W k) s)) ∧ Below w.heap.size w w' := by
  have pb := phase_bd W.seed k al.cin al.rok s h0 h1
  have wb := al.cin.white
  have db := drawS_bd (sourceS W.seed 2 k) s (clkOf W k).white wb.1
  have hfin : shownS W.seed k (clkOf W k) (roomOf W k) s = phaseS W.seed k (clkOf W k) (roomOf W k) s + drawS (sourceS W.seed 2 k) s (clkOf W k).white := rfl
  have hm2 := hW.2.1
  unfold maxLen at hm2
  obtain ⟨b2, o2, rfl, hkl, hkk, hcl⟩ := clk_at hW al
  obtain ⟨jk, hjk⟩ : ∃ jk, jk = k.toNat := ⟨_, rfl⟩
  rw [← hjk] at hkl hkk hcl
  have a0 := below_alloc' (Below.refl w.heap.size w) (.cells #[.int .u64 W.seed, .slice p1 W.chs.length c1, .slice (some ⟨b2, o2, none⟩) W.cls.length c2] 28)
  have x0 : (w.alloc (.cells #[.int .u64 W.seed, .slice p1 W.chs.length c1, .slice (some ⟨b2, o2, none⟩) W.cls.length c2] 28)).cell? ⟨w.heap.size, 0, none⟩ = some (.int .u64 W.seed) := by simp
  have x1 : (w.alloc (.cells #[.int .u64 W.seed, .slice p1 W.chs.length c1, .slice (some ⟨b2, o2, none⟩) W.cls.length c2] 28)).cell? ⟨w.heap.size, 1, none⟩ = some (.slice p1 W.chs.length c1) := by simp
  have x2 : (w.alloc (.cells #[.int .u64 W.seed, .slice p1 W.chs.length c1, .slice (some ⟨b2, o2, none⟩) W.cls.length c2] 28)).cell? ⟨w.heap.size, 2, none⟩ = some (.slice (some ⟨b2, o2, none⟩) W.cls.length c2) := by simp
  have hp := fun (X : World) (hb : Below w.heap.size w X) => rphase_any W k s p1 (some ⟨b2, o2, none⟩) c1 c2 X (hW.below hb) al h0 h1
  have HP := Lib.hid hp
  have A0 := Lib.hid a0
  have HF := Lib.hid hfin
  have k16 := al.k16
  obtain ⟨⟨-, -, -, -, m4, -, -, -⟩, -⟩ := hcl.below a0
  have hzm := cell_lt m4
  clear hp a0 hcl hfin hW al hjk
  subst hkk
  have hjl : (jk : Int) < (W.cls.length : Int) := by omega
  generalize phaseS W.seed (jk : Int) (clkOf W (jk : Int)) (roomOf W (jk : Int)) s = ph at *
  generalize (clkOf W (jk : Int)).white = wh at *
  go_enter Tryz.func59, Tryz.ntmps59
  go_wp2
  generalize w.alloc (.cells #[.int .u64 W.seed, .slice p1 W.chs.length c1, .slice (some ⟨b2, o2, none⟩) W.cls.length c2] 28) = W1 at *
  go_quiet ((go_at_call 60; exact quiet_eq (rdraw_ok _ _ _ _ _ _ (by omega) (by omega) (by omega) (by omega))))
  go_wp2_with fail
  refine (HP.out _ (below_drewN A0.out _)).mono ?_
  rintro e w2 ⟨rfl, hb2⟩
  have hb3 := (below_drewN A0.out _).trans (hb2.mono (below_drewN A0.out _).size)
  have HB3 := Lib.hid hb3
  clear hb2 hb3
  go_wp2
  go_ret
  exact ⟨ret_i64 HF.out.symm, HB3.out⟩
end Go.Proofs.YtlelamjbfjneiaaGreatDoor.Wd
namespace Go.Proofs.YtlelamjbfjneiaaGreatDoor.Wd
open Go Go.RowKit
set_option maxRecDepth 100000 in
set_option maxHeartbeats 2000000 in
theorem rRuns_any (W : Wld) (k s : Int) (p1 p2 : Option Addr) (c1 c2 : Nat) (w : World) (hW : WldIn w W p1 p2) :
    Calls Tryz.prog 40 #[.agg #[.int .u64 W.seed, .slice p1 W.chs.length c1, .slice p2 W.cls.length c2], .int .i64 k, .int .i64 s] w fun e w' => e = .returned (.tuple #[.bool (runsE W k s).v, .int .i64 (runsE W k s).e]) ∧ Below w.heap.size w w' := by
  have hm2 := hW.2.1
  unfold maxLen at hm2
  have a0 := below_alloc' (Below.refl w.heap.size w) (.cells #[.int .u64 W.seed, .slice p1 W.chs.length c1, .slice p2 W.cls.length c2] 28)
  have x0 : (w.alloc (.cells #[.int .u64 W.seed, .slice p1 W.chs.length c1, .slice p2 W.cls.length c2] 28)).cell? ⟨w.heap.size, 0, none⟩ = some (.int .u64 W.seed) := by simp
  have x1 : (w.alloc (.cells #[.int .u64 W.seed, .slice p1 W.chs.length c1, .slice p2 W.cls.length c2] 28)).cell? ⟨w.heap.size, 1, none⟩ = some (.slice p1 W.chs.length c1) := by simp
  have x2 : (w.alloc (.cells #[.int .u64 W.seed, .slice p1 W.chs.length c1, .slice p2 W.cls.length c2] 28)).cell? ⟨w.heap.size, 2, none⟩ = some (.slice p2 W.cls.length c2) := by simp
  have X0 := Lib.hid x0
  have X1 := Lib.hid x1
  have X2 := Lib.hid x2
  have HW0 := Lib.hid (hW.below a0)
  have A0 := Lib.hid a0
  clear hW a0 x0 x1 x2
  by_cases he : findErr W k [s] = 0
  · have al := allowed_find he
    obtain ⟨s0, s1⟩ := sec_of he
    have HE := Lib.hid he
    have AL := Lib.hid al
    have hfin := show runsE W k s = _ from if_pos he
    have HF := Lib.hid hfin
    clear hfin
    clear al he
    go_enter Tryz.func40, Tryz.ntmps40
    go_wp2_with fail
    refine (clocked_any W k s p1 p2 c1 c2 _ HW0.out).mono ?_
    rintro e w1 ⟨rfl, hb1⟩
    rw [HE.out]
    have HB1 := Lib.hid (A0.out.trans (hb1.mono A0.out.size))
    have HW1 := Lib.hid (HW0.out.below hb1)
    have y0 := cell_below hb1 X0.out
    have y1 := cell_below hb1 X1.out
    have y2 := cell_below hb1 X2.out
    have hz := cell_lt y0
    clear hb1 X0 X1 X2 HW0
    obtain ⟨b2, o2, rfl, hkl, hkk, hcl⟩ := clk_at HW1.out AL.out
    obtain ⟨⟨m0, m1, m2, m3, m4, m5, m6, m7⟩, v, m8, hv⟩ := hcl
    have HV := Lib.hid hv
    have hevs := AL.out.cin.evs
    have HEVS := Lib.hid hevs
    obtain ⟨pv, cv, rfl, -, -⟩ := hv
    clear hevs
    have hjl : ((k.toNat : Nat) : Int) < (W.cls.length : Int) := by omega
    have hzm := cell_lt m0
    have hk2 : k < (W.cls.length : Int) := by omega
    have hk0 : 0 ≤ k := by omega
    go_wp2_with (go_at_call 58; refine (running_any (clkOf W k).kind (clkOf W k).phase (clkOf W k).rate (clkOf W k).drift (clkOf W k).white (clkOf W k).walk (clkOf W k).heat (clkOf W k).room (clkOf W k).evs _ s _ HV.out HEVS.out).mono ?_; rintro e w2 ⟨rfl, hb2⟩; have HB2 := Lib.hid hb2; clear hb2)
    go_ret2
    exact ⟨by rw [HF.out]; rfl, HB1.out.trans (HB2.out.mono HB1.out.size)⟩
  · have hne : (findErr W k [s] != 0) = true := by simpa using he
    have hne2 : (findErr W k [s] == 0) = false := by simpa using he
    have hfin := show runsE W k s = _ from if_neg he
    have HF := Lib.hid hfin
    clear he hfin X0 X1 X2
    go_enter Tryz.func40, Tryz.ntmps40
    go_wp2_with fail
    refine (clocked_any W k s p1 p2 c1 c2 _ HW0.out).mono ?_
    rintro e w1 ⟨rfl, hb1⟩
    have HB1 := Lib.hid (A0.out.trans (hb1.mono A0.out.size))
    clear hb1
    go_wp2
    go_ret2
    exact ⟨by rw [HF.out]; rfl, HB1.out⟩
set_option maxRecDepth 100000 in
set_option maxHeartbeats 2000000 in
theorem rShown_any (W : Wld) (k s : Int) (p1 p2 : Option Addr) (c1 c2 : Nat) (w : World) (hW : WldIn w W p1 p2) :
    Calls Tryz.prog 28 #[.agg #[.int .u64 W.seed, .slice p1 W.chs.length c1, .slice p2 W.cls.length c2], .int .i64 k, .int .i64 s] w fun e w' => e = .returned (.tuple #[.int .i64 (shownE W k s).v, .int .i64 (shownE W k s).e]) ∧ Below w.heap.size w w' := by
  have hm2 := hW.2.1
  unfold maxLen at hm2
  have a0 := below_alloc' (Below.refl w.heap.size w) (.cells #[.int .u64 W.seed, .slice p1 W.chs.length c1, .slice p2 W.cls.length c2] 28)
  have x0 : (w.alloc (.cells #[.int .u64 W.seed, .slice p1 W.chs.length c1, .slice p2 W.cls.length c2] 28)).cell? ⟨w.heap.size, 0, none⟩ = some (.int .u64 W.seed) := by simp
  have x1 : (w.alloc (.cells #[.int .u64 W.seed, .slice p1 W.chs.length c1, .slice p2 W.cls.length c2] 28)).cell? ⟨w.heap.size, 1, none⟩ = some (.slice p1 W.chs.length c1) := by simp
  have x2 : (w.alloc (.cells #[.int .u64 W.seed, .slice p1 W.chs.length c1, .slice p2 W.cls.length c2] 28)).cell? ⟨w.heap.size, 2, none⟩ = some (.slice p2 W.cls.length c2) := by simp
  have X0 := Lib.hid x0
  have X1 := Lib.hid x1
  have X2 := Lib.hid x2
  have HW0 := Lib.hid (hW.below a0)
  have A0 := Lib.hid a0
  clear hW a0 x0 x1 x2
  by_cases he : findErr W k [s] = 0
  · have al := allowed_find he
    obtain ⟨s0, s1⟩ := sec_of he
    have HE := Lib.hid he
    have AL := Lib.hid al
    have hre := show runErr W k s = _ from if_pos he
    have HRE := Lib.hid hre
    clear hre
    clear al he
    go_enter Tryz.func28, Tryz.ntmps28
    go_wp2_with fail
    refine (clocked_any W k s p1 p2 c1 c2 _ HW0.out).mono ?_
    rintro e w1 ⟨rfl, hb1⟩
    rw [HE.out]
    have HB1 := Lib.hid (A0.out.trans (hb1.mono A0.out.size))
    have HW1 := Lib.hid (HW0.out.below hb1)
    have y0 := cell_below hb1 X0.out
    have y1 := cell_below hb1 X1.out
    have y2 := cell_below hb1 X2.out
    have hz := cell_lt y0
    clear hb1 X0 X1 X2 HW0
    obtain ⟨b2, o2, rfl, hkl, hkk, hcl⟩ := clk_at HW1.out AL.out
    obtain ⟨⟨m0, m1, m2, m3, m4, m5, m6, m7⟩, v, m8, hv⟩ := hcl
    have HV := Lib.hid hv
    have hevs := AL.out.cin.evs
    have HEVS := Lib.hid hevs
    obtain ⟨pv, cv, rfl, -, -⟩ := hv
    clear hevs
    have hjl : ((k.toNat : Nat) : Int) < (W.cls.length : Int) := by omega
    have hzm := cell_lt m0
    have hk2 : k < (W.cls.length : Int) := by omega
    have hk0 : 0 ≤ k := by omega
    cases hrun : runsS (clkOf W k) s
    · have hr2 : runsL (clkOf W k).evs s = false := hrun
      have hfin : shownE W k s = ⟨0, 22⟩ := by
        have := HRE.out
        rw [hrun] at this
        unfold shownE
        rw [this]; rfl
      have HF := Lib.hid hfin
      clear hfin hrun HRE
      go_wp2_with (go_at_call 58; refine (running_any (clkOf W k).kind (clkOf W k).phase (clkOf W k).rate (clkOf W k).drift (clkOf W k).white (clkOf W k).walk (clkOf W k).heat (clkOf W k).room (clkOf W k).evs _ s _ HV.out HEVS.out).mono ?_; rintro e w2 ⟨rfl, hb2⟩; have HB2 := Lib.hid hb2; clear hb2)
      go_ret2
      exact ⟨by rw [HF.out]; rfl, HB1.out.trans (HB2.out.mono HB1.out.size)⟩
    · have hr2 : runsL (clkOf W k).evs s = true := hrun
      have hfin : shownE W k s = ⟨shownS W.seed k (clkOf W k) (roomOf W k) s, 0⟩ := by
        have := HRE.out
        rw [hrun] at this
        unfold shownE
        rw [this]; rfl
      have HF := Lib.hid hfin
      clear hfin hrun HRE
      have Y0 := Lib.hid y0
      have Y1 := Lib.hid y1
      have Y2 := Lib.hid y2
      go_wp2_with (go_at_call 58; refine (running_any (clkOf W k).kind (clkOf W k).phase (clkOf W k).rate (clkOf W k).drift (clkOf W k).white (clkOf W k).walk (clkOf W k).heat (clkOf W k).room (clkOf W k).evs _ s _ HV.out HEVS.out).mono ?_; rintro e w2 ⟨rfl, hb2⟩; have z0 := cell_below hb2 Y0.out; have z1 := cell_below hb2 Y1.out; have z2 := cell_below hb2 Y2.out; have hzz := cell_lt z0; have HB2 := Lib.hid hb2; clear hb2)
      refine (rshown_any W k s p1 (some ⟨b2, o2, none⟩) c1 c2 _ (HW1.out.below HB2.out) AL.out s0 s1).mono ?_
      rintro e w3 ⟨rfl, hb3⟩
      have HB12 := Lib.hid (HB1.out.trans (HB2.out.mono HB1.out.size))
      have HB3 := Lib.hid (HB12.out.trans (hb3.mono HB12.out.size))
      clear hb3
      go_wp2
      go_ret2
      exact ⟨by rw [HF.out]; rfl, HB3.out⟩
  · have hne : (findErr W k [s] != 0) = true := by simpa using he
    have hne2 : (findErr W k [s] == 0) = false := by simpa using he
    have hfin := show runErr W k s = _ from if_neg he
    have hsf : shownE W k s = ⟨0, findErr W k [s]⟩ := by
      unfold shownE; rw [hfin, if_neg he]
    have HSF := Lib.hid hsf
    clear he hfin hsf X0 X1 X2
    go_enter Tryz.func28, Tryz.ntmps28
    go_wp2_with fail
    refine (clocked_any W k s p1 p2 c1 c2 _ HW0.out).mono ?_
    rintro e w1 ⟨rfl, hb1⟩
    have HB1 := Lib.hid (A0.out.trans (hb1.mono A0.out.size))
    clear hb1
    go_wp2
    go_ret2
    exact ⟨by rw [HSF.out]; rfl, HB1.out⟩
end Go.Proofs.YtlelamjbfjneiaaGreatDoor.Wd
namespace Go.Proofs.YtlelamjbfjneiaaGreatDoor.Wd
open Go Go.RowKit
theorem find00 (W : Wld) : findErr W 0 [0] = checkS W := by
  by_cases hc : checkS W = 0
  · have hm := (checkS_zero hc).1
    simp only [manyOk, Bool.and_eq_true, inR_iff] at hm
    rw [clocked_in hc, if_neg (by omega), if_neg (by omega), hc]
  · exact if_neg hc
end Go.Proofs.YtlelamjbfjneiaaGreatDoor.Wd
