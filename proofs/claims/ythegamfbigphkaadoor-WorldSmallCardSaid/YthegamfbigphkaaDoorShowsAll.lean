/- WorldShows, for every world, clock and second: the law returns true, and its arguments read as before. The tables that the row lists hold what the program's own text lays into them (the given tie). -/
import Derived.Test.YthegamfbigphkaaDoorLawIn
import Derived.Test.YthegamfbigphkaaDoorRefK
import Derived.Test.YthegamfbigphkaaDoorSame
import Derived.Test.YthegamfbigphkaaDoorTabs
import Derived.Test.YthegamfbigphkaaDoorFrame
namespace Go.Proofs.YthegamfbigphkaaDoor
open Go Go.RowKit
/-- the law's argument, in its box -/
structure Par (X : World) (b : Nat) (W : Wld) (p1 p2 : Option Addr) (c1 c2 : Nat) : Prop where
  c0 : X.cell? ⟨b, 0, none⟩ = some (.int .u64 W.seed)
  c1 : X.cell? ⟨b, 1, none⟩ = some (.slice p1 W.chs.length c1)
  c2 : X.cell? ⟨b, 2, none⟩ = some (.slice p2 W.cls.length c2)
theorem Par.below {X Y : World} {b : Nat} {W : Wld} {p1 p2 : Option Addr} {c1 c2 : Nat} (h : Par X b W p1 p2 c1 c2) (hb : Below X.heap.size X Y) : Par Y b W p1 p2 c1 c2 := ⟨cell_below hb h.c0, cell_below hb h.c1, cell_below hb h.c2⟩
theorem rreach_named (W : Wld) (k s : Int) (p1 p2 : Option Addr) (k1 k2 : Nat) (X : World) (hW : WldIn X W p1 p2) :
    Calls Tryd.prog 24 #[.agg #[.int .u64 W.seed, .slice p1 W.chs.length k1, .slice p2 W.cls.length k2], .int .i64 k, .int .i64 s] X (PairRet (reachE W k s) X) :=
  (rReach_any W k s p1 p2 k1 k2 X hW).mono fun _ _ ⟨h1, h2⟩ => ⟨_, _, _, h1, Lib.hid rfl, h2⟩
theorem rread_named (W : Wld) (k s : Int) (p1 p2 : Option Addr) (k1 k2 : Nat) (X : World) (hW : WldIn X W p1 p2) :
    Calls Tryd.prog 26 #[.agg #[.int .u64 W.seed, .slice p1 W.chs.length k1, .slice p2 W.cls.length k2], .int .i64 k, .int .i64 s] X (PairRet (readE W k s) X) :=
  (rRead_any W k s p1 p2 k1 k2 X hW).mono fun _ _ ⟨h1, h2⟩ => ⟨_, _, _, h1, Lib.hid rfl, h2⟩
theorem check_keep (z : World) (W : Wld) (p1 p2 : Option Addr) (k1 k2 : Nat) (X : World) (hb : Below z.heap.size z X) (ht : Tabs z) (hW : WldIn z W p1 p2) :
    Calls Tryd.prog 15 #[.agg #[.int .u64 W.seed, .slice p1 W.chs.length k1, .slice p2 W.cls.length k2]] X fun e Y => e = .returned (.int .i64 (checkS W)) ∧ Below z.heap.size z Y :=
  (check_any W p1 p2 k1 k2 X (ht.below hb) (hW.below hb)).mono fun _ _ ⟨a, b⟩ => ⟨a, hb.trans (b.mono hb.size)⟩
theorem rcheck_keep (z : World) (W : Wld) (p1 p2 : Option Addr) (k1 k2 : Nat) (X : World) (hb : Below z.heap.size z X) (hW : WldIn z W p1 p2) :
    Calls Tryd.prog 16 #[.agg #[.int .u64 W.seed, .slice p1 W.chs.length k1, .slice p2 W.cls.length k2]] X fun e Y => e = .returned (.int .i64 (checkS W)) ∧ Below z.heap.size z Y :=
  (rcheck_any W p1 p2 k1 k2 X (hW.below hb)).mono fun _ _ ⟨a, b⟩ => ⟨a, hb.trans (b.mono hb.size)⟩
set_option maxRecDepth 100000 in
set_option maxHeartbeats 1000000 in
theorem shows_big (W : Wld) (k s : Int) (p1 p2 : Option Addr) (c1 c2 : Nat) (w : World) (ht : Tabs w) (hW : WldIn w W p1 p2) (hb : bigS W = true) :
    Calls Tryd.prog 3 #[.agg #[.int .u64 W.seed, .slice p1 W.chs.length c1, .slice p2 W.cls.length c2], .int .i64 k, .int .i64 s] w fun e w' => e = .returned (.bool true) ∧ Below w.heap.size w w' := by
  have a0 : Below w.heap.size w (w.alloc (.cells #[.int .u64 W.seed, .slice p1 W.chs.length c1, .slice p2 W.cls.length c2] 26)) := below_alloc' (Below.refl _ _) _
  have HW := Lib.hid (hW.below a0)
  have HT := Lib.hid (ht.below a0)
  have HB := Lib.hid hb
  clear hW ht hb
  go_enter Tryd.func3, Tryd.ntmps3
  go_wp2_with fail
  refine (big_any W p1 p2 c1 c2 _ HW.out).mono ?_
  rintro e w1 ⟨rfl, hb1⟩
  rw [HB.out]
  have A1 := Lib.hid (a0.trans (hb1.mono a0.size))
  have HT1 := Lib.hid (HT.out.below hb1)
  clear a0 hb1
  go_wp2_with fail
  refine (awake_any _ HT1.out).mono ?_
  rintro e w2 ⟨rfl, hb2⟩
  have A2 := Lib.hid (A1.out.trans (hb2.mono A1.out.size))
  clear hb2
  go_wp2
  go_ret
  exact ⟨rfl, A2.out⟩
set_option maxRecDepth 100000 in
set_option maxHeartbeats 4000000 in
theorem shows_law (W : Wld) (k s : Int) (p1 p2 : Option Addr) (c1 c2 : Nat) (w : World) (ht : Tabs w) (hW : WldIn w W p1 p2) (hb : bigS W = false) :
    Calls Tryd.prog 3 #[.agg #[.int .u64 W.seed, .slice p1 W.chs.length c1, .slice p2 W.cls.length c2], .int .i64 k, .int .i64 s] w fun e w' => e = .returned (.bool true) ∧ Below w.heap.size w w' := by
  have a0 : Below w.heap.size w (w.alloc (.cells #[.int .u64 W.seed, .slice p1 W.chs.length c1, .slice p2 W.cls.length c2] 26)) := below_alloc' (Below.refl _ _) _
  have x0 : (w.alloc (.cells #[.int .u64 W.seed, .slice p1 W.chs.length c1, .slice p2 W.cls.length c2] 26)).cell? ⟨w.heap.size, 0, none⟩ = some (.int .u64 W.seed) := by simp
  have x1 : (w.alloc (.cells #[.int .u64 W.seed, .slice p1 W.chs.length c1, .slice p2 W.cls.length c2] 26)).cell? ⟨w.heap.size, 1, none⟩ = some (.slice p1 W.chs.length c1) := by simp
  have x2 : (w.alloc (.cells #[.int .u64 W.seed, .slice p1 W.chs.length c1, .slice p2 W.cls.length c2] 26)).cell? ⟨w.heap.size, 2, none⟩ = some (.slice p2 W.cls.length c2) := by simp
  have X0 := Lib.hid x0
  have X1 := Lib.hid x1
  have X2 := Lib.hid x2
  have HW0 := Lib.hid (hW.below a0)
  have HWP := Lib.hid hW
  have HT := Lib.hid ht
  have HB := Lib.hid hb
  clear hW ht hb x0 x1 x2
  go_enter Tryd.func3, Tryd.ntmps3
  go_wp2_with fail
  refine (big_any W p1 p2 c1 c2 _ HW0.out).mono ?_
  rintro e w1 ⟨rfl, hb1⟩
  rw [HB.out]
  have A1 := Lib.hid (a0.trans (hb1.mono a0.size))
  have y0 := cell_below hb1 X0.out
  have y1 := cell_below hb1 X1.out
  have y2 := cell_below hb1 X2.out
  have HW1 := Lib.hid (HW0.out.below hb1)
  have HQ1 := Lib.hid (Par.mk y0 y1 y2)
  clear a0 hb1 X0 X1 X2 HW0
  go_wp2_with fail
  refine (own_any W p1 p2 c1 c2 _ HW1.out HB.out).mono ?_
  rintro e y ⟨q1, q2, d1, d2, rfl, hW2, hb2⟩
  have A2 := Lib.hid (A1.out.trans (hb2.mono A1.out.size))
  have HW2 := Lib.hid hW2
  have HQ2 := Lib.hid ((HQ1.out.below hb2).below (below_alloc' (Below.refl y.heap.size y) (.cells #[.int .u64 W.seed, .slice q1 W.chs.length d1, .slice q2 W.cls.length d2] 32)))
  have hle : w.heap.size ≤ y.heap.size := A2.out.size
  have HL := Lib.hid (lawIn_new (seed := W.seed) (W := W) (q1 := q1) (q2 := q2) (d1 := d1) (d2 := d2) A2.out)
  clear hb2 hW2 y0 y1 y2 HW1 A1 HQ1
  go_wp2_with fail
  refine (temperature_any W k s q1 q2 d1 d2 _ (HT.out.below HL.out.bel) (HW2.out.below HL.out.own)).mono ?_
  rintro e z3 ⟨rfl, hb⟩
  have HL3 := Lib.hid (HL.out.below hb)
  have HQ3 := Lib.hid (HQ2.out.below hb)
  clear hb HL HQ2
  obtain ⟨m0, m1, m2⟩ := HQ3.out
  have hz := cell_lt m0
  go_wp2_with fail
  clear m0 m1 m2 hz
  refine (rTemperature_any W k s p1 p2 c1 c2 _ (HWP.out.below HL3.out.bel)).mono ?_
  rintro e z4 ⟨rfl, hb⟩
  have HL4 := Lib.hid (HL3.out.below hb)
  have HQ4 := Lib.hid (HQ3.out.below hb)
  clear hb HL3 HQ3
  generalize (tempE W k s).v = tv at *
  generalize (tempE W k s).e = te at *
  obtain ⟨m0, m1, m2⟩ := HQ4.out
  obtain ⟨-, -, l0, l1, l2, -⟩ := HL4.out
  have hzm := cell_lt m0
  have hzl := cell_lt l0
  go_wp2_with fail
  have HTZ := Lib.hid (HT.out.below HL4.out.bel)
  have HWZ := Lib.hid (HW2.out.below HL4.out.own)
  have HWR := Lib.hid (HWP.out.below HL4.out.bel)
  have tt1 : (tv != tv) = false := by simp
  have tt2 : (te != te) = false := by simp
  go_region_held3 (fun w' => Below z4.heap.size z4 w' ∧ w'.cell? ⟨y.heap.size, 0, none⟩ = some (.int .u64 W.seed) ∧ w'.cell? ⟨y.heap.size, 1, none⟩ = some (.slice q1 W.chs.length d1) ∧ w'.cell? ⟨y.heap.size, 2, none⟩ = some (.slice q2 W.cls.length d2) ∧ w'.cell? ⟨w.heap.size, 0, none⟩ = some (.int .u64 W.seed) ∧ w'.cell? ⟨w.heap.size, 1, none⟩ = some (.slice p1 W.chs.length c1) ∧ w'.cell? ⟨w.heap.size, 2, none⟩ = some (.slice p2 W.cls.length c2))
    (first | exact ⟨Below.drew (Below.refl _ _), l0, l1, l2, m0, m1, m2⟩ | exact ⟨(by assumption), cell_below (by assumption) l0, cell_below (by assumption) l1, cell_below (by assumption) l2, cell_below (by assumption) m0, cell_below (by assumption) m1, cell_below (by assumption) m2⟩)
    (first | (go_at_call 15; refine (check_keep z4 W q1 q2 d1 d2 _ (by first | assumption | exact Below.drew (Below.refl _ _)) HTZ.out HWZ.out).mono ?_; rintro e w9 ⟨rfl, hb9⟩) |
      (go_at_call 16; refine (rcheck_keep z4 W p1 p2 c1 c2 _ (by first | assumption | exact Below.drew (Below.refl _ _)) HWR.out).mono ?_; rintro e w9 ⟨rfl, hb9⟩))
  have HL99 := Lib.hid (HL4.out.below hb9)
  have HQ99 := Lib.hid (HQ4.out.below hb9)
  clear hb9 HTZ HWZ HWR tt1 tt2 hzm hzl l0 l1 l2 m0 m1 m2 HL4 HQ4
  obtain ⟨-, -, l0, l1, l2, -⟩ := HL99.out
  have hz := cell_lt l0
  go_wp2_with fail
  refine (runs_any W k s q1 q2 d1 d2 _ (HT.out.below HL99.out.bel) (HW2.out.below HL99.out.own)).mono ?_
  rintro e z5 ⟨rfl, hb⟩
  have HL5 := Lib.hid (HL99.out.below hb)
  have HQ5 := Lib.hid (HQ99.out.below hb)
  clear hb HL99 HQ99
  clear l0 l1 l2 hz
  obtain ⟨m0, m1, m2⟩ := HQ5.out
  have hz := cell_lt m0
  go_wp2_with fail
  clear m0 m1 m2 hz
  refine (rRuns_any W k s p1 p2 c1 c2 _ (HWP.out.below HL5.out.bel)).mono ?_
  rintro e z6 ⟨rfl, hb⟩
  have HL6 := Lib.hid (HL5.out.below hb)
  have HQ6 := Lib.hid (HQ5.out.below hb)
  clear hb HL5 HQ5
  generalize (runsE W k s).v = rv at *
  generalize (runsE W k s).e = re at *
  obtain ⟨-, -, l0, l1, l2, -⟩ := HL6.out
  have hz := cell_lt l0
  go_wp2_with fail
  refine (phase_any W k s q1 q2 d1 d2 _ (HT.out.below HL6.out.bel) (HW2.out.below HL6.out.own)).mono ?_
  rintro e z7 ⟨rfl, hb⟩
  have HL7 := Lib.hid (HL6.out.below hb)
  have HQ7 := Lib.hid (HQ6.out.below hb)
  clear hb HL6 HQ6
  clear l0 l1 l2 hz
  obtain ⟨m0, m1, m2⟩ := HQ7.out
  have hz := cell_lt m0
  go_wp2_with fail
  clear m0 m1 m2 hz
  refine (rPhase_any W k s p1 p2 c1 c2 _ (HWP.out.below HL7.out.bel)).mono ?_
  rintro e z8 ⟨rfl, hb⟩
  have HL8 := Lib.hid (HL7.out.below hb)
  have HQ8 := Lib.hid (HQ7.out.below hb)
  clear hb HL7 HQ7
  generalize (phaseE W k s).v = pv at *
  generalize (phaseE W k s).e = pe at *
  obtain ⟨-, -, l0, l1, l2, -⟩ := HL8.out
  have hz := cell_lt l0
  go_wp2_with fail
  refine (shown_any W k s q1 q2 d1 d2 _ (HT.out.below HL8.out.bel) (HW2.out.below HL8.out.own)).mono ?_
  rintro e z9 ⟨rfl, hb⟩
  have HL9 := Lib.hid (HL8.out.below hb)
  have HQ9 := Lib.hid (HQ8.out.below hb)
  clear hb HL8 HQ8
  clear l0 l1 l2 hz
  obtain ⟨m0, m1, m2⟩ := HQ9.out
  have hz := cell_lt m0
  go_wp2_with fail
  clear m0 m1 m2 hz
  refine (rShown_any W k s p1 p2 c1 c2 _ (HWP.out.below HL9.out.bel)).mono ?_
  rintro e z10 ⟨rfl, hb⟩
  have HL10 := Lib.hid (HL9.out.below hb)
  have HQ10 := Lib.hid (HQ9.out.below hb)
  clear hb HL9 HQ9
  generalize (shownE W k s).v = sv at *
  generalize (shownE W k s).e = se at *
  obtain ⟨-, -, l0, l1, l2, -⟩ := HL10.out
  have hz := cell_lt l0
  go_wp2_with fail
  refine (reach_named W k s q1 q2 d1 d2 _ (HT.out.below HL10.out.bel) (HW2.out.below HL10.out.own)).mono ?_
  rintro e z11 ⟨ra, rb, re, rfl, Hr, hb⟩
  have HL11 := Lib.hid (HL10.out.below hb)
  have HQ11 := Lib.hid (HQ10.out.below hb)
  clear hb HL10 HQ10
  clear l0 l1 l2 hz
  obtain ⟨m0, m1, m2⟩ := HQ11.out
  have hz := cell_lt m0
  go_wp2_with fail
  clear m0 m1 m2 hz
  have hbx := below_alloc' (Below.refl z11.heap.size z11) (.cells #[.int .i64 ra, .int .i64 rb] 44)
  have HTr := Lib.hid (two_new (X := z11) ra rb 44)
  have HLz11x := Lib.hid (HL11.out.below hbx)
  have HQz11x := Lib.hid (HQ11.out.below hbx)
  generalize z11.alloc (.cells #[.int .i64 ra, .int .i64 rb] 44) = z11x at *
  clear hbx HL11 HQ11
  refine (rreach_named W k s p1 p2 c1 c2 _ (HWP.out.below HLz11x.out.bel)).mono ?_
  rintro e z12 ⟨ra2, rb2, re2, rfl, Hr2, hb⟩
  have HL12 := Lib.hid (HLz11x.out.below hb)
  have HQ12 := Lib.hid (HQz11x.out.below hb)
  have HUr := Lib.hid (HTr.out.below hb)
  clear hb HLz11x HQz11x HTr
  have hsame := Hr.out.symm.trans Hr2.out
  simp only [PairErr.mk.injEq] at hsame
  obtain ⟨rfl, rfl, rfl⟩ := hsame
  clear Hr Hr2
  obtain ⟨tw0, tw1⟩ := HUr.out
  have hzt := cell_lt tw0
  obtain ⟨-, -, l0, l1, l2, -⟩ := HL12.out
  have hz := cell_lt l0
  obtain ⟨m0, m1, m2⟩ := HQ12.out
  have hzm := cell_lt m0
  have hbx := below_alloc' (Below.refl z12.heap.size z12) (.cells #[.int .i64 ra, .int .i64 rb] 44)
  have HLr := Lib.hid (HL12.out.below hbx)
  have HQr := Lib.hid (HQ12.out.below hbx)
  clear hbx
  go_wp2_with fail
  clear l0 l1 l2 m0 m1 m2 hz hzm tw0 tw1 hzt
  generalize z12.alloc (.cells #[.int .i64 ra, .int .i64 rb] 44) = zr at *
  clear HL12 HQ12 HUr
  refine (read_named W k s q1 q2 d1 d2 _ (HT.out.below HLr.out.bel) (HW2.out.below HLr.out.own)).mono ?_
  rintro e zm ⟨ma, mb, me, rfl, Hm, hb⟩
  have HLm := Lib.hid (HLr.out.below hb)
  have HQm := Lib.hid (HQr.out.below hb)
  clear hb HLr HQr
  obtain ⟨m0, m1, m2⟩ := HQm.out
  have hz := cell_lt m0
  go_wp2_with fail
  clear m0 m1 m2 hz
  have hbx := below_alloc' (Below.refl zm.heap.size zm) (.cells #[.int .i64 ma, .int .i64 mb] 49)
  have HTm := Lib.hid (two_new (X := zm) ma mb 49)
  have HLmx := Lib.hid (HLm.out.below hbx)
  have HQmx := Lib.hid (HQm.out.below hbx)
  generalize zm.alloc (.cells #[.int .i64 ma, .int .i64 mb] 49) = zmx at *
  clear hbx HLm HQm
  refine (rread_named W k s p1 p2 c1 c2 _ (HWP.out.below HLmx.out.bel)).mono ?_
  rintro e zn ⟨ma2, mb2, me2, rfl, Hm2, hb⟩
  have HLn := Lib.hid (HLmx.out.below hb)
  have HQn := Lib.hid (HQmx.out.below hb)
  have HUm := Lib.hid (HTm.out.below hb)
  clear hb HLmx HQmx HTm
  have hsame := Hm.out.symm.trans Hm2.out
  simp only [PairErr.mk.injEq] at hsame
  obtain ⟨rfl, rfl, rfl⟩ := hsame
  clear Hm Hm2
  obtain ⟨tw0, tw1⟩ := HUm.out
  have hzt := cell_lt tw0
  obtain ⟨-, -, l0, l1, l2, -⟩ := HLn.out
  have hz := cell_lt l0
  obtain ⟨m0, m1, m2⟩ := HQn.out
  have hzm := cell_lt m0
  have hbx := below_alloc' (Below.refl zn.heap.size zn) (.cells #[.int .i64 ma, .int .i64 mb] 52)
  have HLk := Lib.hid (HLn.out.below hbx)
  clear hbx
  go_wp2_with fail
  clear l0 l1 l2 m0 m1 m2 hz hzm tw0 tw1 hzt
  generalize zn.alloc (.cells #[.int .i64 ma, .int .i64 mb] 52) = zk at *
  clear HLn HQn HUm
  refine (same_any W q1 q2 p1 p2 d1 d2 c1 c2 _ (HW2.out.below HLk.out.own) (HWP.out.below HLk.out.bel)).mono ?_
  rintro e zs ⟨rfl, hb⟩
  have HLs := Lib.hid (HLk.out.below hb)
  clear hb HLk
  go_wp2_with fail
  refine (awake_any _ (HT.out.below HLs.out.bel)).mono ?_
  rintro e zt ⟨rfl, hb⟩
  have HBT := Lib.hid (HLs.out.bel.trans (hb.mono HLs.out.bel.size))
  clear hb
  go_wp2
  go_ret
  exact ⟨rfl, HBT.out⟩
theorem worldShows_any (W : Wld) (k s : Int) (p1 p2 : Option Addr) (c1 c2 : Nat) (w : World) (hW : WldIn w W p1 p2) (ht : Tabs w) :
    Calls Tryd.prog 3 #[.agg #[.int .u64 W.seed, .slice p1 W.chs.length c1, .slice p2 W.cls.length c2], .int .i64 k, .int .i64 s] w fun e w' => e = .returned (.bool true) ∧ Below w.heap.size w w' := by
  cases hb : bigS W
  · exact shows_law W k s p1 p2 c1 c2 w ht hW hb
  · exact shows_big W k s p1 p2 c1 c2 w ht hW hb
end Go.Proofs.YthegamfbigphkaaDoor
namespace Go.Proofs.YthegamfbigphkaaDoor.lawWorldShows
open Go Go.RowKit Go.WideShapes Go.ChangeShapes Go.ChangeAt

theorem own : ownKnob Tryd.prog.godebug = none := by kernel_rfl
theorem laidOut : laidOutB Tryd.prog = true := by kernel_rfl
theorem types : Tryd.f3.params.toList.all (fun t => Tryd.prog.readableRec t && decide (t < Tryd.prog.types.size)) = true := by kernel_rfl

set_option maxRecDepth 100000 in
theorem contract (H : Type) (enc : TypeId × Value → H) (W : World) (base : Nat) (args : Array Value) (ds gs : List (DataW H)) (before : List MemPlace)
    (hval : ∀ (j : Nat) t v, Tryd.f3.params[j]? = some t → args[j]? = some v → Value.okWide Tryd.prog W .any base t v)
    (hW : DataW.Whole enc Tryd.prog Tryd.f3.params.toList Rows.worldShowsSpec.vars false W args.toList ds gs before) (hL : laidMetH Tryd.prog Rows.worldShowsRow.laid W) :
    Calls Tryd.prog 3 args W fun e W' => ∃ v, e = .returned v ∧ Rows.worldShowsSpec.post enc Tryd.prog Tryd.f3 false true false false W args v W' := by
  have hW' := hW
  obtain ⟨p, q, hA0, hV, hpq, hfz, hnd⟩ := hW
  have hA : DataW.TrodAll enc Tryd.prog W 0 (fun _ => true) true Tryd.f3.params.toList args.toList ds p := hA0
  rw [Tryd.params3] at hA hval
  obtain ⟨v0, vs0, d0, ds0, p0, q0, hargs, rfl, hp0, h0, r0⟩ := trodAll_cons hA
  obtain ⟨v1, vs1, d1, ds1, p1, q1, rfl, rfl, hp1, h1, r1⟩ := trodAll_cons r0
  obtain ⟨v2, vs2, d2, ds2, p2, q2, rfl, rfl, hp2, h2, r2⟩ := trodAll_cons r1
  obtain ⟨rfl, rfl, rfl⟩ := trodAll_nil r2
  obtain rfl : args = #[v0, v1, v2] := Array.ext' hargs
  obtain ⟨rfl, rfl⟩ := trodVars_none hV
  obtain ⟨x0, pa0, pb0, ca0, cb0, rfl, hw0⟩ := open_world (hval 0 26 v0 rfl rfl) h0
  obtain ⟨x1, rfl, _, _, wf1⟩ := open_int Tryd.underlying3 (hval 1 3 v1 rfl rfl) h1
  obtain ⟨x2, rfl, _, _, wf2⟩ := open_int Tryd.underlying3 (hval 2 3 v2 rfl rfl) h2
  refine (worldShows_any x0 x1 x2 pa0 pb0 ca0 cb0 W hw0 (tabs_of hL)).mono fun e W' ⟨he, hb⟩ => ?_
  exact ⟨_, he, law_post laidOut types rfl rfl Tryd.underlying4 rfl hW' hb⟩

def setLimits : Obj → Obj
  | .cells _ t frozen => .cells #[.int .i64 0, .int .i64 0, .int .i64 0, .int .i64 0, .int .i64 10000000, .int .i64 10000, .int .i64 10000000, .int .i64 100000, .int .i64 1000000, .int .i64 100000, .int .i64 100000, .int .i64 10000, .int .i64 100000, .int .i64 0, .int .i64 1000000, .int .i64 1000, .int .i64 100000, .int .i64 0, .int .i64 100000, .int .i64 100, .int .i64 10000000000, .int .i64 10000000, .int .i64 1000000000000, .int .i64 1000000000] t frozen
  | o => o
def setSizes : Obj → Obj
  | .cells _ t frozen => .cells #[.int .i64 0, .int .i64 10000000000000, .int .i64 10000000000, .int .i64 0, .int .i64 0] t frozen
  | o => o
noncomputable def laidWorld (os : Os) : World :=
  { World.holding Tryd.prog os ⟨#[], #[], []⟩ with heap := ((World.holding Tryd.prog os ⟨#[], #[], []⟩).heap.modify 0 setLimits).modify 1 setSizes }
def wargs : Array Value := #[.agg #[.int .u64 0, .slice none 0 0, .slice none 0 0], .int .i64 0, .int .i64 0]
theorem laid_met (os : Os) : laidMet Tryd.prog Rows.worldShowsRow.laid ((laidWorld os).forCall (fun _ _ => 0) ⟨#[], wargs, []⟩).memory :=
  laidMet_of_run' 8 (by kernel_rfl) (by kernel_rfl)
theorem reads (os : Os) {H : Type} (enc : TypeId × Value → H) : ∃ places, DataW.whole enc Tryd.prog ((laidWorld os).forCall (fun _ _ => 0) ⟨#[], wargs, []⟩).memory Tryd.f3.params.toList Rows.worldShowsSpec.vars false wargs.toList 8 = some ([.agg [.lit (.int .u64 0), .nil, .nil], .lit (.int .i64 0), .lit (.int .i64 0)], [], places) :=
  ⟨[], by kernel_rfl⟩
set_option maxRecDepth 100000 in
theorem lifted (os : Os) (started : os.Started) (H : Type) (enc : TypeId × Value → H) (F : Stop.Interp) :
    ReturnsInHanded {} Tryd.checked os 3 .any ((OpenSpec.ofChange Rows.worldShowsSpec).preRow enc Tryd.prog Tryd.f3 Rows.worldShowsRow.domain false Rows.worldShowsRow.laid) (((OpenSpec.ofChange Rows.worldShowsSpec).at F).post enc Tryd.prog Tryd.f3 false true false false) := by
  obtain ⟨places, hx⟩ := reads os enc
  refine returnsInHanded_of_row (C := Tryd.checked) (s := OpenSpec.ofChange Rows.worldShowsSpec) own started (by kernel_rfl) Tryd.func3
    (witness_row_at (enc := enc) (C := Tryd.checked) false (laidWorld os) wargs rfl (by kernel_rfl) (by kernel_rfl) (by kernel_rfl)
      (OpenSpec.preRow_of_cond 8 hx (by kernel_rfl) (fun k hk => by cases hk) (by kernel_rfl) (laid_met os))) ?_
  intro W base args ds gs before hval hW _ _ _ hL _ _
  exact contract H enc W base args ds gs before hval hW hL
theorem said : Rows.WorldShowsSaid :=
  OpenClaim.holds_of_cond 3 Tryd.f3 rfl rfl rfl rfl rfl rfl rfl ⟨rfl, rfl, rfl, rfl, rfl⟩ rfl rfl rfl rfl rfl (by kernel_rfl) Tryd.func3 (by kernel_rfl)
    (of_decide_eq_true (by kernel_rfl)) (by unfold Func.isWrapper; rw [if_neg (of_decide_eq_false (by kernel_rfl))]; exact ⟨rfl, rfl⟩)
    (fun os started H enc _ F => by rw [OpenClaim.pre_eq_preRow]; exact lifted os started H enc F)
theorem noStandIn : Tryd.f3.params.toList.all (fun t => !Tryd.prog.wantsStandIn t) = true := by kernel_rfl
theorem plain (f : FuncId) (fn : Func) (hf : Tryd.pinned.checked.prog.funcNamed "meridian/meridianlaw01.WorldShows" = some f) (hfn : Tryd.pinned.checked.prog.funcs[f]? = some fn) :
    false = Tryd.pinned.checked.prog.looks [] ∧ ∀ (j : Nat) t, fn.params[j]? = some t → Tryd.pinned.checked.prog.wantsStandIn t = false := by
  obtain rfl : f = 3 := Option.some.inj ((show Tryd.prog.funcNamed "meridian/meridianlaw01.WorldShows" = some 3 by kernel_rfl).symm.trans hf) |>.symm
  obtain rfl : fn = Tryd.f3 := (Option.some.inj (Tryd.func3.symm.trans hfn)).symm
  refine ⟨by kernel_rfl, fun j t ht => ?_⟩
  have hm := List.all_eq_true.1 noStandIn t (by simpa using Array.mem_of_getElem? ht)
  exact (by simpa using hm : Tryd.prog.wantsStandIn t = false)
theorem card : Rows.WorldShowsCardSaid :=
  Claim7.holds_tied_plain_at .later [] _ _ _ _ said (fun _ h => by cases h) (by kernel_rfl) (fun _ h => by cases h) worldShows_row_tie rfl ⟨rfl, rfl⟩ (by kernel_rfl) rfl plain (by kernel_rfl)
end Go.Proofs.YthegamfbigphkaaDoor.lawWorldShows
