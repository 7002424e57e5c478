/- WorldTracks. -/
import Derived.Test.YthegamfbigphkaaDoorLawIn
import Derived.Test.YthegamfbigphkaaDoorRefO
import Derived.Test.YthegamfbigphkaaDoorTabs
import Derived.Test.YthegamfbigphkaaDoorFrame
namespace Go.Proofs.YthegamfbigphkaaDoor
open Go Go.RowKit
theorem rBack_any (W : Wld) (k ms mf : Int) (p1 p2 : Option Addr) (c1 c2 : Nat) (w : World) (hW : WldIn w W p1 p2) (hms : -9223372036854775808 ≤ ms ∧ ms ≤ 9223372036854775807) :
    Calls Tryd.prog 34 #[.agg #[.int .u64 W.seed, .slice p1 W.chs.length c1, .slice p2 W.cls.length c2], .int .i64 k, .agg #[.int .i64 ms, .int .i64 mf]] w fun e w' => e = .returned (.tuple #[.int .i64 (backE W k ms mf).v, .int .i64 (backE W k ms mf).e]) ∧ Below w.heap.size w w' := by
  have a0 := below_alloc' (below_alloc' (Below.refl w.heap.size w) (.cells #[.int .u64 W.seed, .slice p1 W.chs.length c1, .slice p2 W.cls.length c2] 26)) (.cells #[.int .i64 ms, .int .i64 mf] 52)
  have m1 : ((w.alloc (.cells #[.int .u64 W.seed, .slice p1 W.chs.length c1, .slice p2 W.cls.length c2] 26)).alloc (.cells #[.int .i64 ms, .int .i64 mf] 52)).cell? ⟨w.heap.size + 1, 1, none⟩ = some (.int .i64 mf) := by simp
  by_cases he : findErr W k [] = 0
  · cases hr : inR mf 0 999999999999999
    · have hbe : backErr W k mf = 1 := by unfold backErr; rw [if_pos he, hr]; rfl
      have hfin : backE W k ms mf = ⟨0, 1⟩ := by unfold backE; rw [hbe]; rfl
      have hz := find_zero W k
      rw [he] at hz
      have HF := Lib.hid hfin
      have HZ := Lib.hid hz
      have HW0 := Lib.hid (hW.below a0)
      have A0 := Lib.hid a0
      have M1 := Lib.hid m1
      have hm := inR_false hr
      clear hbe hfin hz hW a0 m1 he hr
      by_cases h0 : mf < 0
      · have d1 : decide (mf < 0) = true := by simpa using h0
        go_enter Tryd.func34, Tryd.ntmps34
        go_wp2_with fail
        refine (clocked_any W k 0 p1 p2 c1 c2 _ HW0.out).mono ?_
        rintro e z ⟨rfl, hb1⟩
        rw [HZ.out]
        have m1 := cell_below hb1 M1.out
        have hzz := cell_lt m1
        have HB1 := Lib.hid (A0.out.trans (hb1.mono A0.out.size))
        clear hb1
        go_wp2
        go_ret2
        exact ⟨by rw [HF.out]; rfl, HB1.out⟩
      · have d1 : decide (mf < 0) = false := by simpa using h0
        have d2 : decide (1000000000000000 ≤ mf) = true := by simp; omega
        go_enter Tryd.func34, Tryd.ntmps34
        go_wp2_with fail
        refine (clocked_any W k 0 p1 p2 c1 c2 _ HW0.out).mono ?_
        rintro e z ⟨rfl, hb1⟩
        rw [HZ.out]
        have m1 := cell_below hb1 M1.out
        have hzz := cell_lt m1
        have HB1 := Lib.hid (A0.out.trans (hb1.mono A0.out.size))
        clear hb1
        go_wp2
        go_ret2
        exact ⟨by rw [HF.out]; rfl, HB1.out⟩
    · have hbe : backErr W k mf = 0 := by unfold backErr; rw [if_pos he, hr]; rfl
      have hfin : backE W k ms mf = backS W.seed k (clkOf W k) (roomOf W k) ms mf := if_pos hbe
      rw [hfin]
      have := inR_true hr
      exact rBack_ok W k ms mf p1 p2 c1 c2 w hW hms he ⟨by omega, by omega⟩
  · have hbe : backErr W k mf = findErr W k [] := if_neg he
    have hfin : backE W k ms mf = ⟨0, findErr W k []⟩ := by unfold backE; rw [hbe, if_neg he]
    have hne : (findErr W k [] != 0) = true := by simpa using he
    have hne2 : (findErr W k [] == 0) = false := by simpa using he
    have HF := Lib.hid hfin
    have HZ := Lib.hid (find_zero W k)
    have HW0 := Lib.hid (hW.below a0)
    have A0 := Lib.hid a0
    clear hbe hfin hW a0 m1 he
    go_enter Tryd.func34, Tryd.ntmps34
    go_wp2_with fail
    refine (clocked_any W k 0 p1 p2 c1 c2 _ HW0.out).mono ?_
    rintro e z ⟨rfl, hb1⟩
    rw [HZ.out]
    have HB1 := Lib.hid (A0.out.trans (hb1.mono A0.out.size))
    clear hb1
    go_wp2
    go_ret2
    exact ⟨by rw [HF.out]; rfl, HB1.out⟩
/-- the law's arguments, in their boxes -/
structure ParM (X : World) (b : Nat) (W : Wld) (p1 p2 : Option Addr) (c1 c2 : Nat) (ms mf : Int) : Prop where
  c0 : X.cell? ⟨b, 0, none⟩ = some (.int .u64 W.seed)
  c1 : X.cell? ⟨b, 1, none⟩ = some (.slice p1 W.chs.length c1)
  c2 : X.cell? ⟨b, 2, none⟩ = some (.slice p2 W.cls.length c2)
  m0 : X.cell? ⟨b + 1, 0, none⟩ = some (.int .i64 ms)
  m1 : X.cell? ⟨b + 1, 1, none⟩ = some (.int .i64 mf)
theorem ParM.below {X Y : World} {b : Nat} {W : Wld} {p1 p2 : Option Addr} {c1 c2 : Nat} {ms mf : Int} (h : ParM X b W p1 p2 c1 c2 ms mf) (hb : Below X.heap.size X Y) : ParM Y b W p1 p2 c1 c2 ms mf := ⟨cell_below hb h.c0, cell_below hb h.c1, cell_below hb h.c2, cell_below hb h.m0, cell_below hb h.m1⟩
theorem rgrowth_named (W : Wld) (k s t : Int) (p1 p2 : Option Addr) (k1 k2 : Nat) (X : World) (hW : WldIn X W p1 p2) :
    Calls Tryd.prog 32 #[.agg #[.int .u64 W.seed, .slice p1 W.chs.length k1, .slice p2 W.cls.length k2], .int .i64 k, .int .i64 s, .int .i64 t] X (PairRet (growthE W k s t) X) :=
  (rGrowth_any W k s t p1 p2 k1 k2 X hW).mono fun _ _ ⟨h1, h2⟩ => ⟨_, _, _, h1, Lib.hid rfl, h2⟩
theorem awake_keep (z X : World) (hb : Below z.heap.size z X) (ht : Tabs z) : Calls Tryd.prog 11 #[] X fun e Y => e = .returned (.bool true) ∧ Below z.heap.size z Y :=
  (awake_any X (ht.below hb)).mono fun _ _ ⟨a, b⟩ => ⟨a, hb.trans (b.mono hb.size)⟩
theorem mix_keep (z : World) (x y : Int) (X : World) (hb : Below z.heap.size z X) : Calls Tryd.prog 37 #[.int .u64 x, .int .u64 y] X fun e Y => e = .returned (.int .u64 (mixS x y)) ∧ Below z.heap.size z Y :=
  (mix_any x y X).mono fun _ _ ⟨a, b⟩ => ⟨a, b ▸ hb⟩
theorem rmix_keep (z : World) (x y : Int) (X : World) (hb : Below z.heap.size z X) : Calls Tryd.prog 38 #[.int .u64 x, .int .u64 y] X fun e Y => e = .returned (.int .u64 (mixS x y)) ∧ Below z.heap.size z Y :=
  (rmix_any x y X).mono fun _ _ ⟨a, b⟩ => ⟨a, b ▸ hb⟩
set_option maxRecDepth 100000 in
set_option maxHeartbeats 1000000 in
theorem tracks_big (W : Wld) (k x st n ms mf : Int) (p1 p2 : Option Addr) (c1 c2 : Nat) (w : World) (ht : Tabs w) (hW : WldIn w W p1 p2) (hb : bigS W = true) :
    Calls Tryd.prog 4 #[.agg #[.int .u64 W.seed, .slice p1 W.chs.length c1, .slice p2 W.cls.length c2], .int .i64 k, .int .i64 x, .int .i64 st, .int .i64 n, .agg #[.int .i64 ms, .int .i64 mf]] w fun e w' => e = .returned (.bool true) ∧ Below w.heap.size w w' := by
  have a0 : Below w.heap.size w ((w.alloc (.cells #[.int .u64 W.seed, .slice p1 W.chs.length c1, .slice p2 W.cls.length c2] 26)).alloc (.cells #[.int .i64 ms, .int .i64 mf] 52)) := below_alloc' (below_alloc' (Below.refl _ _) _) _
  have HW := Lib.hid (hW.below a0)
  have HT := Lib.hid (ht.below a0)
  have HB := Lib.hid hb
  clear hb
  clear hW ht
  go_enter Tryd.func4, Tryd.ntmps4
  go_wp2_with fail
  refine (big_any W p1 p2 c1 c2 _ HW.out).mono ?_
  rintro e w1 ⟨rfl, hb1⟩
  rw [HB.out]
  have A1 := Lib.hid (a0.trans (hb1.mono a0.size))
  have HT1 := Lib.hid (HT.out.below hb1)
  clear a0 hb1
  go_wp2_with fail
  refine (awake_any _ HT1.out).mono ?_
  rintro e w2 ⟨rfl, hb2⟩
  have A2 := Lib.hid (A1.out.trans (hb2.mono A1.out.size))
  clear hb2
  go_wp2
  go_ret
  exact ⟨rfl, A2.out⟩
set_option maxRecDepth 100000 in
set_option maxHeartbeats 1000000 in
theorem tracks_many (W : Wld) (k x st n ms mf : Int) (p1 p2 : Option Addr) (c1 c2 : Nat) (w : World) (ht : Tabs w) (hW : WldIn w W p1 p2) (hb : bigS W = false) (h1 : 60 < n) (h2 : n ≤ 20000) :
    Calls Tryd.prog 4 #[.agg #[.int .u64 W.seed, .slice p1 W.chs.length c1, .slice p2 W.cls.length c2], .int .i64 k, .int .i64 x, .int .i64 st, .int .i64 n, .agg #[.int .i64 ms, .int .i64 mf]] w fun e w' => e = .returned (.bool true) ∧ Below w.heap.size w w' := by
  have a0 : Below w.heap.size w ((w.alloc (.cells #[.int .u64 W.seed, .slice p1 W.chs.length c1, .slice p2 W.cls.length c2] 26)).alloc (.cells #[.int .i64 ms, .int .i64 mf] 52)) := below_alloc' (below_alloc' (Below.refl _ _) _) _
  have HW := Lib.hid (hW.below a0)
  have HT := Lib.hid (ht.below a0)
  have HB := Lib.hid hb
  have d1 : decide (60 < n) = true := by simpa using h1
  have d2 : decide (n ≤ 20000) = true := by simpa using h2
  clear hb
  clear hW ht
  go_enter Tryd.func4, Tryd.ntmps4
  go_wp2_with fail
  refine (big_any W p1 p2 c1 c2 _ HW.out).mono ?_
  rintro e w1 ⟨rfl, hb1⟩
  rw [HB.out]
  have A1 := Lib.hid (a0.trans (hb1.mono a0.size))
  have HT1 := Lib.hid (HT.out.below hb1)
  clear a0 hb1
  go_wp2_with fail
  refine (awake_any _ HT1.out).mono ?_
  rintro e w2 ⟨rfl, hb2⟩
  have A2 := Lib.hid (A1.out.trans (hb2.mono A1.out.size))
  clear hb2
  go_wp2
  go_ret
  exact ⟨rfl, A2.out⟩
set_option maxRecDepth 100000 in
set_option maxHeartbeats 4000000 in
theorem tracks_law (W : Wld) (k x st n ms mf : Int) (p1 p2 : Option Addr) (c1 c2 : Nat) (w : World) (ht : Tabs w) (hW : WldIn w W p1 p2) (hb : bigS W = false) (hn : n ≤ 60 ∨ 20000 < n) (hk : k ≤ 9223372036854775807) (hx : x ≤ 9223372036854775807) (hst : st ≤ 9223372036854775807) (hms : -9223372036854775808 ≤ ms ∧ ms ≤ 9223372036854775807) :
    Calls Tryd.prog 4 #[.agg #[.int .u64 W.seed, .slice p1 W.chs.length c1, .slice p2 W.cls.length c2], .int .i64 k, .int .i64 x, .int .i64 st, .int .i64 n, .agg #[.int .i64 ms, .int .i64 mf]] w fun e w' => e = .returned (.bool true) ∧ Below w.heap.size w w' := by
  have a0 : Below w.heap.size w ((w.alloc (.cells #[.int .u64 W.seed, .slice p1 W.chs.length c1, .slice p2 W.cls.length c2] 26)).alloc (.cells #[.int .i64 ms, .int .i64 mf] 52)) := below_alloc' (below_alloc' (Below.refl _ _) _) _
  have HP0 := Lib.hid (show ParM ((w.alloc (.cells #[.int .u64 W.seed, .slice p1 W.chs.length c1, .slice p2 W.cls.length c2] 26)).alloc (.cells #[.int .i64 ms, .int .i64 mf] 52)) w.heap.size W p1 p2 c1 c2 ms mf from ⟨by simp, by simp, by simp, by simp, by simp⟩)
  have HW0 := Lib.hid (hW.below a0)
  have HWP := Lib.hid hW
  have HT := Lib.hid ht
  have HB := Lib.hid hb
  clear hW ht hb
  have hw60 : (decide (60 < n) = false) ∨ (decide (60 < n) = true ∧ decide (n ≤ 20000) = false) := by
    by_cases h : 60 < n
    · exact .inr ⟨by simpa using h, by simp; omega⟩
    · exact .inl (by simpa using h)
  clear hn
  go_enter Tryd.func4, Tryd.ntmps4
  go_wp2_with fail
  refine (big_any W p1 p2 c1 c2 _ HW0.out).mono ?_
  rintro e w1 ⟨rfl, hb1⟩
  rw [HB.out]
  have A1 := Lib.hid (a0.trans (hb1.mono a0.size))
  have HQ1 := Lib.hid (HP0.out.below hb1)
  have HW1 := Lib.hid (HW0.out.below hb1)
  clear a0 hb1 HP0 HW0
  obtain ⟨m0, m1, m2, -, -⟩ := HQ1.out
  have hz := cell_lt m0
  rcases hw60 with d1 | ⟨d1, d2⟩
  all_goals
    go_wp2_with fail
    clear m0 m1 m2 hz
    refine (own_any W p1 p2 c1 c2 _ HW1.out HB.out).mono ?_
    rintro e y ⟨q1, q2, e1, e2, rfl, hW2, hb2⟩
    have A2 := Lib.hid (A1.out.trans (hb2.mono A1.out.size))
    have HW2 := Lib.hid hW2
    have HQ2 := Lib.hid ((HQ1.out.below hb2).below (below_alloc' (Below.refl y.heap.size y) (.cells #[.int .u64 W.seed, .slice q1 W.chs.length e1, .slice q2 W.cls.length e2] 32)))
    have hle : w.heap.size ≤ y.heap.size := A2.out.size
    have HL := Lib.hid (lawIn_new (seed := W.seed) (W := W) (q1 := q1) (q2 := q2) (d1 := e1) (d2 := e2) A2.out)
    clear hb2 hW2 HW1 A1 HQ1
    go_wp2_with fail
    refine (Track_any W k x st n q1 q2 e1 e2 _ (HT.out.below HL.out.bel) (HW2.out.below HL.out.own) hst).mono ?_
    rintro e z3 ⟨v1, rfl, hr1, hb⟩
    have HL3 := Lib.hid (HL.out.below hb)
    have HQ3 := Lib.hid (HQ2.out.below hb)
    clear hb HL HQ2
    have HR1 := Lib.hid hr1
    obtain ⟨pv1, cv1, rfl, -, -⟩ := hr1
    obtain ⟨m0, m1, m2, -, -⟩ := HQ3.out
    have hz := cell_lt m0
    go_wp2_with fail
    clear m0 m1 m2 hz
    refine (rTrack_any W k x st n p1 p2 c1 c2 _ (HWP.out.below HL3.out.bel) hst).mono ?_
    rintro e z4 ⟨v2, rfl, hr2, hb⟩
    have HL4 := Lib.hid (HL3.out.below hb)
    have HQ4 := Lib.hid (HQ3.out.below hb)
    have HR3 := Lib.hid (HR1.out.below hb)
    have HR2 := Lib.hid hr2
    clear hb HL3 HQ3 HR1
    obtain ⟨pv2, cv2, rfl, -, -⟩ := hr2
    generalize (trackE W k x st n).l = tl at *
    generalize (trackE W k x st n).e = te at *
    have tt : (te != te) = false := by simp
    go_wp2_with (go_at_call 30; refine (sameInts_any tl _ _ _ HR3.out HR2.out).mono ?_; rintro e z5 ⟨rfl, hb⟩; have HL5 := Lib.hid (HL4.out.below hb); have HQ5 := Lib.hid (HQ4.out.below hb); clear hb HL4 HQ4; obtain ⟨-, -, l0, l1, l2, -⟩ := HL5.out; have hz := cell_lt l0)
    refine (growth_named W k x st q1 q2 e1 e2 _ (HT.out.below HL5.out.bel) (HW2.out.below HL5.out.own)).mono ?_
    rintro e z11 ⟨ra, rb, re, rfl, Hr, hb⟩
    have HL11 := Lib.hid (HL5.out.below hb)
    have HQ11 := Lib.hid (HQ5.out.below hb)
    clear hb HL5 HQ5
    clear l0 l1 l2 hz tt
    obtain ⟨m0, m1, m2, -, -⟩ := HQ11.out
    have hz := cell_lt m0
    go_wp2_with fail
    clear m0 m1 m2 hz
    have hbx := below_alloc' (Below.refl z11.heap.size z11) (.cells #[.int .i64 ra, .int .i64 rb] 44)
    have HTr := Lib.hid (two_new (X := z11) ra rb 44)
    have HLz11x := Lib.hid (HL11.out.below hbx)
    have HQz11x := Lib.hid (HQ11.out.below hbx)
    generalize z11.alloc (.cells #[.int .i64 ra, .int .i64 rb] 44) = z11x at *
    clear hbx HL11 HQ11
    refine (rgrowth_named W k x st p1 p2 c1 c2 _ (HWP.out.below HLz11x.out.bel)).mono ?_
    rintro e z12 ⟨ra2, rb2, re2, rfl, Hr2, hb⟩
    have HL12 := Lib.hid (HLz11x.out.below hb)
    have HQ12 := Lib.hid (HQz11x.out.below hb)
    have HUr := Lib.hid (HTr.out.below hb)
    clear hb HLz11x HQz11x HTr
    have hsame := Hr.out.symm.trans Hr2.out
    simp only [PairErr.mk.injEq] at hsame
    obtain ⟨rfl, rfl, rfl⟩ := hsame
    clear Hr Hr2
    obtain ⟨tw0, tw1⟩ := HUr.out
    have hzt := cell_lt tw0
    obtain ⟨-, -, l0, l1, l2, -⟩ := HL12.out
    have hz := cell_lt l0
    obtain ⟨-, -, -, m0, m1⟩ := HQ12.out
    have hzm := cell_lt m0
    have hbx := below_alloc' (Below.refl z12.heap.size z12) (.cells #[.int .i64 ra, .int .i64 rb] 44)
    have HLr := Lib.hid (HL12.out.below hbx)
    have HQr := Lib.hid (HQ12.out.below hbx)
    clear hbx
    go_wp2_with fail
    clear l0 l1 l2 m0 m1 hz hzm tw0 tw1 hzt
    generalize z12.alloc (.cells #[.int .i64 ra, .int .i64 rb] 44) = zr at *
    clear HL12 HQ12 HUr
    refine (Back_any W k ms mf q1 q2 e1 e2 _ (HT.out.below HLr.out.bel) (HW2.out.below HLr.out.own) hms).mono ?_
    rintro e zm ⟨rfl, hb⟩
    have HLm := Lib.hid (HLr.out.below hb)
    have HQm := Lib.hid (HQr.out.below hb)
    clear hb HLr HQr
    obtain ⟨n0, n1, n2, m0, m1⟩ := HQm.out
    have hz := cell_lt m0
    have hzn := cell_lt n0
    go_wp2_with fail
    clear n0 n1 n2 m0 m1 hz hzn
    refine (rBack_any W k ms mf p1 p2 c1 c2 _ (HWP.out.below HLm.out.bel) hms).mono ?_
    rintro e zn ⟨rfl, hb⟩
    have HLn := Lib.hid (HLm.out.below hb)
    have HQn := Lib.hid (HQm.out.below hb)
    clear hb HLm HQm
    generalize (backE W k ms mf).v = bv at *
    generalize (backE W k ms mf).e = be at *
    have tt1 : (bv != bv) = false := by simp
    have tt2 : (be != be) = false := by simp
    obtain ⟨n0, n1, n2, m0, m1⟩ := HQn.out
    have hz := cell_lt m0
    have hzn := cell_lt n0
    go_wp2_with fail
    refine (draw_exp W.seed k x st n _ hk hx hst).mono ?_
    rintro e w' ⟨rfl, rfl⟩
    go_wp2_with fail
    refine (rdraw_any W.seed k x st n _ hk hx hst).mono ?_
    rintro e w' ⟨rfl, rfl⟩
    generalize (drawE W.seed k x st n).v = dv at *
    generalize (drawE W.seed k x st n).e = de at *
    have tt3 : (dv == dv) = true := by simp
    have tt4 : (de == de) = true := by simp
    have HTZ := Lib.hid (HT.out.below HLn.out.bel)
    go_wp2_with fail
    go_region_held3 (fun w' => Below zn.heap.size zn w' ∧ w'.cell? ⟨w.heap.size, 0, none⟩ = some (.int .u64 W.seed) ∧ w'.cell? ⟨w.heap.size + 1, 1, none⟩ = some (.int .i64 mf))
      (first | exact ⟨Below.drew (Below.refl _ _), n0, m1⟩ | exact ⟨(by assumption), cell_below (by assumption) n0, cell_below (by assumption) m1⟩)
      (first | (go_at_call 37; refine (mix_keep zn _ _ _ (by first | assumption | exact Below.drew (Below.refl _ _))).mono ?_; rintro e w9 ⟨rfl, hb9⟩) |
        (go_at_call 38; refine (rmix_keep zn _ _ _ (by first | assumption | exact Below.drew (Below.refl _ _))).mono ?_; rintro e w9 ⟨rfl, hb9⟩) |
        (go_at_call 11; refine (awake_keep zn _ (by first | assumption | exact Below.drew (Below.refl _ _)) HTZ.out).mono ?_; rintro e w9 ⟨rfl, hb9⟩))
    all_goals
      go_wp2
      go_ret
      exact ⟨rfl, HLn.out.bel.trans (hb9.mono HLn.out.bel.size)⟩
theorem worldTracks_any (W : Wld) (k x st n ms mf : Int) (p1 p2 : Option Addr) (c1 c2 : Nat) (w : World) (hW : WldIn w W p1 p2) (ht : Tabs w) (hk : k ≤ 9223372036854775807) (hx : x ≤ 9223372036854775807) (hst : st ≤ 9223372036854775807) (hms : -9223372036854775808 ≤ ms ∧ ms ≤ 9223372036854775807) :
    Calls Tryd.prog 4 #[.agg #[.int .u64 W.seed, .slice p1 W.chs.length c1, .slice p2 W.cls.length c2], .int .i64 k, .int .i64 x, .int .i64 st, .int .i64 n, .agg #[.int .i64 ms, .int .i64 mf]] w fun e w' => e = .returned (.bool true) ∧ Below w.heap.size w w' := by
  cases hb : bigS W
  · by_cases h : 60 < n ∧ n ≤ 20000
    · exact tracks_many W k x st n ms mf p1 p2 c1 c2 w ht hW hb h.1 h.2
    · exact tracks_law W k x st n ms mf p1 p2 c1 c2 w ht hW hb (by omega) hk hx hst hms
  · exact tracks_big W k x st n ms mf p1 p2 c1 c2 w ht hW hb
end Go.Proofs.YthegamfbigphkaaDoor
