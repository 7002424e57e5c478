/- The walk over the law WorldHolds. -/
import Derived.Test.YtehjkmnamgafaaaDoorLawIn
namespace Go.Proofs.YtehjkmnamgafaaaDoor
open Go Go.RowKit
set_option maxRecDepth 100000 in
set_option maxHeartbeats 1000000 in
theorem holds_big (W : Wld) (seed k a b : Int) (p1 p2 : Option Addr) (c1 c2 : Nat) (w : World) (ht : Tabs w) (hW : WldIn w W p1 p2) (hb : bigS W = true) :
    Calls Tryd.prog 6 #[.agg #[.int .u64 W.seed, .slice p1 W.chs.length c1, .slice p2 W.cls.length c2], .int .u64 seed, .int .i64 k, .int .i64 a, .int .i64 b] w fun e w' => e = .returned (.bool true) ∧ Below w.heap.size w w' := by
  have a0 : Below w.heap.size w (w.alloc (.cells #[.int .u64 W.seed, .slice p1 W.chs.length c1, .slice p2 W.cls.length c2] 26)) := below_alloc' (Below.refl _ _) _
  have HW := Lib.hid (hW.below a0)
  have HT := Lib.hid (ht.below a0)
  have HB := Lib.hid hb
  clear hW ht hb
  go_enter Tryd.func6, Tryd.ntmps6
  go_wp2_with fail
  refine (big_any W p1 p2 c1 c2 _ HW.out).mono ?_
  rintro e w1 ⟨rfl, hb1⟩
  rw [HB.out]
  have A1 := Lib.hid (a0.trans (hb1.mono a0.size))
  have HT1 := Lib.hid (HT.out.below hb1)
  clear a0 hb1
  go_wp2_with fail
  refine (awake_any _ HT1.out).mono ?_
  rintro e w2 ⟨rfl, hb2⟩
  have A2 := Lib.hid (A1.out.trans (hb2.mono A1.out.size))
  clear hb2
  go_wp2
  go_ret
  exact ⟨rfl, A2.out⟩
set_option maxRecDepth 100000 in
set_option maxHeartbeats 4000000 in
theorem holds_law (W : Wld) (seed k a b : Int) (p1 p2 : Option Addr) (c1 c2 : Nat) (w : World) (ht : Tabs w) (hW : WldIn w W p1 p2) (hb : bigS W = false) :
    Calls Tryd.prog 6 #[.agg #[.int .u64 W.seed, .slice p1 W.chs.length c1, .slice p2 W.cls.length c2], .int .u64 seed, .int .i64 k, .int .i64 a, .int .i64 b] w fun e w' => e = .returned (.bool true) ∧ Below w.heap.size w w' := by
  have a0 : Below w.heap.size w (w.alloc (.cells #[.int .u64 W.seed, .slice p1 W.chs.length c1, .slice p2 W.cls.length c2] 26)) := below_alloc' (Below.refl _ _) _
  have x0 : (w.alloc (.cells #[.int .u64 W.seed, .slice p1 W.chs.length c1, .slice p2 W.cls.length c2] 26)).cell? ⟨w.heap.size, 0, none⟩ = some (.int .u64 W.seed) := by simp
  have x1 : (w.alloc (.cells #[.int .u64 W.seed, .slice p1 W.chs.length c1, .slice p2 W.cls.length c2] 26)).cell? ⟨w.heap.size, 1, none⟩ = some (.slice p1 W.chs.length c1) := by simp
  have x2 : (w.alloc (.cells #[.int .u64 W.seed, .slice p1 W.chs.length c1, .slice p2 W.cls.length c2] 26)).cell? ⟨w.heap.size, 2, none⟩ = some (.slice p2 W.cls.length c2) := by simp
  have X0 := Lib.hid x0
  have X1 := Lib.hid x1
  have X2 := Lib.hid x2
  have HW0 := Lib.hid (hW.below a0)
  have HT := Lib.hid ht
  have HB := Lib.hid hb
  clear hW ht hb x0 x1 x2
  go_enter Tryd.func6, Tryd.ntmps6
  go_wp2_with fail
  refine (big_any W p1 p2 c1 c2 _ HW0.out).mono ?_
  rintro e w1 ⟨rfl, hb1⟩
  rw [HB.out]
  have A1 := Lib.hid (a0.trans (hb1.mono a0.size))
  have y0 := cell_below hb1 X0.out
  have y1 := cell_below hb1 X1.out
  have y2 := cell_below hb1 X2.out
  have HW1 := Lib.hid (HW0.out.below hb1)
  clear a0 hb1 X0 X1 X2 HW0
  go_wp2_with fail
  refine (own_any W p1 p2 c1 c2 _ HW1.out HB.out).mono ?_
  rintro e y ⟨q1, q2, d1, d2, rfl, hW2, hb2⟩
  have A2 := Lib.hid (A1.out.trans (hb2.mono A1.out.size))
  have HW2 := Lib.hid hW2
  have hle : w.heap.size ≤ y.heap.size := A2.out.size
  have HL := Lib.hid (lawIn_new (seed := W.seed) (W := W) (q1 := q1) (q2 := q2) (d1 := d1) (d2 := d2) A2.out)
  clear hb2 hW2 y0 y1 y2 HW1 A1
  go_wp2_with fail
  refine (reach_named W k a q1 q2 d1 d2 _ (HT.out.below HL.out.bel) (HW2.out.below HL.out.own)).mono ?_
  rintro e z1 ⟨rl, rh, re, rfl, HR, hb3⟩
  have HL1 := Lib.hid (HL.out.below hb3)
  obtain ⟨-, -, l0, l1, l2, -⟩ := HL1.out
  have hz1 := cell_lt l0
  clear hb3 HL
  go_wp2_with fail
  have HRT := Lib.hid (two_new (X := z1) rl rh 44)
  have HL2 := Lib.hid (HL1.out.below (below_alloc' (Below.refl z1.heap.size z1) (.cells #[.int .i64 rl, .int .i64 rh] 44)))
  have hlo : y.heap.size < z1.heap.size := hz1
  generalize z1.alloc (.cells #[.int .i64 rl, .int .i64 rh] 44) = z2 at *
  clear HL1 l0 l1 l2
  refine (growth_named W k a b q1 q2 d1 d2 _ (HT.out.below HL2.out.bel) (HW2.out.below HL2.out.own)).mono ?_
  rintro e z3 ⟨gl, gh, ge, rfl, HG, hb4⟩
  have HL3 := Lib.hid (HL2.out.below hb4)
  have HR3 := Lib.hid (HRT.out.below hb4)
  obtain ⟨-, -, l0, l1, l2, lf⟩ := HL3.out
  have hz3 := cell_lt l0
  have hz4 := cell_lt HR3.out.1
  clear hb4 HL2 HRT
  go_wp2_with fail
  have HL4 := Lib.hid (HL3.out.seeded hle seed)
  have HR4 := Lib.hid (HR3.out.set (b' := y.heap.size) (o' := 0) (u := .int .u64 seed) (by omega))
  have hbx := below_alloc' (Below.refl (z3.setCell ⟨y.heap.size, 0, none⟩ (.int .u64 seed)).heap.size _) (.cells #[.int .i64 gl, .int .i64 gh] 44)
  have HL5 := Lib.hid (HL4.out.below hbx)
  have HR5 := Lib.hid (HR4.out.below hbx)
  have HG5 : Hid (Two ((z3.setCell ⟨y.heap.size, 0, none⟩ (.int .u64 seed)).alloc (.cells #[.int .i64 gl, .int .i64 gh] 44)) z3.heap.size gl gh) := Lib.hid (by
    have := two_new (X := z3.setCell ⟨y.heap.size, 0, none⟩ (.int .u64 seed)) gl gh 44
    simpa using this)
  generalize (z3.setCell ⟨y.heap.size, 0, none⟩ (.int .u64 seed)).alloc (.cells #[.int .i64 gl, .int .i64 gh] 44) = z5 at *
  clear HL3 HR3 HL4 HR4 hbx l0 l1 l2 lf
  refine (shown_named W seed k a q1 q2 d1 d2 _ (HT.out.below HL5.out.bel) (HW2.out.below HL5.out.own)).mono ?_
  rintro e z6 ⟨nv, ne, rfl, HN, hb6⟩
  have HL6 := Lib.hid (HL5.out.below hb6)
  have HR6 := Lib.hid (HR5.out.below hb6)
  have HG6 := Lib.hid (HG5.out.below hb6)
  clear hb6 HL5 HR5 HG5
  have hin := holds_reach W seed k a
  rw [HR.out, HN.out] at hin
  obtain ⟨hin1, hin2⟩ := hin
  dsimp only at hin1 hin2
  have hgr := (holds_growth W seed k a b).ok
  rw [HG.out] at hgr
  dsimp only at hgr
  have HGR := Lib.hid hgr
  clear hgr HR HN HG
  obtain ⟨-, -, l0, l1, l2, -⟩ := HL6.out
  obtain ⟨r0, r1⟩ := HR6.out
  obtain ⟨g0, g1⟩ := HG6.out
  have hz6 := cell_lt l0
  have h3 : (re = 0 ∧ ne = 0) ∨ (re = 0 ∧ ne ≠ 0) ∨ (re ≠ 0 ∧ re = ne) := by
    by_cases h : re = 0
    · by_cases h' : ne = 0
      · exact .inl ⟨h, h'⟩
      · exact .inr (.inl ⟨h, h'⟩)
    · exact .inr (.inr ⟨h, (hin2 h).symm⟩)
  rcases h3 with ⟨rfl, rfl⟩ | ⟨rfl, h⟩ | ⟨h, rfl⟩
  · obtain ⟨i1, i2, i3, i4⟩ := hin1 rfl rfl
    clear hin1 hin2
    by_cases hge : ge = 0
    · subst hge
      have hgr := HGR.out rfl
      clear HGR
      have HGR := Lib.hid hgr
      clear hgr
      go_wp2_with fail
      clear l0 l1 l2 r0 r1
      refine (phase_named W seed k a q1 q2 d1 d2 _ (HT.out.below HL6.out.bel) (HW2.out.below HL6.out.own)).mono ?_
      rintro e z7 ⟨pv, pe, rfl, HX, hb7⟩
      have HL7 := Lib.hid (HL6.out.below hb7)
      have HG7 := Lib.hid (HG6.out.below hb7)
      clear hb7 HL6 HG6 HR6 g0 g1
      have hgr := HGR.out
      rw [HX.out] at hgr
      obtain ⟨⟨hpe, -⟩, -⟩ := hgr
      dsimp only at hpe
      subst hpe
      obtain ⟨-, -, l0, l1, l2, -⟩ := HL7.out
      have hz7 := cell_lt l0
      go_wp2_with fail
      clear l0 l1 l2
      refine (phase_named W seed k b q1 q2 d1 d2 _ (HT.out.below HL7.out.bel) (HW2.out.below HL7.out.own)).mono ?_
      rintro e z8 ⟨qv, qe, rfl, HY, hb8⟩
      have HL8 := Lib.hid (HL7.out.below hb8)
      have HG8 := Lib.hid (HG7.out.below hb8)
      clear hb8 HL7 HG7
      have hgr := HGR.out
      rw [HX.out, HY.out] at hgr
      obtain ⟨⟨-, hqe⟩, j1, j2, ⟨j3, j4⟩, j5, j6⟩ := hgr
      dsimp only at hqe j1 j2 j3 j4 j5 j6
      subst hqe
      clear HGR HX HY
      obtain ⟨g0, g1⟩ := HG8.out
      obtain ⟨-, -, l0, -, -, -⟩ := HL8.out
      have hz8 := cell_lt l0
      go_wp2_with fail
      refine (awake_any _ (HT.out.below HL8.out.bel)).mono ?_
      rintro e z9 ⟨rfl, hb9⟩
      have HB9 := Lib.hid (HL8.out.bel.trans (hb9.mono HL8.out.bel.size))
      clear hb9
      go_wp2
      go_ret
      exact ⟨rfl, HB9.out⟩
    · have e3 : (ge == 0) = false := by simpa using hge
      go_wp2_with fail
      refine (awake_any _ (HT.out.below HL6.out.bel)).mono ?_
      rintro e z9 ⟨rfl, hb9⟩
      have HB9 := Lib.hid (HL6.out.bel.trans (hb9.mono HL6.out.bel.size))
      clear hb9
      go_wp2
      go_ret
      exact ⟨rfl, HB9.out⟩
  · have e1 : (ne == 0) = false := by simpa using h
    clear hin1 hin2 h
    by_cases hge : ge = 0
    · subst hge
      have hgr := HGR.out rfl
      clear HGR
      have HGR := Lib.hid hgr
      clear hgr
      go_wp2_with fail
      clear l0 l1 l2 r0 r1
      refine (phase_named W seed k a q1 q2 d1 d2 _ (HT.out.below HL6.out.bel) (HW2.out.below HL6.out.own)).mono ?_
      rintro e z7 ⟨pv, pe, rfl, HX, hb7⟩
      have HL7 := Lib.hid (HL6.out.below hb7)
      have HG7 := Lib.hid (HG6.out.below hb7)
      clear hb7 HL6 HG6 HR6 g0 g1
      have hgr := HGR.out
      rw [HX.out] at hgr
      obtain ⟨⟨hpe, -⟩, -⟩ := hgr
      dsimp only at hpe
      subst hpe
      obtain ⟨-, -, l0, l1, l2, -⟩ := HL7.out
      have hz7 := cell_lt l0
      go_wp2_with fail
      clear l0 l1 l2
      refine (phase_named W seed k b q1 q2 d1 d2 _ (HT.out.below HL7.out.bel) (HW2.out.below HL7.out.own)).mono ?_
      rintro e z8 ⟨qv, qe, rfl, HY, hb8⟩
      have HL8 := Lib.hid (HL7.out.below hb8)
      have HG8 := Lib.hid (HG7.out.below hb8)
      clear hb8 HL7 HG7
      have hgr := HGR.out
      rw [HX.out, HY.out] at hgr
      obtain ⟨⟨-, hqe⟩, j1, j2, ⟨j3, j4⟩, j5, j6⟩ := hgr
      dsimp only at hqe j1 j2 j3 j4 j5 j6
      subst hqe
      clear HGR HX HY
      obtain ⟨g0, g1⟩ := HG8.out
      obtain ⟨-, -, l0, -, -, -⟩ := HL8.out
      have hz8 := cell_lt l0
      go_wp2_with fail
      refine (awake_any _ (HT.out.below HL8.out.bel)).mono ?_
      rintro e z9 ⟨rfl, hb9⟩
      have HB9 := Lib.hid (HL8.out.bel.trans (hb9.mono HL8.out.bel.size))
      clear hb9
      go_wp2
      go_ret
      exact ⟨rfl, HB9.out⟩
    · have e3 : (ge == 0) = false := by simpa using hge
      go_wp2_with fail
      refine (awake_any _ (HT.out.below HL6.out.bel)).mono ?_
      rintro e z9 ⟨rfl, hb9⟩
      have HB9 := Lib.hid (HL6.out.bel.trans (hb9.mono HL6.out.bel.size))
      clear hb9
      go_wp2
      go_ret
      exact ⟨rfl, HB9.out⟩
  · have e1 : (re == 0) = false := by simpa using h
    have e2 : (re != 0) = true := by simpa using h
    clear hin1 hin2 h
    by_cases hge : ge = 0
    · subst hge
      have hgr := HGR.out rfl
      clear HGR
      have HGR := Lib.hid hgr
      clear hgr
      go_wp2_with fail
      clear l0 l1 l2 r0 r1
      refine (phase_named W seed k a q1 q2 d1 d2 _ (HT.out.below HL6.out.bel) (HW2.out.below HL6.out.own)).mono ?_
      rintro e z7 ⟨pv, pe, rfl, HX, hb7⟩
      have HL7 := Lib.hid (HL6.out.below hb7)
      have HG7 := Lib.hid (HG6.out.below hb7)
      clear hb7 HL6 HG6 HR6 g0 g1
      have hgr := HGR.out
      rw [HX.out] at hgr
      obtain ⟨⟨hpe, -⟩, -⟩ := hgr
      dsimp only at hpe
      subst hpe
      obtain ⟨-, -, l0, l1, l2, -⟩ := HL7.out
      have hz7 := cell_lt l0
      go_wp2_with fail
      clear l0 l1 l2
      refine (phase_named W seed k b q1 q2 d1 d2 _ (HT.out.below HL7.out.bel) (HW2.out.below HL7.out.own)).mono ?_
      rintro e z8 ⟨qv, qe, rfl, HY, hb8⟩
      have HL8 := Lib.hid (HL7.out.below hb8)
      have HG8 := Lib.hid (HG7.out.below hb8)
      clear hb8 HL7 HG7
      have hgr := HGR.out
      rw [HX.out, HY.out] at hgr
      obtain ⟨⟨-, hqe⟩, j1, j2, ⟨j3, j4⟩, j5, j6⟩ := hgr
      dsimp only at hqe j1 j2 j3 j4 j5 j6
      subst hqe
      clear HGR HX HY
      obtain ⟨g0, g1⟩ := HG8.out
      obtain ⟨-, -, l0, -, -, -⟩ := HL8.out
      have hz8 := cell_lt l0
      go_wp2_with fail
      refine (awake_any _ (HT.out.below HL8.out.bel)).mono ?_
      rintro e z9 ⟨rfl, hb9⟩
      have HB9 := Lib.hid (HL8.out.bel.trans (hb9.mono HL8.out.bel.size))
      clear hb9
      go_wp2
      go_ret
      exact ⟨rfl, HB9.out⟩
    · have e3 : (ge == 0) = false := by simpa using hge
      go_wp2_with fail
      refine (awake_any _ (HT.out.below HL6.out.bel)).mono ?_
      rintro e z9 ⟨rfl, hb9⟩
      have HB9 := Lib.hid (HL6.out.bel.trans (hb9.mono HL6.out.bel.size))
      clear hb9
      go_wp2
      go_ret
      exact ⟨rfl, HB9.out⟩
theorem worldHolds_any (W : Wld) (seed k a b : Int) (p1 p2 : Option Addr) (c1 c2 : Nat) (w : World) (hW : WldIn w W p1 p2) (ht : Tabs w) :
    Calls Tryd.prog 6 #[.agg #[.int .u64 W.seed, .slice p1 W.chs.length c1, .slice p2 W.cls.length c2], .int .u64 seed, .int .i64 k, .int .i64 a, .int .i64 b] w fun e w' => e = .returned (.bool true) ∧ Below w.heap.size w w' := by
  cases hb : bigS W
  · exact holds_law W seed k a b p1 p2 c1 c2 w ht hW hb
  · exact holds_big W seed k a b p1 p2 c1 c2 w ht hW hb
end Go.Proofs.YtehjkmnamgafaaaDoor
