/- The walk over the law WorldOrders. -/
import Derived.Test.YtehjkmnamgafaaaDoorLawIn
namespace Go.Proofs.YtehjkmnamgafaaaDoor
open Go Go.RowKit
theorem before_any (a b c d : Int) (w : World) :
    Calls Tryd.prog 40 #[.agg #[.int .i64 a, .int .i64 b], .agg #[.int .i64 c, .int .i64 d]] w fun e w' => e = .returned (.bool (beforeS a b c d)) ∧ Below w.heap.size w w' := by
  cases h1 : decide (a < c)
  · cases h2 : (a == c)
    all_goals
      go_enter Tryd.func40, Tryd.ntmps40
      go_wp2
      go_ret
      exact ⟨ret_bool (by simp [beforeS, h1, h2]), by go_grown⟩
  · go_enter Tryd.func40, Tryd.ntmps40
    go_wp2
    go_ret
    exact ⟨ret_bool (by simp [beforeS, h1]), by go_grown⟩
set_option maxRecDepth 100000 in
set_option maxHeartbeats 1000000 in
theorem orders_big (W : Wld) (k a b : Int) (p1 p2 : Option Addr) (c1 c2 : Nat) (w : World) (ht : Tabs w) (hW : WldIn w W p1 p2) (hb : bigS W = true) :
    Calls Tryd.prog 7 #[.agg #[.int .u64 W.seed, .slice p1 W.chs.length c1, .slice p2 W.cls.length c2], .int .i64 k, .int .i64 a, .int .i64 b] w fun e w' => e = .returned (.bool true) ∧ Below w.heap.size w w' := by
  have a0 : Below w.heap.size w (w.alloc (.cells #[.int .u64 W.seed, .slice p1 W.chs.length c1, .slice p2 W.cls.length c2] 26)) := below_alloc' (Below.refl _ _) _
  have HW := Lib.hid (hW.below a0)
  have HT := Lib.hid (ht.below a0)
  have HB := Lib.hid hb
  clear hW ht hb
  go_enter Tryd.func7, Tryd.ntmps7
  go_wp2_with fail
  refine (big_any W p1 p2 c1 c2 _ HW.out).mono ?_
  rintro e w1 ⟨rfl, hb1⟩
  rw [HB.out]
  have A1 := Lib.hid (a0.trans (hb1.mono a0.size))
  have HT1 := Lib.hid (HT.out.below hb1)
  clear a0 hb1
  go_wp2_with fail
  refine (awake_any _ HT1.out).mono ?_
  rintro e w2 ⟨rfl, hb2⟩
  have A2 := Lib.hid (A1.out.trans (hb2.mono A1.out.size))
  clear hb2
  go_wp2
  go_ret
  exact ⟨rfl, A2.out⟩
set_option maxRecDepth 100000 in
set_option maxHeartbeats 4000000 in
theorem orders_law (W : Wld) (k a b : Int) (p1 p2 : Option Addr) (c1 c2 : Nat) (w : World) (ht : Tabs w) (hW : WldIn w W p1 p2) (hb : bigS W = false) :
    Calls Tryd.prog 7 #[.agg #[.int .u64 W.seed, .slice p1 W.chs.length c1, .slice p2 W.cls.length c2], .int .i64 k, .int .i64 a, .int .i64 b] w fun e w' => e = .returned (.bool true) ∧ Below w.heap.size w w' := by
  have a0 : Below w.heap.size w (w.alloc (.cells #[.int .u64 W.seed, .slice p1 W.chs.length c1, .slice p2 W.cls.length c2] 26)) := below_alloc' (Below.refl _ _) _
  have x0 : (w.alloc (.cells #[.int .u64 W.seed, .slice p1 W.chs.length c1, .slice p2 W.cls.length c2] 26)).cell? ⟨w.heap.size, 0, none⟩ = some (.int .u64 W.seed) := by simp
  have x1 : (w.alloc (.cells #[.int .u64 W.seed, .slice p1 W.chs.length c1, .slice p2 W.cls.length c2] 26)).cell? ⟨w.heap.size, 1, none⟩ = some (.slice p1 W.chs.length c1) := by simp
  have x2 : (w.alloc (.cells #[.int .u64 W.seed, .slice p1 W.chs.length c1, .slice p2 W.cls.length c2] 26)).cell? ⟨w.heap.size, 2, none⟩ = some (.slice p2 W.cls.length c2) := by simp
  have X0 := Lib.hid x0
  have X1 := Lib.hid x1
  have X2 := Lib.hid x2
  have HW0 := Lib.hid (hW.below a0)
  have HT := Lib.hid ht
  have HB := Lib.hid hb
  clear hW ht hb x0 x1 x2
  go_enter Tryd.func7, Tryd.ntmps7
  go_wp2_with fail
  refine (big_any W p1 p2 c1 c2 _ HW0.out).mono ?_
  rintro e w1 ⟨rfl, hb1⟩
  rw [HB.out]
  have A1 := Lib.hid (a0.trans (hb1.mono a0.size))
  have y0 := cell_below hb1 X0.out
  have y1 := cell_below hb1 X1.out
  have y2 := cell_below hb1 X2.out
  have HW1 := Lib.hid (HW0.out.below hb1)
  clear a0 hb1 X0 X1 X2 HW0
  go_wp2_with fail
  refine (own_any W p1 p2 c1 c2 _ HW1.out HB.out).mono ?_
  rintro e y ⟨q1, q2, d1, d2, rfl, hW2, hb2⟩
  have A2 := Lib.hid (A1.out.trans (hb2.mono A1.out.size))
  have HW2 := Lib.hid hW2
  have hle : w.heap.size ≤ y.heap.size := A2.out.size
  have HL := Lib.hid (lawIn_new (seed := W.seed) (W := W) (q1 := q1) (q2 := q2) (d1 := d1) (d2 := d2) A2.out)
  clear hb2 hW2 y0 y1 y2 HW1 A1
  go_wp2_with fail
  refine (read_named W k a q1 q2 d1 d2 _ (HT.out.below HL.out.bel) (HW2.out.below HL.out.own)).mono ?_
  rintro e z1 ⟨ma, mf, me, rfl, HM, hb3⟩
  have HL1 := Lib.hid (HL.out.below hb3)
  obtain ⟨-, -, l0, l1, l2, -⟩ := HL1.out
  have hz1 := cell_lt l0
  clear hb3 HL
  go_wp2_with fail
  have HMT := Lib.hid (two_new (X := z1) ma mf 49)
  have HMF := Lib.hid (free1_new (X := z1) (.int .i64 ma) (.int .i64 mf) 49)
  have HL2 := Lib.hid (HL1.out.below (below_alloc' (Below.refl z1.heap.size z1) (.cells #[.int .i64 ma, .int .i64 mf] 49)))
  have hlo : y.heap.size < z1.heap.size := hz1
  have hzz : z1.heap.size < (z1.alloc (.cells #[.int .i64 ma, .int .i64 mf] 49)).heap.size := by simp
  generalize z1.alloc (.cells #[.int .i64 ma, .int .i64 mf] 49) = z2 at *
  clear HL1 l0 l1 l2
  refine (read_named W k b q1 q2 d1 d2 _ (HT.out.below HL2.out.bel) (HW2.out.below HL2.out.own)).mono ?_
  rintro e z3 ⟨na, nf, ne, rfl, HN, hb4⟩
  have HL3 := Lib.hid (HL2.out.below hb4)
  have HM3 := Lib.hid (HMT.out.below hb4)
  have HF3 := Lib.hid (HMF.out.below hb4 hzz)
  have hz4 := cell_lt HM3.out.1
  obtain ⟨-, -, l0, l1, l2, -⟩ := HL3.out
  have hz3 := cell_lt l0
  clear hb4 HL2 HMT HMF
  by_cases hme : me = 0
  · by_cases hne : ne = 0
    · subst hme hne
      have hma : (readE W k a).e = 0 := by rw [HM.out]
      have hnb : (readE W k b).e = 0 := by rw [HN.out]
      have hord := orders_read hma hnb
      have hbk := orders_back hma
      have hls := orders_less hma
      rw [HM.out, HN.out] at hord
      rw [HM.out] at hbk hls
      obtain ⟨o1, o2, -, oup, odn⟩ := hord
      dsimp only at o1 o2 oup odn hbk hls
      have UP := Lib.hid oup
      have DN := Lib.hid odn
      have BK := Lib.hid hbk
      have LS := Lib.hid hls
      clear oup odn hbk hls hma hnb HM HN
      obtain ⟨o1a, o1b⟩ := o1
      obtain ⟨o2a, o2b⟩ := o2
      obtain ⟨m0, m1⟩ := HM3.out
      go_wp2_with fail
      have hbx := below_alloc' (Below.refl z3.heap.size z3) (.cells #[.int .i64 na, .int .i64 nf] 49)
      have HL4 := Lib.hid (HL3.out.below hbx)
      have HM4 := Lib.hid (HM3.out.below hbx)
      have HF4 := Lib.hid (HF3.out.below hbx hz4)
      have HN4 := Lib.hid (two_new (X := z3) na nf 49)
      generalize z3.alloc (.cells #[.int .i64 na, .int .i64 nf] 49) = z4 at *
      clear HL3 HM3 HF3 hbx m0 m1 l0 l1 l2
      refine (before_any ma mf na nf _).mono ?_
      rintro e z5 ⟨rfl, hb5⟩
      rw [UP.out]
      have HL5 := Lib.hid (HL4.out.below hb5)
      have HM5 := Lib.hid (HM4.out.below hb5)
      have HN5 := Lib.hid (HN4.out.below hb5)
      have HF5 := Lib.hid (HF4.out.below hb5 (cell_lt HM4.out.1))
      clear HL4 HM4 HN4 HF4 hb5
      obtain ⟨m0, m1⟩ := HM5.out
      obtain ⟨n0, n1⟩ := HN5.out
      go_wp2_with fail
      clear m0 m1 n0 n1
      refine (before_any na nf ma mf _).mono ?_
      rintro e z6 ⟨rfl, hb6⟩
      rw [DN.out]
      have HL6 := Lib.hid (HL5.out.below hb6)
      have HM6 := Lib.hid (HM5.out.below hb6)
      have HF6 := Lib.hid (HF5.out.below hb6 (cell_lt HM5.out.1))
      clear HL5 HM5 HN5 HF5 hb6
      obtain ⟨m0, m1⟩ := HM6.out
      obtain ⟨-, -, l0, l1, l2, -⟩ := HL6.out
      go_wp2_with fail
      clear m0 m1 l0 l1 l2
      refine (back_named W k ma mf q1 q2 d1 d2 _ (HT.out.below HL6.out.bel) (HW2.out.below HL6.out.own) (by omega)).mono ?_
      rintro e z7 ⟨sv, se, rfl, HS, hb7⟩
      have hs := HS.out.symm.trans BK.out
      simp only [IntErr.mk.injEq] at hs
      obtain ⟨hs1, hs2⟩ := hs
      rw [hs1, hs2]
      have HL7 := Lib.hid (HL6.out.below hb7)
      have HM7 := Lib.hid (HM6.out.below hb7)
      have HF7 := Lib.hid (HF6.out.below hb7 (cell_lt HM6.out.1))
      clear HL6 HM6 HF6 hb7 hs1 hs2 HS BK UP DN
      obtain ⟨m0, m1⟩ := HM7.out
      have mfr : z7.frozen? ⟨z1.heap.size, 1, none⟩ = false := HF7.out
      obtain ⟨-, -, l0, l1, l2, -⟩ := HL7.out
      by_cases hpos : 0 < mf
      · have hls := LS.out hpos
        have HLS := Lib.hid hls
        clear hls LS
        go_wp2_with fail
        have HL8 := Lib.hid (HL7.out.far (o := 1) (u := .int .i64 (mf - 1)) hle hlo)
        generalize z7.setCell ⟨z1.heap.size, 1, none⟩ (.int .i64 (mf - 1)) = z8 at *
        clear m0 m1 mfr l0 l1 l2 HL7 HM7 HF7
        refine (back_named W k ma (mf - 1) q1 q2 d1 d2 _ (HT.out.below HL8.out.bel) (HW2.out.below HL8.out.own) (by omega)).mono ?_
        rintro e z9 ⟨tv, te, rfl, HS, hb9⟩
        have HL9 := Lib.hid (HL8.out.below hb9)
        have hls := HLS.out
        rw [HS.out] at hls
        clear HLS HS hb9 HL8
        rcases hls with ⟨he, hv⟩ | he
        all_goals
          dsimp only at he
          subst he
        · dsimp only at hv
          go_wp2_with fail
          refine (awake_any _ (HT.out.below HL9.out.bel)).mono ?_
          rintro e z10 ⟨rfl, hb10⟩
          have HB10 := Lib.hid (HL9.out.bel.trans (hb10.mono HL9.out.bel.size))
          clear hb10
          go_wp2
          go_ret
          exact ⟨rfl, HB10.out⟩
        · go_wp2_with fail
          refine (awake_any _ (HT.out.below HL9.out.bel)).mono ?_
          rintro e z10 ⟨rfl, hb10⟩
          have HB10 := Lib.hid (HL9.out.bel.trans (hb10.mono HL9.out.bel.size))
          clear hb10
          go_wp2
          go_ret
          exact ⟨rfl, HB10.out⟩
      · clear LS
        go_wp2_with fail
        refine (awake_any _ (HT.out.below HL7.out.bel)).mono ?_
        rintro e z10 ⟨rfl, hb10⟩
        have HB10 := Lib.hid (HL7.out.bel.trans (hb10.mono HL7.out.bel.size))
        clear hb10
        go_wp2
        go_ret
        exact ⟨rfl, HB10.out⟩
    · have e1 : (ne != 0) = true := by simpa using hne
      go_wp2_with fail
      refine (awake_any _ (HT.out.below (HL3.out.below (below_alloc' (Below.refl z3.heap.size z3) _)).bel)).mono ?_
      rintro e z9 ⟨rfl, hb9⟩
      have hb8 := (HL3.out.below (below_alloc' (Below.refl z3.heap.size z3) (.cells #[.int .i64 na, .int .i64 nf] 49))).bel
      have HB9 := Lib.hid (hb8.trans (hb9.mono hb8.size))
      clear hb9 hb8
      go_wp2
      go_ret
      exact ⟨rfl, HB9.out⟩
  · have e1 : (me != 0) = true := by simpa using hme
    go_wp2_with fail
    refine (awake_any _ (HT.out.below (HL3.out.below (below_alloc' (Below.refl z3.heap.size z3) _)).bel)).mono ?_
    rintro e z9 ⟨rfl, hb9⟩
    have hb8 := (HL3.out.below (below_alloc' (Below.refl z3.heap.size z3) (.cells #[.int .i64 na, .int .i64 nf] 49))).bel
    have HB9 := Lib.hid (hb8.trans (hb9.mono hb8.size))
    clear hb9 hb8
    go_wp2
    go_ret
    exact ⟨rfl, HB9.out⟩
theorem worldOrders_any (W : Wld) (k a b : Int) (p1 p2 : Option Addr) (c1 c2 : Nat) (w : World) (hW : WldIn w W p1 p2) (ht : Tabs w) :
    Calls Tryd.prog 7 #[.agg #[.int .u64 W.seed, .slice p1 W.chs.length c1, .slice p2 W.cls.length c2], .int .i64 k, .int .i64 a, .int .i64 b] w fun e w' => e = .returned (.bool true) ∧ Below w.heap.size w w' := by
  cases hb : bigS W
  · exact orders_law W k a b p1 p2 c1 c2 w ht hW hb
  · exact orders_big W k a b p1 p2 c1 c2 w ht hW hb
end Go.Proofs.YtehjkmnamgafaaaDoor
