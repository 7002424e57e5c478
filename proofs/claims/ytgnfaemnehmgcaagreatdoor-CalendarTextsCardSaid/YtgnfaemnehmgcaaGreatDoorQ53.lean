/- The law CalendarTexts, its calls; a date as an argument, with its bounds; the tables that its row lists. (by gen_vp.py) -/
import Derived.Test.YtgnfaemnehmgcaaGreatDoorQ03
import Derived.Test.YtgnfaemnehmgcaaGreatDoorQ06
import Derived.Test.YtgnfaemnehmgcaaGreatDoorQ52
import Derived.Stop.LaidErr
namespace Go.Proofs.YtgnfaemnehmgcaaGreatDoor.Cal
open Go Go.RowKit Go.WideShapes Go.ChangeShapes Go.Deep Go.Joins
section
variable {H : Type} {enc : TypeId × Value → H} {w : World} {base : Nat} {spare : Nat → Bool} {held : Bool}
theorem wf_64 {n : Int} (h : (Lit.int .i64 n).wf = true) : -9223372036854775808 ≤ n ∧ n ≤ 9223372036854775807 := by
  simp only [Lit.wf, Bool.and_eq_true, decide_eq_true_eq] at h
  exact h
set_option maxRecDepth 100000 in
theorem open_dateB {r : Reach} {b0 : Nat} {v : Value} {d : DataW H} {q : List MemPlace} (hv : Value.okWide Tryz.prog w r b0 26 v) (h : DataW.Trod enc Tryz.prog w base spare held 26 v d q) :
    ∃ y m dd hh mi s : Int, v = .agg #[.int .i64 y, .int .i64 m, .int .i64 dd, .int .i64 hh, .int .i64 mi, .int .i64 s] ∧ (-9223372036854775808 ≤ y ∧ y ≤ 9223372036854775807) ∧ (-9223372036854775808 ≤ m ∧ m ≤ 9223372036854775807) ∧ (-9223372036854775808 ≤ dd ∧ dd ≤ 9223372036854775807) ∧ (-9223372036854775808 ≤ hh ∧ hh ≤ 9223372036854775807) ∧ (-9223372036854775808 ≤ mi ∧ mi ≤ 9223372036854775807) ∧ (-9223372036854775808 ≤ s ∧ s ≤ 9223372036854775807) := by
  obtain ⟨v0, v1, v2, v3, v4, v5, y0, y1, y2, y3, y4, y5, n, rfl, t0, t1, t2, t3, t4, t5⟩ := open_agg6 Tryz.underlying26 (by kernel_rfl) (by kernel_rfl) hv h
  obtain ⟨n0, e0, _, w0⟩ := DataW.trod_int Tryz.underlying3 (show _ = some y0 from t0)
  obtain ⟨n1, e1, _, w1⟩ := DataW.trod_int Tryz.underlying3 (show _ = some y1 from t1)
  obtain ⟨n2, e2, _, w2⟩ := DataW.trod_int Tryz.underlying3 (show _ = some y2 from t2)
  obtain ⟨n3, e3, _, w3⟩ := DataW.trod_int Tryz.underlying3 (show _ = some y3 from t3)
  obtain ⟨n4, e4, _, w4⟩ := DataW.trod_int Tryz.underlying3 (show _ = some y4 from t4)
  obtain ⟨n5, e5, _, w5⟩ := DataW.trod_int Tryz.underlying3 (show _ = some y5 from t5)
  simp only [List.cons.injEq, and_true] at e0 e1 e2 e3 e4 e5
  subst e0 e1 e2 e3 e4 e5
  exact ⟨n0, n1, n2, n3, n4, n5, rfl, wf_64 w0, wf_64 w1, wf_64 w2, wf_64 w3, wf_64 w4, wf_64 w5⟩
end
theorem cellsU64 : Tryz.prog.cellsOf 200 = 1 := by kernel_rfl
theorem cellsPow : Tryz.prog.cellsOf 225 = 20 := by kernel_rfl
theorem gPowT : (Tryz.prog.globals[3]?).map (·.type) = some 225 := by kernel_rfl
theorem powTab : (Rows.laid_internal_strconv_uint64pow10 : DataW Unit) = Lib.tabData .u64 Lib.pow10Tab := by rfl
theorem txt_laid {w : World} (h : laidMetH Tryz.prog Rows.calendarTextsRow.laid w) : Mon w ∧ Pow w := by
  change laidMet Tryz.prog [("math/bits.deBruijn32tab", Rows.laid_math_bits_deBruijn32tab), ("math/bits.deBruijn64tab", Rows.laid_math_bits_deBruijn64tab), ("internal/strconv.uint64pow10", Rows.laid_internal_strconv_uint64pow10), ("strconv.ErrRange", Rows.laid_strconv_ErrRange), ("strconv.ErrSyntax", Rows.laid_strconv_ErrSyntax), ("meridian/calendar.months", Rows.laid_meridian_calendar_months)] w at h
  have h2 := h.tail.tail
  have h5 := h2.tail.tail.tail
  rw [powTab] at h2
  exact ⟨mon_of h5, Lib.tabIs_of_head gPow gPowT Tryz.underlying225 Tryz.underlying200 cellsU64 cellsPow h2⟩
attribute [local go_sem] Oper.semAt_some
set_option maxRecDepth 100000 in
set_option maxHeartbeats 8000000 in
theorem calendarTexts_any (b1 u1 : Int) (n1 c1 : Nat) (p1 : Option Addr) (f : Nat → Int × Int) (b2 u2 : Int) (n2 c2 : Nat) (p2 : Option Addr) (g : Nat → Int × Int) (y m d h i s : Int) (Ly : -9223372036854775808 ≤ y ∧ y ≤ 9223372036854775807) (Lm : -9223372036854775808 ≤ m ∧ m ≤ 9223372036854775807) (Ld : -9223372036854775808 ≤ d ∧ d ≤ 9223372036854775807) (Lh : -9223372036854775808 ≤ h ∧ h ≤ 9223372036854775807) (Li : -9223372036854775808 ≤ i ∧ i ≤ 9223372036854775807) (Ls : -9223372036854775808 ≤ s ∧ s ≤ 9223372036854775807) (S : ByteArray) (hS : S.size ≤ maxLen) (w : World) (hw : Mon w) (hpw : Pow w) (hm1 : n1 ≤ maxLen) (hm2 : n2 ≤ maxLen) (hp1 : p1 = none → n1 = 0) (hp2 : p2 = none → n2 = 0) (l1 : LpIn w f n1 p1) (l2 : LpIn w g n2 p2) :
    Calls Tryz.prog 3 #[.agg #[.int .i64 b1, .slice p1 n1 c1, .int .i64 u1], .agg #[.int .i64 b2, .slice p2 n2 c2, .int .i64 u2], .agg #[.int .i64 y, .int .i64 m, .int .i64 d, .int .i64 h, .int .i64 i, .int .i64 s], .string S] w fun e w' => e = .returned (.bool true) ∧ Below w.heap.size w w' := by
  have hL := txt_start w (c1 := c1) (c2 := c2) (b1 := b1) (u1 := u1) (b2 := b2) (u2 := u2) (y := y) (m := m) (d := d) (h := h) (i := i) (s := s) hw hpw l1 l2
  obtain ⟨x0, x1, x2⟩ := hL.t1
  obtain ⟨y0, y1, y2⟩ := hL.t2
  obtain ⟨d0, d1, d2, d3, d4, d5⟩ := hL.dt
  have A0 := Lib.hid hL.bel
  have HW := Lib.hid hL.mon
  unfold maxLen at hm1 hm2 hS
  by_cases hn1 : n1 ≤ 120
  · have e1 : ¬ (120 : Int) < n1 := by omega
    by_cases hn2 : n2 ≤ 120
    · have e2 : ¬ (120 : Int) < n2 := by omega
      by_cases hs : S.size ≤ 60
      · have e3 : ¬ (60 : Int) < S.size := by omega
        have HTA := Lib.hid (texts_any b1 u1 n1 c1 p1 f b2 u2 n2 c2 p2 g y m d h i s Ly Lm Ld Lh Li Ls S _ hL.mon hL.pow (by omega) (by omega) hp1 hp2 hL.l1 hL.l2)
        clear hL hw hpw hp1 hp2 l1 l2 Ly Lm Ld Lh Li Ls
        go_enter Tryz.func3, Tryz.ntmps3
        go_upto_region 1 with fail
        generalize ((w.alloc (.cells #[.int .i64 b1, .slice p1 n1 c1, .int .i64 u1] 24)).alloc (.cells #[.int .i64 b2, .slice p2 n2 c2, .int .i64 u2] 24)).alloc (.cells #[.int .i64 y, .int .i64 m, .int .i64 d, .int .i64 h, .int .i64 i, .int .i64 s] 26) = W1 at *
        have zx := cell_lt x0
        have zy := cell_lt y0
        have zd := cell_lt d0
        go_wp2_with (first | (go_at_call 5; refine HTA.out.mono ?_; rintro e w2 ⟨rfl, hb2⟩; have HB2 := Lib.hid hb2; clear hb2) | (go_at_call 6; refine (awake_any _ (HW.out.below HB2.out)).mono ?_; rintro e w3 ⟨rfl, hb3⟩; have HB3 := Lib.hid hb3; clear hb3))
        go_ret
        exact ⟨rfl, bt (bt A0.out HB2.out) HB3.out⟩
      · have e3 : (60 : Int) < S.size := by omega
        clear hL hw hpw hp1 hp2 l1 l2 Ly Lm Ld Lh Li Ls
        go_enter Tryz.func3, Tryz.ntmps3
        go_upto_region 1 with fail
        generalize ((w.alloc (.cells #[.int .i64 b1, .slice p1 n1 c1, .int .i64 u1] 24)).alloc (.cells #[.int .i64 b2, .slice p2 n2 c2, .int .i64 u2] 24)).alloc (.cells #[.int .i64 y, .int .i64 m, .int .i64 d, .int .i64 h, .int .i64 i, .int .i64 s] 26) = W1 at *
        have zx := cell_lt x0
        have zy := cell_lt y0
        have zd := cell_lt d0
        go_wp2_with (go_at_call 6; refine (awake_any _ (HW.out)).mono ?_; rintro e w3 ⟨rfl, hb3⟩; have HB3 := Lib.hid hb3; clear hb3)
        go_ret
        exact ⟨rfl, bt A0.out HB3.out⟩
    · have e2 : (120 : Int) < n2 := by omega
      clear hL hw hpw hp1 hp2 l1 l2 Ly Lm Ld Lh Li Ls
      go_enter Tryz.func3, Tryz.ntmps3
      go_upto_region 1 with fail
      generalize ((w.alloc (.cells #[.int .i64 b1, .slice p1 n1 c1, .int .i64 u1] 24)).alloc (.cells #[.int .i64 b2, .slice p2 n2 c2, .int .i64 u2] 24)).alloc (.cells #[.int .i64 y, .int .i64 m, .int .i64 d, .int .i64 h, .int .i64 i, .int .i64 s] 26) = W1 at *
      have zx := cell_lt x0
      have zy := cell_lt y0
      have zd := cell_lt d0
      go_wp2_with (go_at_call 6; refine (awake_any _ (HW.out)).mono ?_; rintro e w3 ⟨rfl, hb3⟩; have HB3 := Lib.hid hb3; clear hb3)
      go_ret
      exact ⟨rfl, bt A0.out HB3.out⟩
  · have e1 : (120 : Int) < n1 := by omega
    clear hL hw hpw hp1 hp2 l1 l2 Ly Lm Ld Lh Li Ls
    go_enter Tryz.func3, Tryz.ntmps3
    go_upto_region 1 with fail
    generalize ((w.alloc (.cells #[.int .i64 b1, .slice p1 n1 c1, .int .i64 u1] 24)).alloc (.cells #[.int .i64 b2, .slice p2 n2 c2, .int .i64 u2] 24)).alloc (.cells #[.int .i64 y, .int .i64 m, .int .i64 d, .int .i64 h, .int .i64 i, .int .i64 s] 26) = W1 at *
    have zx := cell_lt x0
    have zy := cell_lt y0
    have zd := cell_lt d0
    go_wp2_with (go_at_call 6; refine (awake_any _ (HW.out)).mono ?_; rintro e w3 ⟨rfl, hb3⟩; have HB3 := Lib.hid hb3; clear hb3)
    go_ret
    exact ⟨rfl, bt A0.out HB3.out⟩
end Go.Proofs.YtgnfaemnehmgcaaGreatDoor.Cal
