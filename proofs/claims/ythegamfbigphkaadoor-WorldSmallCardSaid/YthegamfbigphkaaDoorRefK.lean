/- Contracts of the reference's exported calls: Read, Reach, Temperature. -/
import Derived.Test.YthegamfbigphkaaDoorRefJ
import Derived.Test.YthegamfbigphkaaDoorPairs
namespace Go.Proofs.YthegamfbigphkaaDoor
open Go Go.RowKit
theorem rAt_any (s n : Int) (w : World) (hs : -10000000 ≤ s ∧ s ≤ 10000000) (hn : -1000000000000000 < n ∧ n < 1000000000000000) :
    Calls Tryd.prog 77 #[.int .i64 s, .int .i64 n] w fun e w' => e = .returned (.agg #[.int .i64 (readSec s n), .int .i64 (readFs n)]) ∧ Below w.heap.size w w' := by
  by_cases h : n < 0
  · have e1 : readSec s n = s - 1 := by unfold readSec; omega
    have e2 : readFs n = n + 1000000000000000 := by unfold readFs; omega
    rw [e1, e2]
    clear e1 e2
    go_enter Tryd.func77, Tryd.ntmps77
    go_wp2
    go_returns
    exact ⟨rfl, by go_grown⟩
  · have e1 : readSec s n = s := by unfold readSec; omega
    have e2 : readFs n = n := by unfold readFs; omega
    rw [e1, e2]
    clear e1 e2
    go_enter Tryd.func77, Tryd.ntmps77
    go_wp2
    go_returns
    exact ⟨rfl, by go_grown⟩
set_option maxRecDepth 100000 in
set_option maxHeartbeats 2000000 in
theorem rRead_any (W : Wld) (k s : Int) (p1 p2 : Option Addr) (c1 c2 : Nat) (w : World) (hW : WldIn w W p1 p2) :
    Calls Tryd.prog 26 #[.agg #[.int .u64 W.seed, .slice p1 W.chs.length c1, .slice p2 W.cls.length c2], .int .i64 k, .int .i64 s] w fun e w' => e = .returned (.tuple #[.agg #[.int .i64 (readE W k s).a, .int .i64 (readE W k s).b], .int .i64 (readE W k s).e]) ∧ Below w.heap.size w w' := by
  have hm1 := hW.1
  have hm2 := hW.2.1
  unfold maxLen at hm1 hm2
  have a0 : Below w.heap.size w ((w.alloc (.cells #[.int .u64 W.seed, .slice p1 W.chs.length c1, .slice p2 W.cls.length c2] 26)).alloc (.cells #[.int .i64 0, .int .i64 0] 52)) := below_alloc' (below_alloc' (Below.refl _ _) _) _
  have x0 : ((w.alloc (.cells #[.int .u64 W.seed, .slice p1 W.chs.length c1, .slice p2 W.cls.length c2] 26)).alloc (.cells #[.int .i64 0, .int .i64 0] 52)).cell? ⟨w.heap.size, 0, none⟩ = some (.int .u64 W.seed) := by simp
  have x1 : ((w.alloc (.cells #[.int .u64 W.seed, .slice p1 W.chs.length c1, .slice p2 W.cls.length c2] 26)).alloc (.cells #[.int .i64 0, .int .i64 0] 52)).cell? ⟨w.heap.size, 1, none⟩ = some (.slice p1 W.chs.length c1) := by simp
  have x2 : ((w.alloc (.cells #[.int .u64 W.seed, .slice p1 W.chs.length c1, .slice p2 W.cls.length c2] 26)).alloc (.cells #[.int .i64 0, .int .i64 0] 52)).cell? ⟨w.heap.size, 2, none⟩ = some (.slice p2 W.cls.length c2) := by simp
  have r0 : Res ((w.alloc (.cells #[.int .u64 W.seed, .slice p1 W.chs.length c1, .slice p2 W.cls.length c2] 26)).alloc (.cells #[.int .i64 0, .int .i64 0] 52)) (w.heap.size + 1) := ⟨⟨by simp [go_sem], by simp [go_sem]⟩, by simp [go_sem], by simp [go_sem]⟩
  have R0 := Lib.hid r0
  have X0 := Lib.hid x0
  have X1 := Lib.hid x1
  have X2 := Lib.hid x2
  have HW0 := Lib.hid (hW.below a0)
  have A0 := Lib.hid a0
  clear hW a0 x0 x1 x2 r0
  by_cases he : runErr W k s = 0
  · have hfin := show readE W k s = _ from if_pos he
    have hsh : shownE W k s = ⟨shownS W.seed k (clkOf W k) (roomOf W k) s, 0⟩ := if_pos he
    have al := allowed_find (runErr_zero he).1
    obtain ⟨s0, s1⟩ := sec_of (runErr_zero he).1
    have sb := shown_bd W.seed k al.cin al.rok s s0 s1
    have HF := Lib.hid hfin
    have HSH := Lib.hid hsh
    clear he hfin hsh al
    generalize shownS W.seed k (clkOf W k) (roomOf W k) s = sh at *
    go_enter Tryd.func26, Tryd.ntmps26
    go_wp2_with fail
    refine (rShown_any W k s p1 p2 c1 c2 _ HW0.out).mono ?_
    rintro e w1 ⟨rfl, hb⟩
    rw [HSH.out]
    have r1 := R0.out.below hb
    have HB := Lib.hid (A0.out.trans (hb.mono A0.out.size))
    have R1 := Lib.hid r1
    clear hb r1
    go_wp2_with fail
    refine (rAt_any s sh _ (by omega) (by omega)).mono ?_
    rintro e w2 ⟨rfl, hb2⟩
    obtain ⟨⟨x0, x1⟩, f0, f1⟩ := R1.out.below hb2
    have HB2 := Lib.hid (HB.out.trans (hb2.mono HB.out.size))
    clear hb2
    have c0 := two_c0 (.int .i64 (readSec s sh)) x0
    have c1 := two_c1 (.int .i64 (readSec s sh)) (.int .i64 (readFs sh)) x1
    go_wp2
    refine bodyPost_ret (v := .tuple #[.agg #[.int .i64 (readSec s sh), .int .i64 (readFs sh)], .int .i64 0]) (by simp [results, Tryd.results26, go_sem, c0, c1]) rfl ?_
    exact ⟨by rw [HF.out], below_sets HB2.out (by omega)⟩
  · have hfin := show readE W k s = _ from if_neg he
    have hsh : shownE W k s = ⟨0, runErr W k s⟩ := if_neg he
    have hne : (runErr W k s != 0) = true := by simpa using he
    have HF := Lib.hid hfin
    have HSH := Lib.hid hsh
    clear he hfin hsh
    go_enter Tryd.func26, Tryd.ntmps26
    go_wp2_with fail
    refine (rShown_any W k s p1 p2 c1 c2 _ HW0.out).mono ?_
    rintro e w1 ⟨rfl, hb⟩
    rw [HSH.out]
    obtain ⟨⟨x0, x1⟩, f0, f1⟩ := R0.out.below hb
    have HB := Lib.hid (A0.out.trans (hb.mono A0.out.size))
    clear hb
    have c0 := two_c0 (.int .i64 0) x0
    have c1 := two_c1 (.int .i64 0) (.int .i64 0) x1
    go_wp2
    refine bodyPost_ret (v := .tuple #[.agg #[.int .i64 0, .int .i64 0], .int .i64 (runErr W k s)]) (by simp [results, Tryd.results26, go_sem, c0, c1]) rfl ?_
    exact ⟨by rw [HF.out], below_sets HB.out (by omega)⟩
set_option maxRecDepth 100000 in
set_option maxHeartbeats 2000000 in
theorem rReach_any (W : Wld) (k s : Int) (p1 p2 : Option Addr) (c1 c2 : Nat) (w : World) (hW : WldIn w W p1 p2) :
    Calls Tryd.prog 24 #[.agg #[.int .u64 W.seed, .slice p1 W.chs.length c1, .slice p2 W.cls.length c2], .int .i64 k, .int .i64 s] w fun e w' => e = .returned (.tuple #[.agg #[.int .i64 (reachE W k s).a, .int .i64 (reachE W k s).b], .int .i64 (reachE W k s).e]) ∧ Below w.heap.size w w' := by
  have hm1 := hW.1
  have hm2 := hW.2.1
  unfold maxLen at hm1 hm2
  have a0 : Below w.heap.size w ((w.alloc (.cells #[.int .u64 W.seed, .slice p1 W.chs.length c1, .slice p2 W.cls.length c2] 26)).alloc (.cells #[.int .i64 0, .int .i64 0] 44)) := below_alloc' (below_alloc' (Below.refl _ _) _) _
  have x0 : ((w.alloc (.cells #[.int .u64 W.seed, .slice p1 W.chs.length c1, .slice p2 W.cls.length c2] 26)).alloc (.cells #[.int .i64 0, .int .i64 0] 44)).cell? ⟨w.heap.size, 0, none⟩ = some (.int .u64 W.seed) := by simp
  have x1 : ((w.alloc (.cells #[.int .u64 W.seed, .slice p1 W.chs.length c1, .slice p2 W.cls.length c2] 26)).alloc (.cells #[.int .i64 0, .int .i64 0] 44)).cell? ⟨w.heap.size, 1, none⟩ = some (.slice p1 W.chs.length c1) := by simp
  have x2 : ((w.alloc (.cells #[.int .u64 W.seed, .slice p1 W.chs.length c1, .slice p2 W.cls.length c2] 26)).alloc (.cells #[.int .i64 0, .int .i64 0] 44)).cell? ⟨w.heap.size, 2, none⟩ = some (.slice p2 W.cls.length c2) := by simp
  have r0 : Res ((w.alloc (.cells #[.int .u64 W.seed, .slice p1 W.chs.length c1, .slice p2 W.cls.length c2] 26)).alloc (.cells #[.int .i64 0, .int .i64 0] 44)) (w.heap.size + 1) := ⟨⟨by simp [go_sem], by simp [go_sem]⟩, by simp [go_sem], by simp [go_sem]⟩
  have R0 := Lib.hid r0
  have X0 := Lib.hid x0
  have X1 := Lib.hid x1
  have X2 := Lib.hid x2
  have HW0 := Lib.hid (hW.below a0)
  have A0 := Lib.hid a0
  clear hW a0 x0 x1 x2 r0
  by_cases he : findErr W k [s] = 0
  · have al := allowed_find he
    obtain ⟨s0, s1⟩ := sec_of he
    have fb := fixed_bd al.cin al.rok s s0 s1
    have wb := al.cin.walk
    have hb0 := al.cin.white
    have hst := stray_bd al.cin 0 s (Int.le_refl 0) s0 s1
    have hfin : reachE W k s = ⟨fixedS (clkOf W k) (roomOf W k) s - ((clkOf W k).white + (clkOf W k).walk * (s / 100)), fixedS (clkOf W k) (roomOf W k) s + ((clkOf W k).white + (clkOf W k).walk * (s / 100)), 0⟩ := by
      unfold reachE strayedS
      rw [if_pos he, show s / 100 - 0 / 100 = s / 100 by omega, Int.add_comm ((clkOf W k).walk * (s / 100))]
    have HE := Lib.hid he
    have AL := Lib.hid al
    have HF := Lib.hid hfin
    have k16 := al.k16
    clear he al hfin hst
    go_enter Tryd.func24, Tryd.ntmps24
    go_wp2_with fail
    refine (clocked_any W k s p1 p2 c1 c2 _ HW0.out).mono ?_
    rintro e w1 ⟨rfl, hb1⟩
    rw [HE.out]
    have HB1 := Lib.hid (A0.out.trans (hb1.mono A0.out.size))
    have HW1 := Lib.hid (HW0.out.below hb1)
    have R1 := Lib.hid (R0.out.below hb1)
    have y0 := cell_below hb1 X0.out
    have y1 := cell_below hb1 X1.out
    have y2 := cell_below hb1 X2.out
    have Y2 := Lib.hid y2
    have hz := cell_lt y0
    clear hb1 X0 X1 X2 HW0 R0
    go_wp2_with fail
    clear y0 y1 y2 hz
    refine (still_any W k s p1 p2 c1 c2 _ HW1.out AL.out s0 s1).mono ?_
    rintro e w2 ⟨rfl, hb2⟩
    have HB2 := Lib.hid (HB1.out.trans (hb2.mono HB1.out.size))
    have z2 := cell_below hb2 Y2.out
    obtain ⟨⟨x0, x1⟩, f0, f1⟩ := R1.out.below hb2
    obtain ⟨b2, o2, rfl, hkl, hkk, hcl⟩ := clk_at (HW1.out.below hb2) AL.out
    obtain ⟨⟨-, -, -, -, m4, m5, -, -⟩, -⟩ := hcl
    have hjl : ((k.toNat : Nat) : Int) < (W.cls.length : Int) := by omega
    have hzm := cell_lt m4
    have hzx := cell_lt x0
    have hk2 : k < (W.cls.length : Int) := by omega
    have hk0 : 0 ≤ k := by omega
    clear hb2 HW1 R1 Y2
    generalize fixedS (clkOf W k) (roomOf W k) s = fx at *
    generalize (clkOf W k).walk = wk at *
    generalize (clkOf W k).white = wh at *
    go_wp2
    go_loop [10, 11] (fun far i => ∃ q : Nat, (q : Int) ≤ s / 100 ∧ i = .int .i64 (100 * ((q : Int) + 1)) ∧ far = .int .i64 (wh + wk * q)) (fun _ i => (s + 200 - intOf i).toNat)
    case atStart => exact ⟨0, by omega, rfl, by simp⟩
    case round =>
      obtain ⟨q, hq, rfl, rfl⟩ := hrel
      have hmq := mul_bd wk q 1000000000 10000 (by omega) (by omega)
      have hmq0 : 0 ≤ wk * (q : Int) := Int.mul_nonneg wb.1 (by omega)
      have hms : wk * ((q + 1 : Nat) : Int) = wk * q + wk := by rw [Int.natCast_add, Int.mul_add]; simp
      by_cases hlt : 100 * ((q : Int) + 1) ≤ s
      · have HMS := Lib.hid hms
        clear hms
        go_wp2
        go_round
        case rel => exact ⟨q + 1, by omega, congrArg (Value.int .i64) (by omega), congrArg (Value.int .i64) (by rw [HMS.out]; omega)⟩
        case measure => simp [intOf]; omega
      · have hqs : s / 100 = (q : Int) := by omega
        have hfin := HF.out
        rw [hqs] at hfin
        have HFQ := Lib.hid hfin
        clear hfin hms hqs
        have d0 := two_c0 (.int .i64 (fx - (wh + wk * q))) x0
        have d1 := two_c1 (.int .i64 (fx - (wh + wk * q))) (.int .i64 (fx + (wh + wk * q))) x1
        go_wp2
        refine bodyPost_ret (v := .tuple #[.agg #[.int .i64 (fx - (wh + wk * q)), .int .i64 (fx + (wh + wk * q))], .int .i64 0]) (by simp [results, Tryd.results24, go_sem, d0, d1]) rfl ?_
        exact ⟨by rw [HFQ.out], below_sets HB2.out (by omega)⟩
  · have hne : (findErr W k [s] != 0) = true := by simpa using he
    have hfin := show reachE W k s = _ from if_neg he
    have HF := Lib.hid hfin
    clear he hfin X0 X1 X2
    go_enter Tryd.func24, Tryd.ntmps24
    go_wp2_with fail
    refine (clocked_any W k s p1 p2 c1 c2 _ HW0.out).mono ?_
    rintro e w1 ⟨rfl, hb⟩
    obtain ⟨⟨x0, x1⟩, f0, f1⟩ := R0.out.below hb
    have HB := Lib.hid (A0.out.trans (hb.mono A0.out.size))
    clear hb
    have d0 := two_c0 (.int .i64 0) x0
    have d1 := two_c1 (.int .i64 0) (.int .i64 0) x1
    go_wp2
    refine bodyPost_ret (v := .tuple #[.agg #[.int .i64 0, .int .i64 0], .int .i64 (findErr W k [s])]) (by simp [results, Tryd.results24, go_sem, d0, d1]) rfl ?_
    exact ⟨by rw [HF.out], below_sets HB.out (by omega)⟩
theorem find00 (W : Wld) : findErr W 0 [0] = checkS W := by
  by_cases hc : checkS W = 0
  · have hm := (checkS_zero hc).1
    simp only [manyOk, Bool.and_eq_true, inR_iff] at hm
    rw [clocked_in hc, if_neg (by omega), if_neg (by omega), hc]
  · exact if_neg hc
set_option maxRecDepth 100000 in
set_option maxHeartbeats 2000000 in
theorem rTemperature_any (W : Wld) (k s : Int) (p1 p2 : Option Addr) (c1 c2 : Nat) (w : World) (hW : WldIn w W p1 p2) :
    Calls Tryd.prog 14 #[.agg #[.int .u64 W.seed, .slice p1 W.chs.length c1, .slice p2 W.cls.length c2], .int .i64 k, .int .i64 s] w fun e w' => e = .returned (.tuple #[.int .i64 (tempE W k s).v, .int .i64 (tempE W k s).e]) ∧ Below w.heap.size w w' := by
  have hm1 := hW.1
  have hm2 := hW.2.1
  unfold maxLen at hm1 hm2
  have a0 : Below w.heap.size w (w.alloc (.cells #[.int .u64 W.seed, .slice p1 W.chs.length c1, .slice p2 W.cls.length c2] 26)) := below_alloc' (Below.refl _ _) _
  have x0 : (w.alloc (.cells #[.int .u64 W.seed, .slice p1 W.chs.length c1, .slice p2 W.cls.length c2] 26)).cell? ⟨w.heap.size, 0, none⟩ = some (.int .u64 W.seed) := by simp
  have x1 : (w.alloc (.cells #[.int .u64 W.seed, .slice p1 W.chs.length c1, .slice p2 W.cls.length c2] 26)).cell? ⟨w.heap.size, 1, none⟩ = some (.slice p1 W.chs.length c1) := by simp
  have x2 : (w.alloc (.cells #[.int .u64 W.seed, .slice p1 W.chs.length c1, .slice p2 W.cls.length c2] 26)).cell? ⟨w.heap.size, 2, none⟩ = some (.slice p2 W.cls.length c2) := by simp
  have X0 := Lib.hid x0
  have X1 := Lib.hid x1
  have X2 := Lib.hid x2
  have HW0 := Lib.hid (hW.below a0)
  have A0 := Lib.hid a0
  have hf00 := find00 W
  clear a0 x0 x1 x2
  by_cases hc : checkS W = 0
  · rw [hc] at hf00
    have HC := Lib.hid hf00
    have HCC := Lib.hid hc
    clear hf00
    by_cases h1 : k < 0
    · have hfin : tempE W k s = ⟨0, 20⟩ := by
        have e : tempErr W k s = 20 := by unfold tempErr; rw [if_pos hc, if_neg (fun h => by have := inR_true h; omega)]
        unfold tempE; rw [e]; rfl
      clear hc hW
      have HF := Lib.hid hfin
      clear hfin
      go_enter Tryd.func14, Tryd.ntmps14
      go_wp2_with fail
      refine (clocked_any W 0 0 p1 p2 c1 c2 _ HW0.out).mono ?_
      rintro e w1 ⟨rfl, hb⟩
      rw [HC.out]
      have HB := Lib.hid (A0.out.trans (hb.mono A0.out.size))
      have y1 := cell_below hb X1.out
      have hz := cell_lt y1
      clear hb
      go_wp2
      go_ret2
      exact ⟨by rw [HF.out]; rfl, HB.out⟩
    · by_cases h2 : (W.chs.length : Int) ≤ k
      · have hfin : tempE W k s = ⟨0, 20⟩ := by
          have e : tempErr W k s = 20 := by unfold tempErr; rw [if_pos hc, if_neg (fun h => by have := inR_true h; omega)]
          unfold tempE; rw [e]; rfl
        clear hc hW
        have HF := Lib.hid hfin
        clear hfin
        go_enter Tryd.func14, Tryd.ntmps14
        go_wp2_with fail
        refine (clocked_any W 0 0 p1 p2 c1 c2 _ HW0.out).mono ?_
        rintro e w1 ⟨rfl, hb⟩
        rw [HC.out]
        have HB := Lib.hid (A0.out.trans (hb.mono A0.out.size))
        have y1 := cell_below hb X1.out
        have hz := cell_lt y1
        clear hb
        go_wp2
        go_ret2
        exact ⟨by rw [HF.out]; rfl, HB.out⟩
      · have hin : inR k 0 (W.chs.length - 1) = true := (inR_iff _ _ _).2 (by omega)
        by_cases h3 : s < 0
        · have hfin : tempE W k s = ⟨0, 21⟩ := by
            have e : tempErr W k s = 21 := by unfold tempErr; rw [if_pos hc, if_pos hin, if_neg (fun h => by have := inR_true h; omega)]
            unfold tempE; rw [e]; rfl
          clear hc hW hin
          have HF := Lib.hid hfin
          clear hfin
          go_enter Tryd.func14, Tryd.ntmps14
          go_wp2_with fail
          refine (clocked_any W 0 0 p1 p2 c1 c2 _ HW0.out).mono ?_
          rintro e w1 ⟨rfl, hb⟩
          rw [HC.out]
          have HB := Lib.hid (A0.out.trans (hb.mono A0.out.size))
          have y1 := cell_below hb X1.out
          have hz := cell_lt y1
          clear hb
          go_wp2
          go_ret2
          exact ⟨by rw [HF.out]; rfl, HB.out⟩
        · by_cases h4 : 1000000 < s
          · have hfin : tempE W k s = ⟨0, 21⟩ := by
              have e : tempErr W k s = 21 := by unfold tempErr; rw [if_pos hc, if_pos hin, if_neg (fun h => by have := inR_true h; omega)]
              unfold tempE; rw [e]; rfl
            clear hc hW hin
            have HF := Lib.hid hfin
            clear hfin
            go_enter Tryd.func14, Tryd.ntmps14
            go_wp2_with fail
            refine (clocked_any W 0 0 p1 p2 c1 c2 _ HW0.out).mono ?_
            rintro e w1 ⟨rfl, hb⟩
            rw [HC.out]
            have HB := Lib.hid (A0.out.trans (hb.mono A0.out.size))
            have y1 := cell_below hb X1.out
            have hz := cell_lt y1
            clear hb
            go_wp2
            go_ret2
            exact ⟨by rw [HF.out]; rfl, HB.out⟩
          · have hfin : tempE W k s = ⟨tempS (chamOf W k) s, 0⟩ := by
              have e : tempErr W k s = 0 := by unfold tempErr; rw [if_pos hc, if_pos hin, if_pos ((inR_iff _ _ _).2 (by omega))]
              unfold tempE; rw [if_pos e]
            have hkk : ((k.toNat : Nat) : Int) = k := by omega
            have hkl : k.toNat < W.chs.length := by omega
            have hco : chamOf W k = W.chs[k.toNat] := by unfold chamOf; rw [List.getElem?_eq_getElem hkl]; rfl
            have hcok : chamOk (chamOf W k) = true := by rw [hco]; exact List.all_eq_true.1 (checkS_zero hc).2.1 _ (List.getElem_mem hkl)
            obtain ⟨b1, o1, rfl, hs1⟩ := hW.2.2.1.resolve_left (by omega)
            have hcc := hs1 k.toNat hkl
            rw [← hco] at hcc
            have HCM := Lib.hid (hcc.below A0.out)
            have HOK := Lib.hid hcok
            have HF := Lib.hid hfin
            clear hfin hc hW hin hs1 hcc hcok hco
            go_enter Tryd.func14, Tryd.ntmps14
            go_wp2_with fail
            refine (clocked_any W 0 0 (some ⟨b1, o1, none⟩) p2 c1 c2 _ HW0.out).mono ?_
            rintro e w1 ⟨rfl, hb⟩
            rw [HC.out]
            have HB := Lib.hid (A0.out.trans (hb.mono A0.out.size))
            have y1 := cell_below hb X1.out
            have hz := cell_lt y1
            obtain ⟨r0, r1, r2⟩ := HCM.out.below hb
            have hzr := cell_lt r0
            have hkl2 : ((k.toNat : Nat) : Int) < (W.chs.length : Int) := by omega
            clear hb
            go_wp2_with (go_at_call 50; refine (warmth_any (chamOf W k) s _ HOK.out (by omega) (by omega)).mono ?_; rintro e w2 ⟨rfl, hb2⟩; have HB2 := Lib.hid hb2; clear hb2)
            go_ret2
            exact ⟨by rw [HF.out]; rfl, HB.out.trans (HB2.out.mono HB.out.size)⟩
  · have hfin : tempE W k s = ⟨0, checkS W⟩ := by
      have e : tempErr W k s = checkS W := if_neg hc
      unfold tempE; rw [e, if_neg hc]
    have hne : (checkS W != 0) = true := by simpa using hc
    have hne2 : (checkS W == 0) = false := by simpa using hc
    have HC := Lib.hid hf00
    clear hc hf00 hW
    have HF := Lib.hid hfin
    clear hfin
    go_enter Tryd.func14, Tryd.ntmps14
    go_wp2_with fail
    refine (clocked_any W 0 0 p1 p2 c1 c2 _ HW0.out).mono ?_
    rintro e w1 ⟨rfl, hb⟩
    rw [HC.out]
    have HB := Lib.hid (A0.out.trans (hb.mono A0.out.size))
    have y1 := cell_below hb X1.out
    have hz := cell_lt y1
    clear hb
    go_wp2
    go_ret2
    exact ⟨by rw [HF.out]; rfl, HB.out⟩
end Go.Proofs.YthegamfbigphkaaDoor
