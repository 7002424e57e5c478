/- Contracts of layer 3: the exported calls Fit and Rest. -/
import Derived.Test.YtemblamamgfodaaGreatDoorStC
namespace Go.Proofs.YtemblamamgfodaaGreatDoor
open Go Go.RowKit
structure LineE where
  a : Int
  b : Int
  c : Int
  d : Int
  e : Int
def fitE (tau : Int) (l : List Int) : LineE := if fitErr tau l = 0 then ⟨lowN (offN l) (detS l.length), lowD (offN l) (detS l.length), lowN (sloN l) (detS l.length), lowD (sloN l) (detS l.length), 0⟩ else ⟨0, 0, 0, 0, fitErr tau l⟩
theorem fitErr_zero {tau : Int} {l : List Int} (h : fitErr tau l = 0) : l.length ≤ 128 ∧ phasesOk l = true ∧ 2 ≤ l.length := by
  unfold fitErr at h
  by_cases h0 : checkSt tau l = 0
  · rw [if_pos h0] at h
    by_cases h2 : l.length < 2
    · rw [if_pos h2] at h; omega
    · exact ⟨(checkSt_zero h0).1, (checkSt_zero h0).2.2, by omega⟩
  · rw [if_neg h0] at h; exact absurd h h0
structure FracE where
  n : Int
  d : Int
  e : Int
def restErr (tau : Int) (l : List Int) : Int := if fitErr tau l = 0 then (if 48 < l.length then 8 else 0) else fitErr tau l
def restE (tau : Int) (l : List Int) : FracE := if restErr tau l = 0 then ⟨lowN (restV l) (restD l.length), lowD (restV l) (restD l.length), 0⟩ else ⟨0, 0, restErr tau l⟩
set_option maxRecDepth 100000 in
set_option maxHeartbeats 2000000 in
theorem fit_any (tau : Int) (l : List Int) (p : Option Addr) (cap : Nat) (w : World) (hs : SerIn w l p) :
    Calls Tryz.prog 46 #[.agg #[.int .i64 tau, .slice p l.length cap]] w fun e w' => e = .returned (.tuple #[lineVal (fitE tau l).a (fitE tau l).b (fitE tau l).c (fitE tau l).d, .int .i64 (fitE tau l).e]) ∧ Below w.heap.size w w' := by
  have hl := hs.1
  unfold maxLen at hl
  have a0 : Below w.heap.size w ((w.alloc (.cells #[.int .i64 tau, .slice p l.length cap] 56)).alloc (.cells #[.int .i64 0, .int .i64 0, .int .i64 0, .int .i64 0] 119)) := below_alloc (below_alloc (Below.refl _ _) _) _
  have x0 : ((w.alloc (.cells #[.int .i64 tau, .slice p l.length cap] 56)).alloc (.cells #[.int .i64 0, .int .i64 0, .int .i64 0, .int .i64 0] 119)).cell? ⟨w.heap.size, 0, none⟩ = some (.int .i64 tau) := by simp
  have x1 : ((w.alloc (.cells #[.int .i64 tau, .slice p l.length cap] 56)).alloc (.cells #[.int .i64 0, .int .i64 0, .int .i64 0, .int .i64 0] 119)).cell? ⟨w.heap.size, 1, none⟩ = some (.slice p l.length cap) := by simp
  have HR := Lib.hid (show Four ((w.alloc (.cells #[.int .i64 tau, .slice p l.length cap] 56)).alloc (.cells #[.int .i64 0, .int .i64 0, .int .i64 0, .int .i64 0] 119)) (w.heap.size + 1) from ⟨by simp, by simp, by simp, by simp, by simp, by simp, by simp, by simp⟩)
  have HC := Lib.hid (checkFit_any tau l p cap _ (hs.below a0))
  have HS := Lib.hid (hs.below a0)
  have X0 := Lib.hid x0
  have X1 := Lib.hid x1
  have A0 := Lib.hid a0
  clear hs a0 x0 x1
  by_cases he : fitErr tau l = 0
  · obtain ⟨h128, hp, h2⟩ := fitErr_zero he
    have HF := Lib.hid (show fitE tau l = _ from if_pos he)
    have HE := Lib.hid he
    have HP := Lib.hid hp
    clear he hp
    go_enter Tryz.func46, Tryz.ntmps46
    go_wp2_with fail
    refine HC.out.mono ?_
    rintro e w1 ⟨rfl, hb⟩
    rw [HE.out]
    have x0 := cell_below hb X0.out
    have x1 := cell_below hb X1.out
    have hz := cell_lt x0
    have HB := Lib.hid (A0.out.trans (hb.mono A0.out.size))
    have HS1 := Lib.hid (HS.out.below hb)
    have HR1 := Lib.hid (HR.out.below hb)
    clear hb
    go_wp2_with fail
    refine (line_any tau l p cap _ HS1.out HP.out h2 h128).mono ?_
    unfold lineVal
    rintro e w2 ⟨rfl, hb2⟩
    have HB2 := Lib.hid (HB.out.trans (hb2.mono HB.out.size))
    have HR2 := Lib.hid (HR1.out.below hb2)
    obtain ⟨z0, z1, z2, z3, f0, f1, f2, f3⟩ := HR2.out
    have hzz := cell_lt z0
    clear hb2 x0 x1 hz
    have c0 := HR2.out.s0 (.int .i64 (lowN (offN l) (detS l.length)))
    have c1 := HR2.out.s1 (.int .i64 (lowN (offN l) (detS l.length))) (.int .i64 (lowD (offN l) (detS l.length)))
    have c2 := HR2.out.s2 (.int .i64 (lowN (offN l) (detS l.length))) (.int .i64 (lowD (offN l) (detS l.length))) (.int .i64 (lowN (sloN l) (detS l.length)))
    have c3 := HR2.out.s3 (.int .i64 (lowN (offN l) (detS l.length))) (.int .i64 (lowD (offN l) (detS l.length))) (.int .i64 (lowN (sloN l) (detS l.length))) (.int .i64 (lowD (sloN l) (detS l.length)))
    go_wp2
    refine bodyPost_ret (v := .tuple #[.agg #[.int .i64 (lowN (offN l) (detS l.length)), .int .i64 (lowD (offN l) (detS l.length)), .int .i64 (lowN (sloN l) (detS l.length)), .int .i64 (lowD (sloN l) (detS l.length))], .int .i64 0]) (by simp [results, Tryz.results46, go_sem, c0, c1, c2, c3]) rfl ?_
    exact ⟨by rw [HF.out]; rfl, below4 _ _ _ _ HB2.out (by omega)⟩
  · have HF := Lib.hid (show fitE tau l = _ from if_neg he)
    have hne : (fitErr tau l != 0) = true := by simpa using he
    clear he
    go_enter Tryz.func46, Tryz.ntmps46
    go_wp2_with fail
    refine HC.out.mono ?_
    rintro e w1 ⟨rfl, hb⟩
    have HB := Lib.hid (A0.out.trans (hb.mono A0.out.size))
    have HR1 := Lib.hid (HR.out.below hb)
    obtain ⟨z0, z1, z2, z3, f0, f1, f2, f3⟩ := HR1.out
    have hzz := cell_lt z0
    clear hb
    have c0 := HR1.out.s0 (.int .i64 0)
    have c1 := HR1.out.s1 (.int .i64 0) (.int .i64 0)
    have c2 := HR1.out.s2 (.int .i64 0) (.int .i64 0) (.int .i64 0)
    have c3 := HR1.out.s3 (.int .i64 0) (.int .i64 0) (.int .i64 0) (.int .i64 0)
    go_wp2
    refine bodyPost_ret (v := .tuple #[.agg #[.int .i64 0, .int .i64 0, .int .i64 0, .int .i64 0], .int .i64 (fitErr tau l)]) (by simp [results, Tryz.results46, go_sem, c0, c1, c2, c3]) rfl ?_
    exact ⟨by rw [HF.out]; rfl, below4 _ _ _ _ HB.out (by omega)⟩
set_option maxRecDepth 100000 in
set_option maxHeartbeats 2000000 in
theorem Rest_any (tau : Int) (l : List Int) (p : Option Addr) (cap : Nat) (w : World) (hs : SerIn w l p) :
    Calls Tryz.prog 17 #[.agg #[.int .i64 tau, .slice p l.length cap]] w fun e w' => e = .returned (.tuple #[.agg #[.int .i64 (restE tau l).n, .int .i64 (restE tau l).d], .int .i64 (restE tau l).e]) ∧ Below w.heap.size w w' := by
  have hl := hs.1
  unfold maxLen at hl
  have a0 : Below w.heap.size w ((w.alloc (.cells #[.int .i64 tau, .slice p l.length cap] 56)).alloc (.cells #[.int .i64 0, .int .i64 0] 58)) := below_alloc (below_alloc (Below.refl _ _) _) _
  have x0 : ((w.alloc (.cells #[.int .i64 tau, .slice p l.length cap] 56)).alloc (.cells #[.int .i64 0, .int .i64 0] 58)).cell? ⟨w.heap.size, 0, none⟩ = some (.int .i64 tau) := by simp
  have x1 : ((w.alloc (.cells #[.int .i64 tau, .slice p l.length cap] 56)).alloc (.cells #[.int .i64 0, .int .i64 0] 58)).cell? ⟨w.heap.size, 1, none⟩ = some (.slice p l.length cap) := by simp
  have HR := Lib.hid (show Res ((w.alloc (.cells #[.int .i64 tau, .slice p l.length cap] 56)).alloc (.cells #[.int .i64 0, .int .i64 0] 58)) (w.heap.size + 1) from ⟨by simp, by simp, by simp, by simp⟩)
  have HC := Lib.hid (checkFit_any tau l p cap _ (hs.below a0))
  have HS := Lib.hid (hs.below a0)
  have X0 := Lib.hid x0
  have X1 := Lib.hid x1
  have A0 := Lib.hid a0
  clear hs a0 x0 x1
  by_cases he : fitErr tau l = 0
  · obtain ⟨h128, hp, h2⟩ := fitErr_zero he
    have hre : restErr tau l = if 48 < l.length then 8 else 0 := if_pos he
    have HE := Lib.hid he
    have HP := Lib.hid hp
    clear he hp
    by_cases h48 : 48 < l.length
    · rw [if_pos h48] at hre
      have h48i : (48 : Int) < (l.length : Int) := by omega
      have HF := Lib.hid (show restE tau l = ⟨0, 0, 8⟩ by unfold restE; rw [hre]; rfl)
      clear hre
      go_enter Tryz.func17, Tryz.ntmps17
      go_wp2_with fail
      refine HC.out.mono ?_
      rintro e w1 ⟨rfl, hb⟩
      rw [HE.out]
      have x1 := cell_below hb X1.out
      have hz := cell_lt x1
      have HB := Lib.hid (A0.out.trans (hb.mono A0.out.size))
      obtain ⟨z0, z1, f0, f1⟩ := HR.out.below hb
      have hzz := cell_lt z0
      clear hb
      have c0 := two_c0 (.int .i64 0) z0
      have c1 := two_c1 (.int .i64 0) (.int .i64 0) z1
      go_wp2
      refine bodyPost_ret (v := .tuple #[.agg #[.int .i64 0, .int .i64 0], .int .i64 8]) (by simp [results, Tryz.results17, go_sem, c0, c1]) rfl ?_
      exact ⟨by rw [HF.out], below2 _ _ HB.out (by omega)⟩
    · rw [if_neg h48] at hre
      have h48i : (l.length : Int) ≤ 48 := by omega
      have HF := Lib.hid (show restE tau l = _ from if_pos hre)
      clear hre
      go_enter Tryz.func17, Tryz.ntmps17
      go_wp2_with fail
      refine HC.out.mono ?_
      rintro e w1 ⟨rfl, hb⟩
      rw [HE.out]
      have x0 := cell_below hb X0.out
      have x1 := cell_below hb X1.out
      have hz := cell_lt x1
      have HB := Lib.hid (A0.out.trans (hb.mono A0.out.size))
      have HS1 := Lib.hid (HS.out.below hb)
      have HR1 := Lib.hid (HR.out.below hb)
      clear hb
      go_wp2_with fail
      refine (rest_any tau l p cap _ HS1.out HP.out h2 (by omega)).mono ?_
      rintro e w2 ⟨rfl, hb2⟩
      have HB2 := Lib.hid (HB.out.trans (hb2.mono HB.out.size))
      obtain ⟨z0, z1, f0, f1⟩ := HR1.out.below hb2
      have hzz := cell_lt z0
      clear hb2 x0 x1 hz
      have c0 := two_c0 (.int .i64 (lowN (restV l) (restD l.length))) z0
      have c1 := two_c1 (.int .i64 (lowN (restV l) (restD l.length))) (.int .i64 (lowD (restV l) (restD l.length))) z1
      go_wp2
      refine bodyPost_ret (v := .tuple #[.agg #[.int .i64 (lowN (restV l) (restD l.length)), .int .i64 (lowD (restV l) (restD l.length))], .int .i64 0]) (by simp [results, Tryz.results17, go_sem, c0, c1]) rfl ?_
      exact ⟨by rw [HF.out], below2 _ _ HB2.out (by omega)⟩
  · have hre : restErr tau l = fitErr tau l := if_neg he
    have HF := Lib.hid (show restE tau l = ⟨0, 0, fitErr tau l⟩ by unfold restE; rw [hre, if_neg he])
    have hne : (fitErr tau l != 0) = true := by simpa using he
    clear he hre
    go_enter Tryz.func17, Tryz.ntmps17
    go_wp2_with fail
    refine HC.out.mono ?_
    rintro e w1 ⟨rfl, hb⟩
    have HB := Lib.hid (A0.out.trans (hb.mono A0.out.size))
    obtain ⟨z0, z1, f0, f1⟩ := HR.out.below hb
    have hzz := cell_lt z0
    clear hb
    have c0 := two_c0 (.int .i64 0) z0
    have c1 := two_c1 (.int .i64 0) (.int .i64 0) z1
    go_wp2
    refine bodyPost_ret (v := .tuple #[.agg #[.int .i64 0, .int .i64 0], .int .i64 (fitErr tau l)]) (by simp [results, Tryz.results17, go_sem, c0, c1]) rfl ?_
    exact ⟨by rw [HF.out], below2 _ _ HB.out (by omega)⟩
end Go.Proofs.YtemblamamgfodaaGreatDoor
