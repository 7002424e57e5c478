/- Contracts of the reference of layer 3: Rest. -/
import Derived.Test.YtpmhphdpomiacaaRi
import Derived.Test.YtpmhphdpomiacaaRk
import Derived.Test.YtpmhphdpomiacaaRl
namespace Go.Proofs.Ytpmhphdpomiacaa
open Go Go.RowKit Go.Shelf
theorem rfit_at (tau : Int) (l : List Int) (p : Option Addr) (cap : Nat) (w : World) (hs : SerIn w l p) (V : LineE) (hV : fitE tau l = V) :
    Calls Try.prog 47 #[.agg #[.int .i64 tau, .slice p l.length cap]] w fun e w' => e = .returned (.tuple #[.agg #[.int .i64 V.a, .int .i64 V.b, .int .i64 V.c, .int .i64 V.d], .int .i64 V.e]) ∧ Below w.heap.size w w' := by
  subst hV
  exact rfit_any tau l p cap w hs
/-- the boxes of the reference's Rest -/
structure RsAt (w X : World) (tau : Int) (sv : Value) : Prop where
  s : SAt X w.heap.size tau sv
  r : RBox X (w.heap.size + 1) 0 0
  bel : Below w.heap.size w X
theorem RsAt.below {w X Y : World} {tau : Int} {sv : Value} (h : RsAt w X tau sv) (hb : Below X.heap.size X Y) : RsAt w Y tau sv := ⟨h.s.below hb, h.r.below hb, h.bel.trans (hb.mono h.bel.size)⟩
theorem RsAt.start (w : World) (tau : Int) (sv : Value) : RsAt w ((w.alloc (.cells #[.int .i64 tau, sv] 74)).alloc (.cells #[.int .i64 0, .int .i64 0] 28)) tau sv :=
  ⟨⟨by simp [go_sem], by simp [go_sem]⟩, ⟨by simp [go_sem], by simp [go_sem], by simp [go_sem], by simp [go_sem]⟩, below_alloc (below_alloc (Below.refl _ _) _) _⟩
theorem RsAt.ret {w X : World} {tau : Int} {sv : Value} (h : RsAt w X tau sv) (a b : Int) : Below w.heap.size w ((X.setCell ⟨w.heap.size + 1, 0, none⟩ (.int .i64 a)).setCell ⟨w.heap.size + 1, 1, none⟩ (.int .i64 b)) :=
  (h.bel.setCell (p := ⟨w.heap.size + 1, 0, none⟩) (by show w.heap.size ≤ w.heap.size + 1; omega) _).setCell (p := ⟨w.heap.size + 1, 1, none⟩) (by show w.heap.size ≤ w.heap.size + 1; omega) _
set_option maxRecDepth 100000 in
set_option maxHeartbeats 4000000 in
theorem rrest_err (tau : Int) (l : List Int) (p : Option Addr) (cap : Nat) (w : World) (hs : SerIn w l p) (he : restErr tau l ≠ 0) :
    Calls Try.prog 48 #[.agg #[.int .i64 tau, .slice p l.length cap]] w fun e w' => e = .returned (.tuple #[.agg #[.int .i64 0, .int .i64 0], .int .i64 (restErr tau l)]) ∧ Below w.heap.size w w' := by
  have a0 : Below w.heap.size w ((w.alloc (.cells #[.int .i64 tau, .slice p l.length cap] 74)).alloc (.cells #[.int .i64 0, .int .i64 0] 28)) := below_alloc (below_alloc (Below.refl _ _) _) _
  have hR0 := RsAt.start w tau (.slice p l.length cap)
  obtain ⟨⟨va, vb, vc, vd, ve⟩, hV⟩ : ∃ V, fitE tau l = V := ⟨_, rfl⟩
  have HC := Lib.hid (rfit_at tau l p cap _ (hs.below a0) _ hV)
  have HR0 := Lib.hid hR0
  by_cases h0 : fitErr tau l = 0
  · have h48 : 48 < l.length := by
      unfold restErr at he
      rw [if_pos h0] at he
      by_cases h : 48 < l.length
      · exact h
      · rw [if_neg h] at he; exact absurd rfl he
    have e8 : restErr tau l = 8 := by unfold restErr; rw [if_pos h0, if_pos h48]
    have hi : (48 : Int) < (l.length : Int) := by omega
    obtain rfl : ve = 0 := by
      have := congrArg LineE.e hV
      unfold fitE at this
      rw [if_pos h0] at this
      exact this.symm
    rw [e8]
    clear he e8 h0 hV hs hR0 a0
    go_enter Try.func48, Try.ntmps48
    go_wp2_with fail
    refine HC.out.mono ?_
    rintro e y ⟨rfl, hb⟩
    have hby := hb.trans ((below_alloc (Below.refl y.heap.size y) (.cells #[.int .i64 va, .int .i64 vb, .int .i64 vc, .int .i64 vd] 83)).mono hb.size)
    have HR1 := Lib.hid (HR0.out.below hby)
    clear hb hby
    go_upto_region 4 with fail
    generalize y.alloc (.cells #[.int .i64 va, .int .i64 vb, .int .i64 vc, .int .i64 vd] 83) = X1 at *
    obtain ⟨c0, c1⟩ := HR1.out.s
    obtain ⟨b0, b1, f0, f1⟩ := HR1.out.r
    have hz := cell_lt c0
    have hz2 := cell_lt b0
    obtain ⟨r0, r1⟩ := set2 (.int .i64 0) (.int .i64 0) b0 b1
    go_wp2
    exact bodyPost_ret (v := .tuple #[.agg #[.int .i64 0, .int .i64 0], .int .i64 8]) (by simp [results, Try.results48, go_sem, r0, r1]) rfl ⟨rfl, HR1.out.ret 0 0⟩
  · have e8 : restErr tau l = fitErr tau l := by unfold restErr; rw [if_neg h0]
    have hE : ve = fitErr tau l := by
      have := congrArg LineE.e hV
      unfold fitE at this
      rw [if_neg h0] at this
      exact this.symm
    rw [e8, ← hE]
    have hne : (ve != 0) = true := by rw [hE]; simpa using h0
    have hne2 : (ve == 0) = false := by rw [hE]; simpa using h0
    clear he e8 h0 hV hs hR0 hE a0
    go_enter Try.func48, Try.ntmps48
    go_wp2_with fail
    refine HC.out.mono ?_
    rintro e y ⟨rfl, hb⟩
    have hby := hb.trans ((below_alloc (Below.refl y.heap.size y) (.cells #[.int .i64 va, .int .i64 vb, .int .i64 vc, .int .i64 vd] 83)).mono hb.size)
    have HR1 := Lib.hid (HR0.out.below hby)
    clear hb hby
    go_upto_region 2 with fail
    generalize y.alloc (.cells #[.int .i64 va, .int .i64 vb, .int .i64 vc, .int .i64 vd] 83) = X1 at *
    obtain ⟨b0, b1, f0, f1⟩ := HR1.out.r
    have hz2 := cell_lt b0
    obtain ⟨r0, r1⟩ := set2 (.int .i64 0) (.int .i64 0) b0 b1
    go_wp2
    exact bodyPost_ret (v := .tuple #[.agg #[.int .i64 0, .int .i64 0], .int .i64 ve]) (by simp [results, Try.results48, go_sem, r0, r1]) rfl ⟨rfl, HR1.out.ret 0 0⟩
theorem tdiv_exact {a q : Int} (ha : 1 ≤ a) : (a * q).tdiv a = q := Int.mul_tdiv_cancel_left q (by omega)
set_option maxRecDepth 100000 in
set_option maxHeartbeats 4000000 in
theorem rrest_ok (tau : Int) (l : List Int) (p : Option Addr) (cap : Nat) (w : World) (hs : SerIn w l p) (h0 : fitErr tau l = 0) (h48 : l.length ≤ 48) :
    Calls Try.prog 48 #[.agg #[.int .i64 tau, .slice p l.length cap]] w fun e w' => e = .returned (.tuple #[.agg #[.int .i64 (lowN (restV l) (restD l.length)), .int .i64 (lowD (restV l) (restD l.length))], .int .i64 0]) ∧ Below w.heap.size w w' := by
  have a0 : Below w.heap.size w ((w.alloc (.cells #[.int .i64 tau, .slice p l.length cap] 74)).alloc (.cells #[.int .i64 0, .int .i64 0] 28)) := below_alloc (below_alloc (Below.refl _ _) _) _
  have HR0 := Lib.hid (RsAt.start w tau (.slice p l.length cap))
  obtain ⟨h128, hp, h2⟩ := fitErr_zero h0
  have hV : fitE tau l = ⟨lowN (offN l) (detS l.length), lowD (offN l) (detS l.length), lowN (sloN l) (detS l.length), lowD (sloN l) (detS l.length), 0⟩ := by unfold fitE; rw [if_pos h0]
  have HC := Lib.hid (rfit_at tau l p cap _ (hs.below a0) _ hV)
  have HS := Lib.hid hs
  obtain ⟨q1, q2, hpl⟩ := restPl hp h2 h48
  obtain ⟨hd1, hd2, hpos, hq1, hq2, hn0, hn1, heq⟩ := hpl
  have hD := (lineNums l.length h2 (by omega)).det
  have hR := (restNums hp h2 h48).d
  have o1 := lowD_pos (offN l) (detS l.length) hD.1
  have s1 := lowD_pos (sloN l) (detS l.length) hD.1
  have ole := Int.le_trans (Int.le_of_dvd (by omega) ⟨gcdS (offN l) (detS l.length), by rw [Int.mul_comm]; exact (gcdS_d (offN l) (detS l.length)).symm⟩) hD.2
  have sle := Int.le_trans (Int.le_of_dvd (by omega) ⟨gcdS (sloN l) (detS l.length), by rw [Int.mul_comm]; exact (gcdS_d (sloN l) (detS l.length)).symm⟩) hD.2
  have hlow := fun hc => low_unique (a := sumF (fun i => (atL l i * (lowN (lowD (offN l) (detS l.length)) (lowD (sloN l) (detS l.length)) * lowD (sloN l) (detS l.length)) - lowN (offN l) (detS l.length) * q1 - (i : Int) * lowN (sloN l) (detS l.length) * q2) * atL l i) l.length) hc hR.1 heq
  obtain ⟨lo1, lo2⟩ := hlow hpos.1
  rw [← lo1, ← lo2]
  clear hs hV heq hlow lo1 lo2 hD hR h0 h128 a0
  generalize lowN (offN l) (detS l.length) = on at *
  generalize lowD (offN l) (detS l.length) = od at *
  generalize lowN (sloN l) (detS l.length) = sn at *
  generalize lowD (sloN l) (detS l.length) = sd at *
  generalize hdd : lowN od sd * sd = dd at *
  obtain ⟨F, hF⟩ : ∃ F : Nat → Int, F = fun k => sumF (fun i => (atL l i * dd - on * q1 - (i : Int) * sn * q2) * atL l i) k := ⟨_, rfl⟩
  have hFn : sumF (fun i => (atL l i * dd - on * q1 - (i : Int) * sn * q2) * atL l i) l.length = F l.length := by rw [hF]
  rw [hFn] at hn0 hn1 ⊢
  have HF0 : Hid (F 0 = 0) := Lib.hid (by rw [hF]; rfl)
  have HFS : Hid (∀ k : Nat, F (k + 1) = F k + (atL l k * dd - on * q1 - (k : Int) * sn * q2) * atL l k) := Lib.hid (fun k => by rw [hF]; rfl)
  have g := gcdS_pos od sd s1
  have gl := gcdS_le od sd s1
  have hg0 : (gcdS od sd == 0) = false := by simp; omega
  have hg1 : ¬ gcdS od sd = 0 := by omega
  have hln := low_tdiv od sd
  have hlb : 1 ≤ lowN od sd ∧ lowN od sd ≤ od := by
    have e1 := gcdS_n od sd
    rcases Int.lt_or_le (lowN od sd) 1 with h | h
    · have := Int.mul_le_mul_of_nonneg_left (show lowN od sd ≤ 0 by omega) (show 0 ≤ gcdS od sd by omega)
      rw [e1] at this; omega
    · have := Int.mul_le_mul_of_nonneg_right (show 1 ≤ gcdS od sd by omega) (show 0 ≤ lowN od sd by omega)
      rw [e1, Int.one_mul] at this; exact ⟨h, this⟩
  have u1 : IntKind.i64.wrap (od.tdiv (gcdS od sd)) = lowN od sd := by rw [hln]; exact IntWalk.i64_in _ (by omega)
  have u2 : IntKind.i64.wrap (lowN od sd * sd) = dd := by rw [hdd]; exact IntWalk.i64_in _ (by omega)
  have t1 : dd.tdiv od = q1 := by rw [hd1]; exact tdiv_exact o1
  have t2 : dd.tdiv sd = q2 := by rw [hd2]; exact tdiv_exact s1
  have q1le : q1 ≤ dd := by
    have := Int.mul_le_mul_of_nonneg_right o1 (show 0 ≤ q1 by omega)
    rw [Int.one_mul, ← hd1] at this; exact this
  have q2le : q2 ≤ dd := by
    have := Int.mul_le_mul_of_nonneg_right s1 (show 0 ≤ q2 by omega)
    rw [Int.one_mul, ← hd2] at this; exact this
  have u3 : IntKind.i64.wrap (dd.tdiv od) = q1 := by rw [t1]; exact IntWalk.i64_in _ (by omega)
  have u4 : IntKind.i64.wrap (dd.tdiv sd) = q2 := by rw [t2]; exact IntWalk.i64_in _ (by omega)
  have u5 : IntKind.i64.wrap (dd / od) = q1 := by rw [← Int.tdiv_eq_ediv_of_nonneg (by omega)]; exact u3
  have u6 : IntKind.i64.wrap (dd / sd) = q2 := by rw [← Int.tdiv_eq_ediv_of_nonneg (by omega)]; exact u4
  have u7 : IntKind.i64.wrap (od / gcdS od sd) = lowN od sd := by rw [← Int.tdiv_eq_ediv_of_nonneg (by omega)]; exact u1
  have z1 : (od == 0) = false := by simp; omega
  have z2 : ¬ od = 0 := by omega
  have z3 : (sd == 0) = false := by simp; omega
  have z4 : ¬ sd = 0 := by omega
  have HG := Lib.hid (fun W => rgcd_any od sd W ⟨by omega, by omega⟩ ⟨by omega, by omega⟩)
  have HFR := Lib.hid (fun W => rfrac_any (F l.length) dd W (by omega) (by omega))
  have HWF : Hid (IntKind.i64.wrap (F l.length) = F l.length) := Lib.hid (IntWalk.i64_in _ (by omega))
  have h48i : ¬ ((48 : Int) < (l.length : Int)) := by omega
  have HPA := Lib.hid (fun i => atL_bd hp i)
  clear hF hFn hn0 hn1 hd1 hd2 hq1 hq2 o1 s1 ole sle g gl hln hlb t1 t2 q1le q2le hdd hpos
  generalize lowN od sd = lq at *
  go_enter Try.func48, Try.ntmps48
  go_wp2_with fail
  refine HC.out.mono ?_
  rintro e y ⟨rfl, hb⟩
  have hbx := below_alloc (Below.refl y.heap.size y) (.cells #[.int .i64 on, .int .i64 od, .int .i64 sn, .int .i64 sd] 83)
  have hby := hb.trans (hbx.mono hb.size)
  have HR1 := Lib.hid (HR0.out.below hby)
  have HQ : Hid (QBox (y.alloc (.cells #[.int .i64 on, .int .i64 od, .int .i64 sn, .int .i64 sd] 83)) y.heap.size on od sn sd) := Lib.hid (QBox.new _ _ _ _ _ _)
  have HS1 := Lib.hid (HS.out.below HR1.out.bel)
  clear hb hbx hby HC HR0
  go_upto_region 4 with fail
  generalize y.alloc (.cells #[.int .i64 on, .int .i64 od, .int .i64 sn, .int .i64 sd] 83) = X1 at *
  obtain ⟨c0, c1⟩ := HR1.out.s
  have hz := cell_lt c0
  obtain ⟨k0, k1, k2, k3, -, -, -, -⟩ := HQ.out
  have hzk := cell_lt k0
  go_upto_region 6 with fail
  go_quiet ((go_at_call 83; exact Calls.quiet_of_same ((HG.out _).mono fun _ _ ⟨h1, h2⟩ => ⟨h1, h2.symm⟩)))
  go_wp2
  have hbd : Below X1.heap.size X1 (X1.drewN nq) := below_drewN (Below.refl _ _) nq
  have HR2 := Lib.hid (HR1.out.below hbd)
  have HQ2 := Lib.hid (HQ.out.below hbd)
  have HS2 := Lib.hid (HS1.out.below hbd)
  generalize X1.drewN nq = X2 at *
  clear hbd HR1 HQ HS1 c0 c1 hz k0 k1 k2 k3 hzk HG
  go_loopw [7, 8] (fun t i wr => ∃ k : Nat, k ≤ l.length ∧ i = .int .i64 (k : Int) ∧ t = .int .i64 (IntKind.i64.wrap (F k)) ∧ Hid (Below X2.heap.size X2 wr)) (fun _ i _ => l.length - (intOf i).toNat)
  case atStart => exact ⟨0, Nat.zero_le _, rfl, by rw [HF0.out]; rfl, Lib.hid (Below.refl _ _)⟩
  case round =>
    obtain ⟨k, hk, rfl, rfl, HB⟩ := hrel
    have HR3 := Lib.hid (HR2.out.below HB.out)
    have HQ3 := Lib.hid (HQ2.out.below HB.out)
    obtain ⟨c0, c1⟩ := HR3.out.s
    have hz := cell_lt c0
    by_cases hlt : k < l.length
    · have hkl : (k : Int) < (l.length : Int) := by omega
      obtain ⟨b, o, rfl, hi⟩ := HS2.out.2.resolve_left (by omega)
      have x0 := cell_below HB.out (hi k hlt)
      rw [atL_get] at x0
      obtain ⟨k0, k1, k2, k3, -, -, -, -⟩ := HQ3.out
      have hzk := cell_lt k0
      have HSS := Lib.hid (HFS.out k)
      have v9 : IntKind.i64.wrap ((k : Int) + 1) = (k : Int) + 1 := IntWalk.i64_in _ (by omega)
      clear hi
      generalize atL l k = x at *
      obtain ⟨A1, g1⟩ : ∃ u, IntKind.i64.wrap (x * dd) = u := ⟨_, rfl⟩
      obtain ⟨A2, g2⟩ : ∃ u, IntKind.i64.wrap (on * q1) = u := ⟨_, rfl⟩
      obtain ⟨A3, g3⟩ : ∃ u, IntKind.i64.wrap (A1 - A2) = u := ⟨_, rfl⟩
      obtain ⟨A4, g4⟩ : ∃ u, IntKind.i64.wrap ((k : Int) * sn) = u := ⟨_, rfl⟩
      obtain ⟨A5, g5⟩ : ∃ u, IntKind.i64.wrap (A4 * q2) = u := ⟨_, rfl⟩
      obtain ⟨A6, g6⟩ : ∃ u, IntKind.i64.wrap (A3 - A5) = u := ⟨_, rfl⟩
      obtain ⟨A7, g7⟩ : ∃ u, IntKind.i64.wrap (A6 * x) = u := ⟨_, rfl⟩
      obtain ⟨T0, hT0⟩ : ∃ u, IntKind.i64.wrap (F k) = u := ⟨_, rfl⟩
      have g8 : IntKind.i64.wrap (T0 + A7) = IntKind.i64.wrap (F (k + 1)) := by
        rw [HSS.out, ← hT0, ← g7, ← g6, ← g5, ← g4, ← g3, ← g2, ← g1]
        simp only [wrap_add_l, wrap_add_r, wrap_sub_l, wrap_sub_r, wrap_times]
      obtain ⟨T1, hT1⟩ : ∃ u, IntKind.i64.wrap (F (k + 1)) = u := ⟨_, rfl⟩
      rw [hT1] at g8
      rw [hT0]
      have HT1 := Lib.hid hT1
      clear hT0 hT1
      go_wp2
      go_quiet (fail)
      go_wp2
      go_roundw
      case rel => exact ⟨k + 1, by omega, by simp, by rw [HT1.out], Lib.hid (below_drewN HB.out _)⟩
      case measure => simp [intOf]; omega
    · obtain rfl : k = l.length := by omega
      rw [HWF.out]
      go_wp2_with fail
      refine (HFR.out _).mono ?_
      rintro e z ⟨rfl, hb⟩
      have HR4 := Lib.hid (HR3.out.below hb)
      obtain ⟨b0, b1, f0, f1⟩ := HR4.out.r
      have hz2 := cell_lt b0
      obtain ⟨r0, r1⟩ := set2 (.int .i64 (lowN (F l.length) dd)) (.int .i64 (lowD (F l.length) dd)) b0 b1
      clear hb c0 c1 hz
      go_wp2
      exact bodyPost_ret (v := .tuple #[.agg #[.int .i64 (lowN (F l.length) dd), .int .i64 (lowD (F l.length) dd)], .int .i64 0]) (by simp [results, Try.results48, go_sem, r0, r1]) rfl ⟨rfl, HR4.out.ret _ _⟩
theorem rrest_any (tau : Int) (l : List Int) (p : Option Addr) (cap : Nat) (w : World) (hs : SerIn w l p) (V : FracE) (hV : restE tau l = V) :
    Calls Try.prog 48 #[.agg #[.int .i64 tau, .slice p l.length cap]] w fun e w' => e = .returned (.tuple #[.agg #[.int .i64 V.n, .int .i64 V.d], .int .i64 V.e]) ∧ Below w.heap.size w w' := by
  subst hV
  unfold restE
  by_cases he : restErr tau l = 0
  · rw [if_pos he]
    have h0 : fitErr tau l = 0 ∧ l.length ≤ 48 := by
      unfold restErr at he
      by_cases h : fitErr tau l = 0
      · rw [if_pos h] at he
        by_cases h4 : 48 < l.length
        · rw [if_pos h4] at he; omega
        · exact ⟨h, by omega⟩
      · rw [if_neg h] at he; exact absurd he h
    exact rrest_ok tau l p cap w hs h0.1 h0.2
  · rw [if_neg he]
    exact rrest_err tau l p cap w hs he
end Go.Proofs.Ytpmhphdpomiacaa
