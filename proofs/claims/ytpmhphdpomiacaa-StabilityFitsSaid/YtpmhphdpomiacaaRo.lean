/- The walk over the law StabilityFits. -/
import Derived.Test.YtpmhphdpomiacaaRh
import Derived.Test.YtpmhphdpomiacaaRn
namespace Go.Proofs.Ytpmhphdpomiacaa
open Go Go.RowKit Go.Shelf
theorem ofit_at (tau : Int) (l : List Int) (p : Option Addr) (cap : Nat) (w : World) (hs : SerIn w l p) (V : LineE) (hV : fitE tau l = V) :
    Calls Try.prog 26 #[.agg #[.int .i64 tau, .slice p l.length cap]] w fun e w' => e = .returned (.tuple #[.agg #[.int .i64 V.a, .int .i64 V.b, .int .i64 V.c, .int .i64 V.d], .int .i64 V.e]) ∧ Below w.heap.size w w' := by
  subst hV
  exact fit_any tau l p cap w hs
theorem orest_at (tau : Int) (l : List Int) (p : Option Addr) (cap : Nat) (w : World) (hs : SerIn w l p) (V : FracE) (hV : restE tau l = V) :
    Calls Try.prog 27 #[.agg #[.int .i64 tau, .slice p l.length cap]] w fun e w' => e = .returned (.tuple #[.agg #[.int .i64 V.n, .int .i64 V.d], .int .i64 V.e]) ∧ Below w.heap.size w w' := by
  subst hV
  exact Rest_any tau l p cap w hs
theorem OwnI.box {B cap : Nat} {X : World} {p : Option Addr} {L : List Int} (h : OwnI B X (.slice p L.length cap) L) : ∃ g, B ≤ g ∧ IntBox X g L ∧ (1 ≤ L.length → p = some ⟨g, 0, none⟩ ∧ g < X.heap.size) := by
  rcases h.2 with ⟨e, h0⟩ | ⟨g, cap', cur, e, hg, hgb, h1, h2, h3, h4⟩
  · exact ⟨B, Nat.le_refl _, fun i hi => by omega, by omega⟩
  · have hlt : g < X.heap.size := (Array.getElem?_eq_some_iff.1 hgb).1
    cases e
    refine ⟨g, hg, fun i hi => ⟨?_, by simp [World.frozen?, hgb]⟩, fun _ => ⟨rfl, hlt⟩⟩
    obtain ⟨b', c', e, hI⟩ := h.ints (by omega)
    cases e
    have := hI i hi
    rwa [Nat.zero_add] at this
/-- what lies about the loop of fits -/
structure FitAt (w X : World) (b5 b13 g : Nat) (tau T : Int) (l : List Int) (p p1 p2 q : Option Addr) (cap c1 c2 n c : Nat) (L : List Int) : Prop where
  v : VarsAt w X b5 tau l p p1 p2 cap c1 c2
  s : SAt X b13 T (.slice q n c)
  i : IntBox X g L
  gt : b5 + 1 < g
  ne : 1 ≤ n → g ≠ b13
theorem FitAt.step {w X : World} {b5 b13 g : Nat} {tau T : Int} {l : List Int} {p p1 p2 q : Option Addr} {cap c1 c2 n c : Nat} {L : List Int} (h : FitAt w X b5 b13 g tau T l p p1 p2 q cap c1 c2 n c L) (j : Nat) (hj : j < L.length) (hn : 1 ≤ n) (x : Int) :
    FitAt w (X.setCell ⟨g, j, none⟩ (.int .i64 x)) b5 b13 g tau T l p p1 p2 q cap c1 c2 n c (L.set j x) :=
  ⟨h.v.far h.gt, h.s.far (h.ne hn), h.i.set j x hj, h.gt, h.ne⟩
theorem thinLs_len (tau : Int) (l : List Int) (m : Int) : (thinLs tau l m).length ≤ maxLen := by
  unfold thinLs
  by_cases h : thinErr tau l m = 0
  · rw [if_pos h]
    obtain ⟨h128, _, _, hm⟩ := stepErr_zero (thinErr_zero h).1
    have := thinTo_len l m.toNat (by omega) l.length
    unfold maxLen; omega
  · rw [if_neg h]; simp [maxLen]
set_option maxRecDepth 100000 in
set_option maxHeartbeats 8000000 in
theorem fits_law (tau : Int) (l : List Int) (p : Option Addr) (cap : Nat) (m : Int) (w : World) (hs : SerIn w l p) (h200 : l.length ≤ 200) :
    Calls Try.prog 15 #[.agg #[.int .i64 tau, .slice p l.length cap], .int .i64 m] w fun e w' => e = .returned (.bool true) ∧ Below w.heap.size w w' := by
  have a0 := below_alloc (Below.refl w.heap.size w) (.cells #[.int .i64 tau, .slice p l.length cap] 24)
  have HSE := Lib.hid (series_cap tau l p cap _ (hs.below a0).2 (by omega))
  have HS := Lib.hid hs
  have A0 := Lib.hid a0
  have k0 : Hid (SAt (w.alloc (.cells #[.int .i64 tau, .slice p l.length cap] 24)) w.heap.size tau (.slice p l.length cap)) := Lib.hid ⟨by simp, by simp⟩
  obtain ⟨⟨fa, fb, fc, fd, fe⟩, hv0⟩ : ∃ V, fitE tau l = V := ⟨_, rfl⟩
  obtain ⟨⟨rn, rd, re⟩, hv1⟩ : ∃ V, restE tau l = V := ⟨_, rfl⟩
  have HV0 := Lib.hid hv0
  have HV1 := Lib.hid hv1
  clear hs a0 hv0 hv1
  go_enter Try.func15, Try.ntmps15
  go_wp2_with fail
  refine HSE.out.mono ?_
  rintro e y1 ⟨p1, c1, p2, c2, rfl, hs1, hs2, hb, hcc⟩
  have HCC := Lib.hid hcc
  have hby := hb.trans ((below_alloc (below_alloc (Below.refl y1.heap.size y1) (.cells #[.int .i64 tau, .slice p1 l.length c1] 24)) (.cells #[.int .i64 tau, .slice p2 l.length c2] 74)).mono hb.size)
  have hbz : Below y1.heap.size y1 ((y1.alloc (.cells #[.int .i64 tau, .slice p1 l.length c1] 24)).alloc (.cells #[.int .i64 tau, .slice p2 l.length c2] 74)) := below_alloc (below_alloc (Below.refl _ _) _) _
  have hlt : w.heap.size < y1.heap.size := by have := hb.size; simp at this; omega
  have HVA : Hid (VarsAt w ((y1.alloc (.cells #[.int .i64 tau, .slice p1 l.length c1] 24)).alloc (.cells #[.int .i64 tau, .slice p2 l.length c2] 74)) y1.heap.size tau l p p1 p2 cap c1 c2) :=
    Lib.hid ⟨(il_of ((HS.out.below A0.out).below hb).2 (Nat.le_refl _)).imp fun _ _ h => h.below hbz, (il_of hs1 (Nat.le_refl _)).imp fun _ _ h => h.below hbz, (il_of hs2 (Nat.le_refl _)).imp fun _ _ h => h.below hbz,
      k0.out.below hby, ⟨by simp [go_sem], by simp [go_sem]⟩, ⟨by simp [go_sem], by simp [go_sem]⟩, A0.out.trans (hby.mono A0.out.size), hlt, h200⟩
  have HSZ := Lib.hid (show y1.heap.size + 1 < ((y1.alloc (.cells #[.int .i64 tau, .slice p1 l.length c1] 24)).alloc (.cells #[.int .i64 tau, .slice p2 l.length c2] 74)).heap.size by simp)
  clear hb hby hbz hlt hs1 hs2 HSE k0 HS A0 hcc
  go_upto_region 2 with fail
  generalize (y1.alloc (.cells #[.int .i64 tau, .slice p1 l.length c1] 24)).alloc (.cells #[.int .i64 tau, .slice p2 l.length c2] 74) = X1 at *
  obtain ⟨g0, g1⟩ := HVA.out.r1
  have hz := cell_lt g0
  go_wp2_with fail
  refine (ofit_at tau l p1 c1 _ HVA.out.s1 _ HV0.out).mono ?_
  rintro e ya ⟨rfl, hb⟩
  have hby := hb.trans ((below_alloc (Below.refl ya.heap.size ya) (.cells #[.int .i64 fa, .int .i64 fb, .int .i64 fc, .int .i64 fd] 53)).mono hb.size)
  have HVB := Lib.hid (HVA.out.below hby)
  have HSB := Lib.hid (Nat.lt_of_lt_of_le HSZ.out hby.size)
  have J1 : Hid (QBox (ya.alloc (.cells #[.int .i64 fa, .int .i64 fb, .int .i64 fc, .int .i64 fd] 53)) ya.heap.size fa fb fc fd) := Lib.hid (QBox.new _ _ _ _ _ _)
  clear hb hby g0 g1 hz HVA HSZ
  go_upto_region 3 with fail
  generalize ya.alloc (.cells #[.int .i64 fa, .int .i64 fb, .int .i64 fc, .int .i64 fd] 53) = X2 at *
  obtain ⟨g0, g1⟩ := HVB.out.r2
  have hz := cell_lt g0
  go_wp2_with fail
  refine (rfit_at tau l p2 c2 _ HVB.out.s2 _ HV0.out).mono ?_
  rintro e yb ⟨rfl, hb⟩
  have hby := hb.trans ((below_alloc (Below.refl yb.heap.size yb) (.cells #[.int .i64 fa, .int .i64 fb, .int .i64 fc, .int .i64 fd] 83)).mono hb.size)
  have HVC := Lib.hid (HVB.out.below hby)
  have HSC := Lib.hid (Nat.lt_of_lt_of_le HSB.out hby.size)
  have J1' := Lib.hid (J1.out.below hby)
  have J2 : Hid (QBox (yb.alloc (.cells #[.int .i64 fa, .int .i64 fb, .int .i64 fc, .int .i64 fd] 83)) yb.heap.size fa fb fc fd) := Lib.hid (QBox.new _ _ _ _ _ _)
  clear hb hby g0 g1 hz HVB HSB J1
  go_upto_region 4 with fail
  generalize yb.alloc (.cells #[.int .i64 fa, .int .i64 fb, .int .i64 fc, .int .i64 fd] 83) = X3 at *
  obtain ⟨a0, a1, a2, a3, -, -, -, -⟩ := J1'.out
  obtain ⟨b0, b1, b2, b3, -, -, -, -⟩ := J2.out
  have hz := cell_lt a0
  have hz2 := cell_lt b0
  go_upto_region 6 with fail
  clear a0 a1 a2 a3 b0 b1 b2 b3 hz hz2 J1' J2 HV0
  obtain ⟨g0, g1⟩ := HVC.out.r1
  have hz := cell_lt g0
  go_wp2_with fail
  refine (orest_at tau l p1 c1 _ HVC.out.s1 _ HV1.out).mono ?_
  rintro e yc ⟨rfl, hb⟩
  have hby := hb.trans ((below_alloc (Below.refl yc.heap.size yc) (.cells #[.int .i64 rn, .int .i64 rd] 28)).mono hb.size)
  have HVD := Lib.hid (HVC.out.below hby)
  have HSD := Lib.hid (Nat.lt_of_lt_of_le HSC.out hby.size)
  have J3 : Hid (RBox (yc.alloc (.cells #[.int .i64 rn, .int .i64 rd] 28)) yc.heap.size rn rd) := Lib.hid (RBox.new _ _ _ _)
  clear hb hby g0 g1 hz HVC HSC
  go_upto_region 7 with fail
  generalize yc.alloc (.cells #[.int .i64 rn, .int .i64 rd] 28) = X4 at *
  obtain ⟨g0, g1⟩ := HVD.out.r2
  have hz := cell_lt g0
  go_wp2_with fail
  refine (rrest_any tau l p2 c2 _ HVD.out.s2 _ HV1.out).mono ?_
  rintro e yd ⟨rfl, hb⟩
  have hby := hb.trans ((below_alloc (Below.refl yd.heap.size yd) (.cells #[.int .i64 rn, .int .i64 rd] 28)).mono hb.size)
  have HVE := Lib.hid (HVD.out.below hby)
  have HSE := Lib.hid (Nat.lt_of_lt_of_le HSD.out hby.size)
  have J3' := Lib.hid (J3.out.below hby)
  have J4 : Hid (RBox (yd.alloc (.cells #[.int .i64 rn, .int .i64 rd] 28)) yd.heap.size rn rd) := Lib.hid (RBox.new _ _ _ _)
  clear hb hby g0 g1 hz HVD HSD J3
  go_upto_region 8 with fail
  generalize yd.alloc (.cells #[.int .i64 rn, .int .i64 rd] 28) = X5 at *
  obtain ⟨a0, a1, -, -⟩ := J3'.out
  obtain ⟨b0, b1, -, -⟩ := J4.out
  have hz := cell_lt a0
  have hz2 := cell_lt b0
  go_upto_region 10 with fail
  clear a0 a1 b0 b1 hz hz2 J3' J4 HV1
  obtain ⟨g0, g1⟩ := HVE.out.r1
  have hz := cell_lt g0
  go_wp2_with fail
  refine (thin_all tau l p1 c1 m _ HVE.out.s1 HCC.out).mono ?_
  rintro e ye ⟨q, qc, rfl, hown, hb⟩
  obtain ⟨L, hL⟩ : ∃ L, L = thinLs tau l m := ⟨_, rfl⟩
  have HLL : Hid (L.length ≤ maxLen) := Lib.hid (by rw [hL]; exact thinLs_len tau l m)
  rw [← hL] at hown ⊢
  have HL := Lib.hid hL
  have hby := hb.trans ((below_alloc (Below.refl ye.heap.size ye) (.cells #[.int .i64 (thinTau tau l m), .slice q L.length qc] 24)).mono hb.size)
  have hbx := below_alloc (Below.refl ye.heap.size ye) (.cells #[.int .i64 (thinTau tau l m), .slice q L.length qc] 24)
  have HVF := Lib.hid (HVE.out.below hby)
  obtain ⟨g, hg1, hg2, hg3⟩ := hown.box
  have HG1 := Lib.hid (show y1.heap.size + 1 < g from Nat.lt_of_lt_of_le HSE.out hg1)
  have HG2 := Lib.hid (hg2.below hbx)
  have HG3 := Lib.hid hg3
  have HSR := Lib.hid (hown.ser)
  have HTS : Hid (SAt (ye.alloc (.cells #[.int .i64 (thinTau tau l m), .slice q L.length qc] 24)) ye.heap.size (thinTau tau l m) (.slice q L.length qc)) := Lib.hid ⟨by simp, by simp⟩
  clear hb hby hbx g0 g1 hz HVE HSE hown hg1 hg2 hg3 hL HCC HSR
  go_upto_region 11 with fail
  generalize ye.alloc (.cells #[.int .i64 (thinTau tau l m), .slice q L.length qc] 24) = X6 at *
  obtain ⟨g0, g1⟩ := HVF.out.r2
  have hz := cell_lt g0
  go_wp2_with fail
  refine (rthin_all tau l p2 c2 m _ HVF.out.s2).mono ?_
  rintro e yf ⟨q2, qd, rfl, hq2, hb⟩
  rw [← HL.out] at hq2 ⊢
  have hby := hb.trans ((below_alloc (Below.refl yf.heap.size yf) (.cells #[.int .i64 (thinTau tau l m), .slice q2 L.length qd] 74)).mono hb.size)
  have hbx := below_alloc (Below.refl yf.heap.size yf) (.cells #[.int .i64 (thinTau tau l m), .slice q2 L.length qd] 74)
  have HVH := Lib.hid (HVF.out.below hby)
  have HG4 := Lib.hid (HG2.out.below hby)
  have HTT := Lib.hid (HTS.out.below hby)
  have HQ2 : Hid (SliceIn q2 L.length (IntsAt (yf.alloc (.cells #[.int .i64 (thinTau tau l m), .slice q2 L.length qd] 74)) L)) := Lib.hid (hq2.imp fun _ _ h => h.below hbx)
  have HTU : Hid (SAt (yf.alloc (.cells #[.int .i64 (thinTau tau l m), .slice q2 L.length qd] 74)) yf.heap.size (thinTau tau l m) (.slice q2 L.length qd)) := Lib.hid ⟨by simp, by simp⟩
  clear hb hby hbx g0 g1 hz HVF HG2 HTS hq2 HL
  go_upto_region 12 with fail
  generalize yf.alloc (.cells #[.int .i64 (thinTau tau l m), .slice q2 L.length qd] 74) = X7 at *
  have HQ1 : Hid (SliceIn q L.length (IntsAt X7 L)) := Lib.hid (by
    by_cases h0 : L.length = 0
    · exact .inl h0
    · exact .inr ⟨g, 0, (HG3.out (by omega)).1, fun i hi => by rw [Nat.zero_add]; exact (HG4.out i hi).1⟩)
  obtain ⟨a0, a1⟩ := HTT.out
  obtain ⟨b0, b1⟩ := HTU.out
  have hz := cell_lt a0
  have hz2 := cell_lt b0
  go_wp2_with fail
  refine (equal_yes L q q2 qc qd _ HQ1.out HQ2.out HLL.out).mono ?_
  rintro e yg ⟨rfl, hb⟩
  have HFA : Hid (FitAt w yg y1.heap.size ye.heap.size g tau (thinTau tau l m) l p p1 p2 q cap c1 c2 L.length qc L) :=
    Lib.hid ⟨HVH.out.below hb, HTT.out.below hb, HG4.out.below hb, HG1.out, fun h => by have := (HG3.out h).2; omega⟩
  clear hb a0 a1 b0 b1 hz hz2 HVH HTT HG4 HTU HQ1 HQ2
  go_upto_region 14 with fail
  obtain ⟨a0, a1⟩ := HFA.out.s
  have hz := cell_lt a0
  go_wp2
  clear a0 a1 hz
  go_loopw [90] (fun i wr => ∃ (k : Nat) (L' : List Int), k ≤ L.length ∧ i = .int .i64 (k : Int) ∧ L'.length = L.length ∧ Hid (FitAt w wr y1.heap.size ye.heap.size g tau (thinTau tau l m) l p p1 p2 q cap c1 c2 L.length qc L')) (fun i _ => L.length - (intOf i).toNat)
  case atStart => exact ⟨0, L, Nat.zero_le _, rfl, rfl, HFA⟩
  case round =>
    obtain ⟨k, L', hk, rfl, hll, HF⟩ := hrel
    have HLE := Lib.hid hll
    by_cases hlt : k < L.length
    · have hkl : (k : Int) < (L.length : Int) := by omega
      obtain rfl := (HG3.out (by omega)).1
      obtain ⟨a0, a1⟩ := HF.out.s
      have hz := cell_lt a0
      have f0 := (HF.out.i k (by omega)).2
      obtain ⟨xv, x0⟩ : ∃ xv : Int, wr.cell? ⟨g, k, none⟩ = some (.int .i64 xv) := ⟨_, (HF.out.i k (by omega)).1⟩
      have hz2 := cell_lt x0
      obtain ⟨u, hu⟩ : ∃ u, IntKind.i64.wrap (xv + 1) = u := ⟨_, rfl⟩
      have HN := Lib.hid (HF.out.step k (by omega) (by omega) u)
      have v1 : IntKind.i64.wrap ((k : Int) + 1) = (k : Int) + 1 := IntWalk.i64_in _ (by have := HLL.out; unfold maxLen at this; omega)
      clear hll
      go_wp2_with fail
      go_roundw
      case rel => exact ⟨k + 1, L'.set k u, by omega, by simp, by rw [List.length_set]; exact HLE.out, HN⟩
      case measure => simp [intOf]; omega
    · obtain rfl : k = L.length := by omega
      obtain ⟨g0, g1⟩ := HF.out.v.r1
      obtain ⟨h0, h1⟩ := HF.out.v.r0
      have hz := cell_lt g0
      have hz2 := cell_lt h0
      clear hll
      go_wp2_with fail
      refine (equal_yes l p1 p c1 cap _ HF.out.v.s1.2 HF.out.v.s0.2 HF.out.v.s0.1).mono ?_
      rintro e z4 ⟨rfl, hb⟩
      have HFF := Lib.hid (HF.out.v.bel.trans (hb.mono HF.out.v.bel.size))
      clear hb g0 g1 h0 h1 hz hz2
      go_wp2
      go_ret
      exact ⟨rfl, HFF.out⟩
set_option maxRecDepth 100000 in
set_option maxHeartbeats 4000000 in
theorem flaw_any (tau : Int) (l : List Int) (p : Option Addr) (cap : Nat) (m : Int) (w : World) (hs : SerIn w l p) :
    Calls Try.prog 4 #[.agg #[.int .i64 tau, .slice p l.length cap], .int .i64 m] w fun e w' => e = .returned (.bool true) ∧ Below w.heap.size w w' := by
  have a0 := below_alloc (Below.refl w.heap.size w) (.cells #[.int .i64 tau, .slice p l.length cap] 24)
  have HS := Lib.hid (hs.below a0)
  have A0 := Lib.hid a0
  clear hs a0
  by_cases h : 200 < l.length
  · have hi : (200 : Int) < (l.length : Int) := by omega
    go_enter Try.func4, Try.ntmps4
    go_wp2_with fail
    refine (awake_any _).mono ?_
    rintro e w2 ⟨rfl, hb⟩
    have HF := Lib.hid (A0.out.trans (hb.mono A0.out.size))
    clear hb
    go_wp2
    go_ret
    exact ⟨rfl, HF.out⟩
  · have hi : ¬ ((200 : Int) < (l.length : Int)) := by omega
    have HV := Lib.hid (fits_law tau l p cap m _ HS.out (by omega))
    go_enter Try.func4, Try.ntmps4
    go_wp2_with fail
    refine HV.out.mono ?_
    rintro e w1 ⟨rfl, hb⟩
    have HB := Lib.hid (A0.out.trans (hb.mono A0.out.size))
    clear hb HV
    go_wp2_with fail
    refine (awake_any _).mono ?_
    rintro e w2 ⟨rfl, hb⟩
    have HF := Lib.hid (HB.out.trans (hb.mono HB.out.size))
    clear hb
    go_wp2
    go_ret
    exact ⟨rfl, HF.out⟩
end Go.Proofs.Ytpmhphdpomiacaa
