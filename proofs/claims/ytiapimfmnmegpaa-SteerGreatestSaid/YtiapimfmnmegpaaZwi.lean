/- Stage 6 (steer): Widest. -/
import Derived.Test.YtiapimfmnmegpaaZcs
namespace Go.Proofs.Ytiapimfmnmegpaa.St
open Go Go.RowKit Go.Shelf
attribute [local go_sem] Oper.semAt_some
set_option maxRecDepth 100000 in
set_option maxHeartbeats 2000000 in
theorem Widest_ok {l r s z : Int} (hp : planB l r s z = true) (w : World) :
    Calls Try.prog 17 #[.agg #[.int .i64 l, .int .i64 r, .int .i64 s, .int .i64 z]] w fun e w' => e = .returned (.tuple #[.int .i64 (if widW l r s z = 0 then 0 else (widW l r s z : Int) - 1), .int .i64 (if widW l r s z = 0 then 4 else 0)]) ∧ Below w.heap.size w w' := by
  have h := plan_ok hp
  have k1 : PlAt (w.alloc (.cells #[.int .i64 l, .int .i64 r, .int .i64 s, .int .i64 z] 27)) w.heap.size l r s z := World.alloc_heap_new w _
  have A0 := Lib.hid (below_alloc (Below.refl w.heap.size w) (.cells #[.int .i64 l, .int .i64 r, .int .i64 s, .int .i64 z] 27))
  have HC := Lib.hid (fun W => check_any l r s z W)
  rw [show planE l r s z = 0 by unfold planE; simp [hp]] at HC
  have HCH := Lib.hid (fun W => chart_any l r s z h _ _ _ h.siz.n h.siz.d h.siz.v W)
  have HF := Lib.hid (show chF l r s z (2 * z + 1).toNat (2 * r + 1).toNat (sizP l r).toNat = chartF l r s z from rfl)
  rw [HF.out] at HCH
  have HME := Lib.hid (fun e q b X (hX : NumW X (chartF l r s z) (sizP l r).toNat b 0) => meant_any (e := e) (q := q) h (chartF l r s z) (some ⟨b, 0, none⟩) (sizP l r).toNat (sizP l r).toNat X h.siz.n hX.in_ (Nat.le_refl _))
  have HWB := Lib.hid (fun k => widB_far (l := l) (r := r) (f := chartF l r s z) (k := k))
  have HWD := Lib.hid (fun k => show widB l r (chartF l r s z) k = (meaP l r (chartF l r s z) (k : Int) 0 && meaP l r (chartF l r s z) (-(k : Int)) 0) from rfl)
  have HWN := Lib.hid (fun m h1 h2 h3 => show widW l r s z = m from widN_eq (l := l) (r := r) (f := chartF l r s z) (m := m) h1 50 0 (Nat.zero_le _) h2 h3)
  have hl2 := h.l2
  generalize (sizP l r).toNat = N at *
  generalize chartF l r s z = f at *
  generalize widW l r s z = W at *
  obtain ⟨v1, hv1⟩ : ∃ v1, (if W = 0 then (0 : Int) else (W : Int) - 1) = v1 := ⟨_, rfl⟩
  obtain ⟨v2, hv2⟩ : ∃ v2, (if W = 0 then (4 : Int) else 0) = v2 := ⟨_, rfl⟩
  rw [hv1, hv2]
  have HV1 := Lib.hid hv1
  have HV2 := Lib.hid hv2
  clear h hp hv1 hv2
  go_enter Try.func17, Try.ntmps17
  go_upto_region 2 with (go_at_call 15; refine (HC.out _).mono ?_; rintro e w1 ⟨rfl, hb1⟩; have HB1 := Lib.hid hb1; have HP1 := Lib.hid (k1.below hb1); clear hb1 k1)
  obtain ⟨x0, x1, x2, x3⟩ := HP1.out.c
  have zx := cell_lt x0
  go_upto_region 5 with (go_at_call 33; refine (HCH.out _).mono ?_; rintro e w2 ⟨b, rfl, hn, hbb, hb2⟩; have HB2 := Lib.hid hb2)
  clear x0 x1 x2 x3 zx
  have hb3 := below_alloc (Below.refl w2.heap.size w2) (.cells #[.int .i64 l, .int .i64 r, .int .i64 s, .int .i64 z, .slice (some ⟨b, 0, none⟩) N N] 68)
  have HCT := Lib.hid (CtlAt.new w2 l r s z (some ⟨b, 0, none⟩) N N)
  have HNU := Lib.hid (hn.below hb3)
  have HB3 := Lib.hid (bt A0.out (bt HB1.out (bt hb2 hb3)))
  clear hn hbb hb2 hb3
  generalize w2.alloc (.cells #[.int .i64 l, .int .i64 r, .int .i64 s, .int .i64 z, .slice (some ⟨b, 0, none⟩) N N] 68) = W3 at *
  generalize w2.heap.size = Bc at *
  go_wp2_with fail
  go_loopw [6] (fun s6 wr => ∃ (k : Nat), s6 = .int .i64 (k : Int) ∧ Hid (Below W3.heap.size W3 wr) ∧ Hid (∀ i, 0 ≤ i → i < k → widB l r f i = true) ∧ (k : Int) ≤ 41) (fun s6 _ => 100 - (intOf s6).toNat)
  case atStart => exact ⟨0, rfl, Lib.hid (Below.refl _ _), Lib.hid (fun i _ hi => absurd hi (Nat.not_lt_zero i)), by decide⟩
  case round =>
    obtain ⟨k, rfl, HB, HI, hk⟩ := hrel
    have HCB := Lib.hid (HCT.out.below HB.out)
    have HNB := Lib.hid (HNU.out.below HB.out)
    have hkn : IntKind.i64.wrap (-(k : Int)) = -(k : Int) := IntWalk.i64_in _ (by omega)
    have hk1 : IntKind.i64.wrap ((k : Int) + 1) = ((k + 1 : Nat) : Int) := by rw [IntWalk.i64_in _ (by omega)]; omega
    have HM1 := Lib.hid (HME.out (k : Int) 0 b wr HNB.out)
    have HM2 := Lib.hid (fun X (hX : Below wr.heap.size wr X) => HME.out (-(k : Int)) 0 b X (HNB.out.below hX))
    have HWK := Lib.hid (HWD.out k)
    obtain ⟨x0, x1, x2, x3, x4⟩ := HCB.out.c
    have zx := cell_lt x0
    cases h1 : meaP l r f (k : Int) 0
    · rw [h1] at HM1
      have H1 := Lib.hid h1
      have HW0 := Lib.hid (show widB l r f k = false by rw [HWK.out, H1.out]; rfl)
      have hWE := HWN.out k HW0.out (by omega) HI.out
      by_cases hk0 : k = 0
      · have e1 : v1 = 0 := by rw [← HV1.out, hWE, if_pos hk0]
        have e2 : v2 = 4 := by rw [← HV2.out, hWE, if_pos hk0]
        subst hk0
        have E1 := Lib.hid e1
        have E2 := Lib.hid e2
        clear e1 e2 hWE h1 H1
        go_wp2_with (go_at_call 36; refine HM1.out.mono ?_; rintro e w4 ⟨rfl, hb4⟩; have HB4 := Lib.hid hb4; clear hb4 x0 x1 x2 x3 x4 zx)
        go_ret2
        exact ⟨by rw [E1.out, E2.out]; rfl, bt HB3.out (bt HB.out HB4.out)⟩
      · have e1 : v1 = (k : Int) - 1 := by rw [← HV1.out, hWE, if_neg hk0]
        have e2 : v2 = 0 := by rw [← HV2.out, hWE, if_neg hk0]
        have hk00 : ¬ (k : Int) = 0 := by omega
        have hk01 : ((k : Int) == 0) = false := by simp; omega
        have hkm : IntKind.i64.wrap ((k : Int) - 1) = (k : Int) - 1 := IntWalk.i64_in _ (by omega)
        have E1 := Lib.hid e1
        have E2 := Lib.hid e2
        clear e1 e2 hWE h1 H1
        go_wp2_with (go_at_call 36; refine HM1.out.mono ?_; rintro e w4 ⟨rfl, hb4⟩; have HB4 := Lib.hid hb4; clear hb4 x0 x1 x2 x3 x4 zx)
        go_ret2
        exact ⟨by rw [E1.out, E2.out]; rfl, bt HB3.out (bt HB.out HB4.out)⟩
    · rw [h1] at HM1
      have H1 := Lib.hid h1
      cases h2 : meaP l r f (-(k : Int)) 0
      · rw [h2] at HM2
        have H2 := Lib.hid h2
        clear h2
        have HW0 := Lib.hid (show widB l r f k = false by rw [HWK.out, H1.out, H2.out]; rfl)
        have hWE := HWN.out k HW0.out (by omega) HI.out
        by_cases hk0 : k = 0
        · have e1 : v1 = 0 := by rw [← HV1.out, hWE, if_pos hk0]
          have e2 : v2 = 4 := by rw [← HV2.out, hWE, if_pos hk0]
          subst hk0
          have E1 := Lib.hid e1
          have E2 := Lib.hid e2
          clear e1 e2 hWE h1 H1
          go_wp2_with (go_at_call 36; first | (refine HM1.out.mono ?_; rintro e w4 ⟨rfl, hb4⟩; have HB4 := Lib.hid hb4; have HM2 := Lib.hid (HM2.out w4 hb4); have HCC := Lib.hid (HCB.out.below hb4); obtain ⟨x0, x1, x2, x3, x4⟩ := HCC.out.c; have zx := cell_lt x0; clear hb4 HM1) | (refine HM2.out.mono ?_; rintro e w5 ⟨rfl, hb5⟩; have HB5 := Lib.hid hb5; clear hb5 HM2))
          go_ret2
          exact ⟨by rw [E1.out, E2.out]; rfl, bt HB3.out (bt HB.out (bt HB4.out HB5.out))⟩
        · have e1 : v1 = (k : Int) - 1 := by rw [← HV1.out, hWE, if_neg hk0]
          have e2 : v2 = 0 := by rw [← HV2.out, hWE, if_neg hk0]
          have hk00 : ¬ (k : Int) = 0 := by omega
          have hk01 : ((k : Int) == 0) = false := by simp; omega
          have hkm : IntKind.i64.wrap ((k : Int) - 1) = (k : Int) - 1 := IntWalk.i64_in _ (by omega)
          have E1 := Lib.hid e1
          have E2 := Lib.hid e2
          clear e1 e2 hWE h1 H1
          go_wp2_with (go_at_call 36; first | (refine HM1.out.mono ?_; rintro e w4 ⟨rfl, hb4⟩; have HB4 := Lib.hid hb4; have HM2 := Lib.hid (HM2.out w4 hb4); have HCC := Lib.hid (HCB.out.below hb4); obtain ⟨x0, x1, x2, x3, x4⟩ := HCC.out.c; have zx := cell_lt x0; clear hb4 HM1) | (refine HM2.out.mono ?_; rintro e w5 ⟨rfl, hb5⟩; have HB5 := Lib.hid hb5; clear hb5 HM2))
          go_ret2
          exact ⟨by rw [E1.out, E2.out]; rfl, bt HB3.out (bt HB.out (bt HB4.out HB5.out))⟩
      · rw [h2] at HM2
        have hW1 : widB l r f k = true := by rw [HWK.out, h1, h2]; rfl
        have hkl := HWB.out k hW1
        have HI2 := Lib.hid (show ∀ i, 0 ≤ i → i < k + 1 → widB l r f i = true from fun i h0 hi => by
          by_cases e : i = k
          · subst e; exact hW1
          · exact HI.out i h0 (by omega))
        clear h1 h2 hW1
        go_wp2_with (go_at_call 36; first | (refine HM1.out.mono ?_; rintro e w4 ⟨rfl, hb4⟩; have HB4 := Lib.hid hb4; have HM2 := Lib.hid (HM2.out w4 hb4); have HCC := Lib.hid (HCB.out.below hb4); obtain ⟨x0, x1, x2, x3, x4⟩ := HCC.out.c; have zx := cell_lt x0; clear hb4 HM1) | (refine HM2.out.mono ?_; rintro e w5 ⟨rfl, hb5⟩; have HB5 := Lib.hid hb5; clear hb5 HM2))
        go_roundw
        case rel => exact ⟨k + 1, rfl, Lib.hid (bt HB.out (bt HB4.out HB5.out)), HI2, by omega⟩
        case measure => simp [intOf]; omega
theorem Widest_no {l r s z : Int} (hp : planB l r s z = false) (w : World) :
    Calls Try.prog 17 #[.agg #[.int .i64 l, .int .i64 r, .int .i64 s, .int .i64 z]] w fun e w' => e = .returned (.tuple #[.int .i64 0, .int .i64 60]) ∧ Below w.heap.size w w' := by
  have A0 := Lib.hid (below_alloc (Below.refl w.heap.size w) (.cells #[.int .i64 l, .int .i64 r, .int .i64 s, .int .i64 z] 27))
  have HC := Lib.hid (fun W => check_any l r s z W)
  rw [show planE l r s z = 60 by unfold planE; simp [hp]] at HC
  clear hp
  go_enter Try.func17, Try.ntmps17
  go_wp2_with (go_at_call 15; refine (HC.out _).mono ?_; rintro e w1 ⟨rfl, hb1⟩; have HB1 := Lib.hid hb1; clear hb1)
  go_ret2
  exact ⟨rfl, bt A0.out HB1.out⟩
end Go.Proofs.Ytiapimfmnmegpaa.St
