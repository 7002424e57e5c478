/- Layer 9 (calendar): Dates, Atomic, Announced; Seconds where it refuses. (by gen_dw.py) -/
import Derived.Test.YtklhepgpepfgjaaDoorQ22
namespace Go.Proofs.YtklhepgpepfgjaaDoor.Cal
open Go Go.RowKit
attribute [local go_sem] Oper.semAt_some
theorem knownE_zero {b u : Int} {n : Nat} {f : Nat → Int × Int} {s : Int} (h : knownE b u n f s = 0) : tabE b u n f = 0 ∧ inB s (beginS f n u) = true := by
  unfold knownE at h
  by_cases ht : tabE b u n f = 0
  · rw [if_pos ht] at h
    by_cases hi : inB s (beginS f n u) = true
    · exact ⟨ht, hi⟩
    · rw [if_neg hi] at h; cases h
  · rw [if_neg ht] at h; exact absurd h ht
theorem known_mk {b u : Int} {n : Nat} {f : Nat → Int × Int} {s : Int} (ht : tabE b u n f = 0) (hi : inB s (beginS f n u) = true) : knownE b u n f s = 0 := by unfold knownE; rw [if_pos ht, if_pos hi]
theorem inB_bd {n m : Int} (h : inB n m = true) : 0 ≤ n ∧ n < m := by unfold inB at h; simp at h; omega

theorem dts_start (w : World) (b u : Int) (n c : Nat) (p : Option Addr) : TBox ((w.alloc (.cells #[.int .i64 b, .slice p n c, .int .i64 u] 24)).alloc (.cells #[.int .i64 0, .int .i64 0, .int .i64 0, .int .i64 0, .int .i64 0, .int .i64 0] 29)) w.heap.size b u n c p ∧ Res6 ((w.alloc (.cells #[.int .i64 b, .slice p n c, .int .i64 u] 24)).alloc (.cells #[.int .i64 0, .int .i64 0, .int .i64 0, .int .i64 0, .int .i64 0, .int .i64 0] 29)) (w.heap.size + 1) ∧ Below w.heap.size w ((w.alloc (.cells #[.int .i64 b, .slice p n c, .int .i64 u] 24)).alloc (.cells #[.int .i64 0, .int .i64 0, .int .i64 0, .int .i64 0, .int .i64 0, .int .i64 0] 29)) := by
  have b1 := below_alloc (Below.refl w.heap.size w) (.cells #[.int .i64 b, .slice p n c, .int .i64 u] 24)
  have h1 := TBox.new w b u n c p 24
  have e1 : (w.alloc (.cells #[.int .i64 b, .slice p n c, .int .i64 u] 24)).heap.size = w.heap.size + 1 := by simp
  generalize w.alloc (.cells #[.int .i64 b, .slice p n c, .int .i64 u] 24) = W1 at *
  have b2 := below_alloc (Below.refl W1.heap.size W1) (.cells #[.int .i64 0, .int .i64 0, .int .i64 0, .int .i64 0, .int .i64 0, .int .i64 0] 29)
  have h2 := Res6.new W1 (.int .i64 0) (.int .i64 0) (.int .i64 0) (.int .i64 0) (.int .i64 0) (.int .i64 0) 29
  rw [e1] at h2
  exact ⟨h1.below b2, h2, bt b1 b2⟩

set_option maxHeartbeats 2000000 in
theorem Dates_ok {b u : Int} {n : Nat} {f : Nat → Int × Int} {s : Int} (hk : knownE b u n f s = 0) {D : Int} (hD : IsDayOf u n f s D) {y : Int} {k : Nat} {d : Int} (hci : IsCiv D y k d) (c : Nat) (p : Option Addr) (w : World) (hw : Mon w) (hs : LpIn w f n p) (hc : n ≤ c) (hcm : c ≤ maxLen) :
    Calls Tryd.prog 12 #[.agg #[.int .i64 b, .slice p n c, .int .i64 u], .int .i64 s] w fun e w' => e = .returned (.tuple #[.agg #[.int .i64 y, .int .i64 (k : Int), .int .i64 d, .int .i64 (hrS (s - beginS f n D)), .int .i64 (mnS (s - beginS f n D)), .int .i64 (scS (s - beginS f n D))], .int .i64 0]) ∧ Below w.heap.size w w' := by
  obtain ⟨ht, hi⟩ := knownE_zero hk
  have HT := tab_ok ht
  obtain ⟨hx, hr, A0⟩ := dts_start w b u n c p
  obtain ⟨x0, x1, x2⟩ := hx
  have HR := Lib.hid hr
  have H := Lib.hid (ofDate_dt b u s n c p f y (k : Int) d (hrS (s - beginS f n D)) (mnS (s - beginS f n D)) (scS (s - beginS f n D)) _ (hw.below A0) (hs.below A0) hc hcm ht hi (fun mb X hX hl hm => wdate_any HT hD hci c p mb X hX hl hc hcm))
  have A0 := Lib.hid A0
  clear hw hs hk ht hi HT hr
  obtain ⟨hh, hhe⟩ : ∃ hh, hrS (s - beginS f n D) = hh := ⟨_, rfl⟩
  obtain ⟨mi, hmi⟩ : ∃ mi, mnS (s - beginS f n D) = mi := ⟨_, rfl⟩
  obtain ⟨sc, hsc⟩ : ∃ sc, scS (s - beginS f n D) = sc := ⟨_, rfl⟩
  rw [hhe, hmi, hsc] at H ⊢
  clear hhe hmi hsc
  go_enter Tryd.func12, Tryd.ntmps12
  go_upto_region 1 with fail
  generalize (w.alloc (.cells #[.int .i64 b, .slice p n c, .int .i64 u] 24)).alloc (.cells #[.int .i64 0, .int .i64 0, .int .i64 0, .int .i64 0, .int .i64 0, .int .i64 0] 29) = W1 at *
  have zx := cell_lt x0
  go_wp2_with fail
  refine H.out.mono ?_
  rintro e w2 ⟨rfl, hb2⟩
  have HB2 := Lib.hid hb2
  clear hb2 x0 x1 x2 zx
  obtain ⟨⟨q0, r0⟩, ⟨q1, r1⟩, ⟨q2, r2⟩, ⟨q3, r3⟩, ⟨q4, r4⟩, ⟨q5, r5⟩, rz⟩ := HR.out.below HB2.out
  have z0 := rz 0
  have z1 := rz 1
  have z2 := rz 2
  have z3 := rz 3
  have z4 := rz 4
  have z5 := rz 5
  have zr := cell_lt r0
  clear rz
  go_wp2
  refine bodyPost_ret (v := .tuple #[.agg #[.int .i64 y, .int .i64 (k : Int), .int .i64 d, .int .i64 hh, .int .i64 mi, .int .i64 sc], .int .i64 0]) (by simp [results, Tryd.results12, go_sem, r0, r1, r2, r3, r4, r5]) rfl ⟨rfl, ?_⟩
  exact (((((((bt A0.out HB2.out).setCell (p := ⟨w.heap.size + 1, _, none⟩) (Nat.le_succ _) _).setCell (p := ⟨w.heap.size + 1, _, none⟩) (Nat.le_succ _) _).setCell (p := ⟨w.heap.size + 1, _, none⟩) (Nat.le_succ _) _).setCell (p := ⟨w.heap.size + 1, _, none⟩) (Nat.le_succ _) _).setCell (p := ⟨w.heap.size + 1, _, none⟩) (Nat.le_succ _) _).setCell (p := ⟨w.heap.size + 1, _, none⟩) (Nat.le_succ _) _)
set_option maxHeartbeats 2000000 in
theorem Dates_no {b u : Int} {n : Nat} {f : Nat → Int × Int} {s : Int} (hk : knownE b u n f s ≠ 0) (c : Nat) (p : Option Addr) (w : World) (hw : Mon w) (hs : LpIn w f n p) (hn : n ≤ 1000000000000) (hc : n ≤ c) (hcm : c ≤ maxLen) :
    Calls Tryd.prog 12 #[.agg #[.int .i64 b, .slice p n c, .int .i64 u], .int .i64 s] w fun e w' => e = .returned (.tuple #[.agg #[.int .i64 0, .int .i64 0, .int .i64 0, .int .i64 0, .int .i64 0, .int .i64 0], .int .i64 (knownE b u n f s)]) ∧ Below w.heap.size w w' := by
  obtain ⟨hx, hr, A0⟩ := dts_start w b u n c p
  obtain ⟨x0, x1, x2⟩ := hx
  have HR := Lib.hid hr
  have H : Calls Tryd.prog 43 #[.agg #[.int .i64 b, .slice p n c, .int .i64 u], .int .i64 s, .func (.func 44) #[] #[]] ((w.alloc (.cells #[.int .i64 b, .slice p n c, .int .i64 u] 24)).alloc (.cells #[.int .i64 0, .int .i64 0, .int .i64 0, .int .i64 0, .int .i64 0, .int .i64 0] 29)) fun e w' => e = .returned (.tuple #[.agg #[.int .i64 0, .int .i64 0, .int .i64 0, .int .i64 0, .int .i64 0, .int .i64 0], .int .i64 (knownE b u n f s)]) ∧ Below ((w.alloc (.cells #[.int .i64 b, .slice p n c, .int .i64 u] 24)).alloc (.cells #[.int .i64 0, .int .i64 0, .int .i64 0, .int .i64 0, .int .i64 0, .int .i64 0] 29)).heap.size ((w.alloc (.cells #[.int .i64 b, .slice p n c, .int .i64 u] 24)).alloc (.cells #[.int .i64 0, .int .i64 0, .int .i64 0, .int .i64 0, .int .i64 0, .int .i64 0] 29)) w' := by
    unfold knownE at hk ⊢
    by_cases ht : tabE b u n f = 0
    · rw [if_pos ht] at hk ⊢
      by_cases hi : inB s (beginS f n u) = true
      · rw [if_pos hi] at hk; exact absurd rfl hk
      · rw [if_neg hi]
        exact ofDate_rng _ b u s n c p f _ (hw.below A0) (hs.below A0) hc hcm ht (by simpa using hi)
    · rw [if_neg ht]
      exact ofDate_tab _ b u s n c p f _ (hw.below A0) (hs.below A0) hn ht
  have H := Lib.hid H
  have A0 := Lib.hid A0
  obtain ⟨vv, hvv⟩ : ∃ vv, knownE b u n f s = vv := ⟨_, rfl⟩
  rw [hvv] at H ⊢
  clear hw hs hk hvv hr
  go_enter Tryd.func12, Tryd.ntmps12
  go_upto_region 1 with fail
  generalize (w.alloc (.cells #[.int .i64 b, .slice p n c, .int .i64 u] 24)).alloc (.cells #[.int .i64 0, .int .i64 0, .int .i64 0, .int .i64 0, .int .i64 0, .int .i64 0] 29) = W1 at *
  have zx := cell_lt x0
  go_wp2_with fail
  refine H.out.mono ?_
  rintro e w2 ⟨rfl, hb2⟩
  have HB2 := Lib.hid hb2
  clear hb2 x0 x1 x2 zx
  obtain ⟨⟨q0, r0⟩, ⟨q1, r1⟩, ⟨q2, r2⟩, ⟨q3, r3⟩, ⟨q4, r4⟩, ⟨q5, r5⟩, rz⟩ := HR.out.below HB2.out
  have z0 := rz 0
  have z1 := rz 1
  have z2 := rz 2
  have z3 := rz 3
  have z4 := rz 4
  have z5 := rz 5
  have zr := cell_lt r0
  clear rz
  go_wp2
  refine bodyPost_ret (v := .tuple #[.agg #[.int .i64 0, .int .i64 0, .int .i64 0, .int .i64 0, .int .i64 0, .int .i64 0], .int .i64 vv]) (by simp [results, Tryd.results12, go_sem, r0, r1, r2, r3, r4, r5]) rfl ⟨rfl, ?_⟩
  exact (((((((bt A0.out HB2.out).setCell (p := ⟨w.heap.size + 1, _, none⟩) (Nat.le_succ _) _).setCell (p := ⟨w.heap.size + 1, _, none⟩) (Nat.le_succ _) _).setCell (p := ⟨w.heap.size + 1, _, none⟩) (Nat.le_succ _) _).setCell (p := ⟨w.heap.size + 1, _, none⟩) (Nat.le_succ _) _).setCell (p := ⟨w.heap.size + 1, _, none⟩) (Nat.le_succ _) _).setCell (p := ⟨w.heap.size + 1, _, none⟩) (Nat.le_succ _) _)
theorem Seconds_tab {b u : Int} {n : Nat} {f : Nat → Int × Int} (ht : tabE b u n f ≠ 0) (y m d h mi s : Int) (c : Nat) (p : Option Addr) (w : World) (hw : Mon w) (hs : LpIn w f n p) (hn : n ≤ 1000000000000) :
    Calls Tryd.prog 28 #[.agg #[.int .i64 b, .slice p n c, .int .i64 u], .agg #[.int .i64 y, .int .i64 m, .int .i64 d, .int .i64 h, .int .i64 mi, .int .i64 s]] w fun e w' => e = .returned (.tuple #[.int .i64 0, .int .i64 (tabE b u n f)]) ∧ Below w.heap.size w w' := by
  obtain ⟨hx, hy, hb⟩ := td_start w b u n c p y m d h mi s
  unfold tdW at hx hy hb
  obtain ⟨x0, x1, x2⟩ := hx
  have HOP := Lib.hid (open_no b u n c p f _ (hw.below hb) (hs.below hb) hn ht)
  have A0 := Lib.hid hb
  obtain ⟨er, her⟩ : ∃ er, tabE b u n f = er := ⟨_, rfl⟩
  rw [her] at ht HOP ⊢
  have hne : (er == 0) = false := by simpa using ht
  clear hw hs her ht hb hy
  go_enter Tryd.func28, Tryd.ntmps28
  go_upto_region 1 with fail
  generalize (w.alloc (.cells #[.int .i64 b, .slice p n c, .int .i64 u] 24)).alloc (.cells #[.int .i64 y, .int .i64 m, .int .i64 d, .int .i64 h, .int .i64 mi, .int .i64 s] 29) = W1 at *
  have zx := cell_lt x0
  go_wp2_with (go_at_call 45; refine HOP.out.mono ?_; rintro e w2 ⟨rfl, hb2⟩; have HB2 := Lib.hid hb2; clear hb2)
  go_ret2
  exact ⟨rfl, below_alloc (bt A0.out HB2.out) _⟩
set_option maxHeartbeats 2000000 in
theorem Seconds_mom {b u : Int} {n : Nat} {f : Nat → Int × Int} (ht : tabE b u n f = 0) (y m d h mi s : Int) (hm : momB y m d h mi s = false) (c : Nat) (p : Option Addr) (w : World) (hw : Mon w) (hs : LpIn w f n p) :
    Calls Tryd.prog 28 #[.agg #[.int .i64 b, .slice p n c, .int .i64 u], .agg #[.int .i64 y, .int .i64 m, .int .i64 d, .int .i64 h, .int .i64 mi, .int .i64 s]] w fun e w' => e = .returned (.tuple #[.int .i64 0, .int .i64 90]) ∧ Below w.heap.size w w' := by
  obtain ⟨hx, hy, hb⟩ := td_start w b u n c p y m d h mi s
  unfold tdW at hx hy hb
  obtain ⟨x0, x1, x2⟩ := hx
  have HY := Lib.hid hy
  have HTO := Lib.hid (tab_ok ht)
  have HW := Lib.hid (hw.below hb)
  have HOP := Lib.hid (open_ok b u n c p f _ (hw.below hb) (hs.below hb) (by have := HTO.out.n1; omega) ht)
  have HMO := Lib.hid (fun X (hX : Mon X) => dmoment_no y m d h mi s X hX hm)
  have A0 := Lib.hid hb
  clear hw hs ht hb hy hm
  go_enter Tryd.func28, Tryd.ntmps28
  go_upto_region 1 with fail
  generalize (w.alloc (.cells #[.int .i64 b, .slice p n c, .int .i64 u] 24)).alloc (.cells #[.int .i64 y, .int .i64 m, .int .i64 d, .int .i64 h, .int .i64 mi, .int .i64 s] 29) = W1 at *
  have zx := cell_lt x0
  go_upto_region 2 with (go_at_call 45; refine HOP.out.mono ?_; rintro e w2 ⟨mb, rfl, hM, hb2⟩; have HM := Lib.hid hM; have HB2 := Lib.hid hb2; clear hM hb2)
  clear x0 x1 x2 zx
  have hb3 := below_alloc (Below.refl w2.heap.size w2) (.cells #[.int .i64 b, .slice p n c, .int .i64 u, .map (some mb)] 95)
  have HX := Lib.hid (WBox.new w2 b u n c p mb)
  have HM3 := Lib.hid (HM.out.below hb3)
  have HB3 := Lib.hid (bt HB2.out hb3)
  clear hb3
  generalize w2.alloc (.cells #[.int .i64 b, .slice p n c, .int .i64 u, .map (some mb)] 95) = W3 at *
  obtain ⟨y0, y1, y2, y3, y4, y5⟩ := HY.out.below HB3.out
  have zy := cell_lt y0
  have HMC := Lib.hid (HMO.out W3 (HW.out.below HB3.out))
  go_wp2_with (go_at_call 46; refine HMC.out.mono ?_; rintro e w4 ⟨rfl, hb4⟩; have HB4 := Lib.hid hb4; clear hb4)
  go_ret2
  exact ⟨rfl, below_alloc (bt (bt A0.out HB3.out) HB4.out) _⟩
set_option maxHeartbeats 2000000 in
theorem Seconds_has {b u : Int} {n : Nat} {f : Nat → Int × Int} (ht : tabE b u n f = 0) {y : Int} {k : Nat} {d : Int} (hd : IsDate y k d) (h mi s : Int) (hh : tB h = true) (hmi : miB mi = true) (hsb : sB s = true) (hn : hasB u f n (1440 * dayN y k d + 60 * h + mi) s = false) (c : Nat) (p : Option Addr) (w : World) (hw : Mon w) (hs : LpIn w f n p) :
    Calls Tryd.prog 28 #[.agg #[.int .i64 b, .slice p n c, .int .i64 u], .agg #[.int .i64 y, .int .i64 (k : Int), .int .i64 d, .int .i64 h, .int .i64 mi, .int .i64 s]] w fun e w' => e = .returned (.tuple #[.int .i64 0, .int .i64 90]) ∧ Below w.heap.size w w' := by
  obtain ⟨hx, hy, hb⟩ := td_start w b u n c p y (k : Int) d h mi s
  unfold tdW at hx hy hb
  obtain ⟨x0, x1, x2⟩ := hx
  have HY := Lib.hid hy
  have HTO := Lib.hid (tab_ok ht)
  have HW := Lib.hid (hw.below hb)
  have HOP := Lib.hid (open_ok b u n c p f _ (hw.below hb) (hs.below hb) (by have := HTO.out.n1; omega) ht)
  have hnb := hd.civ.n_bd
  have hmb : (0 ≤ h ∧ h ≤ 23) ∧ (0 ≤ mi ∧ mi ≤ 59) := by unfold tB at hh; unfold miB at hmi; simp at hh hmi; omega
  have HBD := Lib.hid (show -200000000000000000 ≤ 1440 * dayN y k d + 60 * h + mi ∧ 1440 * dayN y k d + 60 * h + mi ≤ 200000000000000000 by omega)
  have HMO := Lib.hid (fun X (hX : Mon X) => dmoment_ok h mi s X hX hd hh hmi hsb)
  have HHA := Lib.hid hn
  have A0 := Lib.hid hb
  clear hw hs ht hb hy hn hnb hmb hd hh hmi hsb
  obtain ⟨t, hte⟩ : ∃ t, 1440 * dayN y k d + 60 * h + mi = t := ⟨_, rfl⟩
  rw [hte] at HMO HHA HBD
  clear hte
  go_enter Tryd.func28, Tryd.ntmps28
  go_upto_region 1 with fail
  generalize (w.alloc (.cells #[.int .i64 b, .slice p n c, .int .i64 u] 24)).alloc (.cells #[.int .i64 y, .int .i64 (k : Int), .int .i64 d, .int .i64 h, .int .i64 mi, .int .i64 s] 29) = W1 at *
  have zx := cell_lt x0
  go_upto_region 2 with (go_at_call 45; refine HOP.out.mono ?_; rintro e w2 ⟨mb, rfl, hM, hb2⟩; have HM := Lib.hid hM; have HB2 := Lib.hid hb2; clear hM hb2)
  clear x0 x1 x2 zx
  have hb3 := below_alloc (Below.refl w2.heap.size w2) (.cells #[.int .i64 b, .slice p n c, .int .i64 u, .map (some mb)] 95)
  have HX := Lib.hid (WBox.new w2 b u n c p mb)
  have HM3 := Lib.hid (HM.out.below hb3)
  have HB3 := Lib.hid (bt HB2.out hb3)
  clear hb3
  generalize w2.alloc (.cells #[.int .i64 b, .slice p n c, .int .i64 u, .map (some mb)] 95) = W3 at *
  obtain ⟨y0, y1, y2, y3, y4, y5⟩ := HY.out.below HB3.out
  have zy := cell_lt y0
  have HMC := Lib.hid (HMO.out W3 (HW.out.below HB3.out))
  go_upto_region 5 with (go_at_call 46; refine HMC.out.mono ?_; rintro e w4 ⟨rfl, hb4⟩; have HB4 := Lib.hid hb4; clear hb4)
  clear y0 y1 y2 y3 y4 y5 zy
  have hb5 := below_alloc (Below.refl w4.heap.size w4) (.cells #[.int .i64 t, .int .i64 s] 88)
  obtain ⟨y0, y1⟩ := MBox.new w4 t s
  have HX5 := Lib.hid ((HX.out.below HB4.out).below hb5)
  have HM5 := Lib.hid ((HM3.out.below HB4.out).below hb5)
  have HB5 := Lib.hid (bt (bt HB3.out HB4.out) hb5)
  clear hb5
  generalize w4.alloc (.cells #[.int .i64 t, .int .i64 s] 88) = W5 at *
  obtain ⟨⟨x0, x1, x2⟩, x3⟩ := HX5.out
  have zx := cell_lt x0
  have zy := cell_lt y0
  have HHC := Lib.hid (has_any HTO.out t s c p mb W5 HM5.out HBD.out)
  rw [HHA.out] at HHC
  go_wp2_with (go_at_call 66; refine HHC.out.mono ?_; rintro e w6 ⟨rfl, hb6⟩; have HB6 := Lib.hid hb6; clear hb6)
  go_ret2
  exact ⟨rfl, bt (bt A0.out HB5.out) HB6.out⟩
end Go.Proofs.YtklhepgpepfgjaaDoor.Cal
