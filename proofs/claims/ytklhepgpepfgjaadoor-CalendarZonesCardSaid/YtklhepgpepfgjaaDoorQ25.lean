/- Layer 9 (calendar): ofSecond at moments; later. (by gen_kb.py) -/
import Derived.Test.YtklhepgpepfgjaaDoorQ22
import Derived.Test.YtklhepgpepfgjaaDoorQ09
namespace Go.Proofs.YtklhepgpepfgjaaDoor.Cal
open Go Go.RowKit
attribute [local go_sem] Oper.semAt_some
theorem ofm_start (w : World) (b u : Int) (n c : Nat) (p : Option Addr) : TBox (((w.alloc (.cells #[.int .i64 b, .slice p n c, .int .i64 u] 24)).alloc (.cells #[.int .i64 0, .int .i64 0] 88)).alloc (.cells #[.int .i64 0, .int .i64 0] 88)) w.heap.size b u n c p ∧ Res2 (((w.alloc (.cells #[.int .i64 b, .slice p n c, .int .i64 u] 24)).alloc (.cells #[.int .i64 0, .int .i64 0] 88)).alloc (.cells #[.int .i64 0, .int .i64 0] 88)) (w.heap.size + 1) ∧ MBox (((w.alloc (.cells #[.int .i64 b, .slice p n c, .int .i64 u] 24)).alloc (.cells #[.int .i64 0, .int .i64 0] 88)).alloc (.cells #[.int .i64 0, .int .i64 0] 88)) (w.heap.size + 1 + 1) 0 0 ∧ Below w.heap.size w (((w.alloc (.cells #[.int .i64 b, .slice p n c, .int .i64 u] 24)).alloc (.cells #[.int .i64 0, .int .i64 0] 88)).alloc (.cells #[.int .i64 0, .int .i64 0] 88)) := by
  have b1 := below_alloc (Below.refl w.heap.size w) (.cells #[.int .i64 b, .slice p n c, .int .i64 u] 24)
  have h1 := TBox.new w b u n c p 24
  have e1 : (w.alloc (.cells #[.int .i64 b, .slice p n c, .int .i64 u] 24)).heap.size = w.heap.size + 1 := by simp
  generalize w.alloc (.cells #[.int .i64 b, .slice p n c, .int .i64 u] 24) = W1 at *
  have b2 := below_alloc (Below.refl W1.heap.size W1) (.cells #[.int .i64 0, .int .i64 0] 88)
  have h2 := Res2.new W1 (.int .i64 0) (.int .i64 0) 88
  have e2 : (W1.alloc (.cells #[.int .i64 0, .int .i64 0] 88)).heap.size = w.heap.size + 1 + 1 := by simp [e1]
  rw [e1] at h2
  have h1' := h1.below b2
  have b2' := bt b1 b2
  generalize W1.alloc (.cells #[.int .i64 0, .int .i64 0] 88) = W2 at *
  have b3 := below_alloc (Below.refl W2.heap.size W2) (.cells #[.int .i64 0, .int .i64 0] 88)
  have h3 := MBox.new W2 0 0
  rw [e2] at h3
  exact ⟨h1'.below b3, h2.below b3, h3, bt b2' b3⟩

set_option maxHeartbeats 2000000 in
theorem ofMom_rng (fv : Value) (b u s : Int) (n c : Nat) (p : Option Addr) (f : Nat → Int × Int) (w : World) (hw : Mon w) (hs : LpIn w f n p) (hc : n ≤ c) (hcm : c ≤ maxLen) (ht : tabE b u n f = 0) (hd : inB s (beginS f n u) = false) :
    Calls Tryd.prog 36 #[.agg #[.int .i64 b, .slice p n c, .int .i64 u], .int .i64 s, fv] w fun e w' => e = .returned (.tuple #[.agg #[.int .i64 0, .int .i64 0], .int .i64 6]) ∧ Below w.heap.size w w' := by
  obtain ⟨hx0, hr0, hd0, A0⟩ := ofm_start w b u n c p
  have HX0 := Lib.hid hx0
  have HR0 := Lib.hid hr0
  have HD0 := Lib.hid hd0
  clear hx0 hr0 hd0
  have HTO := Lib.hid (tab_ok ht)
  have HOP := Lib.hid (open_ok b u n c p f _ (hw.below A0) (hs.below A0) (by have := HTO.out.n1; omega) ht)
  have HS := Lib.hid (hs.below A0)
  have HW := Lib.hid (hw.below A0)
  have A0 := Lib.hid A0
  have HD := Lib.hid hd
  unfold inB at HD
  have hub := HTO.out.total_bd
  clear hw hs ht hd
  go_enter Tryd.func36, Tryd.ntmps36
  go_upto_region 2 with fail
  generalize ((w.alloc (.cells #[.int .i64 b, .slice p n c, .int .i64 u] 24)).alloc (.cells #[.int .i64 0, .int .i64 0] 88)).alloc (.cells #[.int .i64 0, .int .i64 0] 88) = W1 at *
  obtain ⟨x0, x1, x2⟩ := HX0.out
  have zx := cell_lt x0
  go_upto_region 5 with (go_at_call 45; refine HOP.out.mono ?_; rintro e w2 ⟨mb, rfl, hM, hb2⟩; have HM := Lib.hid hM; have HB2 := Lib.hid hb2; clear hM hb2)
  clear x0 x1 x2 zx
  have hb3 := below_alloc (Below.refl w2.heap.size w2) (.cells #[.int .i64 b, .slice p n c, .int .i64 u, .map (some mb)] 95)
  have HB3 := Lib.hid (bt HB2.out hb3)
  have HX := Lib.hid (WBox.new w2 b u n c p mb)
  have HM3 := Lib.hid (HM.out.below hb3)
  have HS3 := Lib.hid (HS.out.below HB3.out)
  have HW3 := Lib.hid (HW.out.below HB3.out)
  clear hb3
  generalize w2.alloc (.cells #[.int .i64 b, .slice p n c, .int .i64 u, .map (some mb)] 95) = W3 at *
  obtain ⟨⟨x0, x1, x2⟩, x3⟩ := HX.out
  have zx := cell_lt x0
  have HTL := Lib.hid (total_any HTO.out c p W3 HS3.out hc hcm)
  have HIX := Lib.hid (fun X => index_any s (beginS f n u) X (by omega))
  rw [HD.out] at HIX
  generalize beginS f n u = tot at *
  go_upto_region 6 with (first | (go_at_call 33; refine HTL.out.mono ?_; rintro e w4 ⟨rfl, hb4⟩; have HB4 := Lib.hid hb4; clear hb4) | (go_at_call 74; refine (HIX.out _).mono ?_; rintro e w5 ⟨rfl, rfl⟩))
  obtain ⟨⟨q0, r0⟩, ⟨q1, r1⟩, rz⟩ := HR0.out.below (bt HB3.out HB4.out)
  have z0 := rz 0
  have z1 := rz 1
  have zr := cell_lt r0
  clear rz
  obtain ⟨d0, d1⟩ := HD0.out.below (bt HB3.out HB4.out)
  have zd := cell_lt d0
  go_wp2
  refine bodyPost_ret (v := .tuple #[.agg #[.int .i64 0, .int .i64 0], .int .i64 6]) (by simp [results, Tryd.results36, go_sem, r0, r1]) rfl ⟨rfl, ?_⟩
  exact ((bt (bt A0.out HB3.out) HB4.out).setCell (p := ⟨w.heap.size + 1, _, none⟩) (Nat.le_succ _) _).setCell (p := ⟨w.heap.size + 1, _, none⟩) (Nat.le_succ _) _
set_option maxHeartbeats 2000000 in
theorem ofMom_mt (b u s : Int) (n c : Nat) (p : Option Addr) (f : Nat → Int × Int) (v0 v1 : Int) (w : World) (hw : Mon w) (hs : LpIn w f n p) (hc : n ≤ c) (hcm : c ≤ maxLen) (ht : tabE b u n f = 0) (hd : inB s (beginS f n u) = true) (hf : FOk 37 b u n c p f s (.agg #[.int .i64 v0, .int .i64 v1])) :
    Calls Tryd.prog 36 #[.agg #[.int .i64 b, .slice p n c, .int .i64 u], .int .i64 s, .func (.func 37) #[] #[]] w fun e w' => e = .returned (.tuple #[.agg #[.int .i64 v0, .int .i64 v1], .int .i64 0]) ∧ Below w.heap.size w w' := by
  have HF := Lib.hid hf
  clear hf
  obtain ⟨hx0, hr0, hd0, A0⟩ := ofm_start w b u n c p
  have HX0 := Lib.hid hx0
  have HR0 := Lib.hid hr0
  have HD0 := Lib.hid hd0
  clear hx0 hr0 hd0
  have HTO := Lib.hid (tab_ok ht)
  have HOP := Lib.hid (open_ok b u n c p f _ (hw.below A0) (hs.below A0) (by have := HTO.out.n1; omega) ht)
  have HS := Lib.hid (hs.below A0)
  have HW := Lib.hid (hw.below A0)
  have A0 := Lib.hid A0
  have HD := Lib.hid hd
  unfold inB at HD
  have hub := HTO.out.total_bd
  clear hw hs ht hd
  go_enter Tryd.func36, Tryd.ntmps36
  go_upto_region 2 with fail
  generalize ((w.alloc (.cells #[.int .i64 b, .slice p n c, .int .i64 u] 24)).alloc (.cells #[.int .i64 0, .int .i64 0] 88)).alloc (.cells #[.int .i64 0, .int .i64 0] 88) = W1 at *
  obtain ⟨x0, x1, x2⟩ := HX0.out
  have zx := cell_lt x0
  go_upto_region 5 with (go_at_call 45; refine HOP.out.mono ?_; rintro e w2 ⟨mb, rfl, hM, hb2⟩; have HM := Lib.hid hM; have HB2 := Lib.hid hb2; clear hM hb2)
  clear x0 x1 x2 zx
  have hb3 := below_alloc (Below.refl w2.heap.size w2) (.cells #[.int .i64 b, .slice p n c, .int .i64 u, .map (some mb)] 95)
  have HB3 := Lib.hid (bt HB2.out hb3)
  have HX := Lib.hid (WBox.new w2 b u n c p mb)
  have HM3 := Lib.hid (HM.out.below hb3)
  have HS3 := Lib.hid (HS.out.below HB3.out)
  have HW3 := Lib.hid (HW.out.below HB3.out)
  clear hb3
  generalize w2.alloc (.cells #[.int .i64 b, .slice p n c, .int .i64 u, .map (some mb)] 95) = W3 at *
  obtain ⟨⟨x0, x1, x2⟩, x3⟩ := HX.out
  have zx := cell_lt x0
  have HTL := Lib.hid (total_any HTO.out c p W3 HS3.out hc hcm)
  have HIX := Lib.hid (fun X => index_any s (beginS f n u) X (by omega))
  rw [HD.out] at HIX
  generalize beginS f n u = tot at *
  go_upto_region 7 with (first | (go_at_call 33; refine HTL.out.mono ?_; rintro e w4 ⟨rfl, hb4⟩; have HB4 := Lib.hid hb4; clear hb4) | (go_at_call 74; refine (HIX.out _).mono ?_; rintro e w5 ⟨rfl, rfl⟩))
  clear x0 x1 x2 x3 zx
  obtain ⟨⟨x0, x1, x2⟩, x3⟩ := HX.out.below HB4.out
  have zx := cell_lt x0
  have HG := Lib.hid (HF.out mb w4 (HW3.out.below HB4.out) (HS3.out.below HB4.out) (HM3.out.below HB4.out))
  go_wp2_with fail
  refine HG.out.mono ?_
  rintro e w5 ⟨rfl, hb5⟩
  have HB5 := Lib.hid hb5
  clear hb5 x0 x1 x2 x3 zx
  obtain ⟨⟨q0, r0⟩, ⟨q1, r1⟩, rz⟩ := HR0.out.below (bt (bt HB3.out HB4.out) HB5.out)
  have z0 := rz 0
  have z1 := rz 1
  have zr := cell_lt r0
  clear rz
  go_wp2
  refine bodyPost_ret (v := .tuple #[.agg #[.int .i64 v0, .int .i64 v1], .int .i64 0]) (by simp [results, Tryd.results36, go_sem, r0, r1]) rfl ⟨rfl, ?_⟩
  exact ((bt (bt (bt A0.out HB3.out) HB4.out) HB5.out).setCell (p := ⟨w.heap.size + 1, _, none⟩) (Nat.le_succ _) _).setCell (p := ⟨w.heap.size + 1, _, none⟩) (Nat.le_succ _) _
end Go.Proofs.YtklhepgpepfgjaaDoor.Cal
