/- Layer 9 (calendar): the Unix seconds of a second. (by gen_fj.py) -/
import Derived.Test.YtjdpdabafbbfaaaDoorDw
namespace Go.Proofs.YtjdpdabafbbfaaaDoor.Cal
open Go Go.RowKit
attribute [local go_sem] Oper.semAt_some
theorem wunix_any {b u : Int} {n : Nat} {f : Nat → Int × Int} (ht : TabOk b u n f) {s D : Int} (hD : IsDayOf u n f s D) (c : Nat) (p : Option Addr) (mb : Nat) (w : World) (hs : LpIn w f n p) (hc : n ≤ c) (hcm : c ≤ maxLen) :
    Calls Tryd.prog 28 #[.agg #[.int .i64 b, .slice p n c, .int .i64 u, .map (some mb)], .int .i64 s] w fun e w' => e = .returned (.int .i64 (86400 * (D - 40587) + (s - beginS f n D))) ∧ Below w.heap.size w w' := by
  have A0 := below_alloc (Below.refl w.heap.size w) (.cells #[.int .i64 b, .slice p n c, .int .i64 u, .map (some mb)] 77)
  obtain ⟨⟨x0, x1, x2⟩, x3⟩ := WBox.new w b u n c p mb
  have HM := Lib.hid (wmoment_any ht hD c p mb _ (hs.below A0) hc hcm)
  have A0 := Lib.hid A0
  have hd1 := hD.d1; have hd2 := hD.d2; have hu2 := ht.u2
  have hrb := hD.rest_bd ht
  obtain ⟨r, hr⟩ : ∃ r, s - beginS f n D = r := ⟨_, rfl⟩
  rw [hr] at HM hrb ⊢
  have hmb := minS_bd r hrb.1
  obtain ⟨mn, hmn⟩ : ∃ mn, minS r = mn := ⟨_, rfl⟩
  rw [hmn] at HM hmb
  have v1 : IntKind.i64.wrap (1440 * D + mn - 58445280) = 1440 * D + mn - 58445280 := IntWalk.i64_in _ (by omega)
  have v2 : IntKind.i64.wrap (60 * (1440 * D + mn - 58445280)) = 60 * (1440 * D + mn - 58445280) := IntWalk.i64_in _ (by omega)
  have v3 : IntKind.i64.wrap (60 * (1440 * D + mn - 58445280) + (r - 60 * mn)) = 60 * (1440 * D + mn - 58445280) + (r - 60 * mn) := IntWalk.i64_in _ (by omega)
  have HV := Lib.hid (show 60 * (1440 * D + mn - 58445280) + (r - 60 * mn) = 86400 * (D - 40587) + r by omega)
  clear hs hd1 hd2 hu2 hrb hr hmb hmn ht hD
  go_enter Tryd.func28, Tryd.ntmps28
  go_upto_region 1 with fail
  generalize w.alloc (.cells #[.int .i64 b, .slice p n c, .int .i64 u, .map (some mb)] 77) = W1 at *
  have zx := cell_lt x0
  go_upto_region 2 with (go_at_call 60; refine HM.out.mono ?_; rintro e w2 ⟨rfl, hb2⟩; have HB2 := Lib.hid hb2; clear hb2)
  have HB3 := Lib.hid (below_alloc (Below.refl w2.heap.size w2) (.cells #[.int .i64 (1440 * D + mn), .int .i64 (r - 60 * mn)] 85))
  go_wp2_with fail
  go_ret
  exact ⟨ret_i64 HV.out, bt (bt A0.out HB2.out) HB3.out⟩
set_option maxHeartbeats 2000000 in
theorem ofInt_un (b u s : Int) (n c : Nat) (p : Option Addr) (f : Nat → Int × Int) (v : Int) (w : World) (hw : Mon w) (hs : LpIn w f n p) (hc : n ≤ c) (hcm : c ≤ maxLen) (ht : tabE b u n f = 0) (hd : inB s (beginS f n u) = true) (hf : FOk 28 b u n c p f s (.int .i64 v)) :
    Calls Tryd.prog 27 #[.agg #[.int .i64 b, .slice p n c, .int .i64 u], .int .i64 s, .func (.func 28) #[] #[]] w fun e w' => e = .returned (.tuple #[.int .i64 v, .int .i64 0]) ∧ Below w.heap.size w w' := by
  have HF := Lib.hid hf
  clear hf
  have A0 := below_alloc (Below.refl w.heap.size w) (.cells #[.int .i64 b, .slice p n c, .int .i64 u] 24)
  have HX0 := Lib.hid (TBox.new w b u n c p 24)
  have HTO := Lib.hid (tab_ok ht)
  have HOP := Lib.hid (open_ok b u n c p f _ (hw.below A0) (hs.below A0) (by have := HTO.out.n1; omega) ht)
  have HS := Lib.hid (hs.below A0)
  have HW := Lib.hid (hw.below A0)
  have A0 := Lib.hid A0
  have HD := Lib.hid hd
  unfold inB at HD
  have hub := HTO.out.total_bd
  clear hw hs ht hd
  go_enter Tryd.func27, Tryd.ntmps27
  go_upto_region 2 with fail
  generalize w.alloc (.cells #[.int .i64 b, .slice p n c, .int .i64 u] 24) = W1 at *
  obtain ⟨x0, x1, x2⟩ := HX0.out
  have zx := cell_lt x0
  go_upto_region 5 with (go_at_call 31; refine HOP.out.mono ?_; rintro e w2 ⟨mb, rfl, hM, hb2⟩; have HM := Lib.hid hM; have HB2 := Lib.hid hb2; clear hM hb2)
  clear x0 x1 x2 zx
  have hb3 := below_alloc (Below.refl w2.heap.size w2) (.cells #[.int .i64 b, .slice p n c, .int .i64 u, .map (some mb)] 77)
  have HB3 := Lib.hid (bt HB2.out hb3)
  have HX := Lib.hid (WBox.new w2 b u n c p mb)
  have HM3 := Lib.hid (HM.out.below hb3)
  have HS3 := Lib.hid (HS.out.below HB3.out)
  have HW3 := Lib.hid (HW.out.below HB3.out)
  clear hb3
  generalize w2.alloc (.cells #[.int .i64 b, .slice p n c, .int .i64 u, .map (some mb)] 77) = W3 at *
  obtain ⟨⟨x0, x1, x2⟩, x3⟩ := HX.out
  have zx := cell_lt x0
  have HTL := Lib.hid (total_any HTO.out c p W3 HS3.out hc hcm)
  have HIX := Lib.hid (fun X => index_any s (beginS f n u) X (by omega))
  rw [HD.out] at HIX
  generalize beginS f n u = tot at *
  go_upto_region 7 with (first | (go_at_call 48; refine HTL.out.mono ?_; rintro e w4 ⟨rfl, hb4⟩; have HB4 := Lib.hid hb4; clear hb4) | (go_at_call 42; refine (HIX.out _).mono ?_; rintro e w5 ⟨rfl, rfl⟩))
  clear x0 x1 x2 x3 zx
  obtain ⟨⟨x0, x1, x2⟩, x3⟩ := HX.out.below HB4.out
  have zx := cell_lt x0
  have HG := Lib.hid (HF.out mb w4 (HW3.out.below HB4.out) (HS3.out.below HB4.out) (HM3.out.below HB4.out))
  go_wp2_with fail
  refine HG.out.mono ?_
  rintro e w5 ⟨rfl, hb5⟩
  have HB5 := Lib.hid hb5
  clear hb5 x0 x1 x2 x3 zx
  go_wp2
  go_ret2
  exact ⟨rfl, bt (bt (bt A0.out HB3.out) HB4.out) HB5.out⟩
theorem Unix_ok {b u : Int} {n : Nat} {f : Nat → Int × Int} {s : Int} (hk : knownE b u n f s = 0) {D : Int} (hD : IsDayOf u n f s D) (c : Nat) (p : Option Addr) (w : World) (hw : Mon w) (hs : LpIn w f n p) (hc : n ≤ c) (hcm : c ≤ maxLen) :
    Calls Tryd.prog 7 #[.agg #[.int .i64 b, .slice p n c, .int .i64 u], .int .i64 s] w fun e w' => e = .returned (.tuple #[.int .i64 (86400 * (D - 40587) + (s - beginS f n D)), .int .i64 0]) ∧ Below w.heap.size w w' := by
  obtain ⟨ht, hi⟩ := knownE_zero hk
  have HT := tab_ok ht
  have hib := inB_bd hi
  have htb := HT.total_bd
  have A0 := below_alloc (Below.refl w.heap.size w) (.cells #[.int .i64 b, .slice p n c, .int .i64 u] 24)
  obtain ⟨x0, x1, x2⟩ := TBox.new w b u n c p 24
  have H := Lib.hid (ofInt_un b u s n c p f (86400 * (D - 40587) + (s - beginS f n D)) _ (hw.below A0) (hs.below A0) hc hcm ht hi (fun mb X hX hl hm => wunix_any HT hD c p mb X hl hc hcm))
  have A0 := Lib.hid A0
  obtain ⟨vv, hvv⟩ : ∃ vv, 86400 * (D - 40587) + (s - beginS f n D) = vv := ⟨_, rfl⟩
  rw [hvv] at H ⊢
  clear hw hs hk ht hi hib htb HT hvv
  go_enter Tryd.func7, Tryd.ntmps7
  go_upto_region 1 with fail
  generalize w.alloc (.cells #[.int .i64 b, .slice p n c, .int .i64 u] 24) = W1 at *
  have zx := cell_lt x0
  go_wp2_with (go_at_call 27; refine H.out.mono ?_; rintro e w2 ⟨rfl, hb2⟩; have HB2 := Lib.hid hb2; clear hb2)
  go_ret2
  exact ⟨rfl, bt A0.out HB2.out⟩
end Go.Proofs.YtjdpdabafbbfaaaDoor.Cal
