/- Stage 6 (steer): the statements' helpers; the chapter's examples (awake). -/
import Derived.Test.YtiapimfmnmegpaaZhl
namespace Go.Proofs.Ytiapimfmnmegpaa.St
open Go Go.RowKit Go.Shelf
attribute [local go_sem] Oper.semAt_some
set_option maxRecDepth 100000 in
set_option maxHeartbeats 2000000 in
theorem entries_yes (f : Nat → Int × Int) (n : Nat) (hn : n ≤ 9223372036854775806) (p p' : Option Addr) (c c' : Nat) (w : World) (h1 : LpIn w f n p) (h2 : LpIn w f n p') :
    Calls Try.prog 25 #[.slice p n c, .slice p' n c'] w fun e w' => e = .returned (.bool true) ∧ Below w.heap.size w w' := by
  have H1 := Lib.hid h1
  have H2 := Lib.hid h2
  clear h1 h2
  go_enter Try.func25, Try.ntmps25
  go_wp2
  go_loopw [5] (fun s5 wr => ∃ k : Nat, s5 = .int .i64 (k : Int) ∧ k ≤ n ∧ Hid (Below w.heap.size w wr)) (fun s _ => n - (intOf s).toNat)
  case atStart => exact ⟨0, rfl, Nat.zero_le _, Lib.hid (Below.refl _ _)⟩
  case round =>
    obtain ⟨k, rfl, hk, HB⟩ := hrel
    by_cases hlt : k < n
    · have hki : (k : Int) < n := by omega
      obtain ⟨b, o, rfl, hi⟩ := (H1.out.below HB.out).resolve_left (by omega)
      obtain ⟨b', o', rfl, hi'⟩ := (H2.out.below HB.out).resolve_left (by omega)
      obtain ⟨x0, x1⟩ := hi k hlt
      obtain ⟨y0, y1⟩ := hi' k hlt
      have zx := cell_lt x0
      have zy := cell_lt y0
      have HK := Lib.hid hlt
      have hk0 : (0 : Int) ≤ (k : Int) := by omega
      have vk : IntKind.i64.wrap ((k : Int) + 1) = ((k + 1 : Nat) : Int) := by rw [IntWalk.i64_in _ (by omega)]; omega
      clear hi hi' hlt
      generalize (f k).1 = fa at *
      generalize (f k).2 = fb at *
      go_upto_region 6 with fail
      go_region
      go_wp2
      go_roundw
      case rel => exact ⟨k + 1, rfl, HK.out, Lib.hid (Below.drew HB.out)⟩
      case measure => have := HK.out; simp [intOf]; omega
    · obtain rfl : k = n := by omega
      have hki : ¬ ((k : Int) < k) := by omega
      clear hlt
      go_wp2
      go_ret
      exact ⟨rfl, HB.out⟩
/-- what the chart has for a state -/
def lawV (l r s z e q : Int) : Int := atP l r (chartF l r s z) e q
theorem at_law {l r s z e q : Int} (hp : planB l r s z = true) (hh : hasP l r e q = true) (w : World) :
    Calls Try.prog 28 #[.agg #[.int .i64 l, .int .i64 r, .int .i64 s, .int .i64 z], .int .i64 e, .int .i64 q] w fun x w' => x = .returned (.int .i64 (lawV l r s z e q)) ∧ Below w.heap.size w w' := by
  have h := plan_ok hp
  have k1 : PlAt (w.alloc (.cells #[.int .i64 l, .int .i64 r, .int .i64 s, .int .i64 z] 27)) w.heap.size l r s z := World.alloc_heap_new w _
  have A0 := Lib.hid (below_alloc (Below.refl w.heap.size w) (.cells #[.int .i64 l, .int .i64 r, .int .i64 s, .int .i64 z] 27))
  have HCH := Lib.hid (fun W => Chart_ok hp W)
  have HIX := Lib.hid (fun W => Index_ok hp hh W)
  have HV := Lib.hid (show lawV l r s z e q = chartF l r s z (idxP l r e q).toNat from at_has hh)
  have hi := idx_bd h hh
  have hn := h.siz.n
  obtain ⟨k, hk⟩ : ∃ k : Nat, idxP l r e q = (k : Int) := ⟨(idxP l r e q).toNat, by omega⟩
  rw [hk] at HV HIX hi
  rw [Int.toNat_natCast] at HV
  rw [HV.out]
  have hkN : k < (sizP l r).toNat := by omega
  generalize (sizP l r).toNat = N at *
  generalize chartF l r s z = f at *
  have hkI : (k : Int) < N := by omega
  have hk0 : (0 : Int) ≤ k := by omega
  have hk1 : ¬ (k : Int) < 0 := by omega
  have hk2 : ¬ (N : Int) ≤ k := by omega
  clear h hp hh hi hn hk HV
  go_enter Try.func28, Try.ntmps28
  go_upto_region 2 with (go_at_call 12; refine (HCH.out _).mono ?_; rintro e w1 ⟨b, rfl, hn1, hb, hb1⟩)
  have HP1 := Lib.hid (k1.below hb1)
  have HN1 := Lib.hid hn1
  have HB1 := Lib.hid (bt A0.out hb1)
  obtain ⟨x0, x1, x2, x3⟩ := HP1.out.c
  have zx := cell_lt x0
  clear hn1 hb hb1 k1 HCH
  go_upto_region 3 with (go_at_call 10; refine (HIX.out _).mono ?_; rintro e w2 ⟨rfl, hb2⟩)
  have hn2 := HN1.out.below hb2
  have HB2 := Lib.hid (bt HB1.out hb2)
  have hc := (hn2.c k hkN).1
  rw [Nat.zero_add] at hc
  have zc := cell_lt hc
  clear hn2 hb2 x0 x1 x2 x3 zx
  go_wp2_with fail
  go_ret
  exact ⟨rfl, HB2.out⟩
theorem at_law2 (l r s z e q : Int) (hb : (planB l r s z && hasP l r e q) = true) (w : World) :
    Calls Try.prog 28 #[.agg #[.int .i64 l, .int .i64 r, .int .i64 s, .int .i64 z], .int .i64 e, .int .i64 q] w fun x w' => x = .returned (.int .i64 (lawV l r s z e q)) ∧ Below w.heap.size w w' := by
  rw [Bool.and_eq_true] at hb
  exact at_law hb.1 hb.2 w
theorem four_plans (w : World) : ∃ W0, (((w.alloc (.cells #[.int .i64 2, .int .i64 1, .int .i64 2, .int .i64 0] 27)).alloc (.cells #[.int .i64 2, .int .i64 1, .int .i64 2, .int .i64 1] 27)).alloc (.cells #[.int .i64 2, .int .i64 1, .int .i64 1, .int .i64 1] 27)).alloc (.cells #[.int .i64 2, .int .i64 1, .int .i64 1, .int .i64 2] 27) = W0 ∧
    (PlAt W0 w.heap.size 2 1 2 0 ∧ PlAt W0 (w.heap.size + 1) 2 1 2 1 ∧ PlAt W0 (w.heap.size + 1 + 1) 2 1 1 1 ∧ PlAt W0 (w.heap.size + 1 + 1 + 1) 2 1 1 2) ∧ Below w.heap.size w W0 := by
  refine ⟨_, rfl, ⟨?_, ?_, ?_, ?_⟩, below_alloc (below_alloc (below_alloc (below_alloc (Below.refl _ _) _) _) _) _⟩
  · exact heap_below (below_alloc (Below.refl _ _) _) (heap_below (below_alloc (Below.refl _ _) _) (heap_below (below_alloc (Below.refl _ _) _) (World.alloc_heap_new w _)))
  · unfold PlAt
    have := heap_below (below_alloc (Below.refl _ _) (.cells #[.int .i64 2, .int .i64 1, .int .i64 1, .int .i64 2] 27)) (heap_below (below_alloc (Below.refl _ _) (.cells #[.int .i64 2, .int .i64 1, .int .i64 1, .int .i64 1] 27)) (World.alloc_heap_new (w.alloc (.cells #[.int .i64 2, .int .i64 1, .int .i64 2, .int .i64 0] 27)) (.cells #[.int .i64 2, .int .i64 1, .int .i64 2, .int .i64 1] 27)))
    rwa [World.size_alloc] at this
  · unfold PlAt
    have := heap_below (below_alloc (Below.refl _ _) (.cells #[.int .i64 2, .int .i64 1, .int .i64 1, .int .i64 2] 27)) (World.alloc_heap_new ((w.alloc (.cells #[.int .i64 2, .int .i64 1, .int .i64 2, .int .i64 0] 27)).alloc (.cells #[.int .i64 2, .int .i64 1, .int .i64 2, .int .i64 1] 27)) (.cells #[.int .i64 2, .int .i64 1, .int .i64 1, .int .i64 1] 27))
    rwa [World.size_alloc, World.size_alloc] at this
  · unfold PlAt
    have := World.alloc_heap_new (((w.alloc (.cells #[.int .i64 2, .int .i64 1, .int .i64 2, .int .i64 0] 27)).alloc (.cells #[.int .i64 2, .int .i64 1, .int .i64 2, .int .i64 1] 27)).alloc (.cells #[.int .i64 2, .int .i64 1, .int .i64 1, .int .i64 1] 27)) (.cells #[.int .i64 2, .int .i64 1, .int .i64 1, .int .i64 2] 27)
    rwa [World.size_alloc, World.size_alloc, World.size_alloc] at this
set_option maxRecDepth 100000 in
set_option maxHeartbeats 8000000 in
theorem awake_any (w : World) : Calls Try.prog 9 #[] w fun e w' => e = .returned (.bool true) ∧ Below w.heap.size w w' := by
  obtain ⟨W0, hW0, ⟨g0, g1, g2, g3⟩, hB0⟩ := four_plans w
  have HX := Lib.hid (show ∀ X, Below W0.heap.size W0 X → PlC X w.heap.size 2 1 2 0 ∧ PlC X (w.heap.size + 1) 2 1 2 1 ∧ PlC X (w.heap.size + 1 + 1) 2 1 1 1 ∧ PlC X (w.heap.size + 1 + 1 + 1) 2 1 1 2 from fun X hX => ⟨(g0.below hX).c, (g1.below hX).c, (g2.below hX).c, (g3.below hX).c⟩)
  have HB0 := Lib.hid hB0
  have v1 : lawV 2 1 2 0 2 1 = 0 := by decide +kernel
  have v2 : lawV 2 1 2 0 (-2) 1 = 0 := by decide +kernel
  have v3 : lawV 2 1 2 1 2 0 = -1 := by decide +kernel
  have v4 : lawV 2 1 2 1 1 0 = 0 := by decide +kernel
  have v5 : lawV 2 1 2 1 (-2) 1 = 1 := by decide +kernel
  have v6 : lawV 2 1 1 1 2 1 = 1001 := by decide +kernel
  have v7 : lawV 2 1 1 2 0 0 = 1002 := by decide +kernel
  clear g0 g1 g2 g3 hB0
  go_enter Try.func9, Try.ntmps9
  go_upto_region 5 with fail
  clear hW0
  have HB := Lib.hid (Below.refl W0.heap.size W0)
  obtain ⟨⟨p00, p01, p02, p03⟩, ⟨p10, p11, p12, p13⟩, ⟨p20, p21, p22, p23⟩, ⟨p30, p31, p32, p33⟩⟩ := HX.out W0 (Below.refl _ _)
  have zp0 := cell_lt p00; have zp1 := cell_lt p10; have zp2 := cell_lt p20; have zp3 := cell_lt p30
  go_upto_region 7 with (go_at_call 28; refine (at_law2 _ _ _ _ _ _ ?_ _).mono ?_; exact rfl; rintro e w1 ⟨rfl, hb1⟩; clear p00 p01 p02 p03 p10 p11 p12 p13 p20 p21 p22 p23 p30 p31 p32 p33 zp0 zp1 zp2 zp3; have HB := Lib.hid (bt HB.out hb1); clear hb1; obtain ⟨⟨p00, p01, p02, p03⟩, ⟨p10, p11, p12, p13⟩, ⟨p20, p21, p22, p23⟩, ⟨p30, p31, p32, p33⟩⟩ := HX.out _ HB.out; have zp0 := cell_lt p00; have zp1 := cell_lt p10; have zp2 := cell_lt p20; have zp3 := cell_lt p30)
  have HWD := Lib.hid (fun W => (Widest_ok (l := 2) (r := 1) (s := 1) (z := 2) rfl W))
  rw [show widW 2 1 1 2 = 0 by decide +kernel] at HWD
  have HWB := Lib.hid (fun W => (Widest_ok (l := 2) (r := 1) (s := 2) (z := 1) rfl W))
  rw [show widW 2 1 2 1 = 3 by decide +kernel] at HWB
  have HHO := Lib.hid (fun p W (hp : NumIn W (fun i => if i = 1 then -1 else 1) 3 p) => Hold_ok (l := 2) (r := 1) (s := 2) (z := 1) (e := 2) (q := 0) rfl rfl (fun i => if i = 1 then -1 else 1) 3 3 p (by decide) (fun i hi => by split <;> decide) W hp (by decide +kernel))
  go_upto_region 8 with (go_at_call 17; refine (HWD.out _).mono ?_; rintro e w1 ⟨rfl, hb1⟩; clear p00 p01 p02 p03 p10 p11 p12 p13 p20 p21 p22 p23 p30 p31 p32 p33 zp0 zp1 zp2 zp3; have HB := Lib.hid (bt HB.out hb1); clear hb1; obtain ⟨⟨p00, p01, p02, p03⟩, ⟨p10, p11, p12, p13⟩, ⟨p20, p21, p22, p23⟩, ⟨p30, p31, p32, p33⟩⟩ := HX.out _ HB.out; have zp0 := cell_lt p00; have zp1 := cell_lt p10; have zp2 := cell_lt p20; have zp3 := cell_lt p30)
  go_upto_region 9 with (go_at_call 17; refine (HWB.out _).mono ?_; rintro e w1 ⟨rfl, hb1⟩; clear p00 p01 p02 p03 p10 p11 p12 p13 p20 p21 p22 p23 p30 p31 p32 p33 zp0 zp1 zp2 zp3; have HB := Lib.hid (bt HB.out hb1); clear hb1; obtain ⟨⟨p00, p01, p02, p03⟩, ⟨p10, p11, p12, p13⟩, ⟨p20, p21, p22, p23⟩, ⟨p30, p31, p32, p33⟩⟩ := HX.out _ HB.out; have zp0 := cell_lt p00; have zp1 := cell_lt p10; have zp2 := cell_lt p20; have zp3 := cell_lt p30)
  go_wp2_with fail
  have hba := below_alloc (Below.refl w1.heap.size w1) (.cells #[.int .i64 1, .int .i64 (-1), .int .i64 1] 3)
  have hni : NumIn (w1.alloc (.cells #[.int .i64 1, .int .i64 (-1), .int .i64 1] 3)) (fun i => if i = 1 then -1 else 1) 3 (some ⟨w1.heap.size, 0, none⟩) := .inr ⟨_, _, rfl, fun i hi => by
    rcases (by omega : i = 0 ∨ i = 1 ∨ i = 2) with rfl | rfl | rfl
    · simp
    · simp
    · simp⟩
  refine (HHO.out _ _ hni).mono ?_
  rintro e w3 ⟨⟨pr, cr, rfl, -, hlp⟩, hb3⟩
  have HB3 := Lib.hid (bt HB0.out (bt HB.out (bt hba hb3)))
  clear p00 p01 p02 p03 p10 p11 p12 p13 p20 p21 p22 p23 p30 p31 p32 p33 zp0 zp1 zp2 zp3 hni hba hb3
  have HEN := Lib.hid (fun p' W (h2 : LpIn W (fun i => hst 2 1 (chartF 2 1 2 1) 2 0 (fun i => if i = 1 then -1 else 1) (i + 1)) 3 p') (h1 : LpIn W (fun i => hst 2 1 (chartF 2 1 2 1) 2 0 (fun i => if i = 1 then -1 else 1) (i + 1)) 3 pr) => entries_yes _ 3 (by decide) pr p' cr 3 W h1 h2)
  have HV0 : hst 2 1 (chartF 2 1 2 1) 2 0 (fun i => if i = 1 then -1 else 1) (0 + 1) = (2, -1) := by decide +kernel
  have HV1 : hst 2 1 (chartF 2 1 2 1) 2 0 (fun i => if i = 1 then -1 else 1) (1 + 1) = (0, -1) := by decide +kernel
  have HV2 : hst 2 1 (chartF 2 1 2 1) 2 0 (fun i => if i = 1 then -1 else 1) (2 + 1) = (1, 0) := by decide +kernel
  have hl2 : LpIn (w3.alloc (.cells #[.int .i64 2, .int .i64 (-1), .int .i64 0, .int .i64 (-1), .int .i64 1, .int .i64 0] 62)) (fun i => hst 2 1 (chartF 2 1 2 1) 2 0 (fun i => if i = 1 then -1 else 1) (i + 1)) 3 (some ⟨w3.heap.size, 0, none⟩) := .inr ⟨_, _, rfl, fun i hi => by
    rcases (by omega : i = 0 ∨ i = 1 ∨ i = 2) with rfl | rfl | rfl
    · simp only [HV0]; constructor <;> simp
    · simp only [HV1]; constructor <;> simp
    · simp only [HV2]; constructor <;> simp⟩
  have hb4 := below_alloc (Below.refl w3.heap.size w3) (.cells #[.int .i64 2, .int .i64 (-1), .int .i64 0, .int .i64 (-1), .int .i64 1, .int .i64 0] 62)
  have HC := Lib.hid (HEN.out _ _ hl2 (hlp.below hb4))
  have HB4 := Lib.hid (bt HB3.out hb4)
  clear hl2 hb4 hlp HV0 HV1 HV2
  go_wp2_with (go_at_call 25; refine HC.out.mono ?_; rintro e w5 ⟨rfl, hb5⟩; have HB5 := Lib.hid hb5; clear hb5)
  go_ret
  exact ⟨rfl, bt HB4.out HB5.out⟩
end Go.Proofs.Ytiapimfmnmegpaa.St
