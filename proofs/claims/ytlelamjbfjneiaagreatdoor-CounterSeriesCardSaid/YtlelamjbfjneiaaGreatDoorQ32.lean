/- Contracts of layer 2: by how much a difference can have changed. -/
import Derived.Test.YtlelamjbfjneiaaGreatDoorQ01
import Derived.Test.YtlelamjbfjneiaaGreatDoorQ30
import Derived.Test.YtlelamjbfjneiaaGreatDoorQ13
namespace Go.Proofs.YtlelamjbfjneiaaGreatDoor.Ct
open Go Go.RowKit Go.Shelf
attribute [local go_sem] Oper.semAt_some
/-- a box for a span, fresh -/
structure ZS (X : World) (b : Nat) : Prop where
  c0 : X.cell? ⟨b, 0, none⟩ = some (.int .i64 0)
  c1 : X.cell? ⟨b, 1, none⟩ = some (.int .i64 0)
  f0 : X.frozen? ⟨b, 0, none⟩ = false
  f1 : X.frozen? ⟨b, 1, none⟩ = false
theorem ZS.new (X : World) (t : TypeId) : ZS (X.alloc (.cells #[.int .i64 0, .int .i64 0] t)) X.heap.size := ⟨by simp, by simp, by simp, by simp⟩
theorem ZS.below {X Y : World} {b : Nat} (h : ZS X b) (hb : Below X.heap.size X Y) : ZS Y b := ⟨cell_below hb h.c0, cell_below hb h.c1, fz_below hb h.c0 h.f0, fz_below hb h.c1 h.f1⟩
theorem ZS.store {X : World} {b : Nat} (h : ZS X b) (x y : Int) : ∀ Y, Y = (X.setCell ⟨b, 0, none⟩ (.int .i64 x)).setCell ⟨b, 1, none⟩ (.int .i64 y) → SpBox Y b x y ∧ Only b X Y := by
  rintro _ rfl
  exact ⟨⟨other_cell (by decide) (World.cell?_setCell_same _ _ _ h.c0), World.cell?_setCell_same _ _ _ (other_cell (by decide) h.c1)⟩, ((Only.refl b X).set 0 _).set 1 _⟩
theorem sps_new (X : World) (a b c d e f g h : Int) (t : TypeId) : SpsAt (X.alloc (.cells #[.int .i64 a, .int .i64 b, .int .i64 c, .int .i64 d, .int .i64 e, .int .i64 f, .int .i64 g, .int .i64 h] t)) [(a, b), (c, d), (e, f), (g, h)] X.heap.size 0 := by
  intro i hi
  have h4 : i = 0 ∨ i = 1 ∨ i = 2 ∨ i = 3 := by simp at hi; omega
  rcases h4 with rfl | rfl | rfl | rfl <;> exact ⟨by simp [spAt], by simp [spAt]⟩
/-- the boxes of widen: a world, a span, the result -/
structure WidAt (w X : World) (W : Wd.Wld) (p1 p2 : Option Addr) (k1 k2 : Nat) (lo hi : Int) : Prop where
  c0 : X.cell? ⟨w.heap.size, 0, none⟩ = some (.int .u64 W.seed)
  c1 : X.cell? ⟨w.heap.size, 1, none⟩ = some (.slice p1 W.chs.length k1)
  c2 : X.cell? ⟨w.heap.size, 2, none⟩ = some (.slice p2 W.cls.length k2)
  s0 : X.cell? ⟨w.heap.size + 1, 0, none⟩ = some (.int .i64 lo)
  s1 : X.cell? ⟨w.heap.size + 1, 1, none⟩ = some (.int .i64 hi)
  r0 : X.cell? ⟨w.heap.size + 1 + 1, 0, none⟩ = some (.int .i64 0)
  r1 : X.cell? ⟨w.heap.size + 1 + 1, 1, none⟩ = some (.int .i64 0)
  g0 : X.frozen? ⟨w.heap.size + 1 + 1, 0, none⟩ = false
  g1 : X.frozen? ⟨w.heap.size + 1 + 1, 1, none⟩ = false
  bel : Below w.heap.size w X
theorem WidAt.below {w X Y : World} {W : Wd.Wld} {p1 p2 : Option Addr} {k1 k2 : Nat} {lo hi : Int} (h : WidAt w X W p1 p2 k1 k2 lo hi) (hb : Below X.heap.size X Y) : WidAt w Y W p1 p2 k1 k2 lo hi :=
  ⟨cell_below hb h.c0, cell_below hb h.c1, cell_below hb h.c2, cell_below hb h.s0, cell_below hb h.s1, cell_below hb h.r0, cell_below hb h.r1, fz_below hb h.r0 h.g0, fz_below hb h.r1 h.g1, h.bel.trans (hb.mono h.bel.size)⟩
theorem WidAt.new (w : World) (W : Wd.Wld) (p1 p2 : Option Addr) (k1 k2 : Nat) (lo hi : Int) : WidAt w (((w.alloc (.cells #[.int .u64 W.seed, .slice p1 W.chs.length k1, .slice p2 W.cls.length k2] 38)).alloc (.cells #[.int .i64 lo, .int .i64 hi] 31)).alloc (.cells #[.int .i64 0, .int .i64 0] 31)) W p1 p2 k1 k2 lo hi :=
  ⟨by simp [go_sem], by simp [go_sem], by simp [go_sem], by simp [go_sem], by simp [go_sem], by simp [go_sem], by simp [go_sem], by simp [go_sem], by simp [go_sem], below_alloc (below_alloc (below_alloc (Below.refl _ _) _) _) _⟩
theorem growthAs {W : Wd.Wld} {p1 p2 : Option Addr} {w : World} (ht : Wd.Tabs w) (hW : Wd.WldIn w W p1 p2) (k1 k2 : Nat) (k s t : Int) {x y e : Int} (h : Wd.growthE W k s t = ⟨x, y, e⟩) (X : World) (hb : Below w.heap.size w X) :
    Calls Tryz.prog 63 #[.agg #[.int .u64 W.seed, .slice p1 W.chs.length k1, .slice p2 W.cls.length k2], .int .i64 k, .int .i64 s, .int .i64 t] X fun en Y => en = .returned (.tuple #[.agg #[.int .i64 x, .int .i64 y], .int .i64 e]) ∧ Below X.heap.size X Y := by
  have := Wd.growth_any W k s t p1 p2 k1 k2 X (ht.below hb) (hW.below hb)
  rw [h] at this
  exact this
theorem growth_small {W : Wd.Wld} {k s t : Int} (h : (Wd.growthE W k s t).e = 0) : Wd.Allowed W k ∧ (-1000000000000000 ≤ (Wd.growthE W k s t).a ∧ (Wd.growthE W k s t).a ≤ 1000000000000000) ∧ (-1000000000000000 ≤ (Wd.growthE W k s t).b ∧ (Wd.growthE W k s t).b ≤ 1000000000000000) := by
  have hge : Wd.growErr W k s t = 0 := by
    by_cases hr : Wd.growErr W k s t = 0
    · exact hr
    · unfold Wd.growthE at h; rw [if_neg hr] at h; exact absurd h hr
  have hf : Wd.findErr W k [s, t] = 0 := by
    by_cases hr : Wd.findErr W k [s, t] = 0
    · exact hr
    · unfold Wd.growErr at hge; rw [if_neg hr] at hge; exact absurd hge hr
  have hst : s ≤ t := by
    unfold Wd.growErr at hge
    rw [if_pos hf] at hge
    by_cases q : t < s
    · rw [if_pos q] at hge; cases hge
    · omega
  have al := Wd.allowed_find hf
  obtain ⟨hs, ht⟩ := Wd.secs_of hf
  have f1 := Wd.fixed_bd al.cin al.rok s hs.1 hs.2
  have f2 := Wd.fixed_bd al.cin al.rok t ht.1 ht.2
  have f3 := Wd.stray_bd al.cin s t hs.1 hst ht.2
  unfold Wd.growthE
  rw [if_pos hge]
  dsimp only
  unfold Wd.strayedS
  exact ⟨al, by omega, by omega⟩
/-- how much a difference may be off by noise -/
def noiseS (W : Wd.Wld) (a b : Int) : Int := 2 * ((Wd.clkOf W a).white + (Wd.clkOf W b).white)
def widE (W : Wd.Wld) (a b x y lo hi : Int) : (Int × Int) × Int :=
  if (Wd.growthE W a x y).e = 0 then
    (if (Wd.growthE W b x y).e = 0 then
      ((max (lo + (Wd.growthE W a x y).a - (Wd.growthE W b x y).b - noiseS W a b) (-1000000000000000), min (hi + (Wd.growthE W a x y).b - (Wd.growthE W b x y).a + noiseS W a b) 1000000000000000), 0)
    else ((0, 0), (Wd.growthE W b x y).e))
  else ((0, 0), (Wd.growthE W a x y).e)
theorem bt5 {A B C : World} (h : Below A.heap.size A B) (k : Below B.heap.size B C) : Below A.heap.size A C := h.trans (k.mono h.size)
theorem cell_below_bel {w X : World} {b o : Nat} {v : Value} (hb : Below w.heap.size w X) (h : w.cell? ⟨b, o, none⟩ = some v) : X.cell? ⟨b, o, none⟩ = some v := cell_below hb h
set_option maxRecDepth 100000 in
set_option maxHeartbeats 4000000 in
theorem widen_no (W : Wd.Wld) (a b x y lo hi e : Int) (p1 p2 : Option Addr) (k1 k2 : Nat) (w : World) (ht : Wd.Tabs w) (hW : Wd.WldIn w W p1 p2) (h : e ≠ 0 ∧ ((Wd.growthE W a x y).e = e ∨ (Wd.growthE W a x y).e = 0 ∧ (Wd.growthE W b x y).e = e)) :
    Calls Tryz.prog 38 #[wV W p1 p2 k1 k2, .int .i64 a, .int .i64 b, .int .i64 x, .int .i64 y, .agg #[.int .i64 lo, .int .i64 hi]] w fun e' w' => e' = .returned (.tuple #[.agg #[.int .i64 0, .int .i64 0], .int .i64 e]) ∧ Below w.heap.size w w' := by
  have HW := Lib.hid (WidAt.new w W p1 p2 k1 k2 lo hi)
  obtain ⟨⟨g1, g2, ge⟩, hg⟩ : ∃ r, r = Wd.growthE W a x y := ⟨_, rfl⟩
  obtain ⟨⟨h1, h2, he⟩, hh⟩ : ∃ r, r = Wd.growthE W b x y := ⟨_, rfl⟩
  have HGA := Lib.hid (fun X hb => growthAs ht hW k1 k2 a x y hg.symm X hb)
  have HGB := Lib.hid (fun X hb => growthAs ht hW k1 k2 b x y hh.symm X hb)
  rw [← hg, ← hh] at h
  dsimp only at h
  unfold wV
  have hne : (e != 0) = true := by simpa using h.1
  clear ht hW hg hh
  rcases h.2 with rfl | ⟨rfl, rfl⟩
  · clear h
    go_enter Tryz.func38, Tryz.ntmps38
    go_upto_region 1 with fail
    generalize ((w.alloc (.cells #[.int .u64 W.seed, .slice p1 W.chs.length k1, .slice p2 W.cls.length k2] 38)).alloc (.cells #[.int .i64 lo, .int .i64 hi] 31)).alloc (.cells #[.int .i64 0, .int .i64 0] 31) = W0 at *
    obtain ⟨c0, c1, c2, -, -, r0, r1, q0, q1, -⟩ := HW.out
    have zc := cell_lt c0
    have zr := cell_lt r0
    go_upto_region 2 with (go_at_call 63; refine (HGA.out _ HW.out.bel).mono ?_; rintro e w1 ⟨rfl, hb1⟩; have HW1 := Lib.hid (HW.out.below hb1); clear hb1)
    clear c0 c1 c2 r0 r1 q0 q1 zc zr
    have HW2 := Lib.hid (HW1.out.below (below_alloc (Below.refl w1.heap.size w1) (.cells #[.int .i64 g1, .int .i64 g2] 31)))
    generalize w1.alloc (.cells #[.int .i64 g1, .int .i64 g2] 31) = W2 at *
    generalize w1.heap.size = b14 at *
    obtain ⟨-, -, -, -, -, r0, r1, q0, q1, -⟩ := HW2.out
    have zr := cell_lt r0
    go_wp2_with fail
    refine bodyPost_ret (v := .tuple #[.agg #[.int .i64 0, .int .i64 0], .int .i64 ge]) (by simp [results, Tryz.results38, go_sem, r0, r1]) rfl ?_
    exact ⟨rfl, (HW2.out.bel.setCell (by simp; omega) _).setCell (by simp; omega) _⟩
  · clear h
    go_enter Tryz.func38, Tryz.ntmps38
    go_upto_region 1 with fail
    generalize ((w.alloc (.cells #[.int .u64 W.seed, .slice p1 W.chs.length k1, .slice p2 W.cls.length k2] 38)).alloc (.cells #[.int .i64 lo, .int .i64 hi] 31)).alloc (.cells #[.int .i64 0, .int .i64 0] 31) = W0 at *
    obtain ⟨c0, c1, c2, -, -, -, -, -, -, -⟩ := HW.out
    have zc := cell_lt c0
    go_upto_region 2 with (go_at_call 63; refine (HGA.out _ HW.out.bel).mono ?_; rintro e w1 ⟨rfl, hb1⟩; have HW1 := Lib.hid (HW.out.below hb1); clear hb1)
    clear c0 c1 c2 zc
    have HW2 := Lib.hid (HW1.out.below (below_alloc (Below.refl w1.heap.size w1) (.cells #[.int .i64 g1, .int .i64 g2] 31)))
    generalize w1.alloc (.cells #[.int .i64 g1, .int .i64 g2] 31) = W2 at *
    generalize w1.heap.size = b14 at *
    obtain ⟨c0, c1, c2, -, -, -, -, -, -, -⟩ := HW2.out
    have zc := cell_lt c0
    go_upto_region 5 with (go_at_call 63; refine (HGB.out _ HW2.out.bel).mono ?_; rintro e w3 ⟨rfl, hb3⟩; have HW3 := Lib.hid (HW2.out.below hb3); clear hb3)
    clear c0 c1 c2 zc
    have HW4 := Lib.hid (HW3.out.below (below_alloc (Below.refl w3.heap.size w3) (.cells #[.int .i64 h1, .int .i64 h2] 31)))
    generalize w3.alloc (.cells #[.int .i64 h1, .int .i64 h2] 31) = W4 at *
    generalize w3.heap.size = b16 at *
    obtain ⟨-, -, -, -, -, r0, r1, q0, q1, -⟩ := HW4.out
    have zr := cell_lt r0
    go_wp2_with fail
    refine bodyPost_ret (v := .tuple #[.agg #[.int .i64 0, .int .i64 0], .int .i64 he]) (by simp [results, Tryz.results38, go_sem, r0, r1]) rfl ?_
    exact ⟨rfl, (HW4.out.bel.setCell (by simp; omega) _).setCell (by simp; omega) _⟩
set_option maxRecDepth 100000 in
set_option maxHeartbeats 8000000 in
theorem widen_ok (W : Wd.Wld) (A B : Nat) (x y lo hi : Int) (p1 p2 : Option Addr) (k1 k2 : Nat) (w : World) (ht : Wd.Tabs w) (hW : Wd.WldIn w W p1 p2) (ha : (Wd.growthE W A x y).e = 0) (hb : (Wd.growthE W B x y).e = 0) (hlo : -1000000000000000 ≤ lo ∧ lo ≤ 1000000000000000) (hhi : -1000000000000000 ≤ hi ∧ hi ≤ 1000000000000000) :
    Calls Tryz.prog 38 #[wV W p1 p2 k1 k2, .int .i64 (A : Int), .int .i64 (B : Int), .int .i64 x, .int .i64 y, .agg #[.int .i64 lo, .int .i64 hi]] w fun e' w' => e' = .returned (.tuple #[.agg #[.int .i64 (max (lo + (Wd.growthE W A x y).a - (Wd.growthE W B x y).b - noiseS W A B) (-1000000000000000)), .int .i64 (min (hi + (Wd.growthE W A x y).b - (Wd.growthE W B x y).a + noiseS W A B) 1000000000000000)], .int .i64 0]) ∧ Below w.heap.size w w' := by
  have HW := Lib.hid (WidAt.new w W p1 p2 k1 k2 lo hi)
  obtain ⟨alA, sA1, sA2⟩ := growth_small ha
  obtain ⟨alB, sB1, sB2⟩ := growth_small hb
  obtain ⟨⟨g1, g2, ge⟩, hg⟩ : ∃ r, r = Wd.growthE W A x y := ⟨_, rfl⟩
  obtain ⟨⟨h1, h2, he⟩, hh⟩ : ∃ r, r = Wd.growthE W B x y := ⟨_, rfl⟩
  have HGA := Lib.hid (fun X hb => growthAs ht hW k1 k2 A x y hg.symm X hb)
  have HGB := Lib.hid (fun X hb => growthAs ht hW k1 k2 B x y hh.symm X hb)
  rw [← hg] at ha sA1 sA2
  rw [← hh] at hb sB1 sB2
  rw [← hg, ← hh]
  dsimp only at ha hb sA1 sA2 sB1 sB2 ⊢
  subst ha hb
  have hA := alA.hk
  have hB := alB.hk
  rw [Int.toNat_natCast] at hA hB
  have hcA := alA.hc
  have hcB := alB.hc
  rw [Int.toNat_natCast] at hcA hcB
  have wA := alA.cin.white
  have wB := alB.cin.white
  obtain ⟨cb, co, rfl, hcl⟩ := hW.2.2.2.resolve_left (by omega)
  have hAg : W.cls[A] = Wd.clkOf W A := by rw [List.getElem?_eq_getElem hA] at hcA; exact Option.some.inj hcA
  have hBg : W.cls[B] = Wd.clkOf W B := by rw [List.getElem?_eq_getElem hB] at hcB; exact Option.some.inj hcB
  have xa := (hcl A hA).1.2.2.2.2.1
  have xb := (hcl B hB).1.2.2.2.2.1
  rw [hAg] at xa
  rw [hBg] at xb
  have XA := Lib.hid xa
  have XB := Lib.hid xb
  obtain ⟨nz, hnz⟩ : ∃ nz, nz = noiseS W A B := ⟨_, rfl⟩
  rw [← hnz]
  unfold noiseS at hnz
  generalize (Wd.clkOf W A).white = wa at *
  generalize (Wd.clkOf W B).white = wb at *
  have k3 : IntKind.i64.wrap (wa + wb) = wa + wb := IntWalk.i64_in _ (by omega)
  have k4 : IntKind.i64.wrap (2 * (wa + wb)) = nz := by rw [hnz]; exact IntWalk.i64_in _ (by omega)
  have k5 : IntKind.i64.wrap (-nz) = -nz := IntWalk.i64_in _ (by omega)
  have HOP := Lib.hid (fun X => opposite_any h1 h2 X (by omega) (by omega))
  have hsm : SmallSp [(lo, hi), (g1, g2), (-h2, -h1), (-nz, nz)] := by
    intro i
    have h4 : i = 0 ∨ i = 1 ∨ i = 2 ∨ i = 3 ∨ 4 ≤ i := by omega
    rcases h4 with rfl | rfl | rfl | rfl | h4
    · simp [spAt]; omega
    · simp [spAt]; omega
    · simp [spAt]; omega
    · simp [spAt]; omega
    · have : spAt [(lo, hi), (g1, g2), (-h2, -h1), (-nz, nz)] i = (0, 0) := by unfold spAt; rw [List.getElem?_eq_none (by simpa using h4)]; rfl
      rw [this]; simp
  obtain ⟨sa, hsa⟩ : ∃ sa, sa = lo + g1 - h2 - nz := ⟨_, rfl⟩
  obtain ⟨sb, hsb⟩ : ∃ sb, sb = hi + g2 - h1 + nz := ⟨_, rfl⟩
  have HSM : Hid (∀ (bv : Nat) (X : World), SpsAt X [(lo, hi), (g1, g2), (-h2, -h1), (-nz, nz)] bv 0 → Calls Tryz.prog 64 #[.slice (some ⟨bv, 0, none⟩) 4 4] X fun e Y => e = .returned (.agg #[.int .i64 sa, .int .i64 sb]) ∧ Below X.heap.size X Y) := Lib.hid fun bv X hX => by
    have := sum_any [(lo, hi), (g1, g2), (-h2, -h1), (-nz, nz)] bv 0 4 X (by simp) hsm hX
    have eA : sumA [(lo, hi), (g1, g2), (-h2, -h1), (-nz, nz)] 4 = sa := by rw [hsa]; simp [sumA, spAt]; omega
    have eB : sumB [(lo, hi), (g1, g2), (-h2, -h1), (-nz, nz)] 4 = sb := by rw [hsb]; simp [sumB, spAt]; omega
    simp only [List.length_cons, List.length_nil] at this
    rw [eA, eB] at this
    exact this
  rw [← hsa, ← hsb]
  have HCM := Lib.hid (fun X => common_any sa sb (-1000000000000000) 1000000000000000 X)
  obtain ⟨ra, hra⟩ : ∃ ra, ra = max sa (-1000000000000000) := ⟨_, rfl⟩
  obtain ⟨rb, hrb⟩ : ∃ rb, rb = min sb 1000000000000000 := ⟨_, rfl⟩
  rw [← hra, ← hrb] at HCM ⊢
  have hAi : (A : Int) < W.cls.length := by omega
  have hBi : (B : Int) < W.cls.length := by omega
  unfold wV
  clear ht hW hg hh alA alB sA1 sA2 sB1 sB2 hlo hhi wA wB hcA hcB hAg hBg xa xb hcl hnz hsm hsa hsb hra hrb hA hB
  go_enter Tryz.func38, Tryz.ntmps38
  go_upto_region 1 with fail
  generalize ((w.alloc (.cells #[.int .u64 W.seed, .slice p1 W.chs.length k1, .slice (some ⟨cb, co, none⟩) W.cls.length k2] 38)).alloc (.cells #[.int .i64 lo, .int .i64 hi] 31)).alloc (.cells #[.int .i64 0, .int .i64 0] 31) = W0 at *
  obtain ⟨c0, c1, c2, -, -, -, -, -, -, -⟩ := HW.out
  have zc := cell_lt c0
  go_upto_region 2 with (go_at_call 63; refine (HGA.out _ HW.out.bel).mono ?_; rintro e w1 ⟨rfl, hb1⟩; have HW1 := Lib.hid (HW.out.below hb1); clear hb1)
  clear c0 c1 c2 zc
  have hbx := below_alloc (Below.refl w1.heap.size w1) (.cells #[.int .i64 g1, .int .i64 g2] 31)
  have HW2 := Lib.hid (HW1.out.below hbx)
  have HS2 := Lib.hid (SpBox.new w1 g1 g2 31)
  clear hbx
  generalize w1.alloc (.cells #[.int .i64 g1, .int .i64 g2] 31) = W2 at *
  generalize w1.heap.size = b14 at *
  obtain ⟨c0, c1, c2, -, -, -, -, -, -, -⟩ := HW2.out
  have zc := cell_lt c0
  go_upto_region 5 with (go_at_call 63; refine (HGB.out _ HW2.out.bel).mono ?_; rintro e w3 ⟨rfl, hb3⟩; have HW3 := Lib.hid (HW2.out.below hb3); have HS3 := Lib.hid (HS2.out.below hb3); clear hb3)
  clear c0 c1 c2 zc
  have hbx := below_alloc (Below.refl w3.heap.size w3) (.cells #[.int .i64 h1, .int .i64 h2] 31)
  have HW4 := Lib.hid (HW3.out.below hbx)
  have HS4 := Lib.hid (HS3.out.below hbx)
  have HU4 := Lib.hid (SpBox.new w3 h1 h2 31)
  clear hbx
  generalize w3.alloc (.cells #[.int .i64 h1, .int .i64 h2] 31) = W4 at *
  generalize w3.heap.size = b16 at *
  go_upto_region 7 with fail
  obtain ⟨c0, c1, c2, -, -, -, -, -, -, -⟩ := HW4.out
  have zc := cell_lt c0
  have xa := cell_below_bel HW4.out.bel XA.out
  have xb := cell_below_bel HW4.out.bel XB.out
  have zx := cell_lt xa
  go_quiet (fail)
  have hbq := below_drewN (Below.refl W4.heap.size W4) nq
  have HW5 := Lib.hid (HW4.out.below hbq)
  have HS5 := Lib.hid (HS4.out.below hbq)
  have HU5 := Lib.hid (HU4.out.below hbq)
  clear c0 c1 c2 zc xa xb zx hbq k3 k4 HW4 HS4 HU4
  generalize W4.drewN nq = W5 at *
  go_upto_region 8 with fail
  go_cut [18] from 57 to 67 (fun s18 wx => ∃ b18, s18 = .pointer (some ⟨b18, 0, none⟩) ∧ Hid (SpBox wx b18 sa sb) ∧ Hid (WidAt w wx W p1 (some ⟨cb, co, none⟩) k1 k2 lo hi))
  case first =>
    refine wp_region_held_drew (S := fun w' => Below W5.heap.size W5 w') (by kernel_rfl) (Below.drew (Below.refl _ _)) (fun hS0 => ?_)
    (try dsimp only at hS0)
    generalize W5.drew = X0 at *
    refine wpAnyH_take (i := 0) (v := ?_) rfl (by kernel_rfl) (by kernel_rfl) (by kernel_rfl) (fun _ _ _ h => h) (Or.inl ⟨by rfl, ?_⟩) (by assumption) ?_
    rotate_left
    · intro X hSX; (try dsimp only at hSX); obtain ⟨-, -, -, s0, s1, -, -, -, -, -⟩ := HW5.out.below hSX; have zs := cell_lt s0; go_simp; try with_reducible rfl
    simp only [Act.put, List.getElem_toArray, List.getElem_cons_zero, List.setIfInBounds_toArray, List.set_cons_zero, List.set_cons_succ]
    refine wpAnyH_take (i := 1) (v := ?_) rfl (by kernel_rfl) (by kernel_rfl) (by kernel_rfl) (fun _ _ _ h => h) (Or.inl ⟨by rfl, ?_⟩) (by assumption) ?_
    rotate_left
    · intro X hSX; (try dsimp only at hSX); obtain ⟨s0, s1⟩ := HS5.out.below hSX; have zs := cell_lt s0; go_simp; try with_reducible rfl
    simp only [Act.put, List.getElem_toArray, List.getElem_cons_succ, List.getElem_cons_zero, List.setIfInBounds_toArray, List.set_cons_zero, List.set_cons_succ]
    refine wpAnyH_take (i := 2) (v := ?_) rfl (by kernel_rfl) (by kernel_rfl) (by kernel_rfl) (fun _ _ _ h => h) (Or.inl ⟨by rfl, ?_⟩) (by assumption) ?_
    rotate_left
    · intro X hSX; (try dsimp only at hSX); obtain ⟨s0, s1⟩ := HU5.out.below hSX; have zs := cell_lt s0; go_simp; try with_reducible rfl
    simp only [Act.put, List.getElem_toArray, List.getElem_cons_succ, List.getElem_cons_zero, List.setIfInBounds_toArray, List.set_cons_zero, List.set_cons_succ]
    refine wpAnyH_take (i := 4) (v := ?_) rfl (by kernel_rfl) (by kernel_rfl) (by kernel_rfl) (fun _ _ _ h => h) (Or.inl ⟨by rfl, ?_⟩) (by assumption) ?_
    rotate_left
    · intro X hSX; (try dsimp only at hSX); go_simp; try with_reducible rfl
    simp only [Act.put, List.getElem_toArray, List.getElem_cons_succ, List.getElem_cons_zero, List.setIfInBounds_toArray, List.set_cons_zero, List.set_cons_succ]
    refine wpAnyH_take (i := 5) (v := ?_) rfl (by kernel_rfl) (by kernel_rfl) (by kernel_rfl) (fun _ _ _ h => h) (Or.inl ⟨by rfl, ?_⟩) (by assumption) ?_
    rotate_left
    · intro X hSX; (try dsimp only at hSX); go_simp; try with_reducible rfl
    simp only [Act.put, List.getElem_toArray, List.getElem_cons_succ, List.getElem_cons_zero, List.setIfInBounds_toArray, List.set_cons_zero, List.set_cons_succ]
    refine wpAnyH_take (i := 6) (v := ?_) rfl (by kernel_rfl) (by kernel_rfl) (by kernel_rfl) (fun _ _ _ h => h) (Or.inl ⟨by rfl, ?_⟩) (by assumption) ?_
    rotate_left
    · intro X hSX; (try dsimp only at hSX); go_simp; try with_reducible rfl
    simp only [Act.put, List.getElem_toArray, List.getElem_cons_succ, List.getElem_cons_zero, List.setIfInBounds_toArray, List.set_cons_zero, List.set_cons_succ]
    refine wpAnyH_take (i := 7) (v := ?_) rfl (by kernel_rfl) (by kernel_rfl) (by kernel_rfl) (fun _ _ _ h => h) (Or.inl ⟨by rfl, ?_⟩) (by assumption) ?_
    rotate_left
    · intro X hSX; (try dsimp only at hSX); go_simp; try with_reducible rfl
    simp only [Act.put, List.getElem_toArray, List.getElem_cons_succ, List.getElem_cons_zero, List.setIfInBounds_toArray, List.set_cons_zero, List.set_cons_succ]
    refine wpAnyH_ready (rs := [3, 10]) (by kernel_rfl) (by simp) (AllReadyH.cons rfl (fun K hK => ?_) (AllReadyH.cons rfl (fun K hK => ?_) AllReadyH.nil))
    · go_simp
      refine (HOP.out _).mono ?_
      rintro e X1 ⟨rfl, hby⟩
      go_wp2_with fail
      have hS1 := bt5 hS0 hby
      refine hK.out _ _ hS1 (fun _ => ?_)
      clear hK K hby
      refine wpAnyH_ready (rs := [8, 10]) (by kernel_rfl) (by simp) (AllReadyH.cons rfl (fun K hK => ?_) (AllReadyH.cons rfl (fun K hK => ?_) AllReadyH.nil))
      · go_simp
        have hS2 := below_alloc hS1 (.cells #[.int .i64 lo, .int .i64 hi, .int .i64 g1, .int .i64 g2, .int .i64 (-h2), .int .i64 (-h1), .int .i64 (-nz), .int .i64 nz] 31)
        have HV := Lib.hid (sps_new X1 lo hi g1 g2 (-h2) (-h1) (-nz) nz 31)
        refine hK.out _ _ hS2 (fun _ => ?_)
        clear hK K
        generalize X1.alloc (.cells #[.int .i64 lo, .int .i64 hi, .int .i64 g1, .int .i64 g2, .int .i64 (-h2), .int .i64 (-h1), .int .i64 (-nz), .int .i64 nz] 31) = X2 at *
        generalize X1.heap.size = bv at *
        refine wpAnyH_ready (rs := [9, 10]) (by kernel_rfl) (by simp) (AllReadyH.cons rfl (fun K hK => ?_) (AllReadyH.cons rfl (fun K hK => ?_) AllReadyH.nil))
        · go_simp
          refine (HSM.out bv X2 HV.out).mono ?_
          rintro e X3 ⟨rfl, hby⟩
          go_wp2_with fail
          have hS3 := bt5 hS2 hby
          refine hK.out _ _ hS3 (fun _ => ?_)
          clear hK K hby HV
          refine wpAnyH_ready (rs := [10]) (by kernel_rfl) (by simp) (AllReadyH.cons rfl (fun K hK => ?_) AllReadyH.nil)
          go_simp
          have hS4 := below_alloc hS3 (.cells #[.int .i64 0, .int .i64 0] 31)
          have HZ := Lib.hid (ZS.new X3 31)
          have hg18 : Hid (W5.heap.size ≤ X3.heap.size) := Lib.hid hS3.size
          refine hK.out _ _ hS4 (fun _ => ?_)
          clear hK K
          generalize X3.alloc (.cells #[.int .i64 0, .int .i64 0] 31) = X4 at *
          generalize X3.heap.size = b18 at *
          refine wpAnyH_ready (rs := [11]) (by kernel_rfl) (by simp) (AllReadyH.cons rfl (fun K hK => ?_) AllReadyH.nil)
          obtain ⟨x0, x1, f0, f1⟩ := HZ.out
          have zx := cell_lt x0
          go_simp
          clear x0 x1 f0 f1 zx
          obtain ⟨hcb, honly⟩ := HZ.out.store sa sb _ rfl
          have HZn := Lib.hid hcb
          have hS5 := honly.below hS4 hg18.out
          refine hK.out _ _ hS5 (fun _ => ?_)
          clear hK K hcb honly HZ
          have HZ := HZn
          clear HZn
          generalize (X4.setCell ⟨b18, 0, none⟩ (.int .i64 sa)).setCell ⟨b18, 1, none⟩ (.int .i64 sb) = X5 at *
          refine wpAnyH_done (by kernel_rfl) ?_ _
          go_wp2_with fail
          go_meet
          exact ⟨b18, rfl, HZ, Lib.hid (HW5.out.below hS5)⟩
        · go_simp
          have hS3 := below_alloc hS2 (.cells #[.int .i64 0, .int .i64 0] 31)
          have HZ := Lib.hid (ZS.new X2 31)
          have hg18 : Hid (W5.heap.size ≤ X2.heap.size) := Lib.hid hS2.size
          have HVn := Lib.hid (HV.out.below (below_alloc (Below.refl _ _) (.cells #[.int .i64 0, .int .i64 0] 31)))
          refine hK.out _ _ hS3 (fun _ => ?_)
          clear hK K
          clear HV
          have HV := HVn
          clear HVn
          generalize X2.alloc (.cells #[.int .i64 0, .int .i64 0] 31) = X3 at *
          generalize X2.heap.size = b18 at *
          refine wpAnyH_ready (rs := [9]) (by kernel_rfl) (by simp) (AllReadyH.cons rfl (fun K hK => ?_) AllReadyH.nil)
          go_simp
          refine (HSM.out bv X3 HV.out).mono ?_
          rintro e X4 ⟨rfl, hby⟩
          go_wp2_with fail
          have hS4 := bt5 hS3 hby
          have HZn := Lib.hid (HZ.out.below hby)
          refine hK.out _ _ hS4 (fun _ => ?_)
          clear hK K hby HV
          clear HZ
          have HZ := HZn
          clear HZn
          refine wpAnyH_ready (rs := [11]) (by kernel_rfl) (by simp) (AllReadyH.cons rfl (fun K hK => ?_) AllReadyH.nil)
          obtain ⟨x0, x1, f0, f1⟩ := HZ.out
          have zx := cell_lt x0
          go_simp
          clear x0 x1 f0 f1 zx
          obtain ⟨hcb, honly⟩ := HZ.out.store sa sb _ rfl
          have HZn := Lib.hid hcb
          have hS5 := honly.below hS4 hg18.out
          refine hK.out _ _ hS5 (fun _ => ?_)
          clear hK K hcb honly HZ
          have HZ := HZn
          clear HZn
          generalize (X4.setCell ⟨b18, 0, none⟩ (.int .i64 sa)).setCell ⟨b18, 1, none⟩ (.int .i64 sb) = X5 at *
          refine wpAnyH_done (by kernel_rfl) ?_ _
          go_wp2_with fail
          go_meet
          exact ⟨b18, rfl, HZ, Lib.hid (HW5.out.below hS5)⟩
      · go_simp
        have hS2 := below_alloc hS1 (.cells #[.int .i64 0, .int .i64 0] 31)
        have HZ := Lib.hid (ZS.new X1 31)
        have hg18 : Hid (W5.heap.size ≤ X1.heap.size) := Lib.hid hS1.size
        refine hK.out _ _ hS2 (fun _ => ?_)
        clear hK K
        generalize X1.alloc (.cells #[.int .i64 0, .int .i64 0] 31) = X2 at *
        generalize X1.heap.size = b18 at *
        refine wpAnyH_ready (rs := [8]) (by kernel_rfl) (by simp) (AllReadyH.cons rfl (fun K hK => ?_) AllReadyH.nil)
        go_simp
        have hS3 := below_alloc hS2 (.cells #[.int .i64 lo, .int .i64 hi, .int .i64 g1, .int .i64 g2, .int .i64 (-h2), .int .i64 (-h1), .int .i64 (-nz), .int .i64 nz] 31)
        have HV := Lib.hid (sps_new X2 lo hi g1 g2 (-h2) (-h1) (-nz) nz 31)
        have HZn := Lib.hid (HZ.out.below (below_alloc (Below.refl _ _) (.cells #[.int .i64 lo, .int .i64 hi, .int .i64 g1, .int .i64 g2, .int .i64 (-h2), .int .i64 (-h1), .int .i64 (-nz), .int .i64 nz] 31)))
        refine hK.out _ _ hS3 (fun _ => ?_)
        clear hK K
        clear HZ
        have HZ := HZn
        clear HZn
        generalize X2.alloc (.cells #[.int .i64 lo, .int .i64 hi, .int .i64 g1, .int .i64 g2, .int .i64 (-h2), .int .i64 (-h1), .int .i64 (-nz), .int .i64 nz] 31) = X3 at *
        generalize X2.heap.size = bv at *
        refine wpAnyH_ready (rs := [9]) (by kernel_rfl) (by simp) (AllReadyH.cons rfl (fun K hK => ?_) AllReadyH.nil)
        go_simp
        refine (HSM.out bv X3 HV.out).mono ?_
        rintro e X4 ⟨rfl, hby⟩
        go_wp2_with fail
        have hS4 := bt5 hS3 hby
        have HZn := Lib.hid (HZ.out.below hby)
        refine hK.out _ _ hS4 (fun _ => ?_)
        clear hK K hby HV
        clear HZ
        have HZ := HZn
        clear HZn
        refine wpAnyH_ready (rs := [11]) (by kernel_rfl) (by simp) (AllReadyH.cons rfl (fun K hK => ?_) AllReadyH.nil)
        obtain ⟨x0, x1, f0, f1⟩ := HZ.out
        have zx := cell_lt x0
        go_simp
        clear x0 x1 f0 f1 zx
        obtain ⟨hcb, honly⟩ := HZ.out.store sa sb _ rfl
        have HZn := Lib.hid hcb
        have hS5 := honly.below hS4 hg18.out
        refine hK.out _ _ hS5 (fun _ => ?_)
        clear hK K hcb honly HZ
        have HZ := HZn
        clear HZn
        generalize (X4.setCell ⟨b18, 0, none⟩ (.int .i64 sa)).setCell ⟨b18, 1, none⟩ (.int .i64 sb) = X5 at *
        refine wpAnyH_done (by kernel_rfl) ?_ _
        go_wp2_with fail
        go_meet
        exact ⟨b18, rfl, HZ, Lib.hid (HW5.out.below hS5)⟩
    · go_simp
      have hS1 := below_alloc hS0 (.cells #[.int .i64 0, .int .i64 0] 31)
      have HZ := Lib.hid (ZS.new X0 31)
      have hg18 : Hid (W5.heap.size ≤ X0.heap.size) := Lib.hid hS0.size
      refine hK.out _ _ hS1 (fun _ => ?_)
      clear hK K
      generalize X0.alloc (.cells #[.int .i64 0, .int .i64 0] 31) = X1 at *
      generalize X0.heap.size = b18 at *
      refine wpAnyH_ready (rs := [3]) (by kernel_rfl) (by simp) (AllReadyH.cons rfl (fun K hK => ?_) AllReadyH.nil)
      go_simp
      refine (HOP.out _).mono ?_
      rintro e X2 ⟨rfl, hby⟩
      go_wp2_with fail
      have hS2 := bt5 hS1 hby
      have HZn := Lib.hid (HZ.out.below hby)
      refine hK.out _ _ hS2 (fun _ => ?_)
      clear hK K hby
      clear HZ
      have HZ := HZn
      clear HZn
      refine wpAnyH_ready (rs := [8]) (by kernel_rfl) (by simp) (AllReadyH.cons rfl (fun K hK => ?_) AllReadyH.nil)
      go_simp
      have hS3 := below_alloc hS2 (.cells #[.int .i64 lo, .int .i64 hi, .int .i64 g1, .int .i64 g2, .int .i64 (-h2), .int .i64 (-h1), .int .i64 (-nz), .int .i64 nz] 31)
      have HV := Lib.hid (sps_new X2 lo hi g1 g2 (-h2) (-h1) (-nz) nz 31)
      have HZn := Lib.hid (HZ.out.below (below_alloc (Below.refl _ _) (.cells #[.int .i64 lo, .int .i64 hi, .int .i64 g1, .int .i64 g2, .int .i64 (-h2), .int .i64 (-h1), .int .i64 (-nz), .int .i64 nz] 31)))
      refine hK.out _ _ hS3 (fun _ => ?_)
      clear hK K
      clear HZ
      have HZ := HZn
      clear HZn
      generalize X2.alloc (.cells #[.int .i64 lo, .int .i64 hi, .int .i64 g1, .int .i64 g2, .int .i64 (-h2), .int .i64 (-h1), .int .i64 (-nz), .int .i64 nz] 31) = X3 at *
      generalize X2.heap.size = bv at *
      refine wpAnyH_ready (rs := [9]) (by kernel_rfl) (by simp) (AllReadyH.cons rfl (fun K hK => ?_) AllReadyH.nil)
      go_simp
      refine (HSM.out bv X3 HV.out).mono ?_
      rintro e X4 ⟨rfl, hby⟩
      go_wp2_with fail
      have hS4 := bt5 hS3 hby
      have HZn := Lib.hid (HZ.out.below hby)
      refine hK.out _ _ hS4 (fun _ => ?_)
      clear hK K hby HV
      clear HZ
      have HZ := HZn
      clear HZn
      refine wpAnyH_ready (rs := [11]) (by kernel_rfl) (by simp) (AllReadyH.cons rfl (fun K hK => ?_) AllReadyH.nil)
      obtain ⟨x0, x1, f0, f1⟩ := HZ.out
      have zx := cell_lt x0
      go_simp
      clear x0 x1 f0 f1 zx
      obtain ⟨hcb, honly⟩ := HZ.out.store sa sb _ rfl
      have HZn := Lib.hid hcb
      have hS5 := honly.below hS4 hg18.out
      refine hK.out _ _ hS5 (fun _ => ?_)
      clear hK K hcb honly HZ
      have HZ := HZn
      clear HZn
      generalize (X4.setCell ⟨b18, 0, none⟩ (.int .i64 sa)).setCell ⟨b18, 1, none⟩ (.int .i64 sb) = X5 at *
      refine wpAnyH_done (by kernel_rfl) ?_ _
      go_wp2_with fail
      go_meet
      exact ⟨b18, rfl, HZ, Lib.hid (HW5.out.below hS5)⟩

  case rest =>
    obtain ⟨b18, rfl, HZ, HW6⟩ := hcut
    obtain ⟨s0, s1⟩ := HZ.out
    have zs := cell_lt s0
    go_upto_region 9 with fail
    go_wp2_with (go_at_call 66; refine (HCM.out _).mono ?_; rintro e w7 ⟨rfl, hb7⟩; have HW7 := Lib.hid (HW6.out.below hb7); clear hb7; obtain ⟨-, -, -, -, -, r0, r1, q0, q1, -⟩ := HW7.out; have zr := cell_lt r0)
    refine bodyPost_ret (v := .tuple #[.agg #[.int .i64 ra, .int .i64 rb], .int .i64 0]) (by simp [results, Tryz.results38, go_sem, r0, r1]) rfl ?_
    exact ⟨rfl, (HW7.out.bel.setCell (by simp; omega) _).setCell (by simp; omega) _⟩
end Go.Proofs.YtlelamjbfjneiaaGreatDoor.Ct
