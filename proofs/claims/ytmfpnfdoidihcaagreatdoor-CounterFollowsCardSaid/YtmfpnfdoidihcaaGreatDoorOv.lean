/- Contracts of layer 2: Observe. -/
import Derived.Test.YtmfpnfdoidihcaaGreatDoorCd
import Derived.Test.YtmfpnfdoidihcaaGreatDoorVf
namespace Go.Proofs.YtmfpnfdoidihcaaGreatDoor.Ct
open Go Go.RowKit Go.Shelf
attribute [local go_sem] Oper.semAt_some
/-- the value of a world -/
def wV (W : Wd.Wld) (p1 p2 : Option Addr) (k1 k2 : Nat) : Value := .agg #[.int .u64 W.seed, .slice p1 W.chs.length k1, .slice p2 W.cls.length k2]
theorem shown_small (W : Wd.Wld) (k s : Int) (h : (Wd.shownE W k s).e = 0) : (Wd.reachE W k s).e = 0 ∧ (Wd.reachE W k s).a ≤ (Wd.shownE W k s).v ∧ (Wd.shownE W k s).v ≤ (Wd.reachE W k s).b ∧ -400000000000000 < (Wd.reachE W k s).a ∧ (Wd.reachE W k s).b < 400000000000000 := by
  have hR := Wd.holds_reach W W.seed k s
  have hw : Wd.reseed W W.seed = W := rfl
  rw [hw] at hR
  have he : (Wd.reachE W k s).e = 0 := by
    by_cases h' : (Wd.reachE W k s).e = 0
    · exact h'
    · have := hR.no h'; omega
  obtain ⟨q1, q2, q3, q4⟩ := hR.ok he h
  exact ⟨he, q1, q2, q3, q4⟩
/-- the boxes of a call: a counter, a world -/
structure ObsAt (w X : World) (c : Cnt) (W : Wd.Wld) (p1 p2 : Option Addr) (k1 k2 : Nat) : Prop where
  cb : CBox X w.heap.size c
  c0 : X.cell? ⟨w.heap.size + 1, 0, none⟩ = some (.int .u64 W.seed)
  c1 : X.cell? ⟨w.heap.size + 1, 1, none⟩ = some (.slice p1 W.chs.length k1)
  c2 : X.cell? ⟨w.heap.size + 1, 2, none⟩ = some (.slice p2 W.cls.length k2)
  bel : Below w.heap.size w X
theorem ObsAt.below {w X Y : World} {c : Cnt} {W : Wd.Wld} {p1 p2 : Option Addr} {k1 k2 : Nat} (h : ObsAt w X c W p1 p2 k1 k2) (hb : Below X.heap.size X Y) : ObsAt w Y c W p1 p2 k1 k2 :=
  ⟨h.cb.below hb, cell_below hb h.c0, cell_below hb h.c1, cell_below hb h.c2, h.bel.trans (hb.mono h.bel.size)⟩
theorem ObsAt.new (w : World) (c : Cnt) (W : Wd.Wld) (p1 p2 : Option Addr) (k1 k2 : Nat) : ObsAt w ((w.alloc (.cells #[.int .i64 c.f, .int .i64 c.o, .int .i64 c.j, .int .i64 c.g, .int .i64 c.r, .int .i64 c.d, .int .i64 c.i] 34)).alloc (.cells #[.int .u64 W.seed, .slice p1 W.chs.length k1, .slice p2 W.cls.length k2] 38)) c W p1 p2 k1 k2 :=
  ⟨(CBox.new w c).below (below_alloc (Below.refl _ _) _), by simp, by simp, by simp, below_alloc (below_alloc (Below.refl _ _) _) _⟩
/-- a call of Shown whose answer is known -/
def ShownAs (W : Wd.Wld) (p1 p2 : Option Addr) (k1 k2 : Nat) (w : World) (k s x e : Int) : Prop :=
  ∀ X, Below w.heap.size w X → Calls Tryz.prog 21 #[.agg #[.int .u64 W.seed, .slice p1 W.chs.length k1, .slice p2 W.cls.length k2], .int .i64 k, .int .i64 s] X fun en Y => en = .returned (.tuple #[.int .i64 x, .int .i64 e]) ∧ Below X.heap.size X Y
theorem shownAs {W : Wd.Wld} {p1 p2 : Option Addr} {w : World} (ht : Wd.Tabs w) (hW : Wd.WldIn w W p1 p2) (k1 k2 : Nat) (k s : Int) {x e : Int} (h : Wd.shownE W k s = ⟨x, e⟩) : ShownAs W p1 p2 k1 k2 w k s x e := fun X hb => by
  have := Wd.shown_any W k s p1 p2 k1 k2 X (ht.below hb) (hW.below hb)
  rw [h] at this
  exact this
/-- what Observe answers -/
def obsE (c : Cnt) (W : Wd.Wld) (a b s : Int) : Int × Int :=
  if cntB c = true then
    (if (Wd.shownE W a s).e = 0 then
      (if (Wd.shownE W b s).e = 0 then
        (if a = b then (0, 1) else
          (if showErr c s ((Wd.shownE W a s).v - (Wd.shownE W b s).v) = 0 then shownS c W.seed s ((Wd.shownE W a s).v - (Wd.shownE W b s).v) else 0, showErr c s ((Wd.shownE W a s).v - (Wd.shownE W b s).v)))
       else (0, (Wd.shownE W b s).e))
     else (0, (Wd.shownE W a s).e))
  else (0, 30)
set_option maxRecDepth 100000 in
set_option maxHeartbeats 4000000 in
theorem observe_any (c : Cnt) (W : Wd.Wld) (a b s : Int) (p1 p2 : Option Addr) (k1 k2 : Nat) (w : World) (ht : Wd.Tabs w) (hW : Wd.WldIn w W p1 p2) :
    Calls Tryz.prog 9 #[cntVal c, wV W p1 p2 k1 k2, .int .i64 a, .int .i64 b, .int .i64 s] w fun e w' => e = .returned (.tuple #[.int .i64 (obsE c W a b s).1, .int .i64 (obsE c W a b s).2]) ∧ Below w.heap.size w w' := by
  have HB := Lib.hid (ObsAt.new w c W p1 p2 k1 k2)
  have HCK := Lib.hid (fun W => check_any c W)
  obtain ⟨⟨x, ex⟩, hx⟩ : ∃ r, r = Wd.shownE W a s := ⟨_, rfl⟩
  obtain ⟨⟨y, ey⟩, hy⟩ : ∃ r, r = Wd.shownE W b s := ⟨_, rfl⟩
  have HX := Lib.hid (shownAs ht hW k1 k2 a s hx.symm)
  have HY := Lib.hid (shownAs ht hW k1 k2 b s hy.symm)
  have hxs := shown_small W a s
  have hys := shown_small W b s
  rw [← hx] at hxs
  rw [← hy] at hys
  dsimp only at hxs hys
  obtain ⟨⟨m, g⟩, hmg⟩ : ∃ r, r = obsE c W a b s := ⟨_, rfl⟩
  rw [← hmg]
  unfold obsE at hmg
  rw [← hx, ← hy] at hmg
  dsimp only at hmg
  unfold cntVal at *
  unfold wV
  clear ht hW hx hy
  by_cases hc : cntB c = true
  · rw [if_pos hc] at hmg
    rw [show checkC c = 0 from if_pos hc] at HCK
    clear hc
    by_cases h1 : ex = 0
    · rw [if_pos h1] at hmg
      have hxs' := hxs h1
      subst h1
      by_cases h2 : ey = 0
      · rw [if_pos h2] at hmg
        have hys' := hys h2
        subst h2
        by_cases h3 : a = b
        · rw [if_pos h3] at hmg
          obtain ⟨rfl, rfl⟩ := Prod.mk.inj hmg
          subst h3
          clear hxs' hys'
          clear hmg hxs hys
          go_enter Tryz.func9, Tryz.ntmps9
          go_upto_region 1 with fail
          generalize ((w.alloc (.cells #[.int .i64 c.f, .int .i64 c.o, .int .i64 c.j, .int .i64 c.g, .int .i64 c.r, .int .i64 c.d, .int .i64 c.i] 34)).alloc (.cells #[.int .u64 W.seed, .slice p1 W.chs.length k1, .slice p2 W.cls.length k2] 38)) = W0 at *
          obtain ⟨x0, x1, x2, x3, x4, x5, x6⟩ := HB.out.cb
          have zx := cell_lt x0
          go_upto_region 2 with (go_at_call 28; refine (HCK.out _).mono ?_; rintro e w1 ⟨rfl, hb1⟩; have HB1 := Lib.hid (HB.out.below hb1); clear hb1)
          clear x0 x1 x2 x3 x4 x5 x6 zx HB
          obtain ⟨-, l0, l1, l2, -⟩ := HB1.out
          have zl := cell_lt l0
          go_upto_region 5 with (go_at_call 21; refine (HX.out _ HB1.out.bel).mono ?_; rintro e w2 ⟨rfl, hb2⟩; have HB2 := Lib.hid (HB1.out.below hb2); clear hb2)
          clear l0 l1 l2 zl HB1
          obtain ⟨-, l0, l1, l2, -⟩ := HB2.out
          have zl := cell_lt l0
          go_upto_region 8 with (go_at_call 21; refine (HY.out _ HB2.out.bel).mono ?_; rintro e w3 ⟨rfl, hb3⟩; have HB3 := Lib.hid (HB2.out.below hb3); clear hb3)
          clear l0 l1 l2 zl HB2
          go_wp2_with fail
          go_ret2
          exact ⟨rfl, HB3.out.bel⟩
        · rw [if_neg h3] at hmg
          have kw : IntKind.i64.wrap (x - y) = x - y := IntWalk.i64_in _ (by omega)
          have HSW := Lib.hid (fun X => show_any c W.seed s (x - y) X)
          obtain ⟨hm, hg⟩ := Prod.mk.inj hmg
          rw [← hm, ← hg] at HSW
          unfold cntVal at HSW
          clear hmg hxs hys hm hg hxs' hys'
          go_enter Tryz.func9, Tryz.ntmps9
          go_upto_region 1 with fail
          generalize ((w.alloc (.cells #[.int .i64 c.f, .int .i64 c.o, .int .i64 c.j, .int .i64 c.g, .int .i64 c.r, .int .i64 c.d, .int .i64 c.i] 34)).alloc (.cells #[.int .u64 W.seed, .slice p1 W.chs.length k1, .slice p2 W.cls.length k2] 38)) = W0 at *
          obtain ⟨x0, x1, x2, x3, x4, x5, x6⟩ := HB.out.cb
          have zx := cell_lt x0
          go_upto_region 2 with (go_at_call 28; refine (HCK.out _).mono ?_; rintro e w1 ⟨rfl, hb1⟩; have HB1 := Lib.hid (HB.out.below hb1); clear hb1)
          clear x0 x1 x2 x3 x4 x5 x6 zx HB
          obtain ⟨-, l0, l1, l2, -⟩ := HB1.out
          have zl := cell_lt l0
          go_upto_region 5 with (go_at_call 21; refine (HX.out _ HB1.out.bel).mono ?_; rintro e w2 ⟨rfl, hb2⟩; have HB2 := Lib.hid (HB1.out.below hb2); clear hb2)
          clear l0 l1 l2 zl HB1
          obtain ⟨-, l0, l1, l2, -⟩ := HB2.out
          have zl := cell_lt l0
          go_upto_region 8 with (go_at_call 21; refine (HY.out _ HB2.out.bel).mono ?_; rintro e w3 ⟨rfl, hb3⟩; have HB3 := Lib.hid (HB2.out.below hb3); clear hb3)
          clear l0 l1 l2 zl HB2
          obtain ⟨-, l0, l1, l2, -⟩ := HB3.out
          have zl := cell_lt l0
          obtain ⟨x0, x1, x2, x3, x4, x5, x6⟩ := HB3.out.cb
          have zx := cell_lt x0
          go_wp2_with (go_at_call 22; refine (HSW.out _).mono ?_; rintro e w4 ⟨rfl, hb4⟩; have HB4 := Lib.hid (HB3.out.below hb4); clear hb4)
          go_ret2
          exact ⟨rfl, HB4.out.bel⟩
      · rw [if_neg h2] at hmg
        obtain ⟨rfl, rfl⟩ := Prod.mk.inj hmg
        have hge : (g != 0) = true := by simpa using h2
        clear hxs'
        clear hmg hxs hys
        go_enter Tryz.func9, Tryz.ntmps9
        go_upto_region 1 with fail
        generalize ((w.alloc (.cells #[.int .i64 c.f, .int .i64 c.o, .int .i64 c.j, .int .i64 c.g, .int .i64 c.r, .int .i64 c.d, .int .i64 c.i] 34)).alloc (.cells #[.int .u64 W.seed, .slice p1 W.chs.length k1, .slice p2 W.cls.length k2] 38)) = W0 at *
        obtain ⟨x0, x1, x2, x3, x4, x5, x6⟩ := HB.out.cb
        have zx := cell_lt x0
        go_upto_region 2 with (go_at_call 28; refine (HCK.out _).mono ?_; rintro e w1 ⟨rfl, hb1⟩; have HB1 := Lib.hid (HB.out.below hb1); clear hb1)
        clear x0 x1 x2 x3 x4 x5 x6 zx HB
        obtain ⟨-, l0, l1, l2, -⟩ := HB1.out
        have zl := cell_lt l0
        go_upto_region 5 with (go_at_call 21; refine (HX.out _ HB1.out.bel).mono ?_; rintro e w2 ⟨rfl, hb2⟩; have HB2 := Lib.hid (HB1.out.below hb2); clear hb2)
        clear l0 l1 l2 zl HB1
        obtain ⟨-, l0, l1, l2, -⟩ := HB2.out
        have zl := cell_lt l0
        go_wp2_with (go_at_call 21; refine (HY.out _ HB2.out.bel).mono ?_; rintro e w3 ⟨rfl, hb3⟩; have HB3 := Lib.hid (HB2.out.below hb3); clear hb3)
        go_ret2
        exact ⟨rfl, HB3.out.bel⟩
    · rw [if_neg h1] at hmg
      obtain ⟨rfl, rfl⟩ := Prod.mk.inj hmg
      have hge : (g != 0) = true := by simpa using h1
      clear hmg hxs hys
      go_enter Tryz.func9, Tryz.ntmps9
      go_upto_region 1 with fail
      generalize ((w.alloc (.cells #[.int .i64 c.f, .int .i64 c.o, .int .i64 c.j, .int .i64 c.g, .int .i64 c.r, .int .i64 c.d, .int .i64 c.i] 34)).alloc (.cells #[.int .u64 W.seed, .slice p1 W.chs.length k1, .slice p2 W.cls.length k2] 38)) = W0 at *
      obtain ⟨x0, x1, x2, x3, x4, x5, x6⟩ := HB.out.cb
      have zx := cell_lt x0
      go_upto_region 2 with (go_at_call 28; refine (HCK.out _).mono ?_; rintro e w1 ⟨rfl, hb1⟩; have HB1 := Lib.hid (HB.out.below hb1); clear hb1)
      clear x0 x1 x2 x3 x4 x5 x6 zx HB
      obtain ⟨-, l0, l1, l2, -⟩ := HB1.out
      have zl := cell_lt l0
      go_wp2_with (go_at_call 21; refine (HX.out _ HB1.out.bel).mono ?_; rintro e w2 ⟨rfl, hb2⟩; have HB2 := Lib.hid (HB1.out.below hb2); clear hb2)
      go_ret2
      exact ⟨rfl, HB2.out.bel⟩
  · rw [if_neg hc] at hmg
    rw [show checkC c = 30 from if_neg hc] at HCK
    obtain ⟨rfl, rfl⟩ := Prod.mk.inj hmg
    clear hc
    clear hmg hxs hys
    go_enter Tryz.func9, Tryz.ntmps9
    go_upto_region 1 with fail
    generalize ((w.alloc (.cells #[.int .i64 c.f, .int .i64 c.o, .int .i64 c.j, .int .i64 c.g, .int .i64 c.r, .int .i64 c.d, .int .i64 c.i] 34)).alloc (.cells #[.int .u64 W.seed, .slice p1 W.chs.length k1, .slice p2 W.cls.length k2] 38)) = W0 at *
    obtain ⟨x0, x1, x2, x3, x4, x5, x6⟩ := HB.out.cb
    have zx := cell_lt x0
    go_wp2_with (go_at_call 28; refine (HCK.out _).mono ?_; rintro e w1 ⟨rfl, hb1⟩; have HB1 := Lib.hid (HB.out.below hb1); clear hb1)
    go_ret2
    exact ⟨rfl, HB1.out.bel⟩
end Go.Proofs.YtmfpnfdoidihcaaGreatDoor.Ct
