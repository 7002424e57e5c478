/- A law's own world: its box, what lies behind it, and the calls on it with their answers named. · Contracts of layer 2: Observe. · Laws over a counter and a world: what they hold in memory. · A law's own counter and world, made side by side in any order: what is known between the steps. -/
import Derived.Test.YtlelamjbfjneiaaGreatDoorQ26
import Derived.Test.YtlelamjbfjneiaaGreatDoorQ04
import Derived.Test.YtlelamjbfjneiaaGreatDoorQ29
import Derived.Test.YtlelamjbfjneiaaGreatDoorQ02
import Derived.Test.YtlelamjbfjneiaaGreatDoorQ06
import Derived.Deep.RegionHeld3
namespace Go.Proofs.YtlelamjbfjneiaaGreatDoor.Wd
open Go Go.RowKit
/-- y: the world in which Own has returned; the box of its answer is the block behind it -/
structure LawIn (w y X : World) (W : Wld) (seed : Int) (q1 q2 : Option Addr) (d1 d2 : Nat) : Prop where
  bel : Below w.heap.size w X
  own : Below y.heap.size y X
  c0 : X.cell? ⟨y.heap.size, 0, none⟩ = some (.int .u64 seed)
  c1 : X.cell? ⟨y.heap.size, 1, none⟩ = some (.slice q1 W.chs.length d1)
  c2 : X.cell? ⟨y.heap.size, 2, none⟩ = some (.slice q2 W.cls.length d2)
  f0 : X.frozen? ⟨y.heap.size, 0, none⟩ = false
variable {w y X Y : World} {W : Wld} {seed : Int} {q1 q2 : Option Addr} {d1 d2 : Nat}
theorem LawIn.below (h : LawIn w y X W seed q1 q2 d1 d2) (hb : Below X.heap.size X Y) : LawIn w y Y W seed q1 q2 d1 d2 :=
  ⟨h.bel.trans (hb.mono h.bel.size), h.own.trans (hb.mono h.own.size), cell_below hb h.c0, cell_below hb h.c1, cell_below hb h.c2,
    (hb.frozen (p := ⟨y.heap.size, 0, none⟩) (cell_lt h.c0)).trans h.f0⟩
theorem lawIn_new (hb : Below w.heap.size w y) : LawIn w y (y.alloc (.cells #[.int .u64 seed, .slice q1 W.chs.length d1, .slice q2 W.cls.length d2] 38)) W seed q1 q2 d1 d2 :=
  ⟨below_alloc' hb _, below_alloc' (Below.refl _ _) _, by simp, by simp, by simp, by simp⟩
theorem LawIn.seeded (h : LawIn w y X W seed q1 q2 d1 d2) (hle : w.heap.size ≤ y.heap.size) (s : Int) : LawIn w y (X.setCell ⟨y.heap.size, 0, none⟩ (.int .u64 s)) W s q1 q2 d1 d2 := by
  refine ⟨h.bel.setCell hle _, h.own.setCell (Nat.le_refl _) _, World.cell?_setCell_same _ _ _ h.c0, ?_, ?_, ?_⟩
  · rw [World.cell?_setCell_other X ⟨y.heap.size, 0, none⟩ ⟨y.heap.size, 1, none⟩ _ (fun e => by cases e)]; exact h.c1
  · rw [World.cell?_setCell_other X ⟨y.heap.size, 0, none⟩ ⟨y.heap.size, 2, none⟩ _ (fun e => by cases e)]; exact h.c2
  · have := h.f0
    simpa using this
/-- two cells of a pair that lies in a box -/
def Two (X : World) (b : Nat) (x z : Int) : Prop := X.cell? ⟨b, 0, none⟩ = some (.int .i64 x) ∧ X.cell? ⟨b, 1, none⟩ = some (.int .i64 z)
theorem Two.below {b : Nat} {x z : Int} (h : Two X b x z) (hb : Below X.heap.size X Y) : Two Y b x z := ⟨cell_below hb h.1, cell_below hb h.2⟩
theorem two_new (x z : Int) (t : TypeId) : Two (X.alloc (.cells #[.int .i64 x, .int .i64 z] t)) X.heap.size x z := ⟨by simp, by simp⟩
theorem Two.set {b b' o' : Nat} {x z : Int} {u : Value} (h : Two X b x z) (hne : b' ≠ b) : Two (X.setCell ⟨b', o', none⟩ u) b x z := ⟨set_far h.1 hne, set_far h.2 hne⟩
/-- the second cell of a box may be written -/
def Free1 (X : World) (b : Nat) : Prop := X.frozen? ⟨b, 1, none⟩ = false
theorem Free1.below {b : Nat} (h : Free1 X b) (hb : Below X.heap.size X Y) (hlt : b < X.heap.size) : Free1 Y b := (hb.frozen (p := ⟨b, 1, none⟩) hlt).trans h
theorem free1_new (x z : Value) (t : TypeId) : Free1 (X.alloc (.cells #[x, z] t)) X.heap.size := by unfold Free1; simp
theorem LawIn.far {b o : Nat} {u : Value} (h : LawIn w y X W seed q1 q2 d1 d2) (hle : w.heap.size ≤ y.heap.size) (hb : y.heap.size < b) : LawIn w y (X.setCell ⟨b, o, none⟩ u) W seed q1 q2 d1 d2 := by
  refine ⟨h.bel.setCell (by dsimp only; omega) _, h.own.setCell (by dsimp only; omega) _, set_far h.c0 (by omega), set_far h.c1 (by omega), set_far h.c2 (by omega), ?_⟩
  have := h.f0
  simpa using this
theorem Two.second {b : Nat} {x z : Int} (h : Two X b x z) (z' : Int) : Two (X.setCell ⟨b, 1, none⟩ (.int .i64 z')) b x z' := by
  refine ⟨?_, World.cell?_setCell_same _ _ _ h.2⟩
  rw [World.cell?_setCell_other X ⟨b, 1, none⟩ ⟨b, 0, none⟩ _ (fun e => by cases e)]; exact h.1
/-! the calls, their answers named -/
def PairRet (g : PairErr) (X : World) (e : Ending) (Y : World) : Prop := ∃ a b c : Int, e = .returned (.tuple #[.agg #[.int .i64 a, .int .i64 b], .int .i64 c]) ∧ Hid (g = ⟨a, b, c⟩) ∧ Below X.heap.size X Y
def IntRet (g : IntErr) (X : World) (e : Ending) (Y : World) : Prop := ∃ a c : Int, e = .returned (.tuple #[.int .i64 a, .int .i64 c]) ∧ Hid (g = ⟨a, c⟩) ∧ Below X.heap.size X Y
theorem growth_named (W : Wld) (k s t : Int) (p1 p2 : Option Addr) (k1 k2 : Nat) (X : World) (ht : Tabs X) (hW : WldIn X W p1 p2) :
    Calls Tryz.prog 63 #[.agg #[.int .u64 W.seed, .slice p1 W.chs.length k1, .slice p2 W.cls.length k2], .int .i64 k, .int .i64 s, .int .i64 t] X (PairRet (growthE W k s t) X) :=
  (growth_any W k s t p1 p2 k1 k2 X ht hW).mono fun _ _ ⟨h1, h2⟩ => ⟨_, _, _, h1, Lib.hid rfl, h2⟩
theorem shown_named (W : Wld) (seed k s : Int) (p1 p2 : Option Addr) (k1 k2 : Nat) (X : World) (ht : Tabs X) (hW : WldIn X W p1 p2) :
    Calls Tryz.prog 26 #[.agg #[.int .u64 seed, .slice p1 W.chs.length k1, .slice p2 W.cls.length k2], .int .i64 k, .int .i64 s] X (IntRet (shownE (reseed W seed) k s) X) :=
  (shown_any (reseed W seed) k s p1 p2 k1 k2 X ht hW).mono fun _ _ ⟨h1, h2⟩ => ⟨_, _, h1, Lib.hid rfl, h2⟩
theorem phase_named (W : Wld) (seed k s : Int) (p1 p2 : Option Addr) (k1 k2 : Nat) (X : World) (ht : Tabs X) (hW : WldIn X W p1 p2) :
    Calls Tryz.prog 62 #[.agg #[.int .u64 seed, .slice p1 W.chs.length k1, .slice p2 W.cls.length k2], .int .i64 k, .int .i64 s] X (IntRet (phaseE (reseed W seed) k s) X) :=
  (phase_any (reseed W seed) k s p1 p2 k1 k2 X ht hW).mono fun _ _ ⟨h1, h2⟩ => ⟨_, _, h1, Lib.hid rfl, h2⟩
end Go.Proofs.YtlelamjbfjneiaaGreatDoor.Wd
namespace Go.Proofs.YtlelamjbfjneiaaGreatDoor.Ct
open Go Go.RowKit Go.Shelf
attribute [local go_sem] Oper.semAt_some
/-- the value of a world -/
def wV (W : Wd.Wld) (p1 p2 : Option Addr) (k1 k2 : Nat) : Value := .agg #[.int .u64 W.seed, .slice p1 W.chs.length k1, .slice p2 W.cls.length k2]
theorem shown_small (W : Wd.Wld) (k s : Int) (h : (Wd.shownE W k s).e = 0) : (Wd.reachE W k s).e = 0 ∧ (Wd.reachE W k s).a ≤ (Wd.shownE W k s).v ∧ (Wd.shownE W k s).v ≤ (Wd.reachE W k s).b ∧ -400000000000000 < (Wd.reachE W k s).a ∧ (Wd.reachE W k s).b < 400000000000000 := by
  have hR := Wd.holds_reach W W.seed k s
  have hw : Wd.reseed W W.seed = W := rfl
  rw [hw] at hR
  have he : (Wd.reachE W k s).e = 0 := by
    by_cases h' : (Wd.reachE W k s).e = 0
    · exact h'
    · have := hR.no h'; omega
  obtain ⟨q1, q2, q3, q4⟩ := hR.ok he h
  exact ⟨he, q1, q2, q3, q4⟩
/-- the boxes of a call: a counter, a world -/
structure ObsAt (w X : World) (c : Cnt) (W : Wd.Wld) (p1 p2 : Option Addr) (k1 k2 : Nat) : Prop where
  cb : CBox X w.heap.size c
  c0 : X.cell? ⟨w.heap.size + 1, 0, none⟩ = some (.int .u64 W.seed)
  c1 : X.cell? ⟨w.heap.size + 1, 1, none⟩ = some (.slice p1 W.chs.length k1)
  c2 : X.cell? ⟨w.heap.size + 1, 2, none⟩ = some (.slice p2 W.cls.length k2)
  bel : Below w.heap.size w X
theorem ObsAt.below {w X Y : World} {c : Cnt} {W : Wd.Wld} {p1 p2 : Option Addr} {k1 k2 : Nat} (h : ObsAt w X c W p1 p2 k1 k2) (hb : Below X.heap.size X Y) : ObsAt w Y c W p1 p2 k1 k2 :=
  ⟨h.cb.below hb, cell_below hb h.c0, cell_below hb h.c1, cell_below hb h.c2, h.bel.trans (hb.mono h.bel.size)⟩
theorem ObsAt.new (w : World) (c : Cnt) (W : Wd.Wld) (p1 p2 : Option Addr) (k1 k2 : Nat) : ObsAt w ((w.alloc (.cells #[.int .i64 c.f, .int .i64 c.o, .int .i64 c.j, .int .i64 c.g, .int .i64 c.r, .int .i64 c.d, .int .i64 c.i] 34)).alloc (.cells #[.int .u64 W.seed, .slice p1 W.chs.length k1, .slice p2 W.cls.length k2] 38)) c W p1 p2 k1 k2 :=
  ⟨(CBox.new w c).below (below_alloc (Below.refl _ _) _), by simp, by simp, by simp, below_alloc (below_alloc (Below.refl _ _) _) _⟩
/-- a call of Shown whose answer is known -/
def ShownAs (W : Wd.Wld) (p1 p2 : Option Addr) (k1 k2 : Nat) (w : World) (k s x e : Int) : Prop :=
  ∀ X, Below w.heap.size w X → Calls Tryz.prog 26 #[.agg #[.int .u64 W.seed, .slice p1 W.chs.length k1, .slice p2 W.cls.length k2], .int .i64 k, .int .i64 s] X fun en Y => en = .returned (.tuple #[.int .i64 x, .int .i64 e]) ∧ Below X.heap.size X Y
theorem shownAs {W : Wd.Wld} {p1 p2 : Option Addr} {w : World} (ht : Wd.Tabs w) (hW : Wd.WldIn w W p1 p2) (k1 k2 : Nat) (k s : Int) {x e : Int} (h : Wd.shownE W k s = ⟨x, e⟩) : ShownAs W p1 p2 k1 k2 w k s x e := fun X hb => by
  have := Wd.shown_any W k s p1 p2 k1 k2 X (ht.below hb) (hW.below hb)
  rw [h] at this
  exact this
/-- what Observe answers -/
def obsE (c : Cnt) (W : Wd.Wld) (a b s : Int) : Int × Int :=
  if cntB c = true then
    (if (Wd.shownE W a s).e = 0 then
      (if (Wd.shownE W b s).e = 0 then
        (if a = b then (0, 1) else
          (if showErr c s ((Wd.shownE W a s).v - (Wd.shownE W b s).v) = 0 then shownS c W.seed s ((Wd.shownE W a s).v - (Wd.shownE W b s).v) else 0, showErr c s ((Wd.shownE W a s).v - (Wd.shownE W b s).v)))
       else (0, (Wd.shownE W b s).e))
     else (0, (Wd.shownE W a s).e))
  else (0, 30)
set_option maxRecDepth 100000 in
set_option maxHeartbeats 4000000 in
theorem observe_any (c : Cnt) (W : Wd.Wld) (a b s : Int) (p1 p2 : Option Addr) (k1 k2 : Nat) (w : World) (ht : Wd.Tabs w) (hW : Wd.WldIn w W p1 p2) :
    Calls Tryz.prog 8 #[cntVal c, wV W p1 p2 k1 k2, .int .i64 a, .int .i64 b, .int .i64 s] w fun e w' => e = .returned (.tuple #[.int .i64 (obsE c W a b s).1, .int .i64 (obsE c W a b s).2]) ∧ Below w.heap.size w w' := by
  have HB := Lib.hid (ObsAt.new w c W p1 p2 k1 k2)
  have HCK := Lib.hid (fun W => check_any c W)
  obtain ⟨⟨x, ex⟩, hx⟩ : ∃ r, r = Wd.shownE W a s := ⟨_, rfl⟩
  obtain ⟨⟨y, ey⟩, hy⟩ : ∃ r, r = Wd.shownE W b s := ⟨_, rfl⟩
  have HX := Lib.hid (shownAs ht hW k1 k2 a s hx.symm)
  have HY := Lib.hid (shownAs ht hW k1 k2 b s hy.symm)
  have hxs := shown_small W a s
  have hys := shown_small W b s
  rw [← hx] at hxs
  rw [← hy] at hys
  dsimp only at hxs hys
  obtain ⟨⟨m, g⟩, hmg⟩ : ∃ r, r = obsE c W a b s := ⟨_, rfl⟩
  rw [← hmg]
  unfold obsE at hmg
  rw [← hx, ← hy] at hmg
  dsimp only at hmg
  unfold cntVal at *
  unfold wV
  clear ht hW hx hy
  by_cases hc : cntB c = true
  · rw [if_pos hc] at hmg
    rw [show checkC c = 0 from if_pos hc] at HCK
    clear hc
    by_cases h1 : ex = 0
    · rw [if_pos h1] at hmg
      have hxs' := hxs h1
      subst h1
      by_cases h2 : ey = 0
      · rw [if_pos h2] at hmg
        have hys' := hys h2
        subst h2
        by_cases h3 : a = b
        · rw [if_pos h3] at hmg
          obtain ⟨rfl, rfl⟩ := Prod.mk.inj hmg
          subst h3
          clear hxs' hys'
          clear hmg hxs hys
          go_enter Tryz.func8, Tryz.ntmps8
          go_upto_region 1 with fail
          generalize ((w.alloc (.cells #[.int .i64 c.f, .int .i64 c.o, .int .i64 c.j, .int .i64 c.g, .int .i64 c.r, .int .i64 c.d, .int .i64 c.i] 34)).alloc (.cells #[.int .u64 W.seed, .slice p1 W.chs.length k1, .slice p2 W.cls.length k2] 38)) = W0 at *
          obtain ⟨x0, x1, x2, x3, x4, x5, x6⟩ := HB.out.cb
          have zx := cell_lt x0
          go_upto_region 2 with (go_at_call 25; refine (HCK.out _).mono ?_; rintro e w1 ⟨rfl, hb1⟩; have HB1 := Lib.hid (HB.out.below hb1); clear hb1)
          clear x0 x1 x2 x3 x4 x5 x6 zx HB
          obtain ⟨-, l0, l1, l2, -⟩ := HB1.out
          have zl := cell_lt l0
          go_upto_region 5 with (go_at_call 26; refine (HX.out _ HB1.out.bel).mono ?_; rintro e w2 ⟨rfl, hb2⟩; have HB2 := Lib.hid (HB1.out.below hb2); clear hb2)
          clear l0 l1 l2 zl HB1
          obtain ⟨-, l0, l1, l2, -⟩ := HB2.out
          have zl := cell_lt l0
          go_upto_region 8 with (go_at_call 26; refine (HY.out _ HB2.out.bel).mono ?_; rintro e w3 ⟨rfl, hb3⟩; have HB3 := Lib.hid (HB2.out.below hb3); clear hb3)
          clear l0 l1 l2 zl HB2
          go_wp2_with fail
          go_ret2
          exact ⟨rfl, HB3.out.bel⟩
        · rw [if_neg h3] at hmg
          have kw : IntKind.i64.wrap (x - y) = x - y := IntWalk.i64_in _ (by omega)
          have HSW := Lib.hid (fun X => show_any c W.seed s (x - y) X)
          obtain ⟨hm, hg⟩ := Prod.mk.inj hmg
          rw [← hm, ← hg] at HSW
          unfold cntVal at HSW
          clear hmg hxs hys hm hg hxs' hys'
          go_enter Tryz.func8, Tryz.ntmps8
          go_upto_region 1 with fail
          generalize ((w.alloc (.cells #[.int .i64 c.f, .int .i64 c.o, .int .i64 c.j, .int .i64 c.g, .int .i64 c.r, .int .i64 c.d, .int .i64 c.i] 34)).alloc (.cells #[.int .u64 W.seed, .slice p1 W.chs.length k1, .slice p2 W.cls.length k2] 38)) = W0 at *
          obtain ⟨x0, x1, x2, x3, x4, x5, x6⟩ := HB.out.cb
          have zx := cell_lt x0
          go_upto_region 2 with (go_at_call 25; refine (HCK.out _).mono ?_; rintro e w1 ⟨rfl, hb1⟩; have HB1 := Lib.hid (HB.out.below hb1); clear hb1)
          clear x0 x1 x2 x3 x4 x5 x6 zx HB
          obtain ⟨-, l0, l1, l2, -⟩ := HB1.out
          have zl := cell_lt l0
          go_upto_region 5 with (go_at_call 26; refine (HX.out _ HB1.out.bel).mono ?_; rintro e w2 ⟨rfl, hb2⟩; have HB2 := Lib.hid (HB1.out.below hb2); clear hb2)
          clear l0 l1 l2 zl HB1
          obtain ⟨-, l0, l1, l2, -⟩ := HB2.out
          have zl := cell_lt l0
          go_upto_region 8 with (go_at_call 26; refine (HY.out _ HB2.out.bel).mono ?_; rintro e w3 ⟨rfl, hb3⟩; have HB3 := Lib.hid (HB2.out.below hb3); clear hb3)
          clear l0 l1 l2 zl HB2
          obtain ⟨-, l0, l1, l2, -⟩ := HB3.out
          have zl := cell_lt l0
          obtain ⟨x0, x1, x2, x3, x4, x5, x6⟩ := HB3.out.cb
          have zx := cell_lt x0
          go_wp2_with (go_at_call 19; refine (HSW.out _).mono ?_; rintro e w4 ⟨rfl, hb4⟩; have HB4 := Lib.hid (HB3.out.below hb4); clear hb4)
          go_ret2
          exact ⟨rfl, HB4.out.bel⟩
      · rw [if_neg h2] at hmg
        obtain ⟨rfl, rfl⟩ := Prod.mk.inj hmg
        have hge : (g != 0) = true := by simpa using h2
        clear hxs'
        clear hmg hxs hys
        go_enter Tryz.func8, Tryz.ntmps8
        go_upto_region 1 with fail
        generalize ((w.alloc (.cells #[.int .i64 c.f, .int .i64 c.o, .int .i64 c.j, .int .i64 c.g, .int .i64 c.r, .int .i64 c.d, .int .i64 c.i] 34)).alloc (.cells #[.int .u64 W.seed, .slice p1 W.chs.length k1, .slice p2 W.cls.length k2] 38)) = W0 at *
        obtain ⟨x0, x1, x2, x3, x4, x5, x6⟩ := HB.out.cb
        have zx := cell_lt x0
        go_upto_region 2 with (go_at_call 25; refine (HCK.out _).mono ?_; rintro e w1 ⟨rfl, hb1⟩; have HB1 := Lib.hid (HB.out.below hb1); clear hb1)
        clear x0 x1 x2 x3 x4 x5 x6 zx HB
        obtain ⟨-, l0, l1, l2, -⟩ := HB1.out
        have zl := cell_lt l0
        go_upto_region 5 with (go_at_call 26; refine (HX.out _ HB1.out.bel).mono ?_; rintro e w2 ⟨rfl, hb2⟩; have HB2 := Lib.hid (HB1.out.below hb2); clear hb2)
        clear l0 l1 l2 zl HB1
        obtain ⟨-, l0, l1, l2, -⟩ := HB2.out
        have zl := cell_lt l0
        go_wp2_with (go_at_call 26; refine (HY.out _ HB2.out.bel).mono ?_; rintro e w3 ⟨rfl, hb3⟩; have HB3 := Lib.hid (HB2.out.below hb3); clear hb3)
        go_ret2
        exact ⟨rfl, HB3.out.bel⟩
    · rw [if_neg h1] at hmg
      obtain ⟨rfl, rfl⟩ := Prod.mk.inj hmg
      have hge : (g != 0) = true := by simpa using h1
      clear hmg hxs hys
      go_enter Tryz.func8, Tryz.ntmps8
      go_upto_region 1 with fail
      generalize ((w.alloc (.cells #[.int .i64 c.f, .int .i64 c.o, .int .i64 c.j, .int .i64 c.g, .int .i64 c.r, .int .i64 c.d, .int .i64 c.i] 34)).alloc (.cells #[.int .u64 W.seed, .slice p1 W.chs.length k1, .slice p2 W.cls.length k2] 38)) = W0 at *
      obtain ⟨x0, x1, x2, x3, x4, x5, x6⟩ := HB.out.cb
      have zx := cell_lt x0
      go_upto_region 2 with (go_at_call 25; refine (HCK.out _).mono ?_; rintro e w1 ⟨rfl, hb1⟩; have HB1 := Lib.hid (HB.out.below hb1); clear hb1)
      clear x0 x1 x2 x3 x4 x5 x6 zx HB
      obtain ⟨-, l0, l1, l2, -⟩ := HB1.out
      have zl := cell_lt l0
      go_wp2_with (go_at_call 26; refine (HX.out _ HB1.out.bel).mono ?_; rintro e w2 ⟨rfl, hb2⟩; have HB2 := Lib.hid (HB1.out.below hb2); clear hb2)
      go_ret2
      exact ⟨rfl, HB2.out.bel⟩
  · rw [if_neg hc] at hmg
    rw [show checkC c = 30 from if_neg hc] at HCK
    obtain ⟨rfl, rfl⟩ := Prod.mk.inj hmg
    clear hc
    clear hmg hxs hys
    go_enter Tryz.func8, Tryz.ntmps8
    go_upto_region 1 with fail
    generalize ((w.alloc (.cells #[.int .i64 c.f, .int .i64 c.o, .int .i64 c.j, .int .i64 c.g, .int .i64 c.r, .int .i64 c.d, .int .i64 c.i] 34)).alloc (.cells #[.int .u64 W.seed, .slice p1 W.chs.length k1, .slice p2 W.cls.length k2] 38)) = W0 at *
    obtain ⟨x0, x1, x2, x3, x4, x5, x6⟩ := HB.out.cb
    have zx := cell_lt x0
    go_wp2_with (go_at_call 25; refine (HCK.out _).mono ?_; rintro e w1 ⟨rfl, hb1⟩; have HB1 := Lib.hid (HB.out.below hb1); clear hb1)
    go_ret2
    exact ⟨rfl, HB1.out.bel⟩
end Go.Proofs.YtlelamjbfjneiaaGreatDoor.Ct
namespace Go.Proofs.YtlelamjbfjneiaaGreatDoor.Ct
open Go Go.RowKit Go.Shelf
attribute [local go_sem] Oper.semAt_some
/-- what the law holds: a counter and a world of its own, and the world that came in -/
structure MeetIn (w X : World) (c : Cnt) (W : Wd.Wld) (p2 q1 q2 : Option Addr) (c2 d1 d2 b1 b2 : Nat) : Prop where
  cb : CBox X b1 c
  g0 : X.cell? ⟨b2, 0, none⟩ = some (.int .u64 W.seed)
  g1 : X.cell? ⟨b2, 1, none⟩ = some (.slice q1 W.chs.length d1)
  g2 : X.cell? ⟨b2, 2, none⟩ = some (.slice q2 W.cls.length d2)
  r2 : X.cell? ⟨w.heap.size + 1, 2, none⟩ = some (.slice p2 W.cls.length c2)
  own : Wd.WldIn X W q1 q2
  bel : Below w.heap.size w X
theorem MeetIn.below {w X Y : World} {c : Cnt} {W : Wd.Wld} {p2 q1 q2 : Option Addr} {c2 d1 d2 b1 b2 : Nat} (h : MeetIn w X c W p2 q1 q2 c2 d1 d2 b1 b2) (hb : Below X.heap.size X Y) : MeetIn w Y c W p2 q1 q2 c2 d1 d2 b1 b2 :=
  ⟨h.cb.below hb, cell_below hb h.g0, cell_below hb h.g1, cell_below hb h.g2, cell_below hb h.r2, h.own.below hb, h.bel.trans (hb.mono h.bel.size)⟩
/-- what a law over a counter and a world begins with -/
structure MeetAt (w X : World) (c : Cnt) (W : Wd.Wld) (p1 p2 : Option Addr) (c1 c2 : Nat) : Prop where
  z0 : X.cell? ⟨w.heap.size, 0, none⟩ = some (.int .i64 c.f)
  z1 : X.cell? ⟨w.heap.size, 1, none⟩ = some (.int .i64 c.o)
  z2 : X.cell? ⟨w.heap.size, 2, none⟩ = some (.int .i64 c.j)
  z3 : X.cell? ⟨w.heap.size, 3, none⟩ = some (.int .i64 c.g)
  z4 : X.cell? ⟨w.heap.size, 4, none⟩ = some (.int .i64 c.r)
  z5 : X.cell? ⟨w.heap.size, 5, none⟩ = some (.int .i64 c.d)
  z6 : X.cell? ⟨w.heap.size, 6, none⟩ = some (.int .i64 c.i)
  r0 : X.cell? ⟨w.heap.size + 1, 0, none⟩ = some (.int .u64 W.seed)
  r1 : X.cell? ⟨w.heap.size + 1, 1, none⟩ = some (.slice p1 W.chs.length c1)
  r2 : X.cell? ⟨w.heap.size + 1, 2, none⟩ = some (.slice p2 W.cls.length c2)
  own : Wd.WldIn X W p1 p2
  bel : Below w.heap.size w X
theorem MeetAt.below {w X Y : World} {c : Cnt} {W : Wd.Wld} {p1 p2 : Option Addr} {c1 c2 : Nat} (h : MeetAt w X c W p1 p2 c1 c2) (hb : Below X.heap.size X Y) : MeetAt w Y c W p1 p2 c1 c2 :=
  ⟨cell_below hb h.z0, cell_below hb h.z1, cell_below hb h.z2, cell_below hb h.z3, cell_below hb h.z4, cell_below hb h.z5, cell_below hb h.z6, cell_below hb h.r0, cell_below hb h.r1, cell_below hb h.r2, h.own.below hb, h.bel.trans (hb.mono h.bel.size)⟩
theorem MeetAt.new {w : World} (c : Cnt) (W : Wd.Wld) (p1 p2 : Option Addr) (c1 c2 : Nat) (hW : Wd.WldIn w W p1 p2) : MeetAt w ((w.alloc (.cells #[.int .i64 c.f, .int .i64 c.o, .int .i64 c.j, .int .i64 c.g, .int .i64 c.r, .int .i64 c.d, .int .i64 c.i] 23)).alloc (.cells #[.int .u64 W.seed, .slice p1 W.chs.length c1, .slice p2 W.cls.length c2] 28)) c W p1 p2 c1 c2 := by
  have hb := below_alloc (below_alloc (Below.refl w.heap.size w) (.cells #[.int .i64 c.f, .int .i64 c.o, .int .i64 c.j, .int .i64 c.g, .int .i64 c.r, .int .i64 c.d, .int .i64 c.i] 23)) (.cells #[.int .u64 W.seed, .slice p1 W.chs.length c1, .slice p2 W.cls.length c2] 28)
  exact ⟨by simp, by simp, by simp, by simp, by simp, by simp, by simp, by simp, by simp, by simp, hW.below hb, hb⟩
end Go.Proofs.YtlelamjbfjneiaaGreatDoor.Ct
namespace Go.Proofs.YtlelamjbfjneiaaGreatDoor.Ct
open Go Go.RowKit Go.Shelf
/-- nothing but block b has changed -/
structure Only (b : Nat) (X Y : World) : Prop where
  os : Y.os = X.os
  tape : Y.tape = X.tape
  output : Y.output = X.output
  size : Y.heap.size = X.heap.size
  block : ∀ k, k ≠ b → Y.heap[k]? = X.heap[k]?
variable {w w1 X Y : World} {b b' n : Nat}
theorem Only.refl (b : Nat) (X : World) : Only b X X := ⟨rfl, rfl, rfl, rfl, fun _ _ => rfl⟩
theorem Only.set (h : Only b X Y) (i : Nat) (v : Value) : Only b X (Y.setCell ⟨b, i, none⟩ v) :=
  ⟨h.os, h.tape, h.output, by rw [← h.size]; simp [World.setCell], fun k hk => (Below.heap_setCell Y ⟨b, i, none⟩ v k hk).trans (h.block k hk)⟩
theorem Only.below {A : World} (h : Only b X Y) (hb : Below n A X) (hn : n ≤ b) : Below n A Y :=
  hb.trans ⟨h.os, h.tape, h.output, Nat.le_of_eq h.size.symm, fun k hk => h.block k (by omega)⟩
theorem Only.cell (h : Only b X Y) {k o : Nat} {v : Value} (hk : k ≠ b) (hc : X.cell? ⟨k, o, none⟩ = some v) : Y.cell? ⟨k, o, none⟩ = some v :=
  (World.cell?_of_block (a := ⟨k, o, none⟩) (h.block k hk)).trans hc
theorem Only.frozen (h : Only b X Y) {k o : Nat} (hk : k ≠ b) (hc : X.frozen? ⟨k, o, none⟩ = false) : Y.frozen? ⟨k, o, none⟩ = false :=
  (World.frozen?_of_block (a := ⟨k, o, none⟩) (h.block k hk)).trans hc
/-- a box for a counter, fresh -/
structure ZC (X : World) (b : Nat) : Prop where
  c0 : X.cell? ⟨b, 0, none⟩ = some (.int .i64 0)
  c1 : X.cell? ⟨b, 1, none⟩ = some (.int .i64 0)
  c2 : X.cell? ⟨b, 2, none⟩ = some (.int .i64 0)
  c3 : X.cell? ⟨b, 3, none⟩ = some (.int .i64 0)
  c4 : X.cell? ⟨b, 4, none⟩ = some (.int .i64 0)
  c5 : X.cell? ⟨b, 5, none⟩ = some (.int .i64 0)
  c6 : X.cell? ⟨b, 6, none⟩ = some (.int .i64 0)
  f0 : X.frozen? ⟨b, 0, none⟩ = false
  f1 : X.frozen? ⟨b, 1, none⟩ = false
  f2 : X.frozen? ⟨b, 2, none⟩ = false
  f3 : X.frozen? ⟨b, 3, none⟩ = false
  f4 : X.frozen? ⟨b, 4, none⟩ = false
  f5 : X.frozen? ⟨b, 5, none⟩ = false
  f6 : X.frozen? ⟨b, 6, none⟩ = false
theorem ZC.new (X : World) (t : TypeId) : ZC (X.alloc (.cells #[.int .i64 0, .int .i64 0, .int .i64 0, .int .i64 0, .int .i64 0, .int .i64 0, .int .i64 0] t)) X.heap.size :=
  ⟨by simp, by simp, by simp, by simp, by simp, by simp, by simp, by simp, by simp, by simp, by simp, by simp, by simp, by simp⟩
theorem fz_below {o : Nat} {v : Value} (hb : Below X.heap.size X Y) (hc : X.cell? ⟨b, o, none⟩ = some v) (h : X.frozen? ⟨b, o, none⟩ = false) : Y.frozen? ⟨b, o, none⟩ = false :=
  (hb.frozen (p := ⟨b, o, none⟩) (cell_lt hc)).trans h
theorem ZC.below (h : ZC X b) (hb : Below X.heap.size X Y) : ZC Y b :=
  ⟨cell_below hb h.c0, cell_below hb h.c1, cell_below hb h.c2, cell_below hb h.c3, cell_below hb h.c4, cell_below hb h.c5, cell_below hb h.c6,
   fz_below hb h.c0 h.f0, fz_below hb h.c1 h.f1, fz_below hb h.c2 h.f2, fz_below hb h.c3 h.f3, fz_below hb h.c4 h.f4, fz_below hb h.c5 h.f5, fz_below hb h.c6 h.f6⟩
theorem ZC.only (h : ZC X b) (hb : Only b' X Y) (hn : b ≠ b') : ZC Y b :=
  ⟨hb.cell hn h.c0, hb.cell hn h.c1, hb.cell hn h.c2, hb.cell hn h.c3, hb.cell hn h.c4, hb.cell hn h.c5, hb.cell hn h.c6, hb.frozen hn h.f0, hb.frozen hn h.f1, hb.frozen hn h.f2, hb.frozen hn h.f3, hb.frozen hn h.f4, hb.frozen hn h.f5, hb.frozen hn h.f6⟩
/-- a box for a world, fresh -/
structure ZW (X : World) (b : Nat) : Prop where
  c0 : X.cell? ⟨b, 0, none⟩ = some (.int .u64 0)
  c1 : X.cell? ⟨b, 1, none⟩ = some (.slice none 0 0)
  c2 : X.cell? ⟨b, 2, none⟩ = some (.slice none 0 0)
  f0 : X.frozen? ⟨b, 0, none⟩ = false
  f1 : X.frozen? ⟨b, 1, none⟩ = false
  f2 : X.frozen? ⟨b, 2, none⟩ = false
theorem ZW.new (X : World) (t : TypeId) : ZW (X.alloc (.cells #[.int .u64 0, .slice none 0 0, .slice none 0 0] t)) X.heap.size := ⟨by simp, by simp, by simp, by simp, by simp, by simp⟩
theorem ZW.below (h : ZW X b) (hb : Below X.heap.size X Y) : ZW Y b :=
  ⟨cell_below hb h.c0, cell_below hb h.c1, cell_below hb h.c2, fz_below hb h.c0 h.f0, fz_below hb h.c1 h.f1, fz_below hb h.c2 h.f2⟩
theorem ZW.only (h : ZW X b) (hb : Only b' X Y) (hn : b ≠ b') : ZW Y b :=
  ⟨hb.cell hn h.c0, hb.cell hn h.c1, hb.cell hn h.c2, hb.frozen hn h.f0, hb.frozen hn h.f1, hb.frozen hn h.f2⟩
theorem CBox.only {c : Cnt} (h : CBox X b c) (hb : Only b' X Y) (hn : b ≠ b') : CBox Y b c :=
  ⟨hb.cell hn h.c0, hb.cell hn h.c1, hb.cell hn h.c2, hb.cell hn h.c3, hb.cell hn h.c4, hb.cell hn h.c5, hb.cell hn h.c6⟩
/-- a world's box -/
structure WB (X : World) (b : Nat) (W : Wd.Wld) (q1 q2 : Option Addr) (d1 d2 : Nat) : Prop where
  c0 : X.cell? ⟨b, 0, none⟩ = some (.int .u64 W.seed)
  c1 : X.cell? ⟨b, 1, none⟩ = some (.slice q1 W.chs.length d1)
  c2 : X.cell? ⟨b, 2, none⟩ = some (.slice q2 W.cls.length d2)
  f0 : X.frozen? ⟨b, 0, none⟩ = false
theorem WB.below {W : Wd.Wld} {q1 q2 : Option Addr} {d1 d2 : Nat} (h : WB X b W q1 q2 d1 d2) (hb : Below X.heap.size X Y) : WB Y b W q1 q2 d1 d2 := ⟨cell_below hb h.c0, cell_below hb h.c1, cell_below hb h.c2, fz_below hb h.c0 h.f0⟩
theorem WB.only {W : Wd.Wld} {q1 q2 : Option Addr} {d1 d2 : Nat} (h : WB X b W q1 q2 d1 d2) (hb : Only b' X Y) (hn : b ≠ b') : WB Y b W q1 q2 d1 d2 := ⟨hb.cell hn h.c0, hb.cell hn h.c1, hb.cell hn h.c2, hb.frozen hn h.f0⟩
theorem other_cell {X : World} {b i j : Nat} {u v : Value} (hij : i ≠ j) (h : X.cell? ⟨b, j, none⟩ = some v) : (X.setCell ⟨b, i, none⟩ u).cell? ⟨b, j, none⟩ = some v := by
  rw [World.cell?_setCell_other X ⟨b, i, none⟩ ⟨b, j, none⟩ u (fun e => by cases e; exact hij rfl)]; exact h
/-- a counter is stored -/
theorem ZC.store (h : ZC X b) (c : Cnt) : ∀ Y, Y = ((((((X.setCell ⟨b, 0, none⟩ (.int .i64 c.f)).setCell ⟨b, 1, none⟩ (.int .i64 c.o)).setCell ⟨b, 2, none⟩ (.int .i64 c.j)).setCell ⟨b, 3, none⟩ (.int .i64 c.g)).setCell ⟨b, 4, none⟩ (.int .i64 c.r)).setCell ⟨b, 5, none⟩ (.int .i64 c.d)).setCell ⟨b, 6, none⟩ (.int .i64 c.i) → CBox Y b c ∧ Only b X Y := by
  rintro _ rfl
  refine ⟨⟨?_, ?_, ?_, ?_, ?_, ?_, ?_⟩, (((((((Only.refl b X).set 0 _).set 1 _).set 2 _).set 3 _).set 4 _).set 5 _).set 6 _⟩
  · exact other_cell (by decide) (other_cell (by decide) (other_cell (by decide) (other_cell (by decide) (other_cell (by decide) (other_cell (by decide) (World.cell?_setCell_same _ _ _ h.c0))))))
  · exact other_cell (by decide) (other_cell (by decide) (other_cell (by decide) (other_cell (by decide) (other_cell (by decide) (World.cell?_setCell_same _ _ _ (other_cell (by decide) h.c1))))))
  · exact other_cell (by decide) (other_cell (by decide) (other_cell (by decide) (other_cell (by decide) (World.cell?_setCell_same _ _ _ (other_cell (by decide) (other_cell (by decide) h.c2))))))
  · exact other_cell (by decide) (other_cell (by decide) (other_cell (by decide) (World.cell?_setCell_same _ _ _ (other_cell (by decide) (other_cell (by decide) (other_cell (by decide) h.c3))))))
  · exact other_cell (by decide) (other_cell (by decide) (World.cell?_setCell_same _ _ _ (other_cell (by decide) (other_cell (by decide) (other_cell (by decide) (other_cell (by decide) h.c4))))))
  · exact other_cell (by decide) (World.cell?_setCell_same _ _ _ (other_cell (by decide) (other_cell (by decide) (other_cell (by decide) (other_cell (by decide) (other_cell (by decide) h.c5))))))
  · exact World.cell?_setCell_same _ _ _ (other_cell (by decide) (other_cell (by decide) (other_cell (by decide) (other_cell (by decide) (other_cell (by decide) (other_cell (by decide) h.c6))))))
theorem ZW.store (h : ZW X b) (W : Wd.Wld) (q1 q2 : Option Addr) (d1 d2 : Nat) : ∀ Y, Y = ((X.setCell ⟨b, 0, none⟩ (.int .u64 W.seed)).setCell ⟨b, 1, none⟩ (.slice q1 W.chs.length d1)).setCell ⟨b, 2, none⟩ (.slice q2 W.cls.length d2) → WB Y b W q1 q2 d1 d2 ∧ Only b X Y := by
  rintro _ rfl
  refine ⟨⟨?_, ?_, ?_, by rw [World.frozen?_setCell, World.frozen?_setCell, World.frozen?_setCell]; exact h.f0⟩, (((Only.refl b X).set 0 _).set 1 _).set 2 _⟩
  · exact other_cell (by decide) (other_cell (by decide) (World.cell?_setCell_same _ _ _ h.c0))
  · exact other_cell (by decide) (World.cell?_setCell_same _ _ _ (other_cell (by decide) h.c1))
  · exact World.cell?_setCell_same _ _ _ (other_cell (by decide) (other_cell (by decide) h.c2))
/-- a world of the call's own, in none of these blocks -/
def WldNo (n : Nat) (bad : Nat → Prop) (X : World) (W : Wd.Wld) (q1 q2 : Option Addr) : Prop := ∀ Z : World, (∀ k o, n ≤ k → ¬ bad k → X.heap[k]? = some o → Z.heap[k]? = some o) → Wd.WldIn Z W q1 q2
theorem WldNo.in_ {bad : Nat → Prop} {W : Wd.Wld} {q1 q2 : Option Addr} (h : WldNo n bad X W q1 q2) : Wd.WldIn X W q1 q2 := h X fun _ _ _ _ h => h
theorem WldNo.alloc {bad : Nat → Prop} {W : Wd.Wld} {q1 q2 : Option Addr} (h : WldNo n bad X W q1 q2) (o : Obj) : WldNo n (fun k => bad k ∨ k = X.heap.size) (X.alloc o) W q1 q2 := fun Z hZ => h Z fun k u hk hb hX => by
  have hlt : k < X.heap.size := (Array.getElem?_eq_some_iff.1 hX).1
  exact hZ k u hk (fun e => e.elim hb (fun e => by omega)) ((Below.heap_alloc X o k hlt).trans hX)
theorem WldNo.only {bad : Nat → Prop} {W : Wd.Wld} {q1 q2 : Option Addr} (h : WldNo n bad X W q1 q2) (hb : Only b X Y) (hbad : bad b) : WldNo n bad Y W q1 q2 := fun Z hZ => h Z fun k u hk hnb hX => by
  refine hZ k u hk hnb ((hb.block k (fun e => ?_)).trans hX)
  subst e; exact hnb hbad
theorem WldNo.call {bad : Nat → Prop} {W : Wd.Wld} {q1 q2 : Option Addr} (h : Wd.WldFr X.heap.size Y W q1 q2) (hn : n ≤ X.heap.size) (hb : ∀ k, bad k → k < X.heap.size) : WldNo n bad Y W q1 q2 := fun Z hZ => h Z fun k u hk hX => hZ k u (by omega) (fun e => by have := hb k e; omega) hX
theorem keepM {W' : World} {c : Cnt} {W : Wd.Wld} {p1 p2 : Option Addr} {c1 c2 : Nat} (h : MeetAt w w1 c W p1 p2 c1 c2) (hb : Below w1.heap.size w1 W') : MeetAt w W' c W p1 p2 c1 c2 := h.below hb
/-- the two boxes, at last -/
theorem meet_done {c : Cnt} {W : Wd.Wld} {p1 p2 q1 q2 : Option Addr} {c1 c2 d1 d2 b1 b2 : Nat} {bad : Nat → Prop} (h : MeetAt w w1 c W p1 p2 c1 c2) (hb : Below w1.heap.size w1 X) (hcb : CBox X b1 c) (hw : WB X b2 W q1 q2 d1 d2) (ho : WldNo n bad X W q1 q2) : MeetIn w X c W p2 q1 q2 c2 d1 d2 b1 b2 :=
  ⟨hcb, hw.c0, hw.c1, hw.c2, cell_below hb h.r2, ho.in_, h.bel.trans (hb.mono h.bel.size)⟩
/-- the law's own world gets another seed -/
theorem meet_seed {c : Cnt} {W : Wd.Wld} {p2 q1 q2 : Option Addr} {c2 d1 d2 b1 b2 : Nat} (h : MeetIn w X c W p2 q1 q2 c2 d1 d2 b1 b2) (hno : ∃ (n : Nat) (bad : Nat → Prop), WldNo n bad X W q1 q2 ∧ bad b2) (hb : b1 ≠ b2 ∧ w.heap.size + 1 < b2) (seed : Int) : MeetIn w (X.setCell ⟨b2, 0, none⟩ (.int .u64 seed)) c (Wd.reseed W seed) p2 q1 q2 c2 d1 d2 b1 b2 := by
  obtain ⟨n, bad, hW, hbad⟩ := hno
  have ho : Only b2 X (X.setCell ⟨b2, 0, none⟩ (.int .u64 seed)) := (Only.refl b2 X).set 0 _
  exact ⟨h.cb.only ho hb.1, World.cell?_setCell_same _ _ _ h.g0, other_cell (by decide) h.g1, other_cell (by decide) h.g2, ho.cell (by omega) h.r2, (hW.only ho hbad).in_, ho.below h.bel (by omega)⟩
end Go.Proofs.YtlelamjbfjneiaaGreatDoor.Ct
