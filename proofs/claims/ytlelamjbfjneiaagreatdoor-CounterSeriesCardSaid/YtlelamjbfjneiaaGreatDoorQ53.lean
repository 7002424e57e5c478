/- The law CounterSeries. -/
import Derived.Test.YtlelamjbfjneiaaGreatDoorQ36
import Derived.Test.YtlelamjbfjneiaaGreatDoorQ51
import Derived.Test.YtlelamjbfjneiaaGreatDoorQ52
import Derived.Test.YtlelamjbfjneiaaGreatDoorQ49
import Derived.Test.YtlelamjbfjneiaaGreatDoorQ30
import Derived.Test.YtlelamjbfjneiaaGreatDoorQ20
import Derived.Test.YtlelamjbfjneiaaGreatDoorQ43
import Derived.Test.YtlelamjbfjneiaaGreatDoorQ44
import Derived.Test.YtlelamjbfjneiaaGreatDoorQ47
namespace Go.Proofs.YtlelamjbfjneiaaGreatDoor.Ct
open Go Go.RowKit Go.Shelf
attribute [local go_sem] Oper.semAt_some
theorem FnIn.congr {X : World} {f g : Nat → Int} {n : Nat} {p : Option Addr} (h : FnIn X f n p) (e : ∀ i, i < n → f i = g i) : FnIn X g n p :=
  h.imp id fun ⟨b, o, q, hi⟩ => ⟨b, o, q, fun i hl => by rw [hi i hl, e i hl]⟩
def cntOf (e : Int) (n : Nat) : Nat := if e = 0 then n else 0
theorem cntOf_le (e : Int) (n : Nat) : cntOf e n ≤ n := by unfold cntOf; split <;> omega
/-- a list of numbers, or none, and an error -/
def IntsRet (f : Nat → Int) (g : Int) (n : Nat) (w : World) (e : Ending) (w' : World) : Prop :=
  (∃ p cap, e = .returned (.tuple #[.slice p (cntOf g n) cap, .int .i64 g]) ∧ FnIn w' f (cntOf g n) p) ∧ Below w.heap.size w w'
def SpansRet (f : Nat → Int × Int) (g : Int) (n : Nat) (w : World) (e : Ending) (w' : World) : Prop :=
  (∃ p cap, e = .returned (.tuple #[.slice p (cntOf g n) cap, .int .i64 g]) ∧ SpnIn w' f (cntOf g n) p) ∧ Below w.heap.size w w'
theorem cntOf_no {g : Int} (n : Nat) (h : g ≠ 0) : cntOf g n = 0 := if_neg h
theorem unw_ints {c : Cnt} {m : Nat → Int} {n : Nat} {most : Int} {w w' : World} {e : Ending} (h : UnwAny c m n most w e w') : IntsRet (unwS c m) (unwErr c m n most) n w e w' := by
  refine ⟨?_, h.2⟩
  rcases h.1 with ⟨h1, h2⟩ | ⟨h1, p, cap, h2, h3⟩
  · rw [cntOf_no n h1]; exact ⟨none, 0, h2, .inl rfl⟩
  · rw [h1]; exact ⟨p, cap, h2, h3⟩
theorem wat_ints {c : Cnt} {W : Wd.Wld} {a b from_ step : Int} {n : Nat} {w w' : World} {e : Ending} (h : WatRet c W a b from_ step n w e w') : IntsRet (watchM c W a b from_ step) (watchErr c W a b from_ step n) n w e w' := by
  refine ⟨?_, h.2⟩
  rcases h.1 with ⟨h1, h2⟩ | ⟨h1, g, h2, h3, -⟩
  · rw [cntOf_no n h1]; exact ⟨none, 0, h2, .inl rfl⟩
  · rw [h1]
    rw [Int.toNat_natCast] at h2 h3
    exact ⟨some ⟨g, 0, none⟩, n, h2, .inr ⟨g, 0, rfl, h3⟩⟩
theorem rwat_ints {c : Cnt} {W : Wd.Wld} {a b from_ step : Int} {n : Nat} {w w' : World} {e : Ending} (hf : -9223372036854775808 ≤ from_ ∧ from_ ≤ 9223372036854775807) (hs : step ≤ 9223372036854775807) (h : RWatRet c W a b from_ step n w e w') : IntsRet (watchM c W a b from_ step) (watchErr c W a b from_ step n) n w e w' := by
  obtain ⟨e1, e2⟩ := watch_same (c := c) (W := W) (a := a) (b := b) (n := (n : Int)) hf hs
  refine ⟨?_, h.2⟩
  rcases h.1 with ⟨h1, h2⟩ | ⟨h1, p, cap, h2, h3⟩
  · rw [e1] at h1 h2
    rw [cntOf_no n h1]; exact ⟨none, 0, h2, .inl rfl⟩
  · rw [e1] at h1
    have h4 := e2 h1
    rw [h1]
    rw [Int.toNat_natCast] at h2 h3 h4
    exact ⟨p, cap, h2, h3.congr h4⟩
theorem fol_spans {c : Cnt} {W : Wd.Wld} {a b from_ step : Int} {m : Nat → Int} {n : Nat} {f1 f2 : Int} {w w' : World} {e : Ending} (h : FolRet c W a b from_ step m n f1 f2 w e w') : SpansRet (fun i => (folS c W a b from_ step m f1 f2 i).1) (followErr c W a b from_ step m n f1 f2) n w e w' := by
  refine ⟨?_, h.2⟩
  rcases h.1 with ⟨h1, h2⟩ | ⟨h1, g, h2, -, h3⟩
  · rw [cntOf_no n h1]; exact ⟨none, 0, h2, .inl rfl⟩
  · rw [h1]; exact ⟨some ⟨g, 0, none⟩, n, h2, .inr ⟨g, 0, rfl, fun i hi => by rw [Nat.zero_add]; exact h3 i hi⟩⟩
theorem rfol_spans {c : Cnt} {W : Wd.Wld} {a b from_ step : Int} {m : Nat → Int} {n : Nat} {f1 f2 : Int} {w w' : World} {e : Ending} (h : RFolRet c W a b from_ step m n f1 f2 w e w') : SpansRet (fun i => (folS c W a b from_ step m f1 f2 i).1) (followErr c W a b from_ step m n f1 f2) n w e w' := by
  refine ⟨?_, h.2⟩
  rcases h.1 with ⟨h1, h2⟩ | ⟨h1, p, cap, h2, h3⟩
  · rw [cntOf_no n h1]; exact ⟨none, 0, h2, .inl rfl⟩
  · rw [h1]; exact ⟨p, cap, h2, h3⟩
/-- what the law holds behind its first lines -/
structure SerIn (w X : World) (c : Cnt) (W : Wd.Wld) (p1 p2 q1 q2 : Option Addr) (c1 c2 d1 d2 b1 b2 : Nat) (f1 f2 : Int) (l : List Int) (lp : Option Addr) : Prop where
  i : MeetIn w X c W p2 q1 q2 c2 d1 d2 b1 b2
  a : MeetAt w X c W p1 p2 c1 c2
  s : SpBox X (w.heap.size + 1 + 1) f1 f2
  t : Wd.Tabs X
  l : FnIn X (lAt l) l.length lp
theorem SerIn.below {w X Y : World} {c : Cnt} {W : Wd.Wld} {p1 p2 q1 q2 : Option Addr} {c1 c2 d1 d2 b1 b2 : Nat} {f1 f2 : Int} {l : List Int} {lp : Option Addr} (h : SerIn w X c W p1 p2 q1 q2 c1 c2 d1 d2 b1 b2 f1 f2 l lp) (hb : Below X.heap.size X Y) : SerIn w Y c W p1 p2 q1 q2 c1 c2 d1 d2 b1 b2 f1 f2 l lp :=
  ⟨h.i.below hb, h.a.below hb, h.s.below hb, h.t.below hb, h.l.below hb⟩
theorem SerIn.rshown {w X : World} {c : Cnt} {W : Wd.Wld} {p1 p2 q1 q2 : Option Addr} {c1 c2 d1 d2 b1 b2 : Nat} {f1 f2 : Int} {l : List Int} {lp : Option Addr} (h : SerIn w X c W p1 p2 q1 q2 c1 c2 d1 d2 b1 b2 f1 f2 l lp) : RShown W p1 p2 c1 c2 X ∧ RRuns W p1 p2 c1 c2 X ∧ RGrow W p1 p2 c1 c2 X :=
  ⟨fun k s Y hb => Wd.rShown_any W k s p1 p2 c1 c2 Y (h.a.own.below hb), fun k s Y hb => Wd.rRuns_any W k s p1 p2 c1 c2 Y (h.a.own.below hb), fun k s t Y hb => Wd.rGrowth_any W k s t p1 p2 c1 c2 Y (h.a.own.below hb)⟩
set_option maxRecDepth 100000 in
set_option maxHeartbeats 4000000 in
theorem series_big (c : Cnt) (W : Wd.Wld) (a b from_ step far f1 f2 : Int) (l : List Int) (p1 p2 lp : Option Addr) (c1 c2 lc : Nat) (w : World) (hW : Wd.WldIn w W p1 p2) (hb : Wd.bigS W = true ∨ 30 < l.length) :
    Calls Tryz.prog 3 #[cntVal c, wV W p1 p2 c1 c2, .int .i64 a, .int .i64 b, .int .i64 from_, .int .i64 step, .int .i64 far, .slice lp l.length lc, .agg #[.int .i64 f1, .int .i64 f2]] w fun e w' => e = .returned (.bool true) ∧ Below w.heap.size w w' := by
  have hm := MeetAt.new c W p1 p2 c1 c2 hW
  have HM := Lib.hid (hm.below (below_alloc (Below.refl _ _) (.cells #[.int .i64 f1, .int .i64 f2] 31)))
  have HBG := Lib.hid (fun X (h : Wd.WldIn X W p1 p2) => Wd.big_any W p1 p2 c1 c2 X h)
  unfold cntVal wV
  clear hW hm
  cases hbb : Wd.bigS W with
  | true =>
    rw [hbb] at HBG
    clear hb hbb
    go_enter Tryz.func3, Tryz.ntmps3
    go_upto_region 1 with fail
    generalize (((w.alloc (.cells #[.int .i64 c.f, .int .i64 c.o, .int .i64 c.j, .int .i64 c.g, .int .i64 c.r, .int .i64 c.d, .int .i64 c.i] 23)).alloc (.cells #[.int .u64 W.seed, .slice p1 W.chs.length c1, .slice p2 W.cls.length c2] 28)).alloc (.cells #[.int .i64 f1, .int .i64 f2] 31)) = W0 at *
    obtain ⟨-, -, -, -, -, -, -, r0, r1, r2, -, -⟩ := HM.out
    have zr := cell_lt r0
    go_wp2_with (first | (go_at_call 4; refine (HBG.out _ HM.out.own).mono ?_; rintro e w1 ⟨rfl, hb1⟩; have HM1 := Lib.hid (HM.out.below hb1); clear hb1) | (go_at_call 5; refine (awake2_any _).mono ?_; rintro e w2 ⟨rfl, hb2⟩; have HB2 := Lib.hid (bt HM1.out.bel hb2); clear hb2))
    go_ret
    exact ⟨rfl, HB2.out⟩
  | false =>
    rw [hbb] at HBG hb
    have hl : (30 : Int) < (l.length : Int) := by
      rcases hb with h | h
      · cases h
      · omega
    clear hb hbb
    go_enter Tryz.func3, Tryz.ntmps3
    go_upto_region 1 with fail
    generalize (((w.alloc (.cells #[.int .i64 c.f, .int .i64 c.o, .int .i64 c.j, .int .i64 c.g, .int .i64 c.r, .int .i64 c.d, .int .i64 c.i] 23)).alloc (.cells #[.int .u64 W.seed, .slice p1 W.chs.length c1, .slice p2 W.cls.length c2] 28)).alloc (.cells #[.int .i64 f1, .int .i64 f2] 31)) = W0 at *
    obtain ⟨-, -, -, -, -, -, -, r0, r1, r2, -, -⟩ := HM.out
    have zr := cell_lt r0
    go_wp2_with (first | (go_at_call 4; refine (HBG.out _ HM.out.own).mono ?_; rintro e w1 ⟨rfl, hb1⟩; have HM1 := Lib.hid (HM.out.below hb1); clear hb1) | (go_at_call 5; refine (awake2_any _).mono ?_; rintro e w2 ⟨rfl, hb2⟩; have HB2 := Lib.hid (bt HM1.out.bel hb2); clear hb2))
    go_ret
    exact ⟨rfl, HB2.out⟩
set_option maxRecDepth 100000 in
set_option maxHeartbeats 16000000 in
theorem series_law (c : Cnt) (W : Wd.Wld) (a b from_ step far f1 f2 : Int) (l : List Int) (p1 p2 lp : Option Addr) (c1 c2 lc : Nat) (w : World) (ht : Wd.Tabs w) (hW : Wd.WldIn w W p1 p2) (hb : Wd.bigS W = false) (hl30 : l.length ≤ 30) (hl : FnIn w (lAt l) l.length lp) (hfr : IntKind.i64.wrap from_ = from_) (hst : IntKind.i64.wrap step = step) :
    Calls Tryz.prog 3 #[cntVal c, wV W p1 p2 c1 c2, .int .i64 a, .int .i64 b, .int .i64 from_, .int .i64 step, .int .i64 far, .slice lp l.length lc, .agg #[.int .i64 f1, .int .i64 f2]] w fun e w' => e = .returned (.bool true) ∧ Below w.heap.size w w' := by
  have hm := MeetAt.new c W p1 p2 c1 c2 hW
  have HM := Lib.hid (hm.below (below_alloc (Below.refl _ _) (.cells #[.int .i64 f1, .int .i64 f2] 31)))
  have HF0 := Lib.hid (rfol_new w c W p1 p2 c1 c2 f1 f2).2
  have HT := Lib.hid ht
  have HL := Lib.hid hl
  have HN := Lib.hid hl30
  have HFR : Hid (-9223372036854775808 ≤ from_ ∧ from_ ≤ 9223372036854775807) := Lib.hid (by rw [IntKind.wrap_i64] at hfr; omega)
  have HSTP : Hid (step ≤ 9223372036854775807) := Lib.hid (by rw [IntKind.wrap_i64] at hst; omega)
  have HBG := Lib.hid (fun X (h : Wd.WldIn X W p1 p2) => Wd.big_any W p1 p2 c1 c2 X h)
  have HOW := Lib.hid (fun X (h : Wd.WldIn X W p1 p2) => Wd.own_fresh W p1 p2 c1 c2 X h hb)
  have hl30i : ¬ (30 : Int) < (l.length : Int) := by omega
  rw [hb] at HBG
  unfold cntVal wV
  clear hW ht hb hfr hst hm hl hl30
  go_enter Tryz.func3, Tryz.ntmps3
  go_upto_region 1 with fail
  generalize (((w.alloc (.cells #[.int .i64 c.f, .int .i64 c.o, .int .i64 c.j, .int .i64 c.g, .int .i64 c.r, .int .i64 c.d, .int .i64 c.i] 23)).alloc (.cells #[.int .u64 W.seed, .slice p1 W.chs.length c1, .slice p2 W.cls.length c2] 28)).alloc (.cells #[.int .i64 f1, .int .i64 f2] 31)) = W0 at *
  obtain ⟨-, -, -, -, -, -, -, r0, r1, r2, -, -⟩ := HM.out
  have zr := cell_lt r0
  go_upto_region 3 with (go_at_call 4; refine (HBG.out _ HM.out.own).mono ?_; rintro e w1 ⟨rfl, hb1⟩; have HM1 := Lib.hid (HM.out.below hb1); have HF1 := Lib.hid (HF0.out.below hb1); clear hb1)
  clear r0 r1 r2 zr HM HBG hl30i HF0
  have HOW1 : Hid (∀ X, Below w1.heap.size w1 X → Calls Tryz.prog 6 #[.agg #[.int .u64 W.seed, .slice p1 W.chs.length c1, .slice p2 W.cls.length c2]] X fun e Y => ∃ q1 q2 d1 d2, e = .returned (.agg #[.int .u64 W.seed, .slice q1 W.chs.length d1, .slice q2 W.cls.length d2]) ∧ Wd.WldFr X.heap.size Y W q1 q2 ∧ Below X.heap.size X Y ∧ Below w1.heap.size w1 Y) := Lib.hid fun X hb => (HOW.out X (HM1.out.own.below hb)).mono fun e Y ⟨q1, q2, d1, d2, h1, h2, h3⟩ => ⟨q1, q2, d1, d2, h1, h2, h3, bt hb h3⟩
  clear HOW
  go_cut [19, 20] from 44 to 46 (fun s19 s20 wx => ∃ (b1 b2 d1 d2 : Nat) (q1 q2 : Option Addr), s19 = .pointer (some ⟨b1, 0, none⟩) ∧ s20 = .pointer (some ⟨b2, 0, none⟩) ∧ Hid (MeetIn w wx c W p2 q1 q2 c2 d1 d2 b1 b2) ∧ Hid (Below w1.heap.size w1 wx))
  case first =>
    refine wp_region_held_drew (S := fun w' => Below w1.heap.size w1 w') (by kernel_rfl) (Below.drew (Below.refl _ _)) (fun hS0 => ?_)
    (try dsimp only at hS0)
    generalize w1.drew = X0 at *
    refine wpAnyH_take (i := 0) (v := ?_) rfl (by kernel_rfl) (by kernel_rfl) (by kernel_rfl) (fun _ _ _ h => h) (Or.inl ⟨by rfl, ?_⟩) (by assumption) ?_
    rotate_left
    · intro X hSX; (try dsimp only at hSX); obtain ⟨z0, z1, z2, z3, z4, z5, z6, r0, r1, r2, -, -⟩ := HM1.out.below hSX; have zz := cell_lt z0; have zr := cell_lt r0; go_simp; try with_reducible rfl
    simp only [Act.put, List.getElem_toArray, List.getElem_cons_zero, List.setIfInBounds_toArray, List.set_cons_zero, List.set_cons_succ]
    refine wpAnyH_take (i := 1) (v := ?_) rfl (by kernel_rfl) (by kernel_rfl) (by kernel_rfl) (fun _ _ _ h => h) (Or.inl ⟨by rfl, ?_⟩) (by assumption) ?_
    rotate_left
    · intro X hSX; (try dsimp only at hSX); obtain ⟨z0, z1, z2, z3, z4, z5, z6, r0, r1, r2, -, -⟩ := HM1.out.below hSX; have zz := cell_lt z0; have zr := cell_lt r0; go_simp; try with_reducible rfl
    simp only [Act.put, List.getElem_toArray, List.getElem_cons_succ, List.getElem_cons_zero, List.setIfInBounds_toArray, List.set_cons_zero, List.set_cons_succ]
    refine wpAnyH_ready (rs := [2, 3, 4]) (by kernel_rfl) (by simp) (AllReadyH.cons rfl (fun K hK => ?_) (AllReadyH.cons rfl (fun K hK => ?_) (AllReadyH.cons rfl (fun K hK => ?_) AllReadyH.nil)))
    · go_simp
      refine (HOW1.out _ hS0).mono ?_
      rintro e X1 ⟨q1, q2, d1, d2, rfl, hy, hby, hS1⟩
      go_wp2_with fail
      have HQ : Hid (WldNo w1.heap.size (fun _ => False) X1 W q1 q2) := Lib.hid (WldNo.call hy hS0.size (fun k hk => hk.elim))
      refine hK.out _ _ hS1 (fun _ => ?_)
      clear hK K
      clear hy hby
      refine wpAnyH_ready (rs := [3, 4]) (by kernel_rfl) (by simp) (AllReadyH.cons rfl (fun K hK => ?_) (AllReadyH.cons rfl (fun K hK => ?_) AllReadyH.nil))
      · go_simp
        have hS2 := below_alloc hS1 (.cells #[.int .i64 0, .int .i64 0, .int .i64 0, .int .i64 0, .int .i64 0, .int .i64 0, .int .i64 0] 34)
        have HAn := Lib.hid (ZC.new X1 34)
        have hgba : Hid (w1.heap.size ≤ X1.heap.size) := Lib.hid hS1.size
        have HQn := Lib.hid (HQ.out.alloc (.cells #[.int .i64 0, .int .i64 0, .int .i64 0, .int .i64 0, .int .i64 0, .int .i64 0, .int .i64 0] 34))
        refine hK.out _ _ hS2 (fun _ => ?_)
        clear hK K
        clear HQ
        have HQ := HQn
        clear HQn
        have HA := HAn
        clear HAn
        generalize X1.alloc (.cells #[.int .i64 0, .int .i64 0, .int .i64 0, .int .i64 0, .int .i64 0, .int .i64 0, .int .i64 0] 34) = X2 at *
        generalize X1.heap.size = ba at *
        refine wpAnyH_ready (rs := [4]) (by kernel_rfl) (by simp) (AllReadyH.cons rfl (fun K hK => ?_) AllReadyH.nil)
        go_simp
        have hS3 := below_alloc hS2 (.cells #[.int .u64 0, .slice none 0 0, .slice none 0 0] 38)
        have HBn := Lib.hid (ZW.new X2 38)
        have hgbb : Hid (w1.heap.size ≤ X2.heap.size) := Lib.hid hS2.size
        have hne : Hid (ba ≠ X2.heap.size) := Lib.hid (by have := cell_lt HA.out.c0; omega)
        have HAn := Lib.hid (HA.out.below (below_alloc (Below.refl _ _) (.cells #[.int .u64 0, .slice none 0 0, .slice none 0 0] 38)))
        have HQn := Lib.hid (HQ.out.alloc (.cells #[.int .u64 0, .slice none 0 0, .slice none 0 0] 38))
        refine hK.out _ _ hS3 (fun _ => ?_)
        clear hK K
        clear HA
        have HA := HAn
        clear HAn
        clear HQ
        have HQ := HQn
        clear HQn
        have HB := HBn
        clear HBn
        generalize X2.alloc (.cells #[.int .u64 0, .slice none 0 0, .slice none 0 0] 38) = X3 at *
        generalize X2.heap.size = bb at *
        refine wpAnyH_ready (rs := [5]) (by kernel_rfl) (by simp) (AllReadyH.cons rfl (fun K hK => ?_) AllReadyH.nil)
        obtain ⟨x0, x1, x2, x3, x4, x5, x6, f0, f1, f2, f3, f4, f5, f6⟩ := HA.out
        have zx := cell_lt x0
        go_simp
        clear x0 x1 x2 x3 x4 x5 x6 f0 f1 f2 f3 f4 f5 f6 zx
        obtain ⟨hcb, honly⟩ := HA.out.store c _ rfl
        have HAn := Lib.hid hcb
        have hS4 := honly.below hS3 hgba.out
        have HBn := Lib.hid (HB.out.only honly hne.out.symm)
        have HQn := Lib.hid (HQ.out.only honly (.inl (.inr rfl)))
        refine hK.out _ _ hS4 (fun _ => ?_)
        clear hK K hcb honly HA
        have HA := HAn
        clear HAn
        clear HB
        have HB := HBn
        clear HBn
        clear HQ
        have HQ := HQn
        clear HQn
        generalize (((((((X3.setCell ⟨ba, 0, none⟩ (.int .i64 c.f)).setCell ⟨ba, 1, none⟩ (.int .i64 c.o)).setCell ⟨ba, 2, none⟩ (.int .i64 c.j)).setCell ⟨ba, 3, none⟩ (.int .i64 c.g)).setCell ⟨ba, 4, none⟩ (.int .i64 c.r)).setCell ⟨ba, 5, none⟩ (.int .i64 c.d)).setCell ⟨ba, 6, none⟩ (.int .i64 c.i)) = X4 at *
        refine wpAnyH_ready (rs := [6]) (by kernel_rfl) (by simp) (AllReadyH.cons rfl (fun K hK => ?_) AllReadyH.nil)
        obtain ⟨x0, x1, x2, f0, f1, f2⟩ := HB.out
        have zx := cell_lt x0
        go_simp
        clear x0 x1 x2 f0 f1 f2 zx
        obtain ⟨hcb, honly⟩ := HB.out.store W q1 q2 d1 d2 _ rfl
        have HBn := Lib.hid hcb
        have hS5 := honly.below hS4 hgbb.out
        have HAn := Lib.hid (HA.out.only honly hne.out)
        have HQn := Lib.hid (HQ.out.only honly (.inr rfl))
        refine hK.out _ _ hS5 (fun _ => ?_)
        clear hK K hcb honly HB
        have HB := HBn
        clear HBn
        clear HA
        have HA := HAn
        clear HAn
        clear HQ
        have HQ := HQn
        clear HQn
        generalize (((X4.setCell ⟨bb, 0, none⟩ (.int .u64 W.seed)).setCell ⟨bb, 1, none⟩ (.slice q1 W.chs.length d1)).setCell ⟨bb, 2, none⟩ (.slice q2 W.cls.length d2)) = X5 at *
        refine wpAnyH_done (by kernel_rfl) ?_ _
        clear hS0 hS1 hS2 hS3 hS4
        go_wp2_with fail
        go_meet
        exact ⟨ba, bb, d1, d2, q1, q2, rfl, rfl, Lib.hid (meet_done HM1.out hS5 HA.out HB.out HQ.out), Lib.hid hS5⟩
      · go_simp
        have hS2 := below_alloc hS1 (.cells #[.int .u64 0, .slice none 0 0, .slice none 0 0] 38)
        have HBn := Lib.hid (ZW.new X1 38)
        have hgbb : Hid (w1.heap.size ≤ X1.heap.size) := Lib.hid hS1.size
        have HQn := Lib.hid (HQ.out.alloc (.cells #[.int .u64 0, .slice none 0 0, .slice none 0 0] 38))
        refine hK.out _ _ hS2 (fun _ => ?_)
        clear hK K
        clear HQ
        have HQ := HQn
        clear HQn
        have HB := HBn
        clear HBn
        generalize X1.alloc (.cells #[.int .u64 0, .slice none 0 0, .slice none 0 0] 38) = X2 at *
        generalize X1.heap.size = bb at *
        refine wpAnyH_ready (rs := [3]) (by kernel_rfl) (by simp) (AllReadyH.cons rfl (fun K hK => ?_) AllReadyH.nil)
        go_simp
        have hS3 := below_alloc hS2 (.cells #[.int .i64 0, .int .i64 0, .int .i64 0, .int .i64 0, .int .i64 0, .int .i64 0, .int .i64 0] 34)
        have HAn := Lib.hid (ZC.new X2 34)
        have hgba : Hid (w1.heap.size ≤ X2.heap.size) := Lib.hid hS2.size
        have hne : Hid (X2.heap.size ≠ bb) := Lib.hid (by have := cell_lt HB.out.c0; omega)
        have HBn := Lib.hid (HB.out.below (below_alloc (Below.refl _ _) (.cells #[.int .i64 0, .int .i64 0, .int .i64 0, .int .i64 0, .int .i64 0, .int .i64 0, .int .i64 0] 34)))
        have HQn := Lib.hid (HQ.out.alloc (.cells #[.int .i64 0, .int .i64 0, .int .i64 0, .int .i64 0, .int .i64 0, .int .i64 0, .int .i64 0] 34))
        refine hK.out _ _ hS3 (fun _ => ?_)
        clear hK K
        clear HB
        have HB := HBn
        clear HBn
        clear HQ
        have HQ := HQn
        clear HQn
        have HA := HAn
        clear HAn
        generalize X2.alloc (.cells #[.int .i64 0, .int .i64 0, .int .i64 0, .int .i64 0, .int .i64 0, .int .i64 0, .int .i64 0] 34) = X3 at *
        generalize X2.heap.size = ba at *
        refine wpAnyH_ready (rs := [5]) (by kernel_rfl) (by simp) (AllReadyH.cons rfl (fun K hK => ?_) AllReadyH.nil)
        obtain ⟨x0, x1, x2, x3, x4, x5, x6, f0, f1, f2, f3, f4, f5, f6⟩ := HA.out
        have zx := cell_lt x0
        go_simp
        clear x0 x1 x2 x3 x4 x5 x6 f0 f1 f2 f3 f4 f5 f6 zx
        obtain ⟨hcb, honly⟩ := HA.out.store c _ rfl
        have HAn := Lib.hid hcb
        have hS4 := honly.below hS3 hgba.out
        have HBn := Lib.hid (HB.out.only honly hne.out.symm)
        have HQn := Lib.hid (HQ.out.only honly (.inr rfl))
        refine hK.out _ _ hS4 (fun _ => ?_)
        clear hK K hcb honly HA
        have HA := HAn
        clear HAn
        clear HB
        have HB := HBn
        clear HBn
        clear HQ
        have HQ := HQn
        clear HQn
        generalize (((((((X3.setCell ⟨ba, 0, none⟩ (.int .i64 c.f)).setCell ⟨ba, 1, none⟩ (.int .i64 c.o)).setCell ⟨ba, 2, none⟩ (.int .i64 c.j)).setCell ⟨ba, 3, none⟩ (.int .i64 c.g)).setCell ⟨ba, 4, none⟩ (.int .i64 c.r)).setCell ⟨ba, 5, none⟩ (.int .i64 c.d)).setCell ⟨ba, 6, none⟩ (.int .i64 c.i)) = X4 at *
        refine wpAnyH_ready (rs := [6]) (by kernel_rfl) (by simp) (AllReadyH.cons rfl (fun K hK => ?_) AllReadyH.nil)
        obtain ⟨x0, x1, x2, f0, f1, f2⟩ := HB.out
        have zx := cell_lt x0
        go_simp
        clear x0 x1 x2 f0 f1 f2 zx
        obtain ⟨hcb, honly⟩ := HB.out.store W q1 q2 d1 d2 _ rfl
        have HBn := Lib.hid hcb
        have hS5 := honly.below hS4 hgbb.out
        have HAn := Lib.hid (HA.out.only honly hne.out)
        have HQn := Lib.hid (HQ.out.only honly (.inl (.inr rfl)))
        refine hK.out _ _ hS5 (fun _ => ?_)
        clear hK K hcb honly HB
        have HB := HBn
        clear HBn
        clear HA
        have HA := HAn
        clear HAn
        clear HQ
        have HQ := HQn
        clear HQn
        generalize (((X4.setCell ⟨bb, 0, none⟩ (.int .u64 W.seed)).setCell ⟨bb, 1, none⟩ (.slice q1 W.chs.length d1)).setCell ⟨bb, 2, none⟩ (.slice q2 W.cls.length d2)) = X5 at *
        refine wpAnyH_done (by kernel_rfl) ?_ _
        clear hS0 hS1 hS2 hS3 hS4
        go_wp2_with fail
        go_meet
        exact ⟨ba, bb, d1, d2, q1, q2, rfl, rfl, Lib.hid (meet_done HM1.out hS5 HA.out HB.out HQ.out), Lib.hid hS5⟩
    · go_simp
      have hS1 := below_alloc hS0 (.cells #[.int .i64 0, .int .i64 0, .int .i64 0, .int .i64 0, .int .i64 0, .int .i64 0, .int .i64 0] 34)
      have HAn := Lib.hid (ZC.new X0 34)
      have hgba : Hid (w1.heap.size ≤ X0.heap.size) := Lib.hid hS0.size
      refine hK.out _ _ hS1 (fun _ => ?_)
      clear hK K
      have HA := HAn
      clear HAn
      generalize X0.alloc (.cells #[.int .i64 0, .int .i64 0, .int .i64 0, .int .i64 0, .int .i64 0, .int .i64 0, .int .i64 0] 34) = X1 at *
      generalize X0.heap.size = ba at *
      refine wpAnyH_ready (rs := [2, 4]) (by kernel_rfl) (by simp) (AllReadyH.cons rfl (fun K hK => ?_) (AllReadyH.cons rfl (fun K hK => ?_) AllReadyH.nil))
      · go_simp
        refine (HOW1.out _ hS1).mono ?_
        rintro e X2 ⟨q1, q2, d1, d2, rfl, hy, hby, hS2⟩
        go_wp2_with fail
        have HQ : Hid (WldNo w1.heap.size (fun k => k = ba) X2 W q1 q2) := Lib.hid (WldNo.call hy hS1.size (fun k hk => by subst hk; exact cell_lt HA.out.c0))
        refine hK.out _ _ hS2 (fun _ => ?_)
        clear hK K
        have HAn := Lib.hid (HA.out.below hby)
        clear HA
        have HA := HAn
        clear HAn
        clear hy hby
        refine wpAnyH_ready (rs := [4]) (by kernel_rfl) (by simp) (AllReadyH.cons rfl (fun K hK => ?_) AllReadyH.nil)
        go_simp
        have hS3 := below_alloc hS2 (.cells #[.int .u64 0, .slice none 0 0, .slice none 0 0] 38)
        have HBn := Lib.hid (ZW.new X2 38)
        have hgbb : Hid (w1.heap.size ≤ X2.heap.size) := Lib.hid hS2.size
        have hne : Hid (ba ≠ X2.heap.size) := Lib.hid (by have := cell_lt HA.out.c0; omega)
        have HAn := Lib.hid (HA.out.below (below_alloc (Below.refl _ _) (.cells #[.int .u64 0, .slice none 0 0, .slice none 0 0] 38)))
        have HQn := Lib.hid (HQ.out.alloc (.cells #[.int .u64 0, .slice none 0 0, .slice none 0 0] 38))
        refine hK.out _ _ hS3 (fun _ => ?_)
        clear hK K
        clear HA
        have HA := HAn
        clear HAn
        clear HQ
        have HQ := HQn
        clear HQn
        have HB := HBn
        clear HBn
        generalize X2.alloc (.cells #[.int .u64 0, .slice none 0 0, .slice none 0 0] 38) = X3 at *
        generalize X2.heap.size = bb at *
        refine wpAnyH_ready (rs := [5]) (by kernel_rfl) (by simp) (AllReadyH.cons rfl (fun K hK => ?_) AllReadyH.nil)
        obtain ⟨x0, x1, x2, x3, x4, x5, x6, f0, f1, f2, f3, f4, f5, f6⟩ := HA.out
        have zx := cell_lt x0
        go_simp
        clear x0 x1 x2 x3 x4 x5 x6 f0 f1 f2 f3 f4 f5 f6 zx
        obtain ⟨hcb, honly⟩ := HA.out.store c _ rfl
        have HAn := Lib.hid hcb
        have hS4 := honly.below hS3 hgba.out
        have HBn := Lib.hid (HB.out.only honly hne.out.symm)
        have HQn := Lib.hid (HQ.out.only honly (.inl rfl))
        refine hK.out _ _ hS4 (fun _ => ?_)
        clear hK K hcb honly HA
        have HA := HAn
        clear HAn
        clear HB
        have HB := HBn
        clear HBn
        clear HQ
        have HQ := HQn
        clear HQn
        generalize (((((((X3.setCell ⟨ba, 0, none⟩ (.int .i64 c.f)).setCell ⟨ba, 1, none⟩ (.int .i64 c.o)).setCell ⟨ba, 2, none⟩ (.int .i64 c.j)).setCell ⟨ba, 3, none⟩ (.int .i64 c.g)).setCell ⟨ba, 4, none⟩ (.int .i64 c.r)).setCell ⟨ba, 5, none⟩ (.int .i64 c.d)).setCell ⟨ba, 6, none⟩ (.int .i64 c.i)) = X4 at *
        refine wpAnyH_ready (rs := [6]) (by kernel_rfl) (by simp) (AllReadyH.cons rfl (fun K hK => ?_) AllReadyH.nil)
        obtain ⟨x0, x1, x2, f0, f1, f2⟩ := HB.out
        have zx := cell_lt x0
        go_simp
        clear x0 x1 x2 f0 f1 f2 zx
        obtain ⟨hcb, honly⟩ := HB.out.store W q1 q2 d1 d2 _ rfl
        have HBn := Lib.hid hcb
        have hS5 := honly.below hS4 hgbb.out
        have HAn := Lib.hid (HA.out.only honly hne.out)
        have HQn := Lib.hid (HQ.out.only honly (.inr rfl))
        refine hK.out _ _ hS5 (fun _ => ?_)
        clear hK K hcb honly HB
        have HB := HBn
        clear HBn
        clear HA
        have HA := HAn
        clear HAn
        clear HQ
        have HQ := HQn
        clear HQn
        generalize (((X4.setCell ⟨bb, 0, none⟩ (.int .u64 W.seed)).setCell ⟨bb, 1, none⟩ (.slice q1 W.chs.length d1)).setCell ⟨bb, 2, none⟩ (.slice q2 W.cls.length d2)) = X5 at *
        refine wpAnyH_done (by kernel_rfl) ?_ _
        clear hS0 hS1 hS2 hS3 hS4
        go_wp2_with fail
        go_meet
        exact ⟨ba, bb, d1, d2, q1, q2, rfl, rfl, Lib.hid (meet_done HM1.out hS5 HA.out HB.out HQ.out), Lib.hid hS5⟩
      · go_simp
        have hS2 := below_alloc hS1 (.cells #[.int .u64 0, .slice none 0 0, .slice none 0 0] 38)
        have HBn := Lib.hid (ZW.new X1 38)
        have hgbb : Hid (w1.heap.size ≤ X1.heap.size) := Lib.hid hS1.size
        have hne : Hid (ba ≠ X1.heap.size) := Lib.hid (by have := cell_lt HA.out.c0; omega)
        have HAn := Lib.hid (HA.out.below (below_alloc (Below.refl _ _) (.cells #[.int .u64 0, .slice none 0 0, .slice none 0 0] 38)))
        refine hK.out _ _ hS2 (fun _ => ?_)
        clear hK K
        clear HA
        have HA := HAn
        clear HAn
        have HB := HBn
        clear HBn
        generalize X1.alloc (.cells #[.int .u64 0, .slice none 0 0, .slice none 0 0] 38) = X2 at *
        generalize X1.heap.size = bb at *
        refine wpAnyH_ready (rs := [2]) (by kernel_rfl) (by simp) (AllReadyH.cons rfl (fun K hK => ?_) AllReadyH.nil)
        go_simp
        refine (HOW1.out _ hS2).mono ?_
        rintro e X3 ⟨q1, q2, d1, d2, rfl, hy, hby, hS3⟩
        go_wp2_with fail
        have HQ : Hid (WldNo w1.heap.size (fun k => k = ba ∨ k = bb) X3 W q1 q2) := Lib.hid (WldNo.call hy hS2.size (fun k hk => by rcases hk with hk | hk <;> subst hk <;> first | exact cell_lt HA.out.c0 | exact cell_lt HB.out.c0))
        refine hK.out _ _ hS3 (fun _ => ?_)
        clear hK K
        have HAn := Lib.hid (HA.out.below hby)
        clear HA
        have HA := HAn
        clear HAn
        have HBn := Lib.hid (HB.out.below hby)
        clear HB
        have HB := HBn
        clear HBn
        clear hy hby
        refine wpAnyH_ready (rs := [5]) (by kernel_rfl) (by simp) (AllReadyH.cons rfl (fun K hK => ?_) AllReadyH.nil)
        obtain ⟨x0, x1, x2, x3, x4, x5, x6, f0, f1, f2, f3, f4, f5, f6⟩ := HA.out
        have zx := cell_lt x0
        go_simp
        clear x0 x1 x2 x3 x4 x5 x6 f0 f1 f2 f3 f4 f5 f6 zx
        obtain ⟨hcb, honly⟩ := HA.out.store c _ rfl
        have HAn := Lib.hid hcb
        have hS4 := honly.below hS3 hgba.out
        have HBn := Lib.hid (HB.out.only honly hne.out.symm)
        have HQn := Lib.hid (HQ.out.only honly (.inl rfl))
        refine hK.out _ _ hS4 (fun _ => ?_)
        clear hK K hcb honly HA
        have HA := HAn
        clear HAn
        clear HB
        have HB := HBn
        clear HBn
        clear HQ
        have HQ := HQn
        clear HQn
        generalize (((((((X3.setCell ⟨ba, 0, none⟩ (.int .i64 c.f)).setCell ⟨ba, 1, none⟩ (.int .i64 c.o)).setCell ⟨ba, 2, none⟩ (.int .i64 c.j)).setCell ⟨ba, 3, none⟩ (.int .i64 c.g)).setCell ⟨ba, 4, none⟩ (.int .i64 c.r)).setCell ⟨ba, 5, none⟩ (.int .i64 c.d)).setCell ⟨ba, 6, none⟩ (.int .i64 c.i)) = X4 at *
        refine wpAnyH_ready (rs := [6]) (by kernel_rfl) (by simp) (AllReadyH.cons rfl (fun K hK => ?_) AllReadyH.nil)
        obtain ⟨x0, x1, x2, f0, f1, f2⟩ := HB.out
        have zx := cell_lt x0
        go_simp
        clear x0 x1 x2 f0 f1 f2 zx
        obtain ⟨hcb, honly⟩ := HB.out.store W q1 q2 d1 d2 _ rfl
        have HBn := Lib.hid hcb
        have hS5 := honly.below hS4 hgbb.out
        have HAn := Lib.hid (HA.out.only honly hne.out)
        have HQn := Lib.hid (HQ.out.only honly (.inr rfl))
        refine hK.out _ _ hS5 (fun _ => ?_)
        clear hK K hcb honly HB
        have HB := HBn
        clear HBn
        clear HA
        have HA := HAn
        clear HAn
        clear HQ
        have HQ := HQn
        clear HQn
        generalize (((X4.setCell ⟨bb, 0, none⟩ (.int .u64 W.seed)).setCell ⟨bb, 1, none⟩ (.slice q1 W.chs.length d1)).setCell ⟨bb, 2, none⟩ (.slice q2 W.cls.length d2)) = X5 at *
        refine wpAnyH_done (by kernel_rfl) ?_ _
        clear hS0 hS1 hS2 hS3 hS4
        go_wp2_with fail
        go_meet
        exact ⟨ba, bb, d1, d2, q1, q2, rfl, rfl, Lib.hid (meet_done HM1.out hS5 HA.out HB.out HQ.out), Lib.hid hS5⟩
    · go_simp
      have hS1 := below_alloc hS0 (.cells #[.int .u64 0, .slice none 0 0, .slice none 0 0] 38)
      have HBn := Lib.hid (ZW.new X0 38)
      have hgbb : Hid (w1.heap.size ≤ X0.heap.size) := Lib.hid hS0.size
      refine hK.out _ _ hS1 (fun _ => ?_)
      clear hK K
      have HB := HBn
      clear HBn
      generalize X0.alloc (.cells #[.int .u64 0, .slice none 0 0, .slice none 0 0] 38) = X1 at *
      generalize X0.heap.size = bb at *
      refine wpAnyH_ready (rs := [2, 3]) (by kernel_rfl) (by simp) (AllReadyH.cons rfl (fun K hK => ?_) (AllReadyH.cons rfl (fun K hK => ?_) AllReadyH.nil))
      · go_simp
        refine (HOW1.out _ hS1).mono ?_
        rintro e X2 ⟨q1, q2, d1, d2, rfl, hy, hby, hS2⟩
        go_wp2_with fail
        have HQ : Hid (WldNo w1.heap.size (fun k => k = bb) X2 W q1 q2) := Lib.hid (WldNo.call hy hS1.size (fun k hk => by subst hk; exact cell_lt HB.out.c0))
        refine hK.out _ _ hS2 (fun _ => ?_)
        clear hK K
        have HBn := Lib.hid (HB.out.below hby)
        clear HB
        have HB := HBn
        clear HBn
        clear hy hby
        refine wpAnyH_ready (rs := [3]) (by kernel_rfl) (by simp) (AllReadyH.cons rfl (fun K hK => ?_) AllReadyH.nil)
        go_simp
        have hS3 := below_alloc hS2 (.cells #[.int .i64 0, .int .i64 0, .int .i64 0, .int .i64 0, .int .i64 0, .int .i64 0, .int .i64 0] 34)
        have HAn := Lib.hid (ZC.new X2 34)
        have hgba : Hid (w1.heap.size ≤ X2.heap.size) := Lib.hid hS2.size
        have hne : Hid (X2.heap.size ≠ bb) := Lib.hid (by have := cell_lt HB.out.c0; omega)
        have HBn := Lib.hid (HB.out.below (below_alloc (Below.refl _ _) (.cells #[.int .i64 0, .int .i64 0, .int .i64 0, .int .i64 0, .int .i64 0, .int .i64 0, .int .i64 0] 34)))
        have HQn := Lib.hid (HQ.out.alloc (.cells #[.int .i64 0, .int .i64 0, .int .i64 0, .int .i64 0, .int .i64 0, .int .i64 0, .int .i64 0] 34))
        refine hK.out _ _ hS3 (fun _ => ?_)
        clear hK K
        clear HB
        have HB := HBn
        clear HBn
        clear HQ
        have HQ := HQn
        clear HQn
        have HA := HAn
        clear HAn
        generalize X2.alloc (.cells #[.int .i64 0, .int .i64 0, .int .i64 0, .int .i64 0, .int .i64 0, .int .i64 0, .int .i64 0] 34) = X3 at *
        generalize X2.heap.size = ba at *
        refine wpAnyH_ready (rs := [5]) (by kernel_rfl) (by simp) (AllReadyH.cons rfl (fun K hK => ?_) AllReadyH.nil)
        obtain ⟨x0, x1, x2, x3, x4, x5, x6, f0, f1, f2, f3, f4, f5, f6⟩ := HA.out
        have zx := cell_lt x0
        go_simp
        clear x0 x1 x2 x3 x4 x5 x6 f0 f1 f2 f3 f4 f5 f6 zx
        obtain ⟨hcb, honly⟩ := HA.out.store c _ rfl
        have HAn := Lib.hid hcb
        have hS4 := honly.below hS3 hgba.out
        have HBn := Lib.hid (HB.out.only honly hne.out.symm)
        have HQn := Lib.hid (HQ.out.only honly (.inr rfl))
        refine hK.out _ _ hS4 (fun _ => ?_)
        clear hK K hcb honly HA
        have HA := HAn
        clear HAn
        clear HB
        have HB := HBn
        clear HBn
        clear HQ
        have HQ := HQn
        clear HQn
        generalize (((((((X3.setCell ⟨ba, 0, none⟩ (.int .i64 c.f)).setCell ⟨ba, 1, none⟩ (.int .i64 c.o)).setCell ⟨ba, 2, none⟩ (.int .i64 c.j)).setCell ⟨ba, 3, none⟩ (.int .i64 c.g)).setCell ⟨ba, 4, none⟩ (.int .i64 c.r)).setCell ⟨ba, 5, none⟩ (.int .i64 c.d)).setCell ⟨ba, 6, none⟩ (.int .i64 c.i)) = X4 at *
        refine wpAnyH_ready (rs := [6]) (by kernel_rfl) (by simp) (AllReadyH.cons rfl (fun K hK => ?_) AllReadyH.nil)
        obtain ⟨x0, x1, x2, f0, f1, f2⟩ := HB.out
        have zx := cell_lt x0
        go_simp
        clear x0 x1 x2 f0 f1 f2 zx
        obtain ⟨hcb, honly⟩ := HB.out.store W q1 q2 d1 d2 _ rfl
        have HBn := Lib.hid hcb
        have hS5 := honly.below hS4 hgbb.out
        have HAn := Lib.hid (HA.out.only honly hne.out)
        have HQn := Lib.hid (HQ.out.only honly (.inl rfl))
        refine hK.out _ _ hS5 (fun _ => ?_)
        clear hK K hcb honly HB
        have HB := HBn
        clear HBn
        clear HA
        have HA := HAn
        clear HAn
        clear HQ
        have HQ := HQn
        clear HQn
        generalize (((X4.setCell ⟨bb, 0, none⟩ (.int .u64 W.seed)).setCell ⟨bb, 1, none⟩ (.slice q1 W.chs.length d1)).setCell ⟨bb, 2, none⟩ (.slice q2 W.cls.length d2)) = X5 at *
        refine wpAnyH_done (by kernel_rfl) ?_ _
        clear hS0 hS1 hS2 hS3 hS4
        go_wp2_with fail
        go_meet
        exact ⟨ba, bb, d1, d2, q1, q2, rfl, rfl, Lib.hid (meet_done HM1.out hS5 HA.out HB.out HQ.out), Lib.hid hS5⟩
      · go_simp
        have hS2 := below_alloc hS1 (.cells #[.int .i64 0, .int .i64 0, .int .i64 0, .int .i64 0, .int .i64 0, .int .i64 0, .int .i64 0] 34)
        have HAn := Lib.hid (ZC.new X1 34)
        have hgba : Hid (w1.heap.size ≤ X1.heap.size) := Lib.hid hS1.size
        have hne : Hid (X1.heap.size ≠ bb) := Lib.hid (by have := cell_lt HB.out.c0; omega)
        have HBn := Lib.hid (HB.out.below (below_alloc (Below.refl _ _) (.cells #[.int .i64 0, .int .i64 0, .int .i64 0, .int .i64 0, .int .i64 0, .int .i64 0, .int .i64 0] 34)))
        refine hK.out _ _ hS2 (fun _ => ?_)
        clear hK K
        clear HB
        have HB := HBn
        clear HBn
        have HA := HAn
        clear HAn
        generalize X1.alloc (.cells #[.int .i64 0, .int .i64 0, .int .i64 0, .int .i64 0, .int .i64 0, .int .i64 0, .int .i64 0] 34) = X2 at *
        generalize X1.heap.size = ba at *
        refine wpAnyH_ready (rs := [2]) (by kernel_rfl) (by simp) (AllReadyH.cons rfl (fun K hK => ?_) AllReadyH.nil)
        go_simp
        refine (HOW1.out _ hS2).mono ?_
        rintro e X3 ⟨q1, q2, d1, d2, rfl, hy, hby, hS3⟩
        go_wp2_with fail
        have HQ : Hid (WldNo w1.heap.size (fun k => k = ba ∨ k = bb) X3 W q1 q2) := Lib.hid (WldNo.call hy hS2.size (fun k hk => by rcases hk with hk | hk <;> subst hk <;> first | exact cell_lt HA.out.c0 | exact cell_lt HB.out.c0))
        refine hK.out _ _ hS3 (fun _ => ?_)
        clear hK K
        have HAn := Lib.hid (HA.out.below hby)
        clear HA
        have HA := HAn
        clear HAn
        have HBn := Lib.hid (HB.out.below hby)
        clear HB
        have HB := HBn
        clear HBn
        clear hy hby
        refine wpAnyH_ready (rs := [5]) (by kernel_rfl) (by simp) (AllReadyH.cons rfl (fun K hK => ?_) AllReadyH.nil)
        obtain ⟨x0, x1, x2, x3, x4, x5, x6, f0, f1, f2, f3, f4, f5, f6⟩ := HA.out
        have zx := cell_lt x0
        go_simp
        clear x0 x1 x2 x3 x4 x5 x6 f0 f1 f2 f3 f4 f5 f6 zx
        obtain ⟨hcb, honly⟩ := HA.out.store c _ rfl
        have HAn := Lib.hid hcb
        have hS4 := honly.below hS3 hgba.out
        have HBn := Lib.hid (HB.out.only honly hne.out.symm)
        have HQn := Lib.hid (HQ.out.only honly (.inl rfl))
        refine hK.out _ _ hS4 (fun _ => ?_)
        clear hK K hcb honly HA
        have HA := HAn
        clear HAn
        clear HB
        have HB := HBn
        clear HBn
        clear HQ
        have HQ := HQn
        clear HQn
        generalize (((((((X3.setCell ⟨ba, 0, none⟩ (.int .i64 c.f)).setCell ⟨ba, 1, none⟩ (.int .i64 c.o)).setCell ⟨ba, 2, none⟩ (.int .i64 c.j)).setCell ⟨ba, 3, none⟩ (.int .i64 c.g)).setCell ⟨ba, 4, none⟩ (.int .i64 c.r)).setCell ⟨ba, 5, none⟩ (.int .i64 c.d)).setCell ⟨ba, 6, none⟩ (.int .i64 c.i)) = X4 at *
        refine wpAnyH_ready (rs := [6]) (by kernel_rfl) (by simp) (AllReadyH.cons rfl (fun K hK => ?_) AllReadyH.nil)
        obtain ⟨x0, x1, x2, f0, f1, f2⟩ := HB.out
        have zx := cell_lt x0
        go_simp
        clear x0 x1 x2 f0 f1 f2 zx
        obtain ⟨hcb, honly⟩ := HB.out.store W q1 q2 d1 d2 _ rfl
        have HBn := Lib.hid hcb
        have hS5 := honly.below hS4 hgbb.out
        have HAn := Lib.hid (HA.out.only honly hne.out)
        have HQn := Lib.hid (HQ.out.only honly (.inr rfl))
        refine hK.out _ _ hS5 (fun _ => ?_)
        clear hK K hcb honly HB
        have HB := HBn
        clear HBn
        clear HA
        have HA := HAn
        clear HAn
        clear HQ
        have HQ := HQn
        clear HQn
        generalize (((X4.setCell ⟨bb, 0, none⟩ (.int .u64 W.seed)).setCell ⟨bb, 1, none⟩ (.slice q1 W.chs.length d1)).setCell ⟨bb, 2, none⟩ (.slice q2 W.cls.length d2)) = X5 at *
        refine wpAnyH_done (by kernel_rfl) ?_ _
        clear hS0 hS1 hS2 hS3 hS4
        go_wp2_with fail
        go_meet
        exact ⟨ba, bb, d1, d2, q1, q2, rfl, rfl, Lib.hid (meet_done HM1.out hS5 HA.out HB.out HQ.out), Lib.hid hS5⟩
  case rest =>
    obtain ⟨b1, b2, d1, d2, q1, q2, rfl, rfl, HI, HBW⟩ := hcut
    have HX4 : Hid (SerIn w wc c W p1 p2 q1 q2 c1 c2 d1 d2 b1 b2 f1 f2 l lp) := Lib.hid ⟨HI.out, HM1.out.below HBW.out, HF1.out.below HBW.out, HT.out.below HI.out.bel, HL.out.below HI.out.bel⟩
    clear HM1 HOW1 HI HBW HF1 HT HL
    generalize wc = W4 at *
    have HCP := Lib.hid (copyInts_any (lAt l) l.length lp lc W4 (by have := HN.out; omega) HX4.out.l)
    go_upto_region 5 with (go_at_call 7; refine HCP.out.mono ?_; rintro e w5 ⟨⟨q, qc, rfl, hq⟩, hb5⟩; have HX5 := Lib.hid (HX4.out.below hb5); have HQ := Lib.hid hq; clear hb5 hq)
    clear HX4 HCP
    generalize w5 = W5 at *
    -- Observe
    obtain ⟨⟨om, oe⟩, ho⟩ : ∃ r, r = obsE c W a b from_ := ⟨_, rfl⟩
    have HO1 := Lib.hid (observe_any c W a b from_ q1 q2 d1 d2 W5 HX5.out.t HX5.out.i.own)
    rw [← ho] at HO1
    unfold cntVal wV at HO1
    dsimp only at HO1
    have HOE := Lib.hid ho
    clear ho
    obtain ⟨⟨x0, x1, x2, x3, x4, x5, x6⟩, g0, g1, g2, -, -, -⟩ := HX5.out.i
    have zx := cell_lt x0
    have zg := cell_lt g0
    go_upto_region 6 with (go_at_call 8; refine HO1.out.mono ?_; rintro e w6 ⟨rfl, hb6⟩; have HX6 := Lib.hid (HX5.out.below hb6); have HQ6 := Lib.hid (HQ.out.below hb6); clear hb6)
    clear x0 x1 x2 x3 x4 x5 x6 g0 g1 g2 zx zg HX5 HQ HO1
    generalize w6 = W6 at *
    have HO2 := Lib.hid (rObserve_any c W a b from_ p1 p2 c1 c2 W6 HX6.out.rshown.1)
    rw [← HOE.out] at HO2
    unfold cntVal wV at HO2
    dsimp only at HO2
    clear HOE
    obtain ⟨x0, x1, x2, x3, x4, x5, x6, r0, r1, r2, -, -⟩ := HX6.out.a
    have zx := cell_lt x0
    have zr := cell_lt r0
    go_upto_region 7 with (go_at_call 9; refine HO2.out.mono ?_; rintro e w7 ⟨rfl, hb7⟩; have HX7 := Lib.hid (HX6.out.below hb7); have HQ7 := Lib.hid (HQ6.out.below hb7); clear hb7)
    clear x0 x1 x2 x3 x4 x5 x6 r0 r1 r2 zx zr HX6 HQ6 HO2
    go_upto_region 9 with fail
    generalize w7 = W7 at *
    -- Watch
    obtain ⟨we, hwe⟩ : ∃ r, r = watchErr c W a b from_ step l.length := ⟨_, rfl⟩
    obtain ⟨wm, hwm⟩ : ∃ r, r = watchM c W a b from_ step := ⟨_, rfl⟩
    obtain ⟨wn, hwn⟩ : ∃ r, r = cntOf we l.length := ⟨_, rfl⟩
    have HWN := Lib.hid (show wn ≤ 30 by rw [hwn]; have := cntOf_le we l.length; have := HN.out; omega)
    have HWA : Hid (Calls Tryz.prog 10 #[.agg #[.int .i64 c.f, .int .i64 c.o, .int .i64 c.j, .int .i64 c.g, .int .i64 c.r, .int .i64 c.d, .int .i64 c.i], .agg #[.int .u64 W.seed, .slice q1 W.chs.length d1, .slice q2 W.cls.length d2], .int .i64 a, .int .i64 b, .int .i64 from_, .int .i64 step, .int .i64 (l.length : Int)] W7 fun e Y => (∃ p cap, e = .returned (.tuple #[.slice p wn cap, .int .i64 we]) ∧ FnIn Y wm wn p) ∧ Below W7.heap.size W7 Y) := Lib.hid ((watch_any c W a b from_ step l.length q1 q2 d1 d2 W7 HX7.out.t HX7.out.i.own).mono fun e Y h => by
      rw [hwn, hwe, hwm]; exact wat_ints h)
    have HWR : Hid (∀ X, SerIn w X c W p1 p2 q1 q2 c1 c2 d1 d2 b1 b2 f1 f2 l lp → Calls Tryz.prog 11 #[.agg #[.int .i64 c.f, .int .i64 c.o, .int .i64 c.j, .int .i64 c.g, .int .i64 c.r, .int .i64 c.d, .int .i64 c.i], .agg #[.int .u64 W.seed, .slice p1 W.chs.length c1, .slice p2 W.cls.length c2], .int .i64 a, .int .i64 b, .int .i64 from_, .int .i64 step, .int .i64 (l.length : Int)] X fun e Y => (∃ p cap, e = .returned (.tuple #[.slice p wn cap, .int .i64 we]) ∧ FnIn Y wm wn p) ∧ Below X.heap.size X Y) := Lib.hid fun X HX => ((rWatch_any c W a b from_ step l.length p1 p2 c1 c2 X HX.rshown.1).mono fun e Y h => by
      rw [hwn, hwe, hwm]; exact rwat_ints HFR.out HSTP.out h)
    clear hwe hwm hwn
    obtain ⟨⟨x0, x1, x2, x3, x4, x5, x6⟩, g0, g1, g2, -, -, -⟩ := HX7.out.i
    have zx := cell_lt x0
    have zg := cell_lt g0
    go_upto_region 10 with (go_at_call 10; refine HWA.out.mono ?_; rintro e w8 ⟨⟨gp, gc, rfl, hg⟩, hb8⟩; have HX8 := Lib.hid (HX7.out.below hb8); have HQ8 := Lib.hid (HQ7.out.below hb8); have HG8 := Lib.hid hg; clear hb8 hg)
    clear x0 x1 x2 x3 x4 x5 x6 g0 g1 g2 zx zg HX7 HQ7 HWA
    generalize w8 = W8 at *
    have HWS := Lib.hid (HWR.out W8 HX8.out)
    obtain ⟨x0, x1, x2, x3, x4, x5, x6, r0, r1, r2, -, -⟩ := HX8.out.a
    have zx := cell_lt x0
    have zr := cell_lt r0
    go_upto_region 11 with (go_at_call 11; refine HWS.out.mono ?_; rintro e w9 ⟨⟨hp, hc, rfl, hg⟩, hb9⟩; have HX9 := Lib.hid (HX8.out.below hb9); have HQ9 := Lib.hid (HQ8.out.below hb9); have HG9 := Lib.hid (HG8.out.below hb9); have HH9 := Lib.hid hg; clear hb9 hg)
    clear x0 x1 x2 x3 x4 x5 x6 r0 r1 r2 zx zr HX8 HQ8 HG8 HWS HWR
    generalize w9 = W9 at *
    have HSI := Lib.hid (sameInts_yes wm wn gp hp gc hc W9 (by have := HWN.out; unfold maxLen; omega) HG9.out HH9.out)
    go_upto_region 13 with (go_at_call 12; refine HSI.out.mono ?_; rintro e w10 ⟨rfl, hb10⟩; have HX10 := Lib.hid (HX9.out.below hb10); have HQ10 := Lib.hid (HQ9.out.below hb10); have HG10 := Lib.hid (HG9.out.below hb10); clear hb10)
    clear HX9 HQ9 HG9 HH9 HSI
    go_upto_region 14 with fail
    have hbx := below_alloc (Below.refl w10.heap.size w10) (.cells #[.slice q l.length qc, .slice gp wn gc] 29)
    have HX11 := Lib.hid (HX10.out.below hbx)
    have HQ11 := Lib.hid (HQ10.out.below hbx)
    have HG11 := Lib.hid (HG10.out.below hbx)
    have HC0 := Lib.hid (show (w10.alloc (.cells #[.slice q l.length qc, .slice gp wn gc] 29)).cell? ⟨w10.heap.size, 0, none⟩ = some (.slice q l.length qc) by simp)
    have HC1 := Lib.hid (show (w10.alloc (.cells #[.slice q l.length qc, .slice gp wn gc] 29)).cell? ⟨w10.heap.size, 1, none⟩ = some (.slice gp wn gc) by simp)
    clear hbx HX10 HQ10 HG10
    generalize w10.alloc (.cells #[.slice q l.length qc, .slice gp wn gc] 29) = W11 at *
    generalize w10.heap.size = bs at *
    have HTW : Hid (∀ k : Nat, k < 2 → ∃ (mm : Nat → Int) (nn : Nat) (qq : Option Addr) (cc : Nat), W11.cell? ⟨bs, k, none⟩ = some (.slice qq nn cc) ∧ FnIn W11 mm nn qq ∧ nn ≤ 30) := Lib.hid fun k hk => by
      have h2 : k = 0 ∨ k = 1 := by omega
      rcases h2 with rfl | rfl
      · exact ⟨_, _, _, _, HC0.out, HQ11.out, HN.out⟩
      · exact ⟨_, _, _, _, HC1.out, HG11.out, HWN.out⟩
    clear HC0 HC1 HG11
    go_loopw [29, 30, 31, 32, 33, 34, 35, 112] (fun s29 s30 s31 s32 s33 s34 s35 s112 wr => ∃ (k : Nat) (v29 v30 v31 v32 v33 v34 v35 : Value), k ≤ 2 ∧ s29 = v29 ∧ s30 = v30 ∧ s31 = v31 ∧ s32 = v32 ∧ s33 = v33 ∧ s34 = v34 ∧ s35 = v35 ∧ s112 = .int .i64 (k : Int) ∧ Hid (Below W11.heap.size W11 wr)) (fun _ _ _ _ _ _ _ s112 _ => 2 - (intOf s112).toNat)
    case atStart => exact ⟨0, _, _, _, _, _, _, _, by omega, rfl, rfl, rfl, rfl, rfl, rfl, rfl, rfl, Lib.hid (Below.refl _ _)⟩
    case round =>
      obtain ⟨k, v29, v30, v31, v32, v33, v34, v35, hk, rfl, rfl, rfl, rfl, rfl, rfl, rfl, rfl, HBR⟩ := hrel
      have HX12 := Lib.hid (HX11.out.below HBR.out)
      by_cases hlt : k < 2
      · have hki : (k : Int) < 2 := by omega
        have HK := Lib.hid hlt
        obtain ⟨mm, nn, qq, cc, hc, hf, hn⟩ := HTW.out k hlt
        have HNN := Lib.hid hn
        have HF := Lib.hid (hf.below HBR.out)
        have ck := cell_below HBR.out hc
        have zk := cell_lt ck
        have v1 : IntKind.i64.wrap ((k : Int) + 1) = (k : Int) + 1 := IntWalk.i64_in _ (by omega)
        clear hc hf hn hlt hk HQ11
        generalize hwr : wr = W12 at *
        clear hwr
        obtain ⟨ue, hue⟩ : ∃ r, r = unwErr c mm nn far := ⟨_, rfl⟩
        obtain ⟨un, hun⟩ : ∃ r, r = cntOf ue nn := ⟨_, rfl⟩
        have HUN := Lib.hid (show un ≤ 30 by rw [hun]; have := cntOf_le ue nn; have := HNN.out; omega)
        have HU1 : Hid (Calls Tryz.prog 13 #[.agg #[.int .i64 c.f, .int .i64 c.o, .int .i64 c.j, .int .i64 c.g, .int .i64 c.r, .int .i64 c.d, .int .i64 c.i], .slice qq nn cc, .int .i64 far] W12 fun e Y => (∃ p cap, e = .returned (.tuple #[.slice p un cap, .int .i64 ue]) ∧ FnIn Y (unwS c mm) un p) ∧ Below W12.heap.size W12 Y) := Lib.hid ((Unwrap_any c mm nn qq cc far W12 HF.out).mono fun e Y h => by
          rw [hun, hue]; exact unw_ints h)
        have HU2 : Hid (∀ X, FnIn X mm nn qq → Calls Tryz.prog 14 #[.agg #[.int .i64 c.f, .int .i64 c.o, .int .i64 c.j, .int .i64 c.g, .int .i64 c.r, .int .i64 c.d, .int .i64 c.i], .slice qq nn cc, .int .i64 far] X fun e Y => (∃ p cap, e = .returned (.tuple #[.slice p un cap, .int .i64 ue]) ∧ FnIn Y (unwS c mm) un p) ∧ Below X.heap.size X Y) := Lib.hid fun X hX => ((rUnwrap_any c mm nn qq cc far X hX).mono fun e Y h => by
          rw [hun, hue]; exact unw_ints h)
        obtain ⟨fe, hfe⟩ : ∃ r, r = followErr c W a b from_ step mm nn f1 f2 := ⟨_, rfl⟩
        obtain ⟨fs, hfs⟩ : ∃ r : Nat → Int × Int, r = fun i => (folS c W a b from_ step mm f1 f2 i).1 := ⟨_, rfl⟩
        obtain ⟨fn_, hfn⟩ : ∃ r, r = cntOf fe nn := ⟨_, rfl⟩
        have HFN := Lib.hid (show fn_ ≤ 30 by rw [hfn]; have := cntOf_le fe nn; have := HNN.out; omega)
        have HFA : Hid (∀ X, SerIn w X c W p1 p2 q1 q2 c1 c2 d1 d2 b1 b2 f1 f2 l lp → FnIn X mm nn qq → Calls Tryz.prog 15 #[.agg #[.int .i64 c.f, .int .i64 c.o, .int .i64 c.j, .int .i64 c.g, .int .i64 c.r, .int .i64 c.d, .int .i64 c.i], .agg #[.int .u64 W.seed, .slice q1 W.chs.length d1, .slice q2 W.cls.length d2], .int .i64 a, .int .i64 b, .int .i64 from_, .int .i64 step, .slice qq nn cc, .agg #[.int .i64 f1, .int .i64 f2]] X fun e Y => (∃ p cap, e = .returned (.tuple #[.slice p fn_ cap, .int .i64 fe]) ∧ SpnIn Y fs fn_ p) ∧ Below X.heap.size X Y) := Lib.hid fun X HX hX => ((follow_any c W a b from_ step mm nn qq cc f1 f2 q1 q2 d1 d2 X HX.t HX.i.own hX).mono fun e Y h => by
          rw [hfn, hfe, hfs]; exact fol_spans h)
        have HFB : Hid (∀ X, SerIn w X c W p1 p2 q1 q2 c1 c2 d1 d2 b1 b2 f1 f2 l lp → FnIn X mm nn qq → Calls Tryz.prog 16 #[.agg #[.int .i64 c.f, .int .i64 c.o, .int .i64 c.j, .int .i64 c.g, .int .i64 c.r, .int .i64 c.d, .int .i64 c.i], .agg #[.int .u64 W.seed, .slice p1 W.chs.length c1, .slice p2 W.cls.length c2], .int .i64 a, .int .i64 b, .int .i64 from_, .int .i64 step, .slice qq nn cc, .agg #[.int .i64 f1, .int .i64 f2]] X fun e Y => (∃ p cap, e = .returned (.tuple #[.slice p fn_ cap, .int .i64 fe]) ∧ SpnIn Y fs fn_ p) ∧ Below X.heap.size X Y) := Lib.hid fun X HX hX => ((rFollow_any c W a b from_ step mm nn qq cc f1 f2 p1 p2 c1 c2 X HX.rshown.1 HX.rshown.2.1 HX.rshown.2.2 HX.a.own hX (by have := HNN.out; omega)).mono fun e Y h => by
          rw [hfn, hfe, hfs]; exact rfol_spans h)
        clear hue hun hfe hfs hfn
        obtain ⟨x0, x1, x2, x3, x4, x5, x6⟩ := HX12.out.i.cb
        have zx := cell_lt x0
        go_upto_region 17 with (go_at_call 13; refine HU1.out.mono ?_; rintro e w13 ⟨⟨pu, cu, rfl, hu⟩, hb13⟩; have HX13 := Lib.hid (HX12.out.below hb13); have HF13 := Lib.hid (HF.out.below hb13); have HB13 := Lib.hid (bt HBR.out hb13); have HP13 := Lib.hid hu; clear hb13 hu)
        clear x0 x1 x2 x3 x4 x5 x6 zx ck zk HX12 HF HBR HU1
        generalize w13 = W13 at *
        have HU3 := Lib.hid (HU2.out W13 HF13.out)
        obtain ⟨x0, x1, x2, x3, x4, x5, x6, -, -, -, -, -⟩ := HX13.out.a
        have zx := cell_lt x0
        go_upto_region 18 with (go_at_call 14; refine HU3.out.mono ?_; rintro e w14 ⟨⟨pv, cv, rfl, hu⟩, hb14⟩; have HX14 := Lib.hid (HX13.out.below hb14); have HF14 := Lib.hid (HF13.out.below hb14); have HB14 := Lib.hid (bt HB13.out hb14); have HP14 := Lib.hid (HP13.out.below hb14); have HQ14 := Lib.hid hu; clear hb14 hu)
        clear x0 x1 x2 x3 x4 x5 x6 zx HX13 HF13 HB13 HP13 HU3 HU2
        generalize w14 = W14 at *
        have HSI := Lib.hid (sameInts_yes (unwS c mm) un pu pv cu cv W14 (by have := HUN.out; unfold maxLen; omega) HP14.out HQ14.out)
        go_upto_region 20 with (go_at_call 12; refine HSI.out.mono ?_; rintro e w15 ⟨rfl, hb15⟩; have HX15 := Lib.hid (HX14.out.below hb15); have HF15 := Lib.hid (HF14.out.below hb15); have HB15 := Lib.hid (bt HB14.out hb15); clear hb15)
        clear HX14 HF14 HB14 HP14 HQ14 HSI
        generalize w15 = W15 at *
        have HFC := Lib.hid (HFA.out W15 HX15.out HF15.out)
        obtain ⟨⟨x0, x1, x2, x3, x4, x5, x6⟩, g0, g1, g2, -, -, -⟩ := HX15.out.i
        have zx := cell_lt x0
        have zg := cell_lt g0
        obtain ⟨s0, s1⟩ := HX15.out.s
        have zs := cell_lt s0
        go_upto_region 21 with (go_at_call 15; refine HFC.out.mono ?_; rintro e w16 ⟨⟨pf, cf, rfl, hu⟩, hb16⟩; have HX16 := Lib.hid (HX15.out.below hb16); have HF16 := Lib.hid (HF15.out.below hb16); have HB16 := Lib.hid (bt HB15.out hb16); have HP16 := Lib.hid hu; clear hb16 hu)
        clear x0 x1 x2 x3 x4 x5 x6 zx g0 g1 g2 zg s0 s1 zs HX15 HF15 HB15 HFC HFA
        generalize w16 = W16 at *
        have HFD := Lib.hid (HFB.out W16 HX16.out HF16.out)
        obtain ⟨x0, x1, x2, x3, x4, x5, x6, r0, r1, r2, -, -⟩ := HX16.out.a
        have zx := cell_lt x0
        have zr := cell_lt r0
        obtain ⟨s0, s1⟩ := HX16.out.s
        have zs := cell_lt s0
        go_upto_region 22 with (go_at_call 16; refine HFD.out.mono ?_; rintro e w17 ⟨⟨pg, cg, rfl, hu⟩, hb17⟩; have HB17 := Lib.hid (bt HB16.out hb17); have HP17 := Lib.hid (HP16.out.below hb17); have HQ17 := Lib.hid hu; clear hb17 hu)
        clear x0 x1 x2 x3 x4 x5 x6 zx r0 r1 r2 zr s0 s1 zs HX16 HF16 HB16 HFD HFB HP16
        generalize w17 = W17 at *
        have HSS := Lib.hid (sameSpans_yes fs fn_ pf pg cf cg W17 (by have := HFN.out; omega) HP17.out HQ17.out)
        go_wp2_with (go_at_call 17; refine HSS.out.mono ?_; rintro e w18 ⟨rfl, hb18⟩; have HB18 := Lib.hid (bt HB17.out hb18); clear hb18)
        go_roundw
        case rel => exact ⟨k + 1, _, _, _, _, _, _, _, HK.out, rfl, rfl, rfl, rfl, rfl, rfl, rfl, by simp, HB18⟩
        case measure => have := HK.out; simp [intOf]; omega
      · obtain rfl : k = 2 := by omega
        clear hlt hk HTW
        have HQ12 := Lib.hid (HQ11.out.below HBR.out)
        clear HQ11 HX11 HBR
        generalize hwr : wr = W12 at *
        clear hwr
        have HSI := Lib.hid (sameInts_yes (lAt l) l.length q lp qc lc W12 (by have := HN.out; unfold maxLen; omega) HQ12.out HX12.out.l)
        have HSA : Hid (∀ X, SerIn w X c W p1 p2 q1 q2 c1 c2 d1 d2 b1 b2 f1 f2 l lp → Calls Tryz.prog 18 #[.agg #[.int .u64 W.seed, .slice q1 W.chs.length d1, .slice q2 W.cls.length d2], .agg #[.int .u64 W.seed, .slice p1 W.chs.length c1, .slice p2 W.cls.length c2]] X fun e Y => e = .returned (.bool true) ∧ Below X.heap.size X Y) := Lib.hid fun X HX => Wd.same_any W q1 q2 p1 p2 d1 d2 c1 c2 X HX.i.own HX.a.own
        go_wp2_with (first
          | (go_at_call 12; refine HSI.out.mono ?_; rintro e w13 ⟨rfl, hb13⟩; have HX13 := Lib.hid (HX12.out.below hb13); clear hb13; have HSB := Lib.hid (HSA.out w13 HX13.out); obtain ⟨-, g0, g1, g2, -, -, -⟩ := HX13.out.i; have zg := cell_lt g0; obtain ⟨-, -, -, -, -, -, -, r0, r1, r2, -, -⟩ := HX13.out.a; have zr := cell_lt r0)
          | (go_at_call 18; refine HSB.out.mono ?_; rintro e w14 ⟨rfl, hb14⟩; have HB14 := Lib.hid (bt HX13.out.i.bel hb14); clear hb14 g0 g1 g2 zg r0 r1 r2 zr)
          | (go_at_call 5; refine (awake2_any _).mono ?_; rintro e w15 ⟨rfl, hb15⟩; have HB15 := Lib.hid (bt HB14.out hb15); clear hb15))
        go_ret
        exact ⟨rfl, HB15.out⟩
theorem series_any (c : Cnt) (W : Wd.Wld) (a b from_ step far f1 f2 : Int) (l : List Int) (p1 p2 lp : Option Addr) (c1 c2 lc : Nat) (w : World) (hW : Wd.WldIn w W p1 p2) (hl : FnIn w (lAt l) l.length lp) (hfr : IntKind.i64.wrap from_ = from_) (hst : IntKind.i64.wrap step = step) (ht : Wd.Tabs w) :
    Calls Tryz.prog 3 #[cntVal c, wV W p1 p2 c1 c2, .int .i64 a, .int .i64 b, .int .i64 from_, .int .i64 step, .int .i64 far, .slice lp l.length lc, .agg #[.int .i64 f1, .int .i64 f2]] w fun e w' => e = .returned (.bool true) ∧ Below w.heap.size w w' := by
  by_cases hb : Wd.bigS W = true
  · exact series_big c W a b from_ step far f1 f2 l p1 p2 lp c1 c2 lc w hW (.inl hb)
  · by_cases hl30 : l.length ≤ 30
    · exact series_law c W a b from_ step far f1 f2 l p1 p2 lp c1 c2 lc w ht hW (by simpa using hb) hl30 hl hfr hst
    · exact series_big c W a b from_ step far f1 f2 l p1 p2 lp c1 c2 lc w hW (.inr (by omega))
end Go.Proofs.YtlelamjbfjneiaaGreatDoor.Ct
