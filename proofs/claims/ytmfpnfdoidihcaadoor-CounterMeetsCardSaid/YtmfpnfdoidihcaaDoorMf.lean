/- The law CounterMeets: its walk. -/
import Derived.Test.YtmfpnfdoidihcaaDoorVj
import Derived.Test.YtmfpnfdoidihcaaDoorMe
import Derived.Test.YtmfpnfdoidihcaaDoorVh
namespace Go.Proofs.YtmfpnfdoidihcaaDoor.Ct
open Go Go.RowKit Go.Shelf
attribute [local go_sem] Oper.semAt_some
/-- what clock k shows -/
def shX (W : Wd.Wld) (s : Int) (k : Nat) : Int := (Wd.shownE W k s).v
theorem reachAs {W : Wd.Wld} {p1 p2 : Option Addr} {w : World} (ht : Wd.Tabs w) (hW : Wd.WldIn w W p1 p2) (k1 k2 : Nat) (k s : Int) {x y e : Int} (h : Wd.reachE W k s = ⟨x, y, e⟩) (X : World) (hb : Below w.heap.size w X) :
    Calls Tryd.prog 8 #[.agg #[.int .u64 W.seed, .slice p1 W.chs.length k1, .slice p2 W.cls.length k2], .int .i64 k, .int .i64 s] X fun en Y => en = .returned (.tuple #[.agg #[.int .i64 x, .int .i64 y], .int .i64 e]) ∧ Below X.heap.size X Y := by
  have := Wd.reach_any W k s p1 p2 k1 k2 X (ht.below hb) (hW.below hb)
  rw [h] at this
  exact this
theorem obs_ok {c : Cnt} {W : Wd.Wld} {a b s m : Int} (h : (m, (0 : Int)) = obsE c W a b s) : cntB c = true ∧ m = shownS c W.seed s ((Wd.shownE W a s).v - (Wd.shownE W b s).v) := by
  unfold obsE at h
  by_cases h1 : cntB c = true
  · rw [if_pos h1] at h
    refine ⟨h1, ?_⟩
    by_cases h2 : (Wd.shownE W a s).e = 0
    · rw [if_pos h2] at h
      by_cases h3 : (Wd.shownE W b s).e = 0
      · rw [if_pos h3] at h
        by_cases h4 : a = b
        · rw [if_pos h4] at h; have := (Prod.mk.inj h).2; cases this
        · rw [if_neg h4] at h
          obtain ⟨e1, e2⟩ := Prod.mk.inj h
          rw [if_pos e2.symm] at e1
          exact e1
      · rw [if_neg h3] at h; have := (Prod.mk.inj h).2; omega
    · rw [if_neg h2] at h; have := (Prod.mk.inj h).2; omega
  · rw [if_neg h1] at h; have := (Prod.mk.inj h).2; cases this
/-- what is resolved of what is shown of two clocks -/
theorem meet_res {c : Cnt} {W : Wd.Wld} {n a b : Nat} {s m : Int} (ha : (Wd.shownE W a s).e = 0) (hb : (Wd.shownE W b s).e = 0) (h : (m, (0 : Int)) = obsE c W a b s) (hl : b < a) (hn : a < n) :
    (resolveS c m ((Wd.reachE W a s).a - (Wd.reachE W b s).b) ((Wd.reachE W a s).b - (Wd.reachE W b s).a)).2 = 8 ∨ ∃ x y, resolveS c m ((Wd.reachE W a s).a - (Wd.reachE W b s).b) ((Wd.reachE W a s).b - (Wd.reachE W b s).a) = ((x, y), 0) ∧ TrueIn n (shX W s) ⟨a, b, x, y⟩ := by
  obtain ⟨hc, rfl⟩ := obs_ok h
  obtain ⟨-, a1, a2, a3, a4⟩ := shown_small W a s ha
  obtain ⟨-, b1, b2, b3, b4⟩ := shown_small W b s hb
  have e : ∀ m lo hi, resolveS c m lo hi = resS c m lo hi := fun m lo hi => if_pos hc
  rw [e]
  rcases holds_plain (cntB_in hc) W.seed s ((Wd.shownE W a s).v - (Wd.shownE W b s).v) ((Wd.reachE W a s).a - (Wd.reachE W b s).b) ((Wd.reachE W a s).b - (Wd.reachE W b s).a) (by omega) (by omega) (by omega) with h8 | ⟨x, y, he, q1, q2, q3, q4⟩
  · exact .inl h8
  · refine .inr ⟨x, y, he, ⟨by dsimp only; omega, by dsimp only; omega, by dsimp only; omega, by dsimp only; omega, by dsimp only; omega, ?_⟩⟩
    dsimp only
    rw [Int.toNat_natCast, Int.toNat_natCast]
    exact ⟨q1, q2⟩
theorem OwnF.more {B k : Nat} {Y : World} {v' : Value} {f : Nat → Int} {x : Int} (hx : f k = x) (hown : Y.ownsRow B 3 1 v' (k + 1) (seqV f k ++ [.int .i64 x])) : OwnF B Y v' f (k + 1) := by
  unfold OwnF; rw [seqV_succ, hx]; exact hown
theorem OwnF.bel {k : Nat} {W X Y : World} {v : Value} {f : Nat → Int} {o : Obj} (h : OwnF W.heap.size X v f k) (hb : Below W.heap.size W X) (hg : (X.alloc o).grownBy Y v.ownBlock) : Below W.heap.size W Y :=
  (hb.alloc hb.size o).grown hg (by have := hb.size; simp; omega) (fun k hk => (World.ownsRow.lt h k hk).1)
theorem infoInt3 : (Tryd.prog.info? 3).map (fun i => (i.zero, i.size, i.bytes)) = some (some (.int .i64 0), 1, 8) := by kernel_rfl
set_option maxRecDepth 100000 in
set_option maxHeartbeats 8000000 in
theorem meets_law (c : Cnt) (W : Wd.Wld) (s : Int) (p1 p2 : Option Addr) (c1 c2 : Nat) (w : World) (ht : Wd.Tabs w) (hW : Wd.WldIn w W p1 p2) (hb : Wd.bigS W = false) (hn : W.cls.length ≤ 16) :
    Calls Tryd.prog 3 #[cntVal c, wV W p1 p2 c1 c2, .int .i64 s] w fun e w' => e = .returned (.bool true) ∧ Below w.heap.size w w' := by
  have HM := Lib.hid (MeetAt.new c W p1 p2 c1 c2 hW)
  have HT := Lib.hid ht
  have HBG := Lib.hid (fun X (h : Wd.WldIn X W p1 p2) => Wd.big_any W p1 p2 c1 c2 X h)
  have HOW := Lib.hid (fun X (h : Wd.WldIn X W p1 p2) => Wd.own_fresh W p1 p2 c1 c2 X h hb)
  rw [hb] at HBG
  have h16 : ¬ (16 : Int) < W.cls.length := by omega
  have HN := Lib.hid hn
  unfold cntVal wV
  clear hW ht hb hn
  go_enter Tryd.func3, Tryd.ntmps3
  go_upto_region 1 with fail
  generalize ((w.alloc (.cells #[.int .i64 c.f, .int .i64 c.o, .int .i64 c.j, .int .i64 c.g, .int .i64 c.r, .int .i64 c.d, .int .i64 c.i] 23)).alloc (.cells #[.int .u64 W.seed, .slice p1 W.chs.length c1, .slice p2 W.cls.length c2] 28)) = W0 at *
  obtain ⟨-, -, -, -, -, -, -, r0, r1, r2, -, -⟩ := HM.out
  have zr := cell_lt r0
  go_upto_region 3 with (go_at_call 4; refine (HBG.out _ HM.out.own).mono ?_; rintro e w1 ⟨rfl, hb1⟩; have HM1 := Lib.hid (HM.out.below hb1); clear hb1; obtain ⟨-, -, -, -, -, -, -, -, -, y2, -, -⟩ := HM1.out; have zy := cell_lt y2)
  clear r0 r1 r2 zr y2 zy HM HBG h16
  obtain ⟨z0, z1, z2, z3, z4, z5, z6, r0, r1, r2, -, -⟩ := HM1.out
  have zz := cell_lt z0
  have zr := cell_lt r0
  have HOW1 : Hid (∀ X, Below w1.heap.size w1 X → Calls Tryd.prog 6 #[.agg #[.int .u64 W.seed, .slice p1 W.chs.length c1, .slice p2 W.cls.length c2]] X fun e Y => ∃ q1 q2 d1 d2, e = .returned (.agg #[.int .u64 W.seed, .slice q1 W.chs.length d1, .slice q2 W.cls.length d2]) ∧ Wd.WldFr X.heap.size Y W q1 q2 ∧ Below X.heap.size X Y ∧ Below w1.heap.size w1 Y) := Lib.hid fun X hb => (HOW.out X (HM1.out.own.below hb)).mono fun e Y ⟨q1, q2, d1, d2, h1, h2, h3⟩ => ⟨q1, q2, d1, d2, h1, h2, h3, bt hb h3⟩
  clear HOW
  go_cut [7, 8] from 38 to 41 (fun s7 s8 wx => ∃ (b1 b2 d1 d2 : Nat) (q1 q2 : Option Addr), s7 = .pointer (some ⟨b1, 0, none⟩) ∧ s8 = .pointer (some ⟨b2, 0, none⟩) ∧ Hid (MeetIn w wx c W p2 q1 q2 c2 d1 d2 b1 b2))
  case first =>
    clear z0 z1 z2 z3 z4 z5 z6 r0 r1 r2 zz zr
    refine wp_region_held_drew (S := fun w' => Below w1.heap.size w1 w') (by kernel_rfl) (Below.drew (Below.refl _ _)) (fun hS0 => ?_)
    (try dsimp only at hS0)
    generalize w1.drew = X0 at *
    refine wpAnyH_take (i := 0) (v := ?_) rfl (by kernel_rfl) (by kernel_rfl) (by kernel_rfl) (fun _ _ _ h => h) (Or.inl ⟨by rfl, ?_⟩) (by assumption) ?_
    rotate_left
    · intro X hSX; (try dsimp only at hSX); obtain ⟨z0, z1, z2, z3, z4, z5, z6, r0, r1, r2, -, -⟩ := HM1.out.below hSX; have zz := cell_lt z0; have zr := cell_lt r0; go_simp; try with_reducible rfl
    simp only [Act.put, List.getElem_toArray, List.getElem_cons_zero, List.setIfInBounds_toArray, List.set_cons_zero, List.set_cons_succ]
    refine wpAnyH_take (i := 1) (v := ?_) rfl (by kernel_rfl) (by kernel_rfl) (by kernel_rfl) (fun _ _ _ h => h) (Or.inl ⟨by rfl, ?_⟩) (by assumption) ?_
    rotate_left
    · intro X hSX; (try dsimp only at hSX); obtain ⟨z0, z1, z2, z3, z4, z5, z6, r0, r1, r2, -, -⟩ := HM1.out.below hSX; have zz := cell_lt z0; have zr := cell_lt r0; go_simp; try with_reducible rfl
    simp only [Act.put, List.getElem_toArray, List.getElem_cons_succ, List.getElem_cons_zero, List.setIfInBounds_toArray, List.set_cons_zero, List.set_cons_succ]
    refine wpAnyH_ready (rs := [2, 3, 4]) (by kernel_rfl) (by simp) (AllReadyH.cons rfl (fun K hK => ?_) (AllReadyH.cons rfl (fun K hK => ?_) (AllReadyH.cons rfl (fun K hK => ?_) AllReadyH.nil)))
    · go_simp
      refine (HOW1.out _ hS0).mono ?_
      rintro e X1 ⟨q1, q2, d1, d2, rfl, hy, hby, hS1⟩
      go_wp2_with fail
      have HQ : Hid (WldNo w1.heap.size (fun _ => False) X1 W q1 q2) := Lib.hid (WldNo.call hy hS0.size (fun k hk => hk.elim))
      refine hK.out _ _ hS1 (fun _ => ?_)
      clear hK K
      clear hy hby
      refine wpAnyH_ready (rs := [3, 4]) (by kernel_rfl) (by simp) (AllReadyH.cons rfl (fun K hK => ?_) (AllReadyH.cons rfl (fun K hK => ?_) AllReadyH.nil))
      · go_simp
        have hS2 := below_alloc hS1 (.cells #[.int .i64 0, .int .i64 0, .int .i64 0, .int .i64 0, .int .i64 0, .int .i64 0, .int .i64 0] 31)
        have HAn := Lib.hid (ZC.new X1 31)
        have hgba : Hid (w1.heap.size ≤ X1.heap.size) := Lib.hid hS1.size
        have HQn := Lib.hid (HQ.out.alloc (.cells #[.int .i64 0, .int .i64 0, .int .i64 0, .int .i64 0, .int .i64 0, .int .i64 0, .int .i64 0] 31))
        refine hK.out _ _ hS2 (fun _ => ?_)
        clear hK K
        clear HQ
        have HQ := HQn
        clear HQn
        have HA := HAn
        clear HAn
        generalize X1.alloc (.cells #[.int .i64 0, .int .i64 0, .int .i64 0, .int .i64 0, .int .i64 0, .int .i64 0, .int .i64 0] 31) = X2 at *
        generalize X1.heap.size = ba at *
        refine wpAnyH_ready (rs := [4]) (by kernel_rfl) (by simp) (AllReadyH.cons rfl (fun K hK => ?_) AllReadyH.nil)
        go_simp
        have hS3 := below_alloc hS2 (.cells #[.int .u64 0, .slice none 0 0, .slice none 0 0] 35)
        have HBn := Lib.hid (ZW.new X2 35)
        have hgbb : Hid (w1.heap.size ≤ X2.heap.size) := Lib.hid hS2.size
        have hne : Hid (ba ≠ X2.heap.size) := Lib.hid (by have := cell_lt HA.out.c0; omega)
        have HAn := Lib.hid (HA.out.below (below_alloc (Below.refl _ _) (.cells #[.int .u64 0, .slice none 0 0, .slice none 0 0] 35)))
        have HQn := Lib.hid (HQ.out.alloc (.cells #[.int .u64 0, .slice none 0 0, .slice none 0 0] 35))
        refine hK.out _ _ hS3 (fun _ => ?_)
        clear hK K
        clear HA
        have HA := HAn
        clear HAn
        clear HQ
        have HQ := HQn
        clear HQn
        have HB := HBn
        clear HBn
        generalize X2.alloc (.cells #[.int .u64 0, .slice none 0 0, .slice none 0 0] 35) = X3 at *
        generalize X2.heap.size = bb at *
        refine wpAnyH_ready (rs := [5]) (by kernel_rfl) (by simp) (AllReadyH.cons rfl (fun K hK => ?_) AllReadyH.nil)
        obtain ⟨x0, x1, x2, x3, x4, x5, x6, f0, f1, f2, f3, f4, f5, f6⟩ := HA.out
        have zx := cell_lt x0
        go_simp
        clear x0 x1 x2 x3 x4 x5 x6 f0 f1 f2 f3 f4 f5 f6 zx
        obtain ⟨hcb, honly⟩ := HA.out.store c _ rfl
        have HAn := Lib.hid hcb
        have hS4 := honly.below hS3 hgba.out
        have HBn := Lib.hid (HB.out.only honly hne.out.symm)
        have HQn := Lib.hid (HQ.out.only honly (.inl (.inr rfl)))
        refine hK.out _ _ hS4 (fun _ => ?_)
        clear hK K hcb honly HA
        have HA := HAn
        clear HAn
        clear HB
        have HB := HBn
        clear HBn
        clear HQ
        have HQ := HQn
        clear HQn
        generalize (((((((X3.setCell ⟨ba, 0, none⟩ (.int .i64 c.f)).setCell ⟨ba, 1, none⟩ (.int .i64 c.o)).setCell ⟨ba, 2, none⟩ (.int .i64 c.j)).setCell ⟨ba, 3, none⟩ (.int .i64 c.g)).setCell ⟨ba, 4, none⟩ (.int .i64 c.r)).setCell ⟨ba, 5, none⟩ (.int .i64 c.d)).setCell ⟨ba, 6, none⟩ (.int .i64 c.i)) = X4 at *
        refine wpAnyH_ready (rs := [6]) (by kernel_rfl) (by simp) (AllReadyH.cons rfl (fun K hK => ?_) AllReadyH.nil)
        obtain ⟨x0, x1, x2, f0, f1, f2⟩ := HB.out
        have zx := cell_lt x0
        go_simp
        clear x0 x1 x2 f0 f1 f2 zx
        obtain ⟨hcb, honly⟩ := HB.out.store W q1 q2 d1 d2 _ rfl
        have HBn := Lib.hid hcb
        have hS5 := honly.below hS4 hgbb.out
        have HAn := Lib.hid (HA.out.only honly hne.out)
        have HQn := Lib.hid (HQ.out.only honly (.inr rfl))
        refine hK.out _ _ hS5 (fun _ => ?_)
        clear hK K hcb honly HB
        have HB := HBn
        clear HBn
        clear HA
        have HA := HAn
        clear HAn
        clear HQ
        have HQ := HQn
        clear HQn
        generalize (((X4.setCell ⟨bb, 0, none⟩ (.int .u64 W.seed)).setCell ⟨bb, 1, none⟩ (.slice q1 W.chs.length d1)).setCell ⟨bb, 2, none⟩ (.slice q2 W.cls.length d2)) = X5 at *
        refine wpAnyH_done (by kernel_rfl) ?_ _
        clear hS0 hS1 hS2 hS3 hS4
        go_wp2_with fail
        go_meet
        exact ⟨ba, bb, d1, d2, q1, q2, rfl, rfl, Lib.hid (meet_done HM1.out hS5 HA.out HB.out HQ.out)⟩
      · go_simp
        have hS2 := below_alloc hS1 (.cells #[.int .u64 0, .slice none 0 0, .slice none 0 0] 35)
        have HBn := Lib.hid (ZW.new X1 35)
        have hgbb : Hid (w1.heap.size ≤ X1.heap.size) := Lib.hid hS1.size
        have HQn := Lib.hid (HQ.out.alloc (.cells #[.int .u64 0, .slice none 0 0, .slice none 0 0] 35))
        refine hK.out _ _ hS2 (fun _ => ?_)
        clear hK K
        clear HQ
        have HQ := HQn
        clear HQn
        have HB := HBn
        clear HBn
        generalize X1.alloc (.cells #[.int .u64 0, .slice none 0 0, .slice none 0 0] 35) = X2 at *
        generalize X1.heap.size = bb at *
        refine wpAnyH_ready (rs := [3]) (by kernel_rfl) (by simp) (AllReadyH.cons rfl (fun K hK => ?_) AllReadyH.nil)
        go_simp
        have hS3 := below_alloc hS2 (.cells #[.int .i64 0, .int .i64 0, .int .i64 0, .int .i64 0, .int .i64 0, .int .i64 0, .int .i64 0] 31)
        have HAn := Lib.hid (ZC.new X2 31)
        have hgba : Hid (w1.heap.size ≤ X2.heap.size) := Lib.hid hS2.size
        have hne : Hid (X2.heap.size ≠ bb) := Lib.hid (by have := cell_lt HB.out.c0; omega)
        have HBn := Lib.hid (HB.out.below (below_alloc (Below.refl _ _) (.cells #[.int .i64 0, .int .i64 0, .int .i64 0, .int .i64 0, .int .i64 0, .int .i64 0, .int .i64 0] 31)))
        have HQn := Lib.hid (HQ.out.alloc (.cells #[.int .i64 0, .int .i64 0, .int .i64 0, .int .i64 0, .int .i64 0, .int .i64 0, .int .i64 0] 31))
        refine hK.out _ _ hS3 (fun _ => ?_)
        clear hK K
        clear HB
        have HB := HBn
        clear HBn
        clear HQ
        have HQ := HQn
        clear HQn
        have HA := HAn
        clear HAn
        generalize X2.alloc (.cells #[.int .i64 0, .int .i64 0, .int .i64 0, .int .i64 0, .int .i64 0, .int .i64 0, .int .i64 0] 31) = X3 at *
        generalize X2.heap.size = ba at *
        refine wpAnyH_ready (rs := [5]) (by kernel_rfl) (by simp) (AllReadyH.cons rfl (fun K hK => ?_) AllReadyH.nil)
        obtain ⟨x0, x1, x2, x3, x4, x5, x6, f0, f1, f2, f3, f4, f5, f6⟩ := HA.out
        have zx := cell_lt x0
        go_simp
        clear x0 x1 x2 x3 x4 x5 x6 f0 f1 f2 f3 f4 f5 f6 zx
        obtain ⟨hcb, honly⟩ := HA.out.store c _ rfl
        have HAn := Lib.hid hcb
        have hS4 := honly.below hS3 hgba.out
        have HBn := Lib.hid (HB.out.only honly hne.out.symm)
        have HQn := Lib.hid (HQ.out.only honly (.inr rfl))
        refine hK.out _ _ hS4 (fun _ => ?_)
        clear hK K hcb honly HA
        have HA := HAn
        clear HAn
        clear HB
        have HB := HBn
        clear HBn
        clear HQ
        have HQ := HQn
        clear HQn
        generalize (((((((X3.setCell ⟨ba, 0, none⟩ (.int .i64 c.f)).setCell ⟨ba, 1, none⟩ (.int .i64 c.o)).setCell ⟨ba, 2, none⟩ (.int .i64 c.j)).setCell ⟨ba, 3, none⟩ (.int .i64 c.g)).setCell ⟨ba, 4, none⟩ (.int .i64 c.r)).setCell ⟨ba, 5, none⟩ (.int .i64 c.d)).setCell ⟨ba, 6, none⟩ (.int .i64 c.i)) = X4 at *
        refine wpAnyH_ready (rs := [6]) (by kernel_rfl) (by simp) (AllReadyH.cons rfl (fun K hK => ?_) AllReadyH.nil)
        obtain ⟨x0, x1, x2, f0, f1, f2⟩ := HB.out
        have zx := cell_lt x0
        go_simp
        clear x0 x1 x2 f0 f1 f2 zx
        obtain ⟨hcb, honly⟩ := HB.out.store W q1 q2 d1 d2 _ rfl
        have HBn := Lib.hid hcb
        have hS5 := honly.below hS4 hgbb.out
        have HAn := Lib.hid (HA.out.only honly hne.out)
        have HQn := Lib.hid (HQ.out.only honly (.inl (.inr rfl)))
        refine hK.out _ _ hS5 (fun _ => ?_)
        clear hK K hcb honly HB
        have HB := HBn
        clear HBn
        clear HA
        have HA := HAn
        clear HAn
        clear HQ
        have HQ := HQn
        clear HQn
        generalize (((X4.setCell ⟨bb, 0, none⟩ (.int .u64 W.seed)).setCell ⟨bb, 1, none⟩ (.slice q1 W.chs.length d1)).setCell ⟨bb, 2, none⟩ (.slice q2 W.cls.length d2)) = X5 at *
        refine wpAnyH_done (by kernel_rfl) ?_ _
        clear hS0 hS1 hS2 hS3 hS4
        go_wp2_with fail
        go_meet
        exact ⟨ba, bb, d1, d2, q1, q2, rfl, rfl, Lib.hid (meet_done HM1.out hS5 HA.out HB.out HQ.out)⟩
    · go_simp
      have hS1 := below_alloc hS0 (.cells #[.int .i64 0, .int .i64 0, .int .i64 0, .int .i64 0, .int .i64 0, .int .i64 0, .int .i64 0] 31)
      have HAn := Lib.hid (ZC.new X0 31)
      have hgba : Hid (w1.heap.size ≤ X0.heap.size) := Lib.hid hS0.size
      refine hK.out _ _ hS1 (fun _ => ?_)
      clear hK K
      have HA := HAn
      clear HAn
      generalize X0.alloc (.cells #[.int .i64 0, .int .i64 0, .int .i64 0, .int .i64 0, .int .i64 0, .int .i64 0, .int .i64 0] 31) = X1 at *
      generalize X0.heap.size = ba at *
      refine wpAnyH_ready (rs := [2, 4]) (by kernel_rfl) (by simp) (AllReadyH.cons rfl (fun K hK => ?_) (AllReadyH.cons rfl (fun K hK => ?_) AllReadyH.nil))
      · go_simp
        refine (HOW1.out _ hS1).mono ?_
        rintro e X2 ⟨q1, q2, d1, d2, rfl, hy, hby, hS2⟩
        go_wp2_with fail
        have HQ : Hid (WldNo w1.heap.size (fun k => k = ba) X2 W q1 q2) := Lib.hid (WldNo.call hy hS1.size (fun k hk => by subst hk; exact cell_lt HA.out.c0))
        refine hK.out _ _ hS2 (fun _ => ?_)
        clear hK K
        have HAn := Lib.hid (HA.out.below hby)
        clear HA
        have HA := HAn
        clear HAn
        clear hy hby
        refine wpAnyH_ready (rs := [4]) (by kernel_rfl) (by simp) (AllReadyH.cons rfl (fun K hK => ?_) AllReadyH.nil)
        go_simp
        have hS3 := below_alloc hS2 (.cells #[.int .u64 0, .slice none 0 0, .slice none 0 0] 35)
        have HBn := Lib.hid (ZW.new X2 35)
        have hgbb : Hid (w1.heap.size ≤ X2.heap.size) := Lib.hid hS2.size
        have hne : Hid (ba ≠ X2.heap.size) := Lib.hid (by have := cell_lt HA.out.c0; omega)
        have HAn := Lib.hid (HA.out.below (below_alloc (Below.refl _ _) (.cells #[.int .u64 0, .slice none 0 0, .slice none 0 0] 35)))
        have HQn := Lib.hid (HQ.out.alloc (.cells #[.int .u64 0, .slice none 0 0, .slice none 0 0] 35))
        refine hK.out _ _ hS3 (fun _ => ?_)
        clear hK K
        clear HA
        have HA := HAn
        clear HAn
        clear HQ
        have HQ := HQn
        clear HQn
        have HB := HBn
        clear HBn
        generalize X2.alloc (.cells #[.int .u64 0, .slice none 0 0, .slice none 0 0] 35) = X3 at *
        generalize X2.heap.size = bb at *
        refine wpAnyH_ready (rs := [5]) (by kernel_rfl) (by simp) (AllReadyH.cons rfl (fun K hK => ?_) AllReadyH.nil)
        obtain ⟨x0, x1, x2, x3, x4, x5, x6, f0, f1, f2, f3, f4, f5, f6⟩ := HA.out
        have zx := cell_lt x0
        go_simp
        clear x0 x1 x2 x3 x4 x5 x6 f0 f1 f2 f3 f4 f5 f6 zx
        obtain ⟨hcb, honly⟩ := HA.out.store c _ rfl
        have HAn := Lib.hid hcb
        have hS4 := honly.below hS3 hgba.out
        have HBn := Lib.hid (HB.out.only honly hne.out.symm)
        have HQn := Lib.hid (HQ.out.only honly (.inl rfl))
        refine hK.out _ _ hS4 (fun _ => ?_)
        clear hK K hcb honly HA
        have HA := HAn
        clear HAn
        clear HB
        have HB := HBn
        clear HBn
        clear HQ
        have HQ := HQn
        clear HQn
        generalize (((((((X3.setCell ⟨ba, 0, none⟩ (.int .i64 c.f)).setCell ⟨ba, 1, none⟩ (.int .i64 c.o)).setCell ⟨ba, 2, none⟩ (.int .i64 c.j)).setCell ⟨ba, 3, none⟩ (.int .i64 c.g)).setCell ⟨ba, 4, none⟩ (.int .i64 c.r)).setCell ⟨ba, 5, none⟩ (.int .i64 c.d)).setCell ⟨ba, 6, none⟩ (.int .i64 c.i)) = X4 at *
        refine wpAnyH_ready (rs := [6]) (by kernel_rfl) (by simp) (AllReadyH.cons rfl (fun K hK => ?_) AllReadyH.nil)
        obtain ⟨x0, x1, x2, f0, f1, f2⟩ := HB.out
        have zx := cell_lt x0
        go_simp
        clear x0 x1 x2 f0 f1 f2 zx
        obtain ⟨hcb, honly⟩ := HB.out.store W q1 q2 d1 d2 _ rfl
        have HBn := Lib.hid hcb
        have hS5 := honly.below hS4 hgbb.out
        have HAn := Lib.hid (HA.out.only honly hne.out)
        have HQn := Lib.hid (HQ.out.only honly (.inr rfl))
        refine hK.out _ _ hS5 (fun _ => ?_)
        clear hK K hcb honly HB
        have HB := HBn
        clear HBn
        clear HA
        have HA := HAn
        clear HAn
        clear HQ
        have HQ := HQn
        clear HQn
        generalize (((X4.setCell ⟨bb, 0, none⟩ (.int .u64 W.seed)).setCell ⟨bb, 1, none⟩ (.slice q1 W.chs.length d1)).setCell ⟨bb, 2, none⟩ (.slice q2 W.cls.length d2)) = X5 at *
        refine wpAnyH_done (by kernel_rfl) ?_ _
        clear hS0 hS1 hS2 hS3 hS4
        go_wp2_with fail
        go_meet
        exact ⟨ba, bb, d1, d2, q1, q2, rfl, rfl, Lib.hid (meet_done HM1.out hS5 HA.out HB.out HQ.out)⟩
      · go_simp
        have hS2 := below_alloc hS1 (.cells #[.int .u64 0, .slice none 0 0, .slice none 0 0] 35)
        have HBn := Lib.hid (ZW.new X1 35)
        have hgbb : Hid (w1.heap.size ≤ X1.heap.size) := Lib.hid hS1.size
        have hne : Hid (ba ≠ X1.heap.size) := Lib.hid (by have := cell_lt HA.out.c0; omega)
        have HAn := Lib.hid (HA.out.below (below_alloc (Below.refl _ _) (.cells #[.int .u64 0, .slice none 0 0, .slice none 0 0] 35)))
        refine hK.out _ _ hS2 (fun _ => ?_)
        clear hK K
        clear HA
        have HA := HAn
        clear HAn
        have HB := HBn
        clear HBn
        generalize X1.alloc (.cells #[.int .u64 0, .slice none 0 0, .slice none 0 0] 35) = X2 at *
        generalize X1.heap.size = bb at *
        refine wpAnyH_ready (rs := [2]) (by kernel_rfl) (by simp) (AllReadyH.cons rfl (fun K hK => ?_) AllReadyH.nil)
        go_simp
        refine (HOW1.out _ hS2).mono ?_
        rintro e X3 ⟨q1, q2, d1, d2, rfl, hy, hby, hS3⟩
        go_wp2_with fail
        have HQ : Hid (WldNo w1.heap.size (fun k => k = ba ∨ k = bb) X3 W q1 q2) := Lib.hid (WldNo.call hy hS2.size (fun k hk => by rcases hk with hk | hk <;> subst hk <;> first | exact cell_lt HA.out.c0 | exact cell_lt HB.out.c0))
        refine hK.out _ _ hS3 (fun _ => ?_)
        clear hK K
        have HAn := Lib.hid (HA.out.below hby)
        clear HA
        have HA := HAn
        clear HAn
        have HBn := Lib.hid (HB.out.below hby)
        clear HB
        have HB := HBn
        clear HBn
        clear hy hby
        refine wpAnyH_ready (rs := [5]) (by kernel_rfl) (by simp) (AllReadyH.cons rfl (fun K hK => ?_) AllReadyH.nil)
        obtain ⟨x0, x1, x2, x3, x4, x5, x6, f0, f1, f2, f3, f4, f5, f6⟩ := HA.out
        have zx := cell_lt x0
        go_simp
        clear x0 x1 x2 x3 x4 x5 x6 f0 f1 f2 f3 f4 f5 f6 zx
        obtain ⟨hcb, honly⟩ := HA.out.store c _ rfl
        have HAn := Lib.hid hcb
        have hS4 := honly.below hS3 hgba.out
        have HBn := Lib.hid (HB.out.only honly hne.out.symm)
        have HQn := Lib.hid (HQ.out.only honly (.inl rfl))
        refine hK.out _ _ hS4 (fun _ => ?_)
        clear hK K hcb honly HA
        have HA := HAn
        clear HAn
        clear HB
        have HB := HBn
        clear HBn
        clear HQ
        have HQ := HQn
        clear HQn
        generalize (((((((X3.setCell ⟨ba, 0, none⟩ (.int .i64 c.f)).setCell ⟨ba, 1, none⟩ (.int .i64 c.o)).setCell ⟨ba, 2, none⟩ (.int .i64 c.j)).setCell ⟨ba, 3, none⟩ (.int .i64 c.g)).setCell ⟨ba, 4, none⟩ (.int .i64 c.r)).setCell ⟨ba, 5, none⟩ (.int .i64 c.d)).setCell ⟨ba, 6, none⟩ (.int .i64 c.i)) = X4 at *
        refine wpAnyH_ready (rs := [6]) (by kernel_rfl) (by simp) (AllReadyH.cons rfl (fun K hK => ?_) AllReadyH.nil)
        obtain ⟨x0, x1, x2, f0, f1, f2⟩ := HB.out
        have zx := cell_lt x0
        go_simp
        clear x0 x1 x2 f0 f1 f2 zx
        obtain ⟨hcb, honly⟩ := HB.out.store W q1 q2 d1 d2 _ rfl
        have HBn := Lib.hid hcb
        have hS5 := honly.below hS4 hgbb.out
        have HAn := Lib.hid (HA.out.only honly hne.out)
        have HQn := Lib.hid (HQ.out.only honly (.inr rfl))
        refine hK.out _ _ hS5 (fun _ => ?_)
        clear hK K hcb honly HB
        have HB := HBn
        clear HBn
        clear HA
        have HA := HAn
        clear HAn
        clear HQ
        have HQ := HQn
        clear HQn
        generalize (((X4.setCell ⟨bb, 0, none⟩ (.int .u64 W.seed)).setCell ⟨bb, 1, none⟩ (.slice q1 W.chs.length d1)).setCell ⟨bb, 2, none⟩ (.slice q2 W.cls.length d2)) = X5 at *
        refine wpAnyH_done (by kernel_rfl) ?_ _
        clear hS0 hS1 hS2 hS3 hS4
        go_wp2_with fail
        go_meet
        exact ⟨ba, bb, d1, d2, q1, q2, rfl, rfl, Lib.hid (meet_done HM1.out hS5 HA.out HB.out HQ.out)⟩
    · go_simp
      have hS1 := below_alloc hS0 (.cells #[.int .u64 0, .slice none 0 0, .slice none 0 0] 35)
      have HBn := Lib.hid (ZW.new X0 35)
      have hgbb : Hid (w1.heap.size ≤ X0.heap.size) := Lib.hid hS0.size
      refine hK.out _ _ hS1 (fun _ => ?_)
      clear hK K
      have HB := HBn
      clear HBn
      generalize X0.alloc (.cells #[.int .u64 0, .slice none 0 0, .slice none 0 0] 35) = X1 at *
      generalize X0.heap.size = bb at *
      refine wpAnyH_ready (rs := [2, 3]) (by kernel_rfl) (by simp) (AllReadyH.cons rfl (fun K hK => ?_) (AllReadyH.cons rfl (fun K hK => ?_) AllReadyH.nil))
      · go_simp
        refine (HOW1.out _ hS1).mono ?_
        rintro e X2 ⟨q1, q2, d1, d2, rfl, hy, hby, hS2⟩
        go_wp2_with fail
        have HQ : Hid (WldNo w1.heap.size (fun k => k = bb) X2 W q1 q2) := Lib.hid (WldNo.call hy hS1.size (fun k hk => by subst hk; exact cell_lt HB.out.c0))
        refine hK.out _ _ hS2 (fun _ => ?_)
        clear hK K
        have HBn := Lib.hid (HB.out.below hby)
        clear HB
        have HB := HBn
        clear HBn
        clear hy hby
        refine wpAnyH_ready (rs := [3]) (by kernel_rfl) (by simp) (AllReadyH.cons rfl (fun K hK => ?_) AllReadyH.nil)
        go_simp
        have hS3 := below_alloc hS2 (.cells #[.int .i64 0, .int .i64 0, .int .i64 0, .int .i64 0, .int .i64 0, .int .i64 0, .int .i64 0] 31)
        have HAn := Lib.hid (ZC.new X2 31)
        have hgba : Hid (w1.heap.size ≤ X2.heap.size) := Lib.hid hS2.size
        have hne : Hid (X2.heap.size ≠ bb) := Lib.hid (by have := cell_lt HB.out.c0; omega)
        have HBn := Lib.hid (HB.out.below (below_alloc (Below.refl _ _) (.cells #[.int .i64 0, .int .i64 0, .int .i64 0, .int .i64 0, .int .i64 0, .int .i64 0, .int .i64 0] 31)))
        have HQn := Lib.hid (HQ.out.alloc (.cells #[.int .i64 0, .int .i64 0, .int .i64 0, .int .i64 0, .int .i64 0, .int .i64 0, .int .i64 0] 31))
        refine hK.out _ _ hS3 (fun _ => ?_)
        clear hK K
        clear HB
        have HB := HBn
        clear HBn
        clear HQ
        have HQ := HQn
        clear HQn
        have HA := HAn
        clear HAn
        generalize X2.alloc (.cells #[.int .i64 0, .int .i64 0, .int .i64 0, .int .i64 0, .int .i64 0, .int .i64 0, .int .i64 0] 31) = X3 at *
        generalize X2.heap.size = ba at *
        refine wpAnyH_ready (rs := [5]) (by kernel_rfl) (by simp) (AllReadyH.cons rfl (fun K hK => ?_) AllReadyH.nil)
        obtain ⟨x0, x1, x2, x3, x4, x5, x6, f0, f1, f2, f3, f4, f5, f6⟩ := HA.out
        have zx := cell_lt x0
        go_simp
        clear x0 x1 x2 x3 x4 x5 x6 f0 f1 f2 f3 f4 f5 f6 zx
        obtain ⟨hcb, honly⟩ := HA.out.store c _ rfl
        have HAn := Lib.hid hcb
        have hS4 := honly.below hS3 hgba.out
        have HBn := Lib.hid (HB.out.only honly hne.out.symm)
        have HQn := Lib.hid (HQ.out.only honly (.inr rfl))
        refine hK.out _ _ hS4 (fun _ => ?_)
        clear hK K hcb honly HA
        have HA := HAn
        clear HAn
        clear HB
        have HB := HBn
        clear HBn
        clear HQ
        have HQ := HQn
        clear HQn
        generalize (((((((X3.setCell ⟨ba, 0, none⟩ (.int .i64 c.f)).setCell ⟨ba, 1, none⟩ (.int .i64 c.o)).setCell ⟨ba, 2, none⟩ (.int .i64 c.j)).setCell ⟨ba, 3, none⟩ (.int .i64 c.g)).setCell ⟨ba, 4, none⟩ (.int .i64 c.r)).setCell ⟨ba, 5, none⟩ (.int .i64 c.d)).setCell ⟨ba, 6, none⟩ (.int .i64 c.i)) = X4 at *
        refine wpAnyH_ready (rs := [6]) (by kernel_rfl) (by simp) (AllReadyH.cons rfl (fun K hK => ?_) AllReadyH.nil)
        obtain ⟨x0, x1, x2, f0, f1, f2⟩ := HB.out
        have zx := cell_lt x0
        go_simp
        clear x0 x1 x2 f0 f1 f2 zx
        obtain ⟨hcb, honly⟩ := HB.out.store W q1 q2 d1 d2 _ rfl
        have HBn := Lib.hid hcb
        have hS5 := honly.below hS4 hgbb.out
        have HAn := Lib.hid (HA.out.only honly hne.out)
        have HQn := Lib.hid (HQ.out.only honly (.inl rfl))
        refine hK.out _ _ hS5 (fun _ => ?_)
        clear hK K hcb honly HB
        have HB := HBn
        clear HBn
        clear HA
        have HA := HAn
        clear HAn
        clear HQ
        have HQ := HQn
        clear HQn
        generalize (((X4.setCell ⟨bb, 0, none⟩ (.int .u64 W.seed)).setCell ⟨bb, 1, none⟩ (.slice q1 W.chs.length d1)).setCell ⟨bb, 2, none⟩ (.slice q2 W.cls.length d2)) = X5 at *
        refine wpAnyH_done (by kernel_rfl) ?_ _
        clear hS0 hS1 hS2 hS3 hS4
        go_wp2_with fail
        go_meet
        exact ⟨ba, bb, d1, d2, q1, q2, rfl, rfl, Lib.hid (meet_done HM1.out hS5 HA.out HB.out HQ.out)⟩
      · go_simp
        have hS2 := below_alloc hS1 (.cells #[.int .i64 0, .int .i64 0, .int .i64 0, .int .i64 0, .int .i64 0, .int .i64 0, .int .i64 0] 31)
        have HAn := Lib.hid (ZC.new X1 31)
        have hgba : Hid (w1.heap.size ≤ X1.heap.size) := Lib.hid hS1.size
        have hne : Hid (X1.heap.size ≠ bb) := Lib.hid (by have := cell_lt HB.out.c0; omega)
        have HBn := Lib.hid (HB.out.below (below_alloc (Below.refl _ _) (.cells #[.int .i64 0, .int .i64 0, .int .i64 0, .int .i64 0, .int .i64 0, .int .i64 0, .int .i64 0] 31)))
        refine hK.out _ _ hS2 (fun _ => ?_)
        clear hK K
        clear HB
        have HB := HBn
        clear HBn
        have HA := HAn
        clear HAn
        generalize X1.alloc (.cells #[.int .i64 0, .int .i64 0, .int .i64 0, .int .i64 0, .int .i64 0, .int .i64 0, .int .i64 0] 31) = X2 at *
        generalize X1.heap.size = ba at *
        refine wpAnyH_ready (rs := [2]) (by kernel_rfl) (by simp) (AllReadyH.cons rfl (fun K hK => ?_) AllReadyH.nil)
        go_simp
        refine (HOW1.out _ hS2).mono ?_
        rintro e X3 ⟨q1, q2, d1, d2, rfl, hy, hby, hS3⟩
        go_wp2_with fail
        have HQ : Hid (WldNo w1.heap.size (fun k => k = ba ∨ k = bb) X3 W q1 q2) := Lib.hid (WldNo.call hy hS2.size (fun k hk => by rcases hk with hk | hk <;> subst hk <;> first | exact cell_lt HA.out.c0 | exact cell_lt HB.out.c0))
        refine hK.out _ _ hS3 (fun _ => ?_)
        clear hK K
        have HAn := Lib.hid (HA.out.below hby)
        clear HA
        have HA := HAn
        clear HAn
        have HBn := Lib.hid (HB.out.below hby)
        clear HB
        have HB := HBn
        clear HBn
        clear hy hby
        refine wpAnyH_ready (rs := [5]) (by kernel_rfl) (by simp) (AllReadyH.cons rfl (fun K hK => ?_) AllReadyH.nil)
        obtain ⟨x0, x1, x2, x3, x4, x5, x6, f0, f1, f2, f3, f4, f5, f6⟩ := HA.out
        have zx := cell_lt x0
        go_simp
        clear x0 x1 x2 x3 x4 x5 x6 f0 f1 f2 f3 f4 f5 f6 zx
        obtain ⟨hcb, honly⟩ := HA.out.store c _ rfl
        have HAn := Lib.hid hcb
        have hS4 := honly.below hS3 hgba.out
        have HBn := Lib.hid (HB.out.only honly hne.out.symm)
        have HQn := Lib.hid (HQ.out.only honly (.inl rfl))
        refine hK.out _ _ hS4 (fun _ => ?_)
        clear hK K hcb honly HA
        have HA := HAn
        clear HAn
        clear HB
        have HB := HBn
        clear HBn
        clear HQ
        have HQ := HQn
        clear HQn
        generalize (((((((X3.setCell ⟨ba, 0, none⟩ (.int .i64 c.f)).setCell ⟨ba, 1, none⟩ (.int .i64 c.o)).setCell ⟨ba, 2, none⟩ (.int .i64 c.j)).setCell ⟨ba, 3, none⟩ (.int .i64 c.g)).setCell ⟨ba, 4, none⟩ (.int .i64 c.r)).setCell ⟨ba, 5, none⟩ (.int .i64 c.d)).setCell ⟨ba, 6, none⟩ (.int .i64 c.i)) = X4 at *
        refine wpAnyH_ready (rs := [6]) (by kernel_rfl) (by simp) (AllReadyH.cons rfl (fun K hK => ?_) AllReadyH.nil)
        obtain ⟨x0, x1, x2, f0, f1, f2⟩ := HB.out
        have zx := cell_lt x0
        go_simp
        clear x0 x1 x2 f0 f1 f2 zx
        obtain ⟨hcb, honly⟩ := HB.out.store W q1 q2 d1 d2 _ rfl
        have HBn := Lib.hid hcb
        have hS5 := honly.below hS4 hgbb.out
        have HAn := Lib.hid (HA.out.only honly hne.out)
        have HQn := Lib.hid (HQ.out.only honly (.inr rfl))
        refine hK.out _ _ hS5 (fun _ => ?_)
        clear hK K hcb honly HB
        have HB := HBn
        clear HBn
        clear HA
        have HA := HAn
        clear HAn
        clear HQ
        have HQ := HQn
        clear HQn
        generalize (((X4.setCell ⟨bb, 0, none⟩ (.int .u64 W.seed)).setCell ⟨bb, 1, none⟩ (.slice q1 W.chs.length d1)).setCell ⟨bb, 2, none⟩ (.slice q2 W.cls.length d2)) = X5 at *
        refine wpAnyH_done (by kernel_rfl) ?_ _
        clear hS0 hS1 hS2 hS3 hS4
        go_wp2_with fail
        go_meet
        exact ⟨ba, bb, d1, d2, q1, q2, rfl, rfl, Lib.hid (meet_done HM1.out hS5 HA.out HB.out HQ.out)⟩
  case rest =>
    obtain ⟨b1, b2, d1, d2, q1, q2, rfl, rfl, HI⟩ := hcut
    clear z0 z1 z2 z3 z4 z5 z6 r0 r1 r2 zz zr HM1 HOW1
    have HTB := Lib.hid (HT.out.below HI.out.bel)
    obtain ⟨i0, hi0, hz0, hz1, hz2⟩ := info_parts infoInt3
    obtain ⟨i1, hi1, hy0, hy1, hy2⟩ := info_parts infoBound
    clear HT
    go_wp2_with fail
    generalize wc = W3 at *
    go_loopw [6, 10, 11, 12, 13] (fun s6 s10 s11 s12 s13 wx => ∃ (k : Nat) (v v12 v13 : Value), k ≤ W.cls.length ∧ s6 = .bool false ∧ s10 = v ∧ s11 = .int .i64 (k : Int) ∧ s12 = v12 ∧ s13 = v13 ∧ Hid (OwnF W3.heap.size wx v (shX W s) k) ∧ Hid (Below W3.heap.size W3 wx) ∧ Hid (∀ j : Nat, j < k → (Wd.shownE W j s).e = 0)) (fun _ _ s11 _ _ _ => W.cls.length - (intOf s11).toNat)
    case atStart => exact ⟨0, _, _, _, Nat.zero_le _, rfl, rfl, rfl, rfl, rfl, Lib.hid (OwnF.nil _ _ _), Lib.hid (Below.refl _ _), Lib.hid (fun j hj => absurd hj (Nat.not_lt_zero j))⟩
    case round =>
      obtain ⟨k, v, v12, v13, hk, rfl, rfl, rfl, rfl, rfl, HO, HBk, HEk⟩ := hrel
      have HIk := Lib.hid (HI.out.below HBk.out)
      have r2 := HIk.out.r2
      have zr := cell_lt r2
      by_cases hlt : k < W.cls.length
      · have hki : (k : Int) < W.cls.length := by omega
        have HK := Lib.hid hlt
        obtain ⟨⟨x0, e0⟩, hx⟩ : ∃ r, r = Wd.shownE W k s := ⟨_, rfl⟩
        have HS := Lib.hid (shownAs HTB.out HI.out.own d1 d2 k s hx.symm)
        have g0 := HIk.out.g0
        have g1 := HIk.out.g1
        have g2 := HIk.out.g2
        have zg := cell_lt g0
        have HX : Hid (shX W s k = x0) := Lib.hid (by unfold shX; rw [← hx])
        have hlt17 := HN.out
        have w1' : IntKind.i64.wrap ((k : Int) + 1) = (k : Int) + 1 := IntWalk.i64_in _ (by omega)
        by_cases he : e0 = 0
        · subst he
          have HE2 : Hid (∀ j : Nat, j < k + 1 → (Wd.shownE W j s).e = 0) := Lib.hid fun j hj => by
            by_cases e : j = k
            · subst e; rw [← hx]
            · exact HEk.out j (by omega)
          clear hx hlt hk hlt17
          go_upto_region 12 with (go_at_call 7; refine (HS.out _ HBk.out).mono ?_; rintro e w4 ⟨rfl, hb4⟩; have HO4 := Lib.hid (HO.out.below hb4); have HB4 := Lib.hid (bt HBk.out hb4); clear hb4)
          clear r2 zr g0 g1 g2 zg
          go_wp2_with (at_builtin; refine wpList_append_own_at _ rfl (.tmp 58) (.tmp 60) _ rfl W3.heap.size 3 i0 (.int .i64 0) 1 8 Tryd.underlying38 hi0 hz0 hz1 hz2 rfl (by decide) _ k _ rfl (World.ownsRow.alloc HO4.out _) ⟨w4.heap.size, 0, none⟩ 1 1 [.int .i64 x0] rfl rfl (cell_one_new _ _ _) (by simp [Value.oneCell']) (by have := HK.out; have := HN.out; unfold maxLen; omega) (by have := HK.out; have := HN.out; omega) (by have := HB4.out.size; simp; omega) ?_; intro v' z1 hown hg _ _; have HO5 := Lib.hid (OwnF.more HX.out hown); have HB5 := Lib.hid (HO4.out.bel HB4.out hg); clear hown hg)
          go_roundw
          case rel => exact ⟨k + 1, v', _, _, HK.out, rfl, rfl, by simp, rfl, rfl, HO5, HB5, HE2⟩
          case measure => have := HK.out; simp [intOf]; omega
        · have hne : (e0 != 0) = true := by simpa using he
          clear hx hlt hk he hlt17
          go_upto_region 10 with (go_at_call 7; refine (HS.out _ HBk.out).mono ?_; rintro e w4 ⟨rfl, hb4⟩; have HB4 := Lib.hid (bt HBk.out hb4); clear hb4)
          have HIB := Lib.hid (bt HI.out.bel HB4.out)
          go_wp2_with (go_at_call 5; refine (awake2_any _).mono ?_; rintro e w5 ⟨rfl, hb5⟩; have HB5 := Lib.hid (bt HIB.out hb5); clear hb5)
          go_ret
          exact ⟨rfl, HB5.out⟩
      · obtain rfl : k = W.cls.length := by omega
        have hki : ¬ (W.cls.length : Int) < W.cls.length := by omega
        obtain ⟨ps, cs, rfl, hfn⟩ := HO.out.in_
        have HF := Lib.hid hfn
        have HT4 := Lib.hid (HTB.out.below HBk.out)
        have HI4 := Lib.hid (HI.out.below HBk.out)
        clear hlt hk hfn HO HIk
        go_wp2_with fail
        generalize wr = W4 at *
        clear r2 zr HBk HTB
        go_loopw [6, 9, 14, 15, 16, 17, 18, 19, 20, 21, 22] (fun s6 s9 s14 s15 s16 s17 s18 s19 s20 s21 s22 wx => ∃ (a : Nat) (L : List Bnd) (v v15 v16 v17 v18 v19 v20 v21 v22 : Value), a ≤ W.cls.length ∧ s6 = .bool false ∧ s9 = v ∧ s14 = .int .i64 (a : Int) ∧ s15 = v15 ∧ s16 = v16 ∧ s17 = v17 ∧ s18 = v18 ∧ s19 = v19 ∧ s20 = v20 ∧ s21 = v21 ∧ s22 = v22 ∧ Hid (BoAt W4 wx v L L.length) ∧ Hid (L.length ≤ tri2 a) ∧ Hid (∀ y ∈ L, TrueIn W.cls.length (shX W s) y)) (fun _ _ s14 _ _ _ _ _ _ _ _ _ => W.cls.length - (intOf s14).toNat)
        case atStart => exact ⟨0, [], _, _, _, _, _, _, _, _, _, Nat.zero_le _, rfl, rfl, rfl, rfl, rfl, rfl, rfl, rfl, rfl, rfl, rfl, Lib.hid (BoAt.nil W4), Lib.hid (Nat.le_refl _), Lib.hid (fun y hy => by cases hy)⟩
        case round =>
          obtain ⟨a, L, v, v15, v16, v17, v18, v19, v20, v21, v22, ha, rfl, rfl, rfl, rfl, rfl, rfl, rfl, rfl, rfl, rfl, rfl, HL, HLn, HLt⟩ := hrel
          by_cases hlt : a < W.cls.length
          · have hki : (a : Int) < W.cls.length := by omega
            have HA := Lib.hid hlt
            have hlt17 := HN.out
            have w1' : IntKind.i64.wrap ((a : Int) + 1) = (a : Int) + 1 := IntWalk.i64_in _ (by omega)
            have HLn' : Hid (L.length ≤ tri2 a + 0) := HLn
            clear hlt ha hlt17 HLn
            go_wp2_with fail
            go_loopw [6, 9, 15, 16, 17, 18, 19, 20, 21, 22] (fun s6 s9 s15 s16 s17 s18 s19 s20 s21 s22 wx => ∃ (b : Nat) (L : List Bnd) (v v16 v17 v18 v19 v20 v21 v22 : Value), b ≤ a ∧ s6 = .bool false ∧ s9 = v ∧ s15 = .int .i64 (b : Int) ∧ s16 = v16 ∧ s17 = v17 ∧ s18 = v18 ∧ s19 = v19 ∧ s20 = v20 ∧ s21 = v21 ∧ s22 = v22 ∧ Hid (BoAt W4 wx v L L.length) ∧ Hid (L.length ≤ tri2 a + b) ∧ Hid (∀ y ∈ L, TrueIn W.cls.length (shX W s) y)) (fun _ _ s15 _ _ _ _ _ _ _ _ => a - (intOf s15).toNat)
            case atStart => exact ⟨0, L, _, _, _, _, _, _, _, _, Nat.zero_le _, rfl, rfl, rfl, rfl, rfl, rfl, rfl, rfl, rfl, rfl, HL, HLn', HLt⟩
            case round =>
              clear HL HLn' HLt
              obtain ⟨b, L2, v, v16, v17, v18, v19, v20, v21, v22, hb, rfl, rfl, rfl, rfl, rfl, rfl, rfl, rfl, rfl, rfl, HL, HLn, HLt⟩ := hrel
              by_cases hlt : b < a
              · have hbi : (b : Int) < a := by omega
                have HBK := Lib.hid hlt
                have ea := HEk.out a HA.out
                have eb := HEk.out b (by have := HA.out; omega)
                have w2' : IntKind.i64.wrap ((b : Int) + 1) = (b : Int) + 1 := IntWalk.i64_in _ (by have := HA.out; have := HN.out; omega)
                obtain ⟨⟨m, g⟩, hmg⟩ : ∃ r, r = obsE c W a b s := ⟨_, rfl⟩
                have HOB : Hid (∀ X, Below W4.heap.size W4 X → Calls Tryd.prog 9 #[.agg #[.int .i64 c.f, .int .i64 c.o, .int .i64 c.j, .int .i64 c.g, .int .i64 c.r, .int .i64 c.d, .int .i64 c.i], .agg #[.int .u64 W.seed, .slice q1 W.chs.length d1, .slice q2 W.cls.length d2], .int .i64 a, .int .i64 b, .int .i64 s] X fun e Y => e = .returned (.tuple #[.int .i64 m, .int .i64 g]) ∧ Below X.heap.size X Y) := Lib.hid fun X hb => by
                  have := observe_any c W a b s q1 q2 d1 d2 X (HT4.out.below hb) (HI4.out.own.below hb)
                  rw [← hmg] at this
                  exact this
                have HMR : Hid (g = 0 → (resolveS c m ((Wd.reachE W a s).a - (Wd.reachE W b s).b) ((Wd.reachE W a s).b - (Wd.reachE W b s).a)).2 = 8 ∨ ∃ x y, resolveS c m ((Wd.reachE W a s).a - (Wd.reachE W b s).b) ((Wd.reachE W a s).b - (Wd.reachE W b s).a) = ((x, y), 0) ∧ TrueIn W.cls.length (shX W s) ⟨a, b, x, y⟩) :=
                  Lib.hid fun h => meet_res ea eb (by rw [← h]; exact hmg) HBK.out HA.out
                have sa := shown_small W a s ea
                have sb := shown_small W b s eb
                obtain ⟨⟨ra, rA, re⟩, hra⟩ : ∃ r, r = Wd.reachE W a s := ⟨_, rfl⟩
                obtain ⟨⟨rb, rB, rf⟩, hrb⟩ : ∃ r, r = Wd.reachE W b s := ⟨_, rfl⟩
                have HRA := Lib.hid (fun X (hb : Below W4.heap.size W4 X) => reachAs HT4.out HI4.out.own d1 d2 a s hra.symm X hb)
                have HRB := Lib.hid (fun X (hb : Below W4.heap.size W4 X) => reachAs HT4.out HI4.out.own d1 d2 b s hrb.symm X hb)
                rw [← hra, ← hrb] at HMR
                rw [← hra] at sa
                rw [← hrb] at sb
                dsimp only at sa sb HMR
                obtain ⟨rfl, sa1, sa2, sa3, sa4⟩ := sa
                obtain ⟨rfl, sb1, sb2, sb3, sb4⟩ := sb
                obtain ⟨lo, hlo⟩ : ∃ lo, lo = ra - rB := ⟨_, rfl⟩
                obtain ⟨hi, hhi⟩ : ∃ hi, hi = rA - rb := ⟨_, rfl⟩
                rw [← hlo, ← hhi] at HMR
                have k1 : IntKind.i64.wrap (ra - rB) = lo := by rw [hlo]; exact IntWalk.i64_in _ (by omega)
                have k2 : IntKind.i64.wrap (rA - rb) = hi := by rw [hhi]; exact IntWalk.i64_in _ (by omega)
                clear hra hrb sa1 sa2 sa3 sa4 sb1 sb2 sb3 sb4 hmg ea eb hlt hb hlo hhi
                obtain ⟨-, g0, g1, g2, -, -, -⟩ := HI4.out.below HL.out.bel
                have zg := cell_lt g0
                go_upto_region 20 with (go_at_call 8; refine (HRA.out _ HL.out.bel).mono ?_; rintro e w5 ⟨rfl, hb5⟩; have HL5 := Lib.hid (HL.out.below hb5); clear hb5)
                have hbx := below_alloc (Below.refl w5.heap.size w5) (.cells #[.int .i64 ra, .int .i64 rA] 43)
                have HS6 := Lib.hid (SpBox.new w5 ra rA 43)
                have HL6 := Lib.hid (HL5.out.below hbx)
                clear hbx HL5 g0 g1 g2 zg HRA
                generalize w5.alloc (.cells #[.int .i64 ra, .int .i64 rA] 43) = W6 at *
                generalize w5.heap.size = b16 at *
                obtain ⟨-, g0, g1, g2, -, -, -⟩ := HI4.out.below HL6.out.bel
                have zg := cell_lt g0
                go_upto_region 21 with (go_at_call 8; refine (HRB.out _ HL6.out.bel).mono ?_; rintro e w7 ⟨rfl, hb7⟩; have HL7 := Lib.hid (HL6.out.below hb7); have HS7 := Lib.hid (HS6.out.below hb7); clear hb7)
                have hbx := below_alloc (Below.refl w7.heap.size w7) (.cells #[.int .i64 rb, .int .i64 rB] 43)
                have HT8 := Lib.hid (SpBox.new w7 rb rB 43)
                have HL8 := Lib.hid (HL7.out.below hbx)
                have HS8 := Lib.hid (HS7.out.below hbx)
                clear hbx HL7 HS7 HL6 HS6 g0 g1 g2 zg HRB
                generalize w7.alloc (.cells #[.int .i64 rb, .int .i64 rB] 43) = W8 at *
                generalize w7.heap.size = b18 at *
                obtain ⟨⟨x0, x1, x2, x3, x4, x5, x6⟩, g0, g1, g2, -, -, -⟩ := HI4.out.below HL8.out.bel
                have zg := cell_lt g0
                have zx := cell_lt x0
                go_upto_region 22 with (go_at_call 9; refine (HOB.out _ HL8.out.bel).mono ?_; rintro e w9 ⟨rfl, hb9⟩; have HL9 := Lib.hid (HL8.out.below hb9); have HS9 := Lib.hid (HS8.out.below hb9); have HT9 := Lib.hid (HT8.out.below hb9); clear hb9)
                clear x0 x1 x2 x3 x4 x5 x6 zx g0 g1 g2 zg HL8 HS8 HT8 HOB
                by_cases hg : g = 0
                · subst hg
                  have HM2 := Lib.hid (HMR.out rfl)
                  clear HMR
                  obtain ⟨⟨⟨rx, ry⟩, r0⟩, hres⟩ : ∃ r, r = resolveS c m lo hi := ⟨_, rfl⟩
                  have HRS := Lib.hid (fun X => Resolve_any c m lo hi X)
                  rw [← hres] at HRS HM2
                  unfold cntVal resVal spVal at HRS
                  dsimp only at HRS HM2
                  clear hres
                  obtain ⟨⟨x0, x1, x2, x3, x4, x5, x6⟩, -, -, -, -, -, -⟩ := HI4.out.below HL9.out.bel
                  have zx := cell_lt x0
                  obtain ⟨y0, y1⟩ := HS9.out
                  have zy := cell_lt y0
                  obtain ⟨t0, t1⟩ := HT9.out
                  have zt := cell_lt t0
                  go_upto_region 27 with (go_at_call 10; refine (HRS.out _).mono ?_; rintro e w10 ⟨rfl, hb10⟩; have HL10 := Lib.hid (HL9.out.below hb10); clear hb10)
                  have hbx := below_alloc (Below.refl w10.heap.size w10) (.cells #[.int .i64 rx, .int .i64 ry] 43)
                  have HR11 := Lib.hid (SpBox.new w10 rx ry 43)
                  have HL11 := Lib.hid (HL10.out.below hbx)
                  clear x0 x1 x2 x3 x4 x5 x6 zx y0 y1 zy t0 t1 zt hbx HL10 HL9 HS9 HT9 HRS k1 k2
                  generalize w10.alloc (.cells #[.int .i64 rx, .int .i64 ry] 43) = W11 at *
                  generalize w10.heap.size = b22 at *
                  rcases HM2.out with h8 | ⟨x', y', he, htr⟩
                  · subst h8
                    have HLn2 : Hid (L2.length ≤ tri2 a + (b + 1)) := Lib.hid (by have := HLn.out; omega)
                    go_wp2_with fail
                    go_roundw
                    case rel => exact ⟨b + 1, L2, _, _, _, _, _, _, _, _, HBK.out, rfl, rfl, by simp, rfl, rfl, rfl, rfl, rfl, rfl, rfl, HL11, HLn2, HLt⟩
                    case measure => have := HBK.out; simp [intOf]; omega
                  · cases he
                    have HTR := Lib.hid htr
                    obtain ⟨t0, t1⟩ := HR11.out
                    have zt := cell_lt t0
                    clear htr
                    go_wp2_with (at_builtin; refine wpList_append_own_at _ rfl (.tmp 124) (.tmp 129) _ rfl W4.heap.size 49 i1 (.agg #[.int .i64 0, .int .i64 0, .int .i64 0, .int .i64 0]) 4 32 Tryd.underlying37 hi1 hy0 hy1 hy2 rfl (by decide) _ L2.length _ rfl (World.ownsRow.alloc HL11.out.own _) ⟨W11.heap.size, 0, none⟩ 1 1 [.int .i64 a, .int .i64 b, .int .i64 rx, .int .i64 ry] rfl rfl (four_new _ _ _ _ _ _) (by simp [Value.oneCell']) (by have := HLn.out; have := HBK.out; have := HA.out; have := HN.out; have := tri2_le a (by omega); unfold maxLen; omega) (by have := HLn.out; have := HBK.out; have := HA.out; have := HN.out; have := tri2_le a (by omega); omega) (by have := HL11.out.bel.size; simp; omega) ?_; intro v' z1 hown hg _ _; have HL12 := Lib.hid (HL11.out.snoc (y := ⟨a, b, rx, ry⟩) hown hg); clear hown hg)
                    have HLn2 : Hid ((L2 ++ [(⟨a, b, rx, ry⟩ : Bnd)]).length ≤ tri2 a + (b + 1)) := Lib.hid (by have := HLn.out; rw [List.length_append, List.length_singleton]; omega)
                    have HLt2 : Hid (∀ y ∈ L2 ++ [(⟨a, b, rx, ry⟩ : Bnd)], TrueIn W.cls.length (shX W s) y) := Lib.hid fun y hy => by
                      rcases List.mem_append.1 hy with h | h
                      · exact HLt.out y h
                      · rw [List.mem_singleton.1 h]; exact HTR.out
                    go_roundw
                    case rel => exact ⟨b + 1, _, v', _, _, _, _, _, _, _, HBK.out, rfl, rfl, by simp, rfl, rfl, rfl, rfl, rfl, rfl, rfl, HL12, HLn2, HLt2⟩
                    case measure => have := HBK.out; simp [intOf]; omega
                · have hge : (g != 0) = true := by simpa using hg
                  have HB9 := Lib.hid (bt HI4.out.bel HL9.out.bel)
                  clear k1 k2 HMR hg
                  go_wp2_with (go_at_call 5; refine (awake2_any _).mono ?_; rintro e w10 ⟨rfl, hb10⟩; have HB10 := Lib.hid (bt HB9.out hb10); clear hb10)
                  go_ret
                  exact ⟨rfl, HB10.out⟩
              · obtain rfl : b = a := by omega
                have hbi : ¬ (b : Int) < b := by omega
                have HLn2 : Hid (L2.length ≤ tri2 (b + 1)) := HLn
                clear hlt hb
                go_wp2_with fail
                go_roundw
                case rel => exact ⟨b + 1, L2, _, _, _, _, _, _, _, _, _, HA.out, rfl, rfl, by simp, rfl, rfl, rfl, rfl, rfl, rfl, rfl, rfl, HL, HLn2, HLt⟩
                case measure => have := HA.out; simp [intOf]; omega
          · obtain rfl : a = W.cls.length := by omega
            have hki : ¬ (W.cls.length : Int) < W.cls.length := by omega
            clear hlt ha
            have HLN : Hid (L.length ≤ 240) := Lib.hid (by have := HLn.out; have := tri2_le W.cls.length HN.out; omega)
            obtain ⟨pl, cl, rfl, hbi⟩ := HL.out.in_
            have HBI := Lib.hid hbi
            have HB4 := Lib.hid (bt HI4.out.bel HL.out.bel)
            have HF4 := Lib.hid (HF.out.below HL.out.bel)
            clear hbi HI4 HF HLn
            generalize wr = W5 at *
            by_cases h0 : W.cls.length = 0
            · have H0 := Lib.hid h0
              have hne : netErr (W.cls.length : Int) L = 1 := by unfold netErr; rw [if_neg (by omega)]
              have HNA : Hid (∀ X, Below W5.heap.size W5 X → Calls Tryd.prog 11 #[.int .i64 (W.cls.length : Int), .slice pl L.length cl] X fun e Y => e = .returned (.tuple #[.slice none 0 0, .int .i64 1]) ∧ Below X.heap.size X Y) := Lib.hid fun X hb => by
                have := narrow_err (W.cls.length : Int) L pl cl X (by have := HLN.out; unfold maxLen; omega) (HBI.out.below hb) (by rw [hne]; decide)
                rwa [hne] at this
              have HCA : Hid (∀ X, Below W5.heap.size W5 X → Calls Tryd.prog 12 #[.int .i64 (W.cls.length : Int), .slice pl L.length cl] X fun e Y => e = .returned (.tuple #[.slice none 0 0, .int .i64 1]) ∧ Below X.heap.size X Y) := Lib.hid fun X hb => by
                have := contradict_err (W.cls.length : Int) L pl cl X (by have := HLN.out; unfold maxLen; omega) (HBI.out.below hb) (by rw [hne]; decide)
                rwa [hne] at this
              clear hne h0
              go_upto_region 32 with (go_at_call 11; refine (HNA.out _ (Below.refl _ _)).mono ?_; rintro e w6 ⟨rfl, hb6⟩; have HB6 := Lib.hid hb6; clear hb6)
              go_upto_region 33 with (go_at_call 12; refine (HCA.out _ HB6.out).mono ?_; rintro e w7 ⟨rfl, hb7⟩; have HB7 := Lib.hid (bt HB4.out (bt HB6.out hb7)); clear hb7)
              have h0i : (W.cls.length : Int) = 0 := by have := H0.out; omega
              go_wp2_with (go_at_call 5; refine (awake2_any _).mono ?_; rintro e w8 ⟨rfl, hb8⟩; have HB8 := Lib.hid (bt HB7.out hb8); clear hb8)
              go_ret
              exact ⟨rfl, HB8.out⟩
            · have h0i : ¬ (W.cls.length : Int) = 0 := by omega
              have hn1 : 1 ≤ W.cls.length ∧ W.cls.length ≤ 16 := ⟨by omega, HN.out⟩
              have hne := true_err hn1 HLN.out HLt.out
              obtain ⟨-, hlo⟩ := lims_of hne
              obtain ⟨hy, hpot⟩ := narrow_pot hn1.2 hlo (true_solves HLt.out)
              have HNR := Lib.hid (narr_of hn1.2 hlo hy)
              have HPO := Lib.hid hpot
              have HNA := Lib.hid (fun X (hb : Below W5.heap.size W5 X) => narrow_ok W.cls.length L pl cl X (HBI.out.below hb) hne (calm_all hn1.2 hlo) hy)
              have HCA := Lib.hid (fun X (hb : Below W5.heap.size W5 X) => contradict_any W.cls.length L pl cl X (HBI.out.below hb) hne)
              have HCO := Lib.hid (fun u (h : ConOf W.cls.length L u) => (con_iff hn1 hlo h).2 hy)
              have HXB : Hid (∀ k : Nat, k < W.cls.length → -400000000000000 < shX W s k ∧ shX W s k < 400000000000000) := Lib.hid fun k hk => by
                obtain ⟨-, q1, q2, q3, q4⟩ := shown_small W k s (HEk.out k hk)
                unfold shX
                omega
              have HN1 := Lib.hid hn1
              obtain ⟨gs, os, rfl, hfa⟩ := HF4.out.resolve_left h0
              have HFA := Lib.hid hfa
              generalize (narrowS W.cls.length L).1 = M at *
              clear hn1 hne hlo hy hpot hfa h0 HLt HF4 HEk HLN HBI HL
              go_upto_region 32 with (go_at_call 11; refine (HNA.out _ (Below.refl _ _)).mono ?_; rintro e w6 ⟨gm, bs, rfl, hm⟩; have HB6 := Lib.hid hm.bel; have HM6 := Lib.hid hm; clear hm)
              go_upto_region 33 with (go_at_call 12; refine (HCA.out _ HB6.out).mono ?_; rintro e w7 ⟨⟨u, q, cq, rfl, hu, hcon, hcap⟩, hb7⟩; have HB7 := Lib.hid (bt HB4.out (bt HB6.out hb7)); have HM7 := Lib.hid (HM6.out.below hb7); have HF7 := Lib.hid (HFA.out.below (bt HB6.out hb7)); obtain rfl := HCO.out u hcon; rw [if_pos (show ([] : List (Int × Bool)).length = 0 from rfl)]; clear hb7 hu hcon hcap)
              have hnn : ((W.cls.length : Int) != (W.cls.length : Int)) = false := by simp
              clear HNA HCA HCO HB6 HM6 HFA HB4
              go_wp2_with fail
              generalize w7 = W7 at *
              go_loopw [6, 27, 28] (fun s6 s27 s28 wx => ∃ (i : Nat) (v28 : Value), i ≤ W.cls.length ∧ s6 = .bool false ∧ s27 = .int .i64 (i : Int) ∧ s28 = v28 ∧ Hid (Below W7.heap.size W7 wx)) (fun _ s27 _ _ => W.cls.length - (intOf s27).toNat)
              case atStart => exact ⟨0, _, Nat.zero_le _, rfl, rfl, rfl, Lib.hid (Below.refl _ _)⟩
              case round =>
                obtain ⟨i, v28, hi, rfl, rfl, rfl, HBi⟩ := hrel
                by_cases hlt : i < W.cls.length
                · have hii : (i : Int) < W.cls.length := by omega
                  have HI := Lib.hid hlt
                  clear hlt hi
                  go_wp2_with fail
                  generalize wr = W8 at *
                  go_loopw [6, 28] (fun s6 s28 wx => ∃ (j : Nat), j ≤ W.cls.length ∧ s6 = .bool false ∧ s28 = .int .i64 (j : Int) ∧ Hid (Below W7.heap.size W7 wx)) (fun _ s28 _ => W.cls.length - (intOf s28).toNat)
                  case atStart => exact ⟨0, Nat.zero_le _, rfl, rfl, HBi⟩
                  case round =>
                    obtain ⟨j, hj, rfl, rfl, HBj⟩ := hrel
                    have HMj := Lib.hid (HM7.out.below HBj.out)
                    have ra := HMj.out.rows i HI.out
                    have za := cell_lt ra
                    by_cases hlt : j < W.cls.length
                    · have hji : (j : Int) < W.cls.length := by omega
                      have HJ := Lib.hid hlt
                      have HFj := Lib.hid (HF7.out.below HBj.out)
                      have x1 := HFj.out i HI.out
                      have x2 := HFj.out j HJ.out
                      have zx := cell_lt x1
                      have x3 := (HMj.out.at_ i j HI.out HJ.out).1
                      have z3 := cell_lt x3
                      have p1 := HXB.out i HI.out
                      have p2 := HXB.out j HJ.out
                      have hp := HPO.out i j HI.out HJ.out
                      have ho := HNR.out.op i j HI.out HJ.out
                      have hop : openI = 100000000000000000 := rfl
                      rw [hop] at ho hp
                      generalize getM M i j = y3 at *
                      generalize shX W s i = y1 at *
                      generalize shX W s j = y2 at *
                      have w1' : IntKind.i64.wrap ((j : Int) + 1) = (j : Int) + 1 := IntWalk.i64_in _ (by have := HN1.out; omega)
                      have w2' : IntKind.i64.wrap (y1 - y2) = y1 - y2 := IntWalk.i64_in _ (by omega)
                      have d1 : ¬ y3 < y1 - y2 := by
                        by_cases h : y3 < 100000000000000000
                        · have := hp h; omega
                        · omega
                      clear p1 p2 hp ho hop hlt hj
                      go_upto_region 43 with fail
                      go_quiet (fail)
                      go_wp2_with fail
                      go_roundw
                      case rel => exact ⟨j + 1, HJ.out, rfl, by simp, Lib.hid (bt HBj.out (below_drewN (Below.refl _ _) _))⟩
                      case measure => have := HJ.out; simp [intOf]; omega
                    · obtain rfl : j = W.cls.length := by omega
                      have hji : ¬ (W.cls.length : Int) < W.cls.length := by omega
                      have w1' : IntKind.i64.wrap ((i : Int) + 1) = (i : Int) + 1 := IntWalk.i64_in _ (by have := HN1.out; have := HI.out; omega)
                      clear hlt hj
                      go_wp2_with fail
                      go_roundw
                      case rel => exact ⟨i + 1, _, HI.out, rfl, by simp, rfl, HBj⟩
                      case measure => have := HI.out; simp [intOf]; omega
                · obtain rfl : i = W.cls.length := by omega
                  have hii : ¬ (W.cls.length : Int) < W.cls.length := by omega
                  have HB8 := Lib.hid (bt HB7.out HBi.out)
                  go_wp2_with (go_at_call 5; refine (awake2_any _).mono ?_; rintro e w9 ⟨rfl, hb9⟩; have HB9 := Lib.hid (bt HB8.out hb9); clear hb9)
                  go_ret
                  exact ⟨rfl, HB9.out⟩
theorem meets_any (c : Cnt) (W : Wd.Wld) (s : Int) (p1 p2 : Option Addr) (c1 c2 : Nat) (w : World) (hW : Wd.WldIn w W p1 p2) (ht : Wd.Tabs w) :
    Calls Tryd.prog 3 #[cntVal c, wV W p1 p2 c1 c2, .int .i64 s] w fun e w' => e = .returned (.bool true) ∧ Below w.heap.size w w' := by
  cases hb : Wd.bigS W
  · by_cases hn : W.cls.length ≤ 16
    · exact meets_law c W s p1 p2 c1 c2 w ht hW hb hn
    · exact meets_big c W s p1 p2 c1 c2 w hW (.inr (by omega))
  · exact meets_big c W s p1 p2 c1 c2 w hW (.inl hb)
end Go.Proofs.YtmfpnfdoidihcaaDoor.Ct
