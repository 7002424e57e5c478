/- The law CounterFollows. -/
import Derived.Test.YtmfpnfdoidihcaaGreatDoorVm
import Derived.Test.YtmfpnfdoidihcaaGreatDoorPk
import Derived.Test.YtmfpnfdoidihcaaGreatDoorVi
import Derived.Test.YtmfpnfdoidihcaaGreatDoorAk
namespace Go.Proofs.YtmfpnfdoidihcaaGreatDoor.Ct
open Go Go.RowKit Go.Shelf
attribute [local go_sem] Oper.semAt_some
theorem OwnF.more {B k : Nat} {Y : World} {v' : Value} {f : Nat → Int} {x : Int} (hx : f k = x) (hown : Y.ownsRow B 3 1 v' (k + 1) (seqV f k ++ [.int .i64 x])) : OwnF B Y v' f (k + 1) := by
  unfold OwnF; rw [seqV_succ, hx]; exact hown
theorem OwnF.bel {k : Nat} {W X Y : World} {v : Value} {f : Nat → Int} {o : Obj} (h : OwnF W.heap.size X v f k) (hb : Below W.heap.size W X) (hg : (X.alloc o).grownBy Y v.ownBlock) : Below W.heap.size W Y :=
  (hb.alloc hb.size o).grown hg (by have := hb.size; simp; omega) (fun k hk => (World.ownsRow.lt h k hk).1)
set_option maxRecDepth 100000 in
set_option maxHeartbeats 4000000 in
theorem follows_big (c : Cnt) (W : Wd.Wld) (seed a b from_ step count below above : Int) (p1 p2 : Option Addr) (c1 c2 : Nat) (w : World) (hW : Wd.WldIn w W p1 p2) (hb : Wd.bigS W = true) :
    Calls Tryz.prog 4 #[cntVal c, wV W p1 p2 c1 c2, .int .u64 seed, .int .i64 a, .int .i64 b, .int .i64 from_, .int .i64 step, .int .i64 count, .int .i64 below, .int .i64 above] w fun e w' => e = .returned (.bool true) ∧ Below w.heap.size w w' := by
  have HM := Lib.hid (MeetAt.new c W p1 p2 c1 c2 hW)
  have HBG := Lib.hid (fun X (h : Wd.WldIn X W p1 p2) => Wd.big_any W p1 p2 c1 c2 X h)
  rw [hb] at HBG
  unfold cntVal wV
  clear hW hb
  go_enter Tryz.func4, Tryz.ntmps4
  go_upto_region 1 with fail
  generalize ((w.alloc (.cells #[.int .i64 c.f, .int .i64 c.o, .int .i64 c.j, .int .i64 c.g, .int .i64 c.r, .int .i64 c.d, .int .i64 c.i] 23)).alloc (.cells #[.int .u64 W.seed, .slice p1 W.chs.length c1, .slice p2 W.cls.length c2] 28)) = W0 at *
  obtain ⟨-, -, -, -, -, -, -, r0, r1, r2, -, -⟩ := HM.out
  have zr := cell_lt r0
  go_wp2_with (first | (go_at_call 5; refine (HBG.out _ HM.out.own).mono ?_; rintro e w1 ⟨rfl, hb1⟩; have HM1 := Lib.hid (HM.out.below hb1); clear hb1) | (go_at_call 6; refine (awake2_any _).mono ?_; rintro e w2 ⟨rfl, hb2⟩; have HB2 := Lib.hid (bt HM1.out.bel hb2); clear hb2))
  go_ret
  exact ⟨rfl, HB2.out⟩
set_option maxRecDepth 100000 in
set_option maxHeartbeats 8000000 in
theorem follows_law (c : Cnt) (W : Wd.Wld) (seed a b from_ step count below above : Int) (p1 p2 : Option Addr) (c1 c2 : Nat) (w : World) (ht : Wd.Tabs w) (hW : Wd.WldIn w W p1 p2) (hb : Wd.bigS W = false) (hfr : IntKind.i64.wrap from_ = from_) :
    Calls Tryz.prog 4 #[cntVal c, wV W p1 p2 c1 c2, .int .u64 seed, .int .i64 a, .int .i64 b, .int .i64 from_, .int .i64 step, .int .i64 count, .int .i64 below, .int .i64 above] w fun e w' => e = .returned (.bool true) ∧ Below w.heap.size w w' := by
  have HM := Lib.hid (MeetAt.new c W p1 p2 c1 c2 hW)
  have HT := Lib.hid ht
  have HFR := Lib.hid hfr
  have HBG := Lib.hid (fun X (h : Wd.WldIn X W p1 p2) => Wd.big_any W p1 p2 c1 c2 X h)
  have HOW := Lib.hid (fun X (h : Wd.WldIn X W p1 p2) => Wd.own_fresh W p1 p2 c1 c2 X h hb)
  rw [hb] at HBG
  have HPC := Lib.hid (fun X => pick_quiet count 31 (count % 31) (by decide) rfl X)
  have HP8 := Lib.hid (fun X => pick_quiet below 1000000 (below % 1000000) (by decide) rfl X)
  have HP9 := Lib.hid (fun X => pick_quiet above 1000000 (above % 1000000) (by decide) rfl X)
  obtain ⟨N, hN⟩ : ∃ N : Nat, count % 31 = (N : Int) := ⟨(count % 31).toNat, by omega⟩
  have HN30 := Lib.hid (show N ≤ 30 by omega)
  rw [hN] at HPC
  obtain ⟨pb, hpb⟩ : ∃ pb, below % 1000000 = pb := ⟨_, rfl⟩
  obtain ⟨pa, hpa⟩ : ∃ pa, above % 1000000 = pa := ⟨_, rfl⟩
  rw [hpb] at HP8
  rw [hpa] at HP9
  have HPB := Lib.hid (show (0 ≤ pb ∧ pb < 1000000) ∧ 0 ≤ pa ∧ pa < 1000000 by omega)
  unfold cntVal wV
  clear hW ht hb hfr hN hpb hpa
  go_enter Tryz.func4, Tryz.ntmps4
  go_upto_region 1 with fail
  generalize ((w.alloc (.cells #[.int .i64 c.f, .int .i64 c.o, .int .i64 c.j, .int .i64 c.g, .int .i64 c.r, .int .i64 c.d, .int .i64 c.i] 23)).alloc (.cells #[.int .u64 W.seed, .slice p1 W.chs.length c1, .slice p2 W.cls.length c2] 28)) = W0 at *
  obtain ⟨-, -, -, -, -, -, -, r0, r1, r2, -, -⟩ := HM.out
  have zr := cell_lt r0
  go_upto_region 3 with (go_at_call 5; refine (HBG.out _ HM.out.own).mono ?_; rintro e w1 ⟨rfl, hb1⟩; have HM1 := Lib.hid (HM.out.below hb1); clear hb1)
  clear r0 r1 r2 zr HM HBG
  have HOW1 : Hid (∀ X, Below w1.heap.size w1 X → Calls Tryz.prog 7 #[.agg #[.int .u64 W.seed, .slice p1 W.chs.length c1, .slice p2 W.cls.length c2]] X fun e Y => ∃ q1 q2 d1 d2, e = .returned (.agg #[.int .u64 W.seed, .slice q1 W.chs.length d1, .slice q2 W.cls.length d2]) ∧ Wd.WldFr X.heap.size Y W q1 q2 ∧ Below X.heap.size X Y ∧ Below w1.heap.size w1 Y) := Lib.hid fun X hb => (HOW.out X (HM1.out.own.below hb)).mono fun e Y ⟨q1, q2, d1, d2, h1, h2, h3⟩ => ⟨q1, q2, d1, d2, h1, h2, h3, bt hb h3⟩
  clear HOW
  go_cut [21, 22] from 37 to 40 (fun s21 s22 wx => ∃ (b1 b2 d1 d2 : Nat) (q1 q2 : Option Addr), s21 = .pointer (some ⟨b1, 0, none⟩) ∧ s22 = .pointer (some ⟨b2, 0, none⟩) ∧ Hid (MeetIn w wx c W p2 q1 q2 c2 d1 d2 b1 b2) ∧ Hid (wx.frozen? ⟨b2, 0, none⟩ = false) ∧ Hid (∃ (n : Nat) (bad : Nat → Prop), WldNo n bad wx W q1 q2 ∧ bad b2) ∧ Hid (b1 ≠ b2 ∧ w.heap.size + 1 < b2))
  case first =>
    refine wp_region_held_drew (S := fun w' => Below w1.heap.size w1 w') (by kernel_rfl) (Below.drew (Below.refl _ _)) (fun hS0 => ?_)
    (try dsimp only at hS0)
    generalize w1.drew = X0 at *
    refine wpAnyH_take (i := 0) (v := ?_) rfl (by kernel_rfl) (by kernel_rfl) (by kernel_rfl) (fun _ _ _ h => h) (Or.inl ⟨by rfl, ?_⟩) (by assumption) ?_
    rotate_left
    · intro X hSX; (try dsimp only at hSX); obtain ⟨z0, z1, z2, z3, z4, z5, z6, r0, r1, r2, -, -⟩ := HM1.out.below hSX; have zz := cell_lt z0; have zr := cell_lt r0; go_simp; try with_reducible rfl
    simp only [Act.put, List.getElem_toArray, List.getElem_cons_zero, List.setIfInBounds_toArray, List.set_cons_zero, List.set_cons_succ]
    refine wpAnyH_take (i := 1) (v := ?_) rfl (by kernel_rfl) (by kernel_rfl) (by kernel_rfl) (fun _ _ _ h => h) (Or.inl ⟨by rfl, ?_⟩) (by assumption) ?_
    rotate_left
    · intro X hSX; (try dsimp only at hSX); obtain ⟨z0, z1, z2, z3, z4, z5, z6, r0, r1, r2, -, -⟩ := HM1.out.below hSX; have zz := cell_lt z0; have zr := cell_lt r0; go_simp; try with_reducible rfl
    simp only [Act.put, List.getElem_toArray, List.getElem_cons_succ, List.getElem_cons_zero, List.setIfInBounds_toArray, List.set_cons_zero, List.set_cons_succ]
    refine wpAnyH_ready (rs := [2, 3, 4]) (by kernel_rfl) (by simp) (AllReadyH.cons rfl (fun K hK => ?_) (AllReadyH.cons rfl (fun K hK => ?_) (AllReadyH.cons rfl (fun K hK => ?_) AllReadyH.nil)))
    · go_simp
      refine (HOW1.out _ hS0).mono ?_
      rintro e X1 ⟨q1, q2, d1, d2, rfl, hy, hby, hS1⟩
      go_wp2_with fail
      have HQ : Hid (WldNo w1.heap.size (fun _ => False) X1 W q1 q2) := Lib.hid (WldNo.call hy hS0.size (fun k hk => hk.elim))
      refine hK.out _ _ hS1 (fun _ => ?_)
      clear hK K
      clear hy hby
      refine wpAnyH_ready (rs := [3, 4]) (by kernel_rfl) (by simp) (AllReadyH.cons rfl (fun K hK => ?_) (AllReadyH.cons rfl (fun K hK => ?_) AllReadyH.nil))
      · go_simp
        have hS2 := below_alloc hS1 (.cells #[.int .i64 0, .int .i64 0, .int .i64 0, .int .i64 0, .int .i64 0, .int .i64 0, .int .i64 0] 34)
        have HAn := Lib.hid (ZC.new X1 34)
        have hgba : Hid (w1.heap.size ≤ X1.heap.size) := Lib.hid hS1.size
        have HQn := Lib.hid (HQ.out.alloc (.cells #[.int .i64 0, .int .i64 0, .int .i64 0, .int .i64 0, .int .i64 0, .int .i64 0, .int .i64 0] 34))
        refine hK.out _ _ hS2 (fun _ => ?_)
        clear hK K
        clear HQ
        have HQ := HQn
        clear HQn
        have HA := HAn
        clear HAn
        generalize X1.alloc (.cells #[.int .i64 0, .int .i64 0, .int .i64 0, .int .i64 0, .int .i64 0, .int .i64 0, .int .i64 0] 34) = X2 at *
        generalize X1.heap.size = ba at *
        refine wpAnyH_ready (rs := [4]) (by kernel_rfl) (by simp) (AllReadyH.cons rfl (fun K hK => ?_) AllReadyH.nil)
        go_simp
        have hS3 := below_alloc hS2 (.cells #[.int .u64 0, .slice none 0 0, .slice none 0 0] 38)
        have HBn := Lib.hid (ZW.new X2 38)
        have hgbb : Hid (w1.heap.size ≤ X2.heap.size) := Lib.hid hS2.size
        have hne : Hid (ba ≠ X2.heap.size) := Lib.hid (by have := cell_lt HA.out.c0; omega)
        have HAn := Lib.hid (HA.out.below (below_alloc (Below.refl _ _) (.cells #[.int .u64 0, .slice none 0 0, .slice none 0 0] 38)))
        have HQn := Lib.hid (HQ.out.alloc (.cells #[.int .u64 0, .slice none 0 0, .slice none 0 0] 38))
        refine hK.out _ _ hS3 (fun _ => ?_)
        clear hK K
        clear HA
        have HA := HAn
        clear HAn
        clear HQ
        have HQ := HQn
        clear HQn
        have HB := HBn
        clear HBn
        generalize X2.alloc (.cells #[.int .u64 0, .slice none 0 0, .slice none 0 0] 38) = X3 at *
        generalize X2.heap.size = bb at *
        refine wpAnyH_ready (rs := [5]) (by kernel_rfl) (by simp) (AllReadyH.cons rfl (fun K hK => ?_) AllReadyH.nil)
        obtain ⟨x0, x1, x2, x3, x4, x5, x6, f0, f1, f2, f3, f4, f5, f6⟩ := HA.out
        have zx := cell_lt x0
        go_simp
        clear x0 x1 x2 x3 x4 x5 x6 f0 f1 f2 f3 f4 f5 f6 zx
        obtain ⟨hcb, honly⟩ := HA.out.store c _ rfl
        have HAn := Lib.hid hcb
        have hS4 := honly.below hS3 hgba.out
        have HBn := Lib.hid (HB.out.only honly hne.out.symm)
        have HQn := Lib.hid (HQ.out.only honly (.inl (.inr rfl)))
        refine hK.out _ _ hS4 (fun _ => ?_)
        clear hK K hcb honly HA
        have HA := HAn
        clear HAn
        clear HB
        have HB := HBn
        clear HBn
        clear HQ
        have HQ := HQn
        clear HQn
        generalize (((((((X3.setCell ⟨ba, 0, none⟩ (.int .i64 c.f)).setCell ⟨ba, 1, none⟩ (.int .i64 c.o)).setCell ⟨ba, 2, none⟩ (.int .i64 c.j)).setCell ⟨ba, 3, none⟩ (.int .i64 c.g)).setCell ⟨ba, 4, none⟩ (.int .i64 c.r)).setCell ⟨ba, 5, none⟩ (.int .i64 c.d)).setCell ⟨ba, 6, none⟩ (.int .i64 c.i)) = X4 at *
        refine wpAnyH_ready (rs := [6]) (by kernel_rfl) (by simp) (AllReadyH.cons rfl (fun K hK => ?_) AllReadyH.nil)
        obtain ⟨x0, x1, x2, f0, f1, f2⟩ := HB.out
        have zx := cell_lt x0
        go_simp
        clear x0 x1 x2 f0 f1 f2 zx
        obtain ⟨hcb, honly⟩ := HB.out.store W q1 q2 d1 d2 _ rfl
        have HBn := Lib.hid hcb
        have hS5 := honly.below hS4 hgbb.out
        have HAn := Lib.hid (HA.out.only honly hne.out)
        have HQn := Lib.hid (HQ.out.only honly (.inr rfl))
        refine hK.out _ _ hS5 (fun _ => ?_)
        clear hK K hcb honly HB
        have HB := HBn
        clear HBn
        clear HA
        have HA := HAn
        clear HAn
        clear HQ
        have HQ := HQn
        clear HQn
        generalize (((X4.setCell ⟨bb, 0, none⟩ (.int .u64 W.seed)).setCell ⟨bb, 1, none⟩ (.slice q1 W.chs.length d1)).setCell ⟨bb, 2, none⟩ (.slice q2 W.cls.length d2)) = X5 at *
        refine wpAnyH_done (by kernel_rfl) ?_ _
        clear hS0 hS1 hS2 hS3 hS4
        go_wp2_with fail
        go_meet
        exact ⟨ba, bb, d1, d2, q1, q2, rfl, rfl, Lib.hid (meet_done HM1.out hS5 HA.out HB.out HQ.out), Lib.hid HB.out.f0, Lib.hid ⟨_, _, HQ.out, (.inr rfl)⟩, Lib.hid ⟨hne.out, Nat.lt_of_lt_of_le (cell_lt HM1.out.r2) hgbb.out⟩⟩
      · go_simp
        have hS2 := below_alloc hS1 (.cells #[.int .u64 0, .slice none 0 0, .slice none 0 0] 38)
        have HBn := Lib.hid (ZW.new X1 38)
        have hgbb : Hid (w1.heap.size ≤ X1.heap.size) := Lib.hid hS1.size
        have HQn := Lib.hid (HQ.out.alloc (.cells #[.int .u64 0, .slice none 0 0, .slice none 0 0] 38))
        refine hK.out _ _ hS2 (fun _ => ?_)
        clear hK K
        clear HQ
        have HQ := HQn
        clear HQn
        have HB := HBn
        clear HBn
        generalize X1.alloc (.cells #[.int .u64 0, .slice none 0 0, .slice none 0 0] 38) = X2 at *
        generalize X1.heap.size = bb at *
        refine wpAnyH_ready (rs := [3]) (by kernel_rfl) (by simp) (AllReadyH.cons rfl (fun K hK => ?_) AllReadyH.nil)
        go_simp
        have hS3 := below_alloc hS2 (.cells #[.int .i64 0, .int .i64 0, .int .i64 0, .int .i64 0, .int .i64 0, .int .i64 0, .int .i64 0] 34)
        have HAn := Lib.hid (ZC.new X2 34)
        have hgba : Hid (w1.heap.size ≤ X2.heap.size) := Lib.hid hS2.size
        have hne : Hid (X2.heap.size ≠ bb) := Lib.hid (by have := cell_lt HB.out.c0; omega)
        have HBn := Lib.hid (HB.out.below (below_alloc (Below.refl _ _) (.cells #[.int .i64 0, .int .i64 0, .int .i64 0, .int .i64 0, .int .i64 0, .int .i64 0, .int .i64 0] 34)))
        have HQn := Lib.hid (HQ.out.alloc (.cells #[.int .i64 0, .int .i64 0, .int .i64 0, .int .i64 0, .int .i64 0, .int .i64 0, .int .i64 0] 34))
        refine hK.out _ _ hS3 (fun _ => ?_)
        clear hK K
        clear HB
        have HB := HBn
        clear HBn
        clear HQ
        have HQ := HQn
        clear HQn
        have HA := HAn
        clear HAn
        generalize X2.alloc (.cells #[.int .i64 0, .int .i64 0, .int .i64 0, .int .i64 0, .int .i64 0, .int .i64 0, .int .i64 0] 34) = X3 at *
        generalize X2.heap.size = ba at *
        refine wpAnyH_ready (rs := [5]) (by kernel_rfl) (by simp) (AllReadyH.cons rfl (fun K hK => ?_) AllReadyH.nil)
        obtain ⟨x0, x1, x2, x3, x4, x5, x6, f0, f1, f2, f3, f4, f5, f6⟩ := HA.out
        have zx := cell_lt x0
        go_simp
        clear x0 x1 x2 x3 x4 x5 x6 f0 f1 f2 f3 f4 f5 f6 zx
        obtain ⟨hcb, honly⟩ := HA.out.store c _ rfl
        have HAn := Lib.hid hcb
        have hS4 := honly.below hS3 hgba.out
        have HBn := Lib.hid (HB.out.only honly hne.out.symm)
        have HQn := Lib.hid (HQ.out.only honly (.inr rfl))
        refine hK.out _ _ hS4 (fun _ => ?_)
        clear hK K hcb honly HA
        have HA := HAn
        clear HAn
        clear HB
        have HB := HBn
        clear HBn
        clear HQ
        have HQ := HQn
        clear HQn
        generalize (((((((X3.setCell ⟨ba, 0, none⟩ (.int .i64 c.f)).setCell ⟨ba, 1, none⟩ (.int .i64 c.o)).setCell ⟨ba, 2, none⟩ (.int .i64 c.j)).setCell ⟨ba, 3, none⟩ (.int .i64 c.g)).setCell ⟨ba, 4, none⟩ (.int .i64 c.r)).setCell ⟨ba, 5, none⟩ (.int .i64 c.d)).setCell ⟨ba, 6, none⟩ (.int .i64 c.i)) = X4 at *
        refine wpAnyH_ready (rs := [6]) (by kernel_rfl) (by simp) (AllReadyH.cons rfl (fun K hK => ?_) AllReadyH.nil)
        obtain ⟨x0, x1, x2, f0, f1, f2⟩ := HB.out
        have zx := cell_lt x0
        go_simp
        clear x0 x1 x2 f0 f1 f2 zx
        obtain ⟨hcb, honly⟩ := HB.out.store W q1 q2 d1 d2 _ rfl
        have HBn := Lib.hid hcb
        have hS5 := honly.below hS4 hgbb.out
        have HAn := Lib.hid (HA.out.only honly hne.out)
        have HQn := Lib.hid (HQ.out.only honly (.inl (.inr rfl)))
        refine hK.out _ _ hS5 (fun _ => ?_)
        clear hK K hcb honly HB
        have HB := HBn
        clear HBn
        clear HA
        have HA := HAn
        clear HAn
        clear HQ
        have HQ := HQn
        clear HQn
        generalize (((X4.setCell ⟨bb, 0, none⟩ (.int .u64 W.seed)).setCell ⟨bb, 1, none⟩ (.slice q1 W.chs.length d1)).setCell ⟨bb, 2, none⟩ (.slice q2 W.cls.length d2)) = X5 at *
        refine wpAnyH_done (by kernel_rfl) ?_ _
        clear hS0 hS1 hS2 hS3 hS4
        go_wp2_with fail
        go_meet
        exact ⟨ba, bb, d1, d2, q1, q2, rfl, rfl, Lib.hid (meet_done HM1.out hS5 HA.out HB.out HQ.out), Lib.hid HB.out.f0, Lib.hid ⟨_, _, HQ.out, (.inl (.inr rfl))⟩, Lib.hid ⟨hne.out, Nat.lt_of_lt_of_le (cell_lt HM1.out.r2) hgbb.out⟩⟩
    · go_simp
      have hS1 := below_alloc hS0 (.cells #[.int .i64 0, .int .i64 0, .int .i64 0, .int .i64 0, .int .i64 0, .int .i64 0, .int .i64 0] 34)
      have HAn := Lib.hid (ZC.new X0 34)
      have hgba : Hid (w1.heap.size ≤ X0.heap.size) := Lib.hid hS0.size
      refine hK.out _ _ hS1 (fun _ => ?_)
      clear hK K
      have HA := HAn
      clear HAn
      generalize X0.alloc (.cells #[.int .i64 0, .int .i64 0, .int .i64 0, .int .i64 0, .int .i64 0, .int .i64 0, .int .i64 0] 34) = X1 at *
      generalize X0.heap.size = ba at *
      refine wpAnyH_ready (rs := [2, 4]) (by kernel_rfl) (by simp) (AllReadyH.cons rfl (fun K hK => ?_) (AllReadyH.cons rfl (fun K hK => ?_) AllReadyH.nil))
      · go_simp
        refine (HOW1.out _ hS1).mono ?_
        rintro e X2 ⟨q1, q2, d1, d2, rfl, hy, hby, hS2⟩
        go_wp2_with fail
        have HQ : Hid (WldNo w1.heap.size (fun k => k = ba) X2 W q1 q2) := Lib.hid (WldNo.call hy hS1.size (fun k hk => by subst hk; exact cell_lt HA.out.c0))
        refine hK.out _ _ hS2 (fun _ => ?_)
        clear hK K
        have HAn := Lib.hid (HA.out.below hby)
        clear HA
        have HA := HAn
        clear HAn
        clear hy hby
        refine wpAnyH_ready (rs := [4]) (by kernel_rfl) (by simp) (AllReadyH.cons rfl (fun K hK => ?_) AllReadyH.nil)
        go_simp
        have hS3 := below_alloc hS2 (.cells #[.int .u64 0, .slice none 0 0, .slice none 0 0] 38)
        have HBn := Lib.hid (ZW.new X2 38)
        have hgbb : Hid (w1.heap.size ≤ X2.heap.size) := Lib.hid hS2.size
        have hne : Hid (ba ≠ X2.heap.size) := Lib.hid (by have := cell_lt HA.out.c0; omega)
        have HAn := Lib.hid (HA.out.below (below_alloc (Below.refl _ _) (.cells #[.int .u64 0, .slice none 0 0, .slice none 0 0] 38)))
        have HQn := Lib.hid (HQ.out.alloc (.cells #[.int .u64 0, .slice none 0 0, .slice none 0 0] 38))
        refine hK.out _ _ hS3 (fun _ => ?_)
        clear hK K
        clear HA
        have HA := HAn
        clear HAn
        clear HQ
        have HQ := HQn
        clear HQn
        have HB := HBn
        clear HBn
        generalize X2.alloc (.cells #[.int .u64 0, .slice none 0 0, .slice none 0 0] 38) = X3 at *
        generalize X2.heap.size = bb at *
        refine wpAnyH_ready (rs := [5]) (by kernel_rfl) (by simp) (AllReadyH.cons rfl (fun K hK => ?_) AllReadyH.nil)
        obtain ⟨x0, x1, x2, x3, x4, x5, x6, f0, f1, f2, f3, f4, f5, f6⟩ := HA.out
        have zx := cell_lt x0
        go_simp
        clear x0 x1 x2 x3 x4 x5 x6 f0 f1 f2 f3 f4 f5 f6 zx
        obtain ⟨hcb, honly⟩ := HA.out.store c _ rfl
        have HAn := Lib.hid hcb
        have hS4 := honly.below hS3 hgba.out
        have HBn := Lib.hid (HB.out.only honly hne.out.symm)
        have HQn := Lib.hid (HQ.out.only honly (.inl rfl))
        refine hK.out _ _ hS4 (fun _ => ?_)
        clear hK K hcb honly HA
        have HA := HAn
        clear HAn
        clear HB
        have HB := HBn
        clear HBn
        clear HQ
        have HQ := HQn
        clear HQn
        generalize (((((((X3.setCell ⟨ba, 0, none⟩ (.int .i64 c.f)).setCell ⟨ba, 1, none⟩ (.int .i64 c.o)).setCell ⟨ba, 2, none⟩ (.int .i64 c.j)).setCell ⟨ba, 3, none⟩ (.int .i64 c.g)).setCell ⟨ba, 4, none⟩ (.int .i64 c.r)).setCell ⟨ba, 5, none⟩ (.int .i64 c.d)).setCell ⟨ba, 6, none⟩ (.int .i64 c.i)) = X4 at *
        refine wpAnyH_ready (rs := [6]) (by kernel_rfl) (by simp) (AllReadyH.cons rfl (fun K hK => ?_) AllReadyH.nil)
        obtain ⟨x0, x1, x2, f0, f1, f2⟩ := HB.out
        have zx := cell_lt x0
        go_simp
        clear x0 x1 x2 f0 f1 f2 zx
        obtain ⟨hcb, honly⟩ := HB.out.store W q1 q2 d1 d2 _ rfl
        have HBn := Lib.hid hcb
        have hS5 := honly.below hS4 hgbb.out
        have HAn := Lib.hid (HA.out.only honly hne.out)
        have HQn := Lib.hid (HQ.out.only honly (.inr rfl))
        refine hK.out _ _ hS5 (fun _ => ?_)
        clear hK K hcb honly HB
        have HB := HBn
        clear HBn
        clear HA
        have HA := HAn
        clear HAn
        clear HQ
        have HQ := HQn
        clear HQn
        generalize (((X4.setCell ⟨bb, 0, none⟩ (.int .u64 W.seed)).setCell ⟨bb, 1, none⟩ (.slice q1 W.chs.length d1)).setCell ⟨bb, 2, none⟩ (.slice q2 W.cls.length d2)) = X5 at *
        refine wpAnyH_done (by kernel_rfl) ?_ _
        clear hS0 hS1 hS2 hS3 hS4
        go_wp2_with fail
        go_meet
        exact ⟨ba, bb, d1, d2, q1, q2, rfl, rfl, Lib.hid (meet_done HM1.out hS5 HA.out HB.out HQ.out), Lib.hid HB.out.f0, Lib.hid ⟨_, _, HQ.out, (.inr rfl)⟩, Lib.hid ⟨hne.out, Nat.lt_of_lt_of_le (cell_lt HM1.out.r2) hgbb.out⟩⟩
      · go_simp
        have hS2 := below_alloc hS1 (.cells #[.int .u64 0, .slice none 0 0, .slice none 0 0] 38)
        have HBn := Lib.hid (ZW.new X1 38)
        have hgbb : Hid (w1.heap.size ≤ X1.heap.size) := Lib.hid hS1.size
        have hne : Hid (ba ≠ X1.heap.size) := Lib.hid (by have := cell_lt HA.out.c0; omega)
        have HAn := Lib.hid (HA.out.below (below_alloc (Below.refl _ _) (.cells #[.int .u64 0, .slice none 0 0, .slice none 0 0] 38)))
        refine hK.out _ _ hS2 (fun _ => ?_)
        clear hK K
        clear HA
        have HA := HAn
        clear HAn
        have HB := HBn
        clear HBn
        generalize X1.alloc (.cells #[.int .u64 0, .slice none 0 0, .slice none 0 0] 38) = X2 at *
        generalize X1.heap.size = bb at *
        refine wpAnyH_ready (rs := [2]) (by kernel_rfl) (by simp) (AllReadyH.cons rfl (fun K hK => ?_) AllReadyH.nil)
        go_simp
        refine (HOW1.out _ hS2).mono ?_
        rintro e X3 ⟨q1, q2, d1, d2, rfl, hy, hby, hS3⟩
        go_wp2_with fail
        have HQ : Hid (WldNo w1.heap.size (fun k => k = ba ∨ k = bb) X3 W q1 q2) := Lib.hid (WldNo.call hy hS2.size (fun k hk => by rcases hk with hk | hk <;> subst hk <;> first | exact cell_lt HA.out.c0 | exact cell_lt HB.out.c0))
        refine hK.out _ _ hS3 (fun _ => ?_)
        clear hK K
        have HAn := Lib.hid (HA.out.below hby)
        clear HA
        have HA := HAn
        clear HAn
        have HBn := Lib.hid (HB.out.below hby)
        clear HB
        have HB := HBn
        clear HBn
        clear hy hby
        refine wpAnyH_ready (rs := [5]) (by kernel_rfl) (by simp) (AllReadyH.cons rfl (fun K hK => ?_) AllReadyH.nil)
        obtain ⟨x0, x1, x2, x3, x4, x5, x6, f0, f1, f2, f3, f4, f5, f6⟩ := HA.out
        have zx := cell_lt x0
        go_simp
        clear x0 x1 x2 x3 x4 x5 x6 f0 f1 f2 f3 f4 f5 f6 zx
        obtain ⟨hcb, honly⟩ := HA.out.store c _ rfl
        have HAn := Lib.hid hcb
        have hS4 := honly.below hS3 hgba.out
        have HBn := Lib.hid (HB.out.only honly hne.out.symm)
        have HQn := Lib.hid (HQ.out.only honly (.inl rfl))
        refine hK.out _ _ hS4 (fun _ => ?_)
        clear hK K hcb honly HA
        have HA := HAn
        clear HAn
        clear HB
        have HB := HBn
        clear HBn
        clear HQ
        have HQ := HQn
        clear HQn
        generalize (((((((X3.setCell ⟨ba, 0, none⟩ (.int .i64 c.f)).setCell ⟨ba, 1, none⟩ (.int .i64 c.o)).setCell ⟨ba, 2, none⟩ (.int .i64 c.j)).setCell ⟨ba, 3, none⟩ (.int .i64 c.g)).setCell ⟨ba, 4, none⟩ (.int .i64 c.r)).setCell ⟨ba, 5, none⟩ (.int .i64 c.d)).setCell ⟨ba, 6, none⟩ (.int .i64 c.i)) = X4 at *
        refine wpAnyH_ready (rs := [6]) (by kernel_rfl) (by simp) (AllReadyH.cons rfl (fun K hK => ?_) AllReadyH.nil)
        obtain ⟨x0, x1, x2, f0, f1, f2⟩ := HB.out
        have zx := cell_lt x0
        go_simp
        clear x0 x1 x2 f0 f1 f2 zx
        obtain ⟨hcb, honly⟩ := HB.out.store W q1 q2 d1 d2 _ rfl
        have HBn := Lib.hid hcb
        have hS5 := honly.below hS4 hgbb.out
        have HAn := Lib.hid (HA.out.only honly hne.out)
        have HQn := Lib.hid (HQ.out.only honly (.inr rfl))
        refine hK.out _ _ hS5 (fun _ => ?_)
        clear hK K hcb honly HB
        have HB := HBn
        clear HBn
        clear HA
        have HA := HAn
        clear HAn
        clear HQ
        have HQ := HQn
        clear HQn
        generalize (((X4.setCell ⟨bb, 0, none⟩ (.int .u64 W.seed)).setCell ⟨bb, 1, none⟩ (.slice q1 W.chs.length d1)).setCell ⟨bb, 2, none⟩ (.slice q2 W.cls.length d2)) = X5 at *
        refine wpAnyH_done (by kernel_rfl) ?_ _
        clear hS0 hS1 hS2 hS3 hS4
        go_wp2_with fail
        go_meet
        exact ⟨ba, bb, d1, d2, q1, q2, rfl, rfl, Lib.hid (meet_done HM1.out hS5 HA.out HB.out HQ.out), Lib.hid HB.out.f0, Lib.hid ⟨_, _, HQ.out, (.inr rfl)⟩, Lib.hid ⟨hne.out, Nat.lt_of_lt_of_le (cell_lt HM1.out.r2) hgbb.out⟩⟩
    · go_simp
      have hS1 := below_alloc hS0 (.cells #[.int .u64 0, .slice none 0 0, .slice none 0 0] 38)
      have HBn := Lib.hid (ZW.new X0 38)
      have hgbb : Hid (w1.heap.size ≤ X0.heap.size) := Lib.hid hS0.size
      refine hK.out _ _ hS1 (fun _ => ?_)
      clear hK K
      have HB := HBn
      clear HBn
      generalize X0.alloc (.cells #[.int .u64 0, .slice none 0 0, .slice none 0 0] 38) = X1 at *
      generalize X0.heap.size = bb at *
      refine wpAnyH_ready (rs := [2, 3]) (by kernel_rfl) (by simp) (AllReadyH.cons rfl (fun K hK => ?_) (AllReadyH.cons rfl (fun K hK => ?_) AllReadyH.nil))
      · go_simp
        refine (HOW1.out _ hS1).mono ?_
        rintro e X2 ⟨q1, q2, d1, d2, rfl, hy, hby, hS2⟩
        go_wp2_with fail
        have HQ : Hid (WldNo w1.heap.size (fun k => k = bb) X2 W q1 q2) := Lib.hid (WldNo.call hy hS1.size (fun k hk => by subst hk; exact cell_lt HB.out.c0))
        refine hK.out _ _ hS2 (fun _ => ?_)
        clear hK K
        have HBn := Lib.hid (HB.out.below hby)
        clear HB
        have HB := HBn
        clear HBn
        clear hy hby
        refine wpAnyH_ready (rs := [3]) (by kernel_rfl) (by simp) (AllReadyH.cons rfl (fun K hK => ?_) AllReadyH.nil)
        go_simp
        have hS3 := below_alloc hS2 (.cells #[.int .i64 0, .int .i64 0, .int .i64 0, .int .i64 0, .int .i64 0, .int .i64 0, .int .i64 0] 34)
        have HAn := Lib.hid (ZC.new X2 34)
        have hgba : Hid (w1.heap.size ≤ X2.heap.size) := Lib.hid hS2.size
        have hne : Hid (X2.heap.size ≠ bb) := Lib.hid (by have := cell_lt HB.out.c0; omega)
        have HBn := Lib.hid (HB.out.below (below_alloc (Below.refl _ _) (.cells #[.int .i64 0, .int .i64 0, .int .i64 0, .int .i64 0, .int .i64 0, .int .i64 0, .int .i64 0] 34)))
        have HQn := Lib.hid (HQ.out.alloc (.cells #[.int .i64 0, .int .i64 0, .int .i64 0, .int .i64 0, .int .i64 0, .int .i64 0, .int .i64 0] 34))
        refine hK.out _ _ hS3 (fun _ => ?_)
        clear hK K
        clear HB
        have HB := HBn
        clear HBn
        clear HQ
        have HQ := HQn
        clear HQn
        have HA := HAn
        clear HAn
        generalize X2.alloc (.cells #[.int .i64 0, .int .i64 0, .int .i64 0, .int .i64 0, .int .i64 0, .int .i64 0, .int .i64 0] 34) = X3 at *
        generalize X2.heap.size = ba at *
        refine wpAnyH_ready (rs := [5]) (by kernel_rfl) (by simp) (AllReadyH.cons rfl (fun K hK => ?_) AllReadyH.nil)
        obtain ⟨x0, x1, x2, x3, x4, x5, x6, f0, f1, f2, f3, f4, f5, f6⟩ := HA.out
        have zx := cell_lt x0
        go_simp
        clear x0 x1 x2 x3 x4 x5 x6 f0 f1 f2 f3 f4 f5 f6 zx
        obtain ⟨hcb, honly⟩ := HA.out.store c _ rfl
        have HAn := Lib.hid hcb
        have hS4 := honly.below hS3 hgba.out
        have HBn := Lib.hid (HB.out.only honly hne.out.symm)
        have HQn := Lib.hid (HQ.out.only honly (.inr rfl))
        refine hK.out _ _ hS4 (fun _ => ?_)
        clear hK K hcb honly HA
        have HA := HAn
        clear HAn
        clear HB
        have HB := HBn
        clear HBn
        clear HQ
        have HQ := HQn
        clear HQn
        generalize (((((((X3.setCell ⟨ba, 0, none⟩ (.int .i64 c.f)).setCell ⟨ba, 1, none⟩ (.int .i64 c.o)).setCell ⟨ba, 2, none⟩ (.int .i64 c.j)).setCell ⟨ba, 3, none⟩ (.int .i64 c.g)).setCell ⟨ba, 4, none⟩ (.int .i64 c.r)).setCell ⟨ba, 5, none⟩ (.int .i64 c.d)).setCell ⟨ba, 6, none⟩ (.int .i64 c.i)) = X4 at *
        refine wpAnyH_ready (rs := [6]) (by kernel_rfl) (by simp) (AllReadyH.cons rfl (fun K hK => ?_) AllReadyH.nil)
        obtain ⟨x0, x1, x2, f0, f1, f2⟩ := HB.out
        have zx := cell_lt x0
        go_simp
        clear x0 x1 x2 f0 f1 f2 zx
        obtain ⟨hcb, honly⟩ := HB.out.store W q1 q2 d1 d2 _ rfl
        have HBn := Lib.hid hcb
        have hS5 := honly.below hS4 hgbb.out
        have HAn := Lib.hid (HA.out.only honly hne.out)
        have HQn := Lib.hid (HQ.out.only honly (.inl rfl))
        refine hK.out _ _ hS5 (fun _ => ?_)
        clear hK K hcb honly HB
        have HB := HBn
        clear HBn
        clear HA
        have HA := HAn
        clear HAn
        clear HQ
        have HQ := HQn
        clear HQn
        generalize (((X4.setCell ⟨bb, 0, none⟩ (.int .u64 W.seed)).setCell ⟨bb, 1, none⟩ (.slice q1 W.chs.length d1)).setCell ⟨bb, 2, none⟩ (.slice q2 W.cls.length d2)) = X5 at *
        refine wpAnyH_done (by kernel_rfl) ?_ _
        clear hS0 hS1 hS2 hS3 hS4
        go_wp2_with fail
        go_meet
        exact ⟨ba, bb, d1, d2, q1, q2, rfl, rfl, Lib.hid (meet_done HM1.out hS5 HA.out HB.out HQ.out), Lib.hid HB.out.f0, Lib.hid ⟨_, _, HQ.out, (.inl rfl)⟩, Lib.hid ⟨hne.out, Nat.lt_of_lt_of_le (cell_lt HM1.out.r2) hgbb.out⟩⟩
      · go_simp
        have hS2 := below_alloc hS1 (.cells #[.int .i64 0, .int .i64 0, .int .i64 0, .int .i64 0, .int .i64 0, .int .i64 0, .int .i64 0] 34)
        have HAn := Lib.hid (ZC.new X1 34)
        have hgba : Hid (w1.heap.size ≤ X1.heap.size) := Lib.hid hS1.size
        have hne : Hid (X1.heap.size ≠ bb) := Lib.hid (by have := cell_lt HB.out.c0; omega)
        have HBn := Lib.hid (HB.out.below (below_alloc (Below.refl _ _) (.cells #[.int .i64 0, .int .i64 0, .int .i64 0, .int .i64 0, .int .i64 0, .int .i64 0, .int .i64 0] 34)))
        refine hK.out _ _ hS2 (fun _ => ?_)
        clear hK K
        clear HB
        have HB := HBn
        clear HBn
        have HA := HAn
        clear HAn
        generalize X1.alloc (.cells #[.int .i64 0, .int .i64 0, .int .i64 0, .int .i64 0, .int .i64 0, .int .i64 0, .int .i64 0] 34) = X2 at *
        generalize X1.heap.size = ba at *
        refine wpAnyH_ready (rs := [2]) (by kernel_rfl) (by simp) (AllReadyH.cons rfl (fun K hK => ?_) AllReadyH.nil)
        go_simp
        refine (HOW1.out _ hS2).mono ?_
        rintro e X3 ⟨q1, q2, d1, d2, rfl, hy, hby, hS3⟩
        go_wp2_with fail
        have HQ : Hid (WldNo w1.heap.size (fun k => k = ba ∨ k = bb) X3 W q1 q2) := Lib.hid (WldNo.call hy hS2.size (fun k hk => by rcases hk with hk | hk <;> subst hk <;> first | exact cell_lt HA.out.c0 | exact cell_lt HB.out.c0))
        refine hK.out _ _ hS3 (fun _ => ?_)
        clear hK K
        have HAn := Lib.hid (HA.out.below hby)
        clear HA
        have HA := HAn
        clear HAn
        have HBn := Lib.hid (HB.out.below hby)
        clear HB
        have HB := HBn
        clear HBn
        clear hy hby
        refine wpAnyH_ready (rs := [5]) (by kernel_rfl) (by simp) (AllReadyH.cons rfl (fun K hK => ?_) AllReadyH.nil)
        obtain ⟨x0, x1, x2, x3, x4, x5, x6, f0, f1, f2, f3, f4, f5, f6⟩ := HA.out
        have zx := cell_lt x0
        go_simp
        clear x0 x1 x2 x3 x4 x5 x6 f0 f1 f2 f3 f4 f5 f6 zx
        obtain ⟨hcb, honly⟩ := HA.out.store c _ rfl
        have HAn := Lib.hid hcb
        have hS4 := honly.below hS3 hgba.out
        have HBn := Lib.hid (HB.out.only honly hne.out.symm)
        have HQn := Lib.hid (HQ.out.only honly (.inl rfl))
        refine hK.out _ _ hS4 (fun _ => ?_)
        clear hK K hcb honly HA
        have HA := HAn
        clear HAn
        clear HB
        have HB := HBn
        clear HBn
        clear HQ
        have HQ := HQn
        clear HQn
        generalize (((((((X3.setCell ⟨ba, 0, none⟩ (.int .i64 c.f)).setCell ⟨ba, 1, none⟩ (.int .i64 c.o)).setCell ⟨ba, 2, none⟩ (.int .i64 c.j)).setCell ⟨ba, 3, none⟩ (.int .i64 c.g)).setCell ⟨ba, 4, none⟩ (.int .i64 c.r)).setCell ⟨ba, 5, none⟩ (.int .i64 c.d)).setCell ⟨ba, 6, none⟩ (.int .i64 c.i)) = X4 at *
        refine wpAnyH_ready (rs := [6]) (by kernel_rfl) (by simp) (AllReadyH.cons rfl (fun K hK => ?_) AllReadyH.nil)
        obtain ⟨x0, x1, x2, f0, f1, f2⟩ := HB.out
        have zx := cell_lt x0
        go_simp
        clear x0 x1 x2 f0 f1 f2 zx
        obtain ⟨hcb, honly⟩ := HB.out.store W q1 q2 d1 d2 _ rfl
        have HBn := Lib.hid hcb
        have hS5 := honly.below hS4 hgbb.out
        have HAn := Lib.hid (HA.out.only honly hne.out)
        have HQn := Lib.hid (HQ.out.only honly (.inr rfl))
        refine hK.out _ _ hS5 (fun _ => ?_)
        clear hK K hcb honly HB
        have HB := HBn
        clear HBn
        clear HA
        have HA := HAn
        clear HAn
        clear HQ
        have HQ := HQn
        clear HQn
        generalize (((X4.setCell ⟨bb, 0, none⟩ (.int .u64 W.seed)).setCell ⟨bb, 1, none⟩ (.slice q1 W.chs.length d1)).setCell ⟨bb, 2, none⟩ (.slice q2 W.cls.length d2)) = X5 at *
        refine wpAnyH_done (by kernel_rfl) ?_ _
        clear hS0 hS1 hS2 hS3 hS4
        go_wp2_with fail
        go_meet
        exact ⟨ba, bb, d1, d2, q1, q2, rfl, rfl, Lib.hid (meet_done HM1.out hS5 HA.out HB.out HQ.out), Lib.hid HB.out.f0, Lib.hid ⟨_, _, HQ.out, (.inr rfl)⟩, Lib.hid ⟨hne.out, Nat.lt_of_lt_of_le (cell_lt HM1.out.r2) hgbb.out⟩⟩
  case rest =>
    obtain ⟨b1, b2, d1, d2, q1, q2, rfl, rfl, HI, HFZ, HNO, HNE⟩ := hcut
    clear HM1 HOW1
    have HI4 := Lib.hid (meet_seed HI.out HNO.out HNE.out seed)
    have g0 := HI.out.g0
    have zg := cell_lt g0
    have fz := HFZ.out
    go_upto_region 5 with fail
    clear g0 zg fz HI HFZ HNO HNE
    generalize wc.setCell ⟨b2, 0, none⟩ (.int .u64 seed) = W4 at *
    have HT4 := Lib.hid (HT.out.below HI4.out.bel)
    have HWA : Hid (Calls Tryz.prog 11 #[.agg #[.int .i64 c.f, .int .i64 c.o, .int .i64 c.j, .int .i64 c.g, .int .i64 c.r, .int .i64 c.d, .int .i64 c.i], .agg #[.int .u64 seed, .slice q1 W.chs.length d1, .slice q2 W.cls.length d2], .int .i64 a, .int .i64 b, .int .i64 from_, .int .i64 step, .int .i64 (N : Int)] W4 (WatRet c (Wd.reseed W seed) a b from_ step N W4)) := Lib.hid (watch_any c (Wd.reseed W seed) a b from_ step N q1 q2 d1 d2 W4 HT4.out HI4.out.own)
    obtain ⟨⟨x0, x1, x2, x3, x4, x5, x6⟩, g0, g1, g2, -, -, -⟩ := HI4.out
    have zx := cell_lt x0
    have zg := cell_lt g0
    go_upto_region 6 with (go_at_call 20; refine (HPC.out _).mono ?_; rintro e w5 ⟨rfl, hw⟩; subst w5)
    by_cases he : watchErr c (Wd.reseed W seed) a b from_ step N = 0
    · by_cases hn0 : N = 0
      · subst hn0
        have HW0 : Hid (Calls Tryz.prog 11 #[.agg #[.int .i64 c.f, .int .i64 c.o, .int .i64 c.j, .int .i64 c.g, .int .i64 c.r, .int .i64 c.d, .int .i64 c.i], .agg #[.int .u64 seed, .slice q1 W.chs.length d1, .slice q2 W.cls.length d2], .int .i64 a, .int .i64 b, .int .i64 from_, .int .i64 step, .int .i64 0] W4 fun e Y => (∃ v, e = .returned (.tuple #[v, .int .i64 0])) ∧ Below W4.heap.size W4 Y) := Lib.hid (HWA.out.mono fun e Y h => by
          rcases h.1 with h1 | ⟨-, g, h1, -, -⟩
          · exact absurd he h1.1
          · exact ⟨⟨_, h1⟩, h.2⟩)
        clear HWA he
        go_wp2_with (first | (go_at_call 11; refine HW0.out.mono ?_; rintro e w6 ⟨⟨v6, rfl⟩, hb6⟩; have HB6 := Lib.hid (bt HI4.out.bel hb6); clear hb6) | (go_at_call 6; refine (awake2_any _).mono ?_; rintro e w7 ⟨rfl, hb7⟩; have HB7 := Lib.hid (bt HB6.out hb7); clear hb7))
        go_ret
        exact ⟨rfl, HB7.out⟩
      · have hn1 : 1 ≤ N := by omega
        have HME := Lib.hid (meas_of HFR.out hn1 he)
        have HN1 := Lib.hid hn1
        have hNi : ¬ (N : Int) = 0 := by omega
        have hNe : ((N : Int) == 0) = false := by simp; omega
        have HW1 : Hid (Calls Tryz.prog 11 #[.agg #[.int .i64 c.f, .int .i64 c.o, .int .i64 c.j, .int .i64 c.g, .int .i64 c.r, .int .i64 c.d, .int .i64 c.i], .agg #[.int .u64 seed, .slice q1 W.chs.length d1, .slice q2 W.cls.length d2], .int .i64 a, .int .i64 b, .int .i64 from_, .int .i64 step, .int .i64 (N : Int)] W4 fun e Y => (∃ g, e = .returned (.tuple #[.slice (some ⟨g, 0, none⟩) N N, .int .i64 0]) ∧ FnAt Y (watchM c (Wd.reseed W seed) a b from_ step) N g 0) ∧ Below W4.heap.size W4 Y) := Lib.hid (HWA.out.mono fun e Y h => by
          rcases h.1 with h1 | ⟨-, g, h1, h2, -⟩
          · exact absurd he h1.1
          · exact ⟨⟨g, h1, h2⟩, h.2⟩)
        clear HWA he hn0 hn1
        go_upto_region 7 with (go_at_call 11; refine HW1.out.mono ?_; rintro e w6 ⟨⟨gl, rfl, hfl⟩, hb6⟩; have HI6 := Lib.hid (HI4.out.below hb6); have HT6 := Lib.hid (HT4.out.below hb6); have HFL := Lib.hid hfl; clear hb6 hfl)
        clear x0 x1 x2 x3 x4 x5 x6 g0 g1 g2 zx zg HW1 HI4 HT4 HT
        obtain ⟨i0, hi0, hz0, hz1, hz2⟩ := info_parts infoInt
        go_wp2_with fail
        generalize w6 = W6 at *
        go_loopw [20, 25, 26, 27, 28, 29, 30] (fun s20 s25 s26 s27 s28 s29 s30 wx => ∃ (k : Nat) (v v27 v28 v29 v30 : Value), k ≤ N ∧ s20 = .bool false ∧ s25 = v ∧ s26 = .int .i64 (k : Int) ∧ s27 = v27 ∧ s28 = v28 ∧ s29 = v29 ∧ s30 = v30 ∧ Hid (OwnF W6.heap.size wx v (trueD (Wd.reseed W seed) a b from_ step) k) ∧ Hid (Below W6.heap.size W6 wx)) (fun _ _ s26 _ _ _ _ _ => N - (intOf s26).toNat)
        case atStart => exact ⟨0, _, _, _, _, _, Nat.zero_le _, rfl, rfl, rfl, rfl, rfl, rfl, rfl, Lib.hid (OwnF.nil _ _ _), Lib.hid (Below.refl _ _)⟩
        case round =>
          obtain ⟨k, v, v27, v28, v29, v30, hk, rfl, rfl, rfl, rfl, rfl, rfl, rfl, HO, HBk⟩ := hrel
          by_cases hlt : k < N
          · have hki : (k : Int) < N := by omega
            have HK := Lib.hid hlt
            have hn30 := HN30.out
            obtain ⟨-, m1, m2, m3, m4⟩ := HME.out.sec k hlt
            obtain ⟨o1, o2, -, -⟩ := HME.out.ok k hlt
            obtain ⟨db1, db2⟩ := trueD_bd HME.out hlt
            have v1' : IntKind.i64.wrap ((k : Int) + 1) = (k : Int) + 1 := IntWalk.i64_in _ (by omega)
            obtain ⟨ks, hks⟩ : ∃ ks, ks = (k : Int) * step := ⟨_, rfl⟩
            obtain ⟨sk, hsk⟩ : ∃ sk, sk = from_ + (k : Int) * step := ⟨_, rfl⟩
            have htd : trueD (Wd.reseed W seed) a b from_ step k = (Wd.shownE (Wd.reseed W seed) a sk).v - (Wd.shownE (Wd.reseed W seed) b sk).v := by rw [hsk]; rfl
            rw [← hsk] at m3 m4 o1 o2 db1 db2
            have j1 : IntKind.i64.wrap ((k : Int) * step) = ks := by rw [hks]; exact IntWalk.i64_in _ (by omega)
            have j2 : IntKind.i64.wrap (from_ + ks) = sk := by rw [hks, ← hsk]; exact IntWalk.i64_in _ (by omega)
            obtain ⟨⟨xa, ea⟩, hxa⟩ : ∃ r, r = Wd.shownE (Wd.reseed W seed) a sk := ⟨_, rfl⟩
            obtain ⟨⟨xb, eb⟩, hxb⟩ : ∃ r, r = Wd.shownE (Wd.reseed W seed) b sk := ⟨_, rfl⟩
            have HSA : Hid (∀ X, Below W6.heap.size W6 X → Calls Tryz.prog 21 #[.agg #[.int .u64 seed, .slice q1 W.chs.length d1, .slice q2 W.cls.length d2], .int .i64 a, .int .i64 sk] X fun en Y => en = .returned (.tuple #[.int .i64 xa, .int .i64 ea]) ∧ Below X.heap.size X Y) := Lib.hid (shownAs HT6.out HI6.out.own d1 d2 a sk hxa.symm)
            have HSB : Hid (∀ X, Below W6.heap.size W6 X → Calls Tryz.prog 21 #[.agg #[.int .u64 seed, .slice q1 W.chs.length d1, .slice q2 W.cls.length d2], .int .i64 b, .int .i64 sk] X fun en Y => en = .returned (.tuple #[.int .i64 xb, .int .i64 eb]) ∧ Below X.heap.size X Y) := Lib.hid (shownAs HT6.out HI6.out.own d1 d2 b sk hxb.symm)
            rw [← hxa] at o1 db1 htd
            rw [← hxb] at o2 db2 htd
            dsimp only at o1 o2 db1 db2 htd
            subst o1 o2
            have j3 : IntKind.i64.wrap (xa - xb) = xa - xb := IntWalk.i64_in _ (by omega)
            have HTD := Lib.hid htd
            clear m1 m2 m3 m4 db1 db2 hks hsk htd hxa hxb hlt hk hn30
            obtain ⟨-, g0, g1, g2, -, -, -⟩ := HI6.out.below HBk.out
            have zg := cell_lt g0
            go_upto_region 14 with (go_at_call 21; refine (HSA.out _ HBk.out).mono ?_; rintro e w7 ⟨rfl, hb7⟩; have HO7 := Lib.hid (HO.out.below hb7); have HB7 := Lib.hid (bt HBk.out hb7); clear hb7)
            clear g0 g1 g2 zg HO HBk
            obtain ⟨-, g0, g1, g2, -, -, -⟩ := HI6.out.below HB7.out
            have zg := cell_lt g0
            go_upto_region 17 with (go_at_call 21; refine (HSB.out _ HB7.out).mono ?_; rintro e w8 ⟨rfl, hb8⟩; have HO8 := Lib.hid (HO7.out.below hb8); have HB8 := Lib.hid (bt HB7.out hb8); clear hb8)
            clear g0 g1 g2 zg HO7 HB7 j1 j2
            go_wp2_with (at_builtin; refine wpList_append_own_at _ rfl (.tmp 95) (.tmp 99) _ rfl W6.heap.size 3 i0 (.int .i64 0) 1 8 Tryz.underlying29 hi0 hz0 hz1 hz2 rfl (by decide) _ k _ rfl (World.ownsRow.alloc HO8.out _) ⟨w8.heap.size, 0, none⟩ 1 1 [.int .i64 (xa - xb)] rfl rfl (cell_one_new _ _ _) (by simp [Value.oneCell']) (by have := HK.out; have := HN30.out; unfold maxLen; omega) (by have := HK.out; have := HN30.out; omega) (by have := HB8.out.size; simp; omega) ?_; intro v' z1 hown hg _ _; have HO9 := Lib.hid (OwnF.more HTD.out hown); have HB9 := Lib.hid (HO8.out.bel HB8.out hg); clear hown hg)
            go_roundw
            case rel => exact ⟨k + 1, v', _, _, _, _, HK.out, rfl, rfl, by simp, rfl, rfl, rfl, rfl, HO9, HB9⟩
            case measure => have := HK.out; simp [intOf]; omega
          · obtain rfl : k = N := by omega
            have hki : ¬ (k : Int) < k := by omega
            obtain ⟨ps, cs, rfl, hfn⟩ := HO.out.in_
            obtain ⟨gb, gq, rfl, hfa⟩ := hfn.resolve_left (by have := HN1.out; omega)
            have HFA := Lib.hid hfa
            have HI7 := Lib.hid (HI6.out.below HBk.out)
            have HT7 := Lib.hid (HT6.out.below HBk.out)
            have HFL7 := Lib.hid (HFL.out.below HBk.out)
            obtain ⟨db1, db2⟩ := trueD_bd HME.out (show 0 < k from HN1.out)
            have h00 : trueD (Wd.reseed W seed) a b from_ step 0 = (Wd.shownE (Wd.reseed W seed) a (from_ + ((0 : Nat) : Int) * step)).v - (Wd.shownE (Wd.reseed W seed) b (from_ + ((0 : Nat) : Int) * step)).v := rfl
            obtain ⟨d0, hd0⟩ : ∃ d0, d0 = trueD (Wd.reseed W seed) a b from_ step 0 := ⟨_, rfl⟩
            rw [← hd0] at h00
            have hpb := HPB.out
            have F0 : Hid (wr.cell? ⟨gb, gq, none⟩ = some (.int .i64 d0)) := Lib.hid (by rw [hd0]; simpa using hfa 0 HN1.out)
            obtain ⟨f1, hf1⟩ : ∃ f1, f1 = d0 - pb := ⟨_, rfl⟩
            obtain ⟨f2, hf2⟩ : ∃ f2, f2 = d0 + pa := ⟨_, rfl⟩
            have j1 : IntKind.i64.wrap (d0 - pb) = f1 := by rw [hf1]; exact IntWalk.i64_in _ (by omega)
            have j2 : IntKind.i64.wrap (d0 + pa) = f2 := by rw [hf2]; exact IntWalk.i64_in _ (by omega)
            have HER := Lib.hid (fol_errs HME.out ⟨HN1.out, by have := HN30.out; omega⟩ (f1 := f1) (f2 := f2) (by rw [← hd0]; omega) (by omega))
            have hk0 : (0 : Int) < k := by have := HN1.out; omega
            have hk0n : 0 < k := HN1.out
            clear hfn hfa db1 db2 h00 hd0 hpb hf1 hf2 hlt hk HO HBk HI6 HT6 HFL HFR HPC hi0 hz0 hz1 hz2
            go_upto_region 18 with fail
            generalize wr = W5 at *
            go_cut [31] from 101 to 114 (fun s31 wx => ∃ b31, s31 = .pointer (some ⟨b31, 0, none⟩) ∧ Hid (SpBox wx b31 f1 f2) ∧ Hid (Below W5.heap.size W5 wx))
            case first =>
              refine wp_region_held_drew (S := fun w' => Below W5.heap.size W5 w') (by kernel_rfl) (Below.drew (Below.refl _ _)) (fun hS0 => ?_)
              (try dsimp only at hS0)
              generalize W5.drew = X0 at *
              refine wpAnyH_take (i := 0) (v := ?_) rfl (by kernel_rfl) (by kernel_rfl) (by kernel_rfl) (fun _ _ _ h => h) (Or.inl ⟨by rfl, ?_⟩) (by assumption) ?_
              rotate_left
              · intro X hSX; (try dsimp only at hSX); go_simp; try with_reducible rfl
              simp only [Act.put, List.getElem_toArray, List.getElem_cons_zero, List.setIfInBounds_toArray, List.set_cons_zero, List.set_cons_succ]
              refine wpAnyH_take (i := 1) (v := ?_) rfl (by kernel_rfl) (by kernel_rfl) (by kernel_rfl) (fun _ _ _ h => h) (Or.inl ⟨by rfl, ?_⟩) (by assumption) ?_
              rotate_left
              · intro X hSX; (try dsimp only at hSX); go_simp; try with_reducible rfl
              simp only [Act.put, List.getElem_toArray, List.getElem_cons_succ, List.getElem_cons_zero, List.setIfInBounds_toArray, List.set_cons_zero, List.set_cons_succ]
              refine wpAnyH_take (i := 2) (v := ?_) rfl (by kernel_rfl) (by kernel_rfl) (by kernel_rfl) (fun _ _ _ h => h) (Or.inl ⟨by rfl, ?_⟩) (by assumption) ?_
              rotate_left
              · intro X hSX; (try dsimp only at hSX); have f0 := cell_below hSX F0.out; have zf := cell_lt f0; go_simp; try with_reducible rfl
              simp only [Act.put, List.getElem_toArray, List.getElem_cons_succ, List.getElem_cons_zero, List.setIfInBounds_toArray, List.set_cons_zero, List.set_cons_succ]
              refine wpAnyH_take (i := 3) (v := ?_) rfl (by kernel_rfl) (by kernel_rfl) (by kernel_rfl) (fun _ _ _ h => h) (Or.inl ⟨by rfl, ?_⟩) (by assumption) ?_
              rotate_left
              · intro X hSX; (try dsimp only at hSX); go_simp; try with_reducible rfl
              simp only [Act.put, List.getElem_toArray, List.getElem_cons_succ, List.getElem_cons_zero, List.setIfInBounds_toArray, List.set_cons_zero, List.set_cons_succ]
              refine wpAnyH_take (i := 6) (v := ?_) rfl (by kernel_rfl) (by kernel_rfl) (by kernel_rfl) (fun _ _ _ h => h) (Or.inl ⟨by rfl, ?_⟩) (by assumption) ?_
              rotate_left
              · intro X hSX; (try dsimp only at hSX); go_simp; try with_reducible rfl
              simp only [Act.put, List.getElem_toArray, List.getElem_cons_succ, List.getElem_cons_zero, List.setIfInBounds_toArray, List.set_cons_zero, List.set_cons_succ]
              refine wpAnyH_take (i := 7) (v := ?_) rfl (by kernel_rfl) (by kernel_rfl) (by kernel_rfl) (fun _ _ _ h => h) (Or.inl ⟨by rfl, ?_⟩) (by assumption) ?_
              rotate_left
              · intro X hSX; (try dsimp only at hSX); go_simp; try with_reducible rfl
              simp only [Act.put, List.getElem_toArray, List.getElem_cons_succ, List.getElem_cons_zero, List.setIfInBounds_toArray, List.set_cons_zero, List.set_cons_succ]
              refine wpAnyH_take (i := 8) (v := ?_) rfl (by kernel_rfl) (by kernel_rfl) (by kernel_rfl) (fun _ _ _ h => h) (Or.inl ⟨by rfl, ?_⟩) (by assumption) ?_
              rotate_left
              · intro X hSX; (try dsimp only at hSX); have f0 := cell_below hSX F0.out; have zf := cell_lt f0; go_simp; try with_reducible rfl
              simp only [Act.put, List.getElem_toArray, List.getElem_cons_succ, List.getElem_cons_zero, List.setIfInBounds_toArray, List.set_cons_zero, List.set_cons_succ]
              refine wpAnyH_take (i := 9) (v := ?_) rfl (by kernel_rfl) (by kernel_rfl) (by kernel_rfl) (fun _ _ _ h => h) (Or.inl ⟨by rfl, ?_⟩) (by assumption) ?_
              rotate_left
              · intro X hSX; (try dsimp only at hSX); go_simp; try with_reducible rfl
              simp only [Act.put, List.getElem_toArray, List.getElem_cons_succ, List.getElem_cons_zero, List.setIfInBounds_toArray, List.set_cons_zero, List.set_cons_succ]
              refine wpAnyH_ready (rs := [4, 13]) (by kernel_rfl) (by simp) (AllReadyH.cons rfl (fun K hK => ?_) (AllReadyH.cons rfl (fun K hK => ?_) AllReadyH.nil))
              · go_simp
                refine (HP8.out _).mono ?_
                rintro e Y' ⟨rfl, hw⟩
                subst Y'
                go_wp2_with fail
                refine hK.out _ _ hS0 (fun _ => ?_)
                clear hK K
                refine wpAnyH_take (i := 5) (v := ?_) rfl (by kernel_rfl) (by kernel_rfl) (by kernel_rfl) (fun _ _ _ h => h) (Or.inl ⟨by rfl, ?_⟩) (by assumption) ?_
                rotate_left
                · intro X hSX; (try dsimp only at hSX); go_simp; try with_reducible rfl
                simp only [Act.put, List.getElem_toArray, List.getElem_cons_succ, List.getElem_cons_zero, List.setIfInBounds_toArray, List.set_cons_zero, List.set_cons_succ]
                refine wpAnyH_ready (rs := [10, 13]) (by kernel_rfl) (by simp) (AllReadyH.cons rfl (fun K hK => ?_) (AllReadyH.cons rfl (fun K hK => ?_) AllReadyH.nil))
                · go_simp
                  refine (HP9.out _).mono ?_
                  rintro e Y' ⟨rfl, hw⟩
                  subst Y'
                  go_wp2_with fail
                  refine hK.out _ _ hS0 (fun _ => ?_)
                  clear hK K
                  refine wpAnyH_take (i := 11) (v := ?_) rfl (by kernel_rfl) (by kernel_rfl) (by kernel_rfl) (fun _ _ _ h => h) (Or.inl ⟨by rfl, ?_⟩) (by assumption) ?_
                  rotate_left
                  · intro X hSX; (try dsimp only at hSX); go_simp; try with_reducible rfl
                  simp only [Act.put, List.getElem_toArray, List.getElem_cons_succ, List.getElem_cons_zero, List.setIfInBounds_toArray, List.set_cons_zero, List.set_cons_succ]
                  refine wpAnyH_take (i := 12) (v := ?_) rfl (by kernel_rfl) (by kernel_rfl) (by kernel_rfl) (fun _ _ _ h => h) (Or.inl ⟨by rfl, ?_⟩) (by assumption) ?_
                  rotate_left
                  · intro X hSX; (try dsimp only at hSX); go_simp; try with_reducible rfl
                  simp only [Act.put, List.getElem_toArray, List.getElem_cons_succ, List.getElem_cons_zero, List.setIfInBounds_toArray, List.set_cons_zero, List.set_cons_succ]
                  refine wpAnyH_ready (rs := [13]) (by kernel_rfl) (by simp) (AllReadyH.cons rfl (fun K hK => ?_) AllReadyH.nil)
                  go_simp
                  have hS1 := below_alloc hS0 (.cells #[.int .i64 0, .int .i64 0] 31)
                  have HZ := Lib.hid (ZS.new X0 31)
                  have hg31 : Hid (W5.heap.size ≤ X0.heap.size) := Lib.hid hS0.size
                  refine hK.out _ _ hS1 (fun _ => ?_)
                  clear hK K
                  generalize X0.alloc (.cells #[.int .i64 0, .int .i64 0] 31) = X1 at *
                  generalize X0.heap.size = b31 at *
                  refine wpAnyH_ready (rs := [14]) (by kernel_rfl) (by simp) (AllReadyH.cons rfl (fun K hK => ?_) AllReadyH.nil)
                  obtain ⟨x0, x1, q0, q1⟩ := HZ.out
                  have zx := cell_lt x0
                  go_simp
                  clear x0 x1 q0 q1 zx
                  obtain ⟨hcb, honly⟩ := HZ.out.store f1 f2 _ rfl
                  have HZn := Lib.hid hcb
                  have hS2 := honly.below hS1 hg31.out
                  refine hK.out _ _ hS2 (fun _ => ?_)
                  clear hK K hcb honly HZ
                  have HZ := HZn
                  clear HZn
                  generalize (X1.setCell ⟨b31, 0, none⟩ (.int .i64 f1)).setCell ⟨b31, 1, none⟩ (.int .i64 f2) = X2 at *
                  refine wpAnyH_done (by kernel_rfl) ?_ _
                  go_wp2_with fail
                  go_meet
                  exact ⟨b31, rfl, HZ, Lib.hid hS2⟩
                · go_simp
                  have hS1 := below_alloc hS0 (.cells #[.int .i64 0, .int .i64 0] 31)
                  have HZ := Lib.hid (ZS.new X0 31)
                  have hg31 : Hid (W5.heap.size ≤ X0.heap.size) := Lib.hid hS0.size
                  refine hK.out _ _ hS1 (fun _ => ?_)
                  clear hK K
                  generalize X0.alloc (.cells #[.int .i64 0, .int .i64 0] 31) = X1 at *
                  generalize X0.heap.size = b31 at *
                  refine wpAnyH_ready (rs := [10]) (by kernel_rfl) (by simp) (AllReadyH.cons rfl (fun K hK => ?_) AllReadyH.nil)
                  go_simp
                  refine (HP9.out _).mono ?_
                  rintro e Y' ⟨rfl, hw⟩
                  subst Y'
                  go_wp2_with fail
                  refine hK.out _ _ hS1 (fun _ => ?_)
                  clear hK K
                  refine wpAnyH_take (i := 11) (v := ?_) rfl (by kernel_rfl) (by kernel_rfl) (by kernel_rfl) (fun _ _ _ h => h) (Or.inl ⟨by rfl, ?_⟩) (by assumption) ?_
                  rotate_left
                  · intro X hSX; (try dsimp only at hSX); go_simp; try with_reducible rfl
                  simp only [Act.put, List.getElem_toArray, List.getElem_cons_succ, List.getElem_cons_zero, List.setIfInBounds_toArray, List.set_cons_zero, List.set_cons_succ]
                  refine wpAnyH_take (i := 12) (v := ?_) rfl (by kernel_rfl) (by kernel_rfl) (by kernel_rfl) (fun _ _ _ h => h) (Or.inl ⟨by rfl, ?_⟩) (by assumption) ?_
                  rotate_left
                  · intro X hSX; (try dsimp only at hSX); go_simp; try with_reducible rfl
                  simp only [Act.put, List.getElem_toArray, List.getElem_cons_succ, List.getElem_cons_zero, List.setIfInBounds_toArray, List.set_cons_zero, List.set_cons_succ]
                  refine wpAnyH_ready (rs := [14]) (by kernel_rfl) (by simp) (AllReadyH.cons rfl (fun K hK => ?_) AllReadyH.nil)
                  obtain ⟨x0, x1, q0, q1⟩ := HZ.out
                  have zx := cell_lt x0
                  go_simp
                  clear x0 x1 q0 q1 zx
                  obtain ⟨hcb, honly⟩ := HZ.out.store f1 f2 _ rfl
                  have HZn := Lib.hid hcb
                  have hS2 := honly.below hS1 hg31.out
                  refine hK.out _ _ hS2 (fun _ => ?_)
                  clear hK K hcb honly HZ
                  have HZ := HZn
                  clear HZn
                  generalize (X1.setCell ⟨b31, 0, none⟩ (.int .i64 f1)).setCell ⟨b31, 1, none⟩ (.int .i64 f2) = X2 at *
                  refine wpAnyH_done (by kernel_rfl) ?_ _
                  go_wp2_with fail
                  go_meet
                  exact ⟨b31, rfl, HZ, Lib.hid hS2⟩
              · go_simp
                have hS1 := below_alloc hS0 (.cells #[.int .i64 0, .int .i64 0] 31)
                have HZ := Lib.hid (ZS.new X0 31)
                have hg31 : Hid (W5.heap.size ≤ X0.heap.size) := Lib.hid hS0.size
                refine hK.out _ _ hS1 (fun _ => ?_)
                clear hK K
                generalize X0.alloc (.cells #[.int .i64 0, .int .i64 0] 31) = X1 at *
                generalize X0.heap.size = b31 at *
                refine wpAnyH_ready (rs := [4]) (by kernel_rfl) (by simp) (AllReadyH.cons rfl (fun K hK => ?_) AllReadyH.nil)
                go_simp
                refine (HP8.out _).mono ?_
                rintro e Y' ⟨rfl, hw⟩
                subst Y'
                go_wp2_with fail
                refine hK.out _ _ hS1 (fun _ => ?_)
                clear hK K
                refine wpAnyH_take (i := 5) (v := ?_) rfl (by kernel_rfl) (by kernel_rfl) (by kernel_rfl) (fun _ _ _ h => h) (Or.inl ⟨by rfl, ?_⟩) (by assumption) ?_
                rotate_left
                · intro X hSX; (try dsimp only at hSX); go_simp; try with_reducible rfl
                simp only [Act.put, List.getElem_toArray, List.getElem_cons_succ, List.getElem_cons_zero, List.setIfInBounds_toArray, List.set_cons_zero, List.set_cons_succ]
                refine wpAnyH_ready (rs := [10]) (by kernel_rfl) (by simp) (AllReadyH.cons rfl (fun K hK => ?_) AllReadyH.nil)
                go_simp
                refine (HP9.out _).mono ?_
                rintro e Y' ⟨rfl, hw⟩
                subst Y'
                go_wp2_with fail
                refine hK.out _ _ hS1 (fun _ => ?_)
                clear hK K
                refine wpAnyH_take (i := 11) (v := ?_) rfl (by kernel_rfl) (by kernel_rfl) (by kernel_rfl) (fun _ _ _ h => h) (Or.inl ⟨by rfl, ?_⟩) (by assumption) ?_
                rotate_left
                · intro X hSX; (try dsimp only at hSX); go_simp; try with_reducible rfl
                simp only [Act.put, List.getElem_toArray, List.getElem_cons_succ, List.getElem_cons_zero, List.setIfInBounds_toArray, List.set_cons_zero, List.set_cons_succ]
                refine wpAnyH_take (i := 12) (v := ?_) rfl (by kernel_rfl) (by kernel_rfl) (by kernel_rfl) (fun _ _ _ h => h) (Or.inl ⟨by rfl, ?_⟩) (by assumption) ?_
                rotate_left
                · intro X hSX; (try dsimp only at hSX); go_simp; try with_reducible rfl
                simp only [Act.put, List.getElem_toArray, List.getElem_cons_succ, List.getElem_cons_zero, List.setIfInBounds_toArray, List.set_cons_zero, List.set_cons_succ]
                refine wpAnyH_ready (rs := [14]) (by kernel_rfl) (by simp) (AllReadyH.cons rfl (fun K hK => ?_) AllReadyH.nil)
                obtain ⟨x0, x1, q0, q1⟩ := HZ.out
                have zx := cell_lt x0
                go_simp
                clear x0 x1 q0 q1 zx
                obtain ⟨hcb, honly⟩ := HZ.out.store f1 f2 _ rfl
                have HZn := Lib.hid hcb
                have hS2 := honly.below hS1 hg31.out
                refine hK.out _ _ hS2 (fun _ => ?_)
                clear hK K hcb honly HZ
                have HZ := HZn
                clear HZn
                generalize (X1.setCell ⟨b31, 0, none⟩ (.int .i64 f1)).setCell ⟨b31, 1, none⟩ (.int .i64 f2) = X2 at *
                refine wpAnyH_done (by kernel_rfl) ?_ _
                go_wp2_with fail
                go_meet
                exact ⟨b31, rfl, HZ, Lib.hid hS2⟩
            case rest =>
              obtain ⟨b31, rfl, HZ, HBW⟩ := hcut
              have HI8 := Lib.hid (HI7.out.below HBW.out)
              have HFL8 := Lib.hid (HFL7.out.below HBW.out)
              have HFA8 := Lib.hid (HFA.out.below HBW.out)
              have HFO : Hid (Calls Tryz.prog 16 #[.agg #[.int .i64 c.f, .int .i64 c.o, .int .i64 c.j, .int .i64 c.g, .int .i64 c.r, .int .i64 c.d, .int .i64 c.i], .agg #[.int .u64 seed, .slice q1 W.chs.length d1, .slice q2 W.cls.length d2], .int .i64 a, .int .i64 b, .int .i64 from_, .int .i64 step, .slice (some ⟨gl, 0, none⟩) k k, .agg #[.int .i64 f1, .int .i64 f2]] wc (FolRet c (Wd.reseed W seed) a b from_ step (watchM c (Wd.reseed W seed) a b from_ step) k f1 f2 wc)) := Lib.hid (follow_any c (Wd.reseed W seed) a b from_ step _ k (some ⟨gl, 0, none⟩) k f1 f2 q1 q2 d1 d2 wc (HT7.out.below HBW.out) HI8.out.own (.inr ⟨gl, 0, rfl, HFL8.out⟩))
              clear HI7 HFL7 HFA F0 HP8 HP9 j1 j2 HT7 HFL8
              obtain ⟨⟨x0, x1, x2, x3, x4, x5, x6⟩, g0, g1, g2, -, -, -⟩ := HI8.out
              have zx := cell_lt x0
              have zg := cell_lt g0
              obtain ⟨t0, t1⟩ := HZ.out
              have zt := cell_lt t0
              rcases HER.out with h8 | ⟨h0, hall⟩
              · have HF8 : Hid (Calls Tryz.prog 16 #[.agg #[.int .i64 c.f, .int .i64 c.o, .int .i64 c.j, .int .i64 c.g, .int .i64 c.r, .int .i64 c.d, .int .i64 c.i], .agg #[.int .u64 seed, .slice q1 W.chs.length d1, .slice q2 W.cls.length d2], .int .i64 a, .int .i64 b, .int .i64 from_, .int .i64 step, .slice (some ⟨gl, 0, none⟩) k k, .agg #[.int .i64 f1, .int .i64 f2]] wc fun e Y => e = .returned (.tuple #[.slice none 0 0, .int .i64 8]) ∧ Below wc.heap.size wc Y) := Lib.hid (HFO.out.mono fun e Y h => by
                  rcases h.1 with h1 | h1
                  · rw [h8] at h1; exact ⟨h1.2, h.2⟩
                  · rw [h8] at h1; exact absurd h1.1 (by decide))
                clear HFO h8 HER
                go_upto_region 20 with (go_at_call 16; refine HF8.out.mono ?_; rintro e w9 ⟨rfl, hb9⟩; have HB9 := Lib.hid (bt HI8.out.bel hb9); clear hb9)
                clear x0 x1 x2 x3 x4 x5 x6 g0 g1 g2 zx zg t0 t1 zt
                go_wp2_with (go_at_call 6; refine (awake2_any _).mono ?_; rintro e w10 ⟨rfl, hb10⟩; have HB10 := Lib.hid (bt HB9.out hb10); clear hb10)
                go_ret
                exact ⟨rfl, HB10.out⟩
              · have HF0 : Hid (Calls Tryz.prog 16 #[.agg #[.int .i64 c.f, .int .i64 c.o, .int .i64 c.j, .int .i64 c.g, .int .i64 c.r, .int .i64 c.d, .int .i64 c.i], .agg #[.int .u64 seed, .slice q1 W.chs.length d1, .slice q2 W.cls.length d2], .int .i64 a, .int .i64 b, .int .i64 from_, .int .i64 step, .slice (some ⟨gl, 0, none⟩) k k, .agg #[.int .i64 f1, .int .i64 f2]] wc fun e Y => (∃ g, e = .returned (.tuple #[.slice (some ⟨g, 0, none⟩) k k, .int .i64 0]) ∧ ∀ i, i < k → Y.cell? ⟨g, i * 2, none⟩ = some (.int .i64 (folS c (Wd.reseed W seed) a b from_ step (watchM c (Wd.reseed W seed) a b from_ step) f1 f2 i).1.1) ∧ Y.cell? ⟨g, i * 2 + 1, none⟩ = some (.int .i64 (folS c (Wd.reseed W seed) a b from_ step (watchM c (Wd.reseed W seed) a b from_ step) f1 f2 i).1.2)) ∧ Below wc.heap.size wc Y) := Lib.hid (HFO.out.mono fun e Y h => by
                  rcases h.1 with h1 | ⟨-, g, h2, -, h3⟩
                  · exact absurd h0 h1.1
                  · exact ⟨⟨g, h2, h3⟩, h.2⟩)
                have HAL := Lib.hid hall
                clear HFO h0 hall HER
                go_upto_region 20 with (go_at_call 16; refine HF0.out.mono ?_; rintro e w9 ⟨⟨g, rfl, hsp⟩, hb9⟩; have HB9 := Lib.hid (bt HI8.out.bel hb9); have HFA9 := Lib.hid (HFA8.out.below hb9); have HSP := Lib.hid hsp; clear hb9 hsp)
                clear x0 x1 x2 x3 x4 x5 x6 g0 g1 g2 zx zg t0 t1 zt HI8 HFA8 HF0
                have hnn : ((k : Int) != (k : Int)) = false := by simp
                go_wp2_with fail
                generalize w9 = W9 at *
                go_loopw [20, 33] (fun s20 s33 wx => ∃ (i : Nat), i ≤ k ∧ s20 = .bool false ∧ s33 = .int .i64 (i : Int) ∧ Hid (Below W9.heap.size W9 wx)) (fun _ s33 _ => k - (intOf s33).toNat)
                case atStart => exact ⟨0, Nat.zero_le _, rfl, rfl, Lib.hid (Below.refl _ _)⟩
                case round =>
                  obtain ⟨i, hi, rfl, rfl, HBi⟩ := hrel
                  by_cases hlt : i < k
                  · have hii : (i : Int) < k := by omega
                    have HII := Lib.hid hlt
                    have xd := (HFA9.out.below HBi.out) i hlt
                    obtain ⟨y0, y1⟩ := HSP.out i hlt
                    have s0 := cell_below HBi.out y0
                    have s1 := cell_below HBi.out y1
                    have zd := cell_lt xd
                    have zs := cell_lt s0
                    obtain ⟨a1, a2⟩ := HAL.out i hlt
                    generalize trueD (Wd.reseed W seed) a b from_ step i = di at *
                    generalize (folS c (Wd.reseed W seed) a b from_ step (watchM c (Wd.reseed W seed) a b from_ step) f1 f2 i).1.1 = l1 at *
                    generalize (folS c (Wd.reseed W seed) a b from_ step (watchM c (Wd.reseed W seed) a b from_ step) f1 f2 i).1.2 = l2 at *
                    have e1 : decide (di < l1) = false := by simp only [decide_eq_false_iff_not]; omega
                    have e2 : decide (l2 < di) = false := by simp only [decide_eq_false_iff_not]; omega
                    have w1' : IntKind.i64.wrap ((i : Int) + 1) = (i : Int) + 1 := IntWalk.i64_in _ (by have := HN30.out; omega)
                    clear y0 y1 a1 a2 hlt hi
                    go_upto_region 27 with fail
                    go_quiet (fail)
                    go_wp2_with fail
                    go_roundw
                    case rel => exact ⟨i + 1, HII.out, rfl, by simp, Lib.hid (bt HBi.out (below_drewN (Below.refl _ _) _))⟩
                    case measure => have := HII.out; simp [intOf]; omega
                  · obtain rfl : i = k := by omega
                    have hii : ¬ (i : Int) < i := by omega
                    have HB99 := Lib.hid (bt HB9.out HBi.out)
                    go_wp2_with (go_at_call 6; refine (awake2_any _).mono ?_; rintro e w11 ⟨rfl, hb11⟩; have HB11 := Lib.hid (bt HB99.out hb11); clear hb11)
                    go_ret
                    exact ⟨rfl, HB11.out⟩
    · have HWE : Hid (Calls Tryz.prog 11 #[.agg #[.int .i64 c.f, .int .i64 c.o, .int .i64 c.j, .int .i64 c.g, .int .i64 c.r, .int .i64 c.d, .int .i64 c.i], .agg #[.int .u64 seed, .slice q1 W.chs.length d1, .slice q2 W.cls.length d2], .int .i64 a, .int .i64 b, .int .i64 from_, .int .i64 step, .int .i64 (N : Int)] W4 fun e Y => (∃ r, r ≠ 0 ∧ e = .returned (.tuple #[.slice none 0 0, .int .i64 r])) ∧ Below W4.heap.size W4 Y) := Lib.hid (HWA.out.mono fun e Y h => by
        rcases h.1 with h1 | h1
        · exact ⟨⟨_, h1.1, h1.2⟩, h.2⟩
        · exact absurd h1.1 he)
      clear HWA he
      go_upto_region 7 with (go_at_call 11; refine HWE.out.mono ?_; rintro e w6 ⟨⟨r, hr, rfl⟩, hb6⟩; have HB6 := Lib.hid (bt HI4.out.bel hb6); have hre : (r != 0) = true := (by simpa using hr); clear hb6 hr)
      go_wp2_with (go_at_call 6; refine (awake2_any _).mono ?_; rintro e w7 ⟨rfl, hb7⟩; have HB7 := Lib.hid (bt HB6.out hb7); clear hb7)
      go_ret
      exact ⟨rfl, HB7.out⟩
theorem follows_any (c : Cnt) (W : Wd.Wld) (seed a b from_ step count below above : Int) (p1 p2 : Option Addr) (c1 c2 : Nat) (w : World) (hW : Wd.WldIn w W p1 p2) (hfr : IntKind.i64.wrap from_ = from_) (ht : Wd.Tabs w) :
    Calls Tryz.prog 4 #[cntVal c, wV W p1 p2 c1 c2, .int .u64 seed, .int .i64 a, .int .i64 b, .int .i64 from_, .int .i64 step, .int .i64 count, .int .i64 below, .int .i64 above] w fun e w' => e = .returned (.bool true) ∧ Below w.heap.size w w' := by
  cases hb : Wd.bigS W
  · exact follows_law c W seed a b from_ step count below above p1 p2 c1 c2 w ht hW hb hfr
  · exact follows_big c W seed a b from_ step count below above p1 p2 c1 c2 w hW hb
end Go.Proofs.YtmfpnfdoidihcaaGreatDoor.Ct
