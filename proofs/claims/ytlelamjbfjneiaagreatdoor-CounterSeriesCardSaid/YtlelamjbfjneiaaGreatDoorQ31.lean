/- Contracts of layer 2: what Follow asks of its clocks and seconds. -/
import Derived.Test.YtlelamjbfjneiaaGreatDoorQ30
namespace Go.Proofs.YtlelamjbfjneiaaGreatDoor.Ct
open Go Go.RowKit Go.Shelf
attribute [local go_sem] Oper.semAt_some
/-- the error of a series' seconds -/
def serErr (c : Cnt) (from_ step n : Int) : Int :=
  if step < 1 then 1 else if 2000 < n then 2 else if n ≤ 1 then 0 else if (1000000 - from_) / (n - 1) < step then 21 else if step % c.d ≠ 0 then 21 else 0
set_option maxRecDepth 100000 in
set_option maxHeartbeats 4000000 in
theorem checkSeries_any (c : Cnt) (from_ step n : Int) (w : World) (h : CntIn c) (hf : 0 ≤ from_ ∧ from_ ≤ 1000000) (hn : 0 ≤ n) :
    Calls Tryz.prog 37 #[cntVal c, .int .i64 from_, .int .i64 step, .int .i64 n] w fun e w' => e = .returned (.int .i64 (serErr c from_ step n)) ∧ Below w.heap.size w w' := by
  have hd := h.d
  have HB := Lib.hid (CBox.new w c)
  have A0 := Lib.hid (below_alloc (Below.refl w.heap.size w) (cntObj c))
  obtain ⟨r, hr⟩ : ∃ r, r = serErr c from_ step n := ⟨_, rfl⟩
  rw [← hr]
  unfold serErr at hr
  unfold cntVal
  unfold cntObj at HB A0
  by_cases h1 : step < 1
  · rw [if_pos h1] at hr
    subst hr
    clear hd hf hn h
    go_enter Tryz.func37, Tryz.ntmps37
    go_wp2_with fail
    go_ret
    exact ⟨rfl, A0.out⟩
  · rw [if_neg h1] at hr
    by_cases h2 : 2000 < n
    · rw [if_pos h2] at hr
      subst hr
      clear hd hf hn h
      go_enter Tryz.func37, Tryz.ntmps37
      go_wp2_with fail
      go_ret
      exact ⟨rfl, A0.out⟩
    · rw [if_neg h2] at hr
      by_cases h3 : n ≤ 1
      · rw [if_pos h3] at hr
        subst hr
        clear hd hf hn h
        go_enter Tryz.func37, Tryz.ntmps37
        go_wp2_with fail
        go_ret
        exact ⟨rfl, A0.out⟩
      · rw [if_neg h3] at hr
        have hne : (n - 1 == 0) = false := by simp; omega
        have hnz : ¬ n - 1 = 0 := by omega
        have hde : (c.d == 0) = false := by simp; omega
        have hdz : ¬ c.d = 0 := by omega
        have k1 : IntKind.i64.wrap (1000000 - from_) = 1000000 - from_ := IntWalk.i64_in _ (by omega)
        have k2 : IntKind.i64.wrap (n - 1) = n - 1 := IntWalk.i64_in _ (by omega)
        obtain ⟨q, hq⟩ : ∃ q, q = (1000000 - from_) / (n - 1) := ⟨_, rfl⟩
        have hq0 : 0 ≤ q := by rw [hq]; exact Int.ediv_nonneg (by omega) (by omega)
        have hq1 : q ≤ 1000000 - from_ := by rw [hq]; exact Int.ediv_le_self _ (by omega)
        have k3 : IntKind.i64.wrap ((1000000 - from_).tdiv (n - 1)) = q := by rw [Int.tdiv_eq_ediv_of_nonneg (by omega), ← hq]; exact IntWalk.i64_in _ (by omega)
        have k3b : IntKind.i64.wrap ((1000000 - from_) / (n - 1)) = q := by rw [← hq]; exact IntWalk.i64_in _ (by omega)
        rw [← hq] at hr
        by_cases h4 : q < step
        · rw [if_pos h4] at hr
          subst hr
          clear hd hf hn h hq hq0 hq1
          go_enter Tryz.func37, Tryz.ntmps37
          go_wp2_with fail
          go_ret
          exact ⟨rfl, A0.out⟩
        · rw [if_neg h4] at hr
          obtain ⟨m, hm⟩ : ∃ m, m = step % c.d := ⟨_, rfl⟩
          have hm1 := Int.emod_nonneg step (show c.d ≠ 0 by omega)
          have hm2 := Int.emod_lt_of_pos step (show 0 < c.d by omega)
          rw [← hm] at hm1 hm2 hr
          have k4 : step.tmod c.d = m := by rw [Int.tmod_eq_emod_of_nonneg (by omega), ← hm]
          have k4c : IntKind.i64.wrap m = m := IntWalk.i64_in _ (by omega)
          have k4b : IntKind.i64.wrap (step % c.d) = m := by rw [← hm]; exact k4c
          by_cases h5 : m = 0
          · rw [if_neg (by omega)] at hr
            subst hr h5
            clear hd hf hn h hq hq0 hq1 hm hm1 hm2
            go_enter Tryz.func37, Tryz.ntmps37
            obtain ⟨x0, x1, x2, x3, x4, x5, x6⟩ := HB.out
            have zx := cell_lt x0
            go_wp2_with fail
            go_ret
            exact ⟨rfl, A0.out⟩
          · rw [if_pos h5] at hr
            subst hr
            have h5b : (m != 0) = true := by simpa using h5
            clear hd hf hn h hq hq0 hq1 hm hm1 hm2
            go_enter Tryz.func37, Tryz.ntmps37
            obtain ⟨x0, x1, x2, x3, x4, x5, x6⟩ := HB.out
            have zx := cell_lt x0
            go_wp2_with fail
            go_ret
            exact ⟨rfl, A0.out⟩
/-- the error of two clocks that are followed from a second on -/
def pairErr (c : Cnt) (W : Wd.Wld) (a b s : Int) : Int :=
  if cntB c = true then (if (Wd.phaseE W a s).e = 0 then (if (Wd.phaseE W b s).e = 0 then (if a = b then 1 else (if meetB c s = true then 0 else 21)) else (Wd.phaseE W b s).e) else (Wd.phaseE W a s).e) else 30
def PhaseAs (W : Wd.Wld) (p1 p2 : Option Addr) (k1 k2 : Nat) (w : World) (k s x e : Int) : Prop :=
  ∀ X, Below w.heap.size w X → Calls Tryz.prog 62 #[.agg #[.int .u64 W.seed, .slice p1 W.chs.length k1, .slice p2 W.cls.length k2], .int .i64 k, .int .i64 s] X fun en Y => en = .returned (.tuple #[.int .i64 x, .int .i64 e]) ∧ Below X.heap.size X Y
theorem phaseAs {W : Wd.Wld} {p1 p2 : Option Addr} {w : World} (ht : Wd.Tabs w) (hW : Wd.WldIn w W p1 p2) (k1 k2 : Nat) (k s : Int) {x e : Int} (h : Wd.phaseE W k s = ⟨x, e⟩) : PhaseAs W p1 p2 k1 k2 w k s x e := fun X hb => by
  have := Wd.phase_any W k s p1 p2 k1 k2 X (ht.below hb) (hW.below hb)
  rw [h] at this
  exact this
theorem pair_index0 (a b : Int) (w : World) : (Instr.index 62 (.agg #[.int .i64 a, .int .i64 b]) (.int .i64 0)).run Tryz.prog w = .ok (.int .i64 a) w := by kernel_rfl
theorem pair_index1 (a b : Int) (w : World) : (Instr.index 62 (.agg #[.int .i64 a, .int .i64 b]) (.int .i64 1)).run Tryz.prog w = .ok (.int .i64 b) w := by kernel_rfl
attribute [local go_sem] pair_index0 pair_index1
set_option maxRecDepth 100000 in
set_option maxHeartbeats 4000000 in
theorem checkPair_any (c : Cnt) (W : Wd.Wld) (a b s : Int) (p1 p2 : Option Addr) (k1 k2 : Nat) (w : World) (ht : Wd.Tabs w) (hW : Wd.WldIn w W p1 p2) :
    Calls Tryz.prog 36 #[cntVal c, wV W p1 p2 k1 k2, .int .i64 a, .int .i64 b, .int .i64 s] w fun e w' => e = .returned (.int .i64 (pairErr c W a b s)) ∧ Below w.heap.size w w' := by
  have HB := Lib.hid (ObsAt.new w c W p1 p2 k1 k2)
  have HCK := Lib.hid (fun W => check_any c W)
  obtain ⟨⟨x, ex⟩, hx⟩ : ∃ r, r = Wd.phaseE W a s := ⟨_, rfl⟩
  obtain ⟨⟨y, ey⟩, hy⟩ : ∃ r, r = Wd.phaseE W b s := ⟨_, rfl⟩
  have HX := Lib.hid (phaseAs ht hW k1 k2 a s hx.symm)
  have HY := Lib.hid (phaseAs ht hW k1 k2 b s hy.symm)
  obtain ⟨r, hr⟩ : ∃ r, r = pairErr c W a b s := ⟨_, rfl⟩
  rw [← hr]
  unfold pairErr at hr
  rw [← hx, ← hy] at hr
  dsimp only at hr
  unfold cntVal at *
  unfold wV
  clear ht hW hx hy
  by_cases hc : cntB c = true
  · rw [if_pos hc] at hr
    rw [show checkC c = 0 from if_pos hc] at HCK
    have HM := Lib.hid (fun X => measuresAt_any c s X (cntB_in hc))
    unfold cntVal at HM
    have HR : Hid (r = (if ex = 0 then (if ey = 0 then (if a = b then 1 else (if meetB c s = true then 0 else 21)) else ey) else ex)) := Lib.hid hr
    clear hc hr
    go_enter Tryz.func36, Tryz.ntmps36
    go_upto_region 1 with fail
    generalize ((w.alloc (.cells #[.int .i64 c.f, .int .i64 c.o, .int .i64 c.j, .int .i64 c.g, .int .i64 c.r, .int .i64 c.d, .int .i64 c.i] 34)).alloc (.cells #[.int .u64 W.seed, .slice p1 W.chs.length k1, .slice p2 W.cls.length k2] 38)) = W0 at *
    obtain ⟨x0, x1, x2, x3, x4, x5, x6⟩ := HB.out.cb
    have zx := cell_lt x0
    go_upto_region 4 with (go_at_call 25; refine (HCK.out _).mono ?_; rintro e w1 ⟨rfl, hb1⟩; have HB1 := Lib.hid (HB.out.below hb1); clear hb1)
    clear x0 x1 x2 x3 x4 x5 x6 zx HB
    go_wp2_with fail
    go_loopw [10, 13, 14, 15, 24] (fun s10 s13 s14 s15 s24 wx => ∃ (k : Nat) (v13 v14 v15 : Value), k ≤ 2 ∧ s10 = .int .i64 0 ∧ s13 = v13 ∧ s14 = v14 ∧ s15 = v15 ∧ s24 = .int .i64 (k : Int) ∧ Hid (ObsAt w wx c W p1 p2 k1 k2) ∧ Hid ((1 ≤ k → ex = 0) ∧ (2 ≤ k → ey = 0))) (fun _ _ _ _ s24 _ => 2 - (intOf s24).toNat)
    case atStart => exact ⟨0, _, _, _, by omega, rfl, rfl, rfl, rfl, rfl, HB1, Lib.hid ⟨fun h => absurd h (by decide), fun h => absurd h (by decide)⟩⟩
    case round =>
      obtain ⟨k, v13, v14, v15, hk, rfl, rfl, rfl, rfl, rfl, HBk, HK⟩ := hrel
      obtain ⟨-, l0, l1, l2, -⟩ := HBk.out
      have zl := cell_lt l0
      have h3 : k = 0 ∨ k = 1 ∨ k = 2 := by omega
      rcases h3 with rfl | rfl | rfl
      · by_cases he : ex = 0
        · have HK1 : Hid ((1 ≤ 1 → ex = 0) ∧ (2 ≤ 1 → ey = 0)) := Lib.hid ⟨fun _ => he, fun h => absurd h (by decide)⟩
          subst he
          go_wp2_with (go_at_call 62; refine (HX.out _ HBk.out.bel).mono ?_; rintro e w2 ⟨rfl, hb2⟩; have HB2 := Lib.hid (HBk.out.below hb2); clear hb2)
          go_roundw
          case rel => exact ⟨1, _, _, _, by omega, rfl, rfl, rfl, rfl, rfl, HB2, HK1⟩
          case measure => simp [intOf]
        · have hr := HR.out
          rw [if_neg he] at hr
          subst hr
          have hne : (r != 0) = true := by simpa using he
          clear HR he
          go_wp2_with (go_at_call 62; refine (HX.out _ HBk.out.bel).mono ?_; rintro e w2 ⟨rfl, hb2⟩; have HB2 := Lib.hid (HBk.out.below hb2); clear hb2)
          go_ret
          exact ⟨rfl, HB2.out.bel⟩
      · have h1 := HK.out.1 (by decide)
        by_cases he : ey = 0
        · have HK1 : Hid ((1 ≤ 2 → ex = 0) ∧ (2 ≤ 2 → ey = 0)) := Lib.hid ⟨fun _ => h1, fun _ => he⟩
          subst he
          clear h1
          go_wp2_with (go_at_call 62; refine (HY.out _ HBk.out.bel).mono ?_; rintro e w2 ⟨rfl, hb2⟩; have HB2 := Lib.hid (HBk.out.below hb2); clear hb2)
          go_roundw
          case rel => exact ⟨2, _, _, _, by omega, rfl, rfl, rfl, rfl, rfl, HB2, HK1⟩
          case measure => simp [intOf]
        · have hr := HR.out
          rw [if_pos h1, if_neg he] at hr
          subst hr
          have hne : (r != 0) = true := by simpa using he
          clear HR he h1
          go_wp2_with (go_at_call 62; refine (HY.out _ HBk.out.bel).mono ?_; rintro e w2 ⟨rfl, hb2⟩; have HB2 := Lib.hid (HBk.out.below hb2); clear hb2)
          go_ret
          exact ⟨rfl, HB2.out.bel⟩
      · have hr := HR.out
        rw [if_pos (HK.out.1 (by decide)), if_pos (HK.out.2 (by decide))] at hr
        clear l0 l1 l2 zl
        obtain ⟨x0, x1, x2, x3, x4, x5, x6⟩ := HBk.out.cb
        have zx := cell_lt x0
        by_cases h3 : a = b
        · rw [if_pos h3] at hr
          subst hr h3
          go_wp2_with fail
          go_ret
          exact ⟨rfl, HBk.out.bel⟩
        · rw [if_neg h3] at hr
          have HR2 := Lib.hid hr
          clear hr HR
          obtain ⟨mb, hmb⟩ : ∃ mb, meetB c s = mb := ⟨_, rfl⟩
          rw [hmb] at HM HR2
          clear hmb
          cases mb
          · rw [if_neg (by decide)] at HR2
            obtain rfl := HR2.out
            go_wp2_with (go_at_call 44; refine (HM.out _).mono ?_; rintro e w2 ⟨rfl, hb2⟩; have HB2 := Lib.hid (HBk.out.below hb2); clear hb2)
            go_ret
            exact ⟨rfl, HB2.out.bel⟩
          · rw [if_pos rfl] at HR2
            obtain rfl := HR2.out
            go_wp2_with (go_at_call 44; refine (HM.out _).mono ?_; rintro e w2 ⟨rfl, hb2⟩; have HB2 := Lib.hid (HBk.out.below hb2); clear hb2)
            go_ret
            exact ⟨rfl, HB2.out.bel⟩
  · rw [if_neg hc] at hr
    rw [show checkC c = 30 from if_neg hc] at HCK
    subst hr
    clear hc
    go_enter Tryz.func36, Tryz.ntmps36
    go_upto_region 1 with fail
    generalize ((w.alloc (.cells #[.int .i64 c.f, .int .i64 c.o, .int .i64 c.j, .int .i64 c.g, .int .i64 c.r, .int .i64 c.d, .int .i64 c.i] 34)).alloc (.cells #[.int .u64 W.seed, .slice p1 W.chs.length k1, .slice p2 W.cls.length k2] 38)) = W0 at *
    obtain ⟨x0, x1, x2, x3, x4, x5, x6⟩ := HB.out.cb
    have zx := cell_lt x0
    go_wp2_with (go_at_call 25; refine (HCK.out _).mono ?_; rintro e w1 ⟨rfl, hb1⟩; have HB1 := Lib.hid (HB.out.below hb1); clear hb1)
    go_ret
    exact ⟨rfl, HB1.out.bel⟩
end Go.Proofs.YtlelamjbfjneiaaGreatDoor.Ct
