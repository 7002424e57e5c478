/- Contracts of layer 2: what Follow asks of its clocks and seconds. · Contracts of layer 2: sums of spans. · Contracts of layer 2: Watch. · Contracts of layer 2: by how much a difference can have changed. -/
import Derived.Test.YtmfpnfdoidihcaaGreatDoorOv
import Derived.Test.YtmfpnfdoidihcaaGreatDoorCb
import Derived.Test.YtmfpnfdoidihcaaGreatDoorCe
import Derived.Test.YtmfpnfdoidihcaaGreatDoorVj
import Derived.Test.YtmfpnfdoidihcaaGreatDoorNm
namespace Go.Proofs.YtmfpnfdoidihcaaGreatDoor.Ct
open Go Go.RowKit Go.Shelf
attribute [local go_sem] Oper.semAt_some
/-- the error of a series' seconds -/
def serErr (c : Cnt) (from_ step n : Int) : Int :=
  if step < 1 then 1 else if 2000 < n then 2 else if n ≤ 1 then 0 else if (1000000 - from_) / (n - 1) < step then 21 else if step % c.d ≠ 0 then 21 else 0
set_option maxRecDepth 100000 in
set_option maxHeartbeats 4000000 in
theorem checkSeries_any (c : Cnt) (from_ step n : Int) (w : World) (h : CntIn c) (hf : 0 ≤ from_ ∧ from_ ≤ 1000000) (hn : 0 ≤ n) :
    Calls Tryz.prog 39 #[cntVal c, .int .i64 from_, .int .i64 step, .int .i64 n] w fun e w' => e = .returned (.int .i64 (serErr c from_ step n)) ∧ Below w.heap.size w w' := by
  have hd := h.d
  have HB := Lib.hid (CBox.new w c)
  have A0 := Lib.hid (below_alloc (Below.refl w.heap.size w) (cntObj c))
  obtain ⟨r, hr⟩ : ∃ r, r = serErr c from_ step n := ⟨_, rfl⟩
  rw [← hr]
  unfold serErr at hr
  unfold cntVal
  unfold cntObj at HB A0
  by_cases h1 : step < 1
  · rw [if_pos h1] at hr
    subst hr
    clear hd hf hn h
    go_enter Tryz.func39, Tryz.ntmps39
    go_wp2_with fail
    go_ret
    exact ⟨rfl, A0.out⟩
  · rw [if_neg h1] at hr
    by_cases h2 : 2000 < n
    · rw [if_pos h2] at hr
      subst hr
      clear hd hf hn h
      go_enter Tryz.func39, Tryz.ntmps39
      go_wp2_with fail
      go_ret
      exact ⟨rfl, A0.out⟩
    · rw [if_neg h2] at hr
      by_cases h3 : n ≤ 1
      · rw [if_pos h3] at hr
        subst hr
        clear hd hf hn h
        go_enter Tryz.func39, Tryz.ntmps39
        go_wp2_with fail
        go_ret
        exact ⟨rfl, A0.out⟩
      · rw [if_neg h3] at hr
        have hne : (n - 1 == 0) = false := by simp; omega
        have hnz : ¬ n - 1 = 0 := by omega
        have hde : (c.d == 0) = false := by simp; omega
        have hdz : ¬ c.d = 0 := by omega
        have k1 : IntKind.i64.wrap (1000000 - from_) = 1000000 - from_ := IntWalk.i64_in _ (by omega)
        have k2 : IntKind.i64.wrap (n - 1) = n - 1 := IntWalk.i64_in _ (by omega)
        obtain ⟨q, hq⟩ : ∃ q, q = (1000000 - from_) / (n - 1) := ⟨_, rfl⟩
        have hq0 : 0 ≤ q := by rw [hq]; exact Int.ediv_nonneg (by omega) (by omega)
        have hq1 : q ≤ 1000000 - from_ := by rw [hq]; exact Int.ediv_le_self _ (by omega)
        have k3 : IntKind.i64.wrap ((1000000 - from_).tdiv (n - 1)) = q := by rw [Int.tdiv_eq_ediv_of_nonneg (by omega), ← hq]; exact IntWalk.i64_in _ (by omega)
        have k3b : IntKind.i64.wrap ((1000000 - from_) / (n - 1)) = q := by rw [← hq]; exact IntWalk.i64_in _ (by omega)
        rw [← hq] at hr
        by_cases h4 : q < step
        · rw [if_pos h4] at hr
          subst hr
          clear hd hf hn h hq hq0 hq1
          go_enter Tryz.func39, Tryz.ntmps39
          go_wp2_with fail
          go_ret
          exact ⟨rfl, A0.out⟩
        · rw [if_neg h4] at hr
          obtain ⟨m, hm⟩ : ∃ m, m = step % c.d := ⟨_, rfl⟩
          have hm1 := Int.emod_nonneg step (show c.d ≠ 0 by omega)
          have hm2 := Int.emod_lt_of_pos step (show 0 < c.d by omega)
          rw [← hm] at hm1 hm2 hr
          have k4 : step.tmod c.d = m := by rw [Int.tmod_eq_emod_of_nonneg (by omega), ← hm]
          have k4c : IntKind.i64.wrap m = m := IntWalk.i64_in _ (by omega)
          have k4b : IntKind.i64.wrap (step % c.d) = m := by rw [← hm]; exact k4c
          by_cases h5 : m = 0
          · rw [if_neg (by omega)] at hr
            subst hr h5
            clear hd hf hn h hq hq0 hq1 hm hm1 hm2
            go_enter Tryz.func39, Tryz.ntmps39
            obtain ⟨x0, x1, x2, x3, x4, x5, x6⟩ := HB.out
            have zx := cell_lt x0
            go_wp2_with fail
            go_ret
            exact ⟨rfl, A0.out⟩
          · rw [if_pos h5] at hr
            subst hr
            have h5b : (m != 0) = true := by simpa using h5
            clear hd hf hn h hq hq0 hq1 hm hm1 hm2
            go_enter Tryz.func39, Tryz.ntmps39
            obtain ⟨x0, x1, x2, x3, x4, x5, x6⟩ := HB.out
            have zx := cell_lt x0
            go_wp2_with fail
            go_ret
            exact ⟨rfl, A0.out⟩
/-- the error of two clocks that are followed from a second on -/
def pairErr (c : Cnt) (W : Wd.Wld) (a b s : Int) : Int :=
  if cntB c = true then (if (Wd.phaseE W a s).e = 0 then (if (Wd.phaseE W b s).e = 0 then (if a = b then 1 else (if meetB c s = true then 0 else 21)) else (Wd.phaseE W b s).e) else (Wd.phaseE W a s).e) else 30
def PhaseAs (W : Wd.Wld) (p1 p2 : Option Addr) (k1 k2 : Nat) (w : World) (k s x e : Int) : Prop :=
  ∀ X, Below w.heap.size w X → Calls Tryz.prog 64 #[.agg #[.int .u64 W.seed, .slice p1 W.chs.length k1, .slice p2 W.cls.length k2], .int .i64 k, .int .i64 s] X fun en Y => en = .returned (.tuple #[.int .i64 x, .int .i64 e]) ∧ Below X.heap.size X Y
theorem phaseAs {W : Wd.Wld} {p1 p2 : Option Addr} {w : World} (ht : Wd.Tabs w) (hW : Wd.WldIn w W p1 p2) (k1 k2 : Nat) (k s : Int) {x e : Int} (h : Wd.phaseE W k s = ⟨x, e⟩) : PhaseAs W p1 p2 k1 k2 w k s x e := fun X hb => by
  have := Wd.phase_any W k s p1 p2 k1 k2 X (ht.below hb) (hW.below hb)
  rw [h] at this
  exact this
theorem pair_index0 (a b : Int) (w : World) : (Instr.index 65 (.agg #[.int .i64 a, .int .i64 b]) (.int .i64 0)).run Tryz.prog w = .ok (.int .i64 a) w := by kernel_rfl
theorem pair_index1 (a b : Int) (w : World) : (Instr.index 65 (.agg #[.int .i64 a, .int .i64 b]) (.int .i64 1)).run Tryz.prog w = .ok (.int .i64 b) w := by kernel_rfl
attribute [local go_sem] pair_index0 pair_index1
set_option maxRecDepth 100000 in
set_option maxHeartbeats 4000000 in
theorem checkPair_any (c : Cnt) (W : Wd.Wld) (a b s : Int) (p1 p2 : Option Addr) (k1 k2 : Nat) (w : World) (ht : Wd.Tabs w) (hW : Wd.WldIn w W p1 p2) :
    Calls Tryz.prog 38 #[cntVal c, wV W p1 p2 k1 k2, .int .i64 a, .int .i64 b, .int .i64 s] w fun e w' => e = .returned (.int .i64 (pairErr c W a b s)) ∧ Below w.heap.size w w' := by
  have HB := Lib.hid (ObsAt.new w c W p1 p2 k1 k2)
  have HCK := Lib.hid (fun W => check_any c W)
  obtain ⟨⟨x, ex⟩, hx⟩ : ∃ r, r = Wd.phaseE W a s := ⟨_, rfl⟩
  obtain ⟨⟨y, ey⟩, hy⟩ : ∃ r, r = Wd.phaseE W b s := ⟨_, rfl⟩
  have HX := Lib.hid (phaseAs ht hW k1 k2 a s hx.symm)
  have HY := Lib.hid (phaseAs ht hW k1 k2 b s hy.symm)
  obtain ⟨r, hr⟩ : ∃ r, r = pairErr c W a b s := ⟨_, rfl⟩
  rw [← hr]
  unfold pairErr at hr
  rw [← hx, ← hy] at hr
  dsimp only at hr
  unfold cntVal at *
  unfold wV
  clear ht hW hx hy
  by_cases hc : cntB c = true
  · rw [if_pos hc] at hr
    rw [show checkC c = 0 from if_pos hc] at HCK
    have HM := Lib.hid (fun X => measuresAt_any c s X (cntB_in hc))
    unfold cntVal at HM
    have HR : Hid (r = (if ex = 0 then (if ey = 0 then (if a = b then 1 else (if meetB c s = true then 0 else 21)) else ey) else ex)) := Lib.hid hr
    clear hc hr
    go_enter Tryz.func38, Tryz.ntmps38
    go_upto_region 1 with fail
    generalize ((w.alloc (.cells #[.int .i64 c.f, .int .i64 c.o, .int .i64 c.j, .int .i64 c.g, .int .i64 c.r, .int .i64 c.d, .int .i64 c.i] 34)).alloc (.cells #[.int .u64 W.seed, .slice p1 W.chs.length k1, .slice p2 W.cls.length k2] 38)) = W0 at *
    obtain ⟨x0, x1, x2, x3, x4, x5, x6⟩ := HB.out.cb
    have zx := cell_lt x0
    go_upto_region 4 with (go_at_call 28; refine (HCK.out _).mono ?_; rintro e w1 ⟨rfl, hb1⟩; have HB1 := Lib.hid (HB.out.below hb1); clear hb1)
    clear x0 x1 x2 x3 x4 x5 x6 zx HB
    go_wp2_with fail
    go_loopw [10, 13, 14, 15, 24] (fun s10 s13 s14 s15 s24 wx => ∃ (k : Nat) (v13 v14 v15 : Value), k ≤ 2 ∧ s10 = .int .i64 0 ∧ s13 = v13 ∧ s14 = v14 ∧ s15 = v15 ∧ s24 = .int .i64 (k : Int) ∧ Hid (ObsAt w wx c W p1 p2 k1 k2) ∧ Hid ((1 ≤ k → ex = 0) ∧ (2 ≤ k → ey = 0))) (fun _ _ _ _ s24 _ => 2 - (intOf s24).toNat)
    case atStart => exact ⟨0, _, _, _, by omega, rfl, rfl, rfl, rfl, rfl, HB1, Lib.hid ⟨fun h => absurd h (by decide), fun h => absurd h (by decide)⟩⟩
    case round =>
      obtain ⟨k, v13, v14, v15, hk, rfl, rfl, rfl, rfl, rfl, HBk, HK⟩ := hrel
      obtain ⟨-, l0, l1, l2, -⟩ := HBk.out
      have zl := cell_lt l0
      have h3 : k = 0 ∨ k = 1 ∨ k = 2 := by omega
      rcases h3 with rfl | rfl | rfl
      · by_cases he : ex = 0
        · have HK1 : Hid ((1 ≤ 1 → ex = 0) ∧ (2 ≤ 1 → ey = 0)) := Lib.hid ⟨fun _ => he, fun h => absurd h (by decide)⟩
          subst he
          go_wp2_with (go_at_call 64; refine (HX.out _ HBk.out.bel).mono ?_; rintro e w2 ⟨rfl, hb2⟩; have HB2 := Lib.hid (HBk.out.below hb2); clear hb2)
          go_roundw
          case rel => exact ⟨1, _, _, _, by omega, rfl, rfl, rfl, rfl, rfl, HB2, HK1⟩
          case measure => simp [intOf]
        · have hr := HR.out
          rw [if_neg he] at hr
          subst hr
          have hne : (r != 0) = true := by simpa using he
          clear HR he
          go_wp2_with (go_at_call 64; refine (HX.out _ HBk.out.bel).mono ?_; rintro e w2 ⟨rfl, hb2⟩; have HB2 := Lib.hid (HBk.out.below hb2); clear hb2)
          go_ret
          exact ⟨rfl, HB2.out.bel⟩
      · have h1 := HK.out.1 (by decide)
        by_cases he : ey = 0
        · have HK1 : Hid ((1 ≤ 2 → ex = 0) ∧ (2 ≤ 2 → ey = 0)) := Lib.hid ⟨fun _ => h1, fun _ => he⟩
          subst he
          clear h1
          go_wp2_with (go_at_call 64; refine (HY.out _ HBk.out.bel).mono ?_; rintro e w2 ⟨rfl, hb2⟩; have HB2 := Lib.hid (HBk.out.below hb2); clear hb2)
          go_roundw
          case rel => exact ⟨2, _, _, _, by omega, rfl, rfl, rfl, rfl, rfl, HB2, HK1⟩
          case measure => simp [intOf]
        · have hr := HR.out
          rw [if_pos h1, if_neg he] at hr
          subst hr
          have hne : (r != 0) = true := by simpa using he
          clear HR he h1
          go_wp2_with (go_at_call 64; refine (HY.out _ HBk.out.bel).mono ?_; rintro e w2 ⟨rfl, hb2⟩; have HB2 := Lib.hid (HBk.out.below hb2); clear hb2)
          go_ret
          exact ⟨rfl, HB2.out.bel⟩
      · have hr := HR.out
        rw [if_pos (HK.out.1 (by decide)), if_pos (HK.out.2 (by decide))] at hr
        clear l0 l1 l2 zl
        obtain ⟨x0, x1, x2, x3, x4, x5, x6⟩ := HBk.out.cb
        have zx := cell_lt x0
        by_cases h3 : a = b
        · rw [if_pos h3] at hr
          subst hr h3
          go_wp2_with fail
          go_ret
          exact ⟨rfl, HBk.out.bel⟩
        · rw [if_neg h3] at hr
          have HR2 := Lib.hid hr
          clear hr HR
          obtain ⟨mb, hmb⟩ : ∃ mb, meetB c s = mb := ⟨_, rfl⟩
          rw [hmb] at HM HR2
          clear hmb
          cases mb
          · rw [if_neg (by decide)] at HR2
            obtain rfl := HR2.out
            go_wp2_with (go_at_call 48; refine (HM.out _).mono ?_; rintro e w2 ⟨rfl, hb2⟩; have HB2 := Lib.hid (HBk.out.below hb2); clear hb2)
            go_ret
            exact ⟨rfl, HB2.out.bel⟩
          · rw [if_pos rfl] at HR2
            obtain rfl := HR2.out
            go_wp2_with (go_at_call 48; refine (HM.out _).mono ?_; rintro e w2 ⟨rfl, hb2⟩; have HB2 := Lib.hid (HBk.out.below hb2); clear hb2)
            go_ret
            exact ⟨rfl, HB2.out.bel⟩
  · rw [if_neg hc] at hr
    rw [show checkC c = 30 from if_neg hc] at HCK
    subst hr
    clear hc
    go_enter Tryz.func38, Tryz.ntmps38
    go_upto_region 1 with fail
    generalize ((w.alloc (.cells #[.int .i64 c.f, .int .i64 c.o, .int .i64 c.j, .int .i64 c.g, .int .i64 c.r, .int .i64 c.d, .int .i64 c.i] 34)).alloc (.cells #[.int .u64 W.seed, .slice p1 W.chs.length k1, .slice p2 W.cls.length k2] 38)) = W0 at *
    obtain ⟨x0, x1, x2, x3, x4, x5, x6⟩ := HB.out.cb
    have zx := cell_lt x0
    go_wp2_with (go_at_call 28; refine (HCK.out _).mono ?_; rintro e w1 ⟨rfl, hb1⟩; have HB1 := Lib.hid (HB.out.below hb1); clear hb1)
    go_ret
    exact ⟨rfl, HB1.out.bel⟩
end Go.Proofs.YtmfpnfdoidihcaaGreatDoor.Ct
namespace Go.Proofs.YtmfpnfdoidihcaaGreatDoor.Ct
open Go Go.RowKit
attribute [local go_sem] Oper.semAt_some
theorem opposite_any (a b : Int) (w : World) (ha : -4000000000000000000 ≤ a ∧ a ≤ 4000000000000000000) (hb : -4000000000000000000 ≤ b ∧ b ≤ 4000000000000000000) :
    Calls Tryz.prog 67 #[.agg #[.int .i64 a, .int .i64 b]] w fun e w' => e = .returned (.agg #[.int .i64 (-b), .int .i64 (-a)]) ∧ Below w.heap.size w w' := by
  have k1 : IntKind.i64.wrap (-a) = -a := IntWalk.i64_in _ (by omega)
  have k2 : IntKind.i64.wrap (-b) = -b := IntWalk.i64_in _ (by omega)
  clear ha hb
  go_enter Tryz.func67, Tryz.ntmps67
  go_wp2_with fail
  refine bodyPost_ret (v := .agg #[.int .i64 (-b), .int .i64 (-a)]) (by simp [results, Tryz.results67, go_sem]) rfl ?_
  exact ⟨rfl, by go_grown⟩
/-- a list of spans -/
def spAt (L : List (Int × Int)) (i : Nat) : Int × Int := (L[i]?).getD (0, 0)
def SpsAt (w : World) (L : List (Int × Int)) (b o : Nat) : Prop := ∀ i, i < L.length → w.cell? ⟨b, o + i * 2, none⟩ = some (.int .i64 (spAt L i).1) ∧ w.cell? ⟨b, o + i * 2 + 1, none⟩ = some (.int .i64 (spAt L i).2)
theorem SpsAt.below {w w' : World} {L : List (Int × Int)} {b o : Nat} (h : SpsAt w L b o) (hb : Below w.heap.size w w') : SpsAt w' L b o := fun i hi => ⟨cell_below hb (h i hi).1, cell_below hb (h i hi).2⟩
def sumA (L : List (Int × Int)) : Nat → Int
  | 0 => 0
  | k + 1 => sumA L k + (spAt L k).1
def sumB (L : List (Int × Int)) : Nat → Int
  | 0 => 0
  | k + 1 => sumB L k + (spAt L k).2
def SmallSp (L : List (Int × Int)) : Prop := ∀ i, (-100000000000000000 ≤ (spAt L i).1 ∧ (spAt L i).1 ≤ 100000000000000000) ∧ (-100000000000000000 ≤ (spAt L i).2 ∧ (spAt L i).2 ≤ 100000000000000000)
theorem sumA_bd {L : List (Int × Int)} (h : SmallSp L) : ∀ k : Nat, -(100000000000000000 * (k : Int)) ≤ sumA L k ∧ sumA L k ≤ 100000000000000000 * (k : Int)
  | 0 => by simp [sumA]
  | k + 1 => by have h1 := sumA_bd h k; have h2 := (h k).1; simp only [sumA]; omega
theorem sumB_bd {L : List (Int × Int)} (h : SmallSp L) : ∀ k : Nat, -(100000000000000000 * (k : Int)) ≤ sumB L k ∧ sumB L k ≤ 100000000000000000 * (k : Int)
  | 0 => by simp [sumB]
  | k + 1 => by have h1 := sumB_bd h k; have h2 := (h k).2; simp only [sumB]; omega
/-- the boxes of sum: the result, the sum so far -/
structure SumIn (w X : World) (x y : Int) : Prop where
  r0 : X.cell? ⟨w.heap.size, 0, none⟩ = some (.int .i64 0)
  r1 : X.cell? ⟨w.heap.size, 1, none⟩ = some (.int .i64 0)
  g0 : X.frozen? ⟨w.heap.size, 0, none⟩ = false
  g1 : X.frozen? ⟨w.heap.size, 1, none⟩ = false
  a0 : X.cell? ⟨w.heap.size + 1, 0, none⟩ = some (.int .i64 x)
  a1 : X.cell? ⟨w.heap.size + 1, 1, none⟩ = some (.int .i64 y)
  f0 : X.frozen? ⟨w.heap.size + 1, 0, none⟩ = false
  f1 : X.frozen? ⟨w.heap.size + 1, 1, none⟩ = false
  bel : Below w.heap.size w X
theorem SumIn.new (w : World) (t : TypeId) : SumIn w ((w.alloc (.cells #[.int .i64 0, .int .i64 0] t)).alloc (.cells #[.int .i64 0, .int .i64 0] t)) 0 0 :=
  ⟨by simp, by simp, by simp, by simp, by simp, by simp, by simp, by simp, below_alloc (below_alloc (Below.refl _ _) _) _⟩
theorem SumIn.next {w X : World} {x y : Int} (h : SumIn w X x y) (o : Obj) (u v : Int) : SumIn w (((X.setCell ⟨w.heap.size + 1, 0, none⟩ (.int .i64 u)).setCell ⟨w.heap.size + 1, 1, none⟩ (.int .i64 v)).alloc o) u v := by
  have hb := below_alloc (Below.refl ((X.setCell ⟨w.heap.size + 1, 0, none⟩ (.int .i64 u)).setCell ⟨w.heap.size + 1, 1, none⟩ (.int .i64 v)).heap.size _) o
  have k : ∀ {i : Nat} {z : Value}, X.cell? ⟨w.heap.size, i, none⟩ = some z → ((X.setCell ⟨w.heap.size + 1, 0, none⟩ (.int .i64 u)).setCell ⟨w.heap.size + 1, 1, none⟩ (.int .i64 v)).cell? ⟨w.heap.size, i, none⟩ = some z := fun hz => by
    rw [World.cell?_setCell_far _ _ _ _ (show w.heap.size + 1 ≠ w.heap.size by omega), World.cell?_setCell_far _ _ _ _ (show w.heap.size + 1 ≠ w.heap.size by omega)]
    exact hz
  have fz : ∀ {b i : Nat}, X.frozen? ⟨b, i, none⟩ = false → ((X.setCell ⟨w.heap.size + 1, 0, none⟩ (.int .i64 u)).setCell ⟨w.heap.size + 1, 1, none⟩ (.int .i64 v)).frozen? ⟨b, i, none⟩ = false := fun hf => by
    rw [World.frozen?_setCell, World.frozen?_setCell]
    exact hf
  have e0 : ((X.setCell ⟨w.heap.size + 1, 0, none⟩ (.int .i64 u)).setCell ⟨w.heap.size + 1, 1, none⟩ (.int .i64 v)).cell? ⟨w.heap.size + 1, 0, none⟩ = some (.int .i64 u) := by
    rw [World.cell?_setCell_other _ ⟨w.heap.size + 1, 1, none⟩ ⟨w.heap.size + 1, 0, none⟩ _ (fun e => by cases e)]
    exact World.cell?_setCell_same _ _ _ h.a0
  have e1 : ((X.setCell ⟨w.heap.size + 1, 0, none⟩ (.int .i64 u)).setCell ⟨w.heap.size + 1, 1, none⟩ (.int .i64 v)).cell? ⟨w.heap.size + 1, 1, none⟩ = some (.int .i64 v) := by
    have hy : (X.setCell ⟨w.heap.size + 1, 0, none⟩ (.int .i64 u)).cell? ⟨w.heap.size + 1, 1, none⟩ = some (.int .i64 y) := by
      rw [World.cell?_setCell_other _ ⟨w.heap.size + 1, 0, none⟩ ⟨w.heap.size + 1, 1, none⟩ _ (fun e => by cases e)]
      exact h.a1
    exact World.cell?_setCell_same _ _ _ hy
  have bl : Below w.heap.size w ((X.setCell ⟨w.heap.size + 1, 0, none⟩ (.int .i64 u)).setCell ⟨w.heap.size + 1, 1, none⟩ (.int .i64 v)) := (h.bel.setCell (by simp) _).setCell (by simp) _
  exact ⟨cell_below hb (k h.r0), cell_below hb (k h.r1), (hb.frozen (p := ⟨w.heap.size, 0, none⟩) (cell_lt (k h.r0))).trans (fz h.g0), (hb.frozen (p := ⟨w.heap.size, 1, none⟩) (cell_lt (k h.r1))).trans (fz h.g1),
    cell_below hb e0, cell_below hb e1, (hb.frozen (p := ⟨w.heap.size + 1, 0, none⟩) (cell_lt e0)).trans (fz h.f0), (hb.frozen (p := ⟨w.heap.size + 1, 1, none⟩) (cell_lt e1)).trans (fz h.f1), bl.trans (hb.mono bl.size)⟩
set_option maxRecDepth 100000 in
set_option maxHeartbeats 4000000 in
theorem sum_any (L : List (Int × Int)) (b o cap : Nat) (w : World) (hn : L.length ≤ 8) (hs : SmallSp L) (hl : SpsAt w L b o) :
    Calls Tryz.prog 66 #[.slice (some ⟨b, o, none⟩) L.length cap] w fun e w' => e = .returned (.agg #[.int .i64 (sumA L L.length), .int .i64 (sumB L L.length)]) ∧ Below w.heap.size w w' := by
  have HN := Lib.hid hn
  have HS := Lib.hid hs
  have HL := Lib.hid hl
  have H0 := Lib.hid (SumIn.new w 31)
  clear hn hs hl
  go_enter Tryz.func66, Tryz.ntmps66
  go_upto_region 2 with fail
  generalize (w.alloc (.cells #[.int .i64 0, .int .i64 0] 31)).alloc (.cells #[.int .i64 0, .int .i64 0] 31) = W0 at *
  go_wp2_with fail
  go_loopw [5, 8] (fun s5 s8 wx => ∃ (k : Nat) (v5 : Value), k ≤ L.length ∧ s5 = v5 ∧ s8 = .int .i64 (k : Int) ∧ Hid (SumIn w wx (sumA L k) (sumB L k))) (fun _ s8 _ => L.length - (intOf s8).toNat)
  case atStart => exact ⟨0, _, Nat.zero_le _, rfl, rfl, H0⟩
  case round =>
    obtain ⟨k, v5, hk, rfl, rfl, HI⟩ := hrel
    obtain ⟨r0, r1, g0, g1, a0, a1, f0, f1, -⟩ := HI.out
    have zr := cell_lt r0
    have za := cell_lt a0
    by_cases hlt : k < L.length
    · have hki : (k : Int) < L.length := by omega
      have HK := Lib.hid hlt
      obtain ⟨x0, x1⟩ := (HL.out.below HI.out.bel) k hlt
      have zx := cell_lt x0
      have hn := HN.out
      have s1 := sumA_bd HS.out k
      have s2 := sumB_bd HS.out k
      have s3 := HS.out k
      have w1' : IntKind.i64.wrap ((k : Int) + 1) = (k : Int) + 1 := IntWalk.i64_in _ (by omega)
      obtain ⟨SA, hSA⟩ : ∃ z, z = sumA L (k + 1) := ⟨_, rfl⟩
      obtain ⟨SB, hSB⟩ : ∃ z, z = sumB L (k + 1) := ⟨_, rfl⟩
      have eA : SA = sumA L k + (spAt L k).1 := hSA
      have eB : SB = sumB L k + (spAt L k).2 := hSB
      have HSA := Lib.hid hSA
      have HSB := Lib.hid hSB
      have HNX := Lib.hid (fun (o : Obj) => HI.out.next o SA SB)
      clear hSA hSB
      generalize sumA L k = sa at *
      generalize sumB L k = sb at *
      generalize (spAt L k).1 = pa at *
      generalize (spAt L k).2 = pb at *
      have k1 : IntKind.i64.wrap (sa + pa) = SA := by rw [eA]; exact IntWalk.i64_in _ (by omega)
      have k2 : IntKind.i64.wrap (sb + pb) = SB := by rw [eB]; exact IntWalk.i64_in _ (by omega)
      clear eA eB s1 s2 s3 hn hlt hk r0 r1 g0 g1 zr
      go_wp2_with fail
      go_roundw
      case rel => exact ⟨k + 1, _, HK.out, rfl, by simp, by rw [← HSA.out, ← HSB.out]; exact Lib.hid (HNX.out _)⟩
      case measure => have := HK.out; simp [intOf]; omega
    · obtain rfl : k = L.length := by omega
      have hki : ¬ (L.length : Int) < L.length := by omega
      clear hlt hk
      go_wp2_with fail
      refine bodyPost_ret (v := .agg #[.int .i64 (sumA L L.length), .int .i64 (sumB L L.length)]) (by simp [results, Tryz.results66, go_sem, r0, r1]) rfl ?_
      exact ⟨rfl, (HI.out.bel.setCell (by simp) _).setCell (by simp) _⟩
end Go.Proofs.YtmfpnfdoidihcaaGreatDoor.Ct
namespace Go.Proofs.YtmfpnfdoidihcaaGreatDoor.Ct
open Go Go.RowKit Go.Shelf
attribute [local go_sem] Oper.semAt_some
/-- the second of measurement i -/
def watS (from_ st : Int) (i : Nat) : Int := IntKind.i64.wrap (from_ + (i : Int) * st)
/-- the first error of some -/
def firstE (f : Nat → Int) : Nat → Int
  | 0 => 0
  | k + 1 => if firstE f k = 0 then f k else firstE f k
theorem firstE_zero {f : Nat → Int} : ∀ {k : Nat}, firstE f k = 0 → ∀ i, i < k → f i = 0
  | 0, _, i, hi => absurd hi (Nat.not_lt_zero i)
  | k + 1, h, i, hi => by
    unfold firstE at h
    by_cases h0 : firstE f k = 0
    · rw [if_pos h0] at h
      by_cases e : i = k
      · subst e; exact h
      · exact firstE_zero h0 i (by omega)
    · rw [if_neg h0] at h; exact absurd h h0
theorem firstE_more {f : Nat → Int} {k : Nat} (h : firstE f k ≠ 0) : ∀ n, k ≤ n → firstE f n = firstE f k
  | 0, hn => by rw [show k = 0 by omega]
  | n + 1, hn => by
    by_cases e : k = n + 1
    · rw [e]
    · have := firstE_more h n (by omega)
      show (if firstE f n = 0 then f n else firstE f n) = firstE f k
      rw [this, if_neg h]
def stW (step : Int) : Int := if 1000001 < step then 1000001 else step
def watchErr (c : Cnt) (W : Wd.Wld) (a b from_ step n : Int) : Int :=
  if cntB c = true then (if step < 1 then 1 else if 0 ≤ n ∧ n ≤ 2000 then firstE (fun i => (obsE c W a b (watS from_ (stW step) i)).2) n.toNat else 1) else 30
def watchM (c : Cnt) (W : Wd.Wld) (a b from_ step : Int) (i : Nat) : Int := (obsE c W a b (watS from_ (stW step) i)).1
/-- the boxes of Watch, and what is shown so far -/
structure WatAt (w X : World) (c : Cnt) (W : Wd.Wld) (p1 p2 : Option Addr) (k1 k2 : Nat) (m : Nat → Int) (n g k : Nat) : Prop where
  ob : ObsAt w X c W p1 p2 k1 k2
  done : FnAt X m k g 0
  cells : ∀ i, i < n → (∃ x : Int, X.cell? ⟨g, i, none⟩ = some (.int .i64 x)) ∧ X.frozen? ⟨g, i, none⟩ = false
  gt : w.heap.size + 1 < g
theorem WatAt.below {w X Y : World} {c : Cnt} {W : Wd.Wld} {p1 p2 : Option Addr} {k1 k2 : Nat} {m : Nat → Int} {n g k : Nat} (h : WatAt w X c W p1 p2 k1 k2 m n g k) (hb : Below X.heap.size X Y) : WatAt w Y c W p1 p2 k1 k2 m n g k :=
  ⟨h.ob.below hb, h.done.below hb, fun i hi => by
    obtain ⟨⟨x, hx⟩, hf⟩ := h.cells i hi
    exact ⟨⟨x, cell_below hb hx⟩, (hb.frozen (p := ⟨g, i, none⟩) (cell_lt hx)).trans hf⟩, h.gt⟩
theorem WatAt.put {w X : World} {c : Cnt} {W : Wd.Wld} {p1 p2 : Option Addr} {k1 k2 : Nat} {m : Nat → Int} {n g k : Nat} (h : WatAt w X c W p1 p2 k1 k2 m n g k) (hk : k < n) : WatAt w (X.setCell ⟨g, k, none⟩ (.int .i64 (m k))) c W p1 p2 k1 k2 m n g (k + 1) := by
  have hg := h.gt
  have far : ∀ {b o : Nat} {v : Value}, b ≠ g → X.cell? ⟨b, o, none⟩ = some v → (X.setCell ⟨g, k, none⟩ (.int .i64 (m k))).cell? ⟨b, o, none⟩ = some v := fun hne hv => by
    rw [World.cell?_setCell_far _ _ _ _ (fun e => hne e.symm)]; exact hv
  have oth : ∀ {o : Nat} {v : Value}, o ≠ k → X.cell? ⟨g, o, none⟩ = some v → (X.setCell ⟨g, k, none⟩ (.int .i64 (m k))).cell? ⟨g, o, none⟩ = some v := fun hne hv => by
    rw [World.cell?_setCell_other _ _ _ _ (by simp)]; exact hv
  obtain ⟨⟨xk, hxk⟩, -⟩ := h.cells k hk
  have same : (X.setCell ⟨g, k, none⟩ (.int .i64 (m k))).cell? ⟨g, k, none⟩ = some (.int .i64 (m k)) := World.cell?_setCell_same _ _ _ hxk
  have n1 : w.heap.size ≠ g := by omega
  have n2 : w.heap.size + 1 ≠ g := by omega
  have hc := h.ob.cb
  refine ⟨⟨⟨far n1 hc.c0, far n1 hc.c1, far n1 hc.c2, far n1 hc.c3, far n1 hc.c4, far n1 hc.c5, far n1 hc.c6⟩, far n2 h.ob.c0, far n2 h.ob.c1, far n2 h.ob.c2, h.ob.bel.setCell (p := ⟨g, k, none⟩) (by show w.heap.size ≤ g; omega) _⟩, fun i hi => ?_, fun i hi => ?_, hg⟩
  · rw [Nat.zero_add]
    by_cases e : i = k
    · subst e; exact same
    · have := h.done i (by omega)
      rw [Nat.zero_add] at this
      exact oth e this
  · obtain ⟨⟨x, hx⟩, hf⟩ := h.cells i hi
    refine ⟨?_, by rw [World.frozen?_setCell]; exact hf⟩
    by_cases e : i = k
    · subst e; exact ⟨_, same⟩
    · exact ⟨x, oth e hx⟩
def WatRet (c : Cnt) (W : Wd.Wld) (a b from_ step n : Int) (w : World) (e : Ending) (w' : World) : Prop :=
  (watchErr c W a b from_ step n ≠ 0 ∧ e = .returned (.tuple #[.slice none 0 0, .int .i64 (watchErr c W a b from_ step n)]) ∨
   watchErr c W a b from_ step n = 0 ∧ ∃ g, e = .returned (.tuple #[.slice (some ⟨g, 0, none⟩) n.toNat n.toNat, .int .i64 0]) ∧ FnAt w' (watchM c W a b from_ step) n.toNat g 0 ∧ w.heap.size ≤ g) ∧ Below w.heap.size w w'
set_option maxRecDepth 100000 in
set_option maxHeartbeats 4000000 in
theorem watch_no (c : Cnt) (W : Wd.Wld) (a b from_ step n r : Int) (p1 p2 : Option Addr) (k1 k2 : Nat) (w : World) (h : cntB c = false ∧ r = 30 ∨ cntB c = true ∧ r = 1 ∧ (step < 1 ∨ ¬ (0 ≤ n ∧ n ≤ 2000))) :
    Calls Tryz.prog 11 #[cntVal c, wV W p1 p2 k1 k2, .int .i64 a, .int .i64 b, .int .i64 from_, .int .i64 step, .int .i64 n] w fun e w' => e = .returned (.tuple #[.slice none 0 0, .int .i64 r]) ∧ Below w.heap.size w w' := by
  have HB := Lib.hid (ObsAt.new w c W p1 p2 k1 k2)
  have HCK := Lib.hid (fun W => check_any c W)
  unfold cntVal at *
  unfold wV
  have HWI := Lib.hid (fun X => within_any n 0 2000 X)
  rcases h with ⟨hc, rfl⟩ | ⟨hc, rfl, h1⟩
  · rw [show checkC c = 30 from if_neg (by rw [hc]; decide)] at HCK
    clear hc
    go_enter Tryz.func11, Tryz.ntmps11
    go_upto_region 1 with fail
    generalize ((w.alloc (.cells #[.int .i64 c.f, .int .i64 c.o, .int .i64 c.j, .int .i64 c.g, .int .i64 c.r, .int .i64 c.d, .int .i64 c.i] 34)).alloc (.cells #[.int .u64 W.seed, .slice p1 W.chs.length k1, .slice p2 W.cls.length k2] 38)) = W0 at *
    obtain ⟨x0, x1, x2, x3, x4, x5, x6⟩ := HB.out.cb
    have zx := cell_lt x0
    go_wp2_with (go_at_call 28; refine (HCK.out _).mono ?_; rintro e w1 ⟨rfl, hb1⟩; have HB1 := Lib.hid (HB.out.below hb1); clear hb1)
    go_ret2
    exact ⟨rfl, HB1.out.bel⟩
  · rw [show checkC c = 0 from if_pos hc] at HCK
    clear hc
    by_cases h2 : step < 1
    · clear h1
      go_enter Tryz.func11, Tryz.ntmps11
      go_upto_region 1 with fail
      generalize ((w.alloc (.cells #[.int .i64 c.f, .int .i64 c.o, .int .i64 c.j, .int .i64 c.g, .int .i64 c.r, .int .i64 c.d, .int .i64 c.i] 34)).alloc (.cells #[.int .u64 W.seed, .slice p1 W.chs.length k1, .slice p2 W.cls.length k2] 38)) = W0 at *
      obtain ⟨x0, x1, x2, x3, x4, x5, x6⟩ := HB.out.cb
      have zx := cell_lt x0
      go_wp2_with (go_at_call 28; refine (HCK.out _).mono ?_; rintro e w1 ⟨rfl, hb1⟩; have HB1 := Lib.hid (HB.out.below hb1); clear hb1)
      go_ret2
      exact ⟨rfl, HB1.out.bel⟩
    · have h3 := h1.resolve_left h2
      rw [show (decide (0 ≤ n) && decide (n ≤ 2000)) = false by simpa using h3] at HWI
      clear h1 h3
      go_enter Tryz.func11, Tryz.ntmps11
      go_upto_region 1 with fail
      generalize ((w.alloc (.cells #[.int .i64 c.f, .int .i64 c.o, .int .i64 c.j, .int .i64 c.g, .int .i64 c.r, .int .i64 c.d, .int .i64 c.i] 34)).alloc (.cells #[.int .u64 W.seed, .slice p1 W.chs.length k1, .slice p2 W.cls.length k2] 38)) = W0 at *
      obtain ⟨x0, x1, x2, x3, x4, x5, x6⟩ := HB.out.cb
      have zx := cell_lt x0
      go_wp2_with (first | (go_at_call 28; refine (HCK.out _).mono ?_; rintro e w1 ⟨rfl, hb1⟩; have HB1 := Lib.hid (HB.out.below hb1); clear hb1) | (go_at_call 32; refine (HWI.out _).mono ?_; rintro e w2 ⟨rfl, hw⟩; subst hw))
      go_ret2
      exact ⟨rfl, HB1.out.bel⟩
set_option maxRecDepth 100000 in
set_option maxHeartbeats 8000000 in
theorem watch_yes (c : Cnt) (W : Wd.Wld) (a b from_ step : Int) (n : Nat) (p1 p2 : Option Addr) (k1 k2 : Nat) (w : World) (ht : Wd.Tabs w) (hW : Wd.WldIn w W p1 p2) (hc : cntB c = true) (hs : ¬ step < 1) (hn : n ≤ 2000) :
    Calls Tryz.prog 11 #[cntVal c, wV W p1 p2 k1 k2, .int .i64 a, .int .i64 b, .int .i64 from_, .int .i64 step, .int .i64 (n : Int)] w (WatRet c W a b from_ step n w) := by
  have HB := Lib.hid (ObsAt.new w c W p1 p2 k1 k2)
  have HCK := Lib.hid (fun W => check_any c W)
  rw [show checkC c = 0 from if_pos hc] at HCK
  have HWI := Lib.hid (fun X => within_any (n : Int) 0 2000 X)
  rw [show (decide (0 ≤ (n : Int)) && decide ((n : Int) ≤ 2000)) = true by simp only [Bool.and_eq_true, decide_eq_true_eq]; omega] at HWI
  have hE : watchErr c W a b from_ step n = firstE (fun i => (obsE c W a b (watS from_ (stW step) i)).2) n := by
    unfold watchErr
    rw [if_pos hc, if_neg hs, if_pos (by omega), Int.toNat_natCast]
  have HOB := Lib.hid (fun s X (hb : Below w.heap.size w X) => observe_any c W a b s p1 p2 k1 k2 X (ht.below hb) (hW.below hb))
  unfold cntVal wV at HOB
  have HN := Lib.hid hn
  have hst : (if 1000001 < step then 1000001 else step) = stW step := rfl
  have HST : Hid (1 ≤ stW step ∧ stW step ≤ 1000001) := Lib.hid (by unfold stW; split <;> omega)
  unfold WatRet
  rw [hE, Int.toNat_natCast]
  have HM : Hid (∀ i : Nat, watchM c W a b from_ step i = (obsE c W a b (watS from_ (stW step) i)).1) := Lib.hid fun i => rfl
  generalize stW step = st at *
  obtain ⟨i0, hi0, hz0, hz1, hz2⟩ := info_parts infoInt
  unfold cntVal at *
  unfold wV
  generalize watchM c W a b from_ step = mm at *
  clear ht hW hc hE hn
  go_enter Tryz.func11, Tryz.ntmps11
  go_upto_region 1 with fail
  generalize ((w.alloc (.cells #[.int .i64 c.f, .int .i64 c.o, .int .i64 c.j, .int .i64 c.g, .int .i64 c.r, .int .i64 c.d, .int .i64 c.i] 34)).alloc (.cells #[.int .u64 W.seed, .slice p1 W.chs.length k1, .slice p2 W.cls.length k2] 38)) = W0 at *
  obtain ⟨x0, x1, x2, x3, x4, x5, x6⟩ := HB.out.cb
  have zx := cell_lt x0
  go_upto_region 7 with (first | (go_at_call 28; refine (HCK.out _).mono ?_; rintro e w1 ⟨rfl, hb1⟩; have HB1 := Lib.hid (HB.out.below hb1); clear hb1) | (go_at_call 32; refine (HWI.out _).mono ?_; rintro e w2 ⟨rfl, hw⟩; subst hw))
  clear x0 x1 x2 x3 x4 x5 x6 zx HB HCK HWI hst hs
  have hlt1 := cell_lt HB1.out.c0
  have HLT := Lib.hid hlt1
  clear hlt1
  go_wp2_with (at_make; refine wpList_make_full _ rfl _ _ 29 rfl w1.heap.size 3 i0 (.int .i64 0) 1 Tryz.underlying29 hi0 hz0 hz1 .i64 .i64 _ _ n rfl rfl rfl rfl (by rw [hz2]; have := HN.out; omega) (by have := HN.out; unfold maxLen; omega) (Nat.le_refl _) ?_; intro w3 hown0 hgrow0)
  have hb3 : Below w1.heap.size w1 w3 := (Below.refl _ _).grown hgrow0 (Nat.le_refl _) (fun k hk => by cases hk)
  have HU : Hid (WatAt w w3 c W p1 p2 k1 k2 mm n w1.heap.size 0) := Lib.hid ⟨HB1.out.below hb3, fun i hi => absurd hi (Nat.not_lt_zero i), made_cells (by
    rw [Nat.mul_one, show (Value.int .i64 0).cells = #[.int .i64 0] from rfl, toList_madeCells_one] at hown0
    exact hown0), HLT.out⟩
  clear hown0 hgrow0 hb3 HB1 hz0 hz1 hz2 hi0 HLT
  generalize w1.heap.size = g at *
  go_loopw [14, 15, 18, 19, 20, 39] (fun s14 s15 s18 s19 s20 s39 wr => ∃ (k : Nat) (v18 v19 v20 : Value), k ≤ n ∧ s14 = .slice none 0 0 ∧ s15 = .int .i64 0 ∧ s18 = v18 ∧ s19 = v19 ∧ s20 = v20 ∧ s39 = .int .i64 (k : Int) ∧ Hid (WatAt w wr c W p1 p2 k1 k2 mm n g k) ∧ Hid (firstE (fun i => (obsE c W a b (watS from_ st i)).2) k = 0)) (fun _ _ _ _ _ s39 _ => n - (intOf s39).toNat)
  case atStart => exact ⟨0, _, _, _, Nat.zero_le _, rfl, rfl, rfl, rfl, rfl, rfl, HU, Lib.hid rfl⟩
  case round =>
    obtain ⟨k, v18, v19, v20, hk, rfl, rfl, rfl, rfl, rfl, rfl, HT, HE⟩ := hrel
    by_cases hlt : k < n
    · have hki : (k : Int) < n := by omega
      have HK := Lib.hid hlt
      have hn := HN.out
      have hst := HST.out
      have hm1 : 0 ≤ (k : Int) * st := Int.mul_nonneg (by omega) (by omega)
      have hm2 : (k : Int) * st ≤ 2000 * st := Int.mul_le_mul_of_nonneg_right (by omega) (by omega)
      have j1 : IntKind.i64.wrap ((k : Int) * st) = (k : Int) * st := IntWalk.i64_in _ (by omega)
      obtain ⟨sk, hsk⟩ : ∃ sk, sk = watS from_ st k := ⟨_, rfl⟩
      have j2 : IntKind.i64.wrap (from_ + (k : Int) * st) = sk := hsk.symm
      have v1 : IntKind.i64.wrap ((k : Int) + 1) = (k : Int) + 1 := IntWalk.i64_in _ (by omega)
      obtain ⟨⟨mk, gk⟩, hmg⟩ : ∃ r, r = obsE c W a b (watS from_ st k) := ⟨_, rfl⟩
      have hmm := HM.out k
      have HO1 := Lib.hid (HOB.out (watS from_ st k) wr HT.out.ob.bel)
      have HPU := Lib.hid (HT.out.put hlt)
      have hfe : firstE (fun i => (obsE c W a b (watS from_ st i)).2) (k + 1) = gk := by
        show (if firstE (fun i => (obsE c W a b (watS from_ st i)).2) k = 0 then (obsE c W a b (watS from_ st k)).2 else _) = gk
        rw [if_pos HE.out, ← hmg]
      rw [← hmg, ← hsk] at HO1
      rw [← hmg] at hmm
      dsimp only at HO1 hmm
      have HFE := Lib.hid hfe
      have HPE : Hid (∀ X, WatAt w X c W p1 p2 k1 k2 mm n g k → WatAt w (X.setCell ⟨g, k, none⟩ (.int .i64 mk)) c W p1 p2 k1 k2 mm n g (k + 1)) := Lib.hid fun X hX => by
        have := hX.put HK.out
        rwa [hmm] at this
      clear hm1 hm2 hst hn hsk hmg hmm hfe HPU hlt hk HE
      obtain ⟨⟨x0, x1, x2, x3, x4, x5, x6⟩, l0, l1, l2, -⟩ := HT.out.ob
      have zx := cell_lt x0
      have zl := cell_lt l0
      go_upto_region 12 with (go_at_call 9; refine HO1.out.mono ?_; rintro e w4 ⟨rfl, hb4⟩; have HT4 := Lib.hid (HT.out.below hb4); clear hb4)
      clear x0 x1 x2 x3 x4 x5 x6 l0 l1 l2 zx zl HT HO1 j1 j2
      by_cases hg : gk = 0
      · subst hg
        obtain ⟨⟨old, hold⟩, hfr⟩ := HT4.out.cells k HK.out
        have hz := cell_lt hold
        go_wp2_with fail
        go_roundw
        case rel => exact ⟨k + 1, _, _, _, HK.out, rfl, rfl, rfl, rfl, rfl, by simp, Lib.hid (HPE.out _ HT4.out), HFE⟩
        case measure => have := HK.out; simp [intOf]; omega
      · have hne : (gk != 0) = true := by simpa using hg
        have HG := Lib.hid hg
        clear hg
        go_wp2_with fail
        go_ret2
        refine ⟨.inl ?_, HT4.out.ob.bel⟩
        have e : firstE (fun i => (obsE c W a b (watS from_ st i)).2) n = gk := by
          rw [firstE_more (k := k + 1) (by rw [HFE.out]; exact HG.out) n HK.out, HFE.out]
        rw [e]
        exact ⟨HG.out, rfl⟩
    · obtain rfl : k = n := by omega
      have hki : ¬ (k : Int) < k := by omega
      clear hlt hk
      go_wp2_with fail
      go_ret2
      exact ⟨.inr ⟨HE.out, g, rfl, HT.out.done, by have := HT.out.gt; omega⟩, HT.out.ob.bel⟩
/-- Watch, whatever it is asked -/
theorem watch_any (c : Cnt) (W : Wd.Wld) (a b from_ step n : Int) (p1 p2 : Option Addr) (k1 k2 : Nat) (w : World) (ht : Wd.Tabs w) (hW : Wd.WldIn w W p1 p2) :
    Calls Tryz.prog 11 #[cntVal c, wV W p1 p2 k1 k2, .int .i64 a, .int .i64 b, .int .i64 from_, .int .i64 step, .int .i64 n] w (WatRet c W a b from_ step n w) := by
  by_cases hc : cntB c = true
  · by_cases hs : step < 1
    · have e : watchErr c W a b from_ step n = 1 := by unfold watchErr; rw [if_pos hc, if_pos hs]
      exact (watch_no c W a b from_ step n 1 p1 p2 k1 k2 w (.inr ⟨hc, rfl, .inl hs⟩)).mono fun _ _ h => ⟨.inl (by rw [e]; exact ⟨by decide, h.1⟩), h.2⟩
    · by_cases hn : 0 ≤ n ∧ n ≤ 2000
      · obtain ⟨N, rfl⟩ : ∃ N : Nat, n = (N : Int) := ⟨n.toNat, by omega⟩
        exact watch_yes c W a b from_ step N p1 p2 k1 k2 w ht hW hc hs (by omega)
      · have e : watchErr c W a b from_ step n = 1 := by unfold watchErr; rw [if_pos hc, if_neg hs, if_neg hn]
        exact (watch_no c W a b from_ step n 1 p1 p2 k1 k2 w (.inr ⟨hc, rfl, .inr hn⟩)).mono fun _ _ h => ⟨.inl (by rw [e]; exact ⟨by decide, h.1⟩), h.2⟩
  · have e : watchErr c W a b from_ step n = 30 := by unfold watchErr; rw [if_neg hc]
    exact (watch_no c W a b from_ step n 30 p1 p2 k1 k2 w (.inl ⟨by simpa using hc, rfl⟩)).mono fun _ _ h => ⟨.inl (by rw [e]; exact ⟨by decide, h.1⟩), h.2⟩
end Go.Proofs.YtmfpnfdoidihcaaGreatDoor.Ct
namespace Go.Proofs.YtmfpnfdoidihcaaGreatDoor.Ct
open Go Go.RowKit Go.Shelf
attribute [local go_sem] Oper.semAt_some
/-- a box for a span, fresh -/
structure ZS (X : World) (b : Nat) : Prop where
  c0 : X.cell? ⟨b, 0, none⟩ = some (.int .i64 0)
  c1 : X.cell? ⟨b, 1, none⟩ = some (.int .i64 0)
  f0 : X.frozen? ⟨b, 0, none⟩ = false
  f1 : X.frozen? ⟨b, 1, none⟩ = false
theorem ZS.new (X : World) (t : TypeId) : ZS (X.alloc (.cells #[.int .i64 0, .int .i64 0] t)) X.heap.size := ⟨by simp, by simp, by simp, by simp⟩
theorem ZS.below {X Y : World} {b : Nat} (h : ZS X b) (hb : Below X.heap.size X Y) : ZS Y b := ⟨cell_below hb h.c0, cell_below hb h.c1, fz_below hb h.c0 h.f0, fz_below hb h.c1 h.f1⟩
theorem ZS.store {X : World} {b : Nat} (h : ZS X b) (x y : Int) : ∀ Y, Y = (X.setCell ⟨b, 0, none⟩ (.int .i64 x)).setCell ⟨b, 1, none⟩ (.int .i64 y) → SpBox Y b x y ∧ Only b X Y := by
  rintro _ rfl
  exact ⟨⟨other_cell (by decide) (World.cell?_setCell_same _ _ _ h.c0), World.cell?_setCell_same _ _ _ (other_cell (by decide) h.c1)⟩, ((Only.refl b X).set 0 _).set 1 _⟩
theorem sps_new (X : World) (a b c d e f g h : Int) (t : TypeId) : SpsAt (X.alloc (.cells #[.int .i64 a, .int .i64 b, .int .i64 c, .int .i64 d, .int .i64 e, .int .i64 f, .int .i64 g, .int .i64 h] t)) [(a, b), (c, d), (e, f), (g, h)] X.heap.size 0 := by
  intro i hi
  have h4 : i = 0 ∨ i = 1 ∨ i = 2 ∨ i = 3 := by simp at hi; omega
  rcases h4 with rfl | rfl | rfl | rfl <;> exact ⟨by simp [spAt], by simp [spAt]⟩
/-- the boxes of widen: a world, a span, the result -/
structure WidAt (w X : World) (W : Wd.Wld) (p1 p2 : Option Addr) (k1 k2 : Nat) (lo hi : Int) : Prop where
  c0 : X.cell? ⟨w.heap.size, 0, none⟩ = some (.int .u64 W.seed)
  c1 : X.cell? ⟨w.heap.size, 1, none⟩ = some (.slice p1 W.chs.length k1)
  c2 : X.cell? ⟨w.heap.size, 2, none⟩ = some (.slice p2 W.cls.length k2)
  s0 : X.cell? ⟨w.heap.size + 1, 0, none⟩ = some (.int .i64 lo)
  s1 : X.cell? ⟨w.heap.size + 1, 1, none⟩ = some (.int .i64 hi)
  r0 : X.cell? ⟨w.heap.size + 1 + 1, 0, none⟩ = some (.int .i64 0)
  r1 : X.cell? ⟨w.heap.size + 1 + 1, 1, none⟩ = some (.int .i64 0)
  g0 : X.frozen? ⟨w.heap.size + 1 + 1, 0, none⟩ = false
  g1 : X.frozen? ⟨w.heap.size + 1 + 1, 1, none⟩ = false
  bel : Below w.heap.size w X
theorem WidAt.below {w X Y : World} {W : Wd.Wld} {p1 p2 : Option Addr} {k1 k2 : Nat} {lo hi : Int} (h : WidAt w X W p1 p2 k1 k2 lo hi) (hb : Below X.heap.size X Y) : WidAt w Y W p1 p2 k1 k2 lo hi :=
  ⟨cell_below hb h.c0, cell_below hb h.c1, cell_below hb h.c2, cell_below hb h.s0, cell_below hb h.s1, cell_below hb h.r0, cell_below hb h.r1, fz_below hb h.r0 h.g0, fz_below hb h.r1 h.g1, h.bel.trans (hb.mono h.bel.size)⟩
theorem WidAt.new (w : World) (W : Wd.Wld) (p1 p2 : Option Addr) (k1 k2 : Nat) (lo hi : Int) : WidAt w (((w.alloc (.cells #[.int .u64 W.seed, .slice p1 W.chs.length k1, .slice p2 W.cls.length k2] 38)).alloc (.cells #[.int .i64 lo, .int .i64 hi] 31)).alloc (.cells #[.int .i64 0, .int .i64 0] 31)) W p1 p2 k1 k2 lo hi :=
  ⟨by simp [go_sem], by simp [go_sem], by simp [go_sem], by simp [go_sem], by simp [go_sem], by simp [go_sem], by simp [go_sem], by simp [go_sem], by simp [go_sem], below_alloc (below_alloc (below_alloc (Below.refl _ _) _) _) _⟩
theorem growthAs {W : Wd.Wld} {p1 p2 : Option Addr} {w : World} (ht : Wd.Tabs w) (hW : Wd.WldIn w W p1 p2) (k1 k2 : Nat) (k s t : Int) {x y e : Int} (h : Wd.growthE W k s t = ⟨x, y, e⟩) (X : World) (hb : Below w.heap.size w X) :
    Calls Tryz.prog 65 #[.agg #[.int .u64 W.seed, .slice p1 W.chs.length k1, .slice p2 W.cls.length k2], .int .i64 k, .int .i64 s, .int .i64 t] X fun en Y => en = .returned (.tuple #[.agg #[.int .i64 x, .int .i64 y], .int .i64 e]) ∧ Below X.heap.size X Y := by
  have := Wd.growth_any W k s t p1 p2 k1 k2 X (ht.below hb) (hW.below hb)
  rw [h] at this
  exact this
theorem growth_small {W : Wd.Wld} {k s t : Int} (h : (Wd.growthE W k s t).e = 0) : Wd.Allowed W k ∧ (-1000000000000000 ≤ (Wd.growthE W k s t).a ∧ (Wd.growthE W k s t).a ≤ 1000000000000000) ∧ (-1000000000000000 ≤ (Wd.growthE W k s t).b ∧ (Wd.growthE W k s t).b ≤ 1000000000000000) := by
  have hge : Wd.growErr W k s t = 0 := by
    by_cases hr : Wd.growErr W k s t = 0
    · exact hr
    · unfold Wd.growthE at h; rw [if_neg hr] at h; exact absurd h hr
  have hf : Wd.findErr W k [s, t] = 0 := by
    by_cases hr : Wd.findErr W k [s, t] = 0
    · exact hr
    · unfold Wd.growErr at hge; rw [if_neg hr] at hge; exact absurd hge hr
  have hst : s ≤ t := by
    unfold Wd.growErr at hge
    rw [if_pos hf] at hge
    by_cases q : t < s
    · rw [if_pos q] at hge; cases hge
    · omega
  have al := Wd.allowed_find hf
  obtain ⟨hs, ht⟩ := Wd.secs_of hf
  have f1 := Wd.fixed_bd al.cin al.rok s hs.1 hs.2
  have f2 := Wd.fixed_bd al.cin al.rok t ht.1 ht.2
  have f3 := Wd.stray_bd al.cin s t hs.1 hst ht.2
  unfold Wd.growthE
  rw [if_pos hge]
  dsimp only
  unfold Wd.strayedS
  exact ⟨al, by omega, by omega⟩
/-- how much a difference may be off by noise -/
def noiseS (W : Wd.Wld) (a b : Int) : Int := 2 * ((Wd.clkOf W a).white + (Wd.clkOf W b).white)
def widE (W : Wd.Wld) (a b x y lo hi : Int) : (Int × Int) × Int :=
  if (Wd.growthE W a x y).e = 0 then
    (if (Wd.growthE W b x y).e = 0 then
      ((max (lo + (Wd.growthE W a x y).a - (Wd.growthE W b x y).b - noiseS W a b) (-1000000000000000), min (hi + (Wd.growthE W a x y).b - (Wd.growthE W b x y).a + noiseS W a b) 1000000000000000), 0)
    else ((0, 0), (Wd.growthE W b x y).e))
  else ((0, 0), (Wd.growthE W a x y).e)
theorem bt5 {A B C : World} (h : Below A.heap.size A B) (k : Below B.heap.size B C) : Below A.heap.size A C := h.trans (k.mono h.size)
theorem cell_below_bel {w X : World} {b o : Nat} {v : Value} (hb : Below w.heap.size w X) (h : w.cell? ⟨b, o, none⟩ = some v) : X.cell? ⟨b, o, none⟩ = some v := cell_below hb h
set_option maxRecDepth 100000 in
set_option maxHeartbeats 4000000 in
theorem widen_no (W : Wd.Wld) (a b x y lo hi e : Int) (p1 p2 : Option Addr) (k1 k2 : Nat) (w : World) (ht : Wd.Tabs w) (hW : Wd.WldIn w W p1 p2) (h : e ≠ 0 ∧ ((Wd.growthE W a x y).e = e ∨ (Wd.growthE W a x y).e = 0 ∧ (Wd.growthE W b x y).e = e)) :
    Calls Tryz.prog 40 #[wV W p1 p2 k1 k2, .int .i64 a, .int .i64 b, .int .i64 x, .int .i64 y, .agg #[.int .i64 lo, .int .i64 hi]] w fun e' w' => e' = .returned (.tuple #[.agg #[.int .i64 0, .int .i64 0], .int .i64 e]) ∧ Below w.heap.size w w' := by
  have HW := Lib.hid (WidAt.new w W p1 p2 k1 k2 lo hi)
  obtain ⟨⟨g1, g2, ge⟩, hg⟩ : ∃ r, r = Wd.growthE W a x y := ⟨_, rfl⟩
  obtain ⟨⟨h1, h2, he⟩, hh⟩ : ∃ r, r = Wd.growthE W b x y := ⟨_, rfl⟩
  have HGA := Lib.hid (fun X hb => growthAs ht hW k1 k2 a x y hg.symm X hb)
  have HGB := Lib.hid (fun X hb => growthAs ht hW k1 k2 b x y hh.symm X hb)
  rw [← hg, ← hh] at h
  dsimp only at h
  unfold wV
  have hne : (e != 0) = true := by simpa using h.1
  clear ht hW hg hh
  rcases h.2 with rfl | ⟨rfl, rfl⟩
  · clear h
    go_enter Tryz.func40, Tryz.ntmps40
    go_upto_region 1 with fail
    generalize ((w.alloc (.cells #[.int .u64 W.seed, .slice p1 W.chs.length k1, .slice p2 W.cls.length k2] 38)).alloc (.cells #[.int .i64 lo, .int .i64 hi] 31)).alloc (.cells #[.int .i64 0, .int .i64 0] 31) = W0 at *
    obtain ⟨c0, c1, c2, -, -, r0, r1, q0, q1, -⟩ := HW.out
    have zc := cell_lt c0
    have zr := cell_lt r0
    go_upto_region 2 with (go_at_call 65; refine (HGA.out _ HW.out.bel).mono ?_; rintro e w1 ⟨rfl, hb1⟩; have HW1 := Lib.hid (HW.out.below hb1); clear hb1)
    clear c0 c1 c2 r0 r1 q0 q1 zc zr
    have HW2 := Lib.hid (HW1.out.below (below_alloc (Below.refl w1.heap.size w1) (.cells #[.int .i64 g1, .int .i64 g2] 31)))
    generalize w1.alloc (.cells #[.int .i64 g1, .int .i64 g2] 31) = W2 at *
    generalize w1.heap.size = b14 at *
    obtain ⟨-, -, -, -, -, r0, r1, q0, q1, -⟩ := HW2.out
    have zr := cell_lt r0
    go_wp2_with fail
    refine bodyPost_ret (v := .tuple #[.agg #[.int .i64 0, .int .i64 0], .int .i64 ge]) (by simp [results, Tryz.results40, go_sem, r0, r1]) rfl ?_
    exact ⟨rfl, (HW2.out.bel.setCell (by simp; omega) _).setCell (by simp; omega) _⟩
  · clear h
    go_enter Tryz.func40, Tryz.ntmps40
    go_upto_region 1 with fail
    generalize ((w.alloc (.cells #[.int .u64 W.seed, .slice p1 W.chs.length k1, .slice p2 W.cls.length k2] 38)).alloc (.cells #[.int .i64 lo, .int .i64 hi] 31)).alloc (.cells #[.int .i64 0, .int .i64 0] 31) = W0 at *
    obtain ⟨c0, c1, c2, -, -, -, -, -, -, -⟩ := HW.out
    have zc := cell_lt c0
    go_upto_region 2 with (go_at_call 65; refine (HGA.out _ HW.out.bel).mono ?_; rintro e w1 ⟨rfl, hb1⟩; have HW1 := Lib.hid (HW.out.below hb1); clear hb1)
    clear c0 c1 c2 zc
    have HW2 := Lib.hid (HW1.out.below (below_alloc (Below.refl w1.heap.size w1) (.cells #[.int .i64 g1, .int .i64 g2] 31)))
    generalize w1.alloc (.cells #[.int .i64 g1, .int .i64 g2] 31) = W2 at *
    generalize w1.heap.size = b14 at *
    obtain ⟨c0, c1, c2, -, -, -, -, -, -, -⟩ := HW2.out
    have zc := cell_lt c0
    go_upto_region 5 with (go_at_call 65; refine (HGB.out _ HW2.out.bel).mono ?_; rintro e w3 ⟨rfl, hb3⟩; have HW3 := Lib.hid (HW2.out.below hb3); clear hb3)
    clear c0 c1 c2 zc
    have HW4 := Lib.hid (HW3.out.below (below_alloc (Below.refl w3.heap.size w3) (.cells #[.int .i64 h1, .int .i64 h2] 31)))
    generalize w3.alloc (.cells #[.int .i64 h1, .int .i64 h2] 31) = W4 at *
    generalize w3.heap.size = b16 at *
    obtain ⟨-, -, -, -, -, r0, r1, q0, q1, -⟩ := HW4.out
    have zr := cell_lt r0
    go_wp2_with fail
    refine bodyPost_ret (v := .tuple #[.agg #[.int .i64 0, .int .i64 0], .int .i64 he]) (by simp [results, Tryz.results40, go_sem, r0, r1]) rfl ?_
    exact ⟨rfl, (HW4.out.bel.setCell (by simp; omega) _).setCell (by simp; omega) _⟩
set_option maxRecDepth 100000 in
set_option maxHeartbeats 8000000 in
theorem widen_ok (W : Wd.Wld) (A B : Nat) (x y lo hi : Int) (p1 p2 : Option Addr) (k1 k2 : Nat) (w : World) (ht : Wd.Tabs w) (hW : Wd.WldIn w W p1 p2) (ha : (Wd.growthE W A x y).e = 0) (hb : (Wd.growthE W B x y).e = 0) (hlo : -1000000000000000 ≤ lo ∧ lo ≤ 1000000000000000) (hhi : -1000000000000000 ≤ hi ∧ hi ≤ 1000000000000000) :
    Calls Tryz.prog 40 #[wV W p1 p2 k1 k2, .int .i64 (A : Int), .int .i64 (B : Int), .int .i64 x, .int .i64 y, .agg #[.int .i64 lo, .int .i64 hi]] w fun e' w' => e' = .returned (.tuple #[.agg #[.int .i64 (max (lo + (Wd.growthE W A x y).a - (Wd.growthE W B x y).b - noiseS W A B) (-1000000000000000)), .int .i64 (min (hi + (Wd.growthE W A x y).b - (Wd.growthE W B x y).a + noiseS W A B) 1000000000000000)], .int .i64 0]) ∧ Below w.heap.size w w' := by
  have HW := Lib.hid (WidAt.new w W p1 p2 k1 k2 lo hi)
  obtain ⟨alA, sA1, sA2⟩ := growth_small ha
  obtain ⟨alB, sB1, sB2⟩ := growth_small hb
  obtain ⟨⟨g1, g2, ge⟩, hg⟩ : ∃ r, r = Wd.growthE W A x y := ⟨_, rfl⟩
  obtain ⟨⟨h1, h2, he⟩, hh⟩ : ∃ r, r = Wd.growthE W B x y := ⟨_, rfl⟩
  have HGA := Lib.hid (fun X hb => growthAs ht hW k1 k2 A x y hg.symm X hb)
  have HGB := Lib.hid (fun X hb => growthAs ht hW k1 k2 B x y hh.symm X hb)
  rw [← hg] at ha sA1 sA2
  rw [← hh] at hb sB1 sB2
  rw [← hg, ← hh]
  dsimp only at ha hb sA1 sA2 sB1 sB2 ⊢
  subst ha hb
  have hA := alA.hk
  have hB := alB.hk
  rw [Int.toNat_natCast] at hA hB
  have hcA := alA.hc
  have hcB := alB.hc
  rw [Int.toNat_natCast] at hcA hcB
  have wA := alA.cin.white
  have wB := alB.cin.white
  obtain ⟨cb, co, rfl, hcl⟩ := hW.2.2.2.resolve_left (by omega)
  have hAg : W.cls[A] = Wd.clkOf W A := by rw [List.getElem?_eq_getElem hA] at hcA; exact Option.some.inj hcA
  have hBg : W.cls[B] = Wd.clkOf W B := by rw [List.getElem?_eq_getElem hB] at hcB; exact Option.some.inj hcB
  have xa := (hcl A hA).1.2.2.2.2.1
  have xb := (hcl B hB).1.2.2.2.2.1
  rw [hAg] at xa
  rw [hBg] at xb
  have XA := Lib.hid xa
  have XB := Lib.hid xb
  obtain ⟨nz, hnz⟩ : ∃ nz, nz = noiseS W A B := ⟨_, rfl⟩
  rw [← hnz]
  unfold noiseS at hnz
  generalize (Wd.clkOf W A).white = wa at *
  generalize (Wd.clkOf W B).white = wb at *
  have k3 : IntKind.i64.wrap (wa + wb) = wa + wb := IntWalk.i64_in _ (by omega)
  have k4 : IntKind.i64.wrap (2 * (wa + wb)) = nz := by rw [hnz]; exact IntWalk.i64_in _ (by omega)
  have k5 : IntKind.i64.wrap (-nz) = -nz := IntWalk.i64_in _ (by omega)
  have HOP := Lib.hid (fun X => opposite_any h1 h2 X (by omega) (by omega))
  have hsm : SmallSp [(lo, hi), (g1, g2), (-h2, -h1), (-nz, nz)] := by
    intro i
    have h4 : i = 0 ∨ i = 1 ∨ i = 2 ∨ i = 3 ∨ 4 ≤ i := by omega
    rcases h4 with rfl | rfl | rfl | rfl | h4
    · simp [spAt]; omega
    · simp [spAt]; omega
    · simp [spAt]; omega
    · simp [spAt]; omega
    · have : spAt [(lo, hi), (g1, g2), (-h2, -h1), (-nz, nz)] i = (0, 0) := by unfold spAt; rw [List.getElem?_eq_none (by simpa using h4)]; rfl
      rw [this]; simp
  obtain ⟨sa, hsa⟩ : ∃ sa, sa = lo + g1 - h2 - nz := ⟨_, rfl⟩
  obtain ⟨sb, hsb⟩ : ∃ sb, sb = hi + g2 - h1 + nz := ⟨_, rfl⟩
  have HSM : Hid (∀ (bv : Nat) (X : World), SpsAt X [(lo, hi), (g1, g2), (-h2, -h1), (-nz, nz)] bv 0 → Calls Tryz.prog 66 #[.slice (some ⟨bv, 0, none⟩) 4 4] X fun e Y => e = .returned (.agg #[.int .i64 sa, .int .i64 sb]) ∧ Below X.heap.size X Y) := Lib.hid fun bv X hX => by
    have := sum_any [(lo, hi), (g1, g2), (-h2, -h1), (-nz, nz)] bv 0 4 X (by simp) hsm hX
    have eA : sumA [(lo, hi), (g1, g2), (-h2, -h1), (-nz, nz)] 4 = sa := by rw [hsa]; simp [sumA, spAt]; omega
    have eB : sumB [(lo, hi), (g1, g2), (-h2, -h1), (-nz, nz)] 4 = sb := by rw [hsb]; simp [sumB, spAt]; omega
    simp only [List.length_cons, List.length_nil] at this
    rw [eA, eB] at this
    exact this
  rw [← hsa, ← hsb]
  have HCM := Lib.hid (fun X => common_any sa sb (-1000000000000000) 1000000000000000 X)
  obtain ⟨ra, hra⟩ : ∃ ra, ra = max sa (-1000000000000000) := ⟨_, rfl⟩
  obtain ⟨rb, hrb⟩ : ∃ rb, rb = min sb 1000000000000000 := ⟨_, rfl⟩
  rw [← hra, ← hrb] at HCM ⊢
  have hAi : (A : Int) < W.cls.length := by omega
  have hBi : (B : Int) < W.cls.length := by omega
  unfold wV
  clear ht hW hg hh alA alB sA1 sA2 sB1 sB2 hlo hhi wA wB hcA hcB hAg hBg xa xb hcl hnz hsm hsa hsb hra hrb hA hB
  go_enter Tryz.func40, Tryz.ntmps40
  go_upto_region 1 with fail
  generalize ((w.alloc (.cells #[.int .u64 W.seed, .slice p1 W.chs.length k1, .slice (some ⟨cb, co, none⟩) W.cls.length k2] 38)).alloc (.cells #[.int .i64 lo, .int .i64 hi] 31)).alloc (.cells #[.int .i64 0, .int .i64 0] 31) = W0 at *
  obtain ⟨c0, c1, c2, -, -, -, -, -, -, -⟩ := HW.out
  have zc := cell_lt c0
  go_upto_region 2 with (go_at_call 65; refine (HGA.out _ HW.out.bel).mono ?_; rintro e w1 ⟨rfl, hb1⟩; have HW1 := Lib.hid (HW.out.below hb1); clear hb1)
  clear c0 c1 c2 zc
  have hbx := below_alloc (Below.refl w1.heap.size w1) (.cells #[.int .i64 g1, .int .i64 g2] 31)
  have HW2 := Lib.hid (HW1.out.below hbx)
  have HS2 := Lib.hid (SpBox.new w1 g1 g2 31)
  clear hbx
  generalize w1.alloc (.cells #[.int .i64 g1, .int .i64 g2] 31) = W2 at *
  generalize w1.heap.size = b14 at *
  obtain ⟨c0, c1, c2, -, -, -, -, -, -, -⟩ := HW2.out
  have zc := cell_lt c0
  go_upto_region 5 with (go_at_call 65; refine (HGB.out _ HW2.out.bel).mono ?_; rintro e w3 ⟨rfl, hb3⟩; have HW3 := Lib.hid (HW2.out.below hb3); have HS3 := Lib.hid (HS2.out.below hb3); clear hb3)
  clear c0 c1 c2 zc
  have hbx := below_alloc (Below.refl w3.heap.size w3) (.cells #[.int .i64 h1, .int .i64 h2] 31)
  have HW4 := Lib.hid (HW3.out.below hbx)
  have HS4 := Lib.hid (HS3.out.below hbx)
  have HU4 := Lib.hid (SpBox.new w3 h1 h2 31)
  clear hbx
  generalize w3.alloc (.cells #[.int .i64 h1, .int .i64 h2] 31) = W4 at *
  generalize w3.heap.size = b16 at *
  go_upto_region 7 with fail
  obtain ⟨c0, c1, c2, -, -, -, -, -, -, -⟩ := HW4.out
  have zc := cell_lt c0
  have xa := cell_below_bel HW4.out.bel XA.out
  have xb := cell_below_bel HW4.out.bel XB.out
  have zx := cell_lt xa
  go_quiet (fail)
  have hbq := below_drewN (Below.refl W4.heap.size W4) nq
  have HW5 := Lib.hid (HW4.out.below hbq)
  have HS5 := Lib.hid (HS4.out.below hbq)
  have HU5 := Lib.hid (HU4.out.below hbq)
  clear c0 c1 c2 zc xa xb zx hbq k3 k4 HW4 HS4 HU4
  generalize W4.drewN nq = W5 at *
  go_upto_region 8 with fail
  go_cut [18] from 57 to 67 (fun s18 wx => ∃ b18, s18 = .pointer (some ⟨b18, 0, none⟩) ∧ Hid (SpBox wx b18 sa sb) ∧ Hid (WidAt w wx W p1 (some ⟨cb, co, none⟩) k1 k2 lo hi))
  case first =>
    refine wp_region_held_drew (S := fun w' => Below W5.heap.size W5 w') (by kernel_rfl) (Below.drew (Below.refl _ _)) (fun hS0 => ?_)
    (try dsimp only at hS0)
    generalize W5.drew = X0 at *
    refine wpAnyH_take (i := 0) (v := ?_) rfl (by kernel_rfl) (by kernel_rfl) (by kernel_rfl) (fun _ _ _ h => h) (Or.inl ⟨by rfl, ?_⟩) (by assumption) ?_
    rotate_left
    · intro X hSX; (try dsimp only at hSX); obtain ⟨-, -, -, s0, s1, -, -, -, -, -⟩ := HW5.out.below hSX; have zs := cell_lt s0; go_simp; try with_reducible rfl
    simp only [Act.put, List.getElem_toArray, List.getElem_cons_zero, List.setIfInBounds_toArray, List.set_cons_zero, List.set_cons_succ]
    refine wpAnyH_take (i := 1) (v := ?_) rfl (by kernel_rfl) (by kernel_rfl) (by kernel_rfl) (fun _ _ _ h => h) (Or.inl ⟨by rfl, ?_⟩) (by assumption) ?_
    rotate_left
    · intro X hSX; (try dsimp only at hSX); obtain ⟨s0, s1⟩ := HS5.out.below hSX; have zs := cell_lt s0; go_simp; try with_reducible rfl
    simp only [Act.put, List.getElem_toArray, List.getElem_cons_succ, List.getElem_cons_zero, List.setIfInBounds_toArray, List.set_cons_zero, List.set_cons_succ]
    refine wpAnyH_take (i := 2) (v := ?_) rfl (by kernel_rfl) (by kernel_rfl) (by kernel_rfl) (fun _ _ _ h => h) (Or.inl ⟨by rfl, ?_⟩) (by assumption) ?_
    rotate_left
    · intro X hSX; (try dsimp only at hSX); obtain ⟨s0, s1⟩ := HU5.out.below hSX; have zs := cell_lt s0; go_simp; try with_reducible rfl
    simp only [Act.put, List.getElem_toArray, List.getElem_cons_succ, List.getElem_cons_zero, List.setIfInBounds_toArray, List.set_cons_zero, List.set_cons_succ]
    refine wpAnyH_take (i := 4) (v := ?_) rfl (by kernel_rfl) (by kernel_rfl) (by kernel_rfl) (fun _ _ _ h => h) (Or.inl ⟨by rfl, ?_⟩) (by assumption) ?_
    rotate_left
    · intro X hSX; (try dsimp only at hSX); go_simp; try with_reducible rfl
    simp only [Act.put, List.getElem_toArray, List.getElem_cons_succ, List.getElem_cons_zero, List.setIfInBounds_toArray, List.set_cons_zero, List.set_cons_succ]
    refine wpAnyH_take (i := 5) (v := ?_) rfl (by kernel_rfl) (by kernel_rfl) (by kernel_rfl) (fun _ _ _ h => h) (Or.inl ⟨by rfl, ?_⟩) (by assumption) ?_
    rotate_left
    · intro X hSX; (try dsimp only at hSX); go_simp; try with_reducible rfl
    simp only [Act.put, List.getElem_toArray, List.getElem_cons_succ, List.getElem_cons_zero, List.setIfInBounds_toArray, List.set_cons_zero, List.set_cons_succ]
    refine wpAnyH_take (i := 6) (v := ?_) rfl (by kernel_rfl) (by kernel_rfl) (by kernel_rfl) (fun _ _ _ h => h) (Or.inl ⟨by rfl, ?_⟩) (by assumption) ?_
    rotate_left
    · intro X hSX; (try dsimp only at hSX); go_simp; try with_reducible rfl
    simp only [Act.put, List.getElem_toArray, List.getElem_cons_succ, List.getElem_cons_zero, List.setIfInBounds_toArray, List.set_cons_zero, List.set_cons_succ]
    refine wpAnyH_take (i := 7) (v := ?_) rfl (by kernel_rfl) (by kernel_rfl) (by kernel_rfl) (fun _ _ _ h => h) (Or.inl ⟨by rfl, ?_⟩) (by assumption) ?_
    rotate_left
    · intro X hSX; (try dsimp only at hSX); go_simp; try with_reducible rfl
    simp only [Act.put, List.getElem_toArray, List.getElem_cons_succ, List.getElem_cons_zero, List.setIfInBounds_toArray, List.set_cons_zero, List.set_cons_succ]
    refine wpAnyH_ready (rs := [3, 10]) (by kernel_rfl) (by simp) (AllReadyH.cons rfl (fun K hK => ?_) (AllReadyH.cons rfl (fun K hK => ?_) AllReadyH.nil))
    · go_simp
      refine (HOP.out _).mono ?_
      rintro e X1 ⟨rfl, hby⟩
      go_wp2_with fail
      have hS1 := bt5 hS0 hby
      refine hK.out _ _ hS1 (fun _ => ?_)
      clear hK K hby
      refine wpAnyH_ready (rs := [8, 10]) (by kernel_rfl) (by simp) (AllReadyH.cons rfl (fun K hK => ?_) (AllReadyH.cons rfl (fun K hK => ?_) AllReadyH.nil))
      · go_simp
        have hS2 := below_alloc hS1 (.cells #[.int .i64 lo, .int .i64 hi, .int .i64 g1, .int .i64 g2, .int .i64 (-h2), .int .i64 (-h1), .int .i64 (-nz), .int .i64 nz] 31)
        have HV := Lib.hid (sps_new X1 lo hi g1 g2 (-h2) (-h1) (-nz) nz 31)
        refine hK.out _ _ hS2 (fun _ => ?_)
        clear hK K
        generalize X1.alloc (.cells #[.int .i64 lo, .int .i64 hi, .int .i64 g1, .int .i64 g2, .int .i64 (-h2), .int .i64 (-h1), .int .i64 (-nz), .int .i64 nz] 31) = X2 at *
        generalize X1.heap.size = bv at *
        refine wpAnyH_ready (rs := [9, 10]) (by kernel_rfl) (by simp) (AllReadyH.cons rfl (fun K hK => ?_) (AllReadyH.cons rfl (fun K hK => ?_) AllReadyH.nil))
        · go_simp
          refine (HSM.out bv X2 HV.out).mono ?_
          rintro e X3 ⟨rfl, hby⟩
          go_wp2_with fail
          have hS3 := bt5 hS2 hby
          refine hK.out _ _ hS3 (fun _ => ?_)
          clear hK K hby HV
          refine wpAnyH_ready (rs := [10]) (by kernel_rfl) (by simp) (AllReadyH.cons rfl (fun K hK => ?_) AllReadyH.nil)
          go_simp
          have hS4 := below_alloc hS3 (.cells #[.int .i64 0, .int .i64 0] 31)
          have HZ := Lib.hid (ZS.new X3 31)
          have hg18 : Hid (W5.heap.size ≤ X3.heap.size) := Lib.hid hS3.size
          refine hK.out _ _ hS4 (fun _ => ?_)
          clear hK K
          generalize X3.alloc (.cells #[.int .i64 0, .int .i64 0] 31) = X4 at *
          generalize X3.heap.size = b18 at *
          refine wpAnyH_ready (rs := [11]) (by kernel_rfl) (by simp) (AllReadyH.cons rfl (fun K hK => ?_) AllReadyH.nil)
          obtain ⟨x0, x1, f0, f1⟩ := HZ.out
          have zx := cell_lt x0
          go_simp
          clear x0 x1 f0 f1 zx
          obtain ⟨hcb, honly⟩ := HZ.out.store sa sb _ rfl
          have HZn := Lib.hid hcb
          have hS5 := honly.below hS4 hg18.out
          refine hK.out _ _ hS5 (fun _ => ?_)
          clear hK K hcb honly HZ
          have HZ := HZn
          clear HZn
          generalize (X4.setCell ⟨b18, 0, none⟩ (.int .i64 sa)).setCell ⟨b18, 1, none⟩ (.int .i64 sb) = X5 at *
          refine wpAnyH_done (by kernel_rfl) ?_ _
          go_wp2_with fail
          go_meet
          exact ⟨b18, rfl, HZ, Lib.hid (HW5.out.below hS5)⟩
        · go_simp
          have hS3 := below_alloc hS2 (.cells #[.int .i64 0, .int .i64 0] 31)
          have HZ := Lib.hid (ZS.new X2 31)
          have hg18 : Hid (W5.heap.size ≤ X2.heap.size) := Lib.hid hS2.size
          have HVn := Lib.hid (HV.out.below (below_alloc (Below.refl _ _) (.cells #[.int .i64 0, .int .i64 0] 31)))
          refine hK.out _ _ hS3 (fun _ => ?_)
          clear hK K
          clear HV
          have HV := HVn
          clear HVn
          generalize X2.alloc (.cells #[.int .i64 0, .int .i64 0] 31) = X3 at *
          generalize X2.heap.size = b18 at *
          refine wpAnyH_ready (rs := [9]) (by kernel_rfl) (by simp) (AllReadyH.cons rfl (fun K hK => ?_) AllReadyH.nil)
          go_simp
          refine (HSM.out bv X3 HV.out).mono ?_
          rintro e X4 ⟨rfl, hby⟩
          go_wp2_with fail
          have hS4 := bt5 hS3 hby
          have HZn := Lib.hid (HZ.out.below hby)
          refine hK.out _ _ hS4 (fun _ => ?_)
          clear hK K hby HV
          clear HZ
          have HZ := HZn
          clear HZn
          refine wpAnyH_ready (rs := [11]) (by kernel_rfl) (by simp) (AllReadyH.cons rfl (fun K hK => ?_) AllReadyH.nil)
          obtain ⟨x0, x1, f0, f1⟩ := HZ.out
          have zx := cell_lt x0
          go_simp
          clear x0 x1 f0 f1 zx
          obtain ⟨hcb, honly⟩ := HZ.out.store sa sb _ rfl
          have HZn := Lib.hid hcb
          have hS5 := honly.below hS4 hg18.out
          refine hK.out _ _ hS5 (fun _ => ?_)
          clear hK K hcb honly HZ
          have HZ := HZn
          clear HZn
          generalize (X4.setCell ⟨b18, 0, none⟩ (.int .i64 sa)).setCell ⟨b18, 1, none⟩ (.int .i64 sb) = X5 at *
          refine wpAnyH_done (by kernel_rfl) ?_ _
          go_wp2_with fail
          go_meet
          exact ⟨b18, rfl, HZ, Lib.hid (HW5.out.below hS5)⟩
      · go_simp
        have hS2 := below_alloc hS1 (.cells #[.int .i64 0, .int .i64 0] 31)
        have HZ := Lib.hid (ZS.new X1 31)
        have hg18 : Hid (W5.heap.size ≤ X1.heap.size) := Lib.hid hS1.size
        refine hK.out _ _ hS2 (fun _ => ?_)
        clear hK K
        generalize X1.alloc (.cells #[.int .i64 0, .int .i64 0] 31) = X2 at *
        generalize X1.heap.size = b18 at *
        refine wpAnyH_ready (rs := [8]) (by kernel_rfl) (by simp) (AllReadyH.cons rfl (fun K hK => ?_) AllReadyH.nil)
        go_simp
        have hS3 := below_alloc hS2 (.cells #[.int .i64 lo, .int .i64 hi, .int .i64 g1, .int .i64 g2, .int .i64 (-h2), .int .i64 (-h1), .int .i64 (-nz), .int .i64 nz] 31)
        have HV := Lib.hid (sps_new X2 lo hi g1 g2 (-h2) (-h1) (-nz) nz 31)
        have HZn := Lib.hid (HZ.out.below (below_alloc (Below.refl _ _) (.cells #[.int .i64 lo, .int .i64 hi, .int .i64 g1, .int .i64 g2, .int .i64 (-h2), .int .i64 (-h1), .int .i64 (-nz), .int .i64 nz] 31)))
        refine hK.out _ _ hS3 (fun _ => ?_)
        clear hK K
        clear HZ
        have HZ := HZn
        clear HZn
        generalize X2.alloc (.cells #[.int .i64 lo, .int .i64 hi, .int .i64 g1, .int .i64 g2, .int .i64 (-h2), .int .i64 (-h1), .int .i64 (-nz), .int .i64 nz] 31) = X3 at *
        generalize X2.heap.size = bv at *
        refine wpAnyH_ready (rs := [9]) (by kernel_rfl) (by simp) (AllReadyH.cons rfl (fun K hK => ?_) AllReadyH.nil)
        go_simp
        refine (HSM.out bv X3 HV.out).mono ?_
        rintro e X4 ⟨rfl, hby⟩
        go_wp2_with fail
        have hS4 := bt5 hS3 hby
        have HZn := Lib.hid (HZ.out.below hby)
        refine hK.out _ _ hS4 (fun _ => ?_)
        clear hK K hby HV
        clear HZ
        have HZ := HZn
        clear HZn
        refine wpAnyH_ready (rs := [11]) (by kernel_rfl) (by simp) (AllReadyH.cons rfl (fun K hK => ?_) AllReadyH.nil)
        obtain ⟨x0, x1, f0, f1⟩ := HZ.out
        have zx := cell_lt x0
        go_simp
        clear x0 x1 f0 f1 zx
        obtain ⟨hcb, honly⟩ := HZ.out.store sa sb _ rfl
        have HZn := Lib.hid hcb
        have hS5 := honly.below hS4 hg18.out
        refine hK.out _ _ hS5 (fun _ => ?_)
        clear hK K hcb honly HZ
        have HZ := HZn
        clear HZn
        generalize (X4.setCell ⟨b18, 0, none⟩ (.int .i64 sa)).setCell ⟨b18, 1, none⟩ (.int .i64 sb) = X5 at *
        refine wpAnyH_done (by kernel_rfl) ?_ _
        go_wp2_with fail
        go_meet
        exact ⟨b18, rfl, HZ, Lib.hid (HW5.out.below hS5)⟩
    · go_simp
      have hS1 := below_alloc hS0 (.cells #[.int .i64 0, .int .i64 0] 31)
      have HZ := Lib.hid (ZS.new X0 31)
      have hg18 : Hid (W5.heap.size ≤ X0.heap.size) := Lib.hid hS0.size
      refine hK.out _ _ hS1 (fun _ => ?_)
      clear hK K
      generalize X0.alloc (.cells #[.int .i64 0, .int .i64 0] 31) = X1 at *
      generalize X0.heap.size = b18 at *
      refine wpAnyH_ready (rs := [3]) (by kernel_rfl) (by simp) (AllReadyH.cons rfl (fun K hK => ?_) AllReadyH.nil)
      go_simp
      refine (HOP.out _).mono ?_
      rintro e X2 ⟨rfl, hby⟩
      go_wp2_with fail
      have hS2 := bt5 hS1 hby
      have HZn := Lib.hid (HZ.out.below hby)
      refine hK.out _ _ hS2 (fun _ => ?_)
      clear hK K hby
      clear HZ
      have HZ := HZn
      clear HZn
      refine wpAnyH_ready (rs := [8]) (by kernel_rfl) (by simp) (AllReadyH.cons rfl (fun K hK => ?_) AllReadyH.nil)
      go_simp
      have hS3 := below_alloc hS2 (.cells #[.int .i64 lo, .int .i64 hi, .int .i64 g1, .int .i64 g2, .int .i64 (-h2), .int .i64 (-h1), .int .i64 (-nz), .int .i64 nz] 31)
      have HV := Lib.hid (sps_new X2 lo hi g1 g2 (-h2) (-h1) (-nz) nz 31)
      have HZn := Lib.hid (HZ.out.below (below_alloc (Below.refl _ _) (.cells #[.int .i64 lo, .int .i64 hi, .int .i64 g1, .int .i64 g2, .int .i64 (-h2), .int .i64 (-h1), .int .i64 (-nz), .int .i64 nz] 31)))
      refine hK.out _ _ hS3 (fun _ => ?_)
      clear hK K
      clear HZ
      have HZ := HZn
      clear HZn
      generalize X2.alloc (.cells #[.int .i64 lo, .int .i64 hi, .int .i64 g1, .int .i64 g2, .int .i64 (-h2), .int .i64 (-h1), .int .i64 (-nz), .int .i64 nz] 31) = X3 at *
      generalize X2.heap.size = bv at *
      refine wpAnyH_ready (rs := [9]) (by kernel_rfl) (by simp) (AllReadyH.cons rfl (fun K hK => ?_) AllReadyH.nil)
      go_simp
      refine (HSM.out bv X3 HV.out).mono ?_
      rintro e X4 ⟨rfl, hby⟩
      go_wp2_with fail
      have hS4 := bt5 hS3 hby
      have HZn := Lib.hid (HZ.out.below hby)
      refine hK.out _ _ hS4 (fun _ => ?_)
      clear hK K hby HV
      clear HZ
      have HZ := HZn
      clear HZn
      refine wpAnyH_ready (rs := [11]) (by kernel_rfl) (by simp) (AllReadyH.cons rfl (fun K hK => ?_) AllReadyH.nil)
      obtain ⟨x0, x1, f0, f1⟩ := HZ.out
      have zx := cell_lt x0
      go_simp
      clear x0 x1 f0 f1 zx
      obtain ⟨hcb, honly⟩ := HZ.out.store sa sb _ rfl
      have HZn := Lib.hid hcb
      have hS5 := honly.below hS4 hg18.out
      refine hK.out _ _ hS5 (fun _ => ?_)
      clear hK K hcb honly HZ
      have HZ := HZn
      clear HZn
      generalize (X4.setCell ⟨b18, 0, none⟩ (.int .i64 sa)).setCell ⟨b18, 1, none⟩ (.int .i64 sb) = X5 at *
      refine wpAnyH_done (by kernel_rfl) ?_ _
      go_wp2_with fail
      go_meet
      exact ⟨b18, rfl, HZ, Lib.hid (HW5.out.below hS5)⟩

  case rest =>
    obtain ⟨b18, rfl, HZ, HW6⟩ := hcut
    obtain ⟨s0, s1⟩ := HZ.out
    have zs := cell_lt s0
    go_upto_region 9 with fail
    go_wp2_with (go_at_call 68; refine (HCM.out _).mono ?_; rintro e w7 ⟨rfl, hb7⟩; have HW7 := Lib.hid (HW6.out.below hb7); clear hb7; obtain ⟨-, -, -, -, -, r0, r1, q0, q1, -⟩ := HW7.out; have zr := cell_lt r0)
    refine bodyPost_ret (v := .tuple #[.agg #[.int .i64 ra, .int .i64 rb], .int .i64 0]) (by simp [results, Tryz.results40, go_sem, r0, r1]) rfl ?_
    exact ⟨rfl, (HW7.out.bel.setCell (by simp; omega) _).setCell (by simp; omega) _⟩
end Go.Proofs.YtmfpnfdoidihcaaGreatDoor.Ct
