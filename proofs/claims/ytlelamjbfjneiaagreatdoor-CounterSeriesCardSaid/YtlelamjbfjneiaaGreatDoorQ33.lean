/- Contracts of layer 2: Watch. · Layer 2: a list of whole numbers as an argument of a law. · Layer 2: two lists of whole numbers that grow side by side, in blocks of their own. · Contracts of layer 2: Follow. -/
import Derived.Test.YtlelamjbfjneiaaGreatDoorQ30
import Derived.Test.YtlelamjbfjneiaaGreatDoorQ07
import Derived.Lib.SmallJoins
import Derived.Deep.Slices
import Derived.OpenShut
import Derived.Test.YtlelamjbfjneiaaGreatDoorQ14
import Derived.Maps.AppendAt
import Derived.Test.YtlelamjbfjneiaaGreatDoorQ31
import Derived.Test.YtlelamjbfjneiaaGreatDoorQ32
import Derived.Test.YtlelamjbfjneiaaGreatDoorQ17
namespace Go.Proofs.YtlelamjbfjneiaaGreatDoor.Ct
open Go Go.RowKit Go.Shelf
attribute [local go_sem] Oper.semAt_some
/-- the second of measurement i -/
def watS (from_ st : Int) (i : Nat) : Int := IntKind.i64.wrap (from_ + (i : Int) * st)
/-- the first error of some -/
def firstE (f : Nat → Int) : Nat → Int
  | 0 => 0
  | k + 1 => if firstE f k = 0 then f k else firstE f k
theorem firstE_zero {f : Nat → Int} : ∀ {k : Nat}, firstE f k = 0 → ∀ i, i < k → f i = 0
  | 0, _, i, hi => absurd hi (Nat.not_lt_zero i)
  | k + 1, h, i, hi => by
    unfold firstE at h
    by_cases h0 : firstE f k = 0
    · rw [if_pos h0] at h
      by_cases e : i = k
      · subst e; exact h
      · exact firstE_zero h0 i (by omega)
    · rw [if_neg h0] at h; exact absurd h h0
theorem firstE_more {f : Nat → Int} {k : Nat} (h : firstE f k ≠ 0) : ∀ n, k ≤ n → firstE f n = firstE f k
  | 0, hn => by rw [show k = 0 by omega]
  | n + 1, hn => by
    by_cases e : k = n + 1
    · rw [e]
    · have := firstE_more h n (by omega)
      show (if firstE f n = 0 then f n else firstE f n) = firstE f k
      rw [this, if_neg h]
def stW (step : Int) : Int := if 1000001 < step then 1000001 else step
def watchErr (c : Cnt) (W : Wd.Wld) (a b from_ step n : Int) : Int :=
  if cntB c = true then (if step < 1 then 1 else if 0 ≤ n ∧ n ≤ 2000 then firstE (fun i => (obsE c W a b (watS from_ (stW step) i)).2) n.toNat else 1) else 30
def watchM (c : Cnt) (W : Wd.Wld) (a b from_ step : Int) (i : Nat) : Int := (obsE c W a b (watS from_ (stW step) i)).1
/-- the boxes of Watch, and what is shown so far -/
structure WatAt (w X : World) (c : Cnt) (W : Wd.Wld) (p1 p2 : Option Addr) (k1 k2 : Nat) (m : Nat → Int) (n g k : Nat) : Prop where
  ob : ObsAt w X c W p1 p2 k1 k2
  done : FnAt X m k g 0
  cells : ∀ i, i < n → (∃ x : Int, X.cell? ⟨g, i, none⟩ = some (.int .i64 x)) ∧ X.frozen? ⟨g, i, none⟩ = false
  gt : w.heap.size + 1 < g
theorem WatAt.below {w X Y : World} {c : Cnt} {W : Wd.Wld} {p1 p2 : Option Addr} {k1 k2 : Nat} {m : Nat → Int} {n g k : Nat} (h : WatAt w X c W p1 p2 k1 k2 m n g k) (hb : Below X.heap.size X Y) : WatAt w Y c W p1 p2 k1 k2 m n g k :=
  ⟨h.ob.below hb, h.done.below hb, fun i hi => by
    obtain ⟨⟨x, hx⟩, hf⟩ := h.cells i hi
    exact ⟨⟨x, cell_below hb hx⟩, (hb.frozen (p := ⟨g, i, none⟩) (cell_lt hx)).trans hf⟩, h.gt⟩
theorem WatAt.put {w X : World} {c : Cnt} {W : Wd.Wld} {p1 p2 : Option Addr} {k1 k2 : Nat} {m : Nat → Int} {n g k : Nat} (h : WatAt w X c W p1 p2 k1 k2 m n g k) (hk : k < n) : WatAt w (X.setCell ⟨g, k, none⟩ (.int .i64 (m k))) c W p1 p2 k1 k2 m n g (k + 1) := by
  have hg := h.gt
  have far : ∀ {b o : Nat} {v : Value}, b ≠ g → X.cell? ⟨b, o, none⟩ = some v → (X.setCell ⟨g, k, none⟩ (.int .i64 (m k))).cell? ⟨b, o, none⟩ = some v := fun hne hv => by
    rw [World.cell?_setCell_far _ _ _ _ (fun e => hne e.symm)]; exact hv
  have oth : ∀ {o : Nat} {v : Value}, o ≠ k → X.cell? ⟨g, o, none⟩ = some v → (X.setCell ⟨g, k, none⟩ (.int .i64 (m k))).cell? ⟨g, o, none⟩ = some v := fun hne hv => by
    rw [World.cell?_setCell_other _ _ _ _ (by simp)]; exact hv
  obtain ⟨⟨xk, hxk⟩, -⟩ := h.cells k hk
  have same : (X.setCell ⟨g, k, none⟩ (.int .i64 (m k))).cell? ⟨g, k, none⟩ = some (.int .i64 (m k)) := World.cell?_setCell_same _ _ _ hxk
  have n1 : w.heap.size ≠ g := by omega
  have n2 : w.heap.size + 1 ≠ g := by omega
  have hc := h.ob.cb
  refine ⟨⟨⟨far n1 hc.c0, far n1 hc.c1, far n1 hc.c2, far n1 hc.c3, far n1 hc.c4, far n1 hc.c5, far n1 hc.c6⟩, far n2 h.ob.c0, far n2 h.ob.c1, far n2 h.ob.c2, h.ob.bel.setCell (p := ⟨g, k, none⟩) (by show w.heap.size ≤ g; omega) _⟩, fun i hi => ?_, fun i hi => ?_, hg⟩
  · rw [Nat.zero_add]
    by_cases e : i = k
    · subst e; exact same
    · have := h.done i (by omega)
      rw [Nat.zero_add] at this
      exact oth e this
  · obtain ⟨⟨x, hx⟩, hf⟩ := h.cells i hi
    refine ⟨?_, by rw [World.frozen?_setCell]; exact hf⟩
    by_cases e : i = k
    · subst e; exact ⟨_, same⟩
    · exact ⟨x, oth e hx⟩
def WatRet (c : Cnt) (W : Wd.Wld) (a b from_ step n : Int) (w : World) (e : Ending) (w' : World) : Prop :=
  (watchErr c W a b from_ step n ≠ 0 ∧ e = .returned (.tuple #[.slice none 0 0, .int .i64 (watchErr c W a b from_ step n)]) ∨
   watchErr c W a b from_ step n = 0 ∧ ∃ g, e = .returned (.tuple #[.slice (some ⟨g, 0, none⟩) n.toNat n.toNat, .int .i64 0]) ∧ FnAt w' (watchM c W a b from_ step) n.toNat g 0 ∧ w.heap.size ≤ g) ∧ Below w.heap.size w w'
set_option maxRecDepth 100000 in
set_option maxHeartbeats 4000000 in
theorem watch_no (c : Cnt) (W : Wd.Wld) (a b from_ step n r : Int) (p1 p2 : Option Addr) (k1 k2 : Nat) (w : World) (h : cntB c = false ∧ r = 30 ∨ cntB c = true ∧ r = 1 ∧ (step < 1 ∨ ¬ (0 ≤ n ∧ n ≤ 2000))) :
    Calls Tryz.prog 10 #[cntVal c, wV W p1 p2 k1 k2, .int .i64 a, .int .i64 b, .int .i64 from_, .int .i64 step, .int .i64 n] w fun e w' => e = .returned (.tuple #[.slice none 0 0, .int .i64 r]) ∧ Below w.heap.size w w' := by
  have HB := Lib.hid (ObsAt.new w c W p1 p2 k1 k2)
  have HCK := Lib.hid (fun W => check_any c W)
  unfold cntVal at *
  unfold wV
  have HWI := Lib.hid (fun X => within_any n 0 2000 X)
  rcases h with ⟨hc, rfl⟩ | ⟨hc, rfl, h1⟩
  · rw [show checkC c = 30 from if_neg (by rw [hc]; decide)] at HCK
    clear hc
    go_enter Tryz.func10, Tryz.ntmps10
    go_upto_region 1 with fail
    generalize ((w.alloc (.cells #[.int .i64 c.f, .int .i64 c.o, .int .i64 c.j, .int .i64 c.g, .int .i64 c.r, .int .i64 c.d, .int .i64 c.i] 34)).alloc (.cells #[.int .u64 W.seed, .slice p1 W.chs.length k1, .slice p2 W.cls.length k2] 38)) = W0 at *
    obtain ⟨x0, x1, x2, x3, x4, x5, x6⟩ := HB.out.cb
    have zx := cell_lt x0
    go_wp2_with (go_at_call 25; refine (HCK.out _).mono ?_; rintro e w1 ⟨rfl, hb1⟩; have HB1 := Lib.hid (HB.out.below hb1); clear hb1)
    go_ret2
    exact ⟨rfl, HB1.out.bel⟩
  · rw [show checkC c = 0 from if_pos hc] at HCK
    clear hc
    by_cases h2 : step < 1
    · clear h1
      go_enter Tryz.func10, Tryz.ntmps10
      go_upto_region 1 with fail
      generalize ((w.alloc (.cells #[.int .i64 c.f, .int .i64 c.o, .int .i64 c.j, .int .i64 c.g, .int .i64 c.r, .int .i64 c.d, .int .i64 c.i] 34)).alloc (.cells #[.int .u64 W.seed, .slice p1 W.chs.length k1, .slice p2 W.cls.length k2] 38)) = W0 at *
      obtain ⟨x0, x1, x2, x3, x4, x5, x6⟩ := HB.out.cb
      have zx := cell_lt x0
      go_wp2_with (go_at_call 25; refine (HCK.out _).mono ?_; rintro e w1 ⟨rfl, hb1⟩; have HB1 := Lib.hid (HB.out.below hb1); clear hb1)
      go_ret2
      exact ⟨rfl, HB1.out.bel⟩
    · have h3 := h1.resolve_left h2
      rw [show (decide (0 ≤ n) && decide (n ≤ 2000)) = false by simpa using h3] at HWI
      clear h1 h3
      go_enter Tryz.func10, Tryz.ntmps10
      go_upto_region 1 with fail
      generalize ((w.alloc (.cells #[.int .i64 c.f, .int .i64 c.o, .int .i64 c.j, .int .i64 c.g, .int .i64 c.r, .int .i64 c.d, .int .i64 c.i] 34)).alloc (.cells #[.int .u64 W.seed, .slice p1 W.chs.length k1, .slice p2 W.cls.length k2] 38)) = W0 at *
      obtain ⟨x0, x1, x2, x3, x4, x5, x6⟩ := HB.out.cb
      have zx := cell_lt x0
      go_wp2_with (first | (go_at_call 25; refine (HCK.out _).mono ?_; rintro e w1 ⟨rfl, hb1⟩; have HB1 := Lib.hid (HB.out.below hb1); clear hb1) | (go_at_call 30; refine (HWI.out _).mono ?_; rintro e w2 ⟨rfl, hw⟩; subst hw))
      go_ret2
      exact ⟨rfl, HB1.out.bel⟩
set_option maxRecDepth 100000 in
set_option maxHeartbeats 8000000 in
theorem watch_yes (c : Cnt) (W : Wd.Wld) (a b from_ step : Int) (n : Nat) (p1 p2 : Option Addr) (k1 k2 : Nat) (w : World) (ht : Wd.Tabs w) (hW : Wd.WldIn w W p1 p2) (hc : cntB c = true) (hs : ¬ step < 1) (hn : n ≤ 2000) :
    Calls Tryz.prog 10 #[cntVal c, wV W p1 p2 k1 k2, .int .i64 a, .int .i64 b, .int .i64 from_, .int .i64 step, .int .i64 (n : Int)] w (WatRet c W a b from_ step n w) := by
  have HB := Lib.hid (ObsAt.new w c W p1 p2 k1 k2)
  have HCK := Lib.hid (fun W => check_any c W)
  rw [show checkC c = 0 from if_pos hc] at HCK
  have HWI := Lib.hid (fun X => within_any (n : Int) 0 2000 X)
  rw [show (decide (0 ≤ (n : Int)) && decide ((n : Int) ≤ 2000)) = true by simp only [Bool.and_eq_true, decide_eq_true_eq]; omega] at HWI
  have hE : watchErr c W a b from_ step n = firstE (fun i => (obsE c W a b (watS from_ (stW step) i)).2) n := by
    unfold watchErr
    rw [if_pos hc, if_neg hs, if_pos (by omega), Int.toNat_natCast]
  have HOB := Lib.hid (fun s X (hb : Below w.heap.size w X) => observe_any c W a b s p1 p2 k1 k2 X (ht.below hb) (hW.below hb))
  unfold cntVal wV at HOB
  have HN := Lib.hid hn
  have hst : (if 1000001 < step then 1000001 else step) = stW step := rfl
  have HST : Hid (1 ≤ stW step ∧ stW step ≤ 1000001) := Lib.hid (by unfold stW; split <;> omega)
  unfold WatRet
  rw [hE, Int.toNat_natCast]
  have HM : Hid (∀ i : Nat, watchM c W a b from_ step i = (obsE c W a b (watS from_ (stW step) i)).1) := Lib.hid fun i => rfl
  generalize stW step = st at *
  obtain ⟨i0, hi0, hz0, hz1, hz2⟩ := info_parts infoInt
  unfold cntVal at *
  unfold wV
  generalize watchM c W a b from_ step = mm at *
  clear ht hW hc hE hn
  go_enter Tryz.func10, Tryz.ntmps10
  go_upto_region 1 with fail
  generalize ((w.alloc (.cells #[.int .i64 c.f, .int .i64 c.o, .int .i64 c.j, .int .i64 c.g, .int .i64 c.r, .int .i64 c.d, .int .i64 c.i] 34)).alloc (.cells #[.int .u64 W.seed, .slice p1 W.chs.length k1, .slice p2 W.cls.length k2] 38)) = W0 at *
  obtain ⟨x0, x1, x2, x3, x4, x5, x6⟩ := HB.out.cb
  have zx := cell_lt x0
  go_upto_region 7 with (first | (go_at_call 25; refine (HCK.out _).mono ?_; rintro e w1 ⟨rfl, hb1⟩; have HB1 := Lib.hid (HB.out.below hb1); clear hb1) | (go_at_call 30; refine (HWI.out _).mono ?_; rintro e w2 ⟨rfl, hw⟩; subst hw))
  clear x0 x1 x2 x3 x4 x5 x6 zx HB HCK HWI hst hs
  have hlt1 := cell_lt HB1.out.c0
  have HLT := Lib.hid hlt1
  clear hlt1
  go_wp2_with (at_make; refine wpList_make_full _ rfl _ _ 29 rfl w1.heap.size 3 i0 (.int .i64 0) 1 Tryz.underlying29 hi0 hz0 hz1 .i64 .i64 _ _ n rfl rfl rfl rfl (by rw [hz2]; have := HN.out; omega) (by have := HN.out; unfold maxLen; omega) (Nat.le_refl _) ?_; intro w3 hown0 hgrow0)
  have hb3 : Below w1.heap.size w1 w3 := (Below.refl _ _).grown hgrow0 (Nat.le_refl _) (fun k hk => by cases hk)
  have HU : Hid (WatAt w w3 c W p1 p2 k1 k2 mm n w1.heap.size 0) := Lib.hid ⟨HB1.out.below hb3, fun i hi => absurd hi (Nat.not_lt_zero i), made_cells (by
    rw [Nat.mul_one, show (Value.int .i64 0).cells = #[.int .i64 0] from rfl, toList_madeCells_one] at hown0
    exact hown0), HLT.out⟩
  clear hown0 hgrow0 hb3 HB1 hz0 hz1 hz2 hi0 HLT
  generalize w1.heap.size = g at *
  go_loopw [14, 15, 18, 19, 20, 39] (fun s14 s15 s18 s19 s20 s39 wr => ∃ (k : Nat) (v18 v19 v20 : Value), k ≤ n ∧ s14 = .slice none 0 0 ∧ s15 = .int .i64 0 ∧ s18 = v18 ∧ s19 = v19 ∧ s20 = v20 ∧ s39 = .int .i64 (k : Int) ∧ Hid (WatAt w wr c W p1 p2 k1 k2 mm n g k) ∧ Hid (firstE (fun i => (obsE c W a b (watS from_ st i)).2) k = 0)) (fun _ _ _ _ _ s39 _ => n - (intOf s39).toNat)
  case atStart => exact ⟨0, _, _, _, Nat.zero_le _, rfl, rfl, rfl, rfl, rfl, rfl, HU, Lib.hid rfl⟩
  case round =>
    obtain ⟨k, v18, v19, v20, hk, rfl, rfl, rfl, rfl, rfl, rfl, HT, HE⟩ := hrel
    by_cases hlt : k < n
    · have hki : (k : Int) < n := by omega
      have HK := Lib.hid hlt
      have hn := HN.out
      have hst := HST.out
      have hm1 : 0 ≤ (k : Int) * st := Int.mul_nonneg (by omega) (by omega)
      have hm2 : (k : Int) * st ≤ 2000 * st := Int.mul_le_mul_of_nonneg_right (by omega) (by omega)
      have j1 : IntKind.i64.wrap ((k : Int) * st) = (k : Int) * st := IntWalk.i64_in _ (by omega)
      obtain ⟨sk, hsk⟩ : ∃ sk, sk = watS from_ st k := ⟨_, rfl⟩
      have j2 : IntKind.i64.wrap (from_ + (k : Int) * st) = sk := hsk.symm
      have v1 : IntKind.i64.wrap ((k : Int) + 1) = (k : Int) + 1 := IntWalk.i64_in _ (by omega)
      obtain ⟨⟨mk, gk⟩, hmg⟩ : ∃ r, r = obsE c W a b (watS from_ st k) := ⟨_, rfl⟩
      have hmm := HM.out k
      have HO1 := Lib.hid (HOB.out (watS from_ st k) wr HT.out.ob.bel)
      have HPU := Lib.hid (HT.out.put hlt)
      have hfe : firstE (fun i => (obsE c W a b (watS from_ st i)).2) (k + 1) = gk := by
        show (if firstE (fun i => (obsE c W a b (watS from_ st i)).2) k = 0 then (obsE c W a b (watS from_ st k)).2 else _) = gk
        rw [if_pos HE.out, ← hmg]
      rw [← hmg, ← hsk] at HO1
      rw [← hmg] at hmm
      dsimp only at HO1 hmm
      have HFE := Lib.hid hfe
      have HPE : Hid (∀ X, WatAt w X c W p1 p2 k1 k2 mm n g k → WatAt w (X.setCell ⟨g, k, none⟩ (.int .i64 mk)) c W p1 p2 k1 k2 mm n g (k + 1)) := Lib.hid fun X hX => by
        have := hX.put HK.out
        rwa [hmm] at this
      clear hm1 hm2 hst hn hsk hmg hmm hfe HPU hlt hk HE
      obtain ⟨⟨x0, x1, x2, x3, x4, x5, x6⟩, l0, l1, l2, -⟩ := HT.out.ob
      have zx := cell_lt x0
      have zl := cell_lt l0
      go_upto_region 12 with (go_at_call 8; refine HO1.out.mono ?_; rintro e w4 ⟨rfl, hb4⟩; have HT4 := Lib.hid (HT.out.below hb4); clear hb4)
      clear x0 x1 x2 x3 x4 x5 x6 l0 l1 l2 zx zl HT HO1 j1 j2
      by_cases hg : gk = 0
      · subst hg
        obtain ⟨⟨old, hold⟩, hfr⟩ := HT4.out.cells k HK.out
        have hz := cell_lt hold
        go_wp2_with fail
        go_roundw
        case rel => exact ⟨k + 1, _, _, _, HK.out, rfl, rfl, rfl, rfl, rfl, by simp, Lib.hid (HPE.out _ HT4.out), HFE⟩
        case measure => have := HK.out; simp [intOf]; omega
      · have hne : (gk != 0) = true := by simpa using hg
        have HG := Lib.hid hg
        clear hg
        go_wp2_with fail
        go_ret2
        refine ⟨.inl ?_, HT4.out.ob.bel⟩
        have e : firstE (fun i => (obsE c W a b (watS from_ st i)).2) n = gk := by
          rw [firstE_more (k := k + 1) (by rw [HFE.out]; exact HG.out) n HK.out, HFE.out]
        rw [e]
        exact ⟨HG.out, rfl⟩
    · obtain rfl : k = n := by omega
      have hki : ¬ (k : Int) < k := by omega
      clear hlt hk
      go_wp2_with fail
      go_ret2
      exact ⟨.inr ⟨HE.out, g, rfl, HT.out.done, by have := HT.out.gt; omega⟩, HT.out.ob.bel⟩
/-- Watch, whatever it is asked -/
theorem watch_any (c : Cnt) (W : Wd.Wld) (a b from_ step n : Int) (p1 p2 : Option Addr) (k1 k2 : Nat) (w : World) (ht : Wd.Tabs w) (hW : Wd.WldIn w W p1 p2) :
    Calls Tryz.prog 10 #[cntVal c, wV W p1 p2 k1 k2, .int .i64 a, .int .i64 b, .int .i64 from_, .int .i64 step, .int .i64 n] w (WatRet c W a b from_ step n w) := by
  by_cases hc : cntB c = true
  · by_cases hs : step < 1
    · have e : watchErr c W a b from_ step n = 1 := by unfold watchErr; rw [if_pos hc, if_pos hs]
      exact (watch_no c W a b from_ step n 1 p1 p2 k1 k2 w (.inr ⟨hc, rfl, .inl hs⟩)).mono fun _ _ h => ⟨.inl (by rw [e]; exact ⟨by decide, h.1⟩), h.2⟩
    · by_cases hn : 0 ≤ n ∧ n ≤ 2000
      · obtain ⟨N, rfl⟩ : ∃ N : Nat, n = (N : Int) := ⟨n.toNat, by omega⟩
        exact watch_yes c W a b from_ step N p1 p2 k1 k2 w ht hW hc hs (by omega)
      · have e : watchErr c W a b from_ step n = 1 := by unfold watchErr; rw [if_pos hc, if_neg hs, if_neg hn]
        exact (watch_no c W a b from_ step n 1 p1 p2 k1 k2 w (.inr ⟨hc, rfl, .inr hn⟩)).mono fun _ _ h => ⟨.inl (by rw [e]; exact ⟨by decide, h.1⟩), h.2⟩
  · have e : watchErr c W a b from_ step n = 30 := by unfold watchErr; rw [if_neg hc]
    exact (watch_no c W a b from_ step n 30 p1 p2 k1 k2 w (.inl ⟨by simpa using hc, rfl⟩)).mono fun _ _ h => ⟨.inl (by rw [e]; exact ⟨by decide, h.1⟩), h.2⟩
end Go.Proofs.YtlelamjbfjneiaaGreatDoor.Ct
namespace Go.Proofs.YtlelamjbfjneiaaGreatDoor.Ct
open Go Go.RowKit Go.WideShapes Go.ChangeShapes Go.Deep Go.Joins
theorem pick_list {α : Type} (n : Nat) (Q : Nat → α → Prop) (h : ∀ i, i < n → ∃ x, Q i x) : ∃ l : List α, l.length = n ∧ ∀ i, (hi : i < l.length) → Q i l[i] := by
  induction n with
  | zero => exact ⟨[], rfl, fun i hi => absurd hi (by simp)⟩
  | succ n ih =>
    obtain ⟨l, hl, hq⟩ := ih fun i hi => h i (by omega)
    obtain ⟨x, hx⟩ := h n (by omega)
    refine ⟨l ++ [x], by simp [hl], fun i hi => ?_⟩
    by_cases hlt : i < l.length
    · rw [List.getElem_append_left hlt]; exact hq i hlt
    · have : i = l.length := by simp at hi; omega
      subst this
      rw [List.getElem_append_right (by omega)]
      simpa [hl] using hx
theorem add_plain (b o k : Nat) : (⟨b, o, none⟩ : Addr).add k = ⟨b, o + k, none⟩ := by
  unfold Addr.add; split <;> simp_all
def lAt (l : List Int) (i : Nat) : Int := (l[i]?).getD 0
section
variable {H : Type} {enc : TypeId × Value → H} {w : World} {base : Nat} {spare : Nat → Bool} {held : Bool}
set_option maxRecDepth 100000 in
theorem trod_list {fuel : Nat} {cs : List Value} {x : DataW H × List MemPlace} (h : DataW.trod enc Tryz.prog w base spare held fuel 29 cs = some x) :
    ∃ (l : List Int) (p : Option Addr) (cap : Nat), cs = [.slice p l.length cap] ∧ l.length ≤ maxLen ∧ FnIn w (lAt l) l.length p := by
  rcases open_slice1 Tryz.underlying29 (show Tryz.prog.cellsOf 3 = 1 by kernel_rfl) h with ⟨hcs, _⟩ | ⟨a, n, cap, m, n', V, D, Pl, rfl, _, hl, hm, hmm, hxe, hx⟩
  · exact ⟨[], none, 0, hcs, by simp [maxLen], .inl rfl⟩
  · have hlt : ∀ i, i < n → i < m := fun i hi => by rw [hmm]; split <;> omega
    have cell : ∀ i, i < n → ∃ x : Int, w.cell? (a.add i) = some (.int .i64 x) := by
      intro i hi
      obtain ⟨hc, ht'⟩ := hx i (hlt i hi)
      obtain ⟨x, hxx, _, _⟩ := DataW.trod_int Tryz.underlying3 ht'
      simp only [List.cons.injEq, and_true] at hxx
      exact ⟨x, by rw [hc, hxx]⟩
    rcases Nat.eq_zero_or_pos n with h0 | h0
    · subst h0
      exact ⟨[], some a, cap, rfl, by simp [maxLen], .inl rfl⟩
    · obtain ⟨v0, hv0⟩ := cell 0 h0
      obtain ⟨b, o, spot⟩ := a
      have hs : spot = none := by simpa [Addr.add] using World.cell?_spot hv0
      subst hs
      obtain ⟨l, rfl, hq⟩ := pick_list n _ cell
      refine ⟨l, _, cap, rfl, by omega, .inr ⟨b, o, rfl, fun i hi => ?_⟩⟩
      have := hq i hi
      rw [add_plain] at this
      rw [this]
      simp [lAt, hi]
set_option maxRecDepth 100000 in
theorem open_ints {r : Reach} {b0 : Nat} {v : Value} {d : DataW H} {q : List MemPlace} (hv : Value.okWide Tryz.prog w r b0 29 v) (h : DataW.Trod enc Tryz.prog w base spare held 29 v d q) :
    ∃ (l : List Int) (p : Option Addr) (cap : Nat), v = .slice p l.length cap ∧ l.length ≤ maxLen ∧ FnIn w (lAt l) l.length p := by
  obtain ⟨p, n, cap, rfl⟩ := okWide_slice Tryz.underlying29 hv
  obtain ⟨fuel, hf⟩ := h
  obtain ⟨l, p', cap', hcs, hl, hs⟩ := trod_list hf
  simp [Value.cells] at hcs
  obtain ⟨rfl, rfl, rfl⟩ := hcs
  exact ⟨l, p, cap, rfl, hl, hs⟩
end
end Go.Proofs.YtlelamjbfjneiaaGreatDoor.Ct
namespace Go.Proofs.YtlelamjbfjneiaaGreatDoor.Ct
open Go Go.RowKit Go.Shelf
/-- the first k numbers of a sequence, as values -/
def seqV (f : Nat → Int) (k : Nat) : List Value := (List.range k).map fun i => .int .i64 (f i)
theorem seqV_succ (f : Nat → Int) (k : Nat) : seqV f (k + 1) = seqV f k ++ [.int .i64 (f k)] := by simp [seqV, List.range_succ]
/-- a slice of the call's own that holds the first k numbers of a sequence -/
def OwnF (B : Nat) (X : World) (v : Value) (f : Nat → Int) (k : Nat) : Prop := X.ownsRow B 3 1 v k (seqV f k)
def ApartV (a b : Value) : Prop := a.ownBlock = none ∨ b.ownBlock = none ∨ a.ownBlock ≠ b.ownBlock
theorem ApartV.symm {a b : Value} (h : ApartV a b) : ApartV b a := by
  rcases h with h | h | h
  · exact .inr (.inl h)
  · exact .inl h
  · exact .inr (.inr h.symm)
theorem ApartV.ne {a b : Value} (h : ApartV a b) : a.ownBlock = none ∨ a.ownBlock ≠ b.ownBlock := by
  rcases h with h | h | h
  · exact .inl h
  · rw [h]; cases e : a.ownBlock <;> simp
  · exact .inr h
theorem OwnF.nil (B : Nat) (X : World) (f : Nat → Int) : OwnF B X (.slice none 0 0) f 0 := World.ownsRow_nil _ _ _ _
theorem OwnF.below {B k : Nat} {X Y : World} {v : Value} {f : Nat → Int} (h : OwnF B X v f k) (hb : Below X.heap.size X Y) : OwnF B Y v f k :=
  World.ownsRow.kept h (grown_below hb) (by cases e : v.ownBlock with | none => exact .inl rfl | some k => exact .inr (by simp))
theorem OwnF.in_ {B k : Nat} {X : World} {v : Value} {f : Nat → Int} (h : OwnF B X v f k) : ∃ p cap, v = .slice p k cap ∧ FnIn X f k p := by
  rcases h.2 with ⟨rfl, h0⟩ | ⟨g, cap, cur, rfl, _, _, _⟩
  · exact ⟨none, 0, by rw [h0], .inl h0⟩
  · refine ⟨some ⟨g, 0, none⟩, cap, rfl, .inr ⟨g, 0, rfl, fun i hi => ?_⟩⟩
    have := World.ownsRow.cells h (g := g) rfl i (.int .i64 (f i)) (by simp [seqV, hi])
    rwa [add_plain] at this
theorem OwnF.other {B k : Nat} {X Y : World} {v v' u : Value} {f : Nat → Int} {o : Obj} (h : OwnF B X u f k) (hd : ApartV u v) (hg : (X.alloc o).grownBy Y v.ownBlock) (hb : v'.ownBlock = v.ownBlock ∨ v'.ownBlock = some (X.alloc o).heap.size) : OwnF B Y u f k ∧ ApartV u v' := by
  refine ⟨World.ownsRow.kept (World.ownsRow.alloc h o) hg hd.ne, ?_⟩
  rcases hb with hb | hb
  · unfold ApartV; rw [hb]; exact hd
  · cases e : u.ownBlock with
    | none => exact .inl e
    | some k =>
      refine .inr (.inr ?_)
      rw [e, hb]
      have := (World.ownsRow.lt h k e).2
      intro hk
      cases hk
      simp at this
      omega
structure TurAt (W X : World) (u v : Value) (f g : Nat → Int) (i j : Nat) : Prop where
  o1 : OwnF W.heap.size X u f i
  o2 : OwnF W.heap.size X v g j
  d : ApartV u v
  bel : Below W.heap.size W X
variable {W X Y : World} {u v u' v' : Value} {f g : Nat → Int} {i j : Nat} {o : Obj}
theorem TurAt.below (h : TurAt W X u v f g i j) (hb : Below X.heap.size X Y) : TurAt W Y u v f g i j := ⟨h.o1.below hb, h.o2.below hb, h.d, h.bel.trans (hb.mono h.bel.size)⟩
theorem TurAt.grown {row : Option Nat} (h : TurAt W X u v f g i j) (hg : (X.alloc o).grownBy Y row) (hr : ∀ k, row = some k → W.heap.size ≤ k) : Below W.heap.size W Y := (h.bel.alloc h.bel.size o).grown hg (by have := h.bel.size; simp; omega) hr
theorem TurAt.first (h : TurAt W X u v f g i j) {x : Int} (hx : x = f i) (hown : Y.ownsRow W.heap.size 3 1 u' (i + 1) (seqV f i ++ [.int .i64 x])) (hg : (X.alloc o).grownBy Y u.ownBlock) (hb : u'.ownBlock = u.ownBlock ∨ u'.ownBlock = some (X.alloc o).heap.size) : TurAt W Y u' v f g (i + 1) j := by
  obtain ⟨p2, q2⟩ := h.o2.other h.d.symm hg hb
  refine ⟨?_, p2, q2.symm, h.grown hg (fun k hk => (World.ownsRow.lt h.o1 k hk).1)⟩
  unfold OwnF
  rw [seqV_succ, ← hx]
  exact hown
theorem TurAt.second (h : TurAt W X u v f g i j) {x : Int} (hx : x = g j) (hown : Y.ownsRow W.heap.size 3 1 v' (j + 1) (seqV g j ++ [.int .i64 x])) (hg : (X.alloc o).grownBy Y v.ownBlock) (hb : v'.ownBlock = v.ownBlock ∨ v'.ownBlock = some (X.alloc o).heap.size) : TurAt W Y u v' f g i (j + 1) := by
  obtain ⟨p1, q1⟩ := h.o1.other h.d hg hb
  refine ⟨p1, ?_, q1, h.grown hg (fun k hk => (World.ownsRow.lt h.o2 k hk).1)⟩
  unfold OwnF
  rw [seqV_succ, ← hx]
  exact hown
end Go.Proofs.YtlelamjbfjneiaaGreatDoor.Ct
namespace Go.Proofs.YtlelamjbfjneiaaGreatDoor.Ct
open Go Go.RowKit Go.Shelf
attribute [local go_sem] Oper.semAt_some
/-- the span after measurement i, and the error -/
def folS (c : Cnt) (W : Wd.Wld) (a b from_ step : Int) (m : Nat → Int) (f1 f2 : Int) : Nat → (Int × Int) × Int
  | 0 => resS c (m 0) f1 f2
  | i + 1 => if (folS c W a b from_ step m f1 f2 i).2 = 0 then
      (if (widE W a b (from_ + (i : Int) * step) (from_ + ((i + 1 : Nat) : Int) * step) (folS c W a b from_ step m f1 f2 i).1.1 (folS c W a b from_ step m f1 f2 i).1.2).2 = 0 then
        resS c (m (i + 1)) (widE W a b (from_ + (i : Int) * step) (from_ + ((i + 1 : Nat) : Int) * step) (folS c W a b from_ step m f1 f2 i).1.1 (folS c W a b from_ step m f1 f2 i).1.2).1.1 (widE W a b (from_ + (i : Int) * step) (from_ + ((i + 1 : Nat) : Int) * step) (folS c W a b from_ step m f1 f2 i).1.1 (folS c W a b from_ step m f1 f2 i).1.2).1.2
      else ((0, 0), (widE W a b (from_ + (i : Int) * step) (from_ + ((i + 1 : Nat) : Int) * step) (folS c W a b from_ step m f1 f2 i).1.1 (folS c W a b from_ step m f1 f2 i).1.2).2))
    else folS c W a b from_ step m f1 f2 i
def folErr (c : Cnt) (W : Wd.Wld) (a b from_ step : Int) (m : Nat → Int) (f1 f2 : Int) : Nat → Int
  | 0 => 0
  | n + 1 => (folS c W a b from_ step m f1 f2 n).2
def followErr (c : Cnt) (W : Wd.Wld) (a b from_ step : Int) (m : Nat → Int) (n : Nat) (f1 f2 : Int) : Int :=
  if pairErr c W a b from_ = 0 then (if serErr c from_ step n = 0 then folErr c W a b from_ step m f1 f2 n else serErr c from_ step n) else pairErr c W a b from_
theorem folS_stays {c : Cnt} {W : Wd.Wld} {a b from_ step : Int} {m : Nat → Int} {f1 f2 : Int} {k : Nat} (h : (folS c W a b from_ step m f1 f2 k).2 ≠ 0) : ∀ n, k ≤ n → folS c W a b from_ step m f1 f2 n = folS c W a b from_ step m f1 f2 k
  | 0, hn => by rw [show k = 0 by omega]
  | n + 1, hn => by
    by_cases e : k = n + 1
    · rw [e]
    · have ih := folS_stays h n (by omega)
      show (if (folS c W a b from_ step m f1 f2 n).2 = 0 then _ else folS c W a b from_ step m f1 f2 n) = _
      rw [ih, if_neg h]
theorem infoSp : (Tryz.prog.info? 31).map (fun i => (i.zero, i.size, i.bytes)) = some (some (.agg #[.int .i64 0, .int .i64 0]), 2, 16) := by kernel_rfl
theorem made_two (n : Nat) : (madeCells #[.int .i64 0, .int .i64 0] n).toList = List.replicate n (.int .i64 0) := by
  refine List.ext_getElem (by simp [size_madeCells]) fun i h1 h2 => ?_
  simp only [madeCells, Array.getElem_toList, Array.getElem_map, Array.getElem_range, List.getElem_replicate]
  rcases Nat.mod_two_eq_zero_or_one i with h | h <;> simp [h]
/-- the boxes of Follow, and the spans so far -/
structure FolAt (w X : World) (c : Cnt) (W : Wd.Wld) (p1 p2 : Option Addr) (k1 k2 : Nat) (f1 f2 : Int) (sp : Nat → Int × Int) (n g k : Nat) : Prop where
  ob : ObsAt w X c W p1 p2 k1 k2
  f : SpBox X (w.heap.size + 1 + 1) f1 f2
  done : ∀ i, i < k → X.cell? ⟨g, i * 2, none⟩ = some (.int .i64 (sp i).1) ∧ X.cell? ⟨g, i * 2 + 1, none⟩ = some (.int .i64 (sp i).2)
  cells : ∀ i, i < n * 2 → (∃ x : Int, X.cell? ⟨g, i, none⟩ = some (.int .i64 x)) ∧ X.frozen? ⟨g, i, none⟩ = false
  gt : w.heap.size + 1 + 1 < g
theorem FolAt.below {w X Y : World} {c : Cnt} {W : Wd.Wld} {p1 p2 : Option Addr} {k1 k2 : Nat} {f1 f2 : Int} {sp : Nat → Int × Int} {n g k : Nat} (h : FolAt w X c W p1 p2 k1 k2 f1 f2 sp n g k) (hb : Below X.heap.size X Y) : FolAt w Y c W p1 p2 k1 k2 f1 f2 sp n g k :=
  ⟨h.ob.below hb, h.f.below hb, fun i hi => ⟨cell_below hb (h.done i hi).1, cell_below hb (h.done i hi).2⟩, fun i hi => by
    obtain ⟨⟨x, hx⟩, hf⟩ := h.cells i hi
    exact ⟨⟨x, cell_below hb hx⟩, (hb.frozen (p := ⟨g, i, none⟩) (cell_lt hx)).trans hf⟩, h.gt⟩
theorem ObsAt.only {w X Y : World} {c : Cnt} {W : Wd.Wld} {p1 p2 : Option Addr} {k1 k2 g : Nat} (h : ObsAt w X c W p1 p2 k1 k2) (ho : Only g X Y) (hg : w.heap.size + 1 < g) : ObsAt w Y c W p1 p2 k1 k2 :=
  ⟨h.cb.only ho (by omega), ho.cell (by omega) h.c0, ho.cell (by omega) h.c1, ho.cell (by omega) h.c2, ho.below h.bel (by omega)⟩
theorem FolAt.put {w X : World} {c : Cnt} {W : Wd.Wld} {p1 p2 : Option Addr} {k1 k2 : Nat} {f1 f2 : Int} {sp : Nat → Int × Int} {n g k : Nat} (h : FolAt w X c W p1 p2 k1 k2 f1 f2 sp n g k) (hk : k < n) (x y : Int) (hsp : sp k = (x, y)) : FolAt w ((X.setCell ⟨g, k * 2, none⟩ (.int .i64 x)).setCell ⟨g, k * 2 + 1, none⟩ (.int .i64 y)) c W p1 p2 k1 k2 f1 f2 sp n g (k + 1) := by
  have hg := h.gt
  have ho : Only g X ((X.setCell ⟨g, k * 2, none⟩ (.int .i64 x)).setCell ⟨g, k * 2 + 1, none⟩ (.int .i64 y)) := ((Only.refl g X).set _ _).set _ _
  obtain ⟨⟨x0, hx0⟩, -⟩ := h.cells (k * 2) (by omega)
  obtain ⟨⟨x1, hx1⟩, -⟩ := h.cells (k * 2 + 1) (by omega)
  have s0 : ((X.setCell ⟨g, k * 2, none⟩ (.int .i64 x)).setCell ⟨g, k * 2 + 1, none⟩ (.int .i64 y)).cell? ⟨g, k * 2, none⟩ = some (.int .i64 x) := other_cell (by omega) (World.cell?_setCell_same _ _ _ hx0)
  have s1 : ((X.setCell ⟨g, k * 2, none⟩ (.int .i64 x)).setCell ⟨g, k * 2 + 1, none⟩ (.int .i64 y)).cell? ⟨g, k * 2 + 1, none⟩ = some (.int .i64 y) := World.cell?_setCell_same _ _ _ (other_cell (by omega) hx1)
  refine ⟨h.ob.only ho (by omega), ⟨ho.cell (by omega) h.f.1, ho.cell (by omega) h.f.2⟩, fun i hi => ?_, fun i hi => ?_, hg⟩
  · by_cases e : i = k
    · subst e; rw [hsp]; exact ⟨s0, s1⟩
    · have := h.done i (by omega)
      exact ⟨other_cell (by omega) (other_cell (by omega) this.1), other_cell (by omega) (other_cell (by omega) this.2)⟩
  · obtain ⟨⟨z, hz⟩, hf⟩ := h.cells i hi
    refine ⟨?_, by rw [World.frozen?_setCell, World.frozen?_setCell]; exact hf⟩
    by_cases e : i = k * 2
    · subst e; exact ⟨_, s0⟩
    · by_cases e2 : i = k * 2 + 1
      · subst e2; exact ⟨_, s1⟩
      · exact ⟨z, other_cell (by omega) (other_cell (by omega) hz)⟩
theorem fol_new (w : World) (c : Cnt) (W : Wd.Wld) (p1 p2 : Option Addr) (k1 k2 : Nat) (f1 f2 : Int) :
    ObsAt w (((w.alloc (.cells #[.int .i64 c.f, .int .i64 c.o, .int .i64 c.j, .int .i64 c.g, .int .i64 c.r, .int .i64 c.d, .int .i64 c.i] 34)).alloc (.cells #[.int .u64 W.seed, .slice p1 W.chs.length k1, .slice p2 W.cls.length k2] 38)).alloc (.cells #[.int .i64 f1, .int .i64 f2] 31)) c W p1 p2 k1 k2 ∧
    SpBox (((w.alloc (.cells #[.int .i64 c.f, .int .i64 c.o, .int .i64 c.j, .int .i64 c.g, .int .i64 c.r, .int .i64 c.d, .int .i64 c.i] 34)).alloc (.cells #[.int .u64 W.seed, .slice p1 W.chs.length k1, .slice p2 W.cls.length k2] 38)).alloc (.cells #[.int .i64 f1, .int .i64 f2] 31)) (w.heap.size + 1 + 1) f1 f2 :=
  ⟨(ObsAt.new w c W p1 p2 k1 k2).below (below_alloc (Below.refl _ _) _), by simp [go_sem], by simp [go_sem]⟩
theorem pair_ok {c : Cnt} {W : Wd.Wld} {a b s : Int} (h : pairErr c W a b s = 0) : cntB c = true ∧ Wd.findErr W a [s] = 0 ∧ Wd.findErr W b [s] = 0 ∧ a ≠ b ∧ meetB c s = true := by
  unfold pairErr at h
  have key : ∀ k, (Wd.phaseE W k s).e = 0 → Wd.findErr W k [s] = 0 := fun k hk => by
    unfold Wd.phaseE at hk
    by_cases h0 : Wd.findErr W k [s] = 0
    · exact h0
    · rw [if_neg h0] at hk; exact hk
  by_cases h1 : cntB c = true
  · rw [if_pos h1] at h
    by_cases h2 : (Wd.phaseE W a s).e = 0
    · rw [if_pos h2] at h
      by_cases h3 : (Wd.phaseE W b s).e = 0
      · rw [if_pos h3] at h
        by_cases h4 : a = b
        · rw [if_pos h4] at h; cases h
        · rw [if_neg h4] at h
          by_cases h5 : meetB c s = true
          · exact ⟨h1, key a h2, key b h3, h4, h5⟩
          · rw [if_neg h5] at h; cases h
      · rw [if_neg h3] at h; exact absurd h h3
    · rw [if_neg h2] at h; exact absurd h h2
  · rw [if_neg h1] at h; cases h
set_option maxRecDepth 100000 in
set_option maxHeartbeats 4000000 in
theorem follow_pair (c : Cnt) (W : Wd.Wld) (a b from_ step : Int) (n : Nat) (lp : Option Addr) (lc : Nat) (f1 f2 : Int) (p1 p2 : Option Addr) (k1 k2 : Nat) (w : World) (ht : Wd.Tabs w) (hW : Wd.WldIn w W p1 p2) (h : pairErr c W a b from_ ≠ 0) :
    Calls Tryz.prog 15 #[cntVal c, wV W p1 p2 k1 k2, .int .i64 a, .int .i64 b, .int .i64 from_, .int .i64 step, .slice lp n lc, .agg #[.int .i64 f1, .int .i64 f2]] w fun e w' => e = .returned (.tuple #[.slice none 0 0, .int .i64 (pairErr c W a b from_)]) ∧ Below w.heap.size w w' := by
  have HB := Lib.hid (fol_new w c W p1 p2 k1 k2 f1 f2).1
  have HF := Lib.hid (fol_new w c W p1 p2 k1 k2 f1 f2).2
  have HPA := Lib.hid (fun X (hb : Below w.heap.size w X) => checkPair_any c W a b from_ p1 p2 k1 k2 X (ht.below hb) (hW.below hb))
  obtain ⟨r, hr⟩ : ∃ r, r = pairErr c W a b from_ := ⟨_, rfl⟩
  rw [← hr] at h HPA ⊢
  have hne : (r != 0) = true := by simpa using h
  unfold cntVal wV at *
  clear ht hW h hr
  go_enter Tryz.func15, Tryz.ntmps15
  go_upto_region 1 with fail
  generalize (((w.alloc (.cells #[.int .i64 c.f, .int .i64 c.o, .int .i64 c.j, .int .i64 c.g, .int .i64 c.r, .int .i64 c.d, .int .i64 c.i] 34)).alloc (.cells #[.int .u64 W.seed, .slice p1 W.chs.length k1, .slice p2 W.cls.length k2] 38)).alloc (.cells #[.int .i64 f1, .int .i64 f2] 31)) = W0 at *
  obtain ⟨⟨x0, x1, x2, x3, x4, x5, x6⟩, l0, l1, l2, -⟩ := HB.out
  have zx := cell_lt x0
  have zl := cell_lt l0
  go_wp2_with (go_at_call 36; refine (HPA.out _ HB.out.bel).mono ?_; rintro e w1 ⟨rfl, hb1⟩; have HB1 := Lib.hid (HB.out.below hb1); have HF1 := Lib.hid (HF.out.below hb1); clear hb1)
  go_ret2
  exact ⟨rfl, HB1.out.bel⟩
set_option maxRecDepth 100000 in
set_option maxHeartbeats 4000000 in
theorem follow_ser (c : Cnt) (W : Wd.Wld) (a b from_ step : Int) (n : Nat) (lp : Option Addr) (lc : Nat) (f1 f2 : Int) (p1 p2 : Option Addr) (k1 k2 : Nat) (w : World) (ht : Wd.Tabs w) (hW : Wd.WldIn w W p1 p2) (h : pairErr c W a b from_ = 0) (hs : serErr c from_ step n ≠ 0) :
    Calls Tryz.prog 15 #[cntVal c, wV W p1 p2 k1 k2, .int .i64 a, .int .i64 b, .int .i64 from_, .int .i64 step, .slice lp n lc, .agg #[.int .i64 f1, .int .i64 f2]] w fun e w' => e = .returned (.tuple #[.slice none 0 0, .int .i64 (serErr c from_ step n)]) ∧ Below w.heap.size w w' := by
  have HB := Lib.hid (fol_new w c W p1 p2 k1 k2 f1 f2).1
  have HF := Lib.hid (fol_new w c W p1 p2 k1 k2 f1 f2).2
  have HPA := Lib.hid (fun X (hb : Below w.heap.size w X) => checkPair_any c W a b from_ p1 p2 k1 k2 X (ht.below hb) (hW.below hb))
  obtain ⟨hc, hfa, -, -, -⟩ := pair_ok h
  have HSE := Lib.hid (fun X => checkSeries_any c from_ step n X (cntB_in hc) (Wd.sec_of hfa) (by omega))
  rw [h] at HPA
  obtain ⟨r, hr⟩ : ∃ r, r = serErr c from_ step n := ⟨_, rfl⟩
  rw [← hr] at hs HSE ⊢
  have hne : (r != 0) = true := by simpa using hs
  unfold cntVal wV at *
  clear ht hW h hr hs hc hfa
  go_enter Tryz.func15, Tryz.ntmps15
  go_upto_region 1 with fail
  generalize (((w.alloc (.cells #[.int .i64 c.f, .int .i64 c.o, .int .i64 c.j, .int .i64 c.g, .int .i64 c.r, .int .i64 c.d, .int .i64 c.i] 34)).alloc (.cells #[.int .u64 W.seed, .slice p1 W.chs.length k1, .slice p2 W.cls.length k2] 38)).alloc (.cells #[.int .i64 f1, .int .i64 f2] 31)) = W0 at *
  obtain ⟨⟨x0, x1, x2, x3, x4, x5, x6⟩, l0, l1, l2, -⟩ := HB.out
  have zx := cell_lt x0
  have zl := cell_lt l0
  go_upto_region 4 with (go_at_call 36; refine (HPA.out _ HB.out.bel).mono ?_; rintro e w1 ⟨rfl, hb1⟩; have HB1 := Lib.hid (HB.out.below hb1); have HF1 := Lib.hid (HF.out.below hb1); clear hb1)
  clear x0 x1 x2 x3 x4 x5 x6 l0 l1 l2 zx zl HB HF
  obtain ⟨x0, x1, x2, x3, x4, x5, x6⟩ := HB1.out.cb
  have zx := cell_lt x0
  go_wp2_with (go_at_call 37; refine (HSE.out _).mono ?_; rintro e w2 ⟨rfl, hb2⟩; have HB2 := Lib.hid (HB1.out.below hb2); have HF2 := Lib.hid (HF1.out.below hb2); clear hb2)
  go_ret2
  exact ⟨rfl, HB2.out.bel⟩
end Go.Proofs.YtlelamjbfjneiaaGreatDoor.Ct
