/- Contracts of layer 2: Follow. · Contracts of layer 2: Follow, whatever it is asked. · Plain facts: what is followed holds the true differences. -/
import Derived.Test.YtmfpnfdoidihcaaGreatDoorVl
import Derived.Test.YtmfpnfdoidihcaaGreatDoorNo
import Derived.Test.YtmfpnfdoidihcaaGreatDoorVi
import Derived.Test.YtmfpnfdoidihcaaGreatDoorHp
namespace Go.Proofs.YtmfpnfdoidihcaaGreatDoor.Ct
open Go Go.RowKit Go.Shelf
attribute [local go_sem] Oper.semAt_some
/-- the span after measurement i, and the error -/
def folS (c : Cnt) (W : Wd.Wld) (a b from_ step : Int) (m : Nat → Int) (f1 f2 : Int) : Nat → (Int × Int) × Int
  | 0 => resS c (m 0) f1 f2
  | i + 1 => if (folS c W a b from_ step m f1 f2 i).2 = 0 then
      (if (widE W a b (from_ + (i : Int) * step) (from_ + ((i + 1 : Nat) : Int) * step) (folS c W a b from_ step m f1 f2 i).1.1 (folS c W a b from_ step m f1 f2 i).1.2).2 = 0 then
        resS c (m (i + 1)) (widE W a b (from_ + (i : Int) * step) (from_ + ((i + 1 : Nat) : Int) * step) (folS c W a b from_ step m f1 f2 i).1.1 (folS c W a b from_ step m f1 f2 i).1.2).1.1 (widE W a b (from_ + (i : Int) * step) (from_ + ((i + 1 : Nat) : Int) * step) (folS c W a b from_ step m f1 f2 i).1.1 (folS c W a b from_ step m f1 f2 i).1.2).1.2
      else ((0, 0), (widE W a b (from_ + (i : Int) * step) (from_ + ((i + 1 : Nat) : Int) * step) (folS c W a b from_ step m f1 f2 i).1.1 (folS c W a b from_ step m f1 f2 i).1.2).2))
    else folS c W a b from_ step m f1 f2 i
def folErr (c : Cnt) (W : Wd.Wld) (a b from_ step : Int) (m : Nat → Int) (f1 f2 : Int) : Nat → Int
  | 0 => 0
  | n + 1 => (folS c W a b from_ step m f1 f2 n).2
def followErr (c : Cnt) (W : Wd.Wld) (a b from_ step : Int) (m : Nat → Int) (n : Nat) (f1 f2 : Int) : Int :=
  if pairErr c W a b from_ = 0 then (if serErr c from_ step n = 0 then folErr c W a b from_ step m f1 f2 n else serErr c from_ step n) else pairErr c W a b from_
theorem folS_stays {c : Cnt} {W : Wd.Wld} {a b from_ step : Int} {m : Nat → Int} {f1 f2 : Int} {k : Nat} (h : (folS c W a b from_ step m f1 f2 k).2 ≠ 0) : ∀ n, k ≤ n → folS c W a b from_ step m f1 f2 n = folS c W a b from_ step m f1 f2 k
  | 0, hn => by rw [show k = 0 by omega]
  | n + 1, hn => by
    by_cases e : k = n + 1
    · rw [e]
    · have ih := folS_stays h n (by omega)
      show (if (folS c W a b from_ step m f1 f2 n).2 = 0 then _ else folS c W a b from_ step m f1 f2 n) = _
      rw [ih, if_neg h]
theorem infoSp : (Tryz.prog.info? 31).map (fun i => (i.zero, i.size, i.bytes)) = some (some (.agg #[.int .i64 0, .int .i64 0]), 2, 16) := by kernel_rfl
theorem made_two (n : Nat) : (madeCells #[.int .i64 0, .int .i64 0] n).toList = List.replicate n (.int .i64 0) := by
  refine List.ext_getElem (by simp [size_madeCells]) fun i h1 h2 => ?_
  simp only [madeCells, Array.getElem_toList, Array.getElem_map, Array.getElem_range, List.getElem_replicate]
  rcases Nat.mod_two_eq_zero_or_one i with h | h <;> simp [h]
/-- the boxes of Follow, and the spans so far -/
structure FolAt (w X : World) (c : Cnt) (W : Wd.Wld) (p1 p2 : Option Addr) (k1 k2 : Nat) (f1 f2 : Int) (sp : Nat → Int × Int) (n g k : Nat) : Prop where
  ob : ObsAt w X c W p1 p2 k1 k2
  f : SpBox X (w.heap.size + 1 + 1) f1 f2
  done : ∀ i, i < k → X.cell? ⟨g, i * 2, none⟩ = some (.int .i64 (sp i).1) ∧ X.cell? ⟨g, i * 2 + 1, none⟩ = some (.int .i64 (sp i).2)
  cells : ∀ i, i < n * 2 → (∃ x : Int, X.cell? ⟨g, i, none⟩ = some (.int .i64 x)) ∧ X.frozen? ⟨g, i, none⟩ = false
  gt : w.heap.size + 1 + 1 < g
theorem FolAt.below {w X Y : World} {c : Cnt} {W : Wd.Wld} {p1 p2 : Option Addr} {k1 k2 : Nat} {f1 f2 : Int} {sp : Nat → Int × Int} {n g k : Nat} (h : FolAt w X c W p1 p2 k1 k2 f1 f2 sp n g k) (hb : Below X.heap.size X Y) : FolAt w Y c W p1 p2 k1 k2 f1 f2 sp n g k :=
  ⟨h.ob.below hb, h.f.below hb, fun i hi => ⟨cell_below hb (h.done i hi).1, cell_below hb (h.done i hi).2⟩, fun i hi => by
    obtain ⟨⟨x, hx⟩, hf⟩ := h.cells i hi
    exact ⟨⟨x, cell_below hb hx⟩, (hb.frozen (p := ⟨g, i, none⟩) (cell_lt hx)).trans hf⟩, h.gt⟩
theorem ObsAt.only {w X Y : World} {c : Cnt} {W : Wd.Wld} {p1 p2 : Option Addr} {k1 k2 g : Nat} (h : ObsAt w X c W p1 p2 k1 k2) (ho : Only g X Y) (hg : w.heap.size + 1 < g) : ObsAt w Y c W p1 p2 k1 k2 :=
  ⟨h.cb.only ho (by omega), ho.cell (by omega) h.c0, ho.cell (by omega) h.c1, ho.cell (by omega) h.c2, ho.below h.bel (by omega)⟩
theorem FolAt.put {w X : World} {c : Cnt} {W : Wd.Wld} {p1 p2 : Option Addr} {k1 k2 : Nat} {f1 f2 : Int} {sp : Nat → Int × Int} {n g k : Nat} (h : FolAt w X c W p1 p2 k1 k2 f1 f2 sp n g k) (hk : k < n) (x y : Int) (hsp : sp k = (x, y)) : FolAt w ((X.setCell ⟨g, k * 2, none⟩ (.int .i64 x)).setCell ⟨g, k * 2 + 1, none⟩ (.int .i64 y)) c W p1 p2 k1 k2 f1 f2 sp n g (k + 1) := by
  have hg := h.gt
  have ho : Only g X ((X.setCell ⟨g, k * 2, none⟩ (.int .i64 x)).setCell ⟨g, k * 2 + 1, none⟩ (.int .i64 y)) := ((Only.refl g X).set _ _).set _ _
  obtain ⟨⟨x0, hx0⟩, -⟩ := h.cells (k * 2) (by omega)
  obtain ⟨⟨x1, hx1⟩, -⟩ := h.cells (k * 2 + 1) (by omega)
  have s0 : ((X.setCell ⟨g, k * 2, none⟩ (.int .i64 x)).setCell ⟨g, k * 2 + 1, none⟩ (.int .i64 y)).cell? ⟨g, k * 2, none⟩ = some (.int .i64 x) := other_cell (by omega) (World.cell?_setCell_same _ _ _ hx0)
  have s1 : ((X.setCell ⟨g, k * 2, none⟩ (.int .i64 x)).setCell ⟨g, k * 2 + 1, none⟩ (.int .i64 y)).cell? ⟨g, k * 2 + 1, none⟩ = some (.int .i64 y) := World.cell?_setCell_same _ _ _ (other_cell (by omega) hx1)
  refine ⟨h.ob.only ho (by omega), ⟨ho.cell (by omega) h.f.1, ho.cell (by omega) h.f.2⟩, fun i hi => ?_, fun i hi => ?_, hg⟩
  · by_cases e : i = k
    · subst e; rw [hsp]; exact ⟨s0, s1⟩
    · have := h.done i (by omega)
      exact ⟨other_cell (by omega) (other_cell (by omega) this.1), other_cell (by omega) (other_cell (by omega) this.2)⟩
  · obtain ⟨⟨z, hz⟩, hf⟩ := h.cells i hi
    refine ⟨?_, by rw [World.frozen?_setCell, World.frozen?_setCell]; exact hf⟩
    by_cases e : i = k * 2
    · subst e; exact ⟨_, s0⟩
    · by_cases e2 : i = k * 2 + 1
      · subst e2; exact ⟨_, s1⟩
      · exact ⟨z, other_cell (by omega) (other_cell (by omega) hz)⟩
theorem fol_new (w : World) (c : Cnt) (W : Wd.Wld) (p1 p2 : Option Addr) (k1 k2 : Nat) (f1 f2 : Int) :
    ObsAt w (((w.alloc (.cells #[.int .i64 c.f, .int .i64 c.o, .int .i64 c.j, .int .i64 c.g, .int .i64 c.r, .int .i64 c.d, .int .i64 c.i] 34)).alloc (.cells #[.int .u64 W.seed, .slice p1 W.chs.length k1, .slice p2 W.cls.length k2] 38)).alloc (.cells #[.int .i64 f1, .int .i64 f2] 31)) c W p1 p2 k1 k2 ∧
    SpBox (((w.alloc (.cells #[.int .i64 c.f, .int .i64 c.o, .int .i64 c.j, .int .i64 c.g, .int .i64 c.r, .int .i64 c.d, .int .i64 c.i] 34)).alloc (.cells #[.int .u64 W.seed, .slice p1 W.chs.length k1, .slice p2 W.cls.length k2] 38)).alloc (.cells #[.int .i64 f1, .int .i64 f2] 31)) (w.heap.size + 1 + 1) f1 f2 :=
  ⟨(ObsAt.new w c W p1 p2 k1 k2).below (below_alloc (Below.refl _ _) _), by simp [go_sem], by simp [go_sem]⟩
theorem pair_ok {c : Cnt} {W : Wd.Wld} {a b s : Int} (h : pairErr c W a b s = 0) : cntB c = true ∧ Wd.findErr W a [s] = 0 ∧ Wd.findErr W b [s] = 0 ∧ a ≠ b ∧ meetB c s = true := by
  unfold pairErr at h
  have key : ∀ k, (Wd.phaseE W k s).e = 0 → Wd.findErr W k [s] = 0 := fun k hk => by
    unfold Wd.phaseE at hk
    by_cases h0 : Wd.findErr W k [s] = 0
    · exact h0
    · rw [if_neg h0] at hk; exact hk
  by_cases h1 : cntB c = true
  · rw [if_pos h1] at h
    by_cases h2 : (Wd.phaseE W a s).e = 0
    · rw [if_pos h2] at h
      by_cases h3 : (Wd.phaseE W b s).e = 0
      · rw [if_pos h3] at h
        by_cases h4 : a = b
        · rw [if_pos h4] at h; cases h
        · rw [if_neg h4] at h
          by_cases h5 : meetB c s = true
          · exact ⟨h1, key a h2, key b h3, h4, h5⟩
          · rw [if_neg h5] at h; cases h
      · rw [if_neg h3] at h; exact absurd h h3
    · rw [if_neg h2] at h; exact absurd h h2
  · rw [if_neg h1] at h; cases h
set_option maxRecDepth 100000 in
set_option maxHeartbeats 4000000 in
theorem follow_pair (c : Cnt) (W : Wd.Wld) (a b from_ step : Int) (n : Nat) (lp : Option Addr) (lc : Nat) (f1 f2 : Int) (p1 p2 : Option Addr) (k1 k2 : Nat) (w : World) (ht : Wd.Tabs w) (hW : Wd.WldIn w W p1 p2) (h : pairErr c W a b from_ ≠ 0) :
    Calls Tryz.prog 16 #[cntVal c, wV W p1 p2 k1 k2, .int .i64 a, .int .i64 b, .int .i64 from_, .int .i64 step, .slice lp n lc, .agg #[.int .i64 f1, .int .i64 f2]] w fun e w' => e = .returned (.tuple #[.slice none 0 0, .int .i64 (pairErr c W a b from_)]) ∧ Below w.heap.size w w' := by
  have HB := Lib.hid (fol_new w c W p1 p2 k1 k2 f1 f2).1
  have HF := Lib.hid (fol_new w c W p1 p2 k1 k2 f1 f2).2
  have HPA := Lib.hid (fun X (hb : Below w.heap.size w X) => checkPair_any c W a b from_ p1 p2 k1 k2 X (ht.below hb) (hW.below hb))
  obtain ⟨r, hr⟩ : ∃ r, r = pairErr c W a b from_ := ⟨_, rfl⟩
  rw [← hr] at h HPA ⊢
  have hne : (r != 0) = true := by simpa using h
  unfold cntVal wV at *
  clear ht hW h hr
  go_enter Tryz.func16, Tryz.ntmps16
  go_upto_region 1 with fail
  generalize (((w.alloc (.cells #[.int .i64 c.f, .int .i64 c.o, .int .i64 c.j, .int .i64 c.g, .int .i64 c.r, .int .i64 c.d, .int .i64 c.i] 34)).alloc (.cells #[.int .u64 W.seed, .slice p1 W.chs.length k1, .slice p2 W.cls.length k2] 38)).alloc (.cells #[.int .i64 f1, .int .i64 f2] 31)) = W0 at *
  obtain ⟨⟨x0, x1, x2, x3, x4, x5, x6⟩, l0, l1, l2, -⟩ := HB.out
  have zx := cell_lt x0
  have zl := cell_lt l0
  go_wp2_with (go_at_call 38; refine (HPA.out _ HB.out.bel).mono ?_; rintro e w1 ⟨rfl, hb1⟩; have HB1 := Lib.hid (HB.out.below hb1); have HF1 := Lib.hid (HF.out.below hb1); clear hb1)
  go_ret2
  exact ⟨rfl, HB1.out.bel⟩
set_option maxRecDepth 100000 in
set_option maxHeartbeats 4000000 in
theorem follow_ser (c : Cnt) (W : Wd.Wld) (a b from_ step : Int) (n : Nat) (lp : Option Addr) (lc : Nat) (f1 f2 : Int) (p1 p2 : Option Addr) (k1 k2 : Nat) (w : World) (ht : Wd.Tabs w) (hW : Wd.WldIn w W p1 p2) (h : pairErr c W a b from_ = 0) (hs : serErr c from_ step n ≠ 0) :
    Calls Tryz.prog 16 #[cntVal c, wV W p1 p2 k1 k2, .int .i64 a, .int .i64 b, .int .i64 from_, .int .i64 step, .slice lp n lc, .agg #[.int .i64 f1, .int .i64 f2]] w fun e w' => e = .returned (.tuple #[.slice none 0 0, .int .i64 (serErr c from_ step n)]) ∧ Below w.heap.size w w' := by
  have HB := Lib.hid (fol_new w c W p1 p2 k1 k2 f1 f2).1
  have HF := Lib.hid (fol_new w c W p1 p2 k1 k2 f1 f2).2
  have HPA := Lib.hid (fun X (hb : Below w.heap.size w X) => checkPair_any c W a b from_ p1 p2 k1 k2 X (ht.below hb) (hW.below hb))
  obtain ⟨hc, hfa, -, -, -⟩ := pair_ok h
  have HSE := Lib.hid (fun X => checkSeries_any c from_ step n X (cntB_in hc) (Wd.sec_of hfa) (by omega))
  rw [h] at HPA
  obtain ⟨r, hr⟩ : ∃ r, r = serErr c from_ step n := ⟨_, rfl⟩
  rw [← hr] at hs HSE ⊢
  have hne : (r != 0) = true := by simpa using hs
  unfold cntVal wV at *
  clear ht hW h hr hs hc hfa
  go_enter Tryz.func16, Tryz.ntmps16
  go_upto_region 1 with fail
  generalize (((w.alloc (.cells #[.int .i64 c.f, .int .i64 c.o, .int .i64 c.j, .int .i64 c.g, .int .i64 c.r, .int .i64 c.d, .int .i64 c.i] 34)).alloc (.cells #[.int .u64 W.seed, .slice p1 W.chs.length k1, .slice p2 W.cls.length k2] 38)).alloc (.cells #[.int .i64 f1, .int .i64 f2] 31)) = W0 at *
  obtain ⟨⟨x0, x1, x2, x3, x4, x5, x6⟩, l0, l1, l2, -⟩ := HB.out
  have zx := cell_lt x0
  have zl := cell_lt l0
  go_upto_region 4 with (go_at_call 38; refine (HPA.out _ HB.out.bel).mono ?_; rintro e w1 ⟨rfl, hb1⟩; have HB1 := Lib.hid (HB.out.below hb1); have HF1 := Lib.hid (HF.out.below hb1); clear hb1)
  clear x0 x1 x2 x3 x4 x5 x6 l0 l1 l2 zx zl HB HF
  obtain ⟨x0, x1, x2, x3, x4, x5, x6⟩ := HB1.out.cb
  have zx := cell_lt x0
  go_wp2_with (go_at_call 39; refine (HSE.out _).mono ?_; rintro e w2 ⟨rfl, hb2⟩; have HB2 := Lib.hid (HB1.out.below hb2); have HF2 := Lib.hid (HF1.out.below hb2); clear hb2)
  go_ret2
  exact ⟨rfl, HB2.out.bel⟩
end Go.Proofs.YtmfpnfdoidihcaaGreatDoor.Ct
namespace Go.Proofs.YtmfpnfdoidihcaaGreatDoor.Ct
open Go Go.RowKit Go.Shelf
attribute [local go_sem] Oper.semAt_some
theorem span_bd (c : Cnt) (mid lo hi first : Int) : ∀ n, ∀ x ∈ spanL c mid lo hi first n, lo ≤ x.1 ∧ x.2 ≤ hi ∧ x.1 ≤ x.2
  | 0, x, h => by cases h
  | n + 1, x, h => by
    unfold spanL at h
    split at h
    · rename_i hc
      rcases List.mem_append.1 h with h | h
      · exact span_bd c mid lo hi first n x h
      · rw [List.mem_singleton.1 h]
        exact ⟨Int.le_max_right _ _, Int.min_le_right _ _, hc⟩
    · exact span_bd c mid lo hi first n x h
theorem res_bd {c : Cnt} {m lo hi : Int} (h : (resS c m lo hi).2 = 0) : lo ≤ (resS c m lo hi).1.1 ∧ (resS c m lo hi).1.2 ≤ hi ∧ (resS c m lo hi).1.1 ≤ (resS c m lo hi).1.2 ∧ -1000000000000000 ≤ lo ∧ hi ≤ 1000000000000000 := by
  unfold resS at h ⊢
  by_cases h1 : (showB c m && inDiff lo && inDiff hi) = true
  · rw [if_pos h1] at h ⊢
    by_cases h2 : hi < lo
    · rw [if_pos h2] at h; cases h
    · rw [if_neg h2] at h ⊢
      simp only [Bool.and_eq_true] at h1
      have b1 := inDiff_bd h1.1.2
      have b2 := inDiff_bd h1.2
      have hs := span_bd c (midS c m) lo hi (firstS c m lo) (turnN c m lo hi)
      change ∀ x ∈ foundL c m lo hi, _ at hs
      cases hf : foundL c m lo hi with
      | nil => rw [hf] at h; cases h
      | cons x L =>
        cases L with
        | nil =>
          have := hs x (by rw [hf]; simp)
          exact ⟨this.1, this.2.1, this.2.2, b1.1, b2.2⟩
        | cons y L => rw [hf] at h; cases h
  · rw [if_neg h1] at h; cases h
theorem fol_bd {c : Cnt} {W : Wd.Wld} {a b from_ step : Int} {m : Nat → Int} {f1 f2 : Int} : ∀ {i : Nat}, (folS c W a b from_ step m f1 f2 i).2 = 0 → (-1000000000000000 ≤ (folS c W a b from_ step m f1 f2 i).1.1 ∧ (folS c W a b from_ step m f1 f2 i).1.1 ≤ 1000000000000000) ∧ (-1000000000000000 ≤ (folS c W a b from_ step m f1 f2 i).1.2 ∧ (folS c W a b from_ step m f1 f2 i).1.2 ≤ 1000000000000000)
  | 0, h => by
    have := res_bd (show (resS c (m 0) f1 f2).2 = 0 from h)
    show (-1000000000000000 ≤ (resS c (m 0) f1 f2).1.1 ∧ (resS c (m 0) f1 f2).1.1 ≤ 1000000000000000) ∧ (-1000000000000000 ≤ (resS c (m 0) f1 f2).1.2 ∧ (resS c (m 0) f1 f2).1.2 ≤ 1000000000000000)
    omega
  | i + 1, h => by
    unfold folS at h ⊢
    by_cases h1 : (folS c W a b from_ step m f1 f2 i).2 = 0
    · rw [if_pos h1] at h ⊢
      split at h
      · rename_i h2
        rw [if_pos h2]
        have := res_bd h
        omega
      · rename_i h2
        exact absurd h h2
    · rw [if_neg h1] at h
      exact absurd h h1
theorem fol_last {c : Cnt} {W : Wd.Wld} {a b from_ step : Int} {m : Nat → Int} {f1 f2 : Int} {k n : Nat} (h : (folS c W a b from_ step m f1 f2 k).2 ≠ 0) (hk : k < n) : folErr c W a b from_ step m f1 f2 n = (folS c W a b from_ step m f1 f2 k).2 := by
  obtain ⟨j, rfl⟩ : ∃ j, n = j + 1 := ⟨n - 1, by omega⟩
  show (folS c W a b from_ step m f1 f2 j).2 = _
  rw [folS_stays h j (by omega)]
/-- all is as it was but block b -/
structure Almost (b : Nat) (X Y : World) : Prop where
  os : Y.os = X.os
  tape : Y.tape = X.tape
  output : Y.output = X.output
  size : X.heap.size ≤ Y.heap.size
  block : ∀ k, k < X.heap.size → k ≠ b → Y.heap[k]? = X.heap[k]?
theorem Almost.drew (X : World) (b : Nat) : Almost b X X.drew := ⟨rfl, rfl, rfl, Nat.le_refl _, fun _ _ _ => rfl⟩
theorem Almost.refl (X : World) (b : Nat) : Almost b X X := ⟨rfl, rfl, rfl, Nat.le_refl _, fun _ _ _ => rfl⟩
theorem Almost.trans {b : Nat} {X Y Z : World} (h : Almost b X Y) (k : Almost b X Y → Almost b Y Z) : Almost b X Z :=
  have q := k h
  ⟨q.os.trans h.os, q.tape.trans h.tape, q.output.trans h.output, Nat.le_trans h.size q.size, fun i hi hn => (q.block i (Nat.lt_of_lt_of_le hi h.size) hn).trans (h.block i hi hn)⟩
theorem Almost.of_below {b : Nat} {X Y Z : World} (h : Below Y.heap.size Y Z) (_hs : X.heap.size ≤ Y.heap.size) : Almost b X Y → Almost b Y Z := fun _ => ⟨h.os, h.tape, h.output, h.size, fun k hk _ => h.block k hk⟩
theorem Almost.only {b : Nat} {X Y Z : World} (h : Almost b X Y) (k : Only b Y Z) : Almost b X Z :=
  ⟨k.os.trans h.os, k.tape.trans h.tape, k.output.trans h.output, by rw [k.size]; exact h.size, fun i hi hn => (k.block i hn).trans (h.block i hi hn)⟩
theorem Almost.cell {b k o : Nat} {X Y : World} {v : Value} (h : Almost b X Y) (hk : k ≠ b) (hc : X.cell? ⟨k, o, none⟩ = some v) : Y.cell? ⟨k, o, none⟩ = some v :=
  (World.cell?_of_block (a := ⟨k, o, none⟩) (h.block k (cell_lt hc) hk)).trans hc
theorem Almost.frozen {b k o : Nat} {X Y : World} {v : Value} (h : Almost b X Y) (hk : k ≠ b) (hc : X.cell? ⟨k, o, none⟩ = some v) (hf : X.frozen? ⟨k, o, none⟩ = false) : Y.frozen? ⟨k, o, none⟩ = false :=
  (World.frozen?_of_block (a := ⟨k, o, none⟩) (h.block k (cell_lt hc) hk)).trans hf
theorem Almost.bel {b n : Nat} {A X Y : World} (h : Almost b X Y) (hb : Below n A X) (hn : n ≤ b ∧ n ≤ X.heap.size) : Below n A Y :=
  hb.trans ⟨h.os, h.tape, h.output, h.size, fun k hk => h.block k (by omega) (by omega)⟩
/-- a span's box that may be written -/
structure WS (X : World) (b : Nat) (x y : Int) : Prop where
  c0 : X.cell? ⟨b, 0, none⟩ = some (.int .i64 x)
  c1 : X.cell? ⟨b, 1, none⟩ = some (.int .i64 y)
  f0 : X.frozen? ⟨b, 0, none⟩ = false
  f1 : X.frozen? ⟨b, 1, none⟩ = false
theorem WS.new (X : World) (x y : Int) (t : TypeId) : WS (X.alloc (.cells #[.int .i64 x, .int .i64 y] t)) X.heap.size x y := ⟨by simp, by simp, by simp, by simp⟩
theorem WS.below {X Y : World} {b : Nat} {x y : Int} (h : WS X b x y) (hb : Below X.heap.size X Y) : WS Y b x y := ⟨cell_below hb h.c0, cell_below hb h.c1, fz_below hb h.c0 h.f0, fz_below hb h.c1 h.f1⟩
theorem WS.store2 {X : World} {b : Nat} {x y : Int} (h : WS X b x y) (u v : Int) : ∀ Y, Y = (X.setCell ⟨b, 0, none⟩ (.int .i64 u)).setCell ⟨b, 1, none⟩ (.int .i64 v) → SpBox Y b u v ∧ Only b X Y := by
  rintro _ rfl
  exact ⟨⟨other_cell (by decide) (World.cell?_setCell_same _ _ _ h.c0), World.cell?_setCell_same _ _ _ (other_cell (by decide) h.c1)⟩, ((Only.refl b X).set 0 _).set 1 _⟩
theorem FolAt.almost {w X Y : World} {c : Cnt} {W : Wd.Wld} {p1 p2 : Option Addr} {k1 k2 : Nat} {f1 f2 : Int} {sp : Nat → Int × Int} {n g k b : Nat} (h : FolAt w X c W p1 p2 k1 k2 f1 f2 sp n g k) (ha : Almost b X Y) (hb : w.heap.size + 1 + 1 < b ∧ b ≠ g) : FolAt w Y c W p1 p2 k1 k2 f1 f2 sp n g k := by
  have hc := h.ob.cb
  refine ⟨⟨⟨ha.cell (by omega) hc.c0, ha.cell (by omega) hc.c1, ha.cell (by omega) hc.c2, ha.cell (by omega) hc.c3, ha.cell (by omega) hc.c4, ha.cell (by omega) hc.c5, ha.cell (by omega) hc.c6⟩, ha.cell (by omega) h.ob.c0, ha.cell (by omega) h.ob.c1, ha.cell (by omega) h.ob.c2, ha.bel h.ob.bel ⟨by omega, h.ob.bel.size⟩⟩,
    ⟨ha.cell (by omega) h.f.1, ha.cell (by omega) h.f.2⟩, fun i hi => ⟨ha.cell (Ne.symm hb.2) (h.done i hi).1, ha.cell (Ne.symm hb.2) (h.done i hi).2⟩, fun i hi => ?_, h.gt⟩
  obtain ⟨⟨x, hx⟩, hf⟩ := h.cells i hi
  exact ⟨⟨x, ha.cell (Ne.symm hb.2) hx⟩, ha.frozen (Ne.symm hb.2) hx hf⟩
/-- widen, whatever comes of it -/
theorem widen_any (W : Wd.Wld) (a b x y lo hi : Int) (p1 p2 : Option Addr) (k1 k2 : Nat) (w : World) (ht : Wd.Tabs w) (hW : Wd.WldIn w W p1 p2) (ha : 0 ≤ a) (hb : 0 ≤ b) (hlo : -1000000000000000 ≤ lo ∧ lo ≤ 1000000000000000) (hhi : -1000000000000000 ≤ hi ∧ hi ≤ 1000000000000000) :
    Calls Tryz.prog 40 #[wV W p1 p2 k1 k2, .int .i64 a, .int .i64 b, .int .i64 x, .int .i64 y, .agg #[.int .i64 lo, .int .i64 hi]] w fun e' w' => e' = .returned (.tuple #[.agg #[.int .i64 (widE W a b x y lo hi).1.1, .int .i64 (widE W a b x y lo hi).1.2], .int .i64 (widE W a b x y lo hi).2]) ∧ Below w.heap.size w w' := by
  unfold widE
  by_cases h1 : (Wd.growthE W a x y).e = 0
  · rw [if_pos h1]
    by_cases h2 : (Wd.growthE W b x y).e = 0
    · rw [if_pos h2]
      obtain ⟨A, rfl⟩ : ∃ A : Nat, a = (A : Int) := ⟨a.toNat, by omega⟩
      obtain ⟨B, rfl⟩ : ∃ B : Nat, b = (B : Int) := ⟨b.toNat, by omega⟩
      exact widen_ok W A B x y lo hi p1 p2 k1 k2 w ht hW h1 h2 hlo hhi
    · rw [if_neg h2]
      exact widen_no W a b x y lo hi _ p1 p2 k1 k2 w ht hW ⟨h2, .inr ⟨h1, rfl⟩⟩
  · rw [if_neg h1]
    exact widen_no W a b x y lo hi _ p1 p2 k1 k2 w ht hW ⟨h1, .inl rfl⟩
theorem ser_ok {c : Cnt} {from_ step : Int} {n : Nat} (hf : 0 ≤ from_ ∧ from_ ≤ 1000000) (h : serErr c from_ step n = 0) : 1 ≤ step ∧ n ≤ 2000 ∧ ∀ i : Nat, i < n → 0 ≤ from_ + (i : Int) * step ∧ from_ + (i : Int) * step ≤ 1000000 ∧ (i : Int) * step ≤ 1000000 ∧ 0 ≤ (i : Int) * step := by
  unfold serErr at h
  by_cases h1 : step < 1
  · rw [if_pos h1] at h; cases h
  · rw [if_neg h1] at h
    by_cases h2 : (2000 : Int) < n
    · rw [if_pos h2] at h; cases h
    · rw [if_neg h2] at h
      refine ⟨by omega, by omega, fun i hi => ?_⟩
      by_cases h3 : (n : Int) ≤ 1
      · obtain rfl : i = 0 := by omega
        simp; omega
      · rw [if_neg h3] at h
        by_cases h4 : (1000000 - from_) / ((n : Int) - 1) < step
        · rw [if_pos h4] at h; cases h
        · have e1 : step * ((n : Int) - 1) ≤ (1000000 - from_) / ((n : Int) - 1) * ((n : Int) - 1) := Int.mul_le_mul_of_nonneg_right (by omega) (by omega)
          have e2 : (1000000 - from_) / ((n : Int) - 1) * ((n : Int) - 1) ≤ 1000000 - from_ := Int.ediv_mul_le _ (by omega)
          have e3 : (i : Int) * step ≤ ((n : Int) - 1) * step := Int.mul_le_mul_of_nonneg_right (by omega) (by omega)
          have e4 : 0 ≤ (i : Int) * step := Int.mul_nonneg (by omega) (by omega)
          have e5 : ((n : Int) - 1) * step = step * ((n : Int) - 1) := Int.mul_comm _ _
          omega
def FolRet (c : Cnt) (W : Wd.Wld) (a b from_ step : Int) (m : Nat → Int) (n : Nat) (f1 f2 : Int) (w : World) (e : Ending) (w' : World) : Prop :=
  (followErr c W a b from_ step m n f1 f2 ≠ 0 ∧ e = .returned (.tuple #[.slice none 0 0, .int .i64 (followErr c W a b from_ step m n f1 f2)]) ∨
   followErr c W a b from_ step m n f1 f2 = 0 ∧ ∃ g, e = .returned (.tuple #[.slice (some ⟨g, 0, none⟩) n n, .int .i64 0]) ∧ w.heap.size ≤ g ∧
     ∀ i, i < n → w'.cell? ⟨g, i * 2, none⟩ = some (.int .i64 (folS c W a b from_ step m f1 f2 i).1.1) ∧ w'.cell? ⟨g, i * 2 + 1, none⟩ = some (.int .i64 (folS c W a b from_ step m f1 f2 i).1.2)) ∧ Below w.heap.size w w'
set_option maxRecDepth 100000 in
set_option maxHeartbeats 8000000 in
theorem follow_ok (c : Cnt) (W : Wd.Wld) (a b from_ step : Int) (m : Nat → Int) (n : Nat) (lp : Option Addr) (lc : Nat) (f1 f2 : Int) (p1 p2 : Option Addr) (k1 k2 : Nat) (w : World) (ht : Wd.Tabs w) (hW : Wd.WldIn w W p1 p2) (hl : FnIn w m n lp) (h : pairErr c W a b from_ = 0) (hs : serErr c from_ step n = 0) :
    Calls Tryz.prog 16 #[cntVal c, wV W p1 p2 k1 k2, .int .i64 a, .int .i64 b, .int .i64 from_, .int .i64 step, .slice lp n lc, .agg #[.int .i64 f1, .int .i64 f2]] w (FolRet c W a b from_ step m n f1 f2 w) := by
  have HB := Lib.hid (fol_new w c W p1 p2 k1 k2 f1 f2).1
  have HF := Lib.hid (fol_new w c W p1 p2 k1 k2 f1 f2).2
  have HPA := Lib.hid (fun X (hb : Below w.heap.size w X) => checkPair_any c W a b from_ p1 p2 k1 k2 X (ht.below hb) (hW.below hb))
  obtain ⟨hc, hfa, hfb, -, -⟩ := pair_ok h
  have HSE := Lib.hid (fun X => checkSeries_any c from_ step n X (cntB_in hc) (Wd.sec_of hfa) (by omega))
  have HSO := Lib.hid (ser_ok (Wd.sec_of hfa) hs)
  have HFB := Lib.hid (Wd.sec_of hfa)
  have hE : followErr c W a b from_ step m n f1 f2 = folErr c W a b from_ step m f1 f2 n := by unfold followErr; rw [if_pos h, if_pos hs]
  rw [h] at HPA
  rw [hs] at HSE
  have HA0 := Lib.hid (Wd.allowed_find hfa).k16.1
  have HB0 := Lib.hid (Wd.allowed_find hfb).k16.1
  have HWD := Lib.hid (fun (x y lo hi : Int) X (hb : Below w.heap.size w X) hlo hhi => widen_any W a b x y lo hi p1 p2 k1 k2 X (ht.below hb) (hW.below hb) HA0.out HB0.out hlo hhi)
  have HRS := Lib.hid (fun (mm lo hi : Int) X => resolve_any c mm lo hi X (cntB_in hc))
  have HL := Lib.hid hl
  obtain ⟨i0, hi0, hz0, hz1, hz2⟩ := info_parts infoSp
  unfold FolRet
  rw [hE]
  unfold cntVal wV at *
  clear ht hW h hs hc hfa hfb hl hE
  go_enter Tryz.func16, Tryz.ntmps16
  go_upto_region 1 with fail
  generalize (((w.alloc (.cells #[.int .i64 c.f, .int .i64 c.o, .int .i64 c.j, .int .i64 c.g, .int .i64 c.r, .int .i64 c.d, .int .i64 c.i] 34)).alloc (.cells #[.int .u64 W.seed, .slice p1 W.chs.length k1, .slice p2 W.cls.length k2] 38)).alloc (.cells #[.int .i64 f1, .int .i64 f2] 31)) = W0 at *
  obtain ⟨⟨x0, x1, x2, x3, x4, x5, x6⟩, l0, l1, l2, -⟩ := HB.out
  have zx := cell_lt x0
  have zl := cell_lt l0
  go_upto_region 4 with (go_at_call 38; refine (HPA.out _ HB.out.bel).mono ?_; rintro e w1 ⟨rfl, hb1⟩; have HB1 := Lib.hid (HB.out.below hb1); have HF1 := Lib.hid (HF.out.below hb1); clear hb1)
  clear x0 x1 x2 x3 x4 x5 x6 l0 l1 l2 zx zl HB HF HPA
  obtain ⟨x0, x1, x2, x3, x4, x5, x6⟩ := HB1.out.cb
  have zx := cell_lt x0
  go_upto_region 7 with (go_at_call 39; refine (HSE.out _).mono ?_; rintro e w2 ⟨rfl, hb2⟩; have HB2 := Lib.hid (HB1.out.below hb2); have HF2 := Lib.hid (HF1.out.below hb2); clear hb2)
  clear x0 x1 x2 x3 x4 x5 x6 zx HB1 HF1 HSE
  have HLT0 := Lib.hid (cell_lt HF2.out.1)
  go_wp2_with (at_make; refine wpList_make_full _ rfl _ _ 52 rfl w2.heap.size 31 i0 (.agg #[.int .i64 0, .int .i64 0]) 2 Tryz.underlying52 hi0 hz0 hz1 .i64 .i64 _ _ n rfl rfl rfl rfl (by rw [hz2]; have := HSO.out.2.1; omega) (by have := HSO.out.2.1; unfold maxLen; omega) (Nat.le_refl _) ?_; intro w3 hown0 hgrow0)
  have hb3 : Below w2.heap.size w2 w3 := (Below.refl _ _).grown hgrow0 (Nat.le_refl _) (fun k hk => by cases hk)
  have HU : Hid (FolAt w w3 c W p1 p2 k1 k2 f1 f2 (fun i => (folS c W a b from_ step m f1 f2 i).1) n w2.heap.size 0) := Lib.hid ⟨HB2.out.below hb3, HF2.out.below hb3, fun i hi => absurd hi (Nat.not_lt_zero i), by
    rw [show (Value.agg #[Value.int .i64 0, Value.int .i64 0]).cells = #[.int .i64 0, .int .i64 0] from rfl, made_two] at hown0
    intro i hi
    refine ⟨⟨0, ?_⟩, ?_⟩
    · have := World.ownsRow.cells hown0 (g := w2.heap.size) rfl i (.int .i64 0) (by simp [hi])
      rwa [add_plain, Nat.zero_add] at this
    · rcases hown0.2 with ⟨e, _⟩ | ⟨g', cap', cur, e, hg, hgb, _⟩
      · cases e
      · cases e
        simp [World.frozen?, hgb], HLT0.out⟩
  clear hown0 hgrow0 hb3 HB2 HF2 hz0 hz1 hz2 hi0 HLT0
  generalize w2.heap.size = g at *
  go_loopw [16, 17, 21, 22, 23, 24, 25, 49] (fun s16 s17 s21 s22 s23 s24 s25 s49 wr => ∃ (k : Nat) (v21 v22 v23 v24 v25 : Value), k ≤ n ∧ s16 = .slice none 0 0 ∧ s17 = .int .i64 0 ∧ s21 = v21 ∧ s22 = v22 ∧ s23 = v23 ∧ s24 = v24 ∧ s25 = v25 ∧ s49 = .int .i64 (k : Int) ∧ Hid (FolAt w wr c W p1 p2 k1 k2 f1 f2 (fun i => (folS c W a b from_ step m f1 f2 i).1) n g k) ∧ Hid (∀ i, i < k → (folS c W a b from_ step m f1 f2 i).2 = 0)) (fun _ _ _ _ _ _ _ s49 _ => n - (intOf s49).toNat)
  case atStart => exact ⟨0, _, _, _, _, _, Nat.zero_le _, rfl, rfl, rfl, rfl, rfl, rfl, rfl, rfl, HU, Lib.hid (fun i hi => absurd hi (Nat.not_lt_zero i))⟩
  case round =>
    obtain ⟨k, v21, v22, v23, v24, v25, hk, rfl, rfl, rfl, rfl, rfl, rfl, rfl, rfl, HT, HE⟩ := hrel
    by_cases hlt : k < n
    · have hki : (k : Int) < n := by omega
      have HK := Lib.hid hlt
      obtain ⟨lb, lo_, rfl, hcell⟩ := (HL.out.below HT.out.ob.bel).resolve_left (by omega)
      have xm := hcell k hlt
      have zm := cell_lt xm
      obtain ⟨s0, s1⟩ := HT.out.f
      have zs := cell_lt s0
      have v1' : IntKind.i64.wrap ((k : Int) + 1) = (k : Int) + 1 := IntWalk.i64_in _ (by have := HSO.out.2.1; omega)
      clear hcell hlt hk
      go_upto_region 12 with fail
      have hbx := below_alloc (Below.refl wr.heap.size wr) (.cells #[.int .i64 f1, .int .i64 f2] 31)
      have HT5 := Lib.hid (HT.out.below hbx)
      have HZ5 := Lib.hid (WS.new wr f1 f2 31)
      have HG5 := Lib.hid (show w.heap.size + 1 + 1 < wr.heap.size ∧ wr.heap.size ≠ g from ⟨cell_lt HT.out.f.1, fun e => by
        obtain ⟨⟨x, hx⟩, -⟩ := HT.out.cells 0 (by have := HK.out; omega)
        have := cell_lt hx
        omega⟩)
      clear hbx s0 s1 zs xm zm HT
      generalize wr.alloc (.cells #[.int .i64 f1, .int .i64 f2] 31) = W4 at *
      generalize wr.heap.size = b23 at *
      go_upto_if 56 with fail
      go_cut [24, 25] from 56 to 78 (fun s24 s25 wx => ∃ (v1 v2 e' : Int) (v25 : Value), s24 = .int .i64 e' ∧ s25 = v25 ∧ Hid (SpBox wx b23 v1 v2) ∧ Hid (FolAt w wx c W p1 p2 k1 k2 f1 f2 (fun i => (folS c W a b from_ step m f1 f2 i).1) n g k) ∧ Hid (folS c W a b from_ step m f1 f2 k = if e' = 0 then resS c (m k) v1 v2 else ((0, 0), e')))
      case first =>
        cases k with
        | zero =>
          go_wp2_with fail
          go_meet
          exact ⟨f1, f2, 0, _, rfl, rfl, Lib.hid ⟨HZ5.out.c0, HZ5.out.c1⟩, HT5, Lib.hid (by rw [if_pos rfl]; rfl)⟩
        | succ q =>
          have hk0 : (0 : Int) < ((q + 1 : Nat) : Int) := by omega
          have hk0b : (0 : Int) < (q : Int) + 1 := by omega
          have hfq := HE.out q (by omega)
          have hbd := fol_bd hfq
          obtain ⟨d0, d1⟩ := HT5.out.done q (by omega)
          obtain ⟨⟨⟨u1, u2⟩, u3⟩, hu⟩ : ∃ r, r = folS c W a b from_ step m f1 f2 q := ⟨_, rfl⟩
          obtain ⟨-, hn2, hsec⟩ := HSO.out
          obtain ⟨hs1, hs2, hs3, hs4⟩ := hsec (q + 1) HK.out
          obtain ⟨ht1, ht2, ht3, ht4⟩ := hsec q (by have := HK.out; omega)
          have hmul : ((q + 1 : Nat) : Int) * step = (q : Int) * step + step := by rw [Int.natCast_add, Int.add_mul]; simp
          have hfb := HFB.out
          have hstep := HSO.out.1
          rw [← hu] at hbd hfq
          dsimp only at hbd hfq d0 d1
          rw [← hu] at d0 d1
          dsimp only at d0 d1
          obtain ⟨⟨⟨v1, v2⟩, e'⟩, hv⟩ : ∃ r, r = widE W a b (from_ + (q : Int) * step) (from_ + ((q + 1 : Nat) : Int) * step) u1 u2 := ⟨_, rfl⟩
          have HFS : Hid (folS c W a b from_ step m f1 f2 (q + 1) = if e' = 0 then resS c (m (q + 1)) v1 v2 else ((0, 0), e')) := Lib.hid (by
            show (if (folS c W a b from_ step m f1 f2 q).2 = 0 then _ else _) = _
            rw [← hu, if_pos hfq]
            dsimp only
            rw [← hv])
          obtain ⟨sx, hsx⟩ : ∃ sx, sx = from_ + (q : Int) * step := ⟨_, rfl⟩
          obtain ⟨sy, hsy⟩ : ∃ sy, sy = from_ + ((q + 1 : Nat) : Int) * step := ⟨_, rfl⟩
          rw [← hsx, ← hsy] at hv
          obtain ⟨qs, hqs⟩ : ∃ qs, qs = ((q + 1 : Nat) : Int) * step := ⟨_, rfl⟩
          rw [← hqs] at hs1 hs2 hs3 hs4 hmul hsy
          have HWI := Lib.hid (fun X hb => HWD.out sx sy u1 u2 X hb hbd.1 hbd.2)
          rw [← hv] at HWI
          dsimp only at HWI
          have j1 : IntKind.i64.wrap (((q + 1 : Nat) : Int) * step) = qs := by rw [← hqs]; exact IntWalk.i64_in _ (by omega)
          have j1b : IntKind.i64.wrap (((q : Int) + 1) * step) = qs := by rw [← j1]; simp
          have j2 : IntKind.i64.wrap (from_ + qs) = sy := by rw [hsy]; exact IntWalk.i64_in _ (by omega)
          have j3 : IntKind.i64.wrap (sy - step) = sx := by rw [show sy - step = sx by omega]; exact IntWalk.i64_in _ (by omega)
          have j4 : IntKind.i64.wrap (((q + 1 : Nat) : Int) - 1) = (q : Int) := by rw [IntWalk.i64_in _ (by omega)]; omega
          have j4b : IntKind.i64.wrap ((q : Int) + 1 - 1) = (q : Int) := by rw [IntWalk.i64_in _ (by omega)]; omega
          have j4c : IntKind.i64.wrap (q : Int) = (q : Int) := IntWalk.i64_in _ (by omega)
          have hqn : (q : Int) < n := by have := HK.out; omega
          obtain ⟨-, l0, l1, l2, hbw⟩ := HT5.out.ob
          have L0 := Lib.hid l0
          have L1 := Lib.hid l1
          have L2 := Lib.hid l2
          have D0 := Lib.hid d0
          have D1 := Lib.hid d1
          have HBW5 := Lib.hid hbw
          have HLT : Hid (w.heap.size + 1 ≠ b23 ∧ g ≠ b23) := Lib.hid ⟨by have := HG5.out; omega, Ne.symm HG5.out.2⟩
          clear hfq hbd hu hn2 hsec hs1 hs2 hs3 hs4 ht1 ht2 ht3 ht4 hmul hfb hstep hv hsx hsy hqs l0 l1 l2 d0 d1 hbw
          go_upto_region 14 with fail
          generalize W4 = W5 at *
          have HB23 : Hid (w.heap.size ≤ b23 ∧ w.heap.size ≤ W5.heap.size) := Lib.hid ⟨by have := HG5.out; omega, HBW5.out.size⟩
          have HZ0 : Hid (WS W5.drew b23 f1 f2) := Lib.hid ⟨HZ5.out.c0, HZ5.out.c1, HZ5.out.f0, HZ5.out.f1⟩
          refine wp_region_held_drew (S := fun w' => Almost b23 W5 w') (by kernel_rfl) (Almost.drew W5 b23) (fun hS0 => ?_)
          (try dsimp only at hS0)
          generalize W5.drew = X0 at *
          refine wpAnyH_take (i := 0) (v := ?_) rfl (by kernel_rfl) (by kernel_rfl) (by kernel_rfl) (fun _ _ _ h => h) (Or.inl ⟨by rfl, ?_⟩) (by assumption) ?_
          rotate_left
          · intro X hSX; (try dsimp only at hSX); have l0 := hSX.cell HLT.out.1 L0.out; have l1 := hSX.cell HLT.out.1 L1.out; have l2 := hSX.cell HLT.out.1 L2.out; have zl := cell_lt l0; go_simp; try with_reducible rfl
          simp only [Act.put, List.getElem_toArray, List.getElem_cons_zero, List.setIfInBounds_toArray, List.set_cons_zero, List.set_cons_succ]
          refine wpAnyH_take (i := 1) (v := ?_) rfl (by kernel_rfl) (by kernel_rfl) (by kernel_rfl) (fun _ _ _ h => h) (Or.inl ⟨by rfl, ?_⟩) (by assumption) ?_
          rotate_left
          · intro X hSX; (try dsimp only at hSX); go_simp; try with_reducible rfl
          simp only [Act.put, List.getElem_toArray, List.getElem_cons_succ, List.getElem_cons_zero, List.setIfInBounds_toArray, List.set_cons_zero, List.set_cons_succ]
          refine wpAnyH_take (i := 2) (v := ?_) rfl (by kernel_rfl) (by kernel_rfl) (by kernel_rfl) (fun _ _ _ h => h) (Or.inl ⟨by rfl, ?_⟩) (by assumption) ?_
          rotate_left
          · intro X hSX; (try dsimp only at hSX); go_simp; try with_reducible rfl
          simp only [Act.put, List.getElem_toArray, List.getElem_cons_succ, List.getElem_cons_zero, List.setIfInBounds_toArray, List.set_cons_zero, List.set_cons_succ]
          refine wpAnyH_take (i := 3) (v := ?_) rfl (by kernel_rfl) (by kernel_rfl) (by kernel_rfl) (fun _ _ _ h => h) (Or.inl ⟨by rfl, ?_⟩) (by assumption) ?_
          rotate_left
          · intro X hSX; (try dsimp only at hSX); go_simp; try with_reducible rfl
          simp only [Act.put, List.getElem_toArray, List.getElem_cons_succ, List.getElem_cons_zero, List.setIfInBounds_toArray, List.set_cons_zero, List.set_cons_succ]
          refine wpAnyH_take (i := 4) (v := ?_) rfl (by kernel_rfl) (by kernel_rfl) (by kernel_rfl) (fun _ _ _ h => h) (Or.inl ⟨by rfl, ?_⟩) (by assumption) ?_
          rotate_left
          · intro X hSX; (try dsimp only at hSX); go_simp; try with_reducible rfl
          simp only [Act.put, List.getElem_toArray, List.getElem_cons_succ, List.getElem_cons_zero, List.setIfInBounds_toArray, List.set_cons_zero, List.set_cons_succ]
          refine wpAnyH_take (i := 5) (v := ?_) rfl (by kernel_rfl) (by kernel_rfl) (by kernel_rfl) (fun _ _ _ h => h) (Or.inl ⟨by rfl, ?_⟩) (by assumption) ?_
          rotate_left
          · intro X hSX; (try dsimp only at hSX); go_simp; try with_reducible rfl
          simp only [Act.put, List.getElem_toArray, List.getElem_cons_succ, List.getElem_cons_zero, List.setIfInBounds_toArray, List.set_cons_zero, List.set_cons_succ]
          refine wpAnyH_take (i := 6) (v := ?_) rfl (by kernel_rfl) (by kernel_rfl) (by kernel_rfl) (fun _ _ _ h => h) (Or.inl ⟨by rfl, ?_⟩) (by assumption) ?_
          rotate_left
          · intro X hSX; (try dsimp only at hSX); go_simp; try with_reducible rfl
          simp only [Act.put, List.getElem_toArray, List.getElem_cons_succ, List.getElem_cons_zero, List.setIfInBounds_toArray, List.set_cons_zero, List.set_cons_succ]
          refine wpAnyH_take (i := 7) (v := ?_) rfl (by kernel_rfl) (by kernel_rfl) (by kernel_rfl) (fun _ _ _ h => h) (Or.inl ⟨by rfl, ?_⟩) (by assumption) ?_
          rotate_left
          · intro X hSX; (try dsimp only at hSX); go_simp; try with_reducible rfl
          simp only [Act.put, List.getElem_toArray, List.getElem_cons_succ, List.getElem_cons_zero, List.setIfInBounds_toArray, List.set_cons_zero, List.set_cons_succ]
          refine wpAnyH_take (i := 8) (v := ?_) rfl (by kernel_rfl) (by kernel_rfl) (by kernel_rfl) (fun _ _ _ h => h) (Or.inl ⟨by rfl, ?_⟩) (by assumption) ?_
          rotate_left
          · intro X hSX; (try dsimp only at hSX); go_simp; try with_reducible rfl
          simp only [Act.put, List.getElem_toArray, List.getElem_cons_succ, List.getElem_cons_zero, List.setIfInBounds_toArray, List.set_cons_zero, List.set_cons_succ]
          refine wpAnyH_take (i := 9) (v := ?_) rfl (by kernel_rfl) (by kernel_rfl) (by kernel_rfl) (fun _ _ _ h => h) (Or.inl ⟨by rfl, ?_⟩) (by assumption) ?_
          rotate_left
          · intro X hSX; (try dsimp only at hSX); go_simp; try with_reducible rfl
          simp only [Act.put, List.getElem_toArray, List.getElem_cons_succ, List.getElem_cons_zero, List.setIfInBounds_toArray, List.set_cons_zero, List.set_cons_succ]
          refine wpAnyH_take (i := 10) (v := ?_) rfl (by kernel_rfl) (by kernel_rfl) (by kernel_rfl) (fun _ _ _ h => h) (Or.inl ⟨by rfl, ?_⟩) (by assumption) ?_
          rotate_left
          · intro X hSX; (try dsimp only at hSX); go_simp; try with_reducible rfl
          simp only [Act.put, List.getElem_toArray, List.getElem_cons_succ, List.getElem_cons_zero, List.setIfInBounds_toArray, List.set_cons_zero, List.set_cons_succ]
          refine wpAnyH_take (i := 11) (v := ?_) rfl (by kernel_rfl) (by kernel_rfl) (by kernel_rfl) (fun _ _ _ h => h) (Or.inl ⟨by rfl, ?_⟩) (by assumption) ?_
          rotate_left
          · intro X hSX; (try dsimp only at hSX); have d0 := hSX.cell HLT.out.2 D0.out; have d1 := hSX.cell HLT.out.2 D1.out; have zd := cell_lt d0; go_simp; try with_reducible rfl
          simp only [Act.put, List.getElem_toArray, List.getElem_cons_succ, List.getElem_cons_zero, List.setIfInBounds_toArray, List.set_cons_zero, List.set_cons_succ]
          refine wpAnyH_ready (rs := [12]) (by kernel_rfl) (by simp) (AllReadyH.cons rfl (fun K hK => ?_) AllReadyH.nil)
          go_simp
          refine (HWI.out _ (hS0.bel HBW5.out HB23.out)).mono ?_
          rintro e X1 ⟨rfl, hby⟩
          go_wp2_with fail
          have hS1 := hS0.trans (Almost.of_below hby hS0.size)
          have HZ1 := Lib.hid (HZ0.out.below hby)
          refine hK.out _ _ hS1 (fun _ => ?_)
          clear hK K hby
          refine wpAnyH_take (i := 13) (v := ?_) rfl (by kernel_rfl) (by kernel_rfl) (by kernel_rfl) (fun _ _ _ h => h) (Or.inl ⟨by rfl, ?_⟩) (by assumption) ?_
          rotate_left
          · intro X hSX; (try dsimp only at hSX); go_simp; try with_reducible rfl
          simp only [Act.put, List.getElem_toArray, List.getElem_cons_succ, List.getElem_cons_zero, List.setIfInBounds_toArray, List.set_cons_zero, List.set_cons_succ]
          refine wpAnyH_take (i := 14) (v := ?_) rfl (by kernel_rfl) (by kernel_rfl) (by kernel_rfl) (fun _ _ _ h => h) (Or.inl ⟨by rfl, ?_⟩) (by assumption) ?_
          rotate_left
          · intro X hSX; (try dsimp only at hSX); go_simp; try with_reducible rfl
          simp only [Act.put, List.getElem_toArray, List.getElem_cons_succ, List.getElem_cons_zero, List.setIfInBounds_toArray, List.set_cons_zero, List.set_cons_succ]
          refine wpAnyH_take (i := 15) (v := ?_) rfl (by kernel_rfl) (by kernel_rfl) (by kernel_rfl) (fun _ _ _ h => h) (Or.inl ⟨by rfl, ?_⟩) (by assumption) ?_
          rotate_left
          · intro X hSX; (try dsimp only at hSX); go_simp; try with_reducible rfl
          simp only [Act.put, List.getElem_toArray, List.getElem_cons_succ, List.getElem_cons_zero, List.setIfInBounds_toArray, List.set_cons_zero, List.set_cons_succ]
          refine wpAnyH_ready (rs := [16]) (by kernel_rfl) (by simp) (AllReadyH.cons rfl (fun K hK => ?_) AllReadyH.nil)
          obtain ⟨x0, x1, q0, q1⟩ := HZ1.out
          have zx := cell_lt x0
          go_simp
          clear x0 x1 q0 q1 zx
          obtain ⟨hcb, honly⟩ := HZ1.out.store2 v1 v2 _ rfl
          have HV := Lib.hid hcb
          have hS2 := hS1.only honly
          refine hK.out _ _ hS2 (fun _ => ?_)
          clear hK K hcb honly
          generalize (X1.setCell ⟨b23, 0, none⟩ (.int .i64 v1)).setCell ⟨b23, 1, none⟩ (.int .i64 v2) = X2 at *
          refine wpAnyH_ready (rs := [17]) (by kernel_rfl) (by simp) (AllReadyH.cons rfl (fun K hK => ?_) AllReadyH.nil)
          go_simp
          refine hK.out _ _ hS2 (fun _ => ?_)
          clear hK K
          refine wpAnyH_done (by kernel_rfl) ?_ _
          go_wp2_with fail
          go_meet
          exact ⟨v1, v2, e', _, rfl, rfl, HV, Lib.hid (HT5.out.almost hS2 HG5.out), HFS⟩
      case rest =>
        obtain ⟨v1, v2, e', v25', rfl, rfl, HV, HT6, HFS⟩ := hcut
        clear HZ5 HT5 HG5
        by_cases he : e' = 0
        · subst he
          have hfs := HFS.out
          rw [if_pos rfl] at hfs
          obtain ⟨⟨⟨r1, r2⟩, r3⟩, hr⟩ : ∃ r, r = resS c (m k) v1 v2 := ⟨_, rfl⟩
          rw [← hr] at hfs
          have HR := Lib.hid (HRS.out (m k) v1 v2)
          rw [← hr] at HR
          unfold resVal spVal at HR
          dsimp only at HR
          have HF2 := Lib.hid hfs
          clear hfs hr HFS
          obtain ⟨t0, t1⟩ := HV.out
          have zt := cell_lt t0
          obtain ⟨x0, x1, x2, x3, x4, x5, x6⟩ := HT6.out.ob.cb
          have zx := cell_lt x0
          go_upto_region 17 with (go_at_call 41; refine (HR.out _).mono ?_; rintro e w7 ⟨rfl, hb7⟩; have HT7 := Lib.hid (HT6.out.below hb7); clear hb7; obtain ⟨⟨o0, y0⟩, z0⟩ := HT7.out.cells (k * 2) (by have := HK.out; omega); obtain ⟨⟨o1, y1⟩, z1⟩ := HT7.out.cells (k * 2 + 1) (by have := HK.out; omega); have zg := cell_lt y0)
          have HT8 := Lib.hid (HT7.out.put HK.out r1 r2 (by show (folS c W a b from_ step m f1 f2 k).1 = _; rw [HF2.out]))
          clear x0 x1 x2 x3 x4 x5 x6 zx t0 t1 zt y0 y1 z0 z1 zg HT6 HV HR
          by_cases h3 : r3 = 0
          · subst h3
            have HE2 : Hid (∀ i, i < k + 1 → (folS c W a b from_ step m f1 f2 i).2 = 0) := Lib.hid fun i hi => by
              by_cases e : i = k
              · subst e; rw [HF2.out]
              · exact HE.out i (by omega)
            go_wp2_with fail
            go_roundw
            case rel => exact ⟨k + 1, _, _, _, _, _, HK.out, rfl, rfl, rfl, rfl, rfl, rfl, rfl, by simp, HT8, HE2⟩
            case measure => have := HK.out; simp [intOf]; omega
          · have hne : (r3 != 0) = true := by simpa using h3
            have H3 := Lib.hid h3
            clear h3
            go_wp2_with fail
            go_ret2
            refine ⟨.inl ?_, HT8.out.ob.bel⟩
            rw [fol_last (k := k) (by rw [HF2.out]; exact H3.out) HK.out, HF2.out]
            exact ⟨H3.out, rfl⟩
        · have hfs := HFS.out
          rw [if_neg he] at hfs
          have hne : (e' != 0) = true := by simpa using he
          have hee : (e' == 0) = false := by simpa using he
          have HF2 := Lib.hid hfs
          have H3 := Lib.hid he
          clear hfs HFS he
          go_wp2_with fail
          go_ret2
          refine ⟨.inl ?_, HT6.out.ob.bel⟩
          rw [fol_last (k := k) (by rw [HF2.out]; exact H3.out) HK.out, HF2.out]
          exact ⟨H3.out, rfl⟩
    · obtain rfl : k = n := by omega
      have hki : ¬ (k : Int) < k := by omega
      clear hlt hk
      go_wp2_with fail
      go_ret2
      refine ⟨.inr ⟨?_, g, rfl, by have := HT.out.gt; omega, HT.out.done⟩, HT.out.ob.bel⟩
      cases k with
      | zero => rfl
      | succ q => exact HE.out q (by omega)
theorem follow_any (c : Cnt) (W : Wd.Wld) (a b from_ step : Int) (m : Nat → Int) (n : Nat) (lp : Option Addr) (lc : Nat) (f1 f2 : Int) (p1 p2 : Option Addr) (k1 k2 : Nat) (w : World) (ht : Wd.Tabs w) (hW : Wd.WldIn w W p1 p2) (hl : FnIn w m n lp) :
    Calls Tryz.prog 16 #[cntVal c, wV W p1 p2 k1 k2, .int .i64 a, .int .i64 b, .int .i64 from_, .int .i64 step, .slice lp n lc, .agg #[.int .i64 f1, .int .i64 f2]] w (FolRet c W a b from_ step m n f1 f2 w) := by
  by_cases h : pairErr c W a b from_ = 0
  · by_cases hs : serErr c from_ step n = 0
    · exact follow_ok c W a b from_ step m n lp lc f1 f2 p1 p2 k1 k2 w ht hW hl h hs
    · have e : followErr c W a b from_ step m n f1 f2 = serErr c from_ step n := by unfold followErr; rw [if_pos h, if_neg hs]
      exact (follow_ser c W a b from_ step n lp lc f1 f2 p1 p2 k1 k2 w ht hW h hs).mono fun _ _ q => ⟨.inl (by rw [e]; exact ⟨hs, q.1⟩), q.2⟩
  · have e : followErr c W a b from_ step m n f1 f2 = pairErr c W a b from_ := by unfold followErr; rw [if_neg h]
    exact (follow_pair c W a b from_ step n lp lc f1 f2 p1 p2 k1 k2 w ht hW h).mono fun _ _ q => ⟨.inl (by rw [e]; exact ⟨h, q.1⟩), q.2⟩
end Go.Proofs.YtmfpnfdoidihcaaGreatDoor.Ct
namespace Go.Proofs.YtmfpnfdoidihcaaGreatDoor.Ct
open Go Go.RowKit Go.Shelf
theorem obs_zero {c : Cnt} {V : Wd.Wld} {a b s : Int} (h : (obsE c V a b s).2 = 0) : cntB c = true ∧ (Wd.shownE V a s).e = 0 ∧ (Wd.shownE V b s).e = 0 ∧ a ≠ b ∧ meetB c s = true ∧ (obsE c V a b s).1 = shownS c V.seed s ((Wd.shownE V a s).v - (Wd.shownE V b s).v) := by
  unfold obsE at h ⊢
  by_cases h1 : cntB c = true
  · rw [if_pos h1] at h ⊢
    by_cases h2 : (Wd.shownE V a s).e = 0
    · rw [if_pos h2] at h ⊢
      by_cases h3 : (Wd.shownE V b s).e = 0
      · rw [if_pos h3] at h ⊢
        by_cases h4 : a = b
        · rw [if_pos h4] at h; cases h
        · rw [if_neg h4] at h ⊢
          have h5 : showErr c s ((Wd.shownE V a s).v - (Wd.shownE V b s).v) = 0 := h
          refine ⟨h1, h2, h3, h4, ?_, if_pos h5⟩
          unfold showErr at h5
          rw [if_pos h1] at h5
          by_cases h6 : meetB c s = true
          · exact h6
          · rw [if_neg h6] at h5; cases h5
      · rw [if_neg h3] at h; exact absurd h h3
    · rw [if_neg h2] at h; exact absurd h h2
  · rw [if_neg h1] at h; cases h
theorem shown_find {V : Wd.Wld} {k s : Int} (h : (Wd.shownE V k s).e = 0) : Wd.findErr V k [s] = 0 ∧ (Wd.shownE V k s).v = Wd.phaseS V.seed k (Wd.clkOf V k) (Wd.roomOf V k) s + Wd.whiteS V.seed k (Wd.clkOf V k) s := by
  have hr : Wd.runErr V k s = 0 := by
    by_cases hr : Wd.runErr V k s = 0
    · exact hr
    · unfold Wd.shownE at h; rw [if_neg hr] at h; exact absurd h hr
  refine ⟨(Wd.runErr_zero hr).1, ?_⟩
  unfold Wd.shownE
  rw [if_pos hr]
  rfl
theorem find_both {V : Wd.Wld} {k s t : Int} (h1 : Wd.findErr V k [s] = 0) (h2 : Wd.findErr V k [t] = 0) : Wd.findErr V k [s, t] = 0 := by
  obtain ⟨a1, a2, a3⟩ := Wd.findErr_zero h1
  obtain ⟨-, -, b3⟩ := Wd.findErr_zero h2
  unfold Wd.findErr
  rw [if_pos a1, if_pos a2, if_pos]
  simp only [Wd.secsOk, List.all_cons, List.all_nil, Bool.and_true] at a3 b3 ⊢
  rw [a3, b3]; rfl
/-- between two seconds what is shown of a clock changes by its growth and its noise -/
theorem grows {V : Wd.Wld} {k s t : Int} (hs : (Wd.shownE V k s).e = 0) (ht : (Wd.shownE V k t).e = 0) (hst : s ≤ t) : (Wd.growthE V k s t).e = 0 ∧ (Wd.growthE V k s t).a - 2 * (Wd.clkOf V k).white ≤ (Wd.shownE V k t).v - (Wd.shownE V k s).v ∧ (Wd.shownE V k t).v - (Wd.shownE V k s).v ≤ (Wd.growthE V k s t).b + 2 * (Wd.clkOf V k).white := by
  obtain ⟨f1, e1⟩ := shown_find hs
  obtain ⟨f2, e2⟩ := shown_find ht
  have al := Wd.allowed_find f1
  have w1 := Wd.white_bd V.seed k al.cin s
  have w2 := Wd.white_bd V.seed k al.cin t
  have hge : Wd.growErr V k s t = 0 := by
    unfold Wd.growErr
    rw [if_pos (find_both f1 f2), if_neg (by omega)]
  have hg : (Wd.growthE V k s t).e = 0 := by unfold Wd.growthE; rw [if_pos hge]
  have hG := (Wd.holds_growth V V.seed k s t).ok hg
  have hw : Wd.reseed V V.seed = V := rfl
  rw [hw] at hG
  have p1 : (Wd.phaseE V k s).v = Wd.phaseS V.seed k (Wd.clkOf V k) (Wd.roomOf V k) s := by unfold Wd.phaseE; rw [if_pos f1]
  have p2 : (Wd.phaseE V k t).v = Wd.phaseS V.seed k (Wd.clkOf V k) (Wd.roomOf V k) t := by unfold Wd.phaseE; rw [if_pos f2]
  rw [p1, p2] at hG
  obtain ⟨-, g1, g2, -, -⟩ := hG
  rw [e1, e2]
  exact ⟨hg, by omega, by omega⟩
/-- what Watch measured: the seconds, and what they say of step -/
structure Meas (c : Cnt) (V : Wd.Wld) (a b from_ step : Int) (n : Nat) : Prop where
  cnt : cntB c = true
  ne : a ≠ b
  sec : ∀ i : Nat, i < n → watS from_ (stW step) i = from_ + (i : Int) * step ∧ 0 ≤ (i : Int) * step ∧ (i : Int) * step ≤ 1000000 ∧ 0 ≤ from_ + (i : Int) * step ∧ from_ + (i : Int) * step ≤ 1000000
  one : 1 ≤ step
  ok : ∀ i : Nat, i < n → (Wd.shownE V a (from_ + (i : Int) * step)).e = 0 ∧ (Wd.shownE V b (from_ + (i : Int) * step)).e = 0 ∧ meetB c (from_ + (i : Int) * step) = true ∧
    watchM c V a b from_ step i = shownS c V.seed (from_ + (i : Int) * step) ((Wd.shownE V a (from_ + (i : Int) * step)).v - (Wd.shownE V b (from_ + (i : Int) * step)).v)
theorem meas_of {c : Cnt} {V : Wd.Wld} {a b from_ step : Int} {n : Nat} (hf : IntKind.i64.wrap from_ = from_) (hn : 1 ≤ n) (h : watchErr c V a b from_ step n = 0) : Meas c V a b from_ step n := by
  unfold watchErr at h
  by_cases h1 : cntB c = true
  · rw [if_pos h1] at h
    by_cases h2 : step < 1
    · rw [if_pos h2] at h; cases h
    · rw [if_neg h2] at h
      by_cases h3 : 0 ≤ (n : Int) ∧ (n : Int) ≤ 2000
      · rw [if_pos h3, Int.toNat_natCast] at h
        have hz := firstE_zero h
        have ob : ∀ i, i < n → _ := fun i hi => obs_zero (hz i hi)
        have sc : ∀ i, i < n → 0 ≤ watS from_ (stW step) i ∧ watS from_ (stW step) i ≤ 1000000 := fun i hi => Wd.sec_of (shown_find (ob i hi).2.1).1
        have s0 : watS from_ (stW step) 0 = from_ := by unfold watS; rw [show from_ + ((0 : Nat) : Int) * stW step = from_ by simp]; exact hf
        have c0 := sc 0 (by omega)
        rw [s0] at c0
        have hst : 1 ≤ stW step ∧ stW step ≤ 1000001 := by unfold stW; split <;> omega
        have hstep : 1 < n → stW step = step ∧ step ≤ 1000000 := fun h => by
          have c1 := sc 1 h
          unfold watS at c1
          rw [show ((1 : Nat) : Int) * stW step = stW step by simp, IntWalk.i64_in _ (by omega)] at c1
          have : stW step ≤ 1000000 := by omega
          unfold stW at this ⊢
          split at this
          · omega
          · rename_i hh; rw [if_neg hh]; exact ⟨rfl, by omega⟩
        have sec : ∀ i : Nat, i < n → watS from_ (stW step) i = from_ + (i : Int) * step ∧ 0 ≤ (i : Int) * step ∧ (i : Int) * step ≤ 1000000 ∧ 0 ≤ from_ + (i : Int) * step ∧ from_ + (i : Int) * step ≤ 1000000 := fun i hi => by
          by_cases e : i = 0
          · subst e
            rw [s0, show from_ + ((0 : Nat) : Int) * step = from_ by simp, show ((0 : Nat) : Int) * step = 0 by simp]
            omega
          · obtain ⟨e1, e2⟩ := hstep (by omega)
            have q1 : 0 ≤ (i : Int) * step := Int.mul_nonneg (by omega) (by omega)
            have q2 : (i : Int) * step ≤ 2000 * step := Int.mul_le_mul_of_nonneg_right (by omega) (by omega)
            have ci := sc i hi
            have ei : watS from_ (stW step) i = from_ + (i : Int) * step := by unfold watS; rw [e1]; exact IntWalk.i64_in _ (by omega)
            rw [ei] at ci
            exact ⟨ei, q1, by omega, ci.1, ci.2⟩
        refine ⟨h1, (ob 0 (by omega)).2.2.2.1, sec, by omega, fun i hi => ?_⟩
        have o := ob i hi
        have e := (sec i hi).1
        unfold watchM
        rw [e] at o ⊢
        exact ⟨o.2.1, o.2.2.1, o.2.2.2.2.1, o.2.2.2.2.2⟩
      · rw [if_neg h3] at h; cases h
  · rw [if_neg h1] at h; cases h
/-- the true difference at measurement i -/
def trueD (V : Wd.Wld) (a b from_ step : Int) (i : Nat) : Int := (Wd.shownE V a (from_ + (i : Int) * step)).v - (Wd.shownE V b (from_ + (i : Int) * step)).v
theorem trueD_bd {c : Cnt} {V : Wd.Wld} {a b from_ step : Int} {n : Nat} (H : Meas c V a b from_ step n) {i : Nat} (hi : i < n) : (-400000000000000 < (Wd.shownE V a (from_ + (i : Int) * step)).v ∧ (Wd.shownE V a (from_ + (i : Int) * step)).v < 400000000000000) ∧ (-400000000000000 < (Wd.shownE V b (from_ + (i : Int) * step)).v ∧ (Wd.shownE V b (from_ + (i : Int) * step)).v < 400000000000000) := by
  obtain ⟨h1, h2, -, -⟩ := H.ok i hi
  obtain ⟨-, a1, a2, a3, a4⟩ := shown_small V a _ h1
  obtain ⟨-, b1, b2, b3, b4⟩ := shown_small V b _ h2
  omega
theorem fol_true {c : Cnt} {V : Wd.Wld} {a b from_ step : Int} {n : Nat} (H : Meas c V a b from_ step n) {f1 f2 : Int} (hf : f1 ≤ trueD V a b from_ step 0 ∧ trueD V a b from_ step 0 ≤ f2) (hb : -1000000000000000 ≤ f1 ∧ f2 ≤ 1000000000000000) :
    ∀ i, i < n → (folS c V a b from_ step (watchM c V a b from_ step) f1 f2 i).2 = 8 ∨ (folS c V a b from_ step (watchM c V a b from_ step) f1 f2 i).2 = 0 ∧ (folS c V a b from_ step (watchM c V a b from_ step) f1 f2 i).1.1 ≤ trueD V a b from_ step i ∧ trueD V a b from_ step i ≤ (folS c V a b from_ step (watchM c V a b from_ step) f1 f2 i).1.2
  | 0, hi => by
    have hm := (H.ok 0 hi).2.2.2
    have hp := holds_plain (cntB_in H.cnt) V.seed (from_ + ((0 : Nat) : Int) * step) (trueD V a b from_ step 0) f1 f2 hf hb.1 hb.2
    rw [show shownS c V.seed (from_ + ((0 : Nat) : Int) * step) (trueD V a b from_ step 0) = watchM c V a b from_ step 0 from hm.symm] at hp
    show (resS c (watchM c V a b from_ step 0) f1 f2).2 = 8 ∨ (resS c (watchM c V a b from_ step 0) f1 f2).2 = 0 ∧ (resS c (watchM c V a b from_ step 0) f1 f2).1.1 ≤ _ ∧ _ ≤ (resS c (watchM c V a b from_ step 0) f1 f2).1.2
    rcases hp with h | ⟨x, y, e, q1, q2, -, -⟩
    · exact .inl h
    · rw [e]; exact .inr ⟨rfl, q1, q2⟩
  | i + 1, hi => by
    have ih := fol_true H hf hb i (by omega)
    have e1 : folS c V a b from_ step (watchM c V a b from_ step) f1 f2 (i + 1) = if (folS c V a b from_ step (watchM c V a b from_ step) f1 f2 i).2 = 0 then
      (if (widE V a b (from_ + (i : Int) * step) (from_ + ((i + 1 : Nat) : Int) * step) (folS c V a b from_ step (watchM c V a b from_ step) f1 f2 i).1.1 (folS c V a b from_ step (watchM c V a b from_ step) f1 f2 i).1.2).2 = 0 then
        resS c (watchM c V a b from_ step (i + 1)) (widE V a b (from_ + (i : Int) * step) (from_ + ((i + 1 : Nat) : Int) * step) (folS c V a b from_ step (watchM c V a b from_ step) f1 f2 i).1.1 (folS c V a b from_ step (watchM c V a b from_ step) f1 f2 i).1.2).1.1 (widE V a b (from_ + (i : Int) * step) (from_ + ((i + 1 : Nat) : Int) * step) (folS c V a b from_ step (watchM c V a b from_ step) f1 f2 i).1.1 (folS c V a b from_ step (watchM c V a b from_ step) f1 f2 i).1.2).1.2
      else ((0, 0), (widE V a b (from_ + (i : Int) * step) (from_ + ((i + 1 : Nat) : Int) * step) (folS c V a b from_ step (watchM c V a b from_ step) f1 f2 i).1.1 (folS c V a b from_ step (watchM c V a b from_ step) f1 f2 i).1.2).2))
      else folS c V a b from_ step (watchM c V a b from_ step) f1 f2 i := rfl
    rw [e1]
    rcases ih with h8 | ⟨h0, q1, q2⟩
    · rw [if_neg (by rw [h8]; decide)]; exact .inl h8
    · rw [if_pos h0]
      obtain ⟨o1, o2, -, -⟩ := H.ok i (by omega)
      obtain ⟨o3, o4, -, hm⟩ := H.ok (i + 1) hi
      have hle : from_ + (i : Int) * step ≤ from_ + ((i + 1 : Nat) : Int) * step := by
        have e : ((i + 1 : Nat) : Int) * step = (i : Int) * step + step := by rw [Int.natCast_add, Int.add_mul]; simp
        have := H.one
        omega
      obtain ⟨ga, ga1, ga2⟩ := grows o1 o3 hle
      obtain ⟨gb, gb1, gb2⟩ := grows o2 o4 hle
      obtain ⟨⟨d1, d2⟩, d3, d4⟩ := trueD_bd H hi
      have ew : ∀ u v, widE V a b (from_ + (i : Int) * step) (from_ + ((i + 1 : Nat) : Int) * step) u v = ((max (u + (Wd.growthE V a (from_ + (i : Int) * step) (from_ + ((i + 1 : Nat) : Int) * step)).a - (Wd.growthE V b (from_ + (i : Int) * step) (from_ + ((i + 1 : Nat) : Int) * step)).b - noiseS V a b) (-1000000000000000), min (v + (Wd.growthE V a (from_ + (i : Int) * step) (from_ + ((i + 1 : Nat) : Int) * step)).b - (Wd.growthE V b (from_ + (i : Int) * step) (from_ + ((i + 1 : Nat) : Int) * step)).a + noiseS V a b) 1000000000000000), 0) := fun u v => by
        unfold widE; rw [if_pos ga, if_pos gb]
      rw [ew, if_pos rfl]
      dsimp only
      have hnz : noiseS V a b = 2 * ((Wd.clkOf V a).white + (Wd.clkOf V b).white) := rfl
      have hd : trueD V a b from_ step (i + 1) = (Wd.shownE V a (from_ + ((i + 1 : Nat) : Int) * step)).v - (Wd.shownE V b (from_ + ((i + 1 : Nat) : Int) * step)).v := rfl
      have hd0 : trueD V a b from_ step i = (Wd.shownE V a (from_ + (i : Int) * step)).v - (Wd.shownE V b (from_ + (i : Int) * step)).v := rfl
      rw [hd0] at q1 q2
      have hp := fun lo hi' h1 h2 h3 => holds_plain (cntB_in H.cnt) V.seed (from_ + ((i + 1 : Nat) : Int) * step) (trueD V a b from_ step (i + 1)) lo hi' h1 h2 h3
      rw [show shownS c V.seed (from_ + ((i + 1 : Nat) : Int) * step) (trueD V a b from_ step (i + 1)) = watchM c V a b from_ step (i + 1) from hm.symm] at hp
      have := hp (max ((folS c V a b from_ step (watchM c V a b from_ step) f1 f2 i).1.1 + (Wd.growthE V a (from_ + (i : Int) * step) (from_ + ((i + 1 : Nat) : Int) * step)).a - (Wd.growthE V b (from_ + (i : Int) * step) (from_ + ((i + 1 : Nat) : Int) * step)).b - noiseS V a b) (-1000000000000000)) (min ((folS c V a b from_ step (watchM c V a b from_ step) f1 f2 i).1.2 + (Wd.growthE V a (from_ + (i : Int) * step) (from_ + ((i + 1 : Nat) : Int) * step)).b - (Wd.growthE V b (from_ + (i : Int) * step) (from_ + ((i + 1 : Nat) : Int) * step)).a + noiseS V a b) 1000000000000000) (by rw [hd, hnz]; omega) (by omega) (by omega)
      rcases this with h | ⟨x, y, e, r1, r2, -, -⟩
      · exact .inl h
      · rw [e]; exact .inr ⟨rfl, r1, r2⟩
/-- Follow answers, or finds more than one turn -/
theorem fol_errs {c : Cnt} {V : Wd.Wld} {a b from_ step : Int} {n : Nat} (H : Meas c V a b from_ step n) (hn : 1 ≤ n ∧ n ≤ 2000) {f1 f2 : Int} (hf : f1 ≤ trueD V a b from_ step 0 ∧ trueD V a b from_ step 0 ≤ f2) (hb : -1000000000000000 ≤ f1 ∧ f2 ≤ 1000000000000000) :
    followErr c V a b from_ step (watchM c V a b from_ step) n f1 f2 = 8 ∨ followErr c V a b from_ step (watchM c V a b from_ step) n f1 f2 = 0 ∧ ∀ i, i < n → (folS c V a b from_ step (watchM c V a b from_ step) f1 f2 i).1.1 ≤ trueD V a b from_ step i ∧ trueD V a b from_ step i ≤ (folS c V a b from_ step (watchM c V a b from_ step) f1 f2 i).1.2 := by
  obtain ⟨o1, o2, o3, -⟩ := H.ok 0 (by omega)
  have e0 : from_ + ((0 : Nat) : Int) * step = from_ := by simp
  rw [e0] at o1 o2 o3
  have hp : pairErr c V a b from_ = 0 := by
    have k : ∀ k, (Wd.shownE V k from_).e = 0 → (Wd.phaseE V k from_).e = 0 := fun k hk => by unfold Wd.phaseE; rw [if_pos (shown_find hk).1]
    unfold pairErr
    rw [if_pos H.cnt, if_pos (k a o1), if_pos (k b o2), if_neg H.ne, if_pos o3]
  have hs : serErr c from_ step n = 0 := by
    have := H.one
    unfold serErr
    rw [if_neg (by omega), if_neg (by omega)]
    by_cases h1 : (n : Int) ≤ 1
    · rw [if_pos h1]
    · rw [if_neg h1]
      have hl := H.sec (n - 1) (by omega)
      have hq : step ≤ (1000000 - from_) / ((n : Int) - 1) := by
        refine (Int.le_ediv_iff_mul_le (by omega)).2 ?_
        have e : ((n - 1 : Nat) : Int) = (n : Int) - 1 := by omega
        rw [e] at hl
        rw [Int.mul_comm]
        omega
      rw [if_neg (by omega)]
      obtain ⟨-, -, o4, -⟩ := H.ok 1 (by omega)
      have e1 : from_ + ((1 : Nat) : Int) * step = from_ + step := by simp
      rw [e1] at o4
      have m0 := (meetB_yes o3).2
      have m1 := (meetB_yes o4).2
      have : step % c.d = 0 := by
        have : (from_ + step - from_) % c.d = 0 := by rw [Int.sub_emod, m0, m1]; simp
        rwa [show from_ + step - from_ = step by omega] at this
      rw [if_neg (by rw [this]; decide)]
  unfold followErr
  rw [if_pos hp, if_pos hs]
  by_cases h8 : ∃ i, i < n ∧ (folS c V a b from_ step (watchM c V a b from_ step) f1 f2 i).2 = 8
  · obtain ⟨i, hi, h⟩ := h8
    exact .inl ((fol_last (by rw [h]; decide) hi).trans h)
  · have all : ∀ i, i < n → (folS c V a b from_ step (watchM c V a b from_ step) f1 f2 i).2 = 0 ∧ _ := fun i hi => (fol_true H hf hb i hi).resolve_left (fun e => h8 ⟨i, hi, e⟩)
    refine .inr ⟨?_, fun i hi => (all i hi).2⟩
    obtain ⟨j, rfl⟩ : ∃ j, n = j + 1 := ⟨n - 1, by omega⟩
    exact (all j (by omega)).1
end Go.Proofs.YtmfpnfdoidihcaaGreatDoor.Ct
