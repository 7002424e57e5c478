/- Contracts of layer 2: Follow, whatever it is asked. -/
import Derived.Test.YtlelamjbfjneiaaGreatDoorQ33
namespace Go.Proofs.YtlelamjbfjneiaaGreatDoor.Ct
open Go Go.RowKit Go.Shelf
attribute [local go_sem] Oper.semAt_some
theorem span_bd (c : Cnt) (mid lo hi first : Int) : ∀ n, ∀ x ∈ spanL c mid lo hi first n, lo ≤ x.1 ∧ x.2 ≤ hi ∧ x.1 ≤ x.2
  | 0, x, h => by cases h
  | n + 1, x, h => by
    unfold spanL at h
    split at h
    · rename_i hc
      rcases List.mem_append.1 h with h | h
      · exact span_bd c mid lo hi first n x h
      · rw [List.mem_singleton.1 h]
        exact ⟨Int.le_max_right _ _, Int.min_le_right _ _, hc⟩
    · exact span_bd c mid lo hi first n x h
theorem res_bd {c : Cnt} {m lo hi : Int} (h : (resS c m lo hi).2 = 0) : lo ≤ (resS c m lo hi).1.1 ∧ (resS c m lo hi).1.2 ≤ hi ∧ (resS c m lo hi).1.1 ≤ (resS c m lo hi).1.2 ∧ -1000000000000000 ≤ lo ∧ hi ≤ 1000000000000000 := by
  unfold resS at h ⊢
  by_cases h1 : (showB c m && inDiff lo && inDiff hi) = true
  · rw [if_pos h1] at h ⊢
    by_cases h2 : hi < lo
    · rw [if_pos h2] at h; cases h
    · rw [if_neg h2] at h ⊢
      simp only [Bool.and_eq_true] at h1
      have b1 := inDiff_bd h1.1.2
      have b2 := inDiff_bd h1.2
      have hs := span_bd c (midS c m) lo hi (firstS c m lo) (turnN c m lo hi)
      change ∀ x ∈ foundL c m lo hi, _ at hs
      cases hf : foundL c m lo hi with
      | nil => rw [hf] at h; cases h
      | cons x L =>
        cases L with
        | nil =>
          have := hs x (by rw [hf]; simp)
          exact ⟨this.1, this.2.1, this.2.2, b1.1, b2.2⟩
        | cons y L => rw [hf] at h; cases h
  · rw [if_neg h1] at h; cases h
theorem fol_bd {c : Cnt} {W : Wd.Wld} {a b from_ step : Int} {m : Nat → Int} {f1 f2 : Int} : ∀ {i : Nat}, (folS c W a b from_ step m f1 f2 i).2 = 0 → (-1000000000000000 ≤ (folS c W a b from_ step m f1 f2 i).1.1 ∧ (folS c W a b from_ step m f1 f2 i).1.1 ≤ 1000000000000000) ∧ (-1000000000000000 ≤ (folS c W a b from_ step m f1 f2 i).1.2 ∧ (folS c W a b from_ step m f1 f2 i).1.2 ≤ 1000000000000000)
  | 0, h => by
    have := res_bd (show (resS c (m 0) f1 f2).2 = 0 from h)
    show (-1000000000000000 ≤ (resS c (m 0) f1 f2).1.1 ∧ (resS c (m 0) f1 f2).1.1 ≤ 1000000000000000) ∧ (-1000000000000000 ≤ (resS c (m 0) f1 f2).1.2 ∧ (resS c (m 0) f1 f2).1.2 ≤ 1000000000000000)
    omega
  | i + 1, h => by
    unfold folS at h ⊢
    by_cases h1 : (folS c W a b from_ step m f1 f2 i).2 = 0
    · rw [if_pos h1] at h ⊢
      split at h
      · rename_i h2
        rw [if_pos h2]
        have := res_bd h
        omega
      · rename_i h2
        exact absurd h h2
    · rw [if_neg h1] at h
      exact absurd h h1
theorem fol_last {c : Cnt} {W : Wd.Wld} {a b from_ step : Int} {m : Nat → Int} {f1 f2 : Int} {k n : Nat} (h : (folS c W a b from_ step m f1 f2 k).2 ≠ 0) (hk : k < n) : folErr c W a b from_ step m f1 f2 n = (folS c W a b from_ step m f1 f2 k).2 := by
  obtain ⟨j, rfl⟩ : ∃ j, n = j + 1 := ⟨n - 1, by omega⟩
  show (folS c W a b from_ step m f1 f2 j).2 = _
  rw [folS_stays h j (by omega)]
/-- all is as it was but block b -/
structure Almost (b : Nat) (X Y : World) : Prop where
  os : Y.os = X.os
  tape : Y.tape = X.tape
  output : Y.output = X.output
  size : X.heap.size ≤ Y.heap.size
  block : ∀ k, k < X.heap.size → k ≠ b → Y.heap[k]? = X.heap[k]?
theorem Almost.drew (X : World) (b : Nat) : Almost b X X.drew := ⟨rfl, rfl, rfl, Nat.le_refl _, fun _ _ _ => rfl⟩
theorem Almost.refl (X : World) (b : Nat) : Almost b X X := ⟨rfl, rfl, rfl, Nat.le_refl _, fun _ _ _ => rfl⟩
theorem Almost.trans {b : Nat} {X Y Z : World} (h : Almost b X Y) (k : Almost b X Y → Almost b Y Z) : Almost b X Z :=
  have q := k h
  ⟨q.os.trans h.os, q.tape.trans h.tape, q.output.trans h.output, Nat.le_trans h.size q.size, fun i hi hn => (q.block i (Nat.lt_of_lt_of_le hi h.size) hn).trans (h.block i hi hn)⟩
theorem Almost.of_below {b : Nat} {X Y Z : World} (h : Below Y.heap.size Y Z) (_hs : X.heap.size ≤ Y.heap.size) : Almost b X Y → Almost b Y Z := fun _ => ⟨h.os, h.tape, h.output, h.size, fun k hk _ => h.block k hk⟩
theorem Almost.only {b : Nat} {X Y Z : World} (h : Almost b X Y) (k : Only b Y Z) : Almost b X Z :=
  ⟨k.os.trans h.os, k.tape.trans h.tape, k.output.trans h.output, by rw [k.size]; exact h.size, fun i hi hn => (k.block i hn).trans (h.block i hi hn)⟩
theorem Almost.cell {b k o : Nat} {X Y : World} {v : Value} (h : Almost b X Y) (hk : k ≠ b) (hc : X.cell? ⟨k, o, none⟩ = some v) : Y.cell? ⟨k, o, none⟩ = some v :=
  (World.cell?_of_block (a := ⟨k, o, none⟩) (h.block k (cell_lt hc) hk)).trans hc
theorem Almost.frozen {b k o : Nat} {X Y : World} {v : Value} (h : Almost b X Y) (hk : k ≠ b) (hc : X.cell? ⟨k, o, none⟩ = some v) (hf : X.frozen? ⟨k, o, none⟩ = false) : Y.frozen? ⟨k, o, none⟩ = false :=
  (World.frozen?_of_block (a := ⟨k, o, none⟩) (h.block k (cell_lt hc) hk)).trans hf
theorem Almost.bel {b n : Nat} {A X Y : World} (h : Almost b X Y) (hb : Below n A X) (hn : n ≤ b ∧ n ≤ X.heap.size) : Below n A Y :=
  hb.trans ⟨h.os, h.tape, h.output, h.size, fun k hk => h.block k (by omega) (by omega)⟩
/-- a span's box that may be written -/
structure WS (X : World) (b : Nat) (x y : Int) : Prop where
  c0 : X.cell? ⟨b, 0, none⟩ = some (.int .i64 x)
  c1 : X.cell? ⟨b, 1, none⟩ = some (.int .i64 y)
  f0 : X.frozen? ⟨b, 0, none⟩ = false
  f1 : X.frozen? ⟨b, 1, none⟩ = false
theorem WS.new (X : World) (x y : Int) (t : TypeId) : WS (X.alloc (.cells #[.int .i64 x, .int .i64 y] t)) X.heap.size x y := ⟨by simp, by simp, by simp, by simp⟩
theorem WS.below {X Y : World} {b : Nat} {x y : Int} (h : WS X b x y) (hb : Below X.heap.size X Y) : WS Y b x y := ⟨cell_below hb h.c0, cell_below hb h.c1, fz_below hb h.c0 h.f0, fz_below hb h.c1 h.f1⟩
theorem WS.store2 {X : World} {b : Nat} {x y : Int} (h : WS X b x y) (u v : Int) : ∀ Y, Y = (X.setCell ⟨b, 0, none⟩ (.int .i64 u)).setCell ⟨b, 1, none⟩ (.int .i64 v) → SpBox Y b u v ∧ Only b X Y := by
  rintro _ rfl
  exact ⟨⟨other_cell (by decide) (World.cell?_setCell_same _ _ _ h.c0), World.cell?_setCell_same _ _ _ (other_cell (by decide) h.c1)⟩, ((Only.refl b X).set 0 _).set 1 _⟩
theorem FolAt.almost {w X Y : World} {c : Cnt} {W : Wd.Wld} {p1 p2 : Option Addr} {k1 k2 : Nat} {f1 f2 : Int} {sp : Nat → Int × Int} {n g k b : Nat} (h : FolAt w X c W p1 p2 k1 k2 f1 f2 sp n g k) (ha : Almost b X Y) (hb : w.heap.size + 1 + 1 < b ∧ b ≠ g) : FolAt w Y c W p1 p2 k1 k2 f1 f2 sp n g k := by
  have hc := h.ob.cb
  refine ⟨⟨⟨ha.cell (by omega) hc.c0, ha.cell (by omega) hc.c1, ha.cell (by omega) hc.c2, ha.cell (by omega) hc.c3, ha.cell (by omega) hc.c4, ha.cell (by omega) hc.c5, ha.cell (by omega) hc.c6⟩, ha.cell (by omega) h.ob.c0, ha.cell (by omega) h.ob.c1, ha.cell (by omega) h.ob.c2, ha.bel h.ob.bel ⟨by omega, h.ob.bel.size⟩⟩,
    ⟨ha.cell (by omega) h.f.1, ha.cell (by omega) h.f.2⟩, fun i hi => ⟨ha.cell (Ne.symm hb.2) (h.done i hi).1, ha.cell (Ne.symm hb.2) (h.done i hi).2⟩, fun i hi => ?_, h.gt⟩
  obtain ⟨⟨x, hx⟩, hf⟩ := h.cells i hi
  exact ⟨⟨x, ha.cell (Ne.symm hb.2) hx⟩, ha.frozen (Ne.symm hb.2) hx hf⟩
/-- widen, whatever comes of it -/
theorem widen_any (W : Wd.Wld) (a b x y lo hi : Int) (p1 p2 : Option Addr) (k1 k2 : Nat) (w : World) (ht : Wd.Tabs w) (hW : Wd.WldIn w W p1 p2) (ha : 0 ≤ a) (hb : 0 ≤ b) (hlo : -1000000000000000 ≤ lo ∧ lo ≤ 1000000000000000) (hhi : -1000000000000000 ≤ hi ∧ hi ≤ 1000000000000000) :
    Calls Tryz.prog 38 #[wV W p1 p2 k1 k2, .int .i64 a, .int .i64 b, .int .i64 x, .int .i64 y, .agg #[.int .i64 lo, .int .i64 hi]] w fun e' w' => e' = .returned (.tuple #[.agg #[.int .i64 (widE W a b x y lo hi).1.1, .int .i64 (widE W a b x y lo hi).1.2], .int .i64 (widE W a b x y lo hi).2]) ∧ Below w.heap.size w w' := by
  unfold widE
  by_cases h1 : (Wd.growthE W a x y).e = 0
  · rw [if_pos h1]
    by_cases h2 : (Wd.growthE W b x y).e = 0
    · rw [if_pos h2]
      obtain ⟨A, rfl⟩ : ∃ A : Nat, a = (A : Int) := ⟨a.toNat, by omega⟩
      obtain ⟨B, rfl⟩ : ∃ B : Nat, b = (B : Int) := ⟨b.toNat, by omega⟩
      exact widen_ok W A B x y lo hi p1 p2 k1 k2 w ht hW h1 h2 hlo hhi
    · rw [if_neg h2]
      exact widen_no W a b x y lo hi _ p1 p2 k1 k2 w ht hW ⟨h2, .inr ⟨h1, rfl⟩⟩
  · rw [if_neg h1]
    exact widen_no W a b x y lo hi _ p1 p2 k1 k2 w ht hW ⟨h1, .inl rfl⟩
theorem ser_ok {c : Cnt} {from_ step : Int} {n : Nat} (hf : 0 ≤ from_ ∧ from_ ≤ 1000000) (h : serErr c from_ step n = 0) : 1 ≤ step ∧ n ≤ 2000 ∧ ∀ i : Nat, i < n → 0 ≤ from_ + (i : Int) * step ∧ from_ + (i : Int) * step ≤ 1000000 ∧ (i : Int) * step ≤ 1000000 ∧ 0 ≤ (i : Int) * step := by
  unfold serErr at h
  by_cases h1 : step < 1
  · rw [if_pos h1] at h; cases h
  · rw [if_neg h1] at h
    by_cases h2 : (2000 : Int) < n
    · rw [if_pos h2] at h; cases h
    · rw [if_neg h2] at h
      refine ⟨by omega, by omega, fun i hi => ?_⟩
      by_cases h3 : (n : Int) ≤ 1
      · obtain rfl : i = 0 := by omega
        simp; omega
      · rw [if_neg h3] at h
        by_cases h4 : (1000000 - from_) / ((n : Int) - 1) < step
        · rw [if_pos h4] at h; cases h
        · have e1 : step * ((n : Int) - 1) ≤ (1000000 - from_) / ((n : Int) - 1) * ((n : Int) - 1) := Int.mul_le_mul_of_nonneg_right (by omega) (by omega)
          have e2 : (1000000 - from_) / ((n : Int) - 1) * ((n : Int) - 1) ≤ 1000000 - from_ := Int.ediv_mul_le _ (by omega)
          have e3 : (i : Int) * step ≤ ((n : Int) - 1) * step := Int.mul_le_mul_of_nonneg_right (by omega) (by omega)
          have e4 : 0 ≤ (i : Int) * step := Int.mul_nonneg (by omega) (by omega)
          have e5 : ((n : Int) - 1) * step = step * ((n : Int) - 1) := Int.mul_comm _ _
          omega
def FolRet (c : Cnt) (W : Wd.Wld) (a b from_ step : Int) (m : Nat → Int) (n : Nat) (f1 f2 : Int) (w : World) (e : Ending) (w' : World) : Prop :=
  (followErr c W a b from_ step m n f1 f2 ≠ 0 ∧ e = .returned (.tuple #[.slice none 0 0, .int .i64 (followErr c W a b from_ step m n f1 f2)]) ∨
   followErr c W a b from_ step m n f1 f2 = 0 ∧ ∃ g, e = .returned (.tuple #[.slice (some ⟨g, 0, none⟩) n n, .int .i64 0]) ∧ w.heap.size ≤ g ∧
     ∀ i, i < n → w'.cell? ⟨g, i * 2, none⟩ = some (.int .i64 (folS c W a b from_ step m f1 f2 i).1.1) ∧ w'.cell? ⟨g, i * 2 + 1, none⟩ = some (.int .i64 (folS c W a b from_ step m f1 f2 i).1.2)) ∧ Below w.heap.size w w'
set_option maxRecDepth 100000 in
set_option maxHeartbeats 8000000 in
theorem follow_ok (c : Cnt) (W : Wd.Wld) (a b from_ step : Int) (m : Nat → Int) (n : Nat) (lp : Option Addr) (lc : Nat) (f1 f2 : Int) (p1 p2 : Option Addr) (k1 k2 : Nat) (w : World) (ht : Wd.Tabs w) (hW : Wd.WldIn w W p1 p2) (hl : FnIn w m n lp) (h : pairErr c W a b from_ = 0) (hs : serErr c from_ step n = 0) :
    Calls Tryz.prog 15 #[cntVal c, wV W p1 p2 k1 k2, .int .i64 a, .int .i64 b, .int .i64 from_, .int .i64 step, .slice lp n lc, .agg #[.int .i64 f1, .int .i64 f2]] w (FolRet c W a b from_ step m n f1 f2 w) := by
  have HB := Lib.hid (fol_new w c W p1 p2 k1 k2 f1 f2).1
  have HF := Lib.hid (fol_new w c W p1 p2 k1 k2 f1 f2).2
  have HPA := Lib.hid (fun X (hb : Below w.heap.size w X) => checkPair_any c W a b from_ p1 p2 k1 k2 X (ht.below hb) (hW.below hb))
  obtain ⟨hc, hfa, hfb, -, -⟩ := pair_ok h
  have HSE := Lib.hid (fun X => checkSeries_any c from_ step n X (cntB_in hc) (Wd.sec_of hfa) (by omega))
  have HSO := Lib.hid (ser_ok (Wd.sec_of hfa) hs)
  have HFB := Lib.hid (Wd.sec_of hfa)
  have hE : followErr c W a b from_ step m n f1 f2 = folErr c W a b from_ step m f1 f2 n := by unfold followErr; rw [if_pos h, if_pos hs]
  rw [h] at HPA
  rw [hs] at HSE
  have HA0 := Lib.hid (Wd.allowed_find hfa).k16.1
  have HB0 := Lib.hid (Wd.allowed_find hfb).k16.1
  have HWD := Lib.hid (fun (x y lo hi : Int) X (hb : Below w.heap.size w X) hlo hhi => widen_any W a b x y lo hi p1 p2 k1 k2 X (ht.below hb) (hW.below hb) HA0.out HB0.out hlo hhi)
  have HRS := Lib.hid (fun (mm lo hi : Int) X => resolve_any c mm lo hi X (cntB_in hc))
  have HL := Lib.hid hl
  obtain ⟨i0, hi0, hz0, hz1, hz2⟩ := info_parts infoSp
  unfold FolRet
  rw [hE]
  unfold cntVal wV at *
  clear ht hW h hs hc hfa hfb hl hE
  go_enter Tryz.func15, Tryz.ntmps15
  go_upto_region 1 with fail
  generalize (((w.alloc (.cells #[.int .i64 c.f, .int .i64 c.o, .int .i64 c.j, .int .i64 c.g, .int .i64 c.r, .int .i64 c.d, .int .i64 c.i] 34)).alloc (.cells #[.int .u64 W.seed, .slice p1 W.chs.length k1, .slice p2 W.cls.length k2] 38)).alloc (.cells #[.int .i64 f1, .int .i64 f2] 31)) = W0 at *
  obtain ⟨⟨x0, x1, x2, x3, x4, x5, x6⟩, l0, l1, l2, -⟩ := HB.out
  have zx := cell_lt x0
  have zl := cell_lt l0
  go_upto_region 4 with (go_at_call 36; refine (HPA.out _ HB.out.bel).mono ?_; rintro e w1 ⟨rfl, hb1⟩; have HB1 := Lib.hid (HB.out.below hb1); have HF1 := Lib.hid (HF.out.below hb1); clear hb1)
  clear x0 x1 x2 x3 x4 x5 x6 l0 l1 l2 zx zl HB HF HPA
  obtain ⟨x0, x1, x2, x3, x4, x5, x6⟩ := HB1.out.cb
  have zx := cell_lt x0
  go_upto_region 7 with (go_at_call 37; refine (HSE.out _).mono ?_; rintro e w2 ⟨rfl, hb2⟩; have HB2 := Lib.hid (HB1.out.below hb2); have HF2 := Lib.hid (HF1.out.below hb2); clear hb2)
  clear x0 x1 x2 x3 x4 x5 x6 zx HB1 HF1 HSE
  have HLT0 := Lib.hid (cell_lt HF2.out.1)
  go_wp2_with (at_make; refine wpList_make_full _ rfl _ _ 52 rfl w2.heap.size 31 i0 (.agg #[.int .i64 0, .int .i64 0]) 2 Tryz.underlying52 hi0 hz0 hz1 .i64 .i64 _ _ n rfl rfl rfl rfl (by rw [hz2]; have := HSO.out.2.1; omega) (by have := HSO.out.2.1; unfold maxLen; omega) (Nat.le_refl _) ?_; intro w3 hown0 hgrow0)
  have hb3 : Below w2.heap.size w2 w3 := (Below.refl _ _).grown hgrow0 (Nat.le_refl _) (fun k hk => by cases hk)
  have HU : Hid (FolAt w w3 c W p1 p2 k1 k2 f1 f2 (fun i => (folS c W a b from_ step m f1 f2 i).1) n w2.heap.size 0) := Lib.hid ⟨HB2.out.below hb3, HF2.out.below hb3, fun i hi => absurd hi (Nat.not_lt_zero i), by
    rw [show (Value.agg #[Value.int .i64 0, Value.int .i64 0]).cells = #[.int .i64 0, .int .i64 0] from rfl, made_two] at hown0
    intro i hi
    refine ⟨⟨0, ?_⟩, ?_⟩
    · have := World.ownsRow.cells hown0 (g := w2.heap.size) rfl i (.int .i64 0) (by simp [hi])
      rwa [add_plain, Nat.zero_add] at this
    · rcases hown0.2 with ⟨e, _⟩ | ⟨g', cap', cur, e, hg, hgb, _⟩
      · cases e
      · cases e
        simp [World.frozen?, hgb], HLT0.out⟩
  clear hown0 hgrow0 hb3 HB2 HF2 hz0 hz1 hz2 hi0 HLT0
  generalize w2.heap.size = g at *
  go_loopw [16, 17, 21, 22, 23, 24, 25, 49] (fun s16 s17 s21 s22 s23 s24 s25 s49 wr => ∃ (k : Nat) (v21 v22 v23 v24 v25 : Value), k ≤ n ∧ s16 = .slice none 0 0 ∧ s17 = .int .i64 0 ∧ s21 = v21 ∧ s22 = v22 ∧ s23 = v23 ∧ s24 = v24 ∧ s25 = v25 ∧ s49 = .int .i64 (k : Int) ∧ Hid (FolAt w wr c W p1 p2 k1 k2 f1 f2 (fun i => (folS c W a b from_ step m f1 f2 i).1) n g k) ∧ Hid (∀ i, i < k → (folS c W a b from_ step m f1 f2 i).2 = 0)) (fun _ _ _ _ _ _ _ s49 _ => n - (intOf s49).toNat)
  case atStart => exact ⟨0, _, _, _, _, _, Nat.zero_le _, rfl, rfl, rfl, rfl, rfl, rfl, rfl, rfl, HU, Lib.hid (fun i hi => absurd hi (Nat.not_lt_zero i))⟩
  case round =>
    obtain ⟨k, v21, v22, v23, v24, v25, hk, rfl, rfl, rfl, rfl, rfl, rfl, rfl, rfl, HT, HE⟩ := hrel
    by_cases hlt : k < n
    · have hki : (k : Int) < n := by omega
      have HK := Lib.hid hlt
      obtain ⟨lb, lo_, rfl, hcell⟩ := (HL.out.below HT.out.ob.bel).resolve_left (by omega)
      have xm := hcell k hlt
      have zm := cell_lt xm
      obtain ⟨s0, s1⟩ := HT.out.f
      have zs := cell_lt s0
      have v1' : IntKind.i64.wrap ((k : Int) + 1) = (k : Int) + 1 := IntWalk.i64_in _ (by have := HSO.out.2.1; omega)
      clear hcell hlt hk
      go_upto_region 12 with fail
      have hbx := below_alloc (Below.refl wr.heap.size wr) (.cells #[.int .i64 f1, .int .i64 f2] 31)
      have HT5 := Lib.hid (HT.out.below hbx)
      have HZ5 := Lib.hid (WS.new wr f1 f2 31)
      have HG5 := Lib.hid (show w.heap.size + 1 + 1 < wr.heap.size ∧ wr.heap.size ≠ g from ⟨cell_lt HT.out.f.1, fun e => by
        obtain ⟨⟨x, hx⟩, -⟩ := HT.out.cells 0 (by have := HK.out; omega)
        have := cell_lt hx
        omega⟩)
      clear hbx s0 s1 zs xm zm HT
      generalize wr.alloc (.cells #[.int .i64 f1, .int .i64 f2] 31) = W4 at *
      generalize wr.heap.size = b23 at *
      go_upto_if 56 with fail
      go_cut [24, 25] from 56 to 78 (fun s24 s25 wx => ∃ (v1 v2 e' : Int) (v25 : Value), s24 = .int .i64 e' ∧ s25 = v25 ∧ Hid (SpBox wx b23 v1 v2) ∧ Hid (FolAt w wx c W p1 p2 k1 k2 f1 f2 (fun i => (folS c W a b from_ step m f1 f2 i).1) n g k) ∧ Hid (folS c W a b from_ step m f1 f2 k = if e' = 0 then resS c (m k) v1 v2 else ((0, 0), e')))
      case first =>
        cases k with
        | zero =>
          go_wp2_with fail
          go_meet
          exact ⟨f1, f2, 0, _, rfl, rfl, Lib.hid ⟨HZ5.out.c0, HZ5.out.c1⟩, HT5, Lib.hid (by rw [if_pos rfl]; rfl)⟩
        | succ q =>
          have hk0 : (0 : Int) < ((q + 1 : Nat) : Int) := by omega
          have hk0b : (0 : Int) < (q : Int) + 1 := by omega
          have hfq := HE.out q (by omega)
          have hbd := fol_bd hfq
          obtain ⟨d0, d1⟩ := HT5.out.done q (by omega)
          obtain ⟨⟨⟨u1, u2⟩, u3⟩, hu⟩ : ∃ r, r = folS c W a b from_ step m f1 f2 q := ⟨_, rfl⟩
          obtain ⟨-, hn2, hsec⟩ := HSO.out
          obtain ⟨hs1, hs2, hs3, hs4⟩ := hsec (q + 1) HK.out
          obtain ⟨ht1, ht2, ht3, ht4⟩ := hsec q (by have := HK.out; omega)
          have hmul : ((q + 1 : Nat) : Int) * step = (q : Int) * step + step := by rw [Int.natCast_add, Int.add_mul]; simp
          have hfb := HFB.out
          have hstep := HSO.out.1
          rw [← hu] at hbd hfq
          dsimp only at hbd hfq d0 d1
          rw [← hu] at d0 d1
          dsimp only at d0 d1
          obtain ⟨⟨⟨v1, v2⟩, e'⟩, hv⟩ : ∃ r, r = widE W a b (from_ + (q : Int) * step) (from_ + ((q + 1 : Nat) : Int) * step) u1 u2 := ⟨_, rfl⟩
          have HFS : Hid (folS c W a b from_ step m f1 f2 (q + 1) = if e' = 0 then resS c (m (q + 1)) v1 v2 else ((0, 0), e')) := Lib.hid (by
            show (if (folS c W a b from_ step m f1 f2 q).2 = 0 then _ else _) = _
            rw [← hu, if_pos hfq]
            dsimp only
            rw [← hv])
          obtain ⟨sx, hsx⟩ : ∃ sx, sx = from_ + (q : Int) * step := ⟨_, rfl⟩
          obtain ⟨sy, hsy⟩ : ∃ sy, sy = from_ + ((q + 1 : Nat) : Int) * step := ⟨_, rfl⟩
          rw [← hsx, ← hsy] at hv
          obtain ⟨qs, hqs⟩ : ∃ qs, qs = ((q + 1 : Nat) : Int) * step := ⟨_, rfl⟩
          rw [← hqs] at hs1 hs2 hs3 hs4 hmul hsy
          have HWI := Lib.hid (fun X hb => HWD.out sx sy u1 u2 X hb hbd.1 hbd.2)
          rw [← hv] at HWI
          dsimp only at HWI
          have j1 : IntKind.i64.wrap (((q + 1 : Nat) : Int) * step) = qs := by rw [← hqs]; exact IntWalk.i64_in _ (by omega)
          have j1b : IntKind.i64.wrap (((q : Int) + 1) * step) = qs := by rw [← j1]; simp
          have j2 : IntKind.i64.wrap (from_ + qs) = sy := by rw [hsy]; exact IntWalk.i64_in _ (by omega)
          have j3 : IntKind.i64.wrap (sy - step) = sx := by rw [show sy - step = sx by omega]; exact IntWalk.i64_in _ (by omega)
          have j4 : IntKind.i64.wrap (((q + 1 : Nat) : Int) - 1) = (q : Int) := by rw [IntWalk.i64_in _ (by omega)]; omega
          have j4b : IntKind.i64.wrap ((q : Int) + 1 - 1) = (q : Int) := by rw [IntWalk.i64_in _ (by omega)]; omega
          have j4c : IntKind.i64.wrap (q : Int) = (q : Int) := IntWalk.i64_in _ (by omega)
          have hqn : (q : Int) < n := by have := HK.out; omega
          obtain ⟨-, l0, l1, l2, hbw⟩ := HT5.out.ob
          have L0 := Lib.hid l0
          have L1 := Lib.hid l1
          have L2 := Lib.hid l2
          have D0 := Lib.hid d0
          have D1 := Lib.hid d1
          have HBW5 := Lib.hid hbw
          have HLT : Hid (w.heap.size + 1 ≠ b23 ∧ g ≠ b23) := Lib.hid ⟨by have := HG5.out; omega, Ne.symm HG5.out.2⟩
          clear hfq hbd hu hn2 hsec hs1 hs2 hs3 hs4 ht1 ht2 ht3 ht4 hmul hfb hstep hv hsx hsy hqs l0 l1 l2 d0 d1 hbw
          go_upto_region 14 with fail
          generalize W4 = W5 at *
          have HB23 : Hid (w.heap.size ≤ b23 ∧ w.heap.size ≤ W5.heap.size) := Lib.hid ⟨by have := HG5.out; omega, HBW5.out.size⟩
          have HZ0 : Hid (WS W5.drew b23 f1 f2) := Lib.hid ⟨HZ5.out.c0, HZ5.out.c1, HZ5.out.f0, HZ5.out.f1⟩
          refine wp_region_held_drew (S := fun w' => Almost b23 W5 w') (by kernel_rfl) (Almost.drew W5 b23) (fun hS0 => ?_)
          (try dsimp only at hS0)
          generalize W5.drew = X0 at *
          refine wpAnyH_take (i := 0) (v := ?_) rfl (by kernel_rfl) (by kernel_rfl) (by kernel_rfl) (fun _ _ _ h => h) (Or.inl ⟨by rfl, ?_⟩) (by assumption) ?_
          rotate_left
          · intro X hSX; (try dsimp only at hSX); have l0 := hSX.cell HLT.out.1 L0.out; have l1 := hSX.cell HLT.out.1 L1.out; have l2 := hSX.cell HLT.out.1 L2.out; have zl := cell_lt l0; go_simp; try with_reducible rfl
          simp only [Act.put, List.getElem_toArray, List.getElem_cons_zero, List.setIfInBounds_toArray, List.set_cons_zero, List.set_cons_succ]
          refine wpAnyH_take (i := 1) (v := ?_) rfl (by kernel_rfl) (by kernel_rfl) (by kernel_rfl) (fun _ _ _ h => h) (Or.inl ⟨by rfl, ?_⟩) (by assumption) ?_
          rotate_left
          · intro X hSX; (try dsimp only at hSX); go_simp; try with_reducible rfl
          simp only [Act.put, List.getElem_toArray, List.getElem_cons_succ, List.getElem_cons_zero, List.setIfInBounds_toArray, List.set_cons_zero, List.set_cons_succ]
          refine wpAnyH_take (i := 2) (v := ?_) rfl (by kernel_rfl) (by kernel_rfl) (by kernel_rfl) (fun _ _ _ h => h) (Or.inl ⟨by rfl, ?_⟩) (by assumption) ?_
          rotate_left
          · intro X hSX; (try dsimp only at hSX); go_simp; try with_reducible rfl
          simp only [Act.put, List.getElem_toArray, List.getElem_cons_succ, List.getElem_cons_zero, List.setIfInBounds_toArray, List.set_cons_zero, List.set_cons_succ]
          refine wpAnyH_take (i := 3) (v := ?_) rfl (by kernel_rfl) (by kernel_rfl) (by kernel_rfl) (fun _ _ _ h => h) (Or.inl ⟨by rfl, ?_⟩) (by assumption) ?_
          rotate_left
          · intro X hSX; (try dsimp only at hSX); go_simp; try with_reducible rfl
          simp only [Act.put, List.getElem_toArray, List.getElem_cons_succ, List.getElem_cons_zero, List.setIfInBounds_toArray, List.set_cons_zero, List.set_cons_succ]
          refine wpAnyH_take (i := 4) (v := ?_) rfl (by kernel_rfl) (by kernel_rfl) (by kernel_rfl) (fun _ _ _ h => h) (Or.inl ⟨by rfl, ?_⟩) (by assumption) ?_
          rotate_left
          · intro X hSX; (try dsimp only at hSX); go_simp; try with_reducible rfl
          simp only [Act.put, List.getElem_toArray, List.getElem_cons_succ, List.getElem_cons_zero, List.setIfInBounds_toArray, List.set_cons_zero, List.set_cons_succ]
          refine wpAnyH_take (i := 5) (v := ?_) rfl (by kernel_rfl) (by kernel_rfl) (by kernel_rfl) (fun _ _ _ h => h) (Or.inl ⟨by rfl, ?_⟩) (by assumption) ?_
          rotate_left
          · intro X hSX; (try dsimp only at hSX); go_simp; try with_reducible rfl
          simp only [Act.put, List.getElem_toArray, List.getElem_cons_succ, List.getElem_cons_zero, List.setIfInBounds_toArray, List.set_cons_zero, List.set_cons_succ]
          refine wpAnyH_take (i := 6) (v := ?_) rfl (by kernel_rfl) (by kernel_rfl) (by kernel_rfl) (fun _ _ _ h => h) (Or.inl ⟨by rfl, ?_⟩) (by assumption) ?_
          rotate_left
          · intro X hSX; (try dsimp only at hSX); go_simp; try with_reducible rfl
          simp only [Act.put, List.getElem_toArray, List.getElem_cons_succ, List.getElem_cons_zero, List.setIfInBounds_toArray, List.set_cons_zero, List.set_cons_succ]
          refine wpAnyH_take (i := 7) (v := ?_) rfl (by kernel_rfl) (by kernel_rfl) (by kernel_rfl) (fun _ _ _ h => h) (Or.inl ⟨by rfl, ?_⟩) (by assumption) ?_
          rotate_left
          · intro X hSX; (try dsimp only at hSX); go_simp; try with_reducible rfl
          simp only [Act.put, List.getElem_toArray, List.getElem_cons_succ, List.getElem_cons_zero, List.setIfInBounds_toArray, List.set_cons_zero, List.set_cons_succ]
          refine wpAnyH_take (i := 8) (v := ?_) rfl (by kernel_rfl) (by kernel_rfl) (by kernel_rfl) (fun _ _ _ h => h) (Or.inl ⟨by rfl, ?_⟩) (by assumption) ?_
          rotate_left
          · intro X hSX; (try dsimp only at hSX); go_simp; try with_reducible rfl
          simp only [Act.put, List.getElem_toArray, List.getElem_cons_succ, List.getElem_cons_zero, List.setIfInBounds_toArray, List.set_cons_zero, List.set_cons_succ]
          refine wpAnyH_take (i := 9) (v := ?_) rfl (by kernel_rfl) (by kernel_rfl) (by kernel_rfl) (fun _ _ _ h => h) (Or.inl ⟨by rfl, ?_⟩) (by assumption) ?_
          rotate_left
          · intro X hSX; (try dsimp only at hSX); go_simp; try with_reducible rfl
          simp only [Act.put, List.getElem_toArray, List.getElem_cons_succ, List.getElem_cons_zero, List.setIfInBounds_toArray, List.set_cons_zero, List.set_cons_succ]
          refine wpAnyH_take (i := 10) (v := ?_) rfl (by kernel_rfl) (by kernel_rfl) (by kernel_rfl) (fun _ _ _ h => h) (Or.inl ⟨by rfl, ?_⟩) (by assumption) ?_
          rotate_left
          · intro X hSX; (try dsimp only at hSX); go_simp; try with_reducible rfl
          simp only [Act.put, List.getElem_toArray, List.getElem_cons_succ, List.getElem_cons_zero, List.setIfInBounds_toArray, List.set_cons_zero, List.set_cons_succ]
          refine wpAnyH_take (i := 11) (v := ?_) rfl (by kernel_rfl) (by kernel_rfl) (by kernel_rfl) (fun _ _ _ h => h) (Or.inl ⟨by rfl, ?_⟩) (by assumption) ?_
          rotate_left
          · intro X hSX; (try dsimp only at hSX); have d0 := hSX.cell HLT.out.2 D0.out; have d1 := hSX.cell HLT.out.2 D1.out; have zd := cell_lt d0; go_simp; try with_reducible rfl
          simp only [Act.put, List.getElem_toArray, List.getElem_cons_succ, List.getElem_cons_zero, List.setIfInBounds_toArray, List.set_cons_zero, List.set_cons_succ]
          refine wpAnyH_ready (rs := [12]) (by kernel_rfl) (by simp) (AllReadyH.cons rfl (fun K hK => ?_) AllReadyH.nil)
          go_simp
          refine (HWI.out _ (hS0.bel HBW5.out HB23.out)).mono ?_
          rintro e X1 ⟨rfl, hby⟩
          go_wp2_with fail
          have hS1 := hS0.trans (Almost.of_below hby hS0.size)
          have HZ1 := Lib.hid (HZ0.out.below hby)
          refine hK.out _ _ hS1 (fun _ => ?_)
          clear hK K hby
          refine wpAnyH_take (i := 13) (v := ?_) rfl (by kernel_rfl) (by kernel_rfl) (by kernel_rfl) (fun _ _ _ h => h) (Or.inl ⟨by rfl, ?_⟩) (by assumption) ?_
          rotate_left
          · intro X hSX; (try dsimp only at hSX); go_simp; try with_reducible rfl
          simp only [Act.put, List.getElem_toArray, List.getElem_cons_succ, List.getElem_cons_zero, List.setIfInBounds_toArray, List.set_cons_zero, List.set_cons_succ]
          refine wpAnyH_take (i := 14) (v := ?_) rfl (by kernel_rfl) (by kernel_rfl) (by kernel_rfl) (fun _ _ _ h => h) (Or.inl ⟨by rfl, ?_⟩) (by assumption) ?_
          rotate_left
          · intro X hSX; (try dsimp only at hSX); go_simp; try with_reducible rfl
          simp only [Act.put, List.getElem_toArray, List.getElem_cons_succ, List.getElem_cons_zero, List.setIfInBounds_toArray, List.set_cons_zero, List.set_cons_succ]
          refine wpAnyH_take (i := 15) (v := ?_) rfl (by kernel_rfl) (by kernel_rfl) (by kernel_rfl) (fun _ _ _ h => h) (Or.inl ⟨by rfl, ?_⟩) (by assumption) ?_
          rotate_left
          · intro X hSX; (try dsimp only at hSX); go_simp; try with_reducible rfl
          simp only [Act.put, List.getElem_toArray, List.getElem_cons_succ, List.getElem_cons_zero, List.setIfInBounds_toArray, List.set_cons_zero, List.set_cons_succ]
          refine wpAnyH_ready (rs := [16]) (by kernel_rfl) (by simp) (AllReadyH.cons rfl (fun K hK => ?_) AllReadyH.nil)
          obtain ⟨x0, x1, q0, q1⟩ := HZ1.out
          have zx := cell_lt x0
          go_simp
          clear x0 x1 q0 q1 zx
          obtain ⟨hcb, honly⟩ := HZ1.out.store2 v1 v2 _ rfl
          have HV := Lib.hid hcb
          have hS2 := hS1.only honly
          refine hK.out _ _ hS2 (fun _ => ?_)
          clear hK K hcb honly
          generalize (X1.setCell ⟨b23, 0, none⟩ (.int .i64 v1)).setCell ⟨b23, 1, none⟩ (.int .i64 v2) = X2 at *
          refine wpAnyH_ready (rs := [17]) (by kernel_rfl) (by simp) (AllReadyH.cons rfl (fun K hK => ?_) AllReadyH.nil)
          go_simp
          refine hK.out _ _ hS2 (fun _ => ?_)
          clear hK K
          refine wpAnyH_done (by kernel_rfl) ?_ _
          go_wp2_with fail
          go_meet
          exact ⟨v1, v2, e', _, rfl, rfl, HV, Lib.hid (HT5.out.almost hS2 HG5.out), HFS⟩
      case rest =>
        obtain ⟨v1, v2, e', v25', rfl, rfl, HV, HT6, HFS⟩ := hcut
        clear HZ5 HT5 HG5
        by_cases he : e' = 0
        · subst he
          have hfs := HFS.out
          rw [if_pos rfl] at hfs
          obtain ⟨⟨⟨r1, r2⟩, r3⟩, hr⟩ : ∃ r, r = resS c (m k) v1 v2 := ⟨_, rfl⟩
          rw [← hr] at hfs
          have HR := Lib.hid (HRS.out (m k) v1 v2)
          rw [← hr] at HR
          unfold resVal spVal at HR
          dsimp only at HR
          have HF2 := Lib.hid hfs
          clear hfs hr HFS
          obtain ⟨t0, t1⟩ := HV.out
          have zt := cell_lt t0
          obtain ⟨x0, x1, x2, x3, x4, x5, x6⟩ := HT6.out.ob.cb
          have zx := cell_lt x0
          go_upto_region 17 with (go_at_call 39; refine (HR.out _).mono ?_; rintro e w7 ⟨rfl, hb7⟩; have HT7 := Lib.hid (HT6.out.below hb7); clear hb7; obtain ⟨⟨o0, y0⟩, z0⟩ := HT7.out.cells (k * 2) (by have := HK.out; omega); obtain ⟨⟨o1, y1⟩, z1⟩ := HT7.out.cells (k * 2 + 1) (by have := HK.out; omega); have zg := cell_lt y0)
          have HT8 := Lib.hid (HT7.out.put HK.out r1 r2 (by show (folS c W a b from_ step m f1 f2 k).1 = _; rw [HF2.out]))
          clear x0 x1 x2 x3 x4 x5 x6 zx t0 t1 zt y0 y1 z0 z1 zg HT6 HV HR
          by_cases h3 : r3 = 0
          · subst h3
            have HE2 : Hid (∀ i, i < k + 1 → (folS c W a b from_ step m f1 f2 i).2 = 0) := Lib.hid fun i hi => by
              by_cases e : i = k
              · subst e; rw [HF2.out]
              · exact HE.out i (by omega)
            go_wp2_with fail
            go_roundw
            case rel => exact ⟨k + 1, _, _, _, _, _, HK.out, rfl, rfl, rfl, rfl, rfl, rfl, rfl, by simp, HT8, HE2⟩
            case measure => have := HK.out; simp [intOf]; omega
          · have hne : (r3 != 0) = true := by simpa using h3
            have H3 := Lib.hid h3
            clear h3
            go_wp2_with fail
            go_ret2
            refine ⟨.inl ?_, HT8.out.ob.bel⟩
            rw [fol_last (k := k) (by rw [HF2.out]; exact H3.out) HK.out, HF2.out]
            exact ⟨H3.out, rfl⟩
        · have hfs := HFS.out
          rw [if_neg he] at hfs
          have hne : (e' != 0) = true := by simpa using he
          have hee : (e' == 0) = false := by simpa using he
          have HF2 := Lib.hid hfs
          have H3 := Lib.hid he
          clear hfs HFS he
          go_wp2_with fail
          go_ret2
          refine ⟨.inl ?_, HT6.out.ob.bel⟩
          rw [fol_last (k := k) (by rw [HF2.out]; exact H3.out) HK.out, HF2.out]
          exact ⟨H3.out, rfl⟩
    · obtain rfl : k = n := by omega
      have hki : ¬ (k : Int) < k := by omega
      clear hlt hk
      go_wp2_with fail
      go_ret2
      refine ⟨.inr ⟨?_, g, rfl, by have := HT.out.gt; omega, HT.out.done⟩, HT.out.ob.bel⟩
      cases k with
      | zero => rfl
      | succ q => exact HE.out q (by omega)
theorem follow_any (c : Cnt) (W : Wd.Wld) (a b from_ step : Int) (m : Nat → Int) (n : Nat) (lp : Option Addr) (lc : Nat) (f1 f2 : Int) (p1 p2 : Option Addr) (k1 k2 : Nat) (w : World) (ht : Wd.Tabs w) (hW : Wd.WldIn w W p1 p2) (hl : FnIn w m n lp) :
    Calls Tryz.prog 15 #[cntVal c, wV W p1 p2 k1 k2, .int .i64 a, .int .i64 b, .int .i64 from_, .int .i64 step, .slice lp n lc, .agg #[.int .i64 f1, .int .i64 f2]] w (FolRet c W a b from_ step m n f1 f2 w) := by
  by_cases h : pairErr c W a b from_ = 0
  · by_cases hs : serErr c from_ step n = 0
    · exact follow_ok c W a b from_ step m n lp lc f1 f2 p1 p2 k1 k2 w ht hW hl h hs
    · have e : followErr c W a b from_ step m n f1 f2 = serErr c from_ step n := by unfold followErr; rw [if_pos h, if_neg hs]
      exact (follow_ser c W a b from_ step n lp lc f1 f2 p1 p2 k1 k2 w ht hW h hs).mono fun _ _ q => ⟨.inl (by rw [e]; exact ⟨hs, q.1⟩), q.2⟩
  · have e : followErr c W a b from_ step m n f1 f2 = pairErr c W a b from_ := by unfold followErr; rw [if_neg h]
    exact (follow_pair c W a b from_ step n lp lc f1 f2 p1 p2 k1 k2 w ht hW h).mono fun _ _ q => ⟨.inl (by rw [e]; exact ⟨h, q.1⟩), q.2⟩
end Go.Proofs.YtlelamjbfjneiaaGreatDoor.Ct
