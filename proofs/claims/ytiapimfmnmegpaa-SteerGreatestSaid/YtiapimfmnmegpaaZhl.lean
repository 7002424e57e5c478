/- Stage 6 (steer): Hold. (by gen_zhl.py) -/
import Derived.Test.YtiapimfmnmegpaaZwi
import Derived.Test.YtiapimfmnmegpaaKh
namespace Go.Proofs.Ytiapimfmnmegpaa.St
open Go Go.RowKit Go.Shelf
attribute [local go_sem] Oper.semAt_some
theorem infoEnt : (Try.prog.info? 56).map (fun i => (i.zero, i.size, i.bytes)) = some (some (.agg #[.int .i64 0, .int .i64 0]), 2, 16) := by kernel_rfl
/-- the cells of the first k states -/
def lv (f : Nat → Int × Int) : Nat → List Value
  | 0 => []
  | k + 1 => lv f k ++ [.int .i64 (f k).1, .int .i64 (f k).2]
theorem lv_len (f : Nat → Int × Int) : ∀ k, (lv f k).length = k * 2
  | 0 => rfl
  | k + 1 => by rw [lv, List.length_append, lv_len f k]; simp; omega
theorem lv_get (f : Nat → Int × Int) : ∀ k i, i < k → (lv f k)[i * 2]? = some (.int .i64 (f i).1) ∧ (lv f k)[i * 2 + 1]? = some (.int .i64 (f i).2)
  | 0, i, h => by omega
  | k + 1, i, h => by
    have hl := lv_len f k
    rw [lv]
    by_cases e : i = k
    · subst e
      rw [List.getElem?_append_right (by omega), List.getElem?_append_right (by omega), hl]
      simp
    · have := lv_get f k i (by omega)
      rw [List.getElem?_append_left (by omega), List.getElem?_append_left (by omega)]
      exact this
def LpAt (w : World) (f : Nat → Int × Int) (n b o : Nat) : Prop := ∀ i, i < n → w.cell? ⟨b, o + i * 2, none⟩ = some (.int .i64 (f i).1) ∧ w.cell? ⟨b, o + i * 2 + 1, none⟩ = some (.int .i64 (f i).2)
theorem LpAt.below {w w' : World} {f : Nat → Int × Int} {n b o : Nat} (h : LpAt w f n b o) (hb : Below w.heap.size w w') : LpAt w' f n b o := fun i hi => ⟨cell_below hb (h i hi).1, cell_below hb (h i hi).2⟩
/-- states that lie in memory -/
def LpIn (w : World) (f : Nat → Int × Int) (n : Nat) (p : Option Addr) : Prop := n = 0 ∨ ∃ b o, p = some ⟨b, o, none⟩ ∧ LpAt w f n b o
theorem LpIn.below {w w' : World} {f : Nat → Int × Int} {n : Nat} {p : Option Addr} (h : LpIn w f n p) (hb : Below w.heap.size w w') : LpIn w' f n p := h.imp id fun ⟨b, o, e, hi⟩ => ⟨b, o, e, hi.below hb⟩
theorem own_ents {X : World} {B : Nat} {e : TypeId} {v : Value} {n : Nat} {f : Nat → Int × Int} (h : X.ownsRow B e 2 v n (lv f n)) : ∃ p c, v = .slice p n c ∧ n ≤ c ∧ LpIn X f n p := by
  rcases h.2 with ⟨rfl, h0⟩ | ⟨g, cap, cur, rfl, hge, hg, hc, hcm, hs, ht⟩
  · subst h0
    exact ⟨none, 0, rfl, Nat.le_refl _, .inl rfl⟩
  · refine ⟨some ⟨g, 0, none⟩, cap, rfl, hc, .inr ⟨g, 0, rfl, fun i hi => ?_⟩⟩
    obtain ⟨g0, g1⟩ := lv_get f n i hi
    have get : ∀ j u, (lv f n)[j]? = some u → j < n * 2 → X.cell? ⟨g, j, none⟩ = some u := fun j u hj hlt => by
      have e1 : cur.toList[j]? = some u := by
        rw [← hj, ← ht, List.getElem?_take, if_pos hlt]
      have e2 : cur[j]? = some u := by rw [← e1]; simp
      simp [World.cell?, hg, e2]
    rw [Nat.zero_add]
    exact ⟨get _ _ g0 (by omega), get _ _ g1 (by omega)⟩
theorem two_new (w : World) (x y : Value) (t : TypeId) : ∀ j u, [x, y][j]? = some u → (w.alloc (.cells #[x, y] t)).cell? ((⟨w.heap.size, 0, none⟩ : Addr).add j) = some u := by
  intro j u hj
  match j, hj with
  | 0, hj => simp at hj; subst hj; simp [Addr.add]
  | 1, hj => simp at hj; subst hj; simp [Addr.add]
theorem own_geS {w : World} {b s : Nat} {e : TypeId} {v : Value} {n k : Nat} {xs : List Value} (h : w.ownsRow b e s v n xs) (hk : v.ownBlock = some k) : b ≤ k := by
  rcases h.2 with ⟨rfl, _⟩ | ⟨g, cap, cur, rfl, hg, _⟩
  · cases hk
  · obtain rfl : g = k := by simpa [Value.ownBlock] using hk
    exact hg
theorem own_setS {X : World} {M b o s : Nat} {e : TypeId} {v x : Value} {n : Nat} {xs : List Value} (h : X.ownsRow M e s v n xs) (hb : b < M) : (X.setCell ⟨b, o, none⟩ x).ownsRow M e s v n xs := by
  refine ⟨h.1, h.2.imp id ?_⟩
  rintro ⟨g, cap, cur, e1, h1, h2, h3⟩
  exact ⟨g, cap, cur, e1, h1, (Below.heap_setCell _ _ _ _ (by show g ≠ b; omega)).trans h2, h3⟩
theorem farC {X : World} {a o a' o' : Nat} {x v : Value} (hne : a ≠ a') (h : X.cell? ⟨a, o, none⟩ = some x) : (X.setCell ⟨a', o', none⟩ v).cell? ⟨a, o, none⟩ = some x := by
  rw [World.cell?_setCell_far _ _ _ _ (Ne.symm hne)]; exact h
theorem below_alloc2 {w X : World} {o : Obj} (h : Below w.heap.size w X) : Below w.heap.size w (X.alloc o) := below_alloc h o
theorem EntAt.frozen {W : World} {B : Nat} {e q : Int} (h : EntAt W B e q) (i : Nat) : W.frozen? ⟨B, i, none⟩ = false := by unfold EntAt at h; simp [World.frozen?, h]
theorem EntAt.set {W : World} {B : Nat} {e q : Int} (h : EntAt W B e q) (x y : Int) : EntAt ((W.setCell ⟨B, 0, none⟩ (.int .i64 x)).setCell ⟨B, 1, none⟩ (.int .i64 y)) B x y := by
  unfold EntAt at h ⊢
  simp [World.setCell, Array.getElem?_modify, h]
/-- what Hold's loop has in memory -/
structure HoAt (w W4 X : World) (l r s z : Int) (N Bc b : Nat) (f nz : Nat → Int) (n : Nat) (p : Option Addr) (e q : Int) (k : Nat) (v : Value) : Prop where
  ctl : CtlAt X Bc l r s z (some ⟨b, 0, none⟩) N N
  num : NumW X f N b 0
  ent : EntAt X (w.heap.size + 1) (hst l r f e q nz k).1 (hst l r f e q nz k).2
  nzs : NumIn X nz n p
  bel : Below w.heap.size w X
  size : W4.heap.size ≤ X.heap.size
  own : X.ownsRow W4.heap.size 56 2 v k (lv (fun i => hst l r f e q nz (i + 1)) k)
set_option maxRecDepth 100000 in
set_option maxHeartbeats 8000000 in
theorem Hold_lost {l r s z e q : Int} (hp : planB l r s z = true) (hh : hasP l r e q = true) (nz : Nat → Int) (n c : Nat) (p : Option Addr) (hn : n ≤ 5000) (hd : ∀ i, i < n → -z ≤ nz i ∧ nz i ≤ z) (w : World) (hnz : NumIn w nz n p) (hlo : meaP l r (chartF l r s z) e q = false) :
    Calls Try.prog 23 #[.agg #[.int .i64 l, .int .i64 r, .int .i64 s, .int .i64 z], .int .i64 e, .int .i64 q, .slice p n c] w fun x w' => x = .returned (.tuple #[.slice none 0 0, .int .i64 9]) ∧ Below w.heap.size w w' := by
  have h := plan_ok hp
  obtain ⟨k1, k2, hB0, hs0⟩ := rat_boxes w l r s z e q rfl
  have HB0 := Lib.hid hB0
  have HNZ := Lib.hid (hnz.below hB0)
  have HC := Lib.hid (fun W => state_any l r s z e q W)
  rw [show stateE l r s z e q = 0 by unfold stateE; simp [hp, hh]] at HC
  have HCH := Lib.hid (fun W => chart_any l r s z h _ _ _ h.siz.n h.siz.d h.siz.v W)
  have HF := Lib.hid (show chF l r s z (2 * z + 1).toNat (2 * r + 1).toNat (sizP l r).toNat = chartF l r s z from rfl)
  rw [HF.out] at HCH
  have HME := Lib.hid (fun b X (hX : NumW X (chartF l r s z) (sizP l r).toNat b 0) => meant_any (e := e) (q := q) h (chartF l r s z) (some ⟨b, 0, none⟩) (sizP l r).toNat (sizP l r).toNat X h.siz.n hX.in_ (Nat.le_refl _))
  have HAT := Lib.hid (fun e q b X (hX : NumW X (chartF l r s z) (sizP l r).toNat b 0) => at_any (e := e) (q := q) h (chartF l r s z) (some ⟨b, 0, none⟩) (sizP l r).toNat (sizP l r).toNat X h.siz.n hX.in_ (Nat.le_refl _))
  have HND := Lib.hid hd
  have HWI := Lib.hid (fun d W => within_any d (-z) z W)
  have vz : IntKind.i64.wrap (-z) = -z := IntWalk.i64_in _ (by have := h.z1; have := h.z2; omega)
  have hn0 : ¬ (5000 < (n : Int)) := by omega
  have HLO := Lib.hid hlo
  clear h hp hh hnz hd HF hB0 hlo
  generalize (sizP l r).toNat = N at *
  generalize chartF l r s z = f at *
  go_enter Try.func23, Try.ntmps23
  go_upto_region 2 with fail
  generalize (w.alloc (.cells #[.int .i64 l, .int .i64 r, .int .i64 s, .int .i64 z] 27)).alloc (.cells #[.int .i64 e, .int .i64 q] 56) = W0 at *
  obtain ⟨x0, x1, x2, x3⟩ := k1.c
  have y0 := k2.c0
  have y1 := k2.c1
  have zx := cell_lt x0
  have zy := cell_lt y0
  go_upto_region 3 with (go_at_call 29; refine (HC.out _).mono ?_; rintro e w1 ⟨rfl, hb1⟩)
  have HP1 := Lib.hid (k1.below hb1)
  have HE1 := Lib.hid (k2.below hb1)
  have HN1 := Lib.hid (HNZ.out.below hb1)
  have HB1 := Lib.hid (bt HB0.out hb1)
  clear hb1 k1 k2 x0 x1 x2 x3 y0 y1 zx zy HC HNZ HB0
  go_wp2_with fail
  go_loopw [13, 32] (fun s13 s32 wr => ∃ (j : Nat) (v : Value), s13 = v ∧ s32 = .int .i64 (j : Int) ∧ j ≤ n ∧ wr = w1) (fun _ s _ => n - (intOf s).toNat)
  case atStart => exact ⟨0, _, rfl, rfl, Nat.zero_le _, rfl⟩
  case round =>
    obtain ⟨j, v, rfl, rfl, hj, rfl⟩ := hrel
    by_cases hlt : j < n
    · have hji : (j : Int) < n := by omega
      obtain ⟨b, o, rfl, hi⟩ := HN1.out.resolve_left (by omega)
      have hq := hi j hlt
      have zq := cell_lt hq
      obtain ⟨d1, d2⟩ := HND.out j hlt
      have HW1 := Lib.hid (HWI.out (nz j) wr)
      rw [show (decide (-z ≤ nz j) && decide (nz j ≤ z)) = true by simp [d1, d2]] at HW1
      obtain ⟨x0, x1, x2, x3⟩ := HP1.out.c
      have zx := cell_lt x0
      have HJ := Lib.hid hlt
      have vj : IntKind.i64.wrap ((j : Int) + 1) = ((j + 1 : Nat) : Int) := by rw [IntWalk.i64_in _ (by omega)]; omega
      clear hi hlt d1 d2
      go_wp2_with (go_at_call 35; refine HW1.out.mono ?_; rintro e w2 ⟨rfl, rfl⟩)
      go_roundw
      case rel => exact ⟨j + 1, _, rfl, rfl, HJ.out, trivial⟩
      case measure => have := HJ.out; simp [intOf]; omega
    · obtain rfl : j = n := by omega
      have hji : ¬ ((j : Int) < j) := by omega
      clear hlt
      obtain ⟨x0, x1, x2, x3⟩ := HP1.out.c
      have zx := cell_lt x0
      go_upto_region 14 with (go_at_call 33; refine (HCH.out _).mono ?_; rintro e w2 ⟨b, rfl, hn2, hbb, hb2⟩)
      have hb3 := below_alloc (Below.refl w2.heap.size w2) (.cells #[.int .i64 l, .int .i64 r, .int .i64 s, .int .i64 z, .slice (some ⟨b, 0, none⟩) N N] 68)
      have HCT := Lib.hid (CtlAt.new w2 l r s z (some ⟨b, 0, none⟩) N N)
      have HNU := Lib.hid (hn2.below hb3)
      have HE3 := Lib.hid ((HE1.out.below hb2).below hb3)
      have HN3 := Lib.hid ((HN1.out.below hb2).below hb3)
      have HB3 := Lib.hid (bt HB1.out (bt hb2 hb3))
      have hbw := hn2.lt
      have HBC := Lib.hid (show b ≠ w.heap.size + 1 ∧ w2.heap.size ≠ w.heap.size + 1 by have := HB1.out.size; have := HE1.out.c0; have := cell_lt this; have := hb2.size; omega)
      clear hn2 hb2 hb3 hbb hbw x0 x1 x2 x3 zx HE1 HN1 HB1 HP1 HCH
      generalize w2.alloc (.cells #[.int .i64 l, .int .i64 r, .int .i64 s, .int .i64 z, .slice (some ⟨b, 0, none⟩) N N] 68) = W3 at *
      generalize w2.heap.size = Bc at *
      have HM1 := Lib.hid (HME.out b W3 HNU.out)
      obtain ⟨x0, x1, x2, x3, x4⟩ := HCT.out.c
      have zx := cell_lt x0
      have y0 := HE3.out.c0
      have y1 := HE3.out.c1
      have zy := cell_lt y0
      rw [HLO.out] at HM1
      go_wp2_with (go_at_call 36; refine HM1.out.mono ?_; rintro e w4 ⟨rfl, hb4⟩; have HB4 := Lib.hid hb4; clear hb4)
      go_ret2
      exact ⟨rfl, bt HB3.out HB4.out⟩
set_option maxRecDepth 100000 in
set_option maxHeartbeats 8000000 in
theorem Hold_ok {l r s z e q : Int} (hp : planB l r s z = true) (hh : hasP l r e q = true) (nz : Nat → Int) (n c : Nat) (p : Option Addr) (hn : n ≤ 5000) (hd : ∀ i, i < n → -z ≤ nz i ∧ nz i ≤ z) (w : World) (hnz : NumIn w nz n p) (hlo : meaP l r (chartF l r s z) e q = true) :
    Calls Try.prog 23 #[.agg #[.int .i64 l, .int .i64 r, .int .i64 s, .int .i64 z], .int .i64 e, .int .i64 q, .slice p n c] w fun x w' => (∃ pr cr, x = .returned (.tuple #[.slice pr n cr, .int .i64 0]) ∧ n ≤ cr ∧ LpIn w' (fun i => hst l r (chartF l r s z) e q nz (i + 1)) n pr) ∧ Below w.heap.size w w' := by
  have h := plan_ok hp
  obtain ⟨k1, k2, hB0, hs0⟩ := rat_boxes w l r s z e q rfl
  have HB0 := Lib.hid hB0
  have HNZ := Lib.hid (hnz.below hB0)
  have HC := Lib.hid (fun W => state_any l r s z e q W)
  rw [show stateE l r s z e q = 0 by unfold stateE; simp [hp, hh]] at HC
  have HCH := Lib.hid (fun W => chart_any l r s z h _ _ _ h.siz.n h.siz.d h.siz.v W)
  have HF := Lib.hid (show chF l r s z (2 * z + 1).toNat (2 * r + 1).toNat (sizP l r).toNat = chartF l r s z from rfl)
  rw [HF.out] at HCH
  have HME := Lib.hid (fun b X (hX : NumW X (chartF l r s z) (sizP l r).toNat b 0) => meant_any (e := e) (q := q) h (chartF l r s z) (some ⟨b, 0, none⟩) (sizP l r).toNat (sizP l r).toNat X h.siz.n hX.in_ (Nat.le_refl _))
  have HAT := Lib.hid (fun e q b X (hX : NumW X (chartF l r s z) (sizP l r).toNat b 0) => at_any (e := e) (q := q) h (chartF l r s z) (some ⟨b, 0, none⟩) (sizP l r).toNat (sizP l r).toNat X h.siz.n hX.in_ (Nat.le_refl _))
  have HND := Lib.hid hd
  have HWI := Lib.hid (fun d W => within_any d (-z) z W)
  have vz : IntKind.i64.wrap (-z) = -z := IntWalk.i64_in _ (by have := h.z1; have := h.z2; omega)
  have hn0 : ¬ (5000 < (n : Int)) := by omega
  have HLO := Lib.hid hlo
  obtain ⟨i0, hi0, hz0, hz1, hz2⟩ := info_parts infoEnt
  have HST := Lib.hid (show ∀ k, k ≤ n → (-40 ≤ (hst l r (chartF l r s z) e q nz k).1 ∧ (hst l r (chartF l r s z) e q nz k).1 ≤ 40) ∧ (-12 ≤ atP l r (chartF l r s z) (hst l r (chartF l r s z) e q nz k).1 (hst l r (chartF l r s z) e q nz k).2 ∧ atP l r (chartF l r s z) (hst l r (chartF l r s z) e q nz k).1 (hst l r (chartF l r s z) e q nz k).2 ≤ 12) ∧ z ≤ 12 from fun k hk => by
    have h1 := hst_mea h hlo k (fun i hi => hd i (by omega))
    have h2 := has_iff.1 (mea_has h1)
    have h3 := all_bd (chart_safe h h1).1
    have := h.l2
    have := h.r2
    have := h.z2
    omega)
  clear h hp hh hd HF hB0 hlo
  generalize (sizP l r).toNat = N at *
  generalize chartF l r s z = f at *
  go_enter Try.func23, Try.ntmps23
  go_upto_region 2 with fail
  generalize (w.alloc (.cells #[.int .i64 l, .int .i64 r, .int .i64 s, .int .i64 z] 27)).alloc (.cells #[.int .i64 e, .int .i64 q] 56) = W0 at *
  obtain ⟨x0, x1, x2, x3⟩ := k1.c
  have y0 := k2.c0
  have y1 := k2.c1
  have zx := cell_lt x0
  have zy := cell_lt y0
  go_upto_region 3 with (go_at_call 29; refine (HC.out _).mono ?_; rintro e w1 ⟨rfl, hb1⟩)
  have HP1 := Lib.hid (k1.below hb1)
  have HE1 := Lib.hid (k2.below hb1)
  have HN1 := Lib.hid (HNZ.out.below hb1)
  have HB1 := Lib.hid (bt HB0.out hb1)
  clear hb1 k1 k2 x0 x1 x2 x3 y0 y1 zx zy HC HNZ HB0
  go_wp2_with fail
  go_loopw [13, 32] (fun s13 s32 wr => ∃ (j : Nat) (v : Value), s13 = v ∧ s32 = .int .i64 (j : Int) ∧ j ≤ n ∧ wr = w1) (fun _ s _ => n - (intOf s).toNat)
  case atStart => exact ⟨0, _, rfl, rfl, Nat.zero_le _, rfl⟩
  case round =>
    obtain ⟨j, v, rfl, rfl, hj, rfl⟩ := hrel
    by_cases hlt : j < n
    · have hji : (j : Int) < n := by omega
      obtain ⟨b, o, rfl, hi⟩ := HN1.out.resolve_left (by omega)
      have hq := hi j hlt
      have zq := cell_lt hq
      obtain ⟨d1, d2⟩ := HND.out j hlt
      have HW1 := Lib.hid (HWI.out (nz j) wr)
      rw [show (decide (-z ≤ nz j) && decide (nz j ≤ z)) = true by simp [d1, d2]] at HW1
      obtain ⟨x0, x1, x2, x3⟩ := HP1.out.c
      have zx := cell_lt x0
      have HJ := Lib.hid hlt
      have vj : IntKind.i64.wrap ((j : Int) + 1) = ((j + 1 : Nat) : Int) := by rw [IntWalk.i64_in _ (by omega)]; omega
      clear hi hlt d1 d2
      go_wp2_with (go_at_call 35; refine HW1.out.mono ?_; rintro e w2 ⟨rfl, rfl⟩)
      go_roundw
      case rel => exact ⟨j + 1, _, rfl, rfl, HJ.out, trivial⟩
      case measure => have := HJ.out; simp [intOf]; omega
    · obtain rfl : j = n := by omega
      have hji : ¬ ((j : Int) < j) := by omega
      clear hlt
      obtain ⟨x0, x1, x2, x3⟩ := HP1.out.c
      have zx := cell_lt x0
      go_upto_region 14 with (go_at_call 33; refine (HCH.out _).mono ?_; rintro e w2 ⟨b, rfl, hn2, hbb, hb2⟩)
      have hb3 := below_alloc (Below.refl w2.heap.size w2) (.cells #[.int .i64 l, .int .i64 r, .int .i64 s, .int .i64 z, .slice (some ⟨b, 0, none⟩) N N] 68)
      have HCT := Lib.hid (CtlAt.new w2 l r s z (some ⟨b, 0, none⟩) N N)
      have HNU := Lib.hid (hn2.below hb3)
      have HE3 := Lib.hid ((HE1.out.below hb2).below hb3)
      have HN3 := Lib.hid ((HN1.out.below hb2).below hb3)
      have HB3 := Lib.hid (bt HB1.out (bt hb2 hb3))
      have hbw := hn2.lt
      have HBC := Lib.hid (show b ≠ w.heap.size + 1 ∧ w2.heap.size ≠ w.heap.size + 1 by have := HB1.out.size; have := HE1.out.c0; have := cell_lt this; have := hb2.size; omega)
      clear hn2 hb2 hb3 hbb hbw x0 x1 x2 x3 zx HE1 HN1 HB1 HP1 HCH
      generalize w2.alloc (.cells #[.int .i64 l, .int .i64 r, .int .i64 s, .int .i64 z, .slice (some ⟨b, 0, none⟩) N N] 68) = W3 at *
      generalize w2.heap.size = Bc at *
      have HM1 := Lib.hid (HME.out b W3 HNU.out)
      obtain ⟨x0, x1, x2, x3, x4⟩ := HCT.out.c
      have zx := cell_lt x0
      have y0 := HE3.out.c0
      have y1 := HE3.out.c1
      have zy := cell_lt y0
      rw [HLO.out] at HM1
      go_upto_region 17 with (go_at_call 36; refine HM1.out.mono ?_; rintro e w4 ⟨rfl, hb4⟩)
      have HA : Hid (HoAt w w4 w4 l r s z N Bc b f nz j p e q 0 (.slice none 0 0)) := Lib.hid ⟨HCT.out.below hb4, HNU.out.below hb4, HE3.out.below hb4, HN3.out.below hb4, bt HB3.out hb4, Nat.le_refl _, World.ownsRow_nil _ _ _ _⟩
      have HLT2 := Lib.hid (show Bc < w4.heap.size ∧ b < w4.heap.size from ⟨(Array.getElem?_eq_some_iff.1 (HCT.out.below hb4)).1, (HNU.out.below hb4).lt⟩)
      have HPL := Lib.hid (show ∀ b' o', p = some ⟨b', o', none⟩ → 0 < j → b' < w4.heap.size from fun b' o' e h0 => by have := hnz.lt h0 e; have := (HA.out.bel).size; omega)
      have HPB := Lib.hid (show ∀ b' o', p = some ⟨b', o', none⟩ → 0 < j → b' ≠ w.heap.size + 1 from fun b' o' e h0 => by have := hnz.lt h0 e; omega)
      have HLT := Lib.hid (show w.heap.size + 1 < w4.heap.size from cell_lt (HE3.out.below hb4).c0)
      clear x0 x1 x2 x3 x4 zx y0 y1 zy hb4 HM1 HME HCT HNU HE3 HN3 HB3
      go_wp2_with fail
      go_loopw [15, 17, 53] (fun s15 s17 s53 wr => ∃ (k : Nat) (v v17 : Value), s15 = v ∧ s17 = v17 ∧ s53 = .int .i64 (k : Int) ∧ k ≤ j ∧ Hid (HoAt w w4 wr l r s z N Bc b f nz j p e q k v)) (fun _ _ s _ => j - (intOf s).toNat)
      case atStart => exact ⟨0, _, _, rfl, rfl, rfl, Nat.zero_le _, HA⟩
      case round =>
        clear HA
        obtain ⟨k, v, v17, rfl, rfl, rfl, hk, HA⟩ := hrel
        by_cases hlt : k < j
        · have hji : (k : Int) < j := by omega
          obtain ⟨bn, on, rfl, hi⟩ := HA.out.nzs.resolve_left (by omega)
          have hq := hi k hlt
          have zq := cell_lt hq
          have HNI := Lib.hid hi
          have HBN := Lib.hid (show bn ≠ w.heap.size + 1 from HPB.out bn on rfl (by omega))
          have hst1 := HST.out k hk
          obtain ⟨es, hes⟩ : ∃ es, (hst l r f e q nz k).1 = es := ⟨_, rfl⟩
          obtain ⟨qs, hqs⟩ : ∃ qs, (hst l r f e q nz k).2 = qs := ⟨_, rfl⟩
          obtain ⟨ns, hns⟩ : ∃ ns, atP l r f es qs = ns := ⟨_, rfl⟩
          rw [hes, hqs, hns] at hst1
          have HAK := Lib.hid (HAT.out es qs b)
          rw [hns] at HAK
          have HNX := Lib.hid (show hst l r f e q nz (k + 1) = (es + ns + nz k, ns) by show ((hst l r f e q nz k).1 + atP l r f (hst l r f e q nz k).1 (hst l r f e q nz k).2 + nz k, atP l r f (hst l r f e q nz k).1 (hst l r f e q nz k).2) = _; rw [hes, hqs, hns])
          have HAF := Lib.hid (fun W => after_any (e := es) (g := qs) (q := ns) (d := nz k) (by have := HND.out k hlt; omega) (by have := HND.out k hlt; omega) W)
          have he0 : EntAt wr (w.heap.size + 1) es qs := by rw [← hes, ← hqs]; exact HA.out.ent
          have HE0 := Lib.hid he0
          have HK := Lib.hid hlt
          have hk5 : (k : Int) ≤ 5000 := by omega
          have vk : IntKind.i64.wrap ((k : Int) + 1) = ((k + 1 : Nat) : Int) := by rw [IntWalk.i64_in _ (by omega)]; omega
          clear hi hst1 hes hqs hns he0 hlt
          obtain ⟨x0, x1, x2, x3, x4⟩ := HA.out.ctl.c
          have zx := cell_lt x0
          have y0 := HE0.out.c0
          have y1 := HE0.out.c1
          have zy := cell_lt y0
          go_upto_region 20 with fail
          have HX := Lib.hid (show ∀ X, Below wr.heap.size wr X → (fun w' => Below wr.heap.size wr w' ∧ w'.cell? ⟨Bc, 0, none⟩ = some (.int .i64 l) ∧ w'.cell? ⟨Bc, 1, none⟩ = some (.int .i64 r) ∧ w'.cell? ⟨Bc, 2, none⟩ = some (.int .i64 s) ∧ w'.cell? ⟨Bc, 3, none⟩ = some (.int .i64 z) ∧ w'.cell? ⟨Bc, 4, none⟩ = some (.slice (some ⟨b, 0, none⟩) N N) ∧ w'.cell? ⟨w.heap.size + 1, 0, none⟩ = some (.int .i64 es) ∧ w'.cell? ⟨w.heap.size + 1, 1, none⟩ = some (.int .i64 qs)) X from
            fun X hX => ⟨hX, cell_below hX x0, cell_below hX x1, cell_below hX x2, cell_below hX x3, cell_below hX x4, cell_below hX y0, cell_below hX y1⟩)
          clear x0 x1 x2 x3 x4 zx y0 y1 zy hq zq
          refine (wpIn_wide (n := 9)).1 ?_
          refine wpIn_region_cls (fun Z => Below wr.heap.size wr Z) 6 1 (Below.drew (Below.refl _ _)) (by kernel_rfl) (by kernel_rfl) (by kernel_rfl) (by kernel_rfl) (by kernel_rfl) rfl ?_
          simp only [List.take_succ_cons, List.take_zero]
          refine wpQuietIn_step (fun _ _ _ _ => trivial) (fun KQ hKQ => ?_)
          rw [if_pos (by rfl)]
          refine ⟨.agg #[.int .i64 es, .int .i64 qs], fun Z hZ => ?_, hKQ _ ?_⟩
          · obtain ⟨-, q0, q1, q2, q3, q4, q5, q6⟩ := HX.out Z hZ; have qz := cell_lt q0; have qy := cell_lt q5; unfold Oper.quietAtIn; go_simp
          clear hKQ KQ
          simp only [Act.put, List.setIfInBounds_toArray, List.set_cons_zero, List.set_cons_succ]
          refine wpQuietIn_step (fun _ _ _ _ => trivial) (fun KQ hKQ => ?_)
          rw [if_pos (by rfl)]
          refine ⟨.agg #[.int .i64 l, .int .i64 r, .int .i64 s, .int .i64 z, .slice (some ⟨b, 0, none⟩) N N], fun Z hZ => ?_, hKQ _ ?_⟩
          · obtain ⟨-, q0, q1, q2, q3, q4, q5, q6⟩ := HX.out Z hZ; have qz := cell_lt q0; have qy := cell_lt q5; unfold Oper.quietAtIn; go_simp
          clear hKQ KQ
          simp only [Act.put, List.setIfInBounds_toArray, List.set_cons_zero, List.set_cons_succ]
          refine wpQuietIn_step (fun _ _ _ _ => trivial) (fun KQ hKQ => ?_)
          rw [if_pos (by rfl)]
          refine ⟨.agg #[.int .i64 es, .int .i64 qs], fun Z hZ => ?_, hKQ _ ?_⟩
          · obtain ⟨-, q0, q1, q2, q3, q4, q5, q6⟩ := HX.out Z hZ; have qz := cell_lt q0; have qy := cell_lt q5; unfold Oper.quietAtIn; go_simp
          clear hKQ KQ
          simp only [Act.put, List.setIfInBounds_toArray, List.set_cons_zero, List.set_cons_succ]
          refine wpQuietIn_step (fun _ _ _ _ => trivial) (fun KQ hKQ => ?_)
          rw [if_pos (by rfl)]
          refine ⟨.int .i64 ns, fun Z hZ => ?_, hKQ _ ?_⟩
          · unfold Oper.quietAtIn; go_simp; exact callsIn_wide.2 (Calls.bel hZ (HAK.out Z (HA.out.num.below hZ)))
          clear hKQ KQ
          simp only [Act.put, List.setIfInBounds_toArray, List.set_cons_zero, List.set_cons_succ]
          refine wpQuietIn_step (fun _ _ _ _ => trivial) (fun KQ hKQ => ?_)
          rw [if_pos (by rfl)]
          refine ⟨.int .i64 (nz k), fun Z hZ => ?_, hKQ _ ?_⟩
          · unfold Oper.quietAtIn; go_simp
          clear hKQ KQ
          simp only [Act.put, List.setIfInBounds_toArray, List.set_cons_zero, List.set_cons_succ]
          refine wpQuietIn_step (fun _ _ _ _ => trivial) (fun KQ hKQ => ?_)
          rw [if_pos (by rfl)]
          refine ⟨.agg #[.int .i64 (es + ns + nz k), .int .i64 ns], fun Z hZ => ?_, hKQ _ ?_⟩
          · unfold Oper.quietAtIn; go_simp; exact callsIn_wide.2 (Calls.bel hZ (HAF.out Z))
          clear hKQ KQ
          simp only [Act.put, List.setIfInBounds_toArray, List.set_cons_zero, List.set_cons_succ]
          refine wpQuietIn_nil ?_
          intro w6 hb6
          simp only [List.replicate_succ, List.replicate_zero, List.cons_append, List.nil_append]
          have he6 := HE0.out.below hb6
          have y0 := he6.c0
          have y1 := he6.c1
          have f0 := he6.frozen 0
          have f1 := he6.frozen 1
          have zy := cell_lt y0
          have HS1 := Lib.hid (he6.set (es + ns + nz k) ns)
          have hs6 := hb6.size
          have HSA := Lib.hid (show CtlAt ((w6.setCell ⟨w.heap.size + 1, 0, none⟩ (.int .i64 (es + ns + nz k))).setCell ⟨w.heap.size + 1, 1, none⟩ (.int .i64 ns)) Bc l r s z (some ⟨b, 0, none⟩) N N ∧ NumW ((w6.setCell ⟨w.heap.size + 1, 0, none⟩ (.int .i64 (es + ns + nz k))).setCell ⟨w.heap.size + 1, 1, none⟩ (.int .i64 ns)) f N b 0 ∧
              NumIn ((w6.setCell ⟨w.heap.size + 1, 0, none⟩ (.int .i64 (es + ns + nz k))).setCell ⟨w.heap.size + 1, 1, none⟩ (.int .i64 ns)) nz j (some ⟨bn, on, none⟩) ∧ Below w.heap.size w ((w6.setCell ⟨w.heap.size + 1, 0, none⟩ (.int .i64 (es + ns + nz k))).setCell ⟨w.heap.size + 1, 1, none⟩ (.int .i64 ns)) ∧
              w4.heap.size ≤ ((w6.setCell ⟨w.heap.size + 1, 0, none⟩ (.int .i64 (es + ns + nz k))).setCell ⟨w.heap.size + 1, 1, none⟩ (.int .i64 ns)).heap.size ∧ ((w6.setCell ⟨w.heap.size + 1, 0, none⟩ (.int .i64 (es + ns + nz k))).setCell ⟨w.heap.size + 1, 1, none⟩ (.int .i64 ns)).ownsRow w4.heap.size 56 2 u15 k (lv (fun i => hst l r f e q nz (i + 1)) k) from by
            have hbc := HBC.out
            have hbn := HBN.out
            refine ⟨heap_set (heap_set (HA.out.ctl.below hb6) hbc.2) hbc.2, (HA.out.num.below hb6).same ?_, ?_, ((HA.out.bel.trans (hb6.mono HA.out.bel.size)).setCell (p := ⟨w.heap.size + 1, _, none⟩) (Nat.le_succ _) _).setCell (p := ⟨w.heap.size + 1, _, none⟩) (Nat.le_succ _) _, by simp; have := HA.out.size; omega, own_setS (own_setS (own_keep HA.out.own hb6 (Nat.le_refl _)) HLT.out) HLT.out⟩
            · rw [Below.heap_setCell _ _ _ _ (by show b ≠ w.heap.size + 1; exact hbc.1), Below.heap_setCell _ _ _ _ (by show b ≠ w.heap.size + 1; exact hbc.1)]
            · refine .inr ⟨bn, on, rfl, fun i hi => ?_⟩
              refine farC hbn (farC hbn ?_)
              exact cell_below hb6 (HNI.out i hi))
          clear HX
          refine wpAnyIn_ready (rs := [6]) (by kernel_rfl) (by simp) (AllReadyIn.cons rfl (fun K' hKK => ?_) AllReadyIn.nil)
          go_simp
          refine hKK _ _ ?_
          clear hKK
          refine wpAnyIn_done (by kernel_rfl) ?_ _
          have hsw6 := hb6.size
          clear he6 y0 y1 f0 f1 zy hb6
          generalize (w6.setCell ⟨w.heap.size + 1, 0, none⟩ (.int .i64 (es + ns + nz k))).setCell ⟨w.heap.size + 1, 1, none⟩ (.int .i64 ns) = W9 at *
          have y0 := HS1.out.c0
          have y1 := HS1.out.c1
          have zy := cell_lt y0
          have HLV : Hid (lv (fun i => hst l r f e q nz (i + 1)) (k + 1) = lv (fun i => hst l r f e q nz (i + 1)) k ++ [.int .i64 (es + ns + nz k), .int .i64 ns]) := Lib.hid (by rw [lv, HNX.out])
          have hso := HSA.out.2.2.2.2.2
          have hsz := HSA.out.2.2.2.2.1
          go_wp2_with (at_builtin; refine wpList_append_own_at _ rfl _ _ _ rfl w4.heap.size 56 i0 (.agg #[.int .i64 0, .int .i64 0]) 2 16 Try.underlying45 hi0 hz0 hz1 hz2 rfl (by decide) _ k _ rfl (hso.alloc _) ⟨W9.heap.size, 0, none⟩ 1 1 [.int .i64 (es + ns + nz k), .int .i64 ns] rfl rfl (two_new _ _ _ _) (by simp [Value.oneCell']) (by unfold maxLen; omega) (by omega) (by simp; omega) ?_; intro v' w7 hown hg _ _; obtain ⟨g', cap', rfl⟩ := ownsRow_succ hown)
          have hkp : ∀ kk, kk < w4.heap.size → w7.heap[kk]? = W9.heap[kk]? := fun kk hkk => by
            rw [hg.block kk (by simp; omega) (fun e => by have := own_geS hso e.symm; omega)]
            exact (below_alloc (Below.refl W9.heap.size W9) _).block kk (by omega)
          have HA2 : Hid (HoAt w w4 w7 l r s z N Bc b f nz j (some ⟨bn, on, none⟩) e q (k + 1) (.slice (some ⟨g', 0, none⟩) (k + 1) cap')) := Lib.hid (by
            obtain ⟨a1, a2, a4, a5, a5', a6⟩ := HSA.out
            have hL := HLT2.out
            refine ⟨(hkp Bc hL.1).trans a1, a2.same (hkp b hL.2), ?_, ?_, ?_, ?_, by rw [HLV.out]; exact hown⟩
            · rw [HNX.out]
              exact (hkp _ HLT.out).trans HS1.out
            · refine .inr ⟨bn, on, rfl, fun i hi => ?_⟩
              obtain ⟨b', o', e', hi'⟩ := a4.resolve_left (by omega)
              cases e'
              exact (World.cell?_of_block (a := ⟨bn, on + i, none⟩) (hkp bn (HPL.out bn on rfl (by omega)))).trans (hi' i hi)
            · exact (below_alloc2 a5).grown hg (by simp; have := a5.size; omega) (fun kk e => by have := own_geS hso e; have := HLT.out; omega)
            · exact Nat.le_trans a5' (by have := hg.size; simp at this; omega))
          clear hown hg hkp hso hsz
          go_roundw
          case rel => exact ⟨k + 1, _, _, rfl, rfl, by simp, HK.out, HA2⟩
          case measure => have := HK.out; simp [intOf]; omega

        · obtain rfl : k = j := by omega
          have hji : ¬ ((k : Int) < k) := by omega
          obtain ⟨pr, cr, rfl, hcr, hlp⟩ := own_ents HA.out.own
          have HLP := Lib.hid hlp
          have HBL := Lib.hid HA.out.bel
          clear hlp hlt HA
          go_wp2_with fail
          go_ret2
          exact ⟨⟨pr, cr, rfl, hcr, HLP.out⟩, HBL.out⟩
end Go.Proofs.Ytiapimfmnmegpaa.St
