/- Contracts of layer 2: the narrowest matrix. -/
import Derived.Test.YtlelamjbfjneiaaNf
import Derived.WalkMore
import Derived.Deep.LoopGhost
import Derived.ScopeJumps
namespace Go.Proofs.Ytlelamjbfjneiaa.Ct
open Go Go.RowKit Go.Shelf
attribute [local go_sem] Oper.semAt_some
/-- the matrix and the box that holds it -/
structure NarAt (w X : World) (n g bm : Nat) (bs : Nat → Nat) (M : List (List Int)) : Prop where
  mat : MatAt w X n g bs M
  sh : Shape n M
  box : X.cell? ⟨bm, 0, none⟩ = some (.slice (some ⟨g, 0, none⟩) n n)
  nb : ∀ i, i < n → bs i ≠ bm
  bge : w.heap.size ≤ bm
variable {w X Y : World} {n g bm : Nat} {bs : Nat → Nat} {M : List (List Int)}
theorem NarAt.below (h : NarAt w X n g bm bs M) (hb : Below X.heap.size X Y) : NarAt w Y n g bm bs M := ⟨h.mat.below hb, h.sh, cell_below hb h.box, h.nb, h.bge⟩
theorem NarAt.low (h : NarAt w X n g bm bs M) {a b : Nat} (ha : a < n) (hb : b < n) (x : Int) (k : Nat) : NarAt w ((X.setCell ⟨bs a, b, none⟩ (.int .i64 (min (getM M a b) x))).drewN k) n g bm bs (lowM M a b x) :=
  NarAt.below ⟨h.mat.low h.sh ha hb x, h.sh.low a b x, by rw [World.cell?_setCell_far _ _ _ _ (h.nb a ha)]; exact h.box, h.nb, h.bge⟩ (below_drewN (Below.refl _ _) k)
/-- what an iterator's round may not touch: what was there, and what is new -/
def Out (w W : World) (k : Nat) : Prop := k < w.heap.size ∨ W.heap.size ≤ k
theorem stay_low (h : NarAt w X n g bm bs M) {W : World} {a b : Nat} (ha : a < n) (hlt : ∀ i, i < n → bs i < W.heap.size) (u : Value) (k : Nat) : StayC (Out w W) X ((X.setCell ⟨bs a, b, none⟩ u).drewN k) := by
  refine ⟨by show X.heap.size ≤ (X.setCell ⟨bs a, b, none⟩ u).heap.size; simp, fun j ob hj ho _ => ?_⟩
  have hne : bs a ≠ j := fun e => by
    have h1 := h.mat.ge a ha
    have h2 := hlt a ha
    rcases hj with hj | hj <;> omega
  show (X.setCell ⟨bs a, b, none⟩ u).heap[j]? = some ob
  rw [Below.heap_setCell _ _ _ _ (fun e => hne e.symm)]
  exact ho
theorem keeps_drewN (W : World) (k : Nat) : KeepsOthers W (W.drewN k) := ⟨Nat.le_refl _, fun _ _ h _ => h⟩
/-- a limit in a box -/
structure LimBox (W : World) (b : Nat) (x : Lim) : Prop where
  c0 : W.cell? ⟨b, 0, none⟩ = some (.int .i64 x.f)
  c1 : W.cell? ⟨b, 1, none⟩ = some (.int .i64 x.s)
  c2 : W.cell? ⟨b, 2, none⟩ = some (.int .i64 x.m)
theorem own_nar {B : Nat} (hB : w.heap.size ≤ B) : OwnFrom B (fun (_ : Unit) W => NarAt w W n g bm bs M) := fun _ A C row hs hg hr => by
  have hr2 : ∀ r, row = some r → ∃ o : Obj, A.heap[r]? = some o ∧ o.isCells = false := fun r e => (hr r e).2
  exact ⟨⟨fun i hi => cell_kept (hs.mat.rows i hi) hg hr2, fun i j hi hj => ⟨cell_kept (hs.mat.at_ i j hi hj).1 hg hr2, (frozen_kept (hs.mat.at_ i j hi hj).1 hg hr2).trans (hs.mat.at_ i j hi hj).2⟩, hs.mat.inj, hs.mat.ne, hs.mat.ge,
    hs.mat.bel.grown hg hs.mat.bel.size (fun k e => Nat.le_trans hB (hr k e).1)⟩, hs.sh, cell_kept hs.box hg hr2, hs.nb, hs.bge⟩
structure LimsOk (n : Nat) (l : List Bnd) : Prop where
  len : l.length ≤ 240
  ok : ∀ i, i < l.length → BndIn n (bndAt l i)
theorem lims_of {n : Nat} {l : List Bnd} (h : netErr n l = 0) : (1 ≤ n ∧ n ≤ 16) ∧ LimsOk n l := by
  unfold netErr at h
  by_cases h1 : 1 ≤ (n : Int) ∧ (n : Int) ≤ 16
  · rw [if_pos h1] at h
    by_cases h2 : l.length ≤ 240
    · rw [if_pos h2] at h
      by_cases h3 : l.all (bndOk n) = true
      · refine ⟨by omega, h2, fun i hi => ?_⟩
        rw [← bndAt_get hi]
        exact bndOk_iff.1 (List.all_eq_true.1 h3 _ (List.getElem_mem hi))
      · rw [if_neg h3] at h; omega
    · rw [if_neg h2] at h; omega
  · rw [if_neg h1] at h; omega
theorem uix_bd {n : Nat} {l : List Bnd} (h : LimsOk n l) (d : Uix l.length) : ∃ (a b : Nat) (m : Int), uixLim l d = ⟨a, b, m⟩ ∧ a < n ∧ b < n := by
  have hb := h.ok d.1.1 d.2
  obtain ⟨⟨i, up⟩, hi⟩ := d
  dsimp only at hb
  have h1 := hb.a
  have h2 := hb.b
  unfold uixLim
  cases up
  · exact ⟨(bndAt l i).b.toNat, (bndAt l i).a.toNat, _, by simp [limOf, limDn]; exact ⟨by omega, by omega, rfl⟩, by omega, by omega⟩
  · exact ⟨(bndAt l i).a.toNat, (bndAt l i).b.toNat, _, by simp [limOf, limUp]; exact ⟨by omega, by omega, rfl⟩, by omega, by omega⟩
/-- the uses so far are in the matrix -/
def useS (n : Nat) (l : List Bnd) (pre : List (Uix l.length)) : List (List Int) := (pre.map (uixLim l)).foldl useM (diagM n n)
theorem useS_snoc (n : Nat) (l : List Bnd) (pre : List (Uix l.length)) (d : Uix l.length) : useS n l (pre ++ [d]) = useM (useS n l pre) (uixLim l d) := by simp [useS]
theorem useS_all (n : Nat) (l : List Bnd) : useS n l (useL l.length l.length (Nat.le_refl _)) = boundM n (limsL l) := by
  unfold useS boundM limsL
  rw [← useL_val l.length l.length (Nat.le_refl _), List.map_map]
  rfl
/-- the matrix that comes back, and whether it is one -/
def NarRet (n : Nat) (N : List (List Int) × Bool) (w : World) (e : Ending) (w' : World) : Prop := ∃ g bs, e = .returned (.tuple #[.slice (some ⟨g, 0, none⟩) n n, .bool N.2]) ∧ MatAt w w' n g bs N.1
theorem calm_get {n : Nat} {M : List (List Int)} (h : Shape n M) (hc : calmB M = true) {i j : Nat} (hi : i < n) (hj : j < n) : -1000000000000000000 ≤ getM M i j ∧ getM M i j ≤ openI := by
  have hr := h.rows
  have hcol := h.cols i hi
  have h1 := List.all_eq_true.1 hc (M[i]'(by omega)) (List.getElem_mem _)
  have e1 : (M[i]?).getD [] = M[i]'(by omega) := by simp [hr, hi]
  rw [e1] at hcol
  have h2 := List.all_eq_true.1 h1 ((M[i]'(by omega))[j]'(by omega)) (List.getElem_mem _)
  have e2 : getM M i j = (M[i]'(by omega))[j]'(by omega) := by unfold getM; rw [e1]; simp [hcol, hj]
  rw [e2]
  simpa using h2
theorem calm_at {n : Nat} {l : List Bnd} (h : calmAll n l = true) {v a b : Nat} (hv : v < n) (ha : a < n) (hb : b < n) (h1 : (viaM n (boundM n (limsL l)) v).2 = true) (h2 : (colM n (viaM n (boundM n (limsL l)) v).1 v a).2 = true) :
    calmB (rowM (colM n (viaM n (boundM n (limsL l)) v).1 v a).1 v a b) = true := by
  have e1 := List.all_eq_true.1 h v (List.mem_range.2 hv)
  rw [h1] at e1
  have e2 := List.all_eq_true.1 (show calmCol n (viaM n (boundM n (limsL l)) v).1 v = true by simpa using e1) a (List.mem_range.2 ha)
  rw [h2] at e2
  exact List.all_eq_true.1 (show calmRow (colM n (viaM n (boundM n (limsL l)) v).1 v a).1 v a n = true by simpa using e2) b (List.mem_range.2 hb)
theorem via_not {n : Nat} {M : List (List Int)} {v : Nat} (h : (viaM n M v).2 = false) : ∀ k, v ≤ k → viaM n M k = viaM n M v
  | 0, hk => by obtain rfl : v = 0 := by omega
                rfl
  | k + 1, hk => by
    by_cases e : v = k + 1
    · rw [e]
    · have ih := via_not h k (by omega)
      rw [show viaM n M (k + 1) = if (viaM n M k).2 = true then colM n (viaM n M k).1 k n else viaM n M k from rfl, ih, h, if_neg (by simp)]
theorem col_not {n : Nat} {M : List (List Int)} {v a : Nat} (h : (colM n M v a).2 = false) : ∀ k, a ≤ k → colM n M v k = colM n M v a
  | 0, hk => by obtain rfl : a = 0 := by omega
                rfl
  | k + 1, hk => by
    by_cases e : a = k + 1
    · rw [e]
    · have ih := col_not h k (by omega)
      rw [show colM n M v (k + 1) = if (colM n M v k).2 = true then (rowM (colM n M v k).1 v k n, decide (0 ≤ getM (rowM (colM n M v k).1 v k n) k k)) else colM n M v k from rfl, ih, h, if_neg (by simp)]
theorem col_step {n : Nat} {M : List (List Int)} {v a : Nat} (h : (colM n M v a).2 = true) : colM n M v (a + 1) = (rowM (colM n M v a).1 v a n, decide (0 ≤ getM (rowM (colM n M v a).1 v a n) a a)) := by
  rw [colM, if_pos h]
theorem via_step {n : Nat} {M : List (List Int)} {v : Nat} (h : (viaM n M v).2 = true) : viaM n M (v + 1) = colM n (viaM n M v).1 v n := by
  rw [viaM, if_pos h]
theorem heap_low {X : World} {b o D k : Nat} {u : Value} {ob : Obj} (h : X.heap[D]? = some ob) (hne : b ≠ D) : ((X.setCell ⟨b, o, none⟩ u).drewN k).heap[D]? = some ob := by
  show (X.setCell ⟨b, o, none⟩ u).heap[D]? = some ob
  rw [Below.heap_setCell _ _ _ _ (fun e => hne e.symm)]; exact h
set_option maxRecDepth 1000000 in
set_option maxHeartbeats 8000000 in
theorem narrowest_any (n : Nat) (l : List Bnd) (p : Option Addr) (cap : Nat) (w : World) (hs : BndsIn w l p) (he : netErr n l = 0) (hcalm : calmAll n l = true) :
    Calls Try.prog 22 #[.int .i64 n, .slice p l.length cap] w (NarRet n (narrowS n l) w) := by
  obtain ⟨hn, hl⟩ := lims_of he
  refine (callsIn_wide (n := 9)).1 ?_
  have hro : Fence.wide.round = none := rfl
  have HL := Lib.hid hl
  have HS := Lib.hid hs
  have HC := Lib.hid hcalm
  have HF := Lib.hid (fun W => filled_any n W hn)
  unfold openI at HF
  clear hl hs hcalm he
  refine callsIn_of_wp_marks Try.func22 rfl trivial ?_ hro
  simp only [Try.ntmps22, List.size_toArray, List.length_cons, List.length_nil, Nat.reduceAdd, Nat.reduceSub, Array.replicate_succ, Array.replicate_zero, List.push_toArray, List.append_toArray, List.nil_append, List.cons_append]
  refine wpIn_wide.2 ?_
  go_wp2
  go_step3
  go_wp2_with (go_at_call 44; refine (HF.out w).mono ?_; rintro e w1 ⟨g, bs, rfl, hmat, hg1, hg2⟩)
  have B1 := below_alloc (Below.refl w1.heap.size w1) (.cells #[.slice (some ⟨g, 0, none⟩) n n] 68)
  have HN0 : Hid (NarAt w (w1.alloc (.cells #[.slice (some ⟨g, 0, none⟩) n n] 68)) n g w1.heap.size bs (diagM n 0)) := Lib.hid ⟨hmat.below B1, shape_fill n, by simp, fun i hi e => by have := cell_lt (hmat.at_ i 0 hi (by omega)).1; omega, hmat.bel.size⟩
  clear hmat B1 HF
  generalize hW2 : w1.alloc (.cells #[.slice (some ⟨g, 0, none⟩) n n] 68) = W2 at *
  obtain ⟨bm, hbm⟩ : ∃ bm, bm = w1.heap.size := ⟨_, rfl⟩
  rw [← hbm] at HN0 ⊢
  clear hW2 hbm hg1 hg2
  go_loopw [7, 17] (fun s i wr => ∃ (k : Nat) (v : Value), k ≤ n ∧ s = v ∧ i = .int .i64 (k : Int) ∧ Hid (NarAt w wr n g bm bs (diagM n k))) (fun _ i _ => n - (intOf i).toNat)
  case atStart => exact ⟨0, _, Nat.zero_le _, rfl, rfl, HN0⟩
  case round =>
    obtain ⟨k, v, hk, rfl, rfl, HN⟩ := hrel
    by_cases hlt : k < n
    · have hki : (k : Int) < n := by omega
      have HK := Lib.hid hlt
      have x0 := HN.out.box
      have hz := cell_lt x0
      have w1k : IntKind.i64.wrap ((k : Int) + 1) = (k : Int) + 1 := IntWalk.i64_in _ (by omega)
      go_wp2_with fail
      refine (lower_any 0 w wr n g k k bs _ HN.out.mat hlt hlt).mono ?_
      rintro e w2 ⟨rfl, kk, rfl⟩
      have HN2 := Lib.hid (HN.out.low hlt hlt 0 kk)
      generalize ((wr.setCell ⟨bs k, k, none⟩ (.int .i64 (min (getM (diagM n k) k k) 0))).drewN kk) = W3 at *
      clear x0 hz hlt HN
      go_wp2_with fail
      go_roundw
      case rel => exact ⟨k + 1, _, HK.out, rfl, by simp, HN2⟩
      case measure => have := HK.out; simp [intOf]; omega
    · have hki : ¬ ((k : Int) < n) := by omega
      obtain rfl : k = n := by omega
      clear hlt
      go_wp2_with fail
      refine (limits_any p l.length cap wr).mono ?_
      rintro e W3 ⟨rfl, rfl⟩
      have hWs : wr.heap.size < (wr.alloc (.cells #[.slice p l.length cap] 25)).heap.size := by simp
      have HNA := HN.out.below (below_alloc (Below.refl wr.heap.size wr) (.cells #[.slice p l.length cap] 25))
      have hbl : ∀ i, i < k → bs i < wr.heap.size := fun i hi => cell_lt (HN.out.mat.at_ i 0 hi (by omega)).1
      have hws : w.heap.size ≤ wr.heap.size := HN.out.mat.bel.size
      have HD : LimIn (wr.alloc (.cells #[.slice p l.length cap] 25)) wr.heap.size l p cap := ⟨by simp, (HS.out.below HN.out.mat.bel).below (below_alloc (Below.refl wr.heap.size wr) _)⟩
      have HO : LimOk (Out w wr) wr.heap.size p l.length := ⟨.inr (Nat.le_refl _), by
        rcases HS.out with h0 | ⟨b, o, e, hi⟩
        · exact .inl h0
        · by_cases h0 : l.length = 0
          · exact .inl h0
          · exact .inr fun b' o' e' => by
              rw [e] at e'
              cases e'
              exact .inl (cell_lt (hi 0 (by omega)).1.1)⟩
      have HLO : ∀ i, i < l.length → -1000000000000000 ≤ (bndAt l i).lo ∧ (bndAt l i).lo ≤ 1000000000000000 := fun i hi => (HL.out.ok i hi).lo
      have HST := limits1_stops 8 wr.heap.size (Out w wr) l p cap HO HL.out.len HLO (by decide) (wr.alloc (.cells #[.slice p l.length cap] 25)) (fun j hj => .inr (by omega)) HD
      have HBL := Lib.hid hbl
      have HWS := Lib.hid hws
      have HWL := Lib.hid hWs
      clear hbl hws hWs HD HO HLO
      go_wp2_with fail
      generalize hWR : wr.alloc (.cells #[.slice p l.length cap] 25) = WR at *
      have HWE := Lib.hid hWR
      clear hWR
      refine (wpIn_wide (n := 9)).1 ?_
      refine wpIn_rangeFunc_ownH hro (by decide) (gf := 71) (lb := #[.pointer (some ⟨wr.heap.size, 0, none⟩)]) rfl trivial (enters_of Try.func71 (by kernel_rfl) rfl)
        HST (fun h k => h.trans k) StayC.putObj (Below.refl _ _) (fun _ => rfl)
        (fun pre W => NarAt w W k g bm bs (useS k l pre)) (fun _ _ _ => False)
        (fun s A C row hs hg hr => own_nar (Nat.le_trans HWS.out (Nat.le_of_lt HWL.out)) () A C row hs hg hr) (fun _ _ _ _ _ hs _ _ => hs) HNA
        (fun d a' W => ∃ b, a' = { tmps := List.toArray (.int .i64 k :: .slice p l.length cap :: undef :: undef :: .slice none 0 0 :: .bool false :: .pointer (some ⟨bm, 0, none⟩) :: u7 :: undef :: .pointer (some ⟨b, 0, none⟩) :: undef :: undef :: undef :: undef :: .int .i64 k :: .slice (some ⟨g, 0, none⟩) k k :: .int .i64 k :: .int .i64 k :: .bool false :: u19 :: u20 :: u21 :: u22 :: u23 :: u24 :: .slice p l.length cap :: .func (.func 71) #[] #[.pointer (some ⟨wr.heap.size, 0, none⟩)] :: .agg #[.int .i64 (d.1.1 : Int), .bool d.1.2] :: .agg #[.int .i64 (uixLim l d).f, .int .i64 (uixLim l d).s, .int .i64 (uixLim l d).m] :: undef :: undef :: undef :: undef :: undef :: undef :: undef :: undef :: undef :: undef :: undef :: undef :: undef :: undef :: undef :: undef :: undef :: undef :: undef :: undef :: undef :: undef :: undef :: undef :: undef :: undef :: undef :: undef :: undef :: undef :: undef :: undef :: undef :: undef :: undef :: undef :: undef :: undef :: undef :: undef :: undef :: undef :: undef :: undef :: undef :: undef :: undef :: undef :: undef :: undef :: undef :: undef :: undef :: undef :: undef :: undef :: undef :: undef :: undef :: undef :: undef :: undef :: undef :: undef :: undef :: undef :: undef :: undef :: undef :: undef :: []), defers := [] } ∧ LimBox W b (uixLim l d))
        (fun d a' s A C row hs hg hr => by
          obtain ⟨b, e, h0, h1, h2⟩ := hs
          have hr2 : ∀ r, row = some r → ∃ o : Obj, A.heap[r]? = some o ∧ o.isCells = false := fun r e => (hr r e).2
          exact ⟨b, e, cell_kept h0 hg hr2, cell_kept h1 hg hr2, cell_kept h2 hg hr2⟩) ?assign ?body ?done ?stop
      case assign =>
        intro lp pre d W K hI hK
        unfold uixVal limVal
        gi_wp2
        refine hK _ _ ((KeepsOthers.alloc _ _).from _) (StayC.of_below (below_alloc (Below.refl _ _) _)) (hI.below (below_alloc (Below.refl _ _) _)) ⟨_, rfl, by simp, by simp, by simp⟩
      case body =>
        rintro lp pre d a' W hlp hrc hI ⟨b, rfl, hB⟩ hlen
        obtain ⟨x, y, mm, hxy, hx, hy⟩ := uix_bd HL.out d
        obtain ⟨b0, b1, b2⟩ := hB
        have hM := useS_snoc k l pre d
        rw [hxy] at b0 b1 b2 hM
        have x0 := hI.box
        have hz := cell_lt x0
        have hz2 := cell_lt b0
        dsimp only at b0 b1 b2
        clear hxy
        gi_wp2_with (refine ⟨trivial, ?_⟩; gi_at_call 45; refine (callsIn_wide.2 (lower_any mm w W k g x y bs _ hI.mat hx hy)).mono ?_; rintro e w2 ⟨rfl, kk, rfl⟩)
        have HM2 := hI.low hx hy mm kk
        have hk1 := stay_low (b := y) hI hx (fun i hi => Nat.lt_of_lt_of_le (HBL.out i hi) (Nat.le_refl _)) (.int .i64 (min (getM (useS k l pre) x y) mm)) kk
        refine ⟨((KeepsOthers.setCell _ _ _).trans (keeps_drewN _ _)).from _, hk1, ?_⟩
        show NarAt w _ k g bm bs (useS k l (pre ++ [d]))
        rw [hM]
        exact HM2
      case done =>
        rintro D ys W hD rfl hI hK
        rw [useS_all] at hI
        have hne : ∀ i, i < k → bs i ≠ D := fun i hi e => by have h1 := HBL.out i hi; have h2 := HWL.out; omega
        have HNE := Lib.hid hne
        obtain ⟨B, hB⟩ : ∃ B, B = boundM k (limsL l) := ⟨_, rfl⟩
        have HCA := Lib.hid (fun (v a b : Nat) hv ha hb => calm_at HC.out (v := v) (a := a) (b := b) hv ha hb)
        rw [← hB] at hI HCA
        have HI := Lib.hid hI
        have HK := Lib.hid hK
        have HBB := Lib.hid hB
        have HDD := Lib.hid (show w.heap.size ≤ D from Nat.le_trans HWS.out (Nat.le_trans (Nat.le_of_lt HWL.out) hD))
        have hopen : openI = 100000000000000000 := rfl
        unfold openI at hopen
        clear hne hI hK hD hB hopen
        go_wp2_with fail
        go_step3
        go_wp2_with fail
        go_loopw [10, 11, 38] (fun s10 s11 s38 wx => ∃ (v : Nat) (x : Value), v ≤ k ∧ s10 = .bool true ∧ s11 = x ∧ s38 = .int .i64 (v : Int) ∧ Hid ((viaM k B v).2 = true) ∧ Hid (NarAt w wx k g bm bs (viaM k B v).1) ∧ Hid (wx.heap[D]? = some (.deferred (some [])))) (fun _ _ s38 _ => k - (intOf s38).toNat)
        case atStart => exact ⟨0, _, Nat.zero_le _, rfl, rfl, rfl, Lib.hid rfl, HI, HK⟩
        case round =>
          obtain ⟨v, xv, hv, rfl, rfl, rfl, HT, HV, HVD⟩ := hrel
          by_cases hlt : v < k
          · have hvi : (v : Int) < k := by omega
            have HVK := Lib.hid hlt
            have hst := via_step HT.out
            obtain ⟨M, hM⟩ : ∃ M, M = (viaM k B v).1 := ⟨_, rfl⟩
            have hcl := fun (a b : Nat) ha hb h2 => HCA.out v a b hlt ha hb HT.out h2
            rw [← hM] at HV hst hcl
            have HCL := Lib.hid (fun (a b : Nat) (ha : a < k) (hb : b < k) h2 => hcl a b ha hb h2)
            have HVS := Lib.hid hst
            clear hM hst hcl HT hlt
            go_wp2_with fail
            go_loopw [10, 12, 42] (fun s10 s12 s42 wx => ∃ (a : Nat) (x : Value), a ≤ k ∧ s10 = .bool true ∧ s12 = x ∧ s42 = .int .i64 (a : Int) ∧ Hid ((colM k M v a).2 = true) ∧ Hid (NarAt w wx k g bm bs (colM k M v a).1) ∧ Hid (wx.heap[D]? = some (.deferred (some [])))) (fun _ _ s42 _ => k - (intOf s42).toNat)
            case atStart => exact ⟨0, _, Nat.zero_le _, rfl, rfl, rfl, Lib.hid rfl, HV, HVD⟩
            case round =>
              obtain ⟨a, xa, ha, rfl, rfl, rfl, HTA, HA, HAD⟩ := hrel
              by_cases hlt : a < k
              · have hai : (a : Int) < k := by omega
                have HAK := Lib.hid hlt
                have hst := col_step HTA.out
                obtain ⟨R, hR⟩ : ∃ R, R = (colM k M v a).1 := ⟨_, rfl⟩
                have hcl := fun (b : Nat) hb => HCL.out a b hlt hb HTA.out
                rw [← hR] at HA hst hcl
                have HRL := Lib.hid hcl
                have HAS := Lib.hid hst
                clear hR hst hcl HTA hlt
                go_wp2_with fail
                go_loopw [13, 46] (fun s13 s46 wx => ∃ (b : Nat) (x : Value), b ≤ k ∧ s13 = x ∧ s46 = .int .i64 (b : Int) ∧ Hid (NarAt w wx k g bm bs (rowM R v a b)) ∧ Hid (wx.heap[D]? = some (.deferred (some [])))) (fun _ s46 _ => k - (intOf s46).toNat)
                case atStart => exact ⟨0, _, Nat.zero_le _, rfl, rfl, HA, HAD⟩
                case round =>
                  obtain ⟨b, xb, hb, rfl, rfl, HB, HBD⟩ := hrel
                  by_cases hlt : b < k
                  · have hbi : (b : Int) < k := by omega
                    have hvk := HVK.out
                    have hak := HAK.out
                    have c1 := calm_get HB.out.sh (HRL.out b hlt) hak hvk
                    have c2 := calm_get HB.out.sh (HRL.out b hlt) hvk hlt
                    obtain ⟨x1, -⟩ := HB.out.mat.at_ a v hak hvk
                    obtain ⟨x2, -⟩ := HB.out.mat.at_ v b hvk hlt
                    have r1 := HB.out.mat.rows a hak
                    have r2 := HB.out.mat.rows v hvk
                    have x0 := HB.out.box
                    have z0 := cell_lt x0
                    have z1 := cell_lt x1
                    have z2 := cell_lt x2
                    have zr := cell_lt r1
                    have HBK := Lib.hid hlt
                    have hrow : rowM R v a (b + 1) = relaxM (rowM R v a b) v a b := rfl
                    have w1 : IntKind.i64.wrap ((b : Int) + 1) = (b : Int) + 1 := IntWalk.i64_in _ (by omega)
                    unfold relaxM at hrow
                    unfold openI at hrow c1 c2
                    generalize hP : getM (rowM R v a b) a v = P at *
                    generalize hQ : getM (rowM R v a b) v b = Q at *
                    by_cases hp : P < 100000000000000000
                    · by_cases hq : Q < 100000000000000000
                      · rw [if_pos ⟨hp, hq⟩] at hrow
                        have HR := Lib.hid hrow
                        have HLO := Lib.hid (fun X (h : MatAt w X k g bs (rowM R v a b)) => lower_any (P + Q) w X k g a b bs _ h hak hlt)
                        have w2 : IntKind.i64.wrap (P + Q) = P + Q := IntWalk.i64_in _ (by omega)
                        clear hrow hP hQ hlt
                        go_upto_region 21 with fail
                        refine (wpIn_wide (n := 9)).1 ?_
                        refine wpIn_region_pre_lit 18 1 rfl (by kernel_rfl) (by kernel_rfl) (by kernel_rfl) (by kernel_rfl) rfl ?_
                        simp only [List.take_succ_cons, List.take_zero]
                        repeat (refine wpQuietIn_step (by first | exact fun _ _ _ _ => trivial | quiet_asked_in) (fun KQ hKQ => ?_); go_simp; first | (refine hKQ _ ?_; clear hKQ KQ) | (apply Exists.intro; refine ⟨fun _ => ?_, hKQ _ ?_⟩; (fail); clear hKQ KQ))
                        refine wpQuietIn_nil ?_
                        intro _ hwq1
                        obtain ⟨nq, hwq2⟩ := hwq1
                        subst hwq2
                        simp only [List.replicate_succ, List.replicate_zero, List.cons_append, List.nil_append]
                        have HB2 := Lib.hid (HB.out.below (below_drewN (Below.refl wr.heap.size wr) nq))
                        have HBD2 : Hid ((wr.drewN nq).heap[D]? = some (.deferred (some []))) := Lib.hid HBD.out
                        refine wpAnyIn_ready (rs := [18]) (by kernel_rfl) (by simp) (AllReadyIn.cons rfl (fun K' hKK => ?_) AllReadyIn.nil)
                        go_simp
                        refine ⟨trivial, (callsIn_wide.2 (HLO.out _ HB2.out.mat)).mono ?_⟩
                        rintro e wL ⟨rfl, kk, rfl⟩
                        go_simp
                        refine hKK _ _ ?_
                        clear hKK
                        refine wpAnyIn_done (by kernel_rfl) ?_ _
                        have HB3 := Lib.hid (HB2.out.low hak HBK.out (P + Q) kk)
                        have HBD3 := Lib.hid (heap_low (b := bs a) (o := b) (k := kk) (u := .int .i64 (min (getM (rowM R v a b) a b) (P + Q))) HBD2.out (HNE.out a hak))
                        rw [← HR.out] at HB3
                        generalize (((wr.drewN nq).setCell ⟨bs a, b, none⟩ (.int .i64 (min (getM (rowM R v a b) a b) (P + Q)))).drewN kk) = W9 at *
                        clear x0 x1 x2 r1 r2 z0 z1 z2 zr HB2 HBD2 HLO
                        go_wp2_with fail
                        go_roundw
                        case rel => exact ⟨b + 1, _, HBK.out, rfl, by simp, HB3, HBD3⟩
                        case measure => have := HBK.out; simp [intOf]; omega
                      · rw [if_neg (fun h => hq h.2)] at hrow
                        have HR := Lib.hid hrow
                        clear hrow hP hQ hlt
                        go_wp2_with fail
                        go_roundw
                        case rel => exact ⟨b + 1, _, HBK.out, rfl, by simp, Lib.hid (by rw [HR.out]; exact HB.out), HBD⟩
                        case measure => have := HBK.out; simp [intOf]; omega
                    · rw [if_neg (fun h => hp h.1)] at hrow
                      have HR := Lib.hid hrow
                      clear hrow hP hQ hlt
                      go_wp2_with fail
                      go_roundw
                      case rel => exact ⟨b + 1, _, HBK.out, rfl, by simp, Lib.hid (by rw [HR.out]; exact HB.out), HBD⟩
                      case measure => have := HBK.out; simp [intOf]; omega
                  · have hbi : ¬ ((b : Int) < k) := by omega
                    obtain rfl : b = k := by omega
                    have hak := HAK.out
                    obtain ⟨x1, -⟩ := HB.out.mat.at_ a a hak hak
                    have r1 := HB.out.mat.rows a hak
                    have x0 := HB.out.box
                    have z0 := cell_lt x0
                    have z1 := cell_lt x1
                    have zr := cell_lt r1
                    have hai2 : (a : Int) < b := by omega
                    have w1 : IntKind.i64.wrap ((a : Int) + 1) = (a : Int) + 1 := IntWalk.i64_in _ (by omega)
                    by_cases hneg : getM (rowM R v a b) a a < 0
                    · have HAF : Hid ((colM b M v (a + 1)).1 = rowM R v a b ∧ (colM b M v (a + 1)).2 = false) := Lib.hid (by rw [HAS.out]; exact ⟨rfl, by simpa using hneg⟩)
                      have HFIN : Hid (narrowS b l = (rowM R v a b, false)) := Lib.hid (by
                        have h1 := col_not HAF.out.2 b (by omega)
                        have h2 : viaM b B (v + 1) = (rowM R v a b, false) := by
                          rw [HVS.out, h1]
                          exact Prod.ext HAF.out.1 HAF.out.2
                        have h3 := via_not (show (viaM b B (v + 1)).2 = false by rw [h2]) b (by have := HVK.out; omega)
                        unfold narrowS
                        rw [← HBB.out, h3, h2])
                      generalize getM (rowM R v a b) a a = P at *
                      go_wp2_with fail
                      refine ⟨by simp, .inl ⟨_, _, rfl, run_takeDeferred HBD.out, ?_⟩⟩
                      exact ⟨.tuple #[.slice (some ⟨g, 0, none⟩) b b, .bool false], by simp [results, Try.results22, go_sem], ⟨g, bs, by rw [HFIN.out], by rw [HFIN.out]; exact (own_nar HDD.out () _ _ (some D) HB.out (grownBy_putObj' _ _ _) (fun r e => by cases e; exact ⟨Nat.le_refl _, _, HBD.out, rfl⟩)).mat⟩⟩
                    · have HAF : Hid ((colM b M v (a + 1)).1 = rowM R v a b ∧ (colM b M v (a + 1)).2 = true) := Lib.hid (by rw [HAS.out]; exact ⟨rfl, by simp; omega⟩)
                      have HN2 : Hid (NarAt w wr b g bm bs (colM b M v (a + 1)).1) := Lib.hid (by rw [HAF.out.1]; exact HB.out)
                      generalize getM (rowM R v a b) a a = P at *
                      go_wp2_with fail
                      go_roundw
                      case rel => exact ⟨a + 1, _, hak, rfl, rfl, by simp, Lib.hid HAF.out.2, HN2, HBD⟩
                      case measure => simp [intOf]; omega
              · have hai : ¬ ((a : Int) < k) := by omega
                obtain rfl : a = k := by omega
                have HV2 : Hid ((viaM a B (v + 1)).2 = true) := Lib.hid (by rw [HVS.out]; exact HTA.out)
                have HN2 : Hid (NarAt w wr a g bm bs (viaM a B (v + 1)).1) := Lib.hid (by rw [HVS.out]; exact HA.out)
                have w1 : IntKind.i64.wrap ((v : Int) + 1) = (v : Int) + 1 := IntWalk.i64_in _ (by omega)
                go_wp2_with fail
                go_roundw
                case rel => exact ⟨v + 1, _, HVK.out, rfl, rfl, by simp, HV2, HN2, HAD⟩
                case measure => have := HVK.out; simp [intOf]; omega
          · have hvi : ¬ ((v : Int) < k) := by omega
            obtain rfl : v = k := by omega
            have HFIN : Hid (narrowS v l = ((viaM v B v).1, true)) := Lib.hid (by
              unfold narrowS
              rw [← HBB.out]
              exact Prod.ext rfl HT.out)
            have x0 := HV.out.box
            have z0 := cell_lt x0
            go_wp2_with fail
            refine ⟨by simp, .inl ⟨_, _, rfl, run_takeDeferred HVD.out, ?_⟩⟩
            exact ⟨.tuple #[.slice (some ⟨g, 0, none⟩) v v, .bool true], by simp [results, Try.results22, go_sem], ⟨g, bs, by rw [HFIN.out], by rw [HFIN.out]; exact (own_nar HDD.out () _ _ (some D) HV.out (grownBy_putObj' _ _ _) (fun r e => by cases e; exact ⟨Nat.le_refl _, _, HVD.out, rfl⟩)).mat⟩⟩
      case stop =>
        rintro D c pre W _ _ h _
        exact h.elim
end Go.Proofs.Ytlelamjbfjneiaa.Ct
