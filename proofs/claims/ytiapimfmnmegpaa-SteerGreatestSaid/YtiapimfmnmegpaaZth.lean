/- Stage 6 (steer): the iterator over the disturbances that lead beyond the limit or to a state for which a law is not meant. -/
import Derived.Test.YtiapimfmnmegpaaZme
namespace Go.Proofs.Ytiapimfmnmegpaa.St
open Go Go.RowKit Go.Shelf
attribute [local go_sem] Oper.semAt_some
def encT (z : Int) {N : Nat} (k : Fin N) : Array Value := #[.int .i64 ((k.1 : Int) - z)]
/-- a disturbance is a threat -/
def thrP (l r z : Int) (f : Nat → Int) (e q : Int) (k : Nat) : Bool := !meaP l r f (e + q + ((k : Int) - z)) q
def thrL (l r z : Int) (f : Nat → Int) (e q : Int) (D : Nat) : List (Fin D) := (fl D D (Nat.le_refl _)).filter fun k => thrP l r z f e q k.1
set_option maxRecDepth 100000 in
set_option maxHeartbeats 4000000 in
theorem threats1_in (m lp Bc Bs Bq : Nat) (l r s z e g0 q : Int) (h : PlanOk l r s z) (he : (-1000 ≤ e ∧ e ≤ 1000) ∧ (-1000 ≤ q ∧ q ≤ 1000)) (fn : Nat → Int) (p : Option Addr) (N c : Nat) (hN : sizP l r = (N : Int)) (hc : N ≤ c) (D : Nat) (hD : 2 * z + 1 = (D : Int)) (f : Nat → TypeId → Prop)
    (hf : ∀ k t, t = 27 ∨ t = 68 ∨ t = 56 ∨ t = 84 → f k t) (hfr : RowSafe f p) (hm : 5 ≤ m) (J Jx : List (Fin D) → World → Prop) (W : World)
    (hl : lp < W.heap.size) (hfn : ∀ k, W.heap.size ≤ k → f k 3)
    (hY : ∀ pre d W1, thrP l r z fn e q d.1 = true → J pre W1 → pre.length < D → YieldAt Fence.wide (m - 1) Try.prog lp (encT z d) W1 fun e W' =>
      (e = .returned (.bool true) ∧ J (pre ++ [d]) W' ∧ KpF f W1 W' ∧ KeepsFrom (lp + 1) W1 W') ∨ (e = .returned (.bool false) ∧ Jx (pre ++ [d]) W' ∧ KeepsFrom (lp + 1) W1 W'))
    (hJ : OwnFrom W.heap.size J) (hJx : OwnFrom W.heap.size Jx) (hC : CtlAt W Bc l r s z p N c) (hE : EntAt W Bs e g0) (hQ : Boxed W Bq 3 (.int .i64 q)) (hn : NumIn W fn N p) (hJ0 : J [] W) :
    CallsIn Fence.wide m Try.prog 58 #[.func (.yield lp) #[] #[], .pointer (some ⟨Bc, 0, none⟩), .pointer (some ⟨Bs, 0, none⟩), .pointer (some ⟨Bq, 0, none⟩)] W fun e' W' => (∃ v, e' = .returned v) ∧
      (J (thrL l r z fn e q D) W' ∨ ∃ pre x, pre ++ [x] <+: thrL l r z fn e q D ∧ Jx (pre ++ [x]) W') := by
  have hro : Fence.wide.round = none := rfl
  refine callsIn_of_wp_marks Try.func58 rfl trivial ?_ hro
  simp only [Try.ntmps58, List.size_toArray, List.length_cons, List.length_nil, Nat.reduceAdd, Nat.reduceSub, Array.replicate_succ, Array.replicate_zero, List.push_toArray, List.append_toArray, List.nil_append, List.cons_append]
  refine wpIn_wide.2 ?_
  obtain ⟨x0, x1, x2, x3, x4⟩ := hC.c
  have z0 := cell_lt x0
  have y0 := hE.c0
  have y1 := hE.c1
  have zy := cell_lt y0
  have q0 := hQ.cell
  have zq := cell_lt q0
  go_wp2_with (go_at_call 59; refine (next_any _ _ _ _ _ _ _ _).mono ?_; rintro e w' ⟨rfl, hw'⟩)
  obtain ⟨W1, hW1⟩ : ∃ W1, W.alloc (.cells #[.func (.yield lp) #[] #[]] 84) = W1 := ⟨_, rfl⟩
  have hB1 : Below W.heap.size W W1 := by rw [← hW1]; exact below_alloc (Below.refl _ _) _
  have hs1 : W1.heap.size = W.heap.size + 1 := by rw [← hW1]; simp
  have bY1 : Boxed W1 W.heap.size 84 (.func (.yield lp) #[] #[]) := by rw [← hW1]; exact Boxed.new W _ _
  rw [hW1] at hw'
  have hB2 : Below W1.heap.size W1 w' := by rw [← hw']; exact below_alloc (below_alloc (below_alloc (Below.refl _ _) _) _) _
  have hs2 : w'.heap.size = W.heap.size + 4 := by rw [← hw']; simp [hs1]
  have hP : PlAt w' (W.heap.size + 1) l r s z := by
    rw [← hw', ← hs1]
    exact heap_below (below_alloc (Below.refl _ _) _) (heap_below (below_alloc (Below.refl _ _) _) (World.alloc_heap_new _ _))
  have hE2 : EntAt w' (W.heap.size + 1 + 1) e g0 := by
    rw [← hw', ← hs1]
    have := heap_below (below_alloc (Below.refl _ _) (.cells #[.int .i64 q] 3)) (World.alloc_heap_new (W1.alloc (.cells #[.int .i64 l, .int .i64 r, .int .i64 s, .int .i64 z] 27)) (.cells #[.int .i64 e, .int .i64 g0] 56))
    unfold EntAt
    simpa using this
  have hQ2 : Boxed w' (W.heap.size + 1 + 1 + 1) 3 (.int .i64 q) := by
    rw [← hw', ← hs1]
    have := World.alloc_heap_new ((W1.alloc (.cells #[.int .i64 l, .int .i64 r, .int .i64 s, .int .i64 z] 27)).alloc (.cells #[.int .i64 e, .int .i64 g0] 56)) (.cells #[.int .i64 q] 3)
    unfold Boxed
    simpa using this
  clear hw'
  have hB0 := bt hB1 hB2
  have bY := box_bel bY1 hB2
  have hC0 := hC.below hB0
  have hn0 := hn.below hB0
  have hJ1 : J [] w' := hJ _ _ _ none hJ0 (gbw hB0) (fun r e => by cases e)
  clear x0 x1 x2 x3 x4 z0 y0 y1 zy q0 zq hC hE hQ hn hJ0 bY1 hB1 hB2 hW1
  have HST := next1_stops (m - 1) (W.heap.size + 1) (W.heap.size + 1 + 1) (W.heap.size + 1 + 1 + 1) l r s z e g0 q h he D hD f ⟨hf _ _ (.inl rfl), hf _ _ (.inr (.inr (.inl rfl))), hfn _ (by omega)⟩ (by omega) w' hP hE2 hQ2
  refine (wpIn_wide (n := m)).1 ?_
  refine wpIn_rangeFunc_ownH hro (by omega) (gf := 63) (lb := #[.pointer (some ⟨W.heap.size + 1, 0, none⟩), .pointer (some ⟨W.heap.size + 1 + 1, 0, none⟩), .pointer (some ⟨W.heap.size + 1 + 1 + 1, 0, none⟩)]) rfl trivial (enters_of Try.func63 (by kernel_rfl) rfl)
    HST (fun h k => h.trans k) (fun X r ob ob' _ e2 e3 _ => KpF.putObj X r ob ob' e2 e3) (Below.refl _ _) (fun _ => rfl)
    (fun pre X => J (pre.filter fun k => thrP l r z fn e q k.1) X ∧ CtlAt X Bc l r s z p N c ∧ Boxed X W.heap.size 84 (.func (.yield lp) #[] #[]) ∧ NumIn X fn N p) (fun c' pre X => c' = .ret ∧ ∃ p d, pre = p ++ [d] ∧ thrP l r z fn e q d.1 = true ∧ Jx (p.filter (fun k => thrP l r z fn e q k.1) ++ [d]) X)
    (fun s X Y row hs hg hr => ⟨hJ _ _ _ _ hs.1 hg (fun r e => ⟨by have := (hr r e).1; omega, (hr r e).2⟩), cells_grown hg hr hs.2.1, cells_grown hg hr hs.2.2.1, hs.2.2.2.kp (kpf_grown (f := fun _ _ => True) hg hr) (fun _ _ _ _ => trivial)⟩)
    (fun _ s X Y row hs hg hr => by
      obtain ⟨e0, p, d, e1, e2, e3⟩ := hs
      exact ⟨e0, p, d, e1, e2, hJx _ _ _ _ e3 hg (fun r e => ⟨by have := (hr r e).1; omega, (hr r e).2⟩)⟩) ⟨hJ1, hC0, bY, hn0⟩
    (fun d a' X => ∃ Bh, EntAt X Bh (e + q + ((d.1 : Int) - z)) q ∧ a' = { tmps := #[.func (.yield lp) #[] #[], .pointer (some ⟨Bc, 0, none⟩), .pointer (some ⟨Bs, 0, none⟩), .pointer (some ⟨Bq, 0, none⟩), .pointer (some ⟨W.heap.size, 0, none⟩), .int .i64 ((d.1 : Int) - z), .pointer (some ⟨Bh, 0, none⟩), .pointer (some ⟨Bc, 0, none⟩), .agg #[.int .i64 l, .int .i64 r, .int .i64 s, .int .i64 z], .agg #[.int .i64 e, .int .i64 g0], .int .i64 q, .func (.func 63) #[] #[.pointer (some ⟨W.heap.size + 1, 0, none⟩), .pointer (some ⟨W.heap.size + 1 + 1, 0, none⟩), .pointer (some ⟨W.heap.size + 1 + 1 + 1, 0, none⟩)], .int .i64 ((d.1 : Int) - z), .agg #[.int .i64 (e + q + ((d.1 : Int) - z)), .int .i64 q], undef, undef, undef, undef, undef, undef, undef, undef, undef, undef], defers := [] })
    (fun d a' _ X Y row hs hg hr => by
      obtain ⟨Bh, e1, e2⟩ := hs
      exact ⟨Bh, cells_grown hg hr e1, e2⟩) ?assign ?body ?done ?stop
  case assign =>
    rintro l2 pre d X K ⟨i1, i2, i3, i4⟩ hK
    unfold encD
    gi_wp2
    have hb := below_alloc (Below.refl X.heap.size X) (.cells #[.int .i64 (e + q + ((d.1 : Int) - z)), .int .i64 q] 56)
    exact hK _ _ ((KeepsOthers.alloc _ _).from _) (KpF.of_below hb) ⟨hJ _ _ _ none i1 (gbw hb) (fun r e => by cases e), i2.below hb, i3.alloc _, i4.below hb⟩ ⟨_, World.alloc_heap_new _ _, rfl⟩
  case done =>
    rintro D' ys X hD' rfl ⟨i1, i2, i3, i4⟩ hK
    go_wp2_with fail
    refine ⟨by simp, .inl ⟨_, _, rfl, run_takeDeferred hK, ?_⟩⟩
    refine ⟨_, results_none rfl _ _ _, ⟨_, rfl⟩, .inl ?_⟩
    exact hJ.putObj _ i1 (by omega) hK rfl
  case stop =>
    rintro D' c' pre X hD' hpre ⟨rfl, pp, d, rfl, hd, hx⟩ hK
    gi_wp2
    refine ⟨by simp, .inl ⟨_, _, rfl, run_takeDeferred hK, ?_⟩⟩
    refine ⟨_, results_none rfl _ _ _, ⟨_, rfl⟩, .inr ⟨pp.filter (fun k => thrP l r z fn e q k.1), d, ?_, ?_⟩⟩
    · have h2 := hpre.filter (fun k => thrP l r z fn e q k.1)
      rw [List.filter_append, show ([d].filter fun k => thrP l r z fn e q k.1) = [d] by simp [hd]] at h2
      exact h2
    · exact hJx.putObj _ hx (by omega) hK rfl
  case body =>
    rintro l2 pre d a' X hl2 hrc ⟨i1, i2, i3, i4⟩ ⟨Bh, hB, rfl⟩ hlen
    obtain ⟨x0, x1, x2, x3, x4⟩ := i2.c
    have zx := cell_lt x0
    have y0 := hB.c0
    have y1 := hB.c1
    have zy := cell_lt y0
    have u0 := i3.cell
    have zu := cell_lt u0
    have HME := Lib.hid (meant_any (e := e + q + ((d.1 : Int) - z)) (q := q) h fn p N c X hN i4 hc)
    cases hMd : thrP l r z fn e q d.1
    · have hme : meaP l r fn (e + q + ((d.1 : Int) - z)) q = true := by unfold thrP at hMd; simpa using hMd
      rw [hme] at HME
      have HI := Lib.hid (show J ((pre ++ [d]).filter fun k => thrP l r z fn e q k.1) X by
        rw [List.filter_append, show ([d].filter fun k => thrP l r z fn e q k.1) = [] by simp [hMd], List.append_nil]
        exact i1)
      clear hMd hme
      gi_wp2
      refine ⟨trivial, fun _ => (by omega), (CallsIn.inRound l2 (callsIn_wide.2 HME.out)).mono ?_⟩
      rintro e' X2 ⟨rfl, hb2⟩
      have HI2 := Lib.hid (hJ _ _ _ none HI.out (gbw hb2) (fun r e => by cases e))
      have HC2 := Lib.hid (i2.below hb2)
      have HY2 := Lib.hid (box_bel i3 hb2)
      have HN2 := Lib.hid (i4.below hb2)
      have HB2 := Lib.hid hb2
      clear x0 x1 x2 x3 x4 zx y0 y1 zy u0 zu hb2
      gi_wp2
      refine ⟨fun _ h => (by cases h), ?_⟩
      go_at_K
      gi_wp2
      exact ⟨keeps_below HB2.out, KpF.of_below HB2.out, HI2.out, HC2.out, HY2.out, HN2.out⟩
    · have hme : meaP l r fn (e + q + ((d.1 : Int) - z)) q = false := by unfold thrP at hMd; simpa using hMd
      rw [hme] at HME
      have HF := Lib.hid (show (pre ++ [d]).filter (fun k => thrP l r z fn e q k.1) = pre.filter (fun k => thrP l r z fn e q k.1) ++ [d] by
        rw [List.filter_append, show ([d].filter fun k => thrP l r z fn e q k.1) = [d] by simp [hMd]])
      have HMd := Lib.hid hMd
      have HYY := Lib.hid (fun X2 hX2 => hY (pre.filter fun k => thrP l r z fn e q k.1) d X2 HMd.out hX2 (Nat.lt_of_le_of_lt (List.length_filter_le _ _) hlen))
      clear hMd hme
      gi_wp2
      refine ⟨trivial, fun _ => (by omega), (CallsIn.inRound l2 (callsIn_wide.2 HME.out)).mono ?_⟩
      rintro e' X2 ⟨rfl, hb2⟩
      obtain ⟨fn', tmps, assign, body, hy, hR⟩ := HYY.out X2 (hJ _ _ _ none i1 (gbw hb2) (fun r e => by cases e))
      unfold encT at hy
      have HR := Lib.hid (roundIn_wide (l2 := l2) (b := m - 1 - 1 - 1) hR)
      have HC2 := Lib.hid (i2.below hb2)
      have HY2 := Lib.hid (box_bel i3 hb2)
      have HN2 := Lib.hid (i4.below hb2)
      have HB2 := Lib.hid hb2
      have u0 := HY2.out.cell
      have zu := cell_lt u0
      clear x0 x1 x2 x3 x4 zx y0 y1 zy hb2 hR
      gi_wp2
      refine ⟨fun _ => (by omega), HR.out.mono ?_⟩
      rintro e' W3 (⟨rfl, hJ3, hk3, hkf3⟩ | ⟨rfl, hJx3, hkf3⟩)
      · have hC3 := HC2.out.kp hk3 (hf _ _ (.inr (.inl rfl)))
        have hY3 := box_kp HY2.out hk3 (hf _ _ (.inr (.inr (.inr rfl))))
        have hN3 := HN2.out.kp hk3 hfr
        clear hy HR u0 zu
        gi_wp2
        refine ⟨(keeps_below HB2.out).trans (keeps_up hkf3 (by omega)), (KpF.of_below HB2.out).trans hk3, ?_, hC3, hY3, hN3⟩
        rw [HF.out]
        exact hJ3
      · clear hy HR u0 zu
        gi_wp2
        exact ⟨(keeps_below HB2.out).trans (keeps_up hkf3 (by omega)), rfl, pre, d, rfl, HMd.out, hJx3⟩
theorem threats1_f (m Bc Bs Bq : Nat) (l r s z e g0 q : Int) (h : PlanOk l r s z) (he : (-1000 ≤ e ∧ e ≤ 1000) ∧ (-1000 ≤ q ∧ q ≤ 1000)) (fn : Nat → Int) (p : Option Addr) (N c : Nat) (hN : sizP l r = (N : Int)) (hc : N ≤ c) (D : Nat) (hD : 2 * z + 1 = (D : Int)) (f : Nat → TypeId → Prop)
    (hf : ∀ k t, t = 27 ∨ t = 68 ∨ t = 56 ∨ t = 84 → f k t) (hfr : RowSafe f p) (hm : 5 ≤ m) (w : World) (hfn : ∀ k, w.heap.size ≤ k → f k 3)
    (hC : CtlAt w Bc l r s z p N c) (hE : EntAt w Bs e g0) (hQ : Boxed w Bq 3 (.int .i64 q)) (hn : NumIn w fn N p) :
    SeqF m Try.prog 58 #[.pointer (some ⟨Bc, 0, none⟩), .pointer (some ⟨Bs, 0, none⟩), .pointer (some ⟨Bq, 0, none⟩)] (encT z) (KpF f) (fun _ => True) (fun d => thrP l r z fn e q d.1 = true) (thrL l r z fn e q D) D w := by
  intro lp J Jx W hW hl hJ hJx _ hY hJ0
  exact threats1_in m lp Bc Bs Bq l r s z e g0 q h he fn p N c hN hc D hD f hf hfr hm J Jx W hl (fun k hk => hfn k (Nat.le_trans hW.size hk)) hY hJ hJx (hC.below hW) (hE.below hW) (box_bel hQ hW) (hn.below hW) hJ0
end Go.Proofs.Ytiapimfmnmegpaa.St
