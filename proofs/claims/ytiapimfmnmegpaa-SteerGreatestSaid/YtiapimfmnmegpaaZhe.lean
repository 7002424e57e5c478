/- Stage 6 (steer): the iterator over the new rates that can be taken in a state and that hold there. -/
import Derived.Test.YtiapimfmnmegpaaZho
namespace Go.Proofs.Ytiapimfmnmegpaa.St
open Go Go.RowKit Go.Shelf
attribute [local go_sem] Oper.semAt_some
def helL (l r s z : Int) (f : Nat → Int) (e g : Int) (D V : Nat) : List (Fin V) := ((fl V V (Nat.le_refl _)).filter (fun k => allP r s g ((k.1 : Int) - r))).filter fun k => hldP l r z f e ((k.1 : Int) - r) D
/-- the boxes that rates makes -/
theorem rat_boxes (w : World) (l r s z e g : Int) {w' : World}
    (h : (w.alloc (.cells #[.int .i64 l, .int .i64 r, .int .i64 s, .int .i64 z] 27)).alloc (.cells #[.int .i64 e, .int .i64 g] 56) = w') :
    PlAt w' w.heap.size l r s z ∧ EntAt w' (w.heap.size + 1) e g ∧ Below w.heap.size w w' ∧ w'.heap.size = w.heap.size + 2 := by
  have b1 := below_alloc (Below.refl w.heap.size w) (.cells #[.int .i64 l, .int .i64 r, .int .i64 s, .int .i64 z] 27)
  have h1 : PlAt (w.alloc (.cells #[.int .i64 l, .int .i64 r, .int .i64 s, .int .i64 z] 27)) w.heap.size l r s z := World.alloc_heap_new w _
  have e1 : (w.alloc (.cells #[.int .i64 l, .int .i64 r, .int .i64 s, .int .i64 z] 27)).heap.size = w.heap.size + 1 := by simp
  generalize w.alloc (.cells #[.int .i64 l, .int .i64 r, .int .i64 s, .int .i64 z] 27) = W1 at *
  have b2 := below_alloc (Below.refl W1.heap.size W1) (.cells #[.int .i64 e, .int .i64 g] 56)
  have h2 := EntAt.new W1 e g
  rw [e1] at h2
  subst h
  exact ⟨h1.below b2, h2, bt b1 b2, by simp [e1]⟩
set_option maxRecDepth 100000 in
set_option maxHeartbeats 4000000 in
theorem held1_in (m lp Bc Bs : Nat) (l r s z e g : Int) (h : PlanOk l r s z) (he : (-1000 ≤ e ∧ e ≤ 1000) ∧ (-r ≤ g ∧ g ≤ r)) (fn : Nat → Int) (p : Option Addr) (N c : Nat) (hN : sizP l r = (N : Int)) (hc : N ≤ c) (D V : Nat) (hD : 2 * z + 1 = (D : Int)) (hV : 2 * r + 1 = (V : Int)) (f : Nat → TypeId → Prop)
    (hf : ∀ k t, t = 27 ∨ t = 68 ∨ t = 56 ∨ t = 84 → f k t) (hfr : RowSafe f p) (hm : 5 ≤ m) (J Jx : List (Fin V) → World → Prop) (W : World)
    (hl : lp < W.heap.size)
    (hY : ∀ pre d W1, hldP l r z fn e ((d.1 : Int) - r) D = true → J pre W1 → pre.length < V → YieldAt Fence.wide (m - 1) Try.prog lp (encQ r d) W1 fun e W' =>
      (e = .returned (.bool true) ∧ J (pre ++ [d]) W' ∧ KpF f W1 W' ∧ KeepsFrom (lp + 1) W1 W') ∨ (e = .returned (.bool false) ∧ Jx (pre ++ [d]) W' ∧ KeepsFrom (lp + 1) W1 W'))
    (hJ : OwnFrom W.heap.size J) (hJx : OwnFrom W.heap.size Jx) (hC : CtlAt W Bc l r s z p N c) (hE : EntAt W Bs e g) (hn : NumIn W fn N p) (hJ0 : J [] W) :
    CallsIn Fence.wide m Try.prog 60 #[.func (.yield lp) #[] #[], .pointer (some ⟨Bc, 0, none⟩), .pointer (some ⟨Bs, 0, none⟩)] W fun e' W' => (∃ v, e' = .returned v) ∧
      (J (helL l r s z fn e g D V) W' ∨ ∃ pre x, pre ++ [x] <+: helL l r s z fn e g D V ∧ Jx (pre ++ [x]) W') := by
  have hro : Fence.wide.round = none := rfl
  refine callsIn_of_wp_marks Try.func60 rfl trivial ?_ hro
  simp only [Try.ntmps60, List.size_toArray, List.length_cons, List.length_nil, Nat.reduceAdd, Nat.reduceSub, Array.replicate_succ, Array.replicate_zero, List.push_toArray, List.append_toArray, List.nil_append, List.cons_append]
  refine wpIn_wide.2 ?_
  obtain ⟨W1, hW1⟩ : ∃ W1, W.alloc (.cells #[.func (.yield lp) #[] #[]] 84) = W1 := ⟨_, rfl⟩
  have hB1 : Below W.heap.size W W1 := by rw [← hW1]; exact below_alloc (Below.refl _ _) _
  have hs1 : W1.heap.size = W.heap.size + 1 := by rw [← hW1]; simp
  have bY1 : Boxed W1 W.heap.size 84 (.func (.yield lp) #[] #[]) := by rw [← hW1]; exact Boxed.new W _ _
  go_upto_region 1 with fail
  clear hW1
  have hC1 := hC.below hB1
  have hE1 := hE.below hB1
  obtain ⟨x0, x1, x2, x3, x4⟩ := hC1.c
  have z0 := cell_lt x0
  have y0 := hE1.c0
  have y1 := hE1.c1
  have zy := cell_lt y0
  go_upto_region 2 with (go_at_call 49; refine (holdf_any _ _ _ _ _ _ _ _ _ _).mono ?_; rintro e w2 ⟨rfl, hw2⟩)
  clear x0 x1 x2 x3 x4 z0 y0 y1 zy
  obtain ⟨W2', hW2', j1, j2, j3, j4⟩ := ctl_start W1 l r s z p N c e g
  rw [hW2'] at hw2
  subst hw2
  clear hW2'
  rw [hs1] at j1 j2 j4
  have hb3 := below_alloc (Below.refl W2'.heap.size W2') (.cells #[.func (.func 57) #[] #[.pointer (some ⟨W.heap.size + 1, 0, none⟩), .pointer (some ⟨W.heap.size + 1 + 1, 0, none⟩)]] 84)
  have hbh := Boxed.new W2' 84 (.func (.func 57) #[] #[.pointer (some ⟨W.heap.size + 1, 0, none⟩), .pointer (some ⟨W.heap.size + 1 + 1, 0, none⟩)])
  have hs3 : (W2'.alloc (.cells #[.func (.func 57) #[] #[.pointer (some ⟨W.heap.size + 1, 0, none⟩), .pointer (some ⟨W.heap.size + 1 + 1, 0, none⟩)]] 84)).heap.size = W2'.heap.size + 1 := by simp
  generalize W2'.alloc (.cells #[.func (.func 57) #[] #[.pointer (some ⟨W.heap.size + 1, 0, none⟩), .pointer (some ⟨W.heap.size + 1 + 1, 0, none⟩)]] 84) = W3 at *
  have hB13 := bt j3 hb3
  have k1 := j1.below hb3
  have k2 := j2.below hb3
  obtain ⟨B4, hB4⟩ : ∃ B4, W2'.heap.size = B4 := ⟨_, rfl⟩
  rw [hB4] at hbh hs3 j4 ⊢
  have HJ4 := Lib.hid j4
  clear hb3 j1 j2 j3 j4
  obtain ⟨x0, x1, x2, x3, x4⟩ := (hC1.below hB13).c
  have z0 := cell_lt x0
  have y0 := (hE1.below hB13).c0
  have y1 := (hE1.below hB13).c1
  have zy := cell_lt y0
  go_wp2_with (go_at_call 61; refine (rates_any _ _ _ _ _ _ _).mono ?_; rintro e w4 ⟨rfl, hw4⟩)
  clear x0 x1 x2 x3 x4 z0 y0 y1 zy
  obtain ⟨q1, q2, q3, q4⟩ := rat_boxes W3 l r s z e g hw4
  clear hw4
  rw [hs3] at q1 q2 q4
  have hB14 := bt hB13 q3
  have hB04 := bt hB1 hB14
  have hC4 := hC1.below hB14
  have hY4 := box_bel bY1 hB14
  have hh4 := box_bel hbh q3
  have k14 := k1.below q3
  have k24 := k2.below q3
  have hn4 := hn.below hB04
  have hJ4 : J [] w4 := hJ _ _ _ none hJ0 (gbw hB04) (fun r e => by cases e)
  have hsz : W.heap.size + 4 ≤ w4.heap.size := by have := HJ4.out; omega
  clear hJ0 hC hE hn hC1 hE1 bY1 hbh k1 k2 hB14 hB13 hB1
  have hg := he.2
  have HST := rates1_stops (m - 1) (B4 + 1) (B4 + 1 + 1) l r s z e g h hg V hV f ⟨hf _ _ (.inl rfl), hf _ _ (.inr (.inr (.inl rfl)))⟩ (by omega) w4 q1 q2
  have hbnd := h.r1
  have hbnd2 := h.r2
  refine (wpIn_wide (n := m)).1 ?_
  refine wpIn_rangeFunc_ownH hro (by omega) (gf := 64) (lb := #[.pointer (some ⟨B4 + 1, 0, none⟩), .pointer (some ⟨B4 + 1 + 1, 0, none⟩)]) rfl trivial (enters_of Try.func64 (by kernel_rfl) rfl)
    HST (fun h k => h.trans k) (fun X r ob ob' _ e2 e3 _ => KpF.putObj X r ob ob' e2 e3) (Below.refl _ _) (fun _ => rfl)
    (fun pre X => J (pre.filter fun k => hldP l r z fn e ((k.1 : Int) - r) D) X ∧ (CtlAt X (W.heap.size + 1) l r s z p N c ∧ EntAt X (W.heap.size + 1 + 1) e g ∧ Boxed X B4 84 (.func (.func 57) #[] #[.pointer (some ⟨W.heap.size + 1, 0, none⟩), .pointer (some ⟨W.heap.size + 1 + 1, 0, none⟩)])) ∧ Boxed X W.heap.size 84 (.func (.yield lp) #[] #[]) ∧ NumIn X fn N p) (fun c' pre X => c' = .ret ∧ ∃ p d, pre = p ++ [d] ∧ hldP l r z fn e ((d.1 : Int) - r) D = true ∧ Jx (p.filter (fun k => hldP l r z fn e ((k.1 : Int) - r) D) ++ [d]) X)
    (fun s X Y row hs hg hr => ⟨hJ _ _ _ _ hs.1 hg (fun r e => ⟨by have := (hr r e).1; omega, (hr r e).2⟩), ⟨cells_grown hg hr hs.2.1.1, cells_grown hg hr hs.2.1.2.1, cells_grown hg hr hs.2.1.2.2⟩, cells_grown hg hr hs.2.2.1, hs.2.2.2.kp (kpf_grown (f := fun _ _ => True) hg hr) (fun _ _ _ _ => trivial)⟩)
    (fun _ s X Y row hs hg hr => by
      obtain ⟨e0, p, d, e1, e2, e3⟩ := hs
      exact ⟨e0, p, d, e1, e2, hJx _ _ _ _ e3 hg (fun r e => ⟨by have := (hr r e).1; omega, (hr r e).2⟩)⟩) ⟨hJ4, ⟨k14, k24, hh4⟩, hY4, hn4⟩
    (fun d a' X => a' = { tmps := #[.func (.yield lp) #[] #[], .pointer (some ⟨Bc, 0, none⟩), .pointer (some ⟨Bs, 0, none⟩), .pointer (some ⟨W.heap.size, 0, none⟩), .pointer (some ⟨B4, 0, none⟩), .int .i64 ((d.1 : Int) - r), .agg #[.int .i64 l, .int .i64 r, .int .i64 s, .int .i64 z, .slice p N c], .agg #[.int .i64 e, .int .i64 g], .func (.func 57) #[] #[.pointer (some ⟨W.heap.size + 1, 0, none⟩), .pointer (some ⟨W.heap.size + 1 + 1, 0, none⟩)], .pointer (some ⟨Bc, 0, none⟩), .agg #[.int .i64 l, .int .i64 r, .int .i64 s, .int .i64 z], .agg #[.int .i64 e, .int .i64 g], .func (.func 64) #[] #[.pointer (some ⟨B4 + 1, 0, none⟩), .pointer (some ⟨B4 + 1 + 1, 0, none⟩)], .int .i64 ((d.1 : Int) - r), undef, undef, undef, undef, undef, undef, undef, undef, undef], defers := [] })
    (fun _ _ _ _ _ _ hs _ _ => hs) ?assign ?body ?done ?stop
  case assign =>
    rintro l2 pre d X K i1 hK
    unfold encQ
    gi_wp2
    exact hK _ _ (KeepsFrom.refl _ _) (KpF.refl _ _) i1 rfl
  case done =>
    rintro D' ys X hD' rfl ⟨i1, i2, i3, i4⟩ hK
    go_wp2_with fail
    refine ⟨by simp, .inl ⟨_, _, rfl, run_takeDeferred hK, ?_⟩⟩
    refine ⟨_, results_none rfl _ _ _, ⟨_, rfl⟩, .inl ?_⟩
    exact hJ.putObj _ i1 (by omega) hK rfl
  case stop =>
    rintro D' c' pre X hD' hpre ⟨rfl, pp, d, rfl, hd, hx⟩ hK
    gi_wp2
    refine ⟨by simp, .inl ⟨_, _, rfl, run_takeDeferred hK, ?_⟩⟩
    refine ⟨_, results_none rfl _ _ _, ⟨_, rfl⟩, .inr ⟨pp.filter (fun k => hldP l r z fn e ((k.1 : Int) - r) D), d, ?_, ?_⟩⟩
    · have h2 := hpre.filter (fun k => hldP l r z fn e ((k.1 : Int) - r) D)
      rw [List.filter_append, show ([d].filter fun k => hldP l r z fn e ((k.1 : Int) - r) D) = [d] by simp [hd]] at h2
      exact h2
    · exact hJx.putObj _ hx (by omega) hK rfl
  case body =>
    rintro l2 pre d a' X hl2 hrc ⟨i1, ⟨i2, i3, i4⟩, i5, i6⟩ rfl hlen
    have u0 := i4.cell
    have zu := cell_lt u0
    have HHO := Lib.hid (holds1_any (W.heap.size + 1) (W.heap.size + 1 + 1) l r s z e g ((d.1 : Int) - r) h ⟨he.1, by have := d.2; omega⟩ fn p N c hN hc D hD X i2 i3 i6)
    cases hMd : hldP l r z fn e ((d.1 : Int) - r) D
    · rw [hMd] at HHO
      have HI := Lib.hid (show J ((pre ++ [d]).filter fun k => hldP l r z fn e ((k.1 : Int) - r) D) X by
        rw [List.filter_append, show ([d].filter fun k => hldP l r z fn e ((k.1 : Int) - r) D) = [] by simp [hMd], List.append_nil]
        exact i1)
      clear hMd
      gi_wp2
      refine ⟨trivial, fun _ => (by omega), (CallsIn.inRound l2 (callsIn_wide.2 HHO.out)).mono ?_⟩
      rintro e' X2 ⟨rfl, hb2⟩
      have HI2 := Lib.hid (hJ _ _ _ none HI.out (gbw hb2) (fun r e => by cases e))
      have HC2 := Lib.hid (show CtlAt X2 (W.heap.size + 1) l r s z p N c ∧ EntAt X2 (W.heap.size + 1 + 1) e g ∧ _ from ⟨i2.below hb2, i3.below hb2, box_bel i4 hb2⟩)
      have HY2 := Lib.hid (box_bel i5 hb2)
      have HN2 := Lib.hid (i6.below hb2)
      have HB2 := Lib.hid hb2
      clear u0 zu hb2
      gi_wp2
      refine ⟨fun _ h => (by cases h), ?_⟩
      go_at_K
      gi_wp2
      exact ⟨keeps_below HB2.out, KpF.of_below HB2.out, HI2.out, HC2.out, HY2.out, HN2.out⟩
    · rw [hMd] at HHO
      have HF := Lib.hid (show (pre ++ [d]).filter (fun k => hldP l r z fn e ((k.1 : Int) - r) D) = pre.filter (fun k => hldP l r z fn e ((k.1 : Int) - r) D) ++ [d] by
        rw [List.filter_append, show ([d].filter fun k => hldP l r z fn e ((k.1 : Int) - r) D) = [d] by simp [hMd]])
      have HMd := Lib.hid hMd
      have HYY := Lib.hid (fun X2 hX2 => hY (pre.filter fun k => hldP l r z fn e ((k.1 : Int) - r) D) d X2 HMd.out hX2 (Nat.lt_of_le_of_lt (List.length_filter_le _ _) hlen))
      clear hMd
      gi_wp2
      refine ⟨trivial, fun _ => (by omega), (CallsIn.inRound l2 (callsIn_wide.2 HHO.out)).mono ?_⟩
      rintro e' X2 ⟨rfl, hb2⟩
      obtain ⟨fn', tmps, assign, body, hy, hR⟩ := HYY.out X2 (hJ _ _ _ none i1 (gbw hb2) (fun r e => by cases e))
      unfold encQ at hy
      have HR := Lib.hid (roundIn_wide (l2 := l2) (b := m - 1 - 1 - 1) hR)
      have HC2 := Lib.hid (show CtlAt X2 (W.heap.size + 1) l r s z p N c ∧ EntAt X2 (W.heap.size + 1 + 1) e g ∧ _ from ⟨i2.below hb2, i3.below hb2, box_bel i4 hb2⟩)
      have HY2 := Lib.hid (box_bel i5 hb2)
      have HN2 := Lib.hid (i6.below hb2)
      have HB2 := Lib.hid hb2
      have u0 := HY2.out.cell
      have zu := cell_lt u0
      clear hb2 hR
      gi_wp2
      refine ⟨fun _ => (by omega), HR.out.mono ?_⟩
      rintro e' W5 (⟨rfl, hJ3, hk3, hkf3⟩ | ⟨rfl, hJx3, hkf3⟩)
      · have hC3 := HC2.out.1.kp hk3 (hf _ _ (.inr (.inl rfl)))
        have hE3 := HC2.out.2.1.kp hk3 (hf _ _ (.inr (.inr (.inl rfl))))
        have hH3 := box_kp HC2.out.2.2 hk3 (hf _ _ (.inr (.inr (.inr rfl))))
        have hY3 := box_kp HY2.out hk3 (hf _ _ (.inr (.inr (.inr rfl))))
        have hN3 := HN2.out.kp hk3 hfr
        clear hy HR u0 zu
        gi_wp2
        refine ⟨(keeps_below HB2.out).trans (keeps_up hkf3 (by omega)), (KpF.of_below HB2.out).trans hk3, ?_, ⟨hC3, hE3, hH3⟩, hY3, hN3⟩
        rw [HF.out]
        exact hJ3
      · clear hy HR u0 zu
        gi_wp2
        exact ⟨(keeps_below HB2.out).trans (keeps_up hkf3 (by omega)), rfl, pre, d, rfl, HMd.out, hJx3⟩
theorem held1_f (m Bc Bs : Nat) (l r s z e g : Int) (h : PlanOk l r s z) (he : (-1000 ≤ e ∧ e ≤ 1000) ∧ (-r ≤ g ∧ g ≤ r)) (fn : Nat → Int) (p : Option Addr) (N c : Nat) (hN : sizP l r = (N : Int)) (hc : N ≤ c) (D V : Nat) (hD : 2 * z + 1 = (D : Int)) (hV : 2 * r + 1 = (V : Int)) (f : Nat → TypeId → Prop)
    (hf : ∀ k t, t = 27 ∨ t = 68 ∨ t = 56 ∨ t = 84 → f k t) (hfr : RowSafe f p) (hm : 5 ≤ m) (w : World)
    (hC : CtlAt w Bc l r s z p N c) (hE : EntAt w Bs e g) (hn : NumIn w fn N p) :
    SeqF m Try.prog 60 #[.pointer (some ⟨Bc, 0, none⟩), .pointer (some ⟨Bs, 0, none⟩)] (encQ r) (KpF f) (fun _ => True) (fun d => hldP l r z fn e ((d.1 : Int) - r) D = true) (helL l r s z fn e g D V) V w := by
  intro lp J Jx W hW hl hJ hJx _ hY hJ0
  exact held1_in m lp Bc Bs l r s z e g h he fn p N c hN hc D V hD hV f hf hfr hm J Jx W hl hY hJ hJx (hC.below hW) (hE.below hW) (hn.below hW) hJ0
end Go.Proofs.Ytiapimfmnmegpaa.St
