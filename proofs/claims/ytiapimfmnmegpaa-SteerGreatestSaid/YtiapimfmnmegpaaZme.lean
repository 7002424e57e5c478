/- Stage 6 (steer): the iterator over the states for which a law is meant. -/
import Derived.Test.YtiapimfmnmegpaaZit
namespace Go.Proofs.Ytiapimfmnmegpaa.St
open Go Go.RowKit Go.Shelf
attribute [local go_sem] Oper.semAt_some
theorem roundIn_wide {l2 a b : Nat} {P : Program} {l : Nat} {fn : FuncId} {tmps : Array Value} {assign body : Code} {W : World} {R : Ending → World → Prop} (h : RoundIn Fence.wide a P l fn tmps assign body W R) : RoundIn (Fence.wide.inRound l2) b P l fn tmps assign body W R :=
  ⟨trivial, fun c cs _ => h.2 c cs (fun d hd => by cases hd)⟩
/-- iterators are made -/
theorem states_any (l r s z : Int) (w : World) :
    Calls Try.prog 56 #[.agg #[.int .i64 l, .int .i64 r, .int .i64 s, .int .i64 z]] w fun e w' => e = .returned (.func (.func 62) #[] #[.pointer (some ⟨w.heap.size, 0, none⟩)]) ∧ w.alloc (.cells #[.int .i64 l, .int .i64 r, .int .i64 s, .int .i64 z] 27) = w' := by
  go_enter Try.func56, Try.ntmps56
  go_wp2_with fail
  go_ret
  exact ⟨rfl, rfl⟩
theorem rates_any (l r s z e g : Int) (w : World) :
    Calls Try.prog 61 #[.agg #[.int .i64 l, .int .i64 r, .int .i64 s, .int .i64 z], .agg #[.int .i64 e, .int .i64 g]] w fun x w' => x = .returned (.func (.func 64) #[] #[.pointer (some ⟨w.heap.size, 0, none⟩), .pointer (some ⟨w.heap.size + 1, 0, none⟩)]) ∧
      (w.alloc (.cells #[.int .i64 l, .int .i64 r, .int .i64 s, .int .i64 z] 27)).alloc (.cells #[.int .i64 e, .int .i64 g] 56) = w' := by
  go_enter Try.func61, Try.ntmps61
  go_wp2_with fail
  go_ret
  exact ⟨by simp, rfl⟩
theorem next_any (l r s z e g q : Int) (w : World) :
    Calls Try.prog 59 #[.agg #[.int .i64 l, .int .i64 r, .int .i64 s, .int .i64 z], .agg #[.int .i64 e, .int .i64 g], .int .i64 q] w fun x w' => x = .returned (.func (.func 63) #[] #[.pointer (some ⟨w.heap.size, 0, none⟩), .pointer (some ⟨w.heap.size + 1, 0, none⟩), .pointer (some ⟨w.heap.size + 1 + 1, 0, none⟩)]) ∧
      ((w.alloc (.cells #[.int .i64 l, .int .i64 r, .int .i64 s, .int .i64 z] 27)).alloc (.cells #[.int .i64 e, .int .i64 g] 56)).alloc (.cells #[.int .i64 q] 3) = w' := by
  go_enter Try.func59, Try.ntmps59
  go_wp2_with fail
  go_ret
  exact ⟨by simp, rfl⟩
theorem means_any (l r s z : Int) (p : Option Addr) (N c : Nat) (w : World) :
    Calls Try.prog 48 #[.agg #[.int .i64 l, .int .i64 r, .int .i64 s, .int .i64 z, .slice p N c]] w fun e w' => e = .returned (.func (.func 55) #[] #[.pointer (some ⟨w.heap.size, 0, none⟩)]) ∧ w.alloc (.cells #[.int .i64 l, .int .i64 r, .int .i64 s, .int .i64 z, .slice p N c] 68) = w' := by
  go_enter Try.func48, Try.ntmps48
  go_wp2_with fail
  go_ret
  exact ⟨rfl, rfl⟩
theorem held_any (l r s z e g : Int) (p : Option Addr) (N c : Nat) (w : World) :
    Calls Try.prog 53 #[.agg #[.int .i64 l, .int .i64 r, .int .i64 s, .int .i64 z, .slice p N c], .agg #[.int .i64 e, .int .i64 g]] w fun x w' => x = .returned (.func (.func 60) #[] #[.pointer (some ⟨w.heap.size, 0, none⟩), .pointer (some ⟨w.heap.size + 1, 0, none⟩)]) ∧
      (w.alloc (.cells #[.int .i64 l, .int .i64 r, .int .i64 s, .int .i64 z, .slice p N c] 68)).alloc (.cells #[.int .i64 e, .int .i64 g] 56) = w' := by
  go_enter Try.func53, Try.ntmps53
  go_wp2_with fail
  go_ret
  exact ⟨by simp, rfl⟩
theorem holdf_any (l r s z e g : Int) (p : Option Addr) (N c : Nat) (w : World) :
    Calls Try.prog 49 #[.agg #[.int .i64 l, .int .i64 r, .int .i64 s, .int .i64 z, .slice p N c], .agg #[.int .i64 e, .int .i64 g]] w fun x w' => x = .returned (.func (.func 57) #[] #[.pointer (some ⟨w.heap.size, 0, none⟩), .pointer (some ⟨w.heap.size + 1, 0, none⟩)]) ∧
      (w.alloc (.cells #[.int .i64 l, .int .i64 r, .int .i64 s, .int .i64 z, .slice p N c] 68)).alloc (.cells #[.int .i64 e, .int .i64 g] 56) = w' := by
  go_enter Try.func49, Try.ntmps49
  go_wp2_with fail
  go_ret
  exact ⟨by simp, rfl⟩
theorem threats_any (l r s z e g q : Int) (p : Option Addr) (N c : Nat) (w : World) :
    Calls Try.prog 51 #[.agg #[.int .i64 l, .int .i64 r, .int .i64 s, .int .i64 z, .slice p N c], .agg #[.int .i64 e, .int .i64 g], .int .i64 q] w fun x w' => x = .returned (.func (.func 58) #[] #[.pointer (some ⟨w.heap.size, 0, none⟩), .pointer (some ⟨w.heap.size + 1, 0, none⟩), .pointer (some ⟨w.heap.size + 1 + 1, 0, none⟩)]) ∧
      ((w.alloc (.cells #[.int .i64 l, .int .i64 r, .int .i64 s, .int .i64 z, .slice p N c] 68)).alloc (.cells #[.int .i64 e, .int .i64 g] 56)).alloc (.cells #[.int .i64 q] 3) = w' := by
  go_enter Try.func51, Try.ntmps51
  go_wp2_with fail
  go_ret
  exact ⟨by simp, rfl⟩
/-- numbers at p, below 1000 where M says so -/
def RqM (b o : Nat) (M : Nat → Bool) (N : Nat) (W : World) : Prop := ∀ k, k < N → ∃ v, W.cell? ⟨b, o + k, none⟩ = some (.int .i64 v) ∧ decide (v < 1000) = M k
set_option maxRecDepth 100000 in
set_option maxHeartbeats 4000000 in
theorem meant1_in (m lp Bc b o : Nat) (l r s z : Int) (h : PlanOk l r s z) (N c : Nat) (hN : sizP l r = (N : Int)) (M : Nat → Bool) (f : Nat → TypeId → Prop) (hf : ∀ k t, t = 27 ∨ t = 68 ∨ t = 93 → f k t) (hm : 5 ≤ m) (J Jx : List (Fin N) → World → Prop) (W : World)
    (hl : lp < W.heap.size) (hRq : ∀ pre W1, J pre W1 → RqM b o M N W1)
    (hY : ∀ pre d W1, M d.1 = true → J pre W1 → pre.length < N → YieldAt Fence.wide (m - 1) Try.prog lp (encS l r d) W1 fun e W' =>
      (e = .returned (.bool true) ∧ J (pre ++ [d]) W' ∧ KpF f W1 W' ∧ KeepsFrom (lp + 1) W1 W') ∨ (e = .returned (.bool false) ∧ Jx (pre ++ [d]) W' ∧ KeepsFrom (lp + 1) W1 W'))
    (hJ : OwnFrom W.heap.size J) (hJx : OwnFrom W.heap.size Jx) (hC : CtlAt W Bc l r s z (some ⟨b, o, none⟩) N c) (hJ0 : J [] W) :
    CallsIn Fence.wide m Try.prog 55 #[.func (.yield lp) #[] #[], .pointer (some ⟨Bc, 0, none⟩)] W fun e W' => (∃ v, e = .returned v) ∧
      (J ((fl N N (Nat.le_refl _)).filter fun k => M k.1) W' ∨ ∃ pre x, pre ++ [x] <+: (fl N N (Nat.le_refl _)).filter (fun k => M k.1) ∧ Jx (pre ++ [x]) W') := by
  have hro : Fence.wide.round = none := rfl
  refine callsIn_of_wp_marks Try.func55 rfl trivial ?_ hro
  simp only [Try.ntmps55, List.size_toArray, List.length_cons, List.length_nil, Nat.reduceAdd, Nat.reduceSub, Array.replicate_succ, Array.replicate_zero, List.push_toArray, List.append_toArray, List.nil_append, List.cons_append]
  refine wpIn_wide.2 ?_
  obtain ⟨x0, x1, x2, x3, x4⟩ := hC.c
  have z0 := cell_lt x0
  go_wp2_with (go_at_call 56; refine (states_any _ _ _ _ _).mono ?_; rintro e w' ⟨rfl, rfl⟩)
  obtain ⟨W0, hW0⟩ : ∃ W0, (W.alloc (.cells #[.func (.yield lp) #[] #[]] 93)).alloc (.cells #[.int .i64 l, .int .i64 r, .int .i64 s, .int .i64 z] 27) = W0 := ⟨_, rfl⟩
  have hB0 : Below W.heap.size W W0 := by
    rw [← hW0]
    exact below_alloc (below_alloc (Below.refl _ _) _) _
  have hsz : W0.heap.size = W.heap.size + 2 := by rw [← hW0]; simp
  have bY : Boxed W0 W.heap.size 93 (.func (.yield lp) #[] #[]) := by
    rw [← hW0]
    exact (Boxed.new W 93 (.func (.yield lp) #[] #[])).alloc (.cells #[.int .i64 l, .int .i64 r, .int .i64 s, .int .i64 z] 27)
  have hP : PlAt W0 (W.heap.size + 1) l r s z := by
    unfold PlAt
    rw [← hW0]
    have := World.alloc_heap_new (W.alloc (.cells #[.func (.yield lp) #[] #[]] 93)) (.cells #[.int .i64 l, .int .i64 r, .int .i64 s, .int .i64 z] 27)
    simpa using this
  have hC0 := hC.below hB0
  have hJ1 : J [] W0 := hJ _ _ _ none hJ0 (gbw hB0) (fun r e => by cases e)
  clear x0 x1 x2 x3 x4 z0 hC hJ0
  rw [hW0]
  clear hW0
  have HST := states1_stops (m - 1) (W.heap.size + 1) l r s z h N hN f (hf _ _ (.inl rfl)) (by omega) W0 hP
  refine (wpIn_wide (n := m)).1 ?_
  refine wpIn_rangeFunc_ownH hro (by omega) (gf := 62) (lb := #[.pointer (some ⟨W.heap.size + 1, 0, none⟩)]) rfl trivial (enters_of Try.func62 (by kernel_rfl) rfl)
    HST (fun h k => h.trans k) (fun X r ob ob' _ e2 e3 _ => KpF.putObj X r ob ob' e2 e3) (Below.refl _ _) (fun _ => rfl)
    (fun pre X => J (pre.filter fun d => M d.1) X ∧ CtlAt X Bc l r s z (some ⟨b, o, none⟩) N c ∧ Boxed X W.heap.size 93 (.func (.yield lp) #[] #[])) (fun c' pre X => c' = .ret ∧ ∃ p d, pre = p ++ [d] ∧ M d.1 = true ∧ Jx (p.filter (fun d => M d.1) ++ [d]) X)
    (fun s X Y row hs hg hr => ⟨hJ _ _ _ _ hs.1 hg (fun r e => ⟨by have := (hr r e).1; omega, (hr r e).2⟩), cells_grown hg hr hs.2.1, cells_grown hg hr hs.2.2⟩)
    (fun _ s X Y row hs hg hr => by
      obtain ⟨e0, p, d, e1, e2, e3⟩ := hs
      exact ⟨e0, p, d, e1, e2, hJx _ _ _ _ e3 hg (fun r e => ⟨by have := (hr r e).1; omega, (hr r e).2⟩)⟩) ⟨hJ1, hC0, bY⟩
    (fun d a' X => ∃ Bh, EntAt X Bh (stE l r d.1) (stQ r d.1) ∧ a' = { tmps := #[.func (.yield lp) #[] #[], .pointer (some ⟨Bc, 0, none⟩), .pointer (some ⟨W.heap.size, 0, none⟩), .int .i64 (d.1 : Int), .pointer (some ⟨Bh, 0, none⟩), .pointer (some ⟨Bc, 0, none⟩), .agg #[.int .i64 l, .int .i64 r, .int .i64 s, .int .i64 z], .func (.func 62) #[] #[.pointer (some ⟨W.heap.size + 1, 0, none⟩)], .int .i64 (d.1 : Int), .agg #[.int .i64 (stE l r d.1), .int .i64 (stQ r d.1)], undef, undef, undef, undef, undef, undef, undef, undef, undef, undef, undef, undef, undef], defers := [] })
    (fun d a' _ X Y row hs hg hr => by
      obtain ⟨Bh, e1, e2⟩ := hs
      exact ⟨Bh, cells_grown hg hr e1, e2⟩) ?assign ?body ?done ?stop
  case assign =>
    rintro l2 pre d X K ⟨i1, i2, i3⟩ hK
    unfold encS
    gi_wp2
    have hb := below_alloc (Below.refl X.heap.size X) (.cells #[.int .i64 (stE l r d.1), .int .i64 (stQ r d.1)] 56)
    exact hK _ _ ((KeepsOthers.alloc _ _).from _) (KpF.of_below hb) ⟨hJ _ _ _ none i1 (gbw hb) (fun r e => by cases e), i2.below hb, i3.alloc _⟩ ⟨_, World.alloc_heap_new _ _, rfl⟩
  case done =>
    rintro D ys X hD rfl ⟨i1, i2, i3⟩ hK
    go_wp2_with fail
    refine ⟨by simp, .inl ⟨_, _, rfl, run_takeDeferred hK, ?_⟩⟩
    refine ⟨_, results_none rfl _ _ _, ⟨_, rfl⟩, .inl ?_⟩
    exact hJ.putObj _ i1 (by omega) hK rfl
  case stop =>
    rintro D c' pre X hD hpre ⟨rfl, p, d, rfl, hd, hx⟩ hK
    gi_wp2
    refine ⟨by simp, .inl ⟨_, _, rfl, run_takeDeferred hK, ?_⟩⟩
    refine ⟨_, results_none rfl _ _ _, ⟨_, rfl⟩, .inr ⟨p.filter (fun d => M d.1), d, ?_, ?_⟩⟩
    · have h2 := hpre.filter (fun d => M d.1)
      rw [List.filter_append, show ([d].filter fun d => M d.1) = [d] by simp [hd]] at h2
      exact h2
    · exact hJx.putObj _ hx (by omega) hK rfl
  case body =>
    rintro l2 pre d a' X hl2 hrc ⟨i1, i2, i3⟩ ⟨Bh, hB, rfl⟩ hlen
    obtain ⟨v, hv, hM⟩ := hRq _ _ i1 d.1 d.2
    obtain ⟨x0, x1, x2, x3, x4⟩ := i2.c
    have zx := cell_lt x0
    have zv := cell_lt hv
    have y0 := hB.c0
    have y1 := hB.c1
    have zy := cell_lt y0
    have u0 := i3.cell
    have zu := cell_lt u0
    have hk0 : (0 : Int) ≤ (d.1 : Int) := by omega
    have hkN : (d.1 : Int) < N := by have := d.2; omega
    have hkn := d.2
    cases hMd : M d.1
    · rw [hMd] at hM
      simp only [decide_eq_false_iff_not] at hM
      have HI := Lib.hid (show J ((pre ++ [d]).filter fun d => M d.1) X by
        rw [List.filter_append, show ([d].filter fun d => M d.1) = [] by simp [hMd], List.append_nil]
        exact i1)
      clear hMd
      gi_wp2
      refine ⟨fun _ h => (by cases h), ?_⟩
      go_at_K
      gi_wp2
      exact ⟨KeepsFrom.refl _ _, KpF.refl _ _, HI.out, i2, i3⟩
    · rw [hMd] at hM
      simp only [decide_eq_true_eq] at hM
      have HF := Lib.hid (show (pre ++ [d]).filter (fun d => M d.1) = pre.filter (fun d => M d.1) ++ [d] by
        rw [List.filter_append, show ([d].filter fun d => M d.1) = [d] by simp [hMd]])
      have HMd := Lib.hid hMd
      obtain ⟨fn, tmps, assign, body, hy, hR⟩ := hY (pre.filter fun d => M d.1) d X hMd i1 (Nat.lt_of_le_of_lt (List.length_filter_le _ _) hlen)
      unfold encS at hy
      have HR := Lib.hid (roundIn_wide (l2 := l2) (b := m - 1 - 1 - 1) hR)
      clear hMd hR
      gi_wp2
      refine ⟨fun _ => (by omega), HR.out.mono ?_⟩
      rintro e W3 (⟨rfl, hJ3, hk3, hkf3⟩ | ⟨rfl, hJx3, hkf3⟩)
      · have hC3 := i2.kp hk3 (hf _ _ (.inr (.inl rfl)))
        have hY3 := box_kp i3 hk3 (hf _ _ (.inr (.inr rfl)))
        clear hy HR
        gi_wp2
        refine ⟨keeps_up hkf3 (by omega), hk3, ?_, hC3, hY3⟩
        rw [HF.out]
        exact hJ3
      · clear hy HR
        gi_wp2
        exact ⟨keeps_up hkf3 (by omega), rfl, pre, d, rfl, HMd.out, hJx3⟩
theorem meant1_f (m Bc b o : Nat) (l r s z : Int) (h : PlanOk l r s z) (N c : Nat) (hN : sizP l r = (N : Int)) (M : Nat → Bool) (f : Nat → TypeId → Prop) (hf : ∀ k t, t = 27 ∨ t = 68 ∨ t = 93 → f k t) (hm : 5 ≤ m) (w : World) (hC : CtlAt w Bc l r s z (some ⟨b, o, none⟩) N c) :
    SeqF m Try.prog 55 #[.pointer (some ⟨Bc, 0, none⟩)] (encS l r) (KpF f) (RqM b o M N) (fun d => M d.1 = true) ((fl N N (Nat.le_refl _)).filter fun k => M k.1) N w := by
  intro lp J Jx W hW hl hJ hJx hRq hY hJ0
  exact meant1_in m lp Bc b o l r s z h N c hN M f hf hm J Jx W hl hRq hY hJ hJx (hC.below hW) hJ0
end Go.Proofs.Ytiapimfmnmegpaa.St
