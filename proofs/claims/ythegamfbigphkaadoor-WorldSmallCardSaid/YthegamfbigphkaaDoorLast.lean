/- The last second at which a clock runs: a loop over its events, from the last one. -/
import Derived.Test.YthegamfbigphkaaDoorPairs
import Derived.Test.YthegamfbigphkaaDoorPlain
namespace Go.Proofs.YthegamfbigphkaaDoor
open Go Go.RowKit Go.Shelf
attribute [local go_sem] Oper.semAt_some
theorem backward_at (v : Option Addr) (n cap : Nat) (w : World) :
    Calls Tryd.prog 100 #[.slice v n cap] w fun e w' =>
      e = .returned (.func (.func 102) #[] #[.pointer (some ⟨w.heap.size, 0, none⟩)]) ∧ w.alloc (.cells #[.slice v n cap] 84) = w' := by
  go_enter Tryd.func100, Tryd.ntmps100
  go_wp2
  go_ret
  exact ⟨rfl, rfl⟩
def evVal (e : Evt) : Value := .agg #[.int .i64 e.what, .int .i64 e.sec, .int .i64 e.size]
set_option maxRecDepth 100000 in
set_option maxHeartbeats 2000000 in
theorem back1_in (n l B2 b o cap n₀ sb : Nat) (es : List Evt) (h0 : B2 < n₀ ∧ B2 ≠ sb) (h1 : b < n₀ ∧ b ≠ sb) (hes : ∀ e ∈ es, 1 ≤ e.sec ∧ e.sec ≤ 1000000) (hm : es.length ≤ maxLen) (hn : 1 ≤ n) (J Jx : List BEv → World → Prop) (W : World)
    (hY : ∀ pre x W1, J pre W1 → pre.length < es.length → YieldAt Fence.wide (n - 1) Tryd.prog l #[.int .i64 x.1, evVal x.2.1] W1 fun e W' =>
      (e = .returned (.bool true) ∧ J (pre ++ [x]) W' ∧ Keeps n₀ sb W1 W') ∨ (e = .returned (.bool false) ∧ Jx (pre ++ [x]) W'))
    (hB : W.cell? ⟨B2, 0, none⟩ = some (.slice (some ⟨b, o, none⟩) es.length cap)) (hE : EvtsAt W es b o) (hJ0 : J [] W) :
    CallsIn Fence.wide n Tryd.prog 102 #[.func (.yield l) #[] #[], .pointer (some ⟨B2, 0, none⟩)] W fun e W' => (∃ v, e = .returned v) ∧
      ((∃ ys, ys.map (fun x => x.2.1) = es.reverse ∧ J ys W') ∨ (∃ pre, True ∧ Jx pre W')) := by
  have hro : Fence.wide.round = none := rfl
  unfold maxLen at hm
  have HE := Lib.hid hE
  have HES := Lib.hid hes
  clear hE hes
  refine callsIn_of_wp Tryd.func102 rfl trivial ?_ hro
  simp only [Tryd.ntmps102, List.size_toArray, List.length_cons, List.length_nil, Nat.reduceAdd, Nat.reduceSub, Array.replicate_succ, Array.replicate_zero, List.push_toArray, List.append_toArray, List.nil_append, List.cons_append]
  gi_wp2
  have HB := Lib.hid hB
  clear hB
  gi_loopw [3] (fun i wr => ∃ (q : Nat) (pre : List BEv), q ≤ es.length ∧ i = .int .i64 ((q : Int) - 1) ∧ pre.map (fun x => x.2.1) = es.reverse.take (es.length - q) ∧ pre.length = es.length - q ∧ wr.cell? ⟨B2, 0, none⟩ = some (.slice (some ⟨b, o, none⟩) es.length cap) ∧ EvtsAt wr es b o ∧ J pre wr) (fun i _ => (intOf i + 1).toNat)
  case atStart => exact ⟨es.length, [], Nat.le_refl _, by simp, by simp, by simp, HB.out, HE.out, hJ0⟩
  case round =>
    obtain ⟨q, pre, hq, rfl, hpre, hlen, hcell, hev, hJ⟩ := hrel
    cases q with
    | zero =>
      have HP := Lib.hid hpre
      clear hpre hlen
      gi_wp2
      go_end0
      refine ⟨⟨_, rfl⟩, .inl ⟨pre, ?_, hJ⟩⟩
      rw [HP.out, Nat.sub_zero]
      exact List.take_of_length_le (by simp)
    | succ q =>
      have hlt : q < es.length := by omega
      obtain ⟨fn, tmps, assign, body, hy, hR⟩ := hY pre ((q : Int), ⟨es[q], HES.out _ (List.getElem_mem hlt)⟩) wr hJ (by omega)
      unfold evVal at hy
      dsimp only at hy
      obtain ⟨c0, c1, c2⟩ := hev q hlt
      have hqe : ((q + 1 : Nat) : Int) - 1 = (q : Int) := by omega
      rw [hqe]
      have HP := Lib.hid hpre
      have HL := Lib.hid hlen
      have HEV := Lib.hid hev
      have HCE := Lib.hid hcell
      clear hpre hlen hev hqe
      gi_wp2
      refine hR.mono ?_
      rintro e W3 (⟨rfl, hJ3, hk3⟩ | ⟨rfl, hJx3⟩)
      · have x0 := hk3.cell h0.1 h0.2 HCE.out
        have x1 : EvtsAt W3 es b o := fun i hi => ⟨hk3.cell h1.1 h1.2 (HEV.out i hi).1, hk3.cell h1.1 h1.2 (HEV.out i hi).2.1, hk3.cell h1.1 h1.2 (HEV.out i hi).2.2⟩
        have X1 := Lib.hid x1
        clear x1
        gi_wp2
        go_roundw
        case rel => exact ⟨q, _, by omega, rfl, by rw [List.map_append, HP.out, rev_take es q hlt]; rfl, by rw [List.length_append, HL.out]; simp; omega, x0, X1.out, hJ3⟩
        case measure => simp [intOf]
      · gi_wp2
        refine bodyPost_ret (results_none rfl _ _ _) rfl ?_
        exact ⟨⟨_, rfl⟩, .inr ⟨_, trivial, hJx3⟩⟩
theorem back1_nil (n l B2 cap : Nat) (p : Option Addr) (J Jx : List BEv → World → Prop) (W : World)
    (hB : W.cell? ⟨B2, 0, none⟩ = some (.slice p 0 cap)) (hJ0 : J [] W) :
    CallsIn Fence.wide n Tryd.prog 102 #[.func (.yield l) #[] #[], .pointer (some ⟨B2, 0, none⟩)] W fun e W' => (∃ v, e = .returned v) ∧
      ((∃ ys, ys.map (fun x => x.2.1) = ([] : List Evt).reverse ∧ J ys W') ∨ (∃ pre, True ∧ Jx pre W')) := by
  have hro : Fence.wide.round = none := rfl
  refine callsIn_of_wp Tryd.func102 rfl trivial ?_ hro
  simp only [Tryd.ntmps102, List.size_toArray, List.length_cons, List.length_nil, Nat.reduceAdd, Nat.reduceSub, Array.replicate_succ, Array.replicate_zero, List.push_toArray, List.append_toArray, List.nil_append, List.cons_append]
  gi_wp2
  gi_loopw [3] (fun i wr => i = .int .i64 (-1) ∧ J [] wr) (fun _ _ => 0)
  case atStart => exact ⟨rfl, hJ0⟩
  case round =>
    obtain ⟨rfl, hJ⟩ := hrel
    gi_wp2
    go_end0
    exact ⟨⟨_, rfl⟩, .inl ⟨[], by simp, hJ⟩⟩
theorem back1_stops (n B2 n₀ sb : Nat) (es : List Evt) (p : Option Addr) (cap : Nat) (h0 : B2 < n₀ ∧ B2 ≠ sb) (hes : ∀ e ∈ es, 1 ≤ e.sec ∧ e.sec ≤ 1000000) (hm : es.length ≤ maxLen) (hn : 1 ≤ n) (w : World) (hn0 : n₀ ≤ w.heap.size)
    (hB : w.cell? ⟨B2, 0, none⟩ = some (.slice p es.length cap)) (hE : SliceIn p es.length (fun b o => (b < n₀ ∧ b ≠ sb) ∧ EvtsAt w es b o)) :
    SeqStopsK Fence.wide n Tryd.prog 102 #[.pointer (some ⟨B2, 0, none⟩)] (fun x : BEv => #[.int .i64 x.1, evVal x.2.1]) (Keeps n₀ sb)
      (fun ys => ys.map (fun x => x.2.1) = es.reverse) (fun _ => True) es.length w := by
  intro l J Jx W hW hJ _ hY hJ0
  have hk := Keeps.of_below (sb := sb) hW hn0
  rcases hE with h | ⟨b, o, rfl, hb, hE⟩
  · have he := List.eq_nil_of_length_eq_zero h
    subst he
    exact back1_nil n l B2 cap p J Jx W (hk.cell h0.1 h0.2 hB) hJ0
  · exact back1_in n l B2 b o cap n₀ sb es h0 hb hes hm hn J Jx W hY (hk.cell h0.1 h0.2 hB) (fun i hi => ⟨hk.cell hb.1 hb.2 (hE i hi).1, hk.cell hb.1 hb.2 (hE i hi).2.1, hk.cell hb.1 hb.2 (hE i hi).2.2⟩) hJ0
/-- the block of a loop variable that is an event -/
def EvBox (W : World) (B : Nat) (e : Evt) : Prop := W.heap[B]? = some (.cells #[.int .i64 e.what, .int .i64 e.sec, .int .i64 e.size] 89)
theorem EvBox.keep {W W' : World} {B : Nat} {e : Evt} (h : EvBox W B e) (hb : Below W.heap.size W W') : EvBox W' B e := (hb.block _ (heap_lt h)).trans h
theorem EvBox.sec {W : World} {B : Nat} {e : Evt} (h : EvBox W B e) : W.cell? ⟨B, 1, none⟩ = some (.int .i64 e.sec) := by simp [World.cell?, show W.heap[B]? = _ from h]
theorem Boxed.below {W W' : World} {B : Nat} {t : TypeId} {v : Value} (h : Boxed W B t v) (hb : Below W.heap.size W W') : Boxed W' B t v := (hb.block _ h.lt).trans h
theorem evBox_own (B : Nat) (e : Evt) : Own (fun (_ : Unit) W => EvBox W B e) := fun _ _ _ _ hs hg hrow => (grownBy_keeps_cells hg hrow hs rfl).trans hs
theorem KeepsFrom.of_below {B n : Nat} {W W' : World} (h : Below n W W') (hn : W.heap.size ≤ n) : KeepsFrom B W W' :=
  ⟨h.size, fun k o _ hk _ => (h.block k (by have := heap_lt hk; omega)).trans hk⟩
theorem ownFrom_size {β : Type} (B n : Nat) : OwnFrom B (fun (_ : β) W => n ≤ W.heap.size) := fun _ _ _ _ hs hg _ => Nat.le_trans hs hg.size
set_option maxRecDepth 100000 in
set_option maxHeartbeats 4000000 in
theorem lastRun_at {a m : Nat} {c : Clk} {seed k : Int} {r : Cham} {v : Value} (s : Int) (w : World) (h : AtWork w a m c seed k r v) (he : evsOk c.evs = true) (h0 : 0 ≤ s) (h1 : s ≤ 1000000) :
    Calls Tryd.prog 94 #[.pointer (some ⟨a, 0, none⟩), .int .i64 s] w fun e w' => e = .returned (.int .i64 (lastS c s)) ∧ Below w.heap.size w w' := by
  refine (callsIn_wide (n := 9)).1 ?_
  have hro : Fence.wide.round = none := rfl
  obtain ⟨p, cap, rfl, hm, hs⟩ := h.slice
  have h8 := h.evs
  have hza := cell_lt h8
  obtain ⟨hl, hok⟩ := evsOk_parts he
  have hes : ∀ e ∈ c.evs, 1 ≤ e.sec ∧ e.sec ≤ 1000000 := fun e he => (evOk_parts (hok e he)).2.1
  have H := Lib.hid h
  have HE := Lib.hid he
  have HS := Lib.hid hs
  have HES := Lib.hid hes
  clear h he hs hes hok
  refine callsIn_of_wp_marks Tryd.func94 rfl trivial ?_ hro
  simp only [Tryd.ntmps94, List.size_toArray, List.length_cons, List.length_nil, Nat.reduceAdd, Nat.reduceSub, Array.replicate_succ, Array.replicate_zero, List.push_toArray, List.append_toArray, List.nil_append, List.cons_append]
  gi_wp2_with (refine ⟨trivial, ?_⟩; gi_at_call 100; refine (callsIn_wide.2 (backward_at _ _ _ _)).mono ?_; rintro e w' ⟨rfl, rfl⟩)
  have hB0 : Below w.heap.size w (((w.alloc (.cells #[.pointer (some ⟨a, 0, none⟩)] 109)).alloc (.cells #[.int .i64 s] 3)).alloc (.cells #[.slice p c.evs.length cap] 84)) := by go_grown
  have bA := ((Boxed.new w 109 (.pointer (some ⟨a, 0, none⟩))).alloc (.cells #[.int .i64 s] 3)).alloc (.cells #[.slice p c.evs.length cap] 84)
  have bS := (Boxed.new (w.alloc (.cells #[.pointer (some ⟨a, 0, none⟩)] 109)) 3 (.int .i64 s)).alloc (.cells #[.slice p c.evs.length cap] 84)
  have bL := Boxed.new ((w.alloc (.cells #[.pointer (some ⟨a, 0, none⟩)] 109)).alloc (.cells #[.int .i64 s] 3)) 84 (.slice p c.evs.length cap)
  simp only [World.size_alloc] at bS bL
  have hsz : (((w.alloc (.cells #[.pointer (some ⟨a, 0, none⟩)] 109)).alloc (.cells #[.int .i64 s] 3)).alloc (.cells #[.slice p c.evs.length cap] 84)).heap.size = w.heap.size + 3 := by simp
  obtain ⟨W0, hW0⟩ : ∃ W0, (((w.alloc (.cells #[.pointer (some ⟨a, 0, none⟩)] 109)).alloc (.cells #[.int .i64 s] 3)).alloc (.cells #[.slice p c.evs.length cap] 84)) = W0 := ⟨_, rfl⟩
  rw [hW0] at bA bS bL hB0 hsz ⊢
  clear hW0
  refine wpIn_rangeFunc_ownH hro (by decide) (gf := 102) (lb := #[.pointer (some ⟨w.heap.size + 1 + 1, 0, none⟩)]) rfl trivial (enters_of Tryd.func102 (by kernel_rfl) rfl)
    (back1_stops 8 (w.heap.size + 1 + 1) (w.heap.size + 3) (w.heap.size + 1) c.evs p cap (by omega) HES.out hm (by decide) W0 (by omega) bL.cell (HS.out.elim .inl fun ⟨b, o, hp, hE⟩ => by
      by_cases hn : c.evs.length = 0
      · exact .inl hn
      · have hb := cell_lt (hE 0 (by omega)).1
        exact .inr ⟨b, o, hp, by omega, hE.below hB0⟩)) (fun h k => h.trans k) (Keeps.putObj (by omega)) (Below.refl _ _) (fun _ => rfl)
    (fun pre W => (Boxed W (w.heap.size + 1) 3 (.int .i64 (lastFrom c s pre)) ∧ Boxed W w.heap.size 109 (.pointer (some ⟨a, 0, none⟩))) ∧ (Below w.heap.size w W ∧ w.heap.size + 3 ≤ W.heap.size))
    (fun _ _ _ => False)
    (OwnFrom.and (OwnFrom.and (Own.from (boxed_own _ _ _) _) (Own.from (boxed_own _ _ _) _)) (OwnFrom.and (ownFrom_below (Nat.le_refl _) (by omega)) (ownFrom_size _ _)))
    (fun _ _ _ _ _ hs _ _ => hs)
    ⟨⟨bS, bA⟩, hB0, by omega⟩
    (fun x a' W => ∃ Bx, w.heap.size + 1 < Bx ∧ EvBox W Bx x.2.1 ∧ a' = { tmps := #[.pointer (some ⟨a, 0, none⟩), .int .i64 s, .pointer (some ⟨w.heap.size, 0, none⟩), .pointer (some ⟨w.heap.size + 1, 0, none⟩), .int .i64 0, undef, .pointer (some ⟨Bx, 0, none⟩), .pointer (some ⟨a, 0, none⟩), .pointer (some ⟨a, 0, none⟩), .pointer (some ⟨a, 0, none⟩), .pointer (some ⟨a, 8, none⟩), .slice p c.evs.length cap, .func (.func 102) #[] #[.pointer (some ⟨w.heap.size + 1 + 1, 0, none⟩)], .int .i64 x.1, evVal x.2.1, undef, undef, undef, undef, undef, undef, undef, undef, undef, undef, undef, undef, undef, undef], defers := [] })
    (fun x a' _ X Y row hs hg hr => by obtain ⟨Bx, h1, h2, h3⟩ := hs; exact ⟨Bx, h1, evBox_own Bx x.2.1 () X Y row h2 hg (fun r e => (hr r e).2), h3⟩)
    ?assign ?body ?done ?stop
  case assign =>
    rintro l pre x W K ⟨⟨bS1, bA1⟩, hB1, hn1⟩ hK
    have hs1 := bS1.lt
    have hE0 : EvBox (W.alloc (.cells #[.int .i64 x.2.1.what, .int .i64 x.2.1.sec, .int .i64 x.2.1.size] 89)) W.heap.size x.2.1 := World.alloc_heap_new W _
    have hlb := HS.out
    unfold evVal at *
    gi_wp2
    exact hK _ _ ((KeepsOthers.alloc _ _).from _) (Keeps.of_below ((Below.refl _ W).alloc (Nat.le_refl _) _) hn1) ⟨⟨bS1.alloc _, bA1.alloc _⟩, hB1.alloc hB1.size _, by simp; omega⟩ ⟨W.heap.size, hs1, hE0, rfl⟩
  case body =>
    rintro l pre x a' W hl - ⟨⟨bS1, bA1⟩, hB1, hn1⟩ ⟨Bx, hBx, bX, rfl⟩ hlen
    have hcur := lastFrom_bd c s pre h0 h1
    have hxs := x.2.2
    have hat := H.out.below hB1
    have hr := runs_at (lastFrom c s pre) W hat HE.out hcur.1 hcur.2
    have hsn := lastFrom_snoc c s pre x
    generalize lastFrom c s pre = cur at *
    have cS := bS1.cell
    have fS := bS1.frozen
    have cA := bA1.cell
    have cX := bX.sec
    have HR := Lib.hid hr
    have HSN := Lib.hid hsn
    clear hr hsn hat
    by_cases hle : x.2.1.sec ≤ cur
    · cases hrun : runsS c cur
      · have hst : lastStep c cur x.2.1 = x.2.1.sec - 1 := if_pos ⟨hle, hrun⟩
        have hst2 : (!(pastS cur c.evs).stopped) = false := hrun
        have HST := Lib.hid hst
        clear hst hrun
        gi_wp2_with (refine ⟨trivial, ?_⟩; gi_at_call 65; refine (CallsIn.inRound l (callsIn_wide.2 HR.out)).mono ?_; rintro e w2 ⟨rfl, hb2⟩; have cX2 := (bX.keep hb2).sec; have bS2 := Boxed.below bS1 hb2; have cS2 := bS2.cell; have fS2 := bS2.frozen)
        have hs2 := hb2.size
        refine ⟨(KeepsFrom.of_below hb2 (Nat.le_refl _)).trans ((KeepsOthers.setCell _ _ _).from _), (Keeps.of_below hb2 hn1).trans (Keeps.set _ Keeps.refl), ⟨by rw [HSN.out, HST.out]; exact bS2.set _, (Boxed.below bA1 hb2).other (by omega) _⟩, (hB1.trans (hb2.mono (by omega))).setCell (p := ⟨w.heap.size + 1, 0, none⟩) (by simp) _, by simp; omega⟩
      · have hst : lastStep c cur x.2.1 = cur := if_neg (by rw [hrun]; simp)
        have hst2 : (!(pastS cur c.evs).stopped) = true := hrun
        have HST := Lib.hid hst
        clear hst hrun
        gi_wp2_with (refine ⟨trivial, ?_⟩; gi_at_call 65; refine (CallsIn.inRound l (callsIn_wide.2 HR.out)).mono ?_; rintro e w2 ⟨rfl, hb2⟩; have cX2 := (bX.keep hb2).sec; have bS2 := Boxed.below bS1 hb2; have cS2 := bS2.cell; have fS2 := bS2.frozen)
        have hs2 := hb2.size
        refine ⟨KeepsFrom.of_below hb2 (Nat.le_refl _), Keeps.of_below hb2 hn1, ⟨by rw [HSN.out, HST.out]; exact bS2, Boxed.below bA1 hb2⟩, hB1.trans (hb2.mono (by omega)), by omega⟩
    · have hst : lastStep c cur x.2.1 = cur := if_neg (by omega)
      have HST := Lib.hid hst
      have hlt : cur < x.2.1.sec := by omega
      have hd : decide (x.2.1.sec ≤ cur) = false := by simp; omega
      clear hst hle
      gi_wp2
      refine ⟨trivial, ?_⟩
      gi_wp2
      exact ⟨KeepsFrom.refl _ _, Keeps.refl, ⟨by rw [HSN.out, HST.out]; exact bS1, bA1⟩, hB1, hn1⟩
  case done =>
    rintro D ys W hD hys ⟨⟨bS1, bA1⟩, hB1, hn1⟩ hK
    have hall := lastFrom_all c s ys hys
    rw [hall] at bS1
    have cS := bS1.cell
    gi_wp2
    refine ⟨by simp, .inl ⟨_, _, rfl, run_takeDeferred hK, ?_⟩⟩
    exact ⟨_, results_tmp rfl _ _ _, rfl, hB1.trans (belowK_b (w := w) (Nat.le_refl _) W D _ _ (by omega) hK rfl rfl)⟩
  case stop =>
    rintro D c pre W _ _ h _
    exact h.elim
end Go.Proofs.YthegamfbigphkaaDoor
