/- Stage 6 (steer): a round of the chart. -/
import Derived.Test.YtiapimfmnmegpaaZrn
namespace Go.Proofs.Ytiapimfmnmegpaa.St
open Go Go.RowKit Go.Shelf
attribute [local go_sem] Oper.semAt_some
theorem infoInt : (Try.prog.info? 3).map (fun i => (i.zero, i.size, i.bytes)) = some (some (.int .i64 0), 1, 8) := by kernel_rfl
def ints (l : List Int) : List Value := l.map fun x => .int .i64 x
def atL (l : List Int) (i : Nat) : Int := l[i]?.getD 0
theorem own_row {X : World} {M : Nat} {v : Value} {l : List Int} (h : X.ownsRow M 3 1 v l.length (ints l)) : ∃ p c, v = .slice p l.length c ∧ l.length ≤ c ∧ c ≤ maxLen ∧ NumIn X (atL l) l.length p ∧ ∀ b o, p = some ⟨b, o, none⟩ → M ≤ b := by
  rcases h.2 with ⟨rfl, h0⟩ | ⟨g, cap, cur, rfl, hM, hg, hc, h3, hs, ht⟩
  · rw [h0]; exact ⟨none, 0, rfl, Nat.le_refl _, Nat.zero_le _, .inl rfl, fun b o e => by cases e⟩
  · refine ⟨some ⟨g, 0, none⟩, cap, rfl, hc, h3, .inr ⟨g, 0, rfl, fun i hi => ?_⟩, fun b o e => by cases e; exact hM⟩
    have e : cur.toList[i]? = some (.int .i64 (atL l i)) := by
      have h1 : (cur.toList.take (l.length * 1))[i]? = cur.toList[i]? := by rw [List.getElem?_take, if_pos (by omega)]
      rw [← h1, ht]
      unfold ints atL
      rw [List.getElem?_map, List.getElem?_eq_getElem hi]; rfl
    have e2 : cur[i]? = some (.int .i64 (atL l i)) := by rw [← Array.getElem?_toList]; exact e
    simp [World.cell?, hg, e2]
theorem own_base {X : World} {A M : Nat} {e : TypeId} {s k : Nat} {v : Value} {xs : List Value} (h : X.ownsRow A e s v k xs) (hM : M ≤ A) : X.ownsRow M e s v k xs :=
  ⟨h.1, h.2.imp id (fun ⟨g, cap, cur, e, hb, r⟩ => ⟨g, cap, cur, e, Nat.le_trans hM hb, r⟩)⟩
theorem own_keep {w w' : World} {b s n : Nat} {e : TypeId} {v : Value} {xs : List Value} {B : Nat} (h : w.ownsRow b e s v n xs) (hb : Below B w w') (hB : w.heap.size ≤ B) : w'.ownsRow b e s v n xs := by
  refine ⟨h.1, h.2.imp id ?_⟩
  rintro ⟨g, cap, cur, e1, h1, h2, h3⟩
  exact ⟨g, cap, cur, e1, h1, (hb.block g (by have := (Array.getElem?_eq_some_iff.1 h2).1; omega)).trans h2, h3⟩
theorem own_ge {w : World} {b : Nat} {e : TypeId} {v : Value} {n k : Nat} {xs : List Value} (h : w.ownsRow b e 1 v n xs) (hk : v.ownBlock = some k) : b ≤ k := by
  rcases h.2 with ⟨rfl, _⟩ | ⟨g, cap, cur, rfl, hg, _⟩
  · cases hk
  · obtain rfl : g = k := by simpa [Value.ownBlock] using hk
    exact hg
theorem own_set {X : World} {M b o : Nat} {e : TypeId} {v x : Value} {n : Nat} {xs : List Value} (h : X.ownsRow M e 1 v n xs) (hb : b < M) : (X.setCell ⟨b, o, none⟩ x).ownsRow M e 1 v n xs := by
  refine ⟨h.1, h.2.imp id ?_⟩
  rintro ⟨g, cap, cur, e1, h1, h2, h3⟩
  exact ⟨g, cap, cur, e1, h1, (Below.heap_setCell _ _ _ _ (by show g ≠ b; omega)).trans h2, h3⟩
/-- all lies as it lay, but block b -/
theorem gb_trans {w X Y : World} {b : Nat} {row : Option Nat} (h : w.grownBy X (some b)) (k : X.grownBy Y row) (hr : ∀ j, row = some j → w.heap.size ≤ j ∨ j = b) : w.grownBy Y (some b) :=
  ⟨k.os.trans h.os, k.tape.trans h.tape, k.output.trans h.output, Nat.le_trans h.size k.size, fun j hj hne => by
    rw [k.block j (Nat.lt_of_lt_of_le hj h.size) (fun e => by
      rcases hr j e.symm with h1 | rfl
      · omega
      · exact hne rfl), h.block j hj hne]⟩
theorem gb_below {w X : World} {b : Nat} (h : Below w.heap.size w X) : w.grownBy X (some b) := ⟨h.os, h.tape, h.output, h.size, fun k hk _ => h.block k hk⟩
theorem gb_bel {w X Y : World} {b : Nat} (h : w.grownBy X (some b)) (k : Below w.heap.size X Y) : w.grownBy Y (some b) :=
  ⟨k.os.trans h.os, k.tape.trans h.tape, k.output.trans h.output, Nat.le_trans h.size k.size, fun j hj hne => (k.block j hj).trans (h.block j hj hne)⟩
/-- numbers that may be written -/
structure NumW (W : World) (f : Nat → Int) (N b o : Nat) : Prop where
  c : ∀ i, i < N → W.cell? ⟨b, o + i, none⟩ = some (.int .i64 (f i)) ∧ W.frozen? ⟨b, o + i, none⟩ = false
  t : ∃ a z, W.heap[b]? = some (.cells a 3 z)
theorem NumW.lt {W : World} {f : Nat → Int} {N b o : Nat} (h : NumW W f N b o) : b < W.heap.size := by obtain ⟨a, z, e⟩ := h.t; exact (Array.getElem?_eq_some_iff.1 e).1
theorem NumW.same {W X : World} {f : Nat → Int} {N b o : Nat} (h : NumW W f N b o) (e : X.heap[b]? = W.heap[b]?) : NumW X f N b o :=
  ⟨fun i hi => ⟨(World.cell?_of_block (a := ⟨b, o + i, none⟩) e).trans (h.c i hi).1, by rw [← (h.c i hi).2]; simp only [World.frozen?, e]⟩, by rw [e]; exact h.t⟩
theorem NumW.below {W X : World} {f : Nat → Int} {N b o : Nat} (h : NumW W f N b o) (hb : Below W.heap.size W X) : NumW X f N b o := h.same (hb.block b h.lt)
theorem NumW.in_ {W : World} {f : Nat → Int} {N b o : Nat} (h : NumW W f N b o) : NumIn W f N (some ⟨b, o, none⟩) := .inr ⟨b, o, rfl, fun i hi => (h.c i hi).1⟩
theorem NumW.congr {W : World} {f g : Nat → Int} {N b o : Nat} (h : NumW W f N b o) (e : ∀ i, i < N → f i = g i) : NumW W g N b o := ⟨fun i hi => by rw [← e i hi]; exact h.c i hi, h.t⟩
theorem cells_set {X : World} {b : Nat} {a : Array Value} {t : TypeId} {z : Nat × Nat} (h : X.heap[b]? = some (.cells a t z)) (B o : Nat) (v : Value) : ∃ a' z', (X.setCell ⟨B, o, none⟩ v).heap[b]? = some (.cells a' t z') := by
  by_cases e : b = B
  · subst e
    obtain ⟨hlt, hk⟩ := Array.getElem?_eq_some_iff.1 h
    refine ⟨a.setIfInBounds o v, z, ?_⟩
    show (X.heap.modify b _)[b]? = _
    rw [Array.getElem?_eq_getElem (by rw [Array.size_modify]; exact hlt), Array.getElem_modify_self, hk]
    rfl
  · exact ⟨a, z, (Below.heap_setCell _ _ _ _ (by show b ≠ B; exact e)).trans h⟩
theorem NumW.put {W : World} {f : Nat → Int} {N b o : Nat} (h : NumW W f N b o) {j : Nat} (hj : j < N) (x : Int) : NumW (W.setCell ⟨b, o + j, none⟩ (.int .i64 x)) (fun i => if i = j then x else f i) N b o := by
  refine ⟨fun i hi => ⟨?_, by rw [World.frozen?_setCell]; exact (h.c i hi).2⟩, ?_⟩
  · by_cases e : i = j
    · subst e; rw [if_pos rfl]; exact World.cell?_setCell_same _ _ _ (h.c i hi).1
    · rw [if_neg e, World.cell?_setCell_other _ ⟨b, o + j, none⟩ ⟨b, o + i, none⟩ _ (fun q => by injection q with q1 q2; omega)]; exact (h.c i hi).1
  · obtain ⟨a, z, e⟩ := h.t
    exact cells_set e b _ _
/-- a box of another type stands a store -/
theorem box_set {X : World} {B b o : Nat} {t : TypeId} {v x : Value} (h : Boxed X B t v) (hb : B ≠ b) : Boxed (X.setCell ⟨b, o, none⟩ x) B t v := (Below.heap_setCell _ _ _ _ (by show B ≠ b; exact hb)).trans h
theorem heap_set {X : World} {B b o : Nat} {ob : Obj} {x : Value} (h : X.heap[B]? = some ob) (hb : B ≠ b) : (X.setCell ⟨b, o, none⟩ x).heap[B]? = some ob := (Below.heap_setCell _ _ _ _ (by show B ≠ b; exact hb)).trans h
theorem size_setOff (W : World) (b o : Nat) (v : Value) : (W.setCell ⟨b, o, none⟩ v).heap.size = W.heap.size := by simp
theorem grownBy_setOff (W : World) (b o : Nat) (v : Value) : W.grownBy (W.setCell ⟨b, o, none⟩ v) (some b) :=
  ⟨rfl, rfl, rfl, by simp, fun k _ hk => Below.heap_setCell _ _ _ k (fun e => hk (by rw [e]))⟩
/-- what renew's loop may write: numbers and a list of numbers -/
def renP (_ : Nat) (t : TypeId) : Prop := t ≠ 3 ∧ t ≠ 24
theorem kpf_append {X w1 : World} {M B k : Nat} {v v' : Value} {xs : List Value} {tmp : Obj} (hv : Boxed X B 24 v) (hrow : X.ownsRow M 3 1 v k xs) (hgrow : (X.alloc tmp).grownBy w1 v.ownBlock) : KpF renP X (w1.setCell ⟨B, 0, none⟩ v') := by
  have hA := below_alloc (Below.refl X.heap.size X) tmp
  have hne : ∀ j, some j = v.ownBlock → ∃ cur, X.heap[j]? = some (.cells cur 3) := fun j ej => by
    rcases hrow.2 with ⟨rfl, _⟩ | ⟨g, cap, cur, rfl, hb, hg, _⟩
    · simp [Value.ownBlock] at ej
    · obtain rfl : j = g := by simpa [Value.ownBlock] using ej
      exact ⟨_, hg⟩
  have hs1 := hgrow.size
  have hs2 := hA.size
  refine ⟨by simp; omega, fun j a t z h1 h3 => ?_⟩
  have hlt := (Array.getElem?_eq_some_iff.1 h3).1
  rw [Below.heap_setCell _ _ _ _ (fun e => ?_), hgrow.block j (by omega) (fun e => ?_), hA.block j hlt]
  · exact h3
  · obtain ⟨cur, hcur⟩ := hne j e
    rw [h3] at hcur; cases hcur; exact h1.1 rfl
  · have e' : j = B := e
    rw [e', show X.heap[B]? = _ from hv] at h3
    cases h3; exact h1.2 rfl
set_option maxRecDepth 100000 in
set_option maxHeartbeats 4000000 in
theorem renew_any (l r s z : Int) (h : PlanOk l r s z) (fn : Nat → Int) (b o : Nat) (N c D V : Nat) (hN : sizP l r = (N : Int)) (hc : N ≤ c) (hD : 2 * z + 1 = (D : Int)) (hV : 2 * r + 1 = (V : Int)) (w : World) (hn : NumW w fn N b o) :
    Calls Try.prog 47 #[.agg #[.int .i64 l, .int .i64 r, .int .i64 s, .int .i64 z, .slice (some ⟨b, o, none⟩) N c]] w fun e w' => (∃ q cr, e = .returned (.slice q (renL l r s z fn D V N).length cr) ∧ (renL l r s z fn D V N).length ≤ cr ∧ NumIn w' (atL (renL l r s z fn D V N)) (renL l r s z fn D V N).length q ∧ ∀ b' o', q = some ⟨b', o', none⟩ → w.heap.size ≤ b') ∧
      NumW w' (renF l r s z fn D V) N b o ∧ w.grownBy w' (some b) := by
  obtain ⟨i0, hi0, hz0, hz1, hz2⟩ := info_parts infoInt
  refine (callsIn_wide (n := 9)).1 ?_
  have hro : Fence.wide.round = none := rfl
  refine callsIn_of_wp_marks Try.func47 rfl trivial ?_ hro
  simp only [Try.ntmps47, List.size_toArray, List.length_cons, List.length_nil, Nat.reduceAdd, Nat.reduceSub, Array.replicate_succ, Array.replicate_zero, List.push_toArray, List.append_toArray, List.nil_append, List.cons_append]
  refine wpIn_wide.2 ?_
  go_wp2_with (go_at_call 48; refine (means_any _ _ _ _ _ _ _ _).mono ?_; rintro e w2 ⟨rfl, hw2⟩)
  obtain ⟨W0, hW0, k1, k2, k3, k4⟩ : ∃ W0, (w.alloc (.cells #[.int .i64 l, .int .i64 r, .int .i64 s, .int .i64 z, .slice (some ⟨b, o, none⟩) N c] 68)).alloc (.cells #[.slice none 0 0] 24) = W0 ∧ CtlAt W0 w.heap.size l r s z (some ⟨b, o, none⟩) N c ∧ Boxed W0 (w.heap.size + 1) 24 (.slice none 0 0) ∧ Below w.heap.size w W0 ∧ W0.heap.size = w.heap.size + 2 := by
    refine ⟨_, rfl, ?_⟩
    have b1 := below_alloc (Below.refl w.heap.size w) (.cells #[.int .i64 l, .int .i64 r, .int .i64 s, .int .i64 z, .slice (some ⟨b, o, none⟩) N c] 68)
    have h1 := CtlAt.new w l r s z (some ⟨b, o, none⟩) N c
    have e1 : (w.alloc (.cells #[.int .i64 l, .int .i64 r, .int .i64 s, .int .i64 z, .slice (some ⟨b, o, none⟩) N c] 68)).heap.size = w.heap.size + 1 := by simp
    generalize w.alloc (.cells #[.int .i64 l, .int .i64 r, .int .i64 s, .int .i64 z, .slice (some ⟨b, o, none⟩) N c] 68) = W1 at *
    have b2 := below_alloc (Below.refl W1.heap.size W1) (.cells #[.slice none 0 0] 24)
    have h2 := Boxed.new W1 24 (.slice none 0 0)
    rw [e1] at h2
    exact ⟨h1.below b2, h2, bt b1 b2, by simp [e1]⟩
  rw [hW0] at hw2
  have b3 := below_alloc (Below.refl W0.heap.size W0) (.cells #[.int .i64 l, .int .i64 r, .int .i64 s, .int .i64 z, .slice (some ⟨b, o, none⟩) N c] 68)
  have k5 := CtlAt.new W0 l r s z (some ⟨b, o, none⟩) N c
  rw [k4] at k5
  have hs2 : w2.heap.size = w.heap.size + 3 := by rw [← hw2]; simp [k4]
  rw [hw2] at b3 k5
  have k1' := k1.below b3
  have k2' := box_bel k2 b3
  have hB2 := bt k3 b3
  have hn2 := hn.below hB2
  clear hw2 hW0 k1 k2 b3 k3 k4
  have HST := meant1_f 8 (w.heap.size + 1 + 1) b o l r s z h N c hN (fun k => decide (fn k < 1000)) renP (fun k t ht => by rcases ht with rfl | rfl | rfl <;> exact ⟨by decide, by decide⟩) (by decide) w2 k5
  have hbw := hn.lt
  have HSZ := Lib.hid (siz_bd h)
  refine (wpIn_wide (n := 9)).1 ?_
  refine range_f (by decide) (gf := 55) (lb := #[.pointer (some ⟨w.heap.size + 1 + 1, 0, none⟩)]) rfl (enters_of Try.func55 (by kernel_rfl) rfl) HST (fun _ => rfl)
    (fun pre X => (∀ d ∈ pre, fn d.1 < 1000) ∧ NumW X (midV l r s z fn D V pre) N b o ∧ CtlAt X w.heap.size l r s z (some ⟨b, o, none⟩) N c ∧ (∃ v, Boxed X (w.heap.size + 1) 24 v ∧ X.ownsRow w2.heap.size 3 1 v (lostL l r s z fn D V pre).length (ints (lostL l r s z fn D V pre))) ∧ w.grownBy X (some b) ∧ w2.heap.size ≤ X.heap.size) (fun _ _ _ => False)
    (fun pre X Y row hs hg hr => by
      obtain ⟨e1, e2, e3, ⟨v, e4, e5⟩, e6, e7⟩ := hs
      refine ⟨e1, e2.same (hg.block b (by omega) (fun e => by have := (hr _ e.symm).1; omega)), cells_grown hg hr e3, ⟨v, cells_grown hg hr e4, e5.kept hg ?_⟩, gb_trans e6 hg (fun j e => .inl (by have := (hr j e).1; omega)), Nat.le_trans e7 hg.size⟩
      rcases e5.2 with ⟨e4, _⟩ | ⟨g1, cap, cur, e4, _, hgb, _⟩
      · exact .inl (by rw [e4]; rfl)
      · refine .inr fun e' => ?_
        obtain ⟨-, ob, ho, hcc⟩ := hr g1 (by rw [← e', e4]; rfl)
        rw [hgb] at ho; cases ho; cases hcc)
    (fun _ _ _ _ _ hs _ _ => hs)
    (fun pre X hs k hk => ⟨_, (hs.2.1.c k hk).1, by
      have := mid_same h (D := D) (V := V) (N := N) hs.1 k hk
      simp only [this]⟩)
    ⟨by simp, hn2.congr (fun i _ => (mid_nil l r s z fn D V N i).symm), k1', ⟨_, k2', World.ownsRow_nil _ _ _ _⟩, gb_below hB2, Nat.le_refl _⟩
    (fun d a' X => ∃ Bh, EntAt X Bh (stE l r d.1) (stQ r d.1) ∧ a' = { tmps := #[.agg #[.int .i64 l, .int .i64 r, .int .i64 s, .int .i64 z, .slice (some ⟨b, o, none⟩) N c], .pointer (some ⟨w.heap.size, 0, none⟩), .slice none 0 0, .pointer (some ⟨w.heap.size + 1, 0, none⟩), .int .i64 (d.1 : Int), .pointer (some ⟨Bh, 0, none⟩), undef, undef, .agg #[.int .i64 l, .int .i64 r, .int .i64 s, .int .i64 z, .slice (some ⟨b, o, none⟩) N c], .func (.func 55) #[] #[.pointer (some ⟨w.heap.size + 1 + 1, 0, none⟩)], .int .i64 (d.1 : Int), .agg #[.int .i64 (stE l r d.1), .int .i64 (stQ r d.1)], undef, undef, undef, undef, undef, undef, undef, undef, undef, undef, undef, undef, undef, undef, undef, undef, undef, undef], defers := [] })
    (fun d a' _ X Y row hs hg hr => by
      obtain ⟨Bh, e1, e2⟩ := hs
      exact ⟨Bh, cells_grown hg hr e1, e2⟩) ?assign ?body ?done ?stop
  case assign =>
    rintro l2 pre d X K ⟨e1, e2, e3, ⟨v, e4, e5⟩, e6, e7⟩ hK
    unfold encS
    gi_wp2
    have hb := below_alloc (Below.refl X.heap.size X) (.cells #[.int .i64 (stE l r d.1), .int .i64 (stQ r d.1)] 56)
    exact hK _ _ ((KeepsOthers.alloc _ _).from _) (KpF.of_below hb) ⟨e1, e2.below hb, e3.below hb, ⟨v, e4.alloc _, e5.alloc _⟩, gb_trans e6 (gbw hb) (fun j e => by cases e), Nat.le_trans e7 hb.size⟩ ⟨_, World.alloc_heap_new _ _, rfl⟩
  case stop =>
    rintro D' pre x X _ _ h _
    exact h.elim
  case done =>
    rintro D' X hD' ⟨e1, e2, e3, ⟨v, e4, e5⟩, e6, e7⟩ hK
    obtain ⟨q, cr, rfl, hq1, -, -, -⟩ := own_row e5
    have c0 := e4.cell
    have z0 := cell_lt c0
    have hbel : X.grownBy (X.putObj D' (.deferred none)) (some D') := grownBy_putObj' X D' _
    obtain ⟨q', cr', e, -, -, hq4, hq5⟩ := own_row (ownsRow_putObj e5 (.deferred none) hK rfl)
    cases e
    have HQ4 := Lib.hid hq4
    have HQ5 := Lib.hid hq5
    have HQ1 := Lib.hid hq1
    have HNF := Lib.hid (show NumW (X.putObj D' (.deferred none)) (renF l r s z fn D V) N b o from (e2.same (World.putObj_heap_other (by omega))).congr (fun i hi => mid_all l r s z fn D V N i hi))
    have HGF := Lib.hid (gb_trans e6 hbel (fun j e => .inl (by cases e; omega)))
    clear e1 e2 e3 e4 e5 hq4 hq5 hq1
    go_wp2_with fail
    refine ⟨by simp, .inl ⟨_, _, rfl, run_takeDeferred hK, ?_⟩⟩
    exact ⟨_, results_tmp rfl _ _ _, ⟨q, cr, rfl, HQ1.out, HQ4.out, fun b' o' e => Nat.le_trans (by omega) (HQ5.out b' o' e)⟩, HNF.out, HGF.out⟩
  case body =>
    rintro l2 pre d a' X hd ⟨e1, e2, e3, ⟨v, e4, e5⟩, e6, e7⟩ ⟨Bh, hB, rfl⟩ hlen
    obtain ⟨x0, x1, x2, x3, x4⟩ := e3.c
    have zx := cell_lt x0
    have y0 := hB.c0
    have y1 := hB.c1
    have zy := cell_lt y0
    obtain ⟨hse, hsq⟩ := st_bd h hN d.2
    have hl2 := h.l2
    have HBS := Lib.hid (best_same h hN (mid_same h (D := D) (V := V) (N := N) e1).symm (stE l r d.1) (stQ r d.1) D V)
    have HKV := Lib.hid (show bsK l r s z fn D V d.1 = bestQ l r s z fn (stE l r d.1) (stQ r d.1) D V from rfl)
    gi_wp2
    refine ⟨trivial, (CallsIn.inRound l2 (callsIn_wide.2 (held_any _ _ _ _ _ _ _ _ _ X))).mono ?_⟩
    rintro e w3 ⟨rfl, hw3⟩
    obtain ⟨w3', hw3', j1, j2, j3, j4⟩ := ctl_start X l r s z (some ⟨b, o, none⟩) N c (stE l r d.1) (stQ r d.1)
    rw [hw3'] at hw3
    subst hw3
    clear hw3' x0 x1 x2 x3 x4 zx y0 y1 zy
    have hn3 := e2.below j3
    have HBE := Lib.hid (best_any 60 #[.pointer (some ⟨X.heap.size, 0, none⟩), .pointer (some ⟨X.heap.size + 1, 0, none⟩)] (enters_of Try.func60 (by kernel_rfl) rfl)
      (fun k : Fin V => (k.1 : Int) - r) (fun k => (((k.1 : Int) - r).natAbs : Int)) (fun k => hldP l r z (midV l r s z fn D V pre) (stE l r d.1) ((k.1 : Int) - r) D = true) (helL l r s z (midV l r s z fn D V pre) (stE l r d.1) (stQ r d.1) D V) V 54 #[] (enters_of Try.func54 (by kernel_rfl) rfl) w3'
      (fun w' hb' _ => held1_f 8 _ _ l r s z (stE l r d.1) (stQ r d.1) h ⟨by omega, hsq⟩ (midV l r s z fn D V pre) (some ⟨b, o, none⟩) N c hN hc D V hD hV (bestF w3'.heap.size)
        (fun k t ht => .inl (by rcases ht with rfl | rfl | rfl | rfl <;> exact ⟨by decide, by decide⟩)) (fun b' o' e t => by cases e; have := e2.lt; exact .inr ⟨by omega, by omega, by omega⟩) (by decide) w' (j1.below hb') (j2.below hb') (hn3.below hb').in_)
      (fun k X' _ _ => (magnitude_any (n := (k.1 : Int) - r) (by have := k.2; have := h.r2; have := h.r1; omega) X').mono (by rintro e w' ⟨rfl, rfl⟩; exact ⟨rfl, Below.refl _ _⟩)))
    have HBQ := Lib.hid (show bestS (fun k : Fin V => (k.1 : Int) - r) (fun k => (((k.1 : Int) - r).natAbs : Int)) (helL l r s z (midV l r s z fn D V pre) (stE l r d.1) (stQ r d.1) D V) = bsK l r s z fn D V d.1 by rw [HKV.out, ← HBS.out]; rfl)
    have HBE := Lib.hid (by have := HBE.out; rw [HBQ.out] at this; exact this)
    have HNV := Lib.hid (show newV l r s z fn D V d.1 = if (bsK l r s z fn D V d.1).2.2 = true then (bsK l r s z fn D V d.1).1 else fn d.1 from rfl)
    have HLS := Lib.hid (lost_snoc l r s z fn D V pre d)
    have HMP := Lib.hid (fun k => mid_put l r s z fn D V pre d k)
    have HPM := Lib.hid (show ∀ x ∈ pre ++ [d], fn x.1 < 1000 from fun x hx => by
      rcases List.mem_append.1 hx with hx | hx
      · exact e1 x hx
      · rw [List.mem_singleton] at hx; subst hx; simpa using hd)
    obtain ⟨⟨bq, bc, bi⟩, hbk⟩ : ∃ x, bsK l r s z fn D V d.1 = x := ⟨_, rfl⟩
    rw [hbk] at HBE HNV HLS
    have hbk' := Lib.hid hbk
    dsimp only at HBE HNV HLS
    have HD := Lib.hid d.2
    have HLL := Lib.hid (show (lostL l r s z fn D V pre).length ≤ 2025 from Nat.le_trans (lost_len l r s z fn D V pre) (by have := HSZ.out; omega))
    clear hbk HBS HKV HBQ hse hsq hl2 hB hd
    gi_wp2
    refine ⟨trivial, (CallsIn.inRound l2 (callsIn_wide.2 HBE.out)).mono ?_⟩
    rintro e w4 ⟨rfl, hb4⟩
    have hb5 := bt j3 hb4
    have k1 := Lib.hid (e2.below hb5)
    have k2 := e3.below hb5
    have k3 := box_bel e4 hb5
    have k4 := own_keep e5 hb5 (Nat.le_refl _)
    have HG := Lib.hid (gb_trans e6 (gbw hb5) (fun j e => by cases e))
    have HZ := Lib.hid (Nat.le_trans e7 hb5.size)
    have HB5 := Lib.hid hb5
    obtain ⟨x0, x1, x2, x3, x4⟩ := k2.c
    have zx := cell_lt x0
    have HK2 := Lib.hid k2
    clear e2 e3 e4 e5 e6 e7 j1 j2 j3 j4 hb4 hb5 hn3 HBE k2
    cases bi
    · have HLE := Lib.hid (show lostL l r s z fn D V (pre ++ [d]) = lostL l r s z fn D V pre ++ [(d.1 : Int)] by rw [HLS.out]; simp)
      have HNE := Lib.hid (show NumW w4 (midV l r s z fn D V (pre ++ [d])) N b o from k1.out.congr (fun i hi => by
        rw [HMP.out]
        by_cases e : i = d.1
        · rw [if_pos e, HNV.out, e]
          show midV l r s z fn D V pre d.1 = if False then bq else fn d.1
          rw [if_neg not_false]
          unfold midV
          split
          · rw [HNV.out]; rfl
          · rfl
        · rw [if_neg e]))
      have c0 := k3.cell
      have zc := cell_lt c0
      have hll := HLL.out
      have hwz := HZ.out
      have hwN : w.heap.size ≤ w2.heap.size := by omega
      have hw4 : w.heap.size ≤ w4.heap.size := by omega
      have hwF : w.heap.size ≤ w.heap.size + 1 := by omega
      gi_wp2_with (gi_at_builtin; refine wpListIn_append_own _ rfl _ _ 24 rfl w2.heap.size 3 i0 (.int .i64 0) 1 8 Try.underlying24 hi0 hz0 hz1 hz2 rfl (by decide) _ _ _ rfl (k4.alloc _) ⟨w4.heap.size, 0, none⟩ 1 1 [.int .i64 (d.1 : Int)] rfl rfl (cell_one_new _ _ _) (by simp [Value.oneCell']) (by unfold maxLen; omega) (by omega) (by simp; omega) ?_; intro v' w1 hown' hgrow _; obtain ⟨g', cap', rfl⟩ := ownsRow_succ hown'; obtain ⟨hv1, hv2, -, hk2, hb2⟩ := k3.appended (by decide) (own_base k4 hwN) hw4 hwF (own_base hown' hwN) hgrow; have hr2 := hown'.kept (grownBy_setCell' w1 (w.heap.size + 1) (.slice (some ⟨g', 0, none⟩) ((lostL l r s z fn D V pre).length + 1) cap')) (.inr (hv1.not_row (by decide) hown').symm); have hc1 := hv1.cell; have hf1 := hv1.frozen; have hkp := kpf_append (v' := .slice (some ⟨g', 0, none⟩) ((lostL l r s z fn D V pre).length + 1) cap') k3 k4 hgrow)
      refine ⟨(keeps_below HB5.out).trans (hk2.from _), (KpF.of_below HB5.out).trans hkp, HPM.out, HNE.out.same (hb2.block b hbw), HK2.out.kp hkp ⟨by decide, by decide⟩, ⟨_, hv2, ?_⟩, gb_bel HG.out hb2, ?_⟩
      · rw [HLE.out]
        simpa [ints] using hr2
      · exact Nat.le_trans hwz hkp.size
    · have HLE := Lib.hid (show lostL l r s z fn D V (pre ++ [d]) = lostL l r s z fn D V pre by rw [HLS.out]; simp)
      have hdN := HD.out
      have hd0 : (d.1 : Int) < N := by omega
      have hd1 : (0 : Int) ≤ (d.1 : Int) := by omega
      obtain ⟨u0, u1⟩ := k1.out.c d.1 hdN
      have zu := cell_lt u0
      have HNE := Lib.hid (show NumW (w4.setCell ⟨b, o + d.1, none⟩ (.int .i64 bq)) (midV l r s z fn D V (pre ++ [d])) N b o from (k1.out.put hdN bq).congr (fun i hi => by
        rw [HMP.out, HNV.out]
        by_cases e : i = d.1
        · rw [if_pos e, if_pos e]; rfl
        · rw [if_neg e, if_neg e]))
      have HFI := Lib.hid (show KeepsFrom w2.heap.size X (w4.setCell ⟨b, o + d.1, none⟩ (.int .i64 bq)) ∧ KpF renP X (w4.setCell ⟨b, o + d.1, none⟩ (.int .i64 bq)) ∧ CtlAt (w4.setCell ⟨b, o + d.1, none⟩ (.int .i64 bq)) w.heap.size l r s z (some ⟨b, o, none⟩) N c ∧ Boxed (w4.setCell ⟨b, o + d.1, none⟩ (.int .i64 bq)) (w.heap.size + 1) 24 v ∧
          (w4.setCell ⟨b, o + d.1, none⟩ (.int .i64 bq)).ownsRow w2.heap.size 3 1 v (lostL l r s z fn D V pre).length (ints (lostL l r s z fn D V pre)) ∧ w.grownBy (w4.setCell ⟨b, o + d.1, none⟩ (.int .i64 bq)) (some b) ∧ w2.heap.size ≤ (w4.setCell ⟨b, o + d.1, none⟩ (.int .i64 bq)).heap.size from by
        obtain ⟨ba, bz, hbt⟩ := k1.out.t
        refine ⟨(keeps_below HB5.out).trans ((KeepsOthers.setCell _ _ _).from _), (KpF.of_below HB5.out).trans (KpF.set hbt (fun h => h.1 rfl) _), heap_set HK2.out (by omega), box_set k3 (by omega), own_set k4 (by omega), gb_trans HG.out (grownBy_setOff w4 b (o + d.1) _) (fun j e => .inr (by cases e; rfl)), ?_⟩
        rw [size_setOff]
        exact HZ.out)
      gi_wp2
      refine ⟨HFI.out.1, HFI.out.2.1, HPM.out, HNE.out, HFI.out.2.2.1, ⟨v, HFI.out.2.2.2.1, ?_⟩, HFI.out.2.2.2.2.2⟩
      rw [HLE.out]
      exact HFI.out.2.2.2.2.1
end Go.Proofs.Ytiapimfmnmegpaa.St
