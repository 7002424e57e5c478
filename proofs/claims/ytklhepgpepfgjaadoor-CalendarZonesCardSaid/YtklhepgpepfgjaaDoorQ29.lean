/- Layer 9 (calendar): the offset of a zone in a second. -/
import Derived.Test.YtklhepgpepfgjaaDoorQ28
import Derived.RangeFuncBox
namespace Go.Proofs.YtklhepgpepfgjaaDoor.Cal
open Go Go.RowKit Go.Shelf
attribute [local go_sem] Oper.semAt_some
def lastZ (o : Int) (g : Nat → Int × Int) (x : Int) {q : Nat} (l : List (Kx q)) : Int := l.foldl (fun a d => if fromK g d.1 ≤ x then offK o g d.1 else a) o
theorem lastZ_snoc (o : Int) (g : Nat → Int × Int) (x : Int) {q : Nat} (l : List (Kx q)) (d : Kx q) : lastZ o g x (l ++ [d]) = if fromK g d.1 ≤ x then offK o g d.1 else lastZ o g x l := by simp [lastZ]
theorem lastZ_all (o : Int) (g : Nat → Int × Int) (x : Int) (q : Nat) : ∀ k h, lastZ o g x (kxL q k h) = offAt o g x k
  | 0, _ => rfl
  | k + 1, h => by rw [kxL, lastZ_snoc, lastZ_all o g x q k]; rfl
/-- a block of two cells -/
def Boxed2 (W : World) (B : Nat) (t : TypeId) (x y : Value) : Prop := W.heap[B]? = some (.cells #[x, y] t)
theorem Boxed2.kept {X Y : World} {row : Option Nat} {B : Nat} {t : TypeId} {x y : Value} (h : Boxed2 X B t x y) (hg : X.grownBy Y row) (hr : some B ≠ row) : Boxed2 Y B t x y :=
  (hg.block B (Array.getElem?_eq_some_iff.1 h).1 hr).trans h
theorem Boxed2.c0 {W : World} {B : Nat} {t : TypeId} {x y : Value} (h : Boxed2 W B t x y) : W.cell? ⟨B, 0, none⟩ = some x := by simp [World.cell?, show W.heap[B]? = _ from h]
theorem Boxed2.c1 {W : World} {B : Nat} {t : TypeId} {x y : Value} (h : Boxed2 W B t x y) : W.cell? ⟨B, 1, none⟩ = some y := by simp [World.cell?, show W.heap[B]? = _ from h]
/-- the block B itself may be set -/
theorem kp_set {N B : Nat} {W : World} {v0 : Value} {t : TypeId} (hB : W.heap[B]? = some (.cells #[v0] t)) (ht : t = 3 ∨ t = 44) (v : Value) : KpN N B W (W.setCell ⟨B, 0, none⟩ v) :=
  ⟨by simp, fun k o _ h2 hk => (Below.heap_setCell _ _ _ _ (fun e => h2 e)).trans hk, fun k a u h1 h2 hk => by
    refine (Below.heap_setCell _ _ _ _ (fun e => ?_)).trans hk
    subst e
    rw [hB] at hk
    cases hk
    rcases ht with e | e
    · exact h1 e
    · exact h2 e⟩
theorem LpIn.low {w : World} {g : Nat → Int × Int} {q : Nat} {p : Option Addr} (h : LpIn w g q p) {N B : Nat} (h1 : w.heap.size ≤ N) (h2 : w.heap.size ≤ B) : LowIn N B q p := by
  by_cases h0 : q = 0
  · exact .inl h0
  · obtain ⟨b, o, e, hi⟩ := h.resolve_left h0
    have := cell_lt (hi 0 (by omega)).1
    exact .inr ⟨b, o, e, by omega, by omega⟩
set_option maxRecDepth 100000 in
set_option maxHeartbeats 4000000 in
theorem zoffset_any (o : Int) (q c : Nat) (p : Option Addr) (g : Nat → Int × Int) (hz : ZoneOk o q g) (hgt : ∀ i, i < q → (g i).1 ≤ 9223372036854775807) (x : Int) (w : World) (hs : LpIn w g q p) :
    Calls Tryd.prog 38 #[.agg #[.int .i64 o, .slice p q c], .int .i64 x] w fun e w' => e = .returned (.int .i64 (offAt o g x (q + 1))) ∧ Below w.heap.size w w' := by
  refine (callsIn_wide (n := 9)).1 ?_
  have hro : Fence.wide.round = none := rfl
  refine callsIn_of_wp_marks Tryd.func38 rfl trivial ?_ hro
  simp only [Tryd.ntmps38, List.size_toArray, List.length_cons, List.length_nil, Nat.reduceAdd, Nat.reduceSub, Array.replicate_succ, Array.replicate_zero, List.push_toArray, List.append_toArray, List.nil_append, List.cons_append]
  refine wpIn_wide.2 ?_
  go_wp2_with (go_at_call 76; refine (offsets_any _ _ _ _ _).mono ?_; rintro e w' ⟨rfl, rfl⟩)
  obtain ⟨W0, hW0⟩ : ∃ W0, (((w.alloc (.cells #[.int .i64 o, .slice p q c] 27)).alloc (.cells #[.int .i64 x] 3)).alloc (.cells #[.int .i64 o] 3)).alloc (.cells #[.int .i64 o, .slice p q c] 27) = W0 := ⟨_, rfl⟩
  have hB0 : Below w.heap.size w W0 := by
    rw [← hW0]
    exact below_alloc (below_alloc (below_alloc (below_alloc (Below.refl _ _) _) _) _) _
  have hsz : W0.heap.size = w.heap.size + 4 := by rw [← hW0]; simp
  have bX : Boxed W0 (w.heap.size + 1) 3 (.int .i64 x) := by
    rw [← hW0]
    have := ((Boxed.new (w.alloc (.cells #[.int .i64 o, .slice p q c] 27)) 3 (.int .i64 x)).alloc (.cells #[.int .i64 o] 3)).alloc (.cells #[.int .i64 o, .slice p q c] 27)
    simpa using this
  have bL : Boxed W0 (w.heap.size + 1 + 1) 3 (.int .i64 o) := by
    rw [← hW0]
    have := (Boxed.new ((w.alloc (.cells #[.int .i64 o, .slice p q c] 27)).alloc (.cells #[.int .i64 x] 3)) 3 (.int .i64 o)).alloc (.cells #[.int .i64 o, .slice p q c] 27)
    simpa using this
  have hD : ZAt W0 (w.heap.size + 1 + 1 + 1) o g q c p := by
    refine ⟨?_, hs.below hB0⟩
    rw [← hW0]
    have := World.alloc_heap_new (((w.alloc (.cells #[.int .i64 o, .slice p q c] 27)).alloc (.cells #[.int .i64 x] 3)).alloc (.cells #[.int .i64 o] 3)) (.cells #[.int .i64 o, .slice p q c] 27)
    simpa using this
  have hlow : LowIn W0.heap.size (w.heap.size + 1 + 1) q p := hs.low (by omega) (by omega)
  rw [hW0]
  clear hW0
  have HST := offs1_stops 8 (w.heap.size + 1 + 1 + 1) W0.heap.size (w.heap.size + 1 + 1) o q c p g hz hgt hlow (by decide) W0 hD
  refine (wpIn_wide (n := 9)).1 ?_
  refine wpIn_rangeFunc_ownH hro (by decide) (gf := 92) (lb := #[.pointer (some ⟨w.heap.size + 1 + 1 + 1, 0, none⟩)]) rfl trivial (enters_of Tryd.func92 (by kernel_rfl) rfl)
    HST (fun h k => h.trans k) (fun W l ob ob' h1 h2 h3 _ => KpN.putObj (Nat.le_refl _) W l ob ob' h1 h2 h3) (Below.refl _ _) (fun _ => rfl)
    (fun pre W => (Boxed W (w.heap.size + 1 + 1) 3 (.int .i64 (lastZ o g x pre)) ∧ Boxed W (w.heap.size + 1) 3 (.int .i64 x)) ∧ Below w.heap.size w W) (fun _ _ _ => False)
    (OwnFrom.and (OwnFrom.and (Own.from (boxed_own _ _ _) _) (Own.from (boxed_own _ _ _) _)) (ownFrom_below (Nat.le_refl _) (by omega)))
    (fun _ _ _ _ _ hs _ _ => hs) ⟨⟨bL, bX⟩, hB0⟩
    (fun d a' W => ∃ b, w.heap.size + 1 + 1 < b ∧ Boxed2 W b 107 (.int .i64 (fromK g d.1)) (.int .i64 (hiK q g d.1)) ∧ a' = { tmps := #[.agg #[.int .i64 o, .slice p q c], .int .i64 x, .pointer (some ⟨w.heap.size, 0, none⟩), .pointer (some ⟨w.heap.size + 1, 0, none⟩), .int .i64 0, .pointer (some ⟨w.heap.size + 1 + 1, 0, none⟩), .int .i64 (offK o g d.1), .pointer (some ⟨b, 0, none⟩), .pointer (some ⟨w.heap.size, 0, none⟩), .int .i64 o, .agg #[.int .i64 o, .slice p q c], .func (.func 92) #[] #[.pointer (some ⟨w.heap.size + 1 + 1 + 1, 0, none⟩)], .int .i64 (offK o g d.1), .agg #[.int .i64 (fromK g d.1), .int .i64 (hiK q g d.1)], undef, undef, undef, undef, undef, undef], defers := [] })
    (fun d a' _ X Y row hs hg hr => by
      obtain ⟨b, h1, h2, h3⟩ := hs
      exact ⟨b, h1, h2.kept hg (fun e => by obtain ⟨_, o, ho, hc⟩ := hr b e.symm; rw [show X.heap[b]? = _ from h2] at ho; cases ho; cases hc), h3⟩) ?assign ?body ?done ?stop
  case assign =>
    rintro lp pre d W K ⟨⟨i1, i2⟩, i3⟩ hK
    unfold encZ
    gi_wp2
    refine hK _ _ ((KeepsOthers.alloc _ _).from _) (KpN.of_below (below_alloc (Below.refl _ _) _)) ⟨⟨i1.alloc _, i2.alloc _⟩, below_alloc i3 _⟩ ⟨_, ?_, ?_, rfl⟩
    · have := i1.lt; omega
    · exact World.alloc_heap_new _ _
  case body =>
    rintro lp pre d a' W hlp hrc ⟨⟨i1, i2⟩, i3⟩ ⟨b, hb, hB, rfl⟩ hlen
    have hB0 := hB.c0
    have x1 := i1.cell
    have x1f := i1.frozen
    have x2 := i2.cell
    have z0 := cell_lt hB0
    have z1 := cell_lt x1
    have z2 := cell_lt x2
    by_cases hc : fromK g d.1 ≤ x
    · gi_wp2
      refine ⟨(KeepsOthers.setCell _ _ _).from _, kp_set i1 (.inl rfl) _, ⟨⟨?_, i2.other (by omega) _⟩, i3.setCell (p := ⟨w.heap.size + 1 + 1, 0, none⟩) (show w.heap.size ≤ w.heap.size + 1 + 1 by omega) _⟩⟩
      rw [lastZ_snoc, if_pos hc]
      exact i1.set _
    · gi_wp2
      refine ⟨(KeepsOthers.refl _).from _, KpN.of_below (Below.refl _ _), ⟨⟨?_, i2⟩, i3⟩⟩
      rw [lastZ_snoc, if_neg (Int.not_le.2 hc)]
      exact i1
  case done =>
    rintro D ys W hD rfl ⟨⟨i1, i2⟩, i3⟩ hK
    rw [lastZ_all] at i1
    have x1 := i1.cell
    have z1 := cell_lt x1
    go_wp2_with fail
    refine ⟨by simp, .inl ⟨_, _, rfl, run_takeDeferred hK, ?_⟩⟩
    refine ⟨_, results_tmp rfl _ _ _, rfl, ?_⟩
    exact i3.trans (belowK_b (w := w) (Nat.le_refl _) W D _ _ (by omega) hK rfl rfl)
  case stop =>
    rintro D c pre W _ _ h _
    exact h.elim
end Go.Proofs.YtklhepgpepfgjaaDoor.Cal
