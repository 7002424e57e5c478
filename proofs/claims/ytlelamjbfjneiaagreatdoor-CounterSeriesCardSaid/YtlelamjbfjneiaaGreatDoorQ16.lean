/- The end of a function whose loop ranges over an iterator in each round: one mark for each round is taken in. · Contracts of layer 2: the step back of contradiction. · Contracts of layer 2: contradiction, its rounds told plainly. · Contracts of layer 2: contradiction, what its rounds hold in memory. · Contracts of layer 2: contradiction, its ends: a step that lowers, and that going back comes round (a list of n + 1 numbers below n has two that are the same). · Contracts of layer 2: contradiction, the way back and the cycle, in memory. · Layer 2: the reference's counter and the program's, each in its box. -/
import Derived.Test.YtlelamjbfjneiaaGreatDoorQ10
import Derived.Test.YtlelamjbfjneiaaGreatDoorQ15
import Derived.Test.YtlelamjbfjneiaaGreatDoorQ14
namespace Go.Proofs.YtlelamjbfjneiaaGreatDoor.Ct
open Go Go.RowKit Go.Shelf
def marksL (Ds : List Nat) : List Deferred := Ds.map fun D => { target := .collected D, args := #[] }
theorem leaves_marks {F : Fence} {n : Nat} {P : Program} {fn : Func} {tmps : Array Value} {R : Ending → World → Prop} (B : Nat) : ∀ (Ds : List Nat) (X : World), Ds.Nodup → (∀ D, D ∈ Ds → B ≤ D ∧ X.heap[D]? = some (.deferred (some []))) →
    (∀ Y, StayC (fun _ => True) X Y → Below B X Y → LeavesIn F n P fn tmps R [] .returning Y) → LeavesInM F n P fn tmps R (marksL Ds) .returning X
  | [], X, _, _, h => h X ⟨Nat.le_refl _, fun _ _ _ h _ => h⟩ (Below.refl _ _)
  | D :: Ds, X, hn, hd, h => by
    obtain ⟨hB, hK⟩ := hd D (by simp)
    have k : StayC (fun _ => True) X (X.putObj D (.deferred none)) := ⟨by simp, fun i o _ ho hc => (World.putObj_heap_other (by intro e; subst e; rw [hK] at ho; cases ho; cases hc)).trans ho⟩
    have hb : Below B X (X.putObj D (.deferred none)) := ⟨rfl, rfl, rfl, by simp, fun i hi => World.putObj_heap_other (by omega)⟩
    refine ⟨by simp, .inl ⟨_, _, rfl, run_takeDeferred hK, ?_⟩⟩
    refine leaves_marks B Ds _ (List.nodup_cons.1 hn).2 (fun D' hD' => ?_) (fun Y h1 h2 => h Y (k.trans h1) (hb.trans h2))
    obtain ⟨h1, h2⟩ := hd D' (by simp [hD'])
    refine ⟨h1, ?_⟩
    rw [World.putObj_heap_other (by intro e; subst e; exact (List.nodup_cons.1 hn).1 hD')]
    exact h2
end Go.Proofs.YtlelamjbfjneiaaGreatDoor.Ct
namespace Go.Proofs.YtlelamjbfjneiaaGreatDoor.Ct
open Go Go.RowKit Go.Shelf
attribute [local go_sem] Oper.semAt_some
attribute [local go_sem] limit_f0 limit_f1
set_option maxRecDepth 100000 in
set_option maxHeartbeats 8000000 in
theorem back_any (n k j : Nat) (up : Bool) (B6 B3 g : Nat) (l : List Bnd) (p : Option Addr) (cap : Nat) (w : World) (h6 : w.cell? ⟨B6, 0, none⟩ = some (.slice (some ⟨g, 0, none⟩) n n)) (h3 : w.cell? ⟨B3, 0, none⟩ = some (.slice p l.length cap)) (hl : BndsIn w l p)
    (hk : k < n) (_hn : n ≤ 16) (_h240 : l.length ≤ 240) (hj : j < l.length) (x0 : w.cell? ⟨g, k * 2, none⟩ = some (.int .i64 (j : Int))) (x1 : w.cell? ⟨g, k * 2 + 1, none⟩ = some (.bool up))
    (hlo : -1000000000000000 ≤ (bndAt l j).lo ∧ (bndAt l j).lo ≤ 1000000000000000) :
    Calls Tryz.prog 79 #[.int .i64 (k : Int), .pointer (some ⟨B6, 0, none⟩), .pointer (some ⟨B3, 0, none⟩)] w fun e w' => e = .returned (.int .i64 (limOf (bndAt l j) up).s) ∧ Below w.heap.size w w' := by
  obtain ⟨pb, po, rfl, hbc⟩ := bnd_cells hl hj
  have HLO := Lib.hid hlo
  generalize bndAt l j = X1 at *
  obtain ⟨a1, b1, lo1, hi1⟩ := X1
  obtain ⟨⟨d0, d1⟩, d2, d3⟩ := hbc
  dsimp only at d0 d1 d2 d3
  have BB := below_alloc (Below.refl w.heap.size w) (.cells #[.int .i64 (j : Int), .bool up] 78)
  have HUA : Hid (UseAt (w.alloc (.cells #[.int .i64 (j : Int), .bool up] 78)) w.heap.size j up pb po a1 b1 lo1 hi1) := Lib.hid ⟨by simp, by simp, cell_below BB d0, cell_below BB d1, cell_below BB d2, cell_below BB d3⟩
  have H3 := Lib.hid (cell_below BB h3)
  have HBB := Lib.hid BB
  have hki : (k : Int) < n := by omega
  have hji : (j : Int) < l.length := by omega
  have hz6 := cell_lt h6
  have hzg := cell_lt x0
  obtain ⟨⟨lf, ls, lm⟩, hY1⟩ : ∃ y, limOf ⟨a1, b1, lo1, hi1⟩ up = y := ⟨_, rfl⟩
  have HY1 := Lib.hid hY1
  rw [hY1]
  dsimp only
  clear hY1 BB hl hlo
  go_enter Tryz.func79, Tryz.ntmps79
  go_upto_region 2 with fail
  generalize w.alloc (.cells #[.int .i64 (j : Int), .bool up] 78) = Y at *
  clear h6 h3 x0 x1 d0 d1 d2 d3 hz6 hzg
  have c3 := H3.out
  have hz3 := cell_lt c3
  obtain ⟨c0, c1, d0, d1, d2, d3⟩ := HUA.out
  have hz := cell_lt c0
  have hzd := cell_lt d0
  have hB0 : Below Y.heap.size Y Y.drew := Below.drew (Below.refl _ _)
  go_region_held3 (fun w' => Below Y.heap.size Y w' ∧ w'.cell? ⟨w.heap.size, 0, none⟩ = some (.int .i64 (j : Int)) ∧ w'.cell? ⟨w.heap.size, 1, none⟩ = some (.bool up) ∧ w'.cell? ⟨pb, po + j * 4, none⟩ = some (.int .i64 a1) ∧ w'.cell? ⟨pb, po + j * 4 + 1, none⟩ = some (.int .i64 b1) ∧ w'.cell? ⟨pb, po + j * 4 + 2, none⟩ = some (.int .i64 lo1) ∧ w'.cell? ⟨pb, po + j * 4 + 3, none⟩ = some (.int .i64 hi1) ∧ w'.cell? ⟨B3, 0, none⟩ = some (.slice (some ⟨pb, po, none⟩) l.length cap))
    (first | exact HUA.out.keepL c3 hB0 | exact HUA.out.keepL c3 hb2)
    (first | (go_at_call 80; refine (limit_bare Y ⟨a1, b1, lo1, hi1⟩ up lf ls lm HY1.out HLO.out).mono ?_; rintro e w2 ⟨rfl, hb2⟩))
  all_goals
    go_wp2_with fail
    go_ret
    exact ⟨rfl, HBB.out.trans (hb2.mono HBB.out.size)⟩
end Go.Proofs.YtlelamjbfjneiaaGreatDoor.Ct
namespace Go.Proofs.YtlelamjbfjneiaaGreatDoor.Ct
open Go Go.RowKit Go.Shelf
/-- what the rounds hold: the levels, the causes, the clock lowered last, and whether this round lowered none -/
structure Ctr where
  lev : Nat → Int
  cause : Nat → Nat × Bool
  low : Nat
  settled : Bool
def updN {α : Type} (f : Nat → α) (k : Nat) (x : α) : Nat → α := fun i => if i = k then x else f i
def kLim (l : List Bnd) (d : Nat × Bool) : Lim := limOf (bndAt l d.1) d.2
def stepK (l : List Bnd) (s : Ctr) (d : Nat × Bool) : Ctr :=
  if s.lev (kLim l d).f.toNat - s.lev (kLim l d).s.toNat ≤ (kLim l d).m then s
  else ⟨updN s.lev (kLim l d).f.toNat (s.lev (kLim l d).s.toNat + (kLim l d).m), updN s.cause (kLim l d).f.toNat d, (kLim l d).f.toNat, false⟩
def foldK (l : List Bnd) (s : Ctr) (us : List (Nat × Bool)) : Ctr := us.foldl (stepK l) s
def ctr0 : Ctr := ⟨fun _ => 0, fun _ => (0, false), 0, true⟩
def roundK (l : List Bnd) (s : Ctr) : Ctr := foldK l { s with settled := true } (useN l.length)
def roundsK (l : List Bnd) : Nat → Ctr
  | 0 => ctr0
  | t + 1 => roundK l (roundsK l t)
theorem foldK_snoc (l : List Bnd) (s : Ctr) (us : List (Nat × Bool)) (d : Nat × Bool) : foldK l s (us ++ [d]) = stepK l (foldK l s us) d := by
  unfold foldK; rw [List.foldl_append]; rfl
def LevBd (T : Int) (s : Ctr) : Prop := ∀ i, -T ≤ s.lev i ∧ s.lev i ≤ 0
theorem kLim_m {n : Nat} {l : List Bnd} (hl : LimsOk n l) (d : Nat × Bool) (hd : d.1 < l.length) : -1000000000000000 ≤ (kLim l d).m ∧ (kLim l d).m ≤ 1000000000000000 := by
  have h := hl.ok d.1 hd
  have h1 := h.lo
  have h2 := h.hi
  have h3 := h.le
  unfold kLim limOf
  split
  · unfold limUp; dsimp only; omega
  · unfold limDn; dsimp only; omega
theorem stepK_bd {n : Nat} {l : List Bnd} (hl : LimsOk n l) {s : Ctr} {T : Int} (h : LevBd T s) (_hT : 0 ≤ T) (d : Nat × Bool) (hd : d.1 < l.length) : LevBd (T + 1000000000000000) (stepK l s d) := by
  have hm := kLim_m hl d hd
  intro i
  unfold stepK
  have h1 := h (kLim l d).f.toNat
  have h2 := h (kLim l d).s.toNat
  split
  · have := h i; omega
  · dsimp only
    unfold updN
    split
    · omega
    · have := h i; omega
theorem foldK_bd {n : Nat} {l : List Bnd} (hl : LimsOk n l) : ∀ (us : List (Nat × Bool)) (s : Ctr) (T : Int), (∀ d ∈ us, d.1 < l.length) → 0 ≤ T → LevBd T s → LevBd (T + us.length * 1000000000000000) (foldK l s us)
  | [], s, T, _, _, h => by
    intro i
    have := h i
    simp only [foldK, List.foldl_nil, List.length_nil]
    omega
  | d :: us, s, T, hu, hT, h => by
    have h1 := stepK_bd hl h hT d (hu d (by simp))
    have h2 := foldK_bd hl us (stepK l s d) (T + 1000000000000000) (fun e he => hu e (by simp [he])) (by omega) h1
    intro i
    have := h2 i
    have e : foldK l s (d :: us) = foldK l (stepK l s d) us := rfl
    rw [e]
    simp only [List.length_cons]
    push_cast
    omega
theorem useN_lt : ∀ (k : Nat) (d : Nat × Bool), d ∈ useN k → d.1 < k
  | k + 1, d, h => by
    unfold useN at h
    rcases List.mem_append.1 h with h | h
    · have := useN_lt k d h; omega
    · simp at h
      rcases h with rfl | rfl <;> simp
theorem useN_len : ∀ k, (useN k).length = 2 * k
  | 0 => rfl
  | k + 1 => by
    unfold useN
    rw [List.length_append, useN_len k]
    simp; omega
theorem roundsK_bd {n : Nat} {l : List Bnd} (hl : LimsOk n l) : ∀ t : Nat, LevBd (t * (480 * 1000000000000000)) (roundsK l t)
  | 0 => by intro i; simp [roundsK, ctr0]
  | t + 1 => by
    have h := roundsK_bd hl t
    have h1 := foldK_bd hl (useN l.length) { roundsK l t with settled := true } (t * (480 * 1000000000000000)) (fun d hd => useN_lt _ d hd) (by omega) h
    intro i
    have h2 := h1 i
    have hln := hl.len
    rw [useN_len] at h2
    have e : roundsK l (t + 1) = foldK l { roundsK l t with settled := true } (useN l.length) := rfl
    rw [e]
    push_cast at h2 ⊢
    omega
end Go.Proofs.YtlelamjbfjneiaaGreatDoor.Ct
namespace Go.Proofs.YtlelamjbfjneiaaGreatDoor.Ct
open Go Go.RowKit Go.Shelf
/-- where contradiction's numbers lie -/
structure CtB where
  h : Nat
  gl : Nat
  b5 : Nat
  gc : Nat
  b6 : Nat
  b7 : Nat
  b8 : Nat
structure CtrAt (W : World) (q : CtB) (n : Nat) (l : List Bnd) (p : Option Addr) (cap : Nat) (s : Ctr) : Prop where
  b3 : W.cell? ⟨q.h, 0, none⟩ = some (.slice p l.length cap)
  b5 : W.cell? ⟨q.b5, 0, none⟩ = some (.slice (some ⟨q.gl, 0, none⟩) n n)
  b6 : W.cell? ⟨q.b6, 0, none⟩ = some (.slice (some ⟨q.gc, 0, none⟩) n n)
  lev : ∀ i, i < n → W.cell? ⟨q.gl, i, none⟩ = some (.int .i64 (s.lev i)) ∧ W.frozen? ⟨q.gl, i, none⟩ = false
  cau : ∀ i, i < n → (W.cell? ⟨q.gc, i * 2, none⟩ = some (.int .i64 ((s.cause i).1 : Int)) ∧ W.frozen? ⟨q.gc, i * 2, none⟩ = false) ∧ (W.cell? ⟨q.gc, i * 2 + 1, none⟩ = some (.bool (s.cause i).2) ∧ W.frozen? ⟨q.gc, i * 2 + 1, none⟩ = false)
  low : W.cell? ⟨q.b7, 0, none⟩ = some (.int .i64 (s.low : Int)) ∧ W.frozen? ⟨q.b7, 0, none⟩ = false
  set_ : W.cell? ⟨q.b8, 0, none⟩ = some (.bool s.settled) ∧ W.frozen? ⟨q.b8, 0, none⟩ = false
  gt : q.h < q.gl ∧ q.gl < q.b5 ∧ q.b5 < q.gc ∧ q.gc < q.b6 ∧ q.b6 < q.b7 ∧ q.b7 < q.b8
  bnds : l.length = 0 ∨ ∃ b o, b < q.h ∧ p = some ⟨b, o, none⟩ ∧ ∀ i, i < l.length → BndCells W b (o + i * 4) (bndAt l i)
/-- a cell and that it may be written -/
def Own2 (W : World) (b o : Nat) (v : Value) : Prop := W.cell? ⟨b, o, none⟩ = some v ∧ W.frozen? ⟨b, o, none⟩ = false
theorem Own2.set {W : World} {b o : Nat} {u v : Value} (h : Own2 W b o u) : Own2 (W.setCell ⟨b, o, none⟩ v) b o v := ⟨World.cell?_setCell_same _ _ _ h.1, by rw [World.frozen?_setCell]; exact h.2⟩
theorem Own2.other {W : World} {b o b' o' : Nat} {u v : Value} (h : Own2 W b o u) (hne : b' ≠ b ∨ o' ≠ o) : Own2 (W.setCell ⟨b', o', none⟩ v) b o u :=
  ⟨by rw [World.cell?_setCell_other _ ⟨b', o', none⟩ ⟨b, o, none⟩ _ (fun e => by cases e; rcases hne with h | h <;> exact h rfl)]; exact h.1, by rw [World.frozen?_setCell]; exact h.2⟩
theorem BndCells.far {W : World} {b o b' o' : Nat} {x : Bnd} {v : Value} (h : BndCells W b o x) (hne : b' ≠ b) : BndCells (W.setCell ⟨b', o', none⟩ v) b o x :=
  h.of (fun e => by rw [World.cell?_setCell_far _ _ _ _ hne]; exact e)
theorem CtrAt.setLev {W : World} {q : CtB} {n : Nat} {l : List Bnd} {p : Option Addr} {cap : Nat} {s : Ctr} (H : CtrAt W q n l p cap s) {k : Nat} (hk : k < n) (x : Int) :
    CtrAt (W.setCell ⟨q.gl, k, none⟩ (.int .i64 x)) q n l p cap { s with lev := updN s.lev k x } := by
  have hg := H.gt
  have f : ∀ {b o : Nat} {v : Value}, b ≠ q.gl → W.cell? ⟨b, o, none⟩ = some v → (W.setCell ⟨q.gl, k, none⟩ (.int .i64 x)).cell? ⟨b, o, none⟩ = some v := fun {b o v} hb e => by
    rw [World.cell?_setCell_far _ _ _ _ (by show q.gl ≠ b; omega)]; exact e
  have g : ∀ {a : Addr}, W.frozen? a = false → (W.setCell ⟨q.gl, k, none⟩ (.int .i64 x)).frozen? a = false := fun e => by rw [World.frozen?_setCell]; exact e
  refine ⟨f (by omega) H.b3, f (by omega) H.b5, f (by omega) H.b6, fun i hi => ?_, fun i hi => ?_, ⟨f (by omega) H.low.1, g H.low.2⟩, ⟨f (by omega) H.set_.1, g H.set_.2⟩, hg, ?_⟩
  · by_cases e : i = k
    · subst e
      show Own2 _ _ _ (.int .i64 (updN s.lev i x i))
      rw [show updN s.lev i x i = x from if_pos rfl]
      exact Own2.set (H.lev i hi)
    · show Own2 _ _ _ (.int .i64 (updN s.lev k x i))
      rw [show updN s.lev k x i = s.lev i from if_neg e]
      exact Own2.other (H.lev i hi) (.inr (Ne.symm e))
  · exact ⟨⟨f (by omega) (H.cau i hi).1.1, g (H.cau i hi).1.2⟩, ⟨f (by omega) (H.cau i hi).2.1, g (H.cau i hi).2.2⟩⟩
  · exact H.bnds.imp id fun ⟨b, o, hb, e, hi⟩ => ⟨b, o, hb, e, fun i hi' => (hi i hi').far (by omega)⟩
theorem CtrAt.setCau {W : World} {q : CtB} {n : Nat} {l : List Bnd} {p : Option Addr} {cap : Nat} {s : Ctr} (H : CtrAt W q n l p cap s) {k : Nat} (hk : k < n) (d : Nat × Bool) :
    CtrAt ((W.setCell ⟨q.gc, k * 2, none⟩ (.int .i64 (d.1 : Int))).setCell ⟨q.gc, k * 2 + 1, none⟩ (.bool d.2)) q n l p cap { s with cause := updN s.cause k d } := by
  have hg := H.gt
  have f : ∀ {b o : Nat} {v : Value}, b ≠ q.gc → W.cell? ⟨b, o, none⟩ = some v → ((W.setCell ⟨q.gc, k * 2, none⟩ (.int .i64 (d.1 : Int))).setCell ⟨q.gc, k * 2 + 1, none⟩ (.bool d.2)).cell? ⟨b, o, none⟩ = some v := fun {b o v} hb e => by
    rw [World.cell?_setCell_far _ _ _ _ (by show q.gc ≠ b; omega), World.cell?_setCell_far _ _ _ _ (by show q.gc ≠ b; omega)]; exact e
  have g : ∀ {a : Addr}, W.frozen? a = false → ((W.setCell ⟨q.gc, k * 2, none⟩ (.int .i64 (d.1 : Int))).setCell ⟨q.gc, k * 2 + 1, none⟩ (.bool d.2)).frozen? a = false := fun e => by rw [World.frozen?_setCell, World.frozen?_setCell]; exact e
  refine ⟨f (by omega) H.b3, f (by omega) H.b5, f (by omega) H.b6, fun i hi => ⟨f (by omega) (H.lev i hi).1, g (H.lev i hi).2⟩, fun i hi => ?_, ⟨f (by omega) H.low.1, g H.low.2⟩, ⟨f (by omega) H.set_.1, g H.set_.2⟩, hg, ?_⟩
  · by_cases e : i = k
    · subst e
      show Own2 _ _ _ (.int .i64 ((updN s.cause i d i).1 : Int)) ∧ Own2 _ _ _ (.bool (updN s.cause i d i).2)
      rw [show updN s.cause i d i = d from if_pos rfl]
      exact ⟨(Own2.set (H.cau i hi).1).other (.inr (by omega)), Own2.set (Own2.other (H.cau i hi).2 (.inr (by omega)))⟩
    · show Own2 _ _ _ (.int .i64 ((updN s.cause k d i).1 : Int)) ∧ Own2 _ _ _ (.bool (updN s.cause k d i).2)
      rw [show updN s.cause k d i = s.cause i from if_neg e]
      exact ⟨(Own2.other (H.cau i hi).1 (.inr (by omega))).other (.inr (by omega)), (Own2.other (H.cau i hi).2 (.inr (by omega))).other (.inr (by omega))⟩
  · exact H.bnds.imp id fun ⟨b, o, hb, e, hi⟩ => ⟨b, o, hb, e, fun i hi' => ((hi i hi').far (by omega)).far (by omega)⟩
theorem CtrAt.setLow {W : World} {q : CtB} {n : Nat} {l : List Bnd} {p : Option Addr} {cap : Nat} {s : Ctr} (H : CtrAt W q n l p cap s) (k : Nat) :
    CtrAt ((W.setCell ⟨q.b7, 0, none⟩ (.int .i64 (k : Int))).setCell ⟨q.b8, 0, none⟩ (.bool false)) q n l p cap { s with low := k, settled := false } := by
  have hg := H.gt
  have f : ∀ {b o : Nat} {v : Value}, b ≠ q.b7 → b ≠ q.b8 → W.cell? ⟨b, o, none⟩ = some v → ((W.setCell ⟨q.b7, 0, none⟩ (.int .i64 (k : Int))).setCell ⟨q.b8, 0, none⟩ (.bool false)).cell? ⟨b, o, none⟩ = some v := fun {b o v} hb hb' e => by
    rw [World.cell?_setCell_far _ _ _ _ (by show q.b8 ≠ b; omega), World.cell?_setCell_far _ _ _ _ (by show q.b7 ≠ b; omega)]; exact e
  have g : ∀ {a : Addr}, W.frozen? a = false → ((W.setCell ⟨q.b7, 0, none⟩ (.int .i64 (k : Int))).setCell ⟨q.b8, 0, none⟩ (.bool false)).frozen? a = false := fun e => by rw [World.frozen?_setCell, World.frozen?_setCell]; exact e
  refine ⟨f (by omega) (by omega) H.b3, f (by omega) (by omega) H.b5, f (by omega) (by omega) H.b6, fun i hi => ⟨f (by omega) (by omega) (H.lev i hi).1, g (H.lev i hi).2⟩,
    fun i hi => ⟨⟨f (by omega) (by omega) (H.cau i hi).1.1, g (H.cau i hi).1.2⟩, ⟨f (by omega) (by omega) (H.cau i hi).2.1, g (H.cau i hi).2.2⟩⟩, ?_, ?_, hg, ?_⟩
  · exact Own2.other (Own2.set H.low) (.inl (by omega))
  · exact Own2.set (Own2.other H.set_ (.inl (by omega)))
  · exact H.bnds.imp id fun ⟨b, o, hb, e, hi⟩ => ⟨b, o, hb, e, fun i hi' => ((hi i hi').far (by omega)).far (by omega)⟩
/-- the world where a clock has been lowered -/
def lowW (W : World) (q : CtB) (k : Nat) (x : Int) (d : Nat × Bool) : World :=
  ((((W.setCell ⟨q.gl, k, none⟩ (.int .i64 x)).setCell ⟨q.gc, k * 2, none⟩ (.int .i64 (d.1 : Int))).setCell ⟨q.gc, k * 2 + 1, none⟩ (.bool d.2)).setCell ⟨q.b7, 0, none⟩ (.int .i64 (k : Int))).setCell ⟨q.b8, 0, none⟩ (.bool false)
theorem CtrAt.step {W : World} {q : CtB} {n : Nat} {l : List Bnd} {p : Option Addr} {cap : Nat} {s : Ctr} (H : CtrAt W q n l p cap s) (d : Nat × Bool) (hf : (kLim l d).f.toNat < n)
    (hgt : ¬ (s.lev (kLim l d).f.toNat - s.lev (kLim l d).s.toNat ≤ (kLim l d).m)) :
    CtrAt (lowW W q (kLim l d).f.toNat (s.lev (kLim l d).s.toNat + (kLim l d).m) d) q n l p cap (stepK l s d) := by
  rw [show stepK l s d = ⟨updN s.lev (kLim l d).f.toNat (s.lev (kLim l d).s.toNat + (kLim l d).m), updN s.cause (kLim l d).f.toNat d, (kLim l d).f.toNat, false⟩ from if_neg hgt]
  exact ((H.setLev hf _).setCau hf d).setLow _
theorem stepK_same {l : List Bnd} {s : Ctr} {d : Nat × Bool} (hle : s.lev (kLim l d).f.toNat - s.lev (kLim l d).s.toNat ≤ (kLim l d).m) : stepK l s d = s := if_pos hle
theorem low_keeps (W : World) (q : CtB) (k : Nat) (x : Int) (d : Nat × Bool) (B : Nat) : KeepsFrom B W (lowW W q k x d) :=
  (((((KeepsOthers.setCell _ _ _).trans (KeepsOthers.setCell _ _ _)).trans (KeepsOthers.setCell _ _ _)).trans (KeepsOthers.setCell _ _ _)).trans (KeepsOthers.setCell _ _ _)).from _
theorem low_stay {f : Nat → Prop} (W : World) (q : CtB) (k : Nat) (x : Int) (d : Nat × Bool) (hf : ∀ i, f i → i ≠ q.gl ∧ i ≠ q.gc ∧ i ≠ q.b7 ∧ i ≠ q.b8) : StayC f W (lowW W q k x d) :=
  ⟨by simp [lowW], fun i o hi e _ => by
    obtain ⟨h1, h2, h3, h4⟩ := hf i hi
    unfold lowW
    rw [Below.heap_setCell _ _ _ _ h4, Below.heap_setCell _ _ _ _ h3, Below.heap_setCell _ _ _ _ h2, Below.heap_setCell _ _ _ _ h2, Below.heap_setCell _ _ _ _ h1]
    exact e⟩
theorem low_below {w W : World} (hb : Below w.heap.size w W) (q : CtB) (k : Nat) (x : Int) (d : Nat × Bool) (h1 : w.heap.size ≤ q.gl) (h2 : w.heap.size ≤ q.gc) (h3 : w.heap.size ≤ q.b7) (h4 : w.heap.size ≤ q.b8) : Below w.heap.size w (lowW W q k x d) :=
  ((((hb.setCell (p := ⟨q.gl, k, none⟩) h1 _).setCell (p := ⟨q.gc, k * 2, none⟩) h2 _).setCell (p := ⟨q.gc, k * 2 + 1, none⟩) h2 _).setCell (p := ⟨q.b7, 0, none⟩) h3 _).setCell (p := ⟨q.b8, 0, none⟩) h4 _
theorem CtrAt.below {W Y : World} {q : CtB} {n : Nat} {l : List Bnd} {p : Option Addr} {cap : Nat} {s : Ctr} (H : CtrAt W q n l p cap s) (hb : Below W.heap.size W Y) : CtrAt Y q n l p cap s := by
  have g : ∀ {b o : Nat} {v : Value}, Own2 W b o v → Own2 Y b o v := fun {b o v} e => ⟨cell_below hb e.1, (hb.frozen (p := ⟨b, o, none⟩) (cell_lt e.1)).trans e.2⟩
  exact ⟨cell_below hb H.b3, cell_below hb H.b5, cell_below hb H.b6, fun i hi => g (H.lev i hi), fun i hi => ⟨g (H.cau i hi).1, g (H.cau i hi).2⟩, g H.low, g H.set_, H.gt, H.bnds.imp id fun ⟨b, o, h1, e, hi⟩ => ⟨b, o, h1, e, fun i hi' => (hi i hi').of (cell_below hb)⟩⟩
theorem CtrAt.stay {W Y : World} {q : CtB} {n : Nat} {l : List Bnd} {p : Option Addr} {cap : Nat} {s : Ctr} (H : CtrAt W q n l p cap s) (k : StayC (fun _ => True) W Y) : CtrAt Y q n l p cap s := by
  have g : ∀ {b o : Nat} {v : Value}, Own2 W b o v → Own2 Y b o v := fun {b o v} e => by
    obtain ⟨ob, h1, h2⟩ := cells_of_cell e.1
    exact ⟨k.cell trivial e.1, (World.frozen?_of_block (a := ⟨b, o, none⟩) ((k.2 b ob trivial h1 h2).trans h1.symm)).trans e.2⟩
  exact ⟨k.cell trivial H.b3, k.cell trivial H.b5, k.cell trivial H.b6, fun i hi => g (H.lev i hi), fun i hi => ⟨g (H.cau i hi).1, g (H.cau i hi).2⟩, g H.low, g H.set_, H.gt, H.bnds.imp id fun ⟨b, o, h1, e, hi⟩ => ⟨b, o, h1, e, fun i hi' => (hi i hi').of (k.cell trivial)⟩⟩
/-- between the rounds: the box of 'settled' is made anew in each -/
structure CtrB (W : World) (q : CtB) (n : Nat) (l : List Bnd) (p : Option Addr) (cap : Nat) (s : Ctr) : Prop where
  b3 : W.cell? ⟨q.h, 0, none⟩ = some (.slice p l.length cap)
  b5 : W.cell? ⟨q.b5, 0, none⟩ = some (.slice (some ⟨q.gl, 0, none⟩) n n)
  b6 : W.cell? ⟨q.b6, 0, none⟩ = some (.slice (some ⟨q.gc, 0, none⟩) n n)
  lev : ∀ i, i < n → Own2 W q.gl i (.int .i64 (s.lev i))
  cau : ∀ i, i < n → Own2 W q.gc (i * 2) (.int .i64 ((s.cause i).1 : Int)) ∧ Own2 W q.gc (i * 2 + 1) (.bool (s.cause i).2)
  low : Own2 W q.b7 0 (.int .i64 (s.low : Int))
  gt : q.h < q.gl ∧ q.gl < q.b5 ∧ q.b5 < q.gc ∧ q.gc < q.b6 ∧ q.b6 < q.b7 ∧ q.b7 < W.heap.size
  bnds : l.length = 0 ∨ ∃ b o, b < q.h ∧ p = some ⟨b, o, none⟩ ∧ ∀ i, i < l.length → BndCells W b (o + i * 4) (bndAt l i)
theorem Own2.below {W Y : World} {b o : Nat} {v : Value} (e : Own2 W b o v) (hb : Below W.heap.size W Y) : Own2 Y b o v := ⟨cell_below hb e.1, (hb.frozen (p := ⟨b, o, none⟩) (cell_lt e.1)).trans e.2⟩
theorem Own2.new (W : World) (v : Value) (t : TypeId) : Own2 (W.alloc (.cells #[v] t)) W.heap.size 0 v := ⟨by simp, by simp⟩
/-- a round begins -/
theorem CtrB.round {W : World} {q : CtB} {n : Nat} {l : List Bnd} {p : Option Addr} {cap : Nat} {s : Ctr} (H : CtrB W q n l p cap s) (t : TypeId) :
    CtrAt (W.alloc (.cells #[.bool true] t)) { q with b8 := W.heap.size } n l p cap { s with settled := true } := by
  have hb := (Below.refl W.heap.size W).alloc (Nat.le_refl _) (.cells #[.bool true] t)
  exact ⟨cell_below hb H.b3, cell_below hb H.b5, cell_below hb H.b6, fun i hi => (H.lev i hi).below hb, fun i hi => ⟨(H.cau i hi).1.below hb, (H.cau i hi).2.below hb⟩, H.low.below hb, Own2.new _ _ _, H.gt,
    H.bnds.imp id fun ⟨b, o, h1, e, hi⟩ => ⟨b, o, h1, e, fun i hi' => (hi i hi').of (cell_below hb)⟩⟩
/-- a round ends -/
theorem CtrAt.base {W : World} {q : CtB} {n : Nat} {l : List Bnd} {p : Option Addr} {cap : Nat} {s : Ctr} (H : CtrAt W q n l p cap s) : CtrB W q n l p cap s :=
  ⟨H.b3, H.b5, H.b6, H.lev, H.cau, H.low, by have := H.gt; have := cell_lt H.set_.1; exact ⟨by omega, by omega, by omega, by omega, by omega, by omega⟩, H.bnds⟩
end Go.Proofs.YtlelamjbfjneiaaGreatDoor.Ct
namespace Go.Proofs.YtlelamjbfjneiaaGreatDoor.Ct
open Go Go.RowKit Go.Shelf
theorem pigeon : ∀ (n : Nat) (f : Nat → Nat), (∀ i, i ≤ n → f i < n) → ∃ i j, i < j ∧ j ≤ n ∧ f i = f j
  | 0, f, h => absurd (h 0 (Nat.le_refl 0)) (by omega)
  | n + 1, f, h => by
    by_cases he : ∃ i, i ≤ n ∧ f i = f (n + 1)
    · obtain ⟨i, hi, e⟩ := he
      exact ⟨i, n + 1, by omega, Nat.le_refl _, e⟩
    · have hne : ∀ i, i ≤ n → f i ≠ f (n + 1) := fun i hi e => he ⟨i, hi, e⟩
      have hv := h (n + 1) (Nat.le_refl _)
      obtain ⟨i, j, hij, hj, e⟩ := pigeon n (fun i => if f i < f (n + 1) then f i else f i - 1) (fun i hi => by
        have h1 := h i (by omega)
        have h2 := hne i hi
        split <;> omega)
      have h1 := hne i (by omega)
      have h2 := hne j hj
      refine ⟨i, j, hij, by omega, ?_⟩
      split at e <;> split at e <;> omega
def itN (f : Nat → Nat) : Nat → Nat → Nat
  | 0, x => x
  | m + 1, x => f (itN f m x)
theorem itN_add (f : Nat → Nat) (x : Nat) (b : Nat) : ∀ a, itN f (a + b) x = itN f a (itN f b x)
  | 0 => by rw [Nat.zero_add]; rfl
  | a + 1 => by rw [Nat.succ_add]; show f (itN f (a + b) x) = f (itN f a (itN f b x)); rw [itN_add f x b a]
theorem itN_lt {f : Nat → Nat} {n : Nat} (hf : ∀ k, k < n → f k < n) {x : Nat} (hx : x < n) : ∀ m, itN f m x < n
  | 0 => hx
  | m + 1 => hf _ (itN_lt hf hx m)
theorem itN_comes {f : Nat → Nat} {n : Nat} (hf : ∀ k, k < n → f k < n) {x : Nat} (hx : x < n) : ∃ c, 1 ≤ c ∧ c ≤ n ∧ itN f c (itN f n x) = itN f n x := by
  obtain ⟨i, j, hij, hj, e⟩ := pigeon n (fun i => itN f i x) (fun i _ => itN_lt hf hx i)
  refine ⟨j - i, by omega, by omega, ?_⟩
  rw [← itN_add, show j - i + n = (n - i) + j by omega, itN_add, ← e, ← itN_add, show n - i + i = n by omega]
theorem low_all {w Y W' : World} {RS : Nat} {q : CtB} {n : Nat} {l : List Bnd} {p : Option Addr} {cap : Nat} {S : Ctr} {d : Nat × Bool} {x : Nat} {v : Int} {Ds : List Nat} {f : Nat → Prop}
    (hI : CtrAt Y q n l p cap S) (hkf : KeepsFrom RS W' (lowW Y q x v d)) (hst : StayC f W' Y) (hf : ∀ i, f i → i ≠ q.gl ∧ i ≠ q.gc ∧ i ≠ q.b7 ∧ i ≠ q.b8)
    (hB : Below w.heap.size w Y) (hq : w.heap.size ≤ q.gl) (hS : RS ≤ Y.heap.size) (hM : ∀ D, D ∈ Ds → Y.heap[D]? = some (.deferred (some [])))
    (hx : (kLim l d).f.toNat = x) (hxn : x < n) (hv : S.lev (kLim l d).s.toNat + (kLim l d).m = v) (hgt : ¬ S.lev (kLim l d).f.toNat - S.lev (kLim l d).s.toNat ≤ (kLim l d).m) :
    KeepsFrom RS W' (lowW Y q x v d) ∧ StayC f W' (lowW Y q x v d) ∧ CtrAt (lowW Y q x v d) q n l p cap (stepK l S d) ∧ Below w.heap.size w (lowW Y q x v d) ∧ RS ≤ (lowW Y q x v d).heap.size ∧ ∀ D, D ∈ Ds → (lowW Y q x v d).heap[D]? = some (.deferred (some [])) := by
  have hg := hI.gt
  have ne : ∀ {b o : Nat} {u : Value}, Y.cell? ⟨b, o, none⟩ = some u → ∀ D, D ∈ Ds → D ≠ b := by
    intro b o u hc D hD e
    subst e
    obtain ⟨ob, h1, h2⟩ := cells_of_cell hc
    rw [hM D hD] at h1
    cases h1
    cases h2
  have n1 := ne (hI.lev x hxn).1
  have n2 := ne (hI.cau x hxn).1.1
  have n3 := ne hI.low.1
  have n4 := ne hI.set_.1
  have hsz : (lowW Y q x v d).heap.size = Y.heap.size := by simp [lowW]
  refine ⟨hkf, hst.trans (low_stay Y q x v d hf), ?_, low_below hB q x v d hq (by omega) (by omega) (by omega), by omega, fun D hD => ?_⟩
  · have := hI.step d (by omega) hgt
    rwa [hx, hv] at this
  · unfold lowW
    rw [Below.heap_setCell _ _ _ _ (n4 D hD), Below.heap_setCell _ _ _ _ (n3 D hD), Below.heap_setCell _ _ _ _ (n2 D hD), Below.heap_setCell _ _ _ _ (n2 D hD), Below.heap_setCell _ _ _ _ (n1 D hD)]
    exact hM D hD
theorem kLim_in {n : Nat} {l : List Bnd} (hl : LimsOk n l) (d : Nat × Bool) (hd : d.1 < l.length) : (kLim l d).f.toNat < n ∧ (kLim l d).s.toNat < n := by
  obtain ⟨x, y, mm, hxy, hx, hy⟩ := uix_bd hl ⟨d, hd⟩
  have e : kLim l d = uixLim l ⟨d, hd⟩ := rfl
  rw [e, hxy]
  exact ⟨by simpa using hx, by simpa using hy⟩
/-- the clock that a clock was lowered by -/
def backK (l : List Bnd) (s : Ctr) (k : Nat) : Nat := (kLim l (s.cause k)).s.toNat
/-- the causes that are met going back c times -/
def cycK (l : List Bnd) (s : Ctr) (k c : Nat) : List (Int × Bool) := (List.range c).map fun i => (((s.cause (itN (backK l s) i k)).1 : Int), (s.cause (itN (backK l s) i k)).2)
theorem cycK_len (l : List Bnd) (s : Ctr) (k c : Nat) : (cycK l s k c).length = c := by simp [cycK]
theorem cycK_at (l : List Bnd) (s : Ctr) (k c : Nat) {i : Nat} (hi : i < c) : useAt (cycK l s k c) i = (((s.cause (itN (backK l s) i k)).1 : Int), (s.cause (itN (backK l s) i k)).2) := by
  simp [useAt, cycK, hi]
/-- what contradiction answers -/
def ConOf (n : Nat) (l : List Bnd) (u : List (Int × Bool)) : Prop :=
  (u = [] ∧ ∃ t, t < n ∧ (roundsK l (t + 1)).settled = true) ∨
  ((∀ t, t < n → (roundsK l (t + 1)).settled = false) ∧ ∃ k c, k = itN (backK l (roundsK l n)) n (roundsK l n).low ∧ 1 ≤ c ∧ c ≤ n ∧ itN (backK l (roundsK l n)) c k = k ∧ (∀ i, 1 ≤ i → i < c → itN (backK l (roundsK l n)) i k ≠ k) ∧ u = cycK l (roundsK l n) k c)
/-- causes and the clock lowered last are such as there are -/
def CauIn (n N : Nat) (s : Ctr) : Prop := s.low < n ∧ ∀ k, (s.cause k).1 < N
theorem stepK_in {n : Nat} {l : List Bnd} (hl : LimsOk n l) {s : Ctr} (h : CauIn n l.length s) (d : Nat × Bool) (hd : d.1 < l.length) : CauIn n l.length (stepK l s d) := by
  unfold stepK
  split
  · exact h
  · refine ⟨?_, fun k => ?_⟩
    · have := kLim_in hl d hd
      exact this.1
    · dsimp only
      unfold updN
      split
      · exact hd
      · exact h.2 k
theorem foldK_in {n : Nat} {l : List Bnd} (hl : LimsOk n l) : ∀ (us : List (Nat × Bool)) (s : Ctr), (∀ d ∈ us, d.1 < l.length) → CauIn n l.length s → CauIn n l.length (foldK l s us)
  | [], _, _, h => h
  | d :: us, s, hu, h => foldK_in hl us (stepK l s d) (fun e he => hu e (by simp [he])) (stepK_in hl h d (hu d (by simp)))
theorem roundsK_in {n : Nat} {l : List Bnd} (hl : LimsOk n l) (hn : 1 ≤ n) (h0 : 0 < l.length) : ∀ t : Nat, CauIn n l.length (roundsK l t)
  | 0 => ⟨hn, fun _ => h0⟩
  | t + 1 => foldK_in hl (useN l.length) { roundsK l t with settled := true } (fun d hd => useN_lt _ d hd) (roundsK_in hl hn h0 t)
theorem backK_lt {n : Nat} {l : List Bnd} (hl : LimsOk n l) {s : Ctr} (h : CauIn n l.length s) (k : Nat) : backK l s k < n := (kLim_in hl _ (h.2 k)).2
end Go.Proofs.YtlelamjbfjneiaaGreatDoor.Ct
namespace Go.Proofs.YtlelamjbfjneiaaGreatDoor.Ct
open Go Go.RowKit Go.Shelf
theorem CtrB.below {W Y : World} {q : CtB} {n : Nat} {l : List Bnd} {p : Option Addr} {cap : Nat} {s : Ctr} (H : CtrB W q n l p cap s) (hb : Below W.heap.size W Y) : CtrB Y q n l p cap s :=
  ⟨cell_below hb H.b3, cell_below hb H.b5, cell_below hb H.b6, fun i hi => (H.lev i hi).below hb, fun i hi => ⟨(H.cau i hi).1.below hb, (H.cau i hi).2.below hb⟩, H.low.below hb,
    by have := H.gt; have := hb.size; exact ⟨by omega, by omega, by omega, by omega, by omega, by omega⟩, H.bnds.imp id fun ⟨b, o, h1, e, hi⟩ => ⟨b, o, h1, e, fun i hi' => (hi i hi').of (cell_below hb)⟩⟩
theorem CtrB.setLow {W : World} {q : CtB} {n : Nat} {l : List Bnd} {p : Option Addr} {cap : Nat} {s : Ctr} (H : CtrB W q n l p cap s) (k : Nat) :
    CtrB (W.setCell ⟨q.b7, 0, none⟩ (.int .i64 (k : Int))) q n l p cap { s with low := k } := by
  have hg := H.gt
  have f : ∀ {b o : Nat} {v : Value}, b ≠ q.b7 → W.cell? ⟨b, o, none⟩ = some v → (W.setCell ⟨q.b7, 0, none⟩ (.int .i64 (k : Int))).cell? ⟨b, o, none⟩ = some v := fun {b o v} hb e => by
    rw [World.cell?_setCell_far _ _ _ _ (by show q.b7 ≠ b; omega)]; exact e
  refine ⟨f (by omega) H.b3, f (by omega) H.b5, f (by omega) H.b6, fun i hi => Own2.other (H.lev i hi) (.inl (by omega)), fun i hi => ⟨Own2.other (H.cau i hi).1 (.inl (by omega)), Own2.other (H.cau i hi).2 (.inl (by omega))⟩, Own2.set H.low, ?_, ?_⟩
  · have e : (W.setCell ⟨q.b7, 0, none⟩ (.int .i64 (k : Int))).heap.size = W.heap.size := by simp
    rw [e]; exact hg
  · exact H.bnds.imp id fun ⟨b, o, hb, e, hi⟩ => ⟨b, o, hb, e, fun i hi' => (hi i hi').far (by omega)⟩
theorem UsesIn.stay {A B : World} {u : List (Int × Bool)} {p : Option Addr} (h : UsesIn A u p) (k : StayC (fun _ => True) A B) : UsesIn B u p :=
  h.imp id fun ⟨b, o, e, hi⟩ => ⟨b, o, e, fun i h' => ⟨k.cell trivial (hi i h').1, k.cell trivial (hi i h').2⟩⟩
theorem CtrB.bin {W : World} {q : CtB} {n : Nat} {l : List Bnd} {p : Option Addr} {cap : Nat} {s : Ctr} (H : CtrB W q n l p cap s) : BndsIn W l p := H.bnds.imp id fun ⟨b, o, _, e, hi⟩ => ⟨b, o, e, hi⟩
theorem kLim_pos {n : Nat} {l : List Bnd} (hl : LimsOk n l) (d : Nat × Bool) (hd : d.1 < l.length) : ((kLim l d).s.toNat : Int) = (kLim l d).s ∧ ((kLim l d).f.toNat : Int) = (kLim l d).f := by
  obtain ⟨x, y, mm, hxy, hx, hy⟩ := uix_bd hl ⟨d, hd⟩
  have e : kLim l d = uixLim l ⟨d, hd⟩ := rfl
  rw [e, hxy]
  exact ⟨by simp, by simp⟩
theorem back_at {W : World} {q : CtB} {n : Nat} {l : List Bnd} {p : Option Addr} {cap : Nat} {s : Ctr} (H : CtrB W q n l p cap s) (hl : LimsOk n l) (hn : n ≤ 16) (hc : ∀ k, (s.cause k).1 < l.length) {k : Nat} (hk : k < n) :
    Calls Tryz.prog 79 #[.int .i64 (k : Int), .pointer (some ⟨q.b6, 0, none⟩), .pointer (some ⟨q.h, 0, none⟩)] W fun e w' => e = .returned (.int .i64 ((backK l s k : Nat) : Int)) ∧ Below W.heap.size W w' := by
  have h := back_any n k (s.cause k).1 (s.cause k).2 q.b6 q.h q.gc l p cap W H.b6 H.b3 H.bin hk hn hl.len (hc k) (H.cau k hk).1.1 (H.cau k hk).2.1 (hl.ok _ (hc k)).lo
  rw [show ((backK l s k : Nat) : Int) = (limOf (bndAt l (s.cause k).1) (s.cause k).2).s from (kLim_pos hl _ (hc k)).1]
  exact h
/-- the marks of the rounds -/
def MkAt (W : World) (Ds : List Nat) : Prop := ∀ D, D ∈ Ds → W.heap[D]? = some (.deferred (some []))
theorem MkAt.below {W Y : World} {Ds : List Nat} (h : MkAt W Ds) (hb : Below W.heap.size W Y) : MkAt Y Ds := fun D hD => (hb.block D (Array.getElem?_eq_some_iff.1 (h D hD)).1).trans (h D hD)
theorem MkAt.set {W : World} {Ds : List Nat} {b o : Nat} {u : Value} (h : MkAt W Ds) (hc : W.cell? ⟨b, o, none⟩ = some u) (v : Value) : MkAt (W.setCell ⟨b, o, none⟩ v) Ds := fun D hD => by
  have hne : D ≠ b := by
    intro e
    subst e
    obtain ⟨ob, h1, h2⟩ := cells_of_cell hc
    rw [h D hD] at h1
    cases h1
    cases h2
  rw [Below.heap_setCell _ _ _ _ hne]
  exact h D hD
def useCells (u : List (Int × Bool)) : List Value := u.flatMap fun d => [.int .i64 d.1, .bool d.2]
theorem useCells_snoc (u : List (Int × Bool)) (d : Int × Bool) : useCells (u ++ [d]) = useCells u ++ [.int .i64 d.1, .bool d.2] := by simp [useCells]
theorem useCells_at : ∀ (u : List (Int × Bool)) (i : Nat), i < u.length → (useCells u)[i * 2]? = some (.int .i64 (useAt u i).1) ∧ (useCells u)[i * 2 + 1]? = some (.bool (useAt u i).2)
  | [], i, h => absurd h (Nat.not_lt_zero i)
  | d :: u, 0, _ => by simp [useCells, useAt]
  | d :: u, i + 1, h => by
    have := useCells_at u i (by simpa using h)
    have e : useCells (d :: u) = .int .i64 d.1 :: .bool d.2 :: useCells u := by simp [useCells]
    have e2 : useAt (d :: u) (i + 1) = useAt u i := by simp [useAt]
    rw [e, e2, show (i + 1) * 2 = i * 2 + 1 + 1 by omega]
    simpa using this
/-- the cycle as it is collected -/
structure CycAt (W3 X : World) (v : Value) (u : List (Int × Bool)) : Prop where
  own : X.ownsRow W3.heap.size 78 2 v u.length (useCells u)
  bel : Below W3.heap.size W3 X
theorem CycAt.below {W3 X Y : World} {v : Value} {u : List (Int × Bool)} (h : CycAt W3 X v u) (hb : Below X.heap.size X Y) : CycAt W3 Y v u :=
  ⟨World.ownsRow.kept h.own (grown_below hb) (by cases e : v.ownBlock with | none => exact .inl rfl | some k => exact .inr (by simp)), h.bel.trans (hb.mono h.bel.size)⟩
theorem CycAt.more {W3 X Y : World} {v v' : Value} {u : List (Int × Bool)} {j : Int} {b : Bool} {o : Obj} (h : CycAt W3 X v u) (hown : Y.ownsRow W3.heap.size 78 2 v' (u.length + 1) (useCells u ++ [.int .i64 j, .bool b])) (hg : (X.alloc o).grownBy Y v.ownBlock) : CycAt W3 Y v' (u ++ [(j, b)]) :=
  ⟨by rw [useCells_snoc, List.length_append]; exact hown, (h.bel.alloc h.bel.size o).grown hg (by have := h.bel.size; simp; omega) (fun k hk => (World.ownsRow.lt h.own k hk).1)⟩
theorem CycAt.new (W3 : World) (j : Int) (b : Bool) : CycAt W3 (W3.alloc (.cells #[.int .i64 j, .bool b] 78)) (.slice (some ⟨W3.heap.size, 0, none⟩) 1 1) [(j, b)] :=
  ⟨⟨rfl, .inr ⟨W3.heap.size, 1, #[.int .i64 j, .bool b], rfl, Nat.le_refl _, by show (W3.heap.push _)[W3.heap.size]? = _; simp, Nat.le_refl _, by decide, rfl, rfl⟩⟩, (Below.refl _ _).alloc (Nat.le_refl _) _⟩
theorem CycAt.uses {W3 X : World} {v : Value} {u : List (Int × Bool)} (h : CycAt W3 X v u) : ∃ p cap, v = .slice p u.length cap ∧ UsesIn X u p ∧ u.length ≤ cap ∧ cap ≤ maxLen := by
  rcases h.own.2 with ⟨rfl, h0⟩ | ⟨g, cap, cur, rfl, _, _, hle, hcm, _, _⟩
  · exact ⟨none, 0, by rw [h0], .inl h0, by omega, by simp [maxLen]⟩
  · refine ⟨some ⟨g, 0, none⟩, cap, rfl, .inr ⟨g, 0, rfl, fun i hi => ?_⟩, hle, hcm⟩
    obtain ⟨h1, h2⟩ := useCells_at u i hi
    have k : ∀ (i : Nat) (v : Value), (useCells u)[i]? = some v → X.cell? ⟨g, i, none⟩ = some v := fun i v hi => by
      have := World.ownsRow.cells h.own (g := g) rfl i v hi
      rwa [show (⟨g, 0, none⟩ : Addr).add i = ⟨g, i, none⟩ by unfold Addr.add; split <;> simp_all] at this
    rw [Nat.zero_add]
    exact ⟨k _ _ h1, k _ _ h2⟩
def lenV : Value → Nat
  | .slice _ n _ => n
  | _ => 0
theorem CycAt.len {W3 X : World} {v : Value} {u : List (Int × Bool)} (h : CycAt W3 X v u) : lenV v = u.length := by
  obtain ⟨p, cap, rfl, _⟩ := h.uses
  rfl
theorem two_new (w : World) (x y : Value) (t : TypeId) : ∀ j u, [x, y][j]? = some u → (w.alloc (.cells #[x, y] t)).cell? ((⟨w.heap.size, 0, none⟩ : Addr).add j) = some u := by
  intro j u hj
  match j, hj with
  | 0, hj => simp at hj; subst hj; simp [Addr.add]
  | 1, hj => simp at hj; subst hj; simp [Addr.add]
theorem cycK_succ (l : List Bnd) (s : Ctr) (k c : Nat) : cycK l s k (c + 1) = cycK l s k c ++ [(((s.cause (itN (backK l s) c k)).1 : Int), (s.cause (itN (backK l s) c k)).2)] := by simp [cycK, List.range_succ]
end Go.Proofs.YtlelamjbfjneiaaGreatDoor.Ct
namespace Go.Proofs.YtlelamjbfjneiaaGreatDoor.Ct
open Go Go.RowKit Go.Shelf
/-- the reference's counter and the program's, each in its box -/
structure TwoC (X : World) (b : Nat) (c : Cnt) : Prop where
  a : CBox X b c
  z : CBox X (b + 1) c
theorem TwoC.below {X Y : World} {b : Nat} {c : Cnt} (h : TwoC X b c) (hb : Below X.heap.size X Y) : TwoC Y b c := ⟨h.a.below hb, h.z.below hb⟩
def twoW (w : World) (c : Cnt) : World := (w.alloc (.cells #[.int .i64 c.f, .int .i64 c.o, .int .i64 c.j, .int .i64 c.g, .int .i64 c.r, .int .i64 c.d, .int .i64 c.i] 23)).alloc (.cells #[.int .i64 c.f, .int .i64 c.o, .int .i64 c.j, .int .i64 c.g, .int .i64 c.r, .int .i64 c.d, .int .i64 c.i] 34)
theorem two_box (w : World) (c : Cnt) : TwoC (twoW w c) w.heap.size c ∧ Below w.heap.size w (twoW w c) := by
  have al : ∀ (Y : World) (o : Obj), (Y.alloc o).heap.size = Y.heap.size + 1 := fun Y o => by simp
  have k1 : ∀ (X : World) (t : TypeId), CBox (X.alloc (.cells #[.int .i64 c.f, .int .i64 c.o, .int .i64 c.j, .int .i64 c.g, .int .i64 c.r, .int .i64 c.d, .int .i64 c.i] t)) X.heap.size c := fun X t => ⟨by simp, by simp, by simp, by simp, by simp, by simp, by simp⟩
  have h2 := k1 (w.alloc (.cells #[.int .i64 c.f, .int .i64 c.o, .int .i64 c.j, .int .i64 c.g, .int .i64 c.r, .int .i64 c.d, .int .i64 c.i] 23)) 34
  rw [al] at h2
  exact ⟨⟨(k1 w _).below (below_alloc (Below.refl _ _) _), h2⟩, below_alloc (below_alloc (Below.refl _ _) _) _⟩
end Go.Proofs.YtlelamjbfjneiaaGreatDoor.Ct
