/- Contracts of layer 2: contradiction, what its rounds hold in memory. -/
import Derived.Test.YtlelamjbfjneiaaNr
namespace Go.Proofs.Ytlelamjbfjneiaa.Ct
open Go Go.RowKit Go.Shelf
/-- where contradiction's numbers lie -/
structure CtB where
  h : Nat
  gl : Nat
  b5 : Nat
  gc : Nat
  b6 : Nat
  b7 : Nat
  b8 : Nat
structure CtrAt (W : World) (q : CtB) (n : Nat) (l : List Bnd) (p : Option Addr) (cap : Nat) (s : Ctr) : Prop where
  b3 : W.cell? ⟨q.h, 0, none⟩ = some (.slice p l.length cap)
  b5 : W.cell? ⟨q.b5, 0, none⟩ = some (.slice (some ⟨q.gl, 0, none⟩) n n)
  b6 : W.cell? ⟨q.b6, 0, none⟩ = some (.slice (some ⟨q.gc, 0, none⟩) n n)
  lev : ∀ i, i < n → W.cell? ⟨q.gl, i, none⟩ = some (.int .i64 (s.lev i)) ∧ W.frozen? ⟨q.gl, i, none⟩ = false
  cau : ∀ i, i < n → (W.cell? ⟨q.gc, i * 2, none⟩ = some (.int .i64 ((s.cause i).1 : Int)) ∧ W.frozen? ⟨q.gc, i * 2, none⟩ = false) ∧ (W.cell? ⟨q.gc, i * 2 + 1, none⟩ = some (.bool (s.cause i).2) ∧ W.frozen? ⟨q.gc, i * 2 + 1, none⟩ = false)
  low : W.cell? ⟨q.b7, 0, none⟩ = some (.int .i64 (s.low : Int)) ∧ W.frozen? ⟨q.b7, 0, none⟩ = false
  set_ : W.cell? ⟨q.b8, 0, none⟩ = some (.bool s.settled) ∧ W.frozen? ⟨q.b8, 0, none⟩ = false
  gt : q.h < q.gl ∧ q.gl < q.b5 ∧ q.b5 < q.gc ∧ q.gc < q.b6 ∧ q.b6 < q.b7 ∧ q.b7 < q.b8
  bnds : l.length = 0 ∨ ∃ b o, b < q.h ∧ p = some ⟨b, o, none⟩ ∧ ∀ i, i < l.length → BndCells W b (o + i * 4) (bndAt l i)
/-- a cell and that it may be written -/
def Own2 (W : World) (b o : Nat) (v : Value) : Prop := W.cell? ⟨b, o, none⟩ = some v ∧ W.frozen? ⟨b, o, none⟩ = false
theorem Own2.set {W : World} {b o : Nat} {u v : Value} (h : Own2 W b o u) : Own2 (W.setCell ⟨b, o, none⟩ v) b o v := ⟨World.cell?_setCell_same _ _ _ h.1, by rw [World.frozen?_setCell]; exact h.2⟩
theorem Own2.other {W : World} {b o b' o' : Nat} {u v : Value} (h : Own2 W b o u) (hne : b' ≠ b ∨ o' ≠ o) : Own2 (W.setCell ⟨b', o', none⟩ v) b o u :=
  ⟨by rw [World.cell?_setCell_other _ ⟨b', o', none⟩ ⟨b, o, none⟩ _ (fun e => by cases e; rcases hne with h | h <;> exact h rfl)]; exact h.1, by rw [World.frozen?_setCell]; exact h.2⟩
theorem BndCells.far {W : World} {b o b' o' : Nat} {x : Bnd} {v : Value} (h : BndCells W b o x) (hne : b' ≠ b) : BndCells (W.setCell ⟨b', o', none⟩ v) b o x :=
  h.of (fun e => by rw [World.cell?_setCell_far _ _ _ _ hne]; exact e)
theorem CtrAt.setLev {W : World} {q : CtB} {n : Nat} {l : List Bnd} {p : Option Addr} {cap : Nat} {s : Ctr} (H : CtrAt W q n l p cap s) {k : Nat} (hk : k < n) (x : Int) :
    CtrAt (W.setCell ⟨q.gl, k, none⟩ (.int .i64 x)) q n l p cap { s with lev := updN s.lev k x } := by
  have hg := H.gt
  have f : ∀ {b o : Nat} {v : Value}, b ≠ q.gl → W.cell? ⟨b, o, none⟩ = some v → (W.setCell ⟨q.gl, k, none⟩ (.int .i64 x)).cell? ⟨b, o, none⟩ = some v := fun {b o v} hb e => by
    rw [World.cell?_setCell_far _ _ _ _ (by show q.gl ≠ b; omega)]; exact e
  have g : ∀ {a : Addr}, W.frozen? a = false → (W.setCell ⟨q.gl, k, none⟩ (.int .i64 x)).frozen? a = false := fun e => by rw [World.frozen?_setCell]; exact e
  refine ⟨f (by omega) H.b3, f (by omega) H.b5, f (by omega) H.b6, fun i hi => ?_, fun i hi => ?_, ⟨f (by omega) H.low.1, g H.low.2⟩, ⟨f (by omega) H.set_.1, g H.set_.2⟩, hg, ?_⟩
  · by_cases e : i = k
    · subst e
      show Own2 _ _ _ (.int .i64 (updN s.lev i x i))
      rw [show updN s.lev i x i = x from if_pos rfl]
      exact Own2.set (H.lev i hi)
    · show Own2 _ _ _ (.int .i64 (updN s.lev k x i))
      rw [show updN s.lev k x i = s.lev i from if_neg e]
      exact Own2.other (H.lev i hi) (.inr (Ne.symm e))
  · exact ⟨⟨f (by omega) (H.cau i hi).1.1, g (H.cau i hi).1.2⟩, ⟨f (by omega) (H.cau i hi).2.1, g (H.cau i hi).2.2⟩⟩
  · exact H.bnds.imp id fun ⟨b, o, hb, e, hi⟩ => ⟨b, o, hb, e, fun i hi' => (hi i hi').far (by omega)⟩
theorem CtrAt.setCau {W : World} {q : CtB} {n : Nat} {l : List Bnd} {p : Option Addr} {cap : Nat} {s : Ctr} (H : CtrAt W q n l p cap s) {k : Nat} (hk : k < n) (d : Nat × Bool) :
    CtrAt ((W.setCell ⟨q.gc, k * 2, none⟩ (.int .i64 (d.1 : Int))).setCell ⟨q.gc, k * 2 + 1, none⟩ (.bool d.2)) q n l p cap { s with cause := updN s.cause k d } := by
  have hg := H.gt
  have f : ∀ {b o : Nat} {v : Value}, b ≠ q.gc → W.cell? ⟨b, o, none⟩ = some v → ((W.setCell ⟨q.gc, k * 2, none⟩ (.int .i64 (d.1 : Int))).setCell ⟨q.gc, k * 2 + 1, none⟩ (.bool d.2)).cell? ⟨b, o, none⟩ = some v := fun {b o v} hb e => by
    rw [World.cell?_setCell_far _ _ _ _ (by show q.gc ≠ b; omega), World.cell?_setCell_far _ _ _ _ (by show q.gc ≠ b; omega)]; exact e
  have g : ∀ {a : Addr}, W.frozen? a = false → ((W.setCell ⟨q.gc, k * 2, none⟩ (.int .i64 (d.1 : Int))).setCell ⟨q.gc, k * 2 + 1, none⟩ (.bool d.2)).frozen? a = false := fun e => by rw [World.frozen?_setCell, World.frozen?_setCell]; exact e
  refine ⟨f (by omega) H.b3, f (by omega) H.b5, f (by omega) H.b6, fun i hi => ⟨f (by omega) (H.lev i hi).1, g (H.lev i hi).2⟩, fun i hi => ?_, ⟨f (by omega) H.low.1, g H.low.2⟩, ⟨f (by omega) H.set_.1, g H.set_.2⟩, hg, ?_⟩
  · by_cases e : i = k
    · subst e
      show Own2 _ _ _ (.int .i64 ((updN s.cause i d i).1 : Int)) ∧ Own2 _ _ _ (.bool (updN s.cause i d i).2)
      rw [show updN s.cause i d i = d from if_pos rfl]
      exact ⟨(Own2.set (H.cau i hi).1).other (.inr (by omega)), Own2.set (Own2.other (H.cau i hi).2 (.inr (by omega)))⟩
    · show Own2 _ _ _ (.int .i64 ((updN s.cause k d i).1 : Int)) ∧ Own2 _ _ _ (.bool (updN s.cause k d i).2)
      rw [show updN s.cause k d i = s.cause i from if_neg e]
      exact ⟨(Own2.other (H.cau i hi).1 (.inr (by omega))).other (.inr (by omega)), (Own2.other (H.cau i hi).2 (.inr (by omega))).other (.inr (by omega))⟩
  · exact H.bnds.imp id fun ⟨b, o, hb, e, hi⟩ => ⟨b, o, hb, e, fun i hi' => ((hi i hi').far (by omega)).far (by omega)⟩
theorem CtrAt.setLow {W : World} {q : CtB} {n : Nat} {l : List Bnd} {p : Option Addr} {cap : Nat} {s : Ctr} (H : CtrAt W q n l p cap s) (k : Nat) :
    CtrAt ((W.setCell ⟨q.b7, 0, none⟩ (.int .i64 (k : Int))).setCell ⟨q.b8, 0, none⟩ (.bool false)) q n l p cap { s with low := k, settled := false } := by
  have hg := H.gt
  have f : ∀ {b o : Nat} {v : Value}, b ≠ q.b7 → b ≠ q.b8 → W.cell? ⟨b, o, none⟩ = some v → ((W.setCell ⟨q.b7, 0, none⟩ (.int .i64 (k : Int))).setCell ⟨q.b8, 0, none⟩ (.bool false)).cell? ⟨b, o, none⟩ = some v := fun {b o v} hb hb' e => by
    rw [World.cell?_setCell_far _ _ _ _ (by show q.b8 ≠ b; omega), World.cell?_setCell_far _ _ _ _ (by show q.b7 ≠ b; omega)]; exact e
  have g : ∀ {a : Addr}, W.frozen? a = false → ((W.setCell ⟨q.b7, 0, none⟩ (.int .i64 (k : Int))).setCell ⟨q.b8, 0, none⟩ (.bool false)).frozen? a = false := fun e => by rw [World.frozen?_setCell, World.frozen?_setCell]; exact e
  refine ⟨f (by omega) (by omega) H.b3, f (by omega) (by omega) H.b5, f (by omega) (by omega) H.b6, fun i hi => ⟨f (by omega) (by omega) (H.lev i hi).1, g (H.lev i hi).2⟩,
    fun i hi => ⟨⟨f (by omega) (by omega) (H.cau i hi).1.1, g (H.cau i hi).1.2⟩, ⟨f (by omega) (by omega) (H.cau i hi).2.1, g (H.cau i hi).2.2⟩⟩, ?_, ?_, hg, ?_⟩
  · exact Own2.other (Own2.set H.low) (.inl (by omega))
  · exact Own2.set (Own2.other H.set_ (.inl (by omega)))
  · exact H.bnds.imp id fun ⟨b, o, hb, e, hi⟩ => ⟨b, o, hb, e, fun i hi' => ((hi i hi').far (by omega)).far (by omega)⟩
/-- the world where a clock has been lowered -/
def lowW (W : World) (q : CtB) (k : Nat) (x : Int) (d : Nat × Bool) : World :=
  ((((W.setCell ⟨q.gl, k, none⟩ (.int .i64 x)).setCell ⟨q.gc, k * 2, none⟩ (.int .i64 (d.1 : Int))).setCell ⟨q.gc, k * 2 + 1, none⟩ (.bool d.2)).setCell ⟨q.b7, 0, none⟩ (.int .i64 (k : Int))).setCell ⟨q.b8, 0, none⟩ (.bool false)
theorem CtrAt.step {W : World} {q : CtB} {n : Nat} {l : List Bnd} {p : Option Addr} {cap : Nat} {s : Ctr} (H : CtrAt W q n l p cap s) (d : Nat × Bool) (hf : (kLim l d).f.toNat < n)
    (hgt : ¬ (s.lev (kLim l d).f.toNat - s.lev (kLim l d).s.toNat ≤ (kLim l d).m)) :
    CtrAt (lowW W q (kLim l d).f.toNat (s.lev (kLim l d).s.toNat + (kLim l d).m) d) q n l p cap (stepK l s d) := by
  rw [show stepK l s d = ⟨updN s.lev (kLim l d).f.toNat (s.lev (kLim l d).s.toNat + (kLim l d).m), updN s.cause (kLim l d).f.toNat d, (kLim l d).f.toNat, false⟩ from if_neg hgt]
  exact ((H.setLev hf _).setCau hf d).setLow _
theorem stepK_same {l : List Bnd} {s : Ctr} {d : Nat × Bool} (hle : s.lev (kLim l d).f.toNat - s.lev (kLim l d).s.toNat ≤ (kLim l d).m) : stepK l s d = s := if_pos hle
theorem low_keeps (W : World) (q : CtB) (k : Nat) (x : Int) (d : Nat × Bool) (B : Nat) : KeepsFrom B W (lowW W q k x d) :=
  (((((KeepsOthers.setCell _ _ _).trans (KeepsOthers.setCell _ _ _)).trans (KeepsOthers.setCell _ _ _)).trans (KeepsOthers.setCell _ _ _)).trans (KeepsOthers.setCell _ _ _)).from _
theorem low_stay {f : Nat → Prop} (W : World) (q : CtB) (k : Nat) (x : Int) (d : Nat × Bool) (hf : ∀ i, f i → i ≠ q.gl ∧ i ≠ q.gc ∧ i ≠ q.b7 ∧ i ≠ q.b8) : StayC f W (lowW W q k x d) :=
  ⟨by simp [lowW], fun i o hi e _ => by
    obtain ⟨h1, h2, h3, h4⟩ := hf i hi
    unfold lowW
    rw [Below.heap_setCell _ _ _ _ h4, Below.heap_setCell _ _ _ _ h3, Below.heap_setCell _ _ _ _ h2, Below.heap_setCell _ _ _ _ h2, Below.heap_setCell _ _ _ _ h1]
    exact e⟩
theorem low_below {w W : World} (hb : Below w.heap.size w W) (q : CtB) (k : Nat) (x : Int) (d : Nat × Bool) (h1 : w.heap.size ≤ q.gl) (h2 : w.heap.size ≤ q.gc) (h3 : w.heap.size ≤ q.b7) (h4 : w.heap.size ≤ q.b8) : Below w.heap.size w (lowW W q k x d) :=
  ((((hb.setCell (p := ⟨q.gl, k, none⟩) h1 _).setCell (p := ⟨q.gc, k * 2, none⟩) h2 _).setCell (p := ⟨q.gc, k * 2 + 1, none⟩) h2 _).setCell (p := ⟨q.b7, 0, none⟩) h3 _).setCell (p := ⟨q.b8, 0, none⟩) h4 _
theorem CtrAt.below {W Y : World} {q : CtB} {n : Nat} {l : List Bnd} {p : Option Addr} {cap : Nat} {s : Ctr} (H : CtrAt W q n l p cap s) (hb : Below W.heap.size W Y) : CtrAt Y q n l p cap s := by
  have g : ∀ {b o : Nat} {v : Value}, Own2 W b o v → Own2 Y b o v := fun {b o v} e => ⟨cell_below hb e.1, (hb.frozen (p := ⟨b, o, none⟩) (cell_lt e.1)).trans e.2⟩
  exact ⟨cell_below hb H.b3, cell_below hb H.b5, cell_below hb H.b6, fun i hi => g (H.lev i hi), fun i hi => ⟨g (H.cau i hi).1, g (H.cau i hi).2⟩, g H.low, g H.set_, H.gt, H.bnds.imp id fun ⟨b, o, h1, e, hi⟩ => ⟨b, o, h1, e, fun i hi' => (hi i hi').of (cell_below hb)⟩⟩
theorem CtrAt.stay {W Y : World} {q : CtB} {n : Nat} {l : List Bnd} {p : Option Addr} {cap : Nat} {s : Ctr} (H : CtrAt W q n l p cap s) (k : StayC (fun _ => True) W Y) : CtrAt Y q n l p cap s := by
  have g : ∀ {b o : Nat} {v : Value}, Own2 W b o v → Own2 Y b o v := fun {b o v} e => by
    obtain ⟨ob, h1, h2⟩ := cells_of_cell e.1
    exact ⟨k.cell trivial e.1, (World.frozen?_of_block (a := ⟨b, o, none⟩) ((k.2 b ob trivial h1 h2).trans h1.symm)).trans e.2⟩
  exact ⟨k.cell trivial H.b3, k.cell trivial H.b5, k.cell trivial H.b6, fun i hi => g (H.lev i hi), fun i hi => ⟨g (H.cau i hi).1, g (H.cau i hi).2⟩, g H.low, g H.set_, H.gt, H.bnds.imp id fun ⟨b, o, h1, e, hi⟩ => ⟨b, o, h1, e, fun i hi' => (hi i hi').of (k.cell trivial)⟩⟩
/-- between the rounds: the box of 'settled' is made anew in each -/
structure CtrB (W : World) (q : CtB) (n : Nat) (l : List Bnd) (p : Option Addr) (cap : Nat) (s : Ctr) : Prop where
  b3 : W.cell? ⟨q.h, 0, none⟩ = some (.slice p l.length cap)
  b5 : W.cell? ⟨q.b5, 0, none⟩ = some (.slice (some ⟨q.gl, 0, none⟩) n n)
  b6 : W.cell? ⟨q.b6, 0, none⟩ = some (.slice (some ⟨q.gc, 0, none⟩) n n)
  lev : ∀ i, i < n → Own2 W q.gl i (.int .i64 (s.lev i))
  cau : ∀ i, i < n → Own2 W q.gc (i * 2) (.int .i64 ((s.cause i).1 : Int)) ∧ Own2 W q.gc (i * 2 + 1) (.bool (s.cause i).2)
  low : Own2 W q.b7 0 (.int .i64 (s.low : Int))
  gt : q.h < q.gl ∧ q.gl < q.b5 ∧ q.b5 < q.gc ∧ q.gc < q.b6 ∧ q.b6 < q.b7 ∧ q.b7 < W.heap.size
  bnds : l.length = 0 ∨ ∃ b o, b < q.h ∧ p = some ⟨b, o, none⟩ ∧ ∀ i, i < l.length → BndCells W b (o + i * 4) (bndAt l i)
theorem Own2.below {W Y : World} {b o : Nat} {v : Value} (e : Own2 W b o v) (hb : Below W.heap.size W Y) : Own2 Y b o v := ⟨cell_below hb e.1, (hb.frozen (p := ⟨b, o, none⟩) (cell_lt e.1)).trans e.2⟩
theorem Own2.new (W : World) (v : Value) (t : TypeId) : Own2 (W.alloc (.cells #[v] t)) W.heap.size 0 v := ⟨by simp, by simp⟩
/-- a round begins -/
theorem CtrB.round {W : World} {q : CtB} {n : Nat} {l : List Bnd} {p : Option Addr} {cap : Nat} {s : Ctr} (H : CtrB W q n l p cap s) (t : TypeId) :
    CtrAt (W.alloc (.cells #[.bool true] t)) { q with b8 := W.heap.size } n l p cap { s with settled := true } := by
  have hb := (Below.refl W.heap.size W).alloc (Nat.le_refl _) (.cells #[.bool true] t)
  exact ⟨cell_below hb H.b3, cell_below hb H.b5, cell_below hb H.b6, fun i hi => (H.lev i hi).below hb, fun i hi => ⟨(H.cau i hi).1.below hb, (H.cau i hi).2.below hb⟩, H.low.below hb, Own2.new _ _ _, H.gt,
    H.bnds.imp id fun ⟨b, o, h1, e, hi⟩ => ⟨b, o, h1, e, fun i hi' => (hi i hi').of (cell_below hb)⟩⟩
/-- a round ends -/
theorem CtrAt.base {W : World} {q : CtB} {n : Nat} {l : List Bnd} {p : Option Addr} {cap : Nat} {s : Ctr} (H : CtrAt W q n l p cap s) : CtrB W q n l p cap s :=
  ⟨H.b3, H.b5, H.b6, H.lev, H.cau, H.low, by have := H.gt; have := cell_lt H.set_.1; exact ⟨by omega, by omega, by omega, by omega, by omega, by omega⟩, H.bnds⟩
end Go.Proofs.Ytlelamjbfjneiaa.Ct
