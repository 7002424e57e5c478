/- Boxes of two, of four and of many numbers that are written anew. -/
import Derived.Test.YthkndjkgokojmaaSb
import Derived.Test.YthkndjkgokojmaaStB
import Derived.Test.YthkndjkgokojmaaStN
namespace Go.Proofs.Ythkndjkgokojmaa
open Go Go.RowKit Go.Shelf
structure RBox (X : World) (b : Nat) (x z : Int) : Prop where
  c0 : X.cell? ⟨b, 0, none⟩ = some (.int .i64 x)
  c1 : X.cell? ⟨b, 1, none⟩ = some (.int .i64 z)
  f0 : X.frozen? ⟨b, 0, none⟩ = false
  f1 : X.frozen? ⟨b, 1, none⟩ = false
variable {X Y : World} {b : Nat} {x y z u : Int}
theorem RBox.new (X : World) (x z : Int) (t : TypeId) : RBox (X.alloc (.cells #[.int .i64 x, .int .i64 z] t)) X.heap.size x z := ⟨by simp, by simp, by simp, by simp⟩
theorem RBox.below (h : RBox X b x z) (hb : Below X.heap.size X Y) : RBox Y b x z :=
  ⟨cell_below hb h.c0, cell_below hb h.c1, (hb.frozen (p := ⟨b, 0, none⟩) (cell_lt h.c0)).trans h.f0, (hb.frozen (p := ⟨b, 1, none⟩) (cell_lt h.c1)).trans h.f1⟩
theorem RBox.far (h : RBox X b x z) {b' o : Nat} {v : Value} (hne : b' ≠ b) : RBox (X.setCell ⟨b', o, none⟩ v) b x z := by
  refine ⟨?_, ?_, by rw [World.frozen?_setCell]; exact h.f0, by rw [World.frozen?_setCell]; exact h.f1⟩
  · rw [World.cell?_setCell_far _ _ _ _ hne]; exact h.c0
  · rw [World.cell?_setCell_far _ _ _ _ hne]; exact h.c1
theorem RBox.store (h : RBox X b x z) (x' z' : Int) : RBox ((X.setCell ⟨b, 0, none⟩ (.int .i64 x')).setCell ⟨b, 1, none⟩ (.int .i64 z')) b x' z' := by
  obtain ⟨e0, e1⟩ := set2 (.int .i64 x') (.int .i64 z') h.c0 h.c1
  exact ⟨e0, e1, by rw [World.frozen?_setCell, World.frozen?_setCell]; exact h.f0, by rw [World.frozen?_setCell, World.frozen?_setCell]; exact h.f1⟩
structure QBox (X : World) (b : Nat) (x y z u : Int) : Prop where
  c0 : X.cell? ⟨b, 0, none⟩ = some (.int .i64 x)
  c1 : X.cell? ⟨b, 1, none⟩ = some (.int .i64 y)
  c2 : X.cell? ⟨b, 2, none⟩ = some (.int .i64 z)
  c3 : X.cell? ⟨b, 3, none⟩ = some (.int .i64 u)
  f0 : X.frozen? ⟨b, 0, none⟩ = false
  f1 : X.frozen? ⟨b, 1, none⟩ = false
  f2 : X.frozen? ⟨b, 2, none⟩ = false
  f3 : X.frozen? ⟨b, 3, none⟩ = false
theorem QBox.new (X : World) (x y z u : Int) (t : TypeId) : QBox (X.alloc (.cells #[.int .i64 x, .int .i64 y, .int .i64 z, .int .i64 u] t)) X.heap.size x y z u :=
  ⟨by simp, by simp, by simp, by simp, by simp, by simp, by simp, by simp⟩
theorem QBox.below (h : QBox X b x y z u) (hb : Below X.heap.size X Y) : QBox Y b x y z u :=
  ⟨cell_below hb h.c0, cell_below hb h.c1, cell_below hb h.c2, cell_below hb h.c3, (hb.frozen (p := ⟨b, 0, none⟩) (cell_lt h.c0)).trans h.f0, (hb.frozen (p := ⟨b, 1, none⟩) (cell_lt h.c1)).trans h.f1,
    (hb.frozen (p := ⟨b, 2, none⟩) (cell_lt h.c2)).trans h.f2, (hb.frozen (p := ⟨b, 3, none⟩) (cell_lt h.c3)).trans h.f3⟩
theorem QBox.far (h : QBox X b x y z u) {b' o : Nat} {v : Value} (hne : b' ≠ b) : QBox (X.setCell ⟨b', o, none⟩ v) b x y z u := by
  refine ⟨?_, ?_, ?_, ?_, by rw [World.frozen?_setCell]; exact h.f0, by rw [World.frozen?_setCell]; exact h.f1, by rw [World.frozen?_setCell]; exact h.f2, by rw [World.frozen?_setCell]; exact h.f3⟩
  · rw [World.cell?_setCell_far _ _ _ _ hne]; exact h.c0
  · rw [World.cell?_setCell_far _ _ _ _ hne]; exact h.c1
  · rw [World.cell?_setCell_far _ _ _ _ hne]; exact h.c2
  · rw [World.cell?_setCell_far _ _ _ _ hne]; exact h.c3
def store4 (X : World) (b : Nat) (x y z u : Int) : World := (((X.setCell ⟨b, 0, none⟩ (.int .i64 x)).setCell ⟨b, 1, none⟩ (.int .i64 y)).setCell ⟨b, 2, none⟩ (.int .i64 z)).setCell ⟨b, 3, none⟩ (.int .i64 u)
theorem QBox.store (h : QBox X b x y z u) (x' y' z' u' : Int) : QBox (store4 X b x' y' z' u') b x' y' z' u' := by
  unfold store4
  refine ⟨?_, ?_, ?_, ?_, by simp only [World.frozen?_setCell]; exact h.f0, by simp only [World.frozen?_setCell]; exact h.f1, by simp only [World.frozen?_setCell]; exact h.f2, by simp only [World.frozen?_setCell]; exact h.f3⟩
  · rw [World.cell?_setCell_other, World.cell?_setCell_other, World.cell?_setCell_other]
    · exact World.cell?_setCell_same _ _ _ h.c0
    all_goals simp
  · rw [World.cell?_setCell_other, World.cell?_setCell_other]
    · refine World.cell?_setCell_same _ _ _ (u := .int .i64 y) ?_
      rw [World.cell?_setCell_other]
      · exact h.c1
      · simp
    all_goals simp
  · rw [World.cell?_setCell_other]
    · refine World.cell?_setCell_same _ _ _ (u := .int .i64 z) ?_
      rw [World.cell?_setCell_other, World.cell?_setCell_other]
      · exact h.c2
      all_goals simp
    · simp
  · refine World.cell?_setCell_same _ _ _ (u := .int .i64 u) ?_
    rw [World.cell?_setCell_other, World.cell?_setCell_other, World.cell?_setCell_other]
    · exact h.c3
    all_goals simp
theorem store4_cell {b' o : Nat} (hne : b ≠ b') : (store4 X b x y z u).cell? ⟨b', o, none⟩ = X.cell? ⟨b', o, none⟩ := by
  unfold store4
  rw [World.cell?_setCell_far _ _ _ _ hne, World.cell?_setCell_far _ _ _ _ hne, World.cell?_setCell_far _ _ _ _ hne, World.cell?_setCell_far _ _ _ _ hne]
theorem store4_rbox {b' : Nat} {p q : Int} (h : RBox X b' p q) (hne : b ≠ b') : RBox (store4 X b x y z u) b' p q := (((h.far hne).far hne).far hne).far hne
theorem store4_below {w : World} (h : Below w.heap.size w X) (hb : w.heap.size ≤ b) : Below w.heap.size w (store4 X b x y z u) := below4 _ _ _ _ h hb
def IntBox (X : World) (b : Nat) (l : List Int) : Prop := ∀ i (h : i < l.length), X.cell? ⟨b, i, none⟩ = some (.int .i64 l[i]) ∧ X.frozen? ⟨b, i, none⟩ = false
theorem IntBox.below {X Y : World} {b : Nat} {l : List Int} (h : IntBox X b l) (hb : Below X.heap.size X Y) : IntBox Y b l := fun i hi =>
  ⟨cell_below hb (h i hi).1, (hb.frozen (p := ⟨b, i, none⟩) (cell_lt (h i hi).1)).trans (h i hi).2⟩
theorem IntBox.far {X : World} {b b' o : Nat} {l : List Int} {v : Value} (h : IntBox X b l) (hne : b' ≠ b) : IntBox (X.setCell ⟨b', o, none⟩ v) b l := fun i hi =>
  ⟨by rw [World.cell?_setCell_far _ _ _ _ hne]; exact (h i hi).1, by rw [World.frozen?_setCell]; exact (h i hi).2⟩
theorem IntBox.set {X : World} {b : Nat} {l : List Int} (h : IntBox X b l) (j : Nat) (v : Int) (hj : j < l.length) : IntBox (X.setCell ⟨b, j, none⟩ (.int .i64 v)) b (l.set j v) := fun i hi => by
  have hi' : i < l.length := by simpa using hi
  refine ⟨?_, by rw [World.frozen?_setCell]; exact (h i hi').2⟩
  by_cases e : j = i
  · subst e
    rw [List.getElem_set_self]
    exact World.cell?_setCell_same _ _ _ (h j hj).1
  · rw [List.getElem_set_ne e, World.cell?_setCell_other X ⟨b, j, none⟩ ⟨b, i, none⟩ _ (fun e' => e (by cases e'; rfl))]
    exact (h i hi').1
theorem IntBox.new (X : World) (l : List Int) (t : TypeId) : IntBox (X.alloc (.cells (l.map (Value.int .i64)).toArray t)) X.heap.size l := fun i hi => ⟨by simp [hi], by simp⟩
theorem SerIn.far {w X : World} {l : List Int} {p : Option Addr} (h0 : SerIn w l p) (h : SerIn X l p) {b' o : Nat} {v : Value} (hb : w.heap.size ≤ b') : SerIn (X.setCell ⟨b', o, none⟩ v) l p := by
  refine ⟨h.1, ?_⟩
  rcases h.2 with h2 | ⟨k, q, hp, hi⟩
  · exact .inl h2
  · rcases h0.2 with h2 | ⟨k', q', hp', hi'⟩
    · exact .inl h2
    · rw [hp] at hp'
      cases hp'
      refine .inr ⟨k, q, hp, fun i hl => ?_⟩
      have := cell_lt (hi' i hl)
      rw [World.cell?_setCell_far _ _ _ _ (by show b' ≠ k; omega)]
      exact hi i hl
/-- a series in a box, as it is read -/
def SAt (X : World) (b : Nat) (tau : Int) (v : Value) : Prop := X.cell? ⟨b, 0, none⟩ = some (.int .i64 tau) ∧ X.cell? ⟨b, 1, none⟩ = some v
theorem SAt.below {X Y : World} {b : Nat} {tau : Int} {v : Value} (h : SAt X b tau v) (hb : Below X.heap.size X Y) : SAt Y b tau v := ⟨cell_below hb h.1, cell_below hb h.2⟩
theorem OwnI.box {B cap : Nat} {X : World} {p : Option Addr} {L : List Int} (h : OwnI B X (.slice p L.length cap) L) : ∃ g, B ≤ g ∧ IntBox X g L ∧ (1 ≤ L.length → p = some ⟨g, 0, none⟩ ∧ g < X.heap.size) := by
  rcases h.2 with ⟨e, h0⟩ | ⟨g, cap', cur, e, hg, hgb, h1, h2, h3, h4⟩
  · exact ⟨B, Nat.le_refl _, fun i hi => by omega, by omega⟩
  · have hlt : g < X.heap.size := (Array.getElem?_eq_some_iff.1 hgb).1
    cases e
    refine ⟨g, hg, fun i hi => ⟨?_, by simp [World.frozen?, hgb]⟩, fun _ => ⟨rfl, hlt⟩⟩
    obtain ⟨b', c', e, hI⟩ := h.ints (by omega)
    cases e
    have := hI i hi
    rwa [Nat.zero_add] at this
end Go.Proofs.Ythkndjkgokojmaa
