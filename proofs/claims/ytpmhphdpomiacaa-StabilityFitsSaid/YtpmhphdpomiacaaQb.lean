/- Boxes of two and of four numbers that are written anew; calls at a length that is named. -/
import Derived.Test.YtpmhphdpomiacaaPh
import Derived.Test.YtpmhphdpomiacaaAw
namespace Go.Proofs.Ytpmhphdpomiacaa
open Go Go.RowKit Go.Shelf
structure RBox (X : World) (b : Nat) (x z : Int) : Prop where
  c0 : X.cell? ⟨b, 0, none⟩ = some (.int .i64 x)
  c1 : X.cell? ⟨b, 1, none⟩ = some (.int .i64 z)
  f0 : X.frozen? ⟨b, 0, none⟩ = false
  f1 : X.frozen? ⟨b, 1, none⟩ = false
variable {X Y : World} {b : Nat} {x y z u : Int}
theorem RBox.new (X : World) (x z : Int) (t : TypeId) : RBox (X.alloc (.cells #[.int .i64 x, .int .i64 z] t)) X.heap.size x z := ⟨by simp, by simp, by simp, by simp⟩
theorem RBox.below (h : RBox X b x z) (hb : Below X.heap.size X Y) : RBox Y b x z :=
  ⟨cell_below hb h.c0, cell_below hb h.c1, (hb.frozen (p := ⟨b, 0, none⟩) (cell_lt h.c0)).trans h.f0, (hb.frozen (p := ⟨b, 1, none⟩) (cell_lt h.c1)).trans h.f1⟩
theorem RBox.far (h : RBox X b x z) {b' o : Nat} {v : Value} (hne : b' ≠ b) : RBox (X.setCell ⟨b', o, none⟩ v) b x z := by
  refine ⟨?_, ?_, by rw [World.frozen?_setCell]; exact h.f0, by rw [World.frozen?_setCell]; exact h.f1⟩
  · rw [World.cell?_setCell_far _ _ _ _ hne]; exact h.c0
  · rw [World.cell?_setCell_far _ _ _ _ hne]; exact h.c1
theorem RBox.store (h : RBox X b x z) (x' z' : Int) : RBox ((X.setCell ⟨b, 0, none⟩ (.int .i64 x')).setCell ⟨b, 1, none⟩ (.int .i64 z')) b x' z' := by
  obtain ⟨e0, e1⟩ := set2 (.int .i64 x') (.int .i64 z') h.c0 h.c1
  exact ⟨e0, e1, by rw [World.frozen?_setCell, World.frozen?_setCell]; exact h.f0, by rw [World.frozen?_setCell, World.frozen?_setCell]; exact h.f1⟩
structure QBox (X : World) (b : Nat) (x y z u : Int) : Prop where
  c0 : X.cell? ⟨b, 0, none⟩ = some (.int .i64 x)
  c1 : X.cell? ⟨b, 1, none⟩ = some (.int .i64 y)
  c2 : X.cell? ⟨b, 2, none⟩ = some (.int .i64 z)
  c3 : X.cell? ⟨b, 3, none⟩ = some (.int .i64 u)
  f0 : X.frozen? ⟨b, 0, none⟩ = false
  f1 : X.frozen? ⟨b, 1, none⟩ = false
  f2 : X.frozen? ⟨b, 2, none⟩ = false
  f3 : X.frozen? ⟨b, 3, none⟩ = false
theorem QBox.new (X : World) (x y z u : Int) (t : TypeId) : QBox (X.alloc (.cells #[.int .i64 x, .int .i64 y, .int .i64 z, .int .i64 u] t)) X.heap.size x y z u :=
  ⟨by simp, by simp, by simp, by simp, by simp, by simp, by simp, by simp⟩
theorem QBox.below (h : QBox X b x y z u) (hb : Below X.heap.size X Y) : QBox Y b x y z u :=
  ⟨cell_below hb h.c0, cell_below hb h.c1, cell_below hb h.c2, cell_below hb h.c3, (hb.frozen (p := ⟨b, 0, none⟩) (cell_lt h.c0)).trans h.f0, (hb.frozen (p := ⟨b, 1, none⟩) (cell_lt h.c1)).trans h.f1,
    (hb.frozen (p := ⟨b, 2, none⟩) (cell_lt h.c2)).trans h.f2, (hb.frozen (p := ⟨b, 3, none⟩) (cell_lt h.c3)).trans h.f3⟩
theorem QBox.far (h : QBox X b x y z u) {b' o : Nat} {v : Value} (hne : b' ≠ b) : QBox (X.setCell ⟨b', o, none⟩ v) b x y z u := by
  refine ⟨?_, ?_, ?_, ?_, by rw [World.frozen?_setCell]; exact h.f0, by rw [World.frozen?_setCell]; exact h.f1, by rw [World.frozen?_setCell]; exact h.f2, by rw [World.frozen?_setCell]; exact h.f3⟩
  · rw [World.cell?_setCell_far _ _ _ _ hne]; exact h.c0
  · rw [World.cell?_setCell_far _ _ _ _ hne]; exact h.c1
  · rw [World.cell?_setCell_far _ _ _ _ hne]; exact h.c2
  · rw [World.cell?_setCell_far _ _ _ _ hne]; exact h.c3
def store4 (X : World) (b : Nat) (x y z u : Int) : World := (((X.setCell ⟨b, 0, none⟩ (.int .i64 x)).setCell ⟨b, 1, none⟩ (.int .i64 y)).setCell ⟨b, 2, none⟩ (.int .i64 z)).setCell ⟨b, 3, none⟩ (.int .i64 u)
theorem QBox.store (h : QBox X b x y z u) (x' y' z' u' : Int) : QBox (store4 X b x' y' z' u') b x' y' z' u' := by
  unfold store4
  refine ⟨?_, ?_, ?_, ?_, by simp only [World.frozen?_setCell]; exact h.f0, by simp only [World.frozen?_setCell]; exact h.f1, by simp only [World.frozen?_setCell]; exact h.f2, by simp only [World.frozen?_setCell]; exact h.f3⟩
  · rw [World.cell?_setCell_other, World.cell?_setCell_other, World.cell?_setCell_other]
    · exact World.cell?_setCell_same _ _ _ h.c0
    all_goals simp
  · rw [World.cell?_setCell_other, World.cell?_setCell_other]
    · refine World.cell?_setCell_same _ _ _ (u := .int .i64 y) ?_
      rw [World.cell?_setCell_other]
      · exact h.c1
      · simp
    all_goals simp
  · rw [World.cell?_setCell_other]
    · refine World.cell?_setCell_same _ _ _ (u := .int .i64 z) ?_
      rw [World.cell?_setCell_other, World.cell?_setCell_other]
      · exact h.c2
      all_goals simp
    · simp
  · refine World.cell?_setCell_same _ _ _ (u := .int .i64 u) ?_
    rw [World.cell?_setCell_other, World.cell?_setCell_other, World.cell?_setCell_other]
    · exact h.c3
    all_goals simp
theorem store4_cell {b' o : Nat} (hne : b ≠ b') : (store4 X b x y z u).cell? ⟨b', o, none⟩ = X.cell? ⟨b', o, none⟩ := by
  unfold store4
  rw [World.cell?_setCell_far _ _ _ _ hne, World.cell?_setCell_far _ _ _ _ hne, World.cell?_setCell_far _ _ _ _ hne, World.cell?_setCell_far _ _ _ _ hne]
theorem store4_rbox {b' : Nat} {p q : Int} (h : RBox X b' p q) (hne : b ≠ b') : RBox (store4 X b x y z u) b' p q := (((h.far hne).far hne).far hne).far hne
theorem store4_below {w : World} (h : Below w.heap.size w X) (hb : w.heap.size ≤ b) : Below w.heap.size w (store4 X b x y z u) := below4 _ _ _ _ h hb
theorem I16In.take {w : World} {l : List Int} {p : Option Addr} {cap : Nat} (h : I16In w l p cap) (n : Nat) (hn : n ≤ l.length) : I16In w (l.take n) p cap := by
  have hl : (l.take n).length = n := by simp; omega
  have hc := h.cap
  have hm := h.len
  refine ⟨by omega, by omega, ?_, fun i => ?_⟩
  · rcases h.at_ with h0 | ⟨b, o, hp, hi⟩
    · exact .inl (by omega)
    · refine .inr ⟨b, o, hp, fun i hi' => ?_⟩
      rw [List.getElem_take]
      exact hi i (by omega)
  · unfold atL
    rw [List.getElem?_take]
    split
    · exact h.bd i
    · simp
def PhRet' (w : World) (L : List Int) (n : Nat) (tau : Int) (e : Ending) (w' : World) : Prop := ∃ p cap, e = .returned (.agg #[.int .i64 tau, .slice p n cap]) ∧ SerIn w' L p ∧ Below w.heap.size w w'
/-- phased, at numbers of which no more than 100 are taken -/
theorem phased_at (L : List Int) (n : Nat) (hn : L.length = n) (h100 : n ≤ 100) (p : Option Addr) (cap : Nat) (tau tau' : Int) (ht' : tau' = 1 + tau) (w : World) (ha : I16In w L p cap) (ht : 0 ≤ tau ∧ tau ≤ 255) :
    Calls Try.prog 19 #[.slice p n cap, .int .u8 tau] w (PhRet' w L n tau') := by
  subst hn ht'
  refine (phased_any L p cap tau w ha ht).mono ?_
  rintro e w' ⟨q, c, he, hs, hb⟩
  rw [show min L.length 100 = L.length by omega, List.take_length] at he hs
  exact ⟨q, c, he, hs, hb⟩
theorem fit_at (tau : Int) (l : List Int) (n : Nat) (hn : l.length = n) (p : Option Addr) (cap : Nat) (w : World) (hs : SerIn w l p) :
    Calls Try.prog 26 #[.agg #[.int .i64 tau, .slice p n cap]] w (LineRet (fitE tau l) w) := by
  subst hn; exact fit_named tau l p cap w hs
theorem rest_at (tau : Int) (l : List Int) (n : Nat) (hn : l.length = n) (p : Option Addr) (cap : Nat) (w : World) (hs : SerIn w l p) :
    Calls Try.prog 27 #[.agg #[.int .i64 tau, .slice p n cap]] w (FracRet2 (restE tau l) w) := by
  subst hn; exact rest_named tau l p cap w hs
theorem phases_of {w : World} {L : List Int} {p : Option Addr} {cap : Nat} (h : I16In w L p cap) : phasesOk L = true := by
  unfold phasesOk
  refine List.all_eq_true.2 fun x hx => ?_
  obtain ⟨i, hi, rfl⟩ := List.getElem_of_mem hx
  have := h.bd i
  rw [← atL_get L i hi] at this
  simp only [Bool.and_eq_true, decide_eq_true_eq]
  omega
end Go.Proofs.Ytpmhphdpomiacaa
