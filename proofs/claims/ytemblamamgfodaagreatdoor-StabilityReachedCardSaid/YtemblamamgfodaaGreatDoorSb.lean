/- A series in a box, whose phases grow. -/
import Derived.Test.YtemblamamgfodaaGreatDoorTri
namespace Go.Proofs.YtemblamamgfodaaGreatDoor
open Go Go.RowKit Go.Shelf
structure SBox (w X : World) (bx : Nat) (tau : Int) (v : Value) (l : List Int) : Prop where
  own : OwnI w.heap.size X v l
  c0 : X.cell? ⟨bx, 0, none⟩ = some (.int .i64 tau)
  c1 : X.cell? ⟨bx, 1, none⟩ = some v
  f1 : X.frozen? ⟨bx, 1, none⟩ = false
  ne : v.ownBlock ≠ some bx
  ge : w.heap.size ≤ bx
  bel : Below w.heap.size w X
theorem grownBy_set (W : World) (b o : Nat) (v : Value) : W.grownBy (W.setCell ⟨b, o, none⟩ v) (some b) :=
  ⟨rfl, rfl, rfl, (KeepsWalks.setCell W _ v).size, fun k _ hk => Below.heap_setCell _ _ _ k (fun e => hk (by rw [e]))⟩
theorem grown_cell {X Y : World} {o : Obj} {row : Option Nat} {b k : Nat} {v : Value} (hg : (X.alloc o).grownBy Y row) (hne : row ≠ some b) (h : X.cell? ⟨b, k, none⟩ = some v) : Y.cell? ⟨b, k, none⟩ = some v := by
  have hl := cell_lt h
  rw [← h]
  refine World.cell?_of_block (a := ⟨b, k, none⟩) ?_
  rw [hg.block b (by simp; omega) (fun e => hne e.symm)]
  exact Below.heap_alloc _ _ _ hl
theorem grown_frozen {X Y : World} {o : Obj} {row : Option Nat} {b k : Nat} (hl : b < X.heap.size) (hg : (X.alloc o).grownBy Y row) (hne : row ≠ some b) : Y.frozen? ⟨b, k, none⟩ = X.frozen? ⟨b, k, none⟩ := by
  refine World.frozen?_of_block (a := ⟨b, k, none⟩) ?_
  rw [hg.block b (by simp; omega) (fun e => hne e.symm)]
  exact Below.heap_alloc _ _ _ hl
variable {w X Y : World} {bx : Nat} {tau x : Int} {v v' : Value} {l : List Int} {o : Obj}
theorem SBox.start (w : World) (tau : Int) (t : TypeId) : SBox w (w.alloc (.cells #[.int .i64 tau, .slice none 0 0] t)) w.heap.size tau (.slice none 0 0) [] :=
  ⟨World.ownsRow_nil _ _ _ _, by simp, by simp, by simp, by simp [Value.ownBlock], Nat.le_refl _, below_alloc (Below.refl _ _) _⟩
/-- behind the append, ahead of the store -/
structure SGrown (w Y : World) (bx : Nat) (tau : Int) (v' : Value) (l' : List Int) : Prop where
  own : OwnI w.heap.size Y v' l'
  c0 : Y.cell? ⟨bx, 0, none⟩ = some (.int .i64 tau)
  c1 : ∃ u, Y.cell? ⟨bx, 1, none⟩ = some u
  f1 : Y.frozen? ⟨bx, 1, none⟩ = false
  ne : v'.ownBlock ≠ some bx
  ge : w.heap.size ≤ bx
  bel : Below w.heap.size w Y
theorem SBox.grow (h : SBox w X bx tau v l) (hown : Y.ownsRow w.heap.size 3 1 v' (l.length + 1) (ints l ++ [.int .i64 x])) (hg : (X.alloc o).grownBy Y v.ownBlock)
    (hb : v'.ownBlock = v.ownBlock ∨ v'.ownBlock = some (X.alloc o).heap.size) : SGrown w Y bx tau v' (l ++ [x]) := by
  have hl := cell_lt h.c0
  refine ⟨OwnI.snoc hown, grown_cell hg h.ne h.c0, ⟨v, grown_cell hg h.ne h.c1⟩, (grown_frozen hl hg h.ne).trans h.f1, ?_, h.ge, own_grown_below h.own h.bel h.bel.size hg⟩
  rcases hb with hb | hb
  · rw [hb]; exact h.ne
  · rw [hb]; intro e; cases e; simp at hl; omega
theorem SGrown.store {l' : List Int} (h : SGrown w Y bx tau v' l') : SBox w (Y.setCell ⟨bx, 1, none⟩ v') bx tau v' l' := by
  obtain ⟨u, hu⟩ := h.c1
  refine ⟨h.own.kept (grownBy_set Y bx 1 v') (.inr h.ne), ?_, World.cell?_setCell_same _ _ _ hu, by rw [World.frozen?_setCell]; exact h.f1, h.ne, h.ge, h.bel.setCell h.ge _⟩
  rw [World.cell?_setCell_other Y ⟨bx, 1, none⟩ ⟨bx, 0, none⟩ _ (fun e => by cases e)]
  exact h.c0
/-- the phases as a caller reads them -/
theorem OwnI.ser {B : Nat} (h : OwnI B X v l) : ∃ p cap, v = .slice p l.length cap ∧ SliceIn p l.length (IntsAt X l) ∧ ∀ k o, p = some ⟨k, o, none⟩ → B ≤ k := by
  obtain ⟨p, cap, hv, hs, hb, -⟩ := ints_own h
  exact ⟨p, cap, hv, hs, hb⟩
theorem SliceIn.set {p : Option Addr} {n b o : Nat} {u : Value} (h : SliceIn p n (IntsAt X l)) (hb : ∀ k o, p = some ⟨k, o, none⟩ → b < k) : SliceIn p n (IntsAt (X.setCell ⟨b, o, none⟩ u) l) := by
  rcases h with h | ⟨k, q, hp, hi⟩
  · exact .inl h
  · refine .inr ⟨k, q, hp, fun i hl => ?_⟩
    rw [World.cell?_setCell_far _ _ _ _ (by show b ≠ k; have := hb k q hp; omega)]
    exact hi i hl
end Go.Proofs.YtemblamamgfodaaGreatDoor
