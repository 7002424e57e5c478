/- Rows of memory that Own makes: chambers, events, clocks; what they are good for when they are done. · The states of Own's loops, and how a round leads from one to the next. · What Own's walks need: the element types' rows of the table; what Own leaves. -/
import Derived.Test.YthegamfbigphkaaDoorBig
import Derived.Deep.AppendLies
import Derived.Maps.AppendAt
import Derived.Deep.RegionHeld3
import Derived.OwnWalk
import Derived.Laws.Pointers
namespace Go.Proofs.YthegamfbigphkaaDoor
section
open Go Go.RowKit
def chCells (c : Cham) : List Value := [.int .i64 c.base, .int .i64 c.swing, .int .i64 c.period]
def evCells (c : Evt) : List Value := [.int .i64 c.what, .int .i64 c.sec, .int .i64 c.size]
def clkCells (c : Clk) (v : Value) : List Value := [.int .i64 c.kind, .int .i64 c.phase, .int .i64 c.rate, .int .i64 c.drift, .int .i64 c.white, .int .i64 c.walk, .int .i64 c.heat, .int .i64 c.room, v]
def chRow (l : List Cham) : List Value := l.flatMap chCells
def evRow (l : List Evt) : List Value := l.flatMap evCells
def clRow (l : List (Clk × Value)) : List Value := l.flatMap fun x => clkCells x.1 x.2
theorem row_get {α : Type} (f : α → List Value) (m : Nat) (hm : ∀ x, (f x).length = m) : ∀ (l : List α) (i j : Nat) (hi : i < l.length), j < m → (l.flatMap f)[i * m + j]? = (f l[i])[j]?
  | [], i, _, hi, _ => absurd hi (by simp)
  | x :: l, 0, j, _, hj => by
    rw [List.flatMap_cons, Nat.zero_mul, Nat.zero_add, List.getElem?_append_left (by rw [hm]; exact hj)]; rfl
  | x :: l, i + 1, j, hi, hj => by
    have hi' : i < l.length := by simpa using hi
    have e : (i + 1) * m + j = m + (i * m + j) := by rw [Nat.add_mul]; omega
    rw [List.flatMap_cons, e, List.getElem?_append_right (by rw [hm]; omega), hm, Nat.add_sub_cancel_left, row_get f m hm l i j hi' hj]
    rfl
theorem row_snoc {α : Type} (f : α → List Value) (l : List α) (k : Nat) (h : k < l.length) : (l.take (k + 1)).flatMap f = (l.take k).flatMap f ++ f l[k] := by
  rw [List.take_succ_eq_append_getElem h, List.flatMap_append]; simp
theorem chRow_snoc (l : List Cham) (k : Nat) (h : k < l.length) : chRow (l.take (k + 1)) = chRow (l.take k) ++ chCells l[k] := row_snoc _ l k h
theorem evRow_snoc (l : List Evt) (k : Nat) (h : k < l.length) : evRow (l.take (k + 1)) = evRow (l.take k) ++ evCells l[k] := row_snoc _ l k h
section
variable {w w' : World} {b b' : Nat} {e e' : TypeId} {s s' : Nat} {v v' : Value} {n n' : Nat} {xs xs' : List Value}
theorem own_ne (h : w.ownsRow b e s v n xs) (h' : w.ownsRow b' e' s' v' n' xs') (hne : e ≠ e') : v.ownBlock = none ∨ v.ownBlock ≠ v'.ownBlock := by
  rcases h.2 with ⟨rfl, _⟩ | ⟨g, cap, cur, rfl, _, hg, _⟩
  · exact .inl rfl
  · right
    intro he
    rcases h'.2 with ⟨rfl, _⟩ | ⟨g', cap', cur', rfl, _, hg', _⟩
    · simp [Value.ownBlock] at he
    · simp [Value.ownBlock] at he
      subst he
      rw [hg] at hg'
      injection hg' with hg'
      injection hg' with _ h2
      exact hne h2
theorem own_far {g : Nat} {cs : Array Value} {t : TypeId} (h : w.ownsRow b e s v n xs) (hg : w.heap[g]? = some (.cells cs t (0, 0))) (hne : e ≠ t) : v.ownBlock ≠ some g := by
  rcases h.2 with ⟨rfl, _⟩ | ⟨g', cap, cur, rfl, _, hg', _⟩
  · simp [Value.ownBlock]
  · intro he
    simp [Value.ownBlock] at he
    subst he
    rw [hg] at hg'
    injection hg' with hg'
    injection hg' with _ h2
    exact hne h2.symm
theorem own_base (h : w.ownsRow b e s v n xs) (hb : b' ≤ b) : w.ownsRow b' e s v n xs := by
  refine ⟨h.1, ?_⟩
  rcases h.2 with hn | ⟨g, cap, cur, hv, hbg, rest⟩
  · exact .inl hn
  · exact .inr ⟨g, cap, cur, hv, by omega, rest⟩
theorem own_below {B : Nat} (h : w.ownsRow b e s v n xs) (hb : Below B w w') (hB : w.heap.size ≤ B) : w'.ownsRow b e s v n xs := by
  refine ⟨h.1, ?_⟩
  rcases h.2 with hn | ⟨g, cap, cur, hv, hbg, hg, rest⟩
  · exact .inl hn
  · exact .inr ⟨g, cap, cur, hv, hbg, (hb.block g (by have := heap_lt hg; omega)).trans hg, rest⟩
theorem own_set {p : Addr} (h : w.ownsRow b e s v n xs) (u : Value) (hne : v.ownBlock ≠ some p.block) : (w.setCell p u).ownsRow b e s v n xs := by
  refine ⟨h.1, ?_⟩
  rcases h.2 with hn | ⟨g, cap, cur, rfl, hbg, hg, rest⟩
  · exact .inl hn
  · refine .inr ⟨g, cap, cur, rfl, hbg, (Below.heap_setCell w p u g (fun he => ?_)).trans hg, rest⟩
    subst he
    exact hne rfl
theorem blk_grown {g : Nat} {o : Obj} {row : Option Nat} (hg : w.heap[g]? = some o) (h : w.grownBy w' row) (hne : row ≠ some g) : w'.heap[g]? = some o := (h.block g (heap_lt hg) (Ne.symm hne)).trans hg
theorem blk_set_far {g : Nat} {o : Obj} {p : Addr} (u : Value) (hg : w.heap[g]? = some o) (hne : g ≠ p.block) : (w.setCell p u).heap[g]? = some o := (Below.heap_setCell w p u g hne).trans hg
theorem blk_set {g : Nat} {cs : Array Value} {t : TypeId} (i : Nat) (u : Value) (hg : w.heap[g]? = some (.cells cs t (0, 0))) : (w.setCell ⟨g, i, none⟩ u).heap[g]? = some (.cells (cs.setIfInBounds i u) t (0, 0)) := by
  simp [World.setCell, Array.getElem?_modify, hg]
theorem blk_below {B g : Nat} {o : Obj} (hg : w.heap[g]? = some o) (hb : Below B w w') (h : g < B) : w'.heap[g]? = some o := (hb.block g h).trans hg
theorem blk_alloc {g : Nat} {o : Obj} (hg : w.heap[g]? = some o) (x : Obj) : (w.alloc x).heap[g]? = some o := (Below.heap_alloc w x g (heap_lt hg)).trans hg
theorem blk_cell {g : Nat} {cs : Array Value} {t : TypeId} (hg : w.heap[g]? = some (.cells cs t (0, 0))) (i : Nat) (u : Value) (h : cs[i]? = some u) : w.cell? ⟨g, i, none⟩ = some u := (cell_of_row w g i cs t (0, 0) hg).trans h
theorem blk_free {g : Nat} {cs : Array Value} {t : TypeId} (hg : w.heap[g]? = some (.cells cs t (0, 0))) (i : Nat) : w.frozen? ⟨g, i, none⟩ = false := by
  simp [World.frozen?, hg]
/-- the cells of a row that is owned -/
theorem own_cells {g : Nat} {cap : Nat} (h : w.ownsRow b e s (.slice (some ⟨g, 0, none⟩) n cap) n' xs) (j : Nat) (u : Value) (hj : xs[j]? = some u) : w.cell? ⟨g, 0 + j, none⟩ = some u := by
  have := h.cells (g := g) rfl j u hj
  rwa [add_plain] at this
end
theorem chams_own {w : World} {b : Nat} {v : Value} {l : List Cham} (h : w.ownsRow b 90 3 v l.length (chRow l)) : ∃ p cap, v = .slice p l.length cap ∧ SliceIn p l.length (ChamsAt w l) := by
  rcases h.2 with ⟨rfl, h0⟩ | ⟨g, cap, cur, rfl, _⟩
  · exact ⟨none, 0, by rw [h0], .inl h0⟩
  · refine ⟨_, cap, rfl, .inr ⟨g, 0, rfl, fun i hi => ⟨?_, ?_, ?_⟩⟩⟩
    · exact own_cells h (i * 3 + 0) _ (row_get chCells 3 (fun _ => rfl) l i 0 hi (by decide))
    · rw [Nat.add_assoc]; exact own_cells h (i * 3 + 1) _ (row_get chCells 3 (fun _ => rfl) l i 1 hi (by decide))
    · rw [Nat.add_assoc]; exact own_cells h (i * 3 + 2) _ (row_get chCells 3 (fun _ => rfl) l i 2 hi (by decide))
theorem evts_own {w : World} {b : Nat} {v : Value} {l : List Evt} (hm : l.length ≤ maxLen) (h : w.ownsRow b 89 3 v l.length (evRow l)) : EvSlice w l v := by
  rcases h.2 with ⟨rfl, h0⟩ | ⟨g, cap, cur, rfl, _⟩
  · exact ⟨none, 0, by rw [h0], hm, .inl h0⟩
  · refine ⟨_, cap, rfl, hm, .inr ⟨g, 0, rfl, fun i hi => ⟨?_, ?_, ?_⟩⟩⟩
    · exact own_cells h (i * 3 + 0) _ (row_get evCells 3 (fun _ => rfl) l i 0 hi (by decide))
    · rw [Nat.add_assoc]; exact own_cells h (i * 3 + 1) _ (row_get evCells 3 (fun _ => rfl) l i 1 hi (by decide))
    · rw [Nat.add_assoc]; exact own_cells h (i * 3 + 2) _ (row_get evCells 3 (fun _ => rfl) l i 2 hi (by decide))
theorem clks_own {w : World} {b : Nat} {v : Value} {l : List (Clk × Value)} (h : w.ownsRow b 86 9 v l.length (clRow l)) (he : ∀ x ∈ l, EvSlice w x.1.evs x.2) :
    ∃ p cap, v = .slice p l.length cap ∧ SliceIn p l.length (ClksAt w (l.map (·.1))) := by
  rcases h.2 with ⟨rfl, h0⟩ | ⟨g, cap, cur, rfl, _⟩
  · exact ⟨none, 0, by rw [h0], .inl h0⟩
  · refine ⟨_, cap, rfl, .inr ⟨g, 0, rfl, fun i hi => ?_⟩⟩
    have hi' : i < l.length := by simpa using hi
    have c := fun j (hj : j < 9) (u : Value) (hu : (clkCells l[i].1 l[i].2)[j]? = some u) => own_cells h (i * 9 + j) u ((row_get (fun x : Clk × Value => clkCells x.1 x.2) 9 (fun _ => rfl) l i j hi' hj).trans hu)
    have e : (l.map (·.1))[i] = l[i].1 := by simp
    rw [e]
    refine ⟨⟨?_, ?_, ?_, ?_, ?_, ?_, ?_, ?_⟩, l[i].2, ?_, he _ (List.getElem_mem hi')⟩
    · exact c 0 (by decide) _ rfl
    · rw [Nat.add_assoc]; exact c 1 (by decide) _ rfl
    · rw [Nat.add_assoc]; exact c 2 (by decide) _ rfl
    · rw [Nat.add_assoc]; exact c 3 (by decide) _ rfl
    · rw [Nat.add_assoc]; exact c 4 (by decide) _ rfl
    · rw [Nat.add_assoc]; exact c 5 (by decide) _ rfl
    · rw [Nat.add_assoc]; exact c 6 (by decide) _ rfl
    · rw [Nat.add_assoc]; exact c 7 (by decide) _ rfl
    · rw [Nat.add_assoc]; exact c 8 (by decide) _ rfl
end
section
open Go Go.RowKit
theorem below_alloc' {X Y : World} (h : Below X.heap.size X Y) (o : Obj) : Below X.heap.size X (Y.alloc o) := h.alloc h.size o
/-- the argument's box, the result's, and what is being made, after some chambers and clocks -/
structure OwnAt (w wr : World) (W : Wld) (p1 p2 : Option Addr) (c1 c2 : Nat) (v1 v2 : Value) : Prop where
  par : wr.heap[w.heap.size]? = some (.cells #[.int .u64 W.seed, .slice p1 W.chs.length c1, .slice p2 W.cls.length c2] 26 (0, 0))
  res : wr.heap[w.heap.size + 1]? = some (.cells #[.int .u64 0, .slice none 0 0, .slice none 0 0] 32 (0, 0))
  out : wr.heap[w.heap.size + 1 + 1]? = some (.cells #[.int .u64 W.seed, v1, v2] 32 (0, 0))
  bel : Below w.heap.size w wr
  big : w.heap.size + 3 ≤ wr.heap.size
variable {w wr wq w1 : World} {W : Wld} {p1 p2 : Option Addr} {c1 c2 : Nat} {v1 v2 v1' v2' v3 : Value}
theorem OwnAt.below (h : OwnAt w wr W p1 p2 c1 c2 v1 v2) (hb : Below wr.heap.size wr wq) : OwnAt w wq W p1 p2 c1 c2 v1 v2 :=
  ⟨blk_below h.par hb (by have := h.big; omega), blk_below h.res hb (by have := h.big; omega), blk_below h.out hb (by have := h.big; omega), h.bel.trans (hb.mono h.bel.size), Nat.le_trans h.big hb.size⟩
theorem below_grown {row : Option Nat} {X Y Z : World} (h : Below X.heap.size X Y) (hg : Y.grownBy Z row) (hr : ∀ g, row = some g → X.heap.size ≤ g) : Below X.heap.size X Z := h.grown hg h.size (fun g hx => hr g hx)
theorem OwnAt.store1 {o : Obj} (h : OwnAt w wr W p1 p2 c1 c2 v1 v2) (hg : (wr.alloc o).grownBy w1 v1.ownBlock) (hlo : ∀ g, v1.ownBlock = some g → w.heap.size + 3 ≤ g) :
    OwnAt w (w1.setCell ⟨w.heap.size + 1 + 1, 1, none⟩ v1') W p1 p2 c1 c2 v1' v2 := by
  have hs := hg.size
  have hb := h.big
  simp at hs
  have f : ∀ g, g < w.heap.size + 3 → v1.ownBlock ≠ some g := fun g hlt he => by have := hlo g he; omega
  refine ⟨blk_set_far _ (blk_grown (blk_alloc h.par o) hg (f _ (by omega))) (by dsimp only; omega), blk_set_far _ (blk_grown (blk_alloc h.res o) hg (f _ (by omega))) (by dsimp only; omega), ?_, ?_, by simpa using (by omega : w.heap.size + 3 ≤ w1.heap.size)⟩
  · have := blk_set 1 v1' (blk_grown (blk_alloc h.out o) hg (f _ (by omega)))
    simpa using this
  · exact (below_grown (below_alloc' h.bel o) hg (fun g hx => by have := hlo g hx; omega)).setCell (by dsimp only; omega) _
theorem OwnAt.store2 {o : Obj} (h : OwnAt w wr W p1 p2 c1 c2 v1 v2) (hg : (wr.alloc o).grownBy w1 v2.ownBlock) (hlo : ∀ g, v2.ownBlock = some g → w.heap.size + 3 ≤ g) :
    OwnAt w (w1.setCell ⟨w.heap.size + 1 + 1, 2, none⟩ v2') W p1 p2 c1 c2 v1 v2' := by
  have hs := hg.size
  have hb := h.big
  simp at hs
  have f : ∀ g, g < w.heap.size + 3 → v2.ownBlock ≠ some g := fun g hlt he => by have := hlo g he; omega
  refine ⟨blk_set_far _ (blk_grown (blk_alloc h.par o) hg (f _ (by omega))) (by dsimp only; omega), blk_set_far _ (blk_grown (blk_alloc h.res o) hg (f _ (by omega))) (by dsimp only; omega), ?_, ?_, by simpa using (by omega : w.heap.size + 3 ≤ w1.heap.size)⟩
  · have := blk_set 2 v2' (blk_grown (blk_alloc h.out o) hg (f _ (by omega)))
    simpa using this
  · exact (below_grown (below_alloc' h.bel o) hg (fun g hx => by have := hlo g hx; omega)).setCell (by dsimp only; omega) _
/-- behind an append the box is as it was -/
theorem OwnAt.boxed {o : Obj} {v : Value} (h : OwnAt w wr W p1 p2 c1 c2 v1 v2) (hg : (wr.alloc o).grownBy w1 v.ownBlock) (hlo : ∀ g, v.ownBlock = some g → w.heap.size + 3 ≤ g) :
    (w1.cell? ⟨w.heap.size + 1 + 1, 1, none⟩ = some v1 ∧ w1.frozen? ⟨w.heap.size + 1 + 1, 1, none⟩ = false) ∧ (w1.cell? ⟨w.heap.size + 1 + 1, 2, none⟩ = some v2 ∧ w1.frozen? ⟨w.heap.size + 1 + 1, 2, none⟩ = false) := by
  have e := blk_grown (blk_alloc h.out o) hg (fun he => by have := hlo _ he; omega)
  exact ⟨⟨blk_cell e 1 _ rfl, blk_free e 1⟩, blk_cell e 2 _ rfl, blk_free e 2⟩
/-- the chambers made so far -/
structure Own1 (w wr : World) (W : Wld) (p1 p2 : Option Addr) (c1 c2 : Nat) (k : Nat) (v1 : Value) : Prop where
  at_ : OwnAt w wr W p1 p2 c1 c2 v1 (.slice none 0 0)
  row : wr.ownsRow (w.heap.size + 3) 90 3 v1 k (chRow (W.chs.take k))
theorem own1_start (w : World) (W : Wld) (p1 p2 : Option Addr) (c1 c2 : Nat) :
    Own1 w (((w.alloc (.cells #[.int .u64 W.seed, .slice p1 W.chs.length c1, .slice p2 W.cls.length c2] 26)).alloc (.cells #[.int .u64 0, .slice none 0 0, .slice none 0 0] 32)).alloc (.cells #[.int .u64 W.seed, .slice none 0 0, .slice none 0 0] 32))
      W p1 p2 c1 c2 0 (.slice none 0 0) := by
  refine ⟨⟨blk_alloc (blk_alloc (heap_alloc_new w _) _) _, blk_alloc ?_ _, ?_, ?_, by simp⟩, World.ownsRow_nil _ _ _ _⟩
  · have := heap_alloc_new (w.alloc (.cells #[.int .u64 W.seed, .slice p1 W.chs.length c1, .slice p2 W.cls.length c2] 26)) (.cells #[.int .u64 0, .slice none 0 0, .slice none 0 0] 32)
    simpa using this
  · have := heap_alloc_new ((w.alloc (.cells #[.int .u64 W.seed, .slice p1 W.chs.length c1, .slice p2 W.cls.length c2] 26)).alloc (.cells #[.int .u64 0, .slice none 0 0, .slice none 0 0] 32)) (.cells #[.int .u64 W.seed, .slice none 0 0, .slice none 0 0] 32)
    simpa using this
  · exact below_alloc' (below_alloc' (below_alloc' (Below.refl _ _) _) _) _
theorem Own1.next {o : Obj} {k : Nat} (h : Own1 w wr W p1 p2 c1 c2 k v1) (hk : k < W.chs.length) (hown : w1.ownsRow (w.heap.size + 3) 90 3 v1' (k + 1) (chRow (W.chs.take k) ++ chCells W.chs[k]))
    (hg : (wr.alloc o).grownBy w1 v1.ownBlock) : Own1 w (w1.setCell ⟨w.heap.size + 1 + 1, 1, none⟩ v1') W p1 p2 c1 c2 (k + 1) v1' := by
  have hlo : ∀ g, v1.ownBlock = some g → w.heap.size + 3 ≤ g := fun g hx => (h.row.lt g hx).1
  refine ⟨h.at_.store1 hg hlo, ?_⟩
  rw [chRow_snoc _ _ hk]
  exact own_set hown _ (fun he => by have := (hown.lt _ he).1; dsimp only at this; omega)
/-- the clocks made so far -/
structure Own2 (w wr : World) (W : Wld) (p1 p2 : Option Addr) (c1 c2 : Nat) (k : Nat) (v1 v2 : Value) (l : List (Clk × Value)) : Prop where
  at_ : OwnAt w wr W p1 p2 c1 c2 v1 v2
  row1 : wr.ownsRow (w.heap.size + 3) 90 3 v1 W.chs.length (chRow W.chs)
  row2 : wr.ownsRow (w.heap.size + 3) 86 9 v2 k (clRow l)
  evs : ∀ x ∈ l, wr.ownsRow (w.heap.size + 3) 89 3 x.2 x.1.evs.length (evRow x.1.evs)
  done : l.map (·.1) = W.cls.take k
theorem Own1.start2 (h : Own1 w wr W p1 p2 c1 c2 W.chs.length v1) : Own2 w wr W p1 p2 c1 c2 0 v1 (.slice none 0 0) [] :=
  ⟨h.at_, by have := h.row; rwa [List.take_length] at this, World.ownsRow_nil _ _ _ _, (fun _ hx => by cases hx), rfl⟩
theorem Own2.below {k : Nat} {l : List (Clk × Value)} (h : Own2 w wr W p1 p2 c1 c2 k v1 v2 l) (hb : Below wr.heap.size wr wq) : Own2 w wq W p1 p2 c1 c2 k v1 v2 l :=
  ⟨h.at_.below hb, own_below h.row1 hb (Nat.le_refl _), own_below h.row2 hb (Nat.le_refl _), fun x hx => own_below (h.evs x hx) hb (Nat.le_refl _), h.done⟩
theorem Own2.next {o : Obj} {k : Nat} {l : List (Clk × Value)} (h : Own2 w wq W p1 p2 c1 c2 k v1 v2 l) (hk : k < W.cls.length) (hv : wq.ownsRow (w.heap.size + 3) 89 3 v3 W.cls[k].evs.length (evRow W.cls[k].evs))
    (hown : w1.ownsRow (w.heap.size + 3) 86 9 v2' (k + 1) (clRow l ++ clkCells W.cls[k] v3)) (hg : (wq.alloc o).grownBy w1 v2.ownBlock) :
    Own2 w (w1.setCell ⟨w.heap.size + 1 + 1, 2, none⟩ v2') W p1 p2 c1 c2 (k + 1) v1 v2' (l ++ [(W.cls[k], v3)]) := by
  have hlo : ∀ g, v2.ownBlock = some g → w.heap.size + 3 ≤ g := fun g hx => (h.row2.lt g hx).1
  have far : ∀ {v : Value} {n : Nat} {xs : List Value} {e : TypeId} {s : Nat}, e ≠ 86 → wq.ownsRow (w.heap.size + 3) e s v n xs → (w1.setCell ⟨w.heap.size + 1 + 1, 2, none⟩ v2').ownsRow (w.heap.size + 3) e s v n xs := by
    intro v n xs e s hne ho
    refine own_set ((ho.alloc o).kept hg (own_ne (ho.alloc o) (h.row2.alloc o) hne)) _ (fun he => ?_)
    have := (ho.lt _ he).1
    dsimp only at this; omega
  refine ⟨h.at_.store2 hg hlo, far (by decide) h.row1, ?_, ?_, ?_⟩
  · have : clRow (l ++ [(W.cls[k], v3)]) = clRow l ++ clkCells W.cls[k] v3 := by simp [clRow]
    rw [this]
    exact own_set hown _ (fun he => by have := (hown.lt _ he).1; dsimp only at this; omega)
  · intro x hx
    rcases List.mem_append.1 hx with hx | hx
    · exact far (by decide) (h.evs x hx)
    · obtain rfl := List.mem_singleton.1 hx
      exact far (by decide) hv
  · rw [List.map_append, h.done, List.take_succ_eq_append_getElem hk]; rfl
/-- the events of one clock made so far: wr is the world at the round's head -/
structure Own3 (wr wq : World) (c : Clk) (u : Value) (j : Nat) (v3 : Value) : Prop where
  xbox : wq.heap[wr.heap.size]? = some (.cells (clkCells c u).toArray 73 (0, 0))
  cbox : wq.heap[wr.heap.size + 1]? = some (.cells (clkCells c v3).toArray 86 (0, 0))
  row : wq.ownsRow (wr.heap.size + 2) 89 3 v3 j (evRow (c.evs.take j))
  bel : Below wr.heap.size wr wq
  big : wr.heap.size + 2 ≤ wq.heap.size
theorem own3_start (wr : World) (c : Clk) (u : Value) : Own3 wr ((wr.alloc (.cells (clkCells c u).toArray 73)).alloc (.cells (clkCells c (.slice none 0 0)).toArray 86)) c u 0 (.slice none 0 0) := by
  refine ⟨blk_alloc (heap_alloc_new wr _) _, ?_, World.ownsRow_nil _ _ _ _, below_alloc' (below_alloc' (Below.refl _ _) _) _, by simp⟩
  have := heap_alloc_new (wr.alloc (.cells (clkCells c u).toArray 73)) (.cells (clkCells c (.slice none 0 0)).toArray 86)
  simpa using this
theorem Own3.next {o : Obj} {n : Nat} {c : Clk} {u v3' : Value} {j : Nat} (h : Own3 wr wq c u j v3) (hj : j < c.evs.length) (hown : w1.ownsRow (wr.heap.size + 2) 89 3 v3' (j + 1) (evRow (c.evs.take j) ++ evCells c.evs[j]))
    (hg : ((wq.alloc o).drewN n).grownBy w1 v3.ownBlock) : Own3 wr (w1.setCell ⟨wr.heap.size + 1, 8, none⟩ v3') c u (j + 1) v3' := by
  have hlo : ∀ g, v3.ownBlock = some g → wr.heap.size + 2 ≤ g := fun g hx => (h.row.lt g hx).1
  have hs := hg.size
  have hb := h.big
  simp at hs
  have f : ∀ g, g < wr.heap.size + 2 → v3.ownBlock ≠ some g := fun g hlt he => by have := hlo g he; omega
  refine ⟨blk_set_far _ (blk_grown (w := (wq.alloc o).drewN n) (blk_alloc h.xbox o) hg (f _ (by omega))) (by simp), ?_, ?_, ?_, by simpa using (by omega : wr.heap.size + 2 ≤ w1.heap.size)⟩
  · have := blk_set 8 v3' (blk_grown (w := (wq.alloc o).drewN n) (blk_alloc h.cbox o) hg (f _ (by omega)))
    simpa [clkCells] using this
  · rw [evRow_snoc _ _ hj]
    exact own_set hown _ (fun he => by have := (hown.lt _ he).1; dsimp only at this; omega)
  · exact (below_grown (below_drewN (below_alloc' h.bel o) n) hg (fun g hx => by have := hlo g hx; omega)).setCell (by simp) _
/-- behind an append both boxes are as they were -/
theorem Own3.boxed {o : Obj} {n : Nat} {c : Clk} {u : Value} {j : Nat} (h : Own3 wr wq c u j v3) (hg : ((wq.alloc o).drewN n).grownBy w1 v3.ownBlock) :
    w1.cell? ⟨wr.heap.size + 1, 8, none⟩ = some v3 ∧ w1.frozen? ⟨wr.heap.size + 1, 8, none⟩ = false := by
  have hlo : ∀ g, v3.ownBlock = some g → wr.heap.size + 2 ≤ g := fun g hx => (h.row.lt g hx).1
  have e := blk_grown (w := (wq.alloc o).drewN n) (blk_alloc h.cbox o) hg (fun he => by have := hlo _ he; omega)
  exact ⟨blk_cell e 8 _ rfl, blk_free e 8⟩
theorem Own3.far {c : Clk} {u : Value} {j : Nat} (h : Own3 wr wq c u j v3) {g : Nat} (hg : g < wr.heap.size + 2) : v3.ownBlock ≠ some g := fun he => by
  have := (h.row.lt g he).1; omega
theorem Own3.done {c : Clk} {u : Value} (h : Own3 wr wq c u c.evs.length v3) : wq.ownsRow (wr.heap.size + 2) 89 3 v3 c.evs.length (evRow c.evs) := by
  have := h.row; rwa [List.take_length] at this
theorem own_one {b : Nat} {e : TypeId} {s : Nat} {v : Value} {n : Nat} {xs : List Value} {w : World} (h : w.ownsRow b e s v n xs) : v.oneCell' = true := by
  rcases h.2 with ⟨rfl, _⟩ | ⟨g, cap, cur, rfl, _⟩ <;> rfl
theorem Own2.world {l : List (Clk × Value)} (h : Own2 w wr W p1 p2 c1 c2 W.cls.length v1 v2 l) (x y z : Value) (h1 : W.chs.length ≤ maxLen) (h2 : W.cls.length ≤ maxLen) (h3 : ∀ k, (hk : k < W.cls.length) → W.cls[k].evs.length ≤ maxLen) :
    ∃ q1 q2 d1 d2, v1 = .slice q1 W.chs.length d1 ∧ v2 = .slice q2 W.cls.length d2 ∧ WldIn (((wr.setCell ⟨w.heap.size + 1, 0, none⟩ x).setCell ⟨w.heap.size + 1, 1, none⟩ y).setCell ⟨w.heap.size + 1, 2, none⟩ z) W q1 q2 := by
  have st : ∀ {v : Value} {n : Nat} {xs : List Value} {e : TypeId} {s : Nat}, wr.ownsRow (w.heap.size + 3) e s v n xs →
      (((wr.setCell ⟨w.heap.size + 1, 0, none⟩ x).setCell ⟨w.heap.size + 1, 1, none⟩ y).setCell ⟨w.heap.size + 1, 2, none⟩ z).ownsRow (w.heap.size + 3) e s v n xs := by
    intro v n xs e s ho
    have hf : v.ownBlock ≠ some (w.heap.size + 1) := fun he => by have := (ho.lt _ he).1; omega
    exact own_set (own_set (own_set ho x hf) y hf) z hf
  obtain ⟨q1, d1, rfl, s1⟩ := chams_own (st h.row1)
  have hd := h.done
  rw [List.take_length] at hd
  have hlen : l.length = W.cls.length := by rw [← hd, List.length_map]
  have r2 := st h.row2
  rw [← hlen] at r2
  obtain ⟨q2, d2, rfl, s2⟩ := clks_own r2 fun x hx => by
    have hxc : x.1 ∈ W.cls := by rw [← hd]; exact List.mem_map_of_mem hx
    obtain ⟨k, hk, he⟩ := List.getElem_of_mem hxc
    refine evts_own ?_ (st (h.evs x hx))
    have := h3 k hk
    rwa [he] at this
  rw [hlen] at s2 ⊢
  rw [hd] at s2
  exact ⟨q1, q2, d1, d2, rfl, rfl, h1, h2, s1, s2⟩
end
section
open Go Go.RowKit
theorem infoCh : (Tryd.prog.info? 90).map (fun i => (i.zero, i.size, i.bytes)) = some (some (.agg #[.int .i64 0, .int .i64 0, .int .i64 0]), 3, 24) := by kernel_rfl
theorem infoEv : (Tryd.prog.info? 89).map (fun i => (i.zero, i.size, i.bytes)) = some (some (.agg #[.int .i64 0, .int .i64 0, .int .i64 0]), 3, 24) := by kernel_rfl
theorem infoCl : (Tryd.prog.info? 86).map (fun i => (i.zero, i.size, i.bytes)) = some (some (.agg #[.int .i64 0, .int .i64 0, .int .i64 0, .int .i64 0, .int .i64 0, .int .i64 0, .int .i64 0, .int .i64 0, .slice none 0 0]), 9, 88) := by kernel_rfl
theorem set_far {w : World} {b o b' o' : Nat} {u v : Value} (h : w.cell? ⟨b, o, none⟩ = some v) (hne : b' ≠ b) : (w.setCell ⟨b', o', none⟩ u).cell? ⟨b, o, none⟩ = some v := by
  rw [World.cell?_setCell_other w ⟨b', o', none⟩ ⟨b, o, none⟩ u (fun e => by cases e; exact hne rfl)]; exact h
/-- what Own leaves -/
def Owned (w : World) (W : Wld) (e : Ending) (w' : World) : Prop :=
  ∃ q1 q2 d1 d2, e = .returned (.agg #[.int .u64 W.seed, .slice q1 W.chs.length d1, .slice q2 W.cls.length d2]) ∧ WldIn w' W q1 q2 ∧ Below w.heap.size w w'
end
end Go.Proofs.YthegamfbigphkaaDoor
