/- Rows of memory that Own makes: chambers, events, clocks; what they are good for when they are done. · The states of Own's loops, and how a round leads from one to the next. · What Own's walks need: the element types' rows of the table; what Own leaves. · Contract: Own, of a world with chambers and clocks. -/
import Derived.Test.YtmfpnfdoidihcaaDoorVd
import Derived.Deep.AppendLies
import Derived.Maps.AppendAt
import Derived.Deep.RegionHeld3
import Derived.OwnWalk
import Derived.Laws.Pointers
namespace Go.Proofs.YtmfpnfdoidihcaaDoor.Wd
section
open Go Go.RowKit
def chCells (c : Cham) : List Value := [.int .i64 c.base, .int .i64 c.swing, .int .i64 c.period]
def evCells (c : Evt) : List Value := [.int .i64 c.what, .int .i64 c.sec, .int .i64 c.size]
def clkCells (c : Clk) (v : Value) : List Value := [.int .i64 c.kind, .int .i64 c.phase, .int .i64 c.rate, .int .i64 c.drift, .int .i64 c.white, .int .i64 c.walk, .int .i64 c.heat, .int .i64 c.room, v]
def chRow (l : List Cham) : List Value := l.flatMap chCells
def evRow (l : List Evt) : List Value := l.flatMap evCells
def clRow (l : List (Clk × Value)) : List Value := l.flatMap fun x => clkCells x.1 x.2
theorem row_get {α : Type} (f : α → List Value) (m : Nat) (hm : ∀ x, (f x).length = m) : ∀ (l : List α) (i j : Nat) (hi : i < l.length), j < m → (l.flatMap f)[i * m + j]? = (f l[i])[j]?
  | [], i, _, hi, _ => absurd hi (by simp)
  | x :: l, 0, j, _, hj => by
    rw [List.flatMap_cons, Nat.zero_mul, Nat.zero_add, List.getElem?_append_left (by rw [hm]; exact hj)]; rfl
  | x :: l, i + 1, j, hi, hj => by
    have hi' : i < l.length := by simpa using hi
    have e : (i + 1) * m + j = m + (i * m + j) := by rw [Nat.add_mul]; omega
    rw [List.flatMap_cons, e, List.getElem?_append_right (by rw [hm]; omega), hm, Nat.add_sub_cancel_left, row_get f m hm l i j hi' hj]
    rfl
theorem row_snoc {α : Type} (f : α → List Value) (l : List α) (k : Nat) (h : k < l.length) : (l.take (k + 1)).flatMap f = (l.take k).flatMap f ++ f l[k] := by
  rw [List.take_succ_eq_append_getElem h, List.flatMap_append]; simp
theorem chRow_snoc (l : List Cham) (k : Nat) (h : k < l.length) : chRow (l.take (k + 1)) = chRow (l.take k) ++ chCells l[k] := row_snoc _ l k h
theorem evRow_snoc (l : List Evt) (k : Nat) (h : k < l.length) : evRow (l.take (k + 1)) = evRow (l.take k) ++ evCells l[k] := row_snoc _ l k h
section
variable {w w' : World} {b b' : Nat} {e e' : TypeId} {s s' : Nat} {v v' : Value} {n n' : Nat} {xs xs' : List Value}
theorem own_ne (h : w.ownsRow b e s v n xs) (h' : w.ownsRow b' e' s' v' n' xs') (hne : e ≠ e') : v.ownBlock = none ∨ v.ownBlock ≠ v'.ownBlock := by
  rcases h.2 with ⟨rfl, _⟩ | ⟨g, cap, cur, rfl, _, hg, _⟩
  · exact .inl rfl
  · right
    intro he
    rcases h'.2 with ⟨rfl, _⟩ | ⟨g', cap', cur', rfl, _, hg', _⟩
    · simp [Value.ownBlock] at he
    · simp [Value.ownBlock] at he
      subst he
      rw [hg] at hg'
      injection hg' with hg'
      injection hg' with _ h2
      exact hne h2
theorem own_far {g : Nat} {cs : Array Value} {t : TypeId} (h : w.ownsRow b e s v n xs) (hg : w.heap[g]? = some (.cells cs t (0, 0))) (hne : e ≠ t) : v.ownBlock ≠ some g := by
  rcases h.2 with ⟨rfl, _⟩ | ⟨g', cap, cur, rfl, _, hg', _⟩
  · simp [Value.ownBlock]
  · intro he
    simp [Value.ownBlock] at he
    subst he
    rw [hg] at hg'
    injection hg' with hg'
    injection hg' with _ h2
    exact hne h2.symm
theorem own_base (h : w.ownsRow b e s v n xs) (hb : b' ≤ b) : w.ownsRow b' e s v n xs := by
  refine ⟨h.1, ?_⟩
  rcases h.2 with hn | ⟨g, cap, cur, hv, hbg, rest⟩
  · exact .inl hn
  · exact .inr ⟨g, cap, cur, hv, by omega, rest⟩
theorem own_below {B : Nat} (h : w.ownsRow b e s v n xs) (hb : Below B w w') (hB : w.heap.size ≤ B) : w'.ownsRow b e s v n xs := by
  refine ⟨h.1, ?_⟩
  rcases h.2 with hn | ⟨g, cap, cur, hv, hbg, hg, rest⟩
  · exact .inl hn
  · exact .inr ⟨g, cap, cur, hv, hbg, (hb.block g (by have := heap_lt hg; omega)).trans hg, rest⟩
theorem own_set {p : Addr} (h : w.ownsRow b e s v n xs) (u : Value) (hne : v.ownBlock ≠ some p.block) : (w.setCell p u).ownsRow b e s v n xs := by
  refine ⟨h.1, ?_⟩
  rcases h.2 with hn | ⟨g, cap, cur, rfl, hbg, hg, rest⟩
  · exact .inl hn
  · refine .inr ⟨g, cap, cur, rfl, hbg, (Below.heap_setCell w p u g (fun he => ?_)).trans hg, rest⟩
    subst he
    exact hne rfl
theorem blk_grown {g : Nat} {o : Obj} {row : Option Nat} (hg : w.heap[g]? = some o) (h : w.grownBy w' row) (hne : row ≠ some g) : w'.heap[g]? = some o := (h.block g (heap_lt hg) (Ne.symm hne)).trans hg
theorem blk_set_far {g : Nat} {o : Obj} {p : Addr} (u : Value) (hg : w.heap[g]? = some o) (hne : g ≠ p.block) : (w.setCell p u).heap[g]? = some o := (Below.heap_setCell w p u g hne).trans hg
theorem blk_set {g : Nat} {cs : Array Value} {t : TypeId} (i : Nat) (u : Value) (hg : w.heap[g]? = some (.cells cs t (0, 0))) : (w.setCell ⟨g, i, none⟩ u).heap[g]? = some (.cells (cs.setIfInBounds i u) t (0, 0)) := by
  simp [World.setCell, Array.getElem?_modify, hg]
theorem blk_below {B g : Nat} {o : Obj} (hg : w.heap[g]? = some o) (hb : Below B w w') (h : g < B) : w'.heap[g]? = some o := (hb.block g h).trans hg
theorem blk_alloc {g : Nat} {o : Obj} (hg : w.heap[g]? = some o) (x : Obj) : (w.alloc x).heap[g]? = some o := (Below.heap_alloc w x g (heap_lt hg)).trans hg
theorem blk_cell {g : Nat} {cs : Array Value} {t : TypeId} (hg : w.heap[g]? = some (.cells cs t (0, 0))) (i : Nat) (u : Value) (h : cs[i]? = some u) : w.cell? ⟨g, i, none⟩ = some u := (cell_of_row w g i cs t (0, 0) hg).trans h
theorem blk_free {g : Nat} {cs : Array Value} {t : TypeId} (hg : w.heap[g]? = some (.cells cs t (0, 0))) (i : Nat) : w.frozen? ⟨g, i, none⟩ = false := by
  simp [World.frozen?, hg]
/-- the cells of a row that is owned -/
theorem own_cells {g : Nat} {cap : Nat} (h : w.ownsRow b e s (.slice (some ⟨g, 0, none⟩) n cap) n' xs) (j : Nat) (u : Value) (hj : xs[j]? = some u) : w.cell? ⟨g, 0 + j, none⟩ = some u := by
  have := h.cells (g := g) rfl j u hj
  rwa [add_plain] at this
end
theorem chams_own {w : World} {b : Nat} {v : Value} {l : List Cham} (h : w.ownsRow b 71 3 v l.length (chRow l)) : ∃ p cap, v = .slice p l.length cap ∧ SliceIn p l.length (ChamsAt w l) := by
  rcases h.2 with ⟨rfl, h0⟩ | ⟨g, cap, cur, rfl, _⟩
  · exact ⟨none, 0, by rw [h0], .inl h0⟩
  · refine ⟨_, cap, rfl, .inr ⟨g, 0, rfl, fun i hi => ⟨?_, ?_, ?_⟩⟩⟩
    · exact own_cells h (i * 3 + 0) _ (row_get chCells 3 (fun _ => rfl) l i 0 hi (by decide))
    · rw [Nat.add_assoc]; exact own_cells h (i * 3 + 1) _ (row_get chCells 3 (fun _ => rfl) l i 1 hi (by decide))
    · rw [Nat.add_assoc]; exact own_cells h (i * 3 + 2) _ (row_get chCells 3 (fun _ => rfl) l i 2 hi (by decide))
theorem evts_own {w : World} {b : Nat} {v : Value} {l : List Evt} (hm : l.length ≤ maxLen) (h : w.ownsRow b 81 3 v l.length (evRow l)) : EvSlice w l v := by
  rcases h.2 with ⟨rfl, h0⟩ | ⟨g, cap, cur, rfl, _⟩
  · exact ⟨none, 0, by rw [h0], hm, .inl h0⟩
  · refine ⟨_, cap, rfl, hm, .inr ⟨g, 0, rfl, fun i hi => ⟨?_, ?_, ?_⟩⟩⟩
    · exact own_cells h (i * 3 + 0) _ (row_get evCells 3 (fun _ => rfl) l i 0 hi (by decide))
    · rw [Nat.add_assoc]; exact own_cells h (i * 3 + 1) _ (row_get evCells 3 (fun _ => rfl) l i 1 hi (by decide))
    · rw [Nat.add_assoc]; exact own_cells h (i * 3 + 2) _ (row_get evCells 3 (fun _ => rfl) l i 2 hi (by decide))
theorem clks_own {w : World} {b : Nat} {v : Value} {l : List (Clk × Value)} (h : w.ownsRow b 76 9 v l.length (clRow l)) (he : ∀ x ∈ l, EvSlice w x.1.evs x.2) :
    ∃ p cap, v = .slice p l.length cap ∧ SliceIn p l.length (ClksAt w (l.map (·.1))) := by
  rcases h.2 with ⟨rfl, h0⟩ | ⟨g, cap, cur, rfl, _⟩
  · exact ⟨none, 0, by rw [h0], .inl h0⟩
  · refine ⟨_, cap, rfl, .inr ⟨g, 0, rfl, fun i hi => ?_⟩⟩
    have hi' : i < l.length := by simpa using hi
    have c := fun j (hj : j < 9) (u : Value) (hu : (clkCells l[i].1 l[i].2)[j]? = some u) => own_cells h (i * 9 + j) u ((row_get (fun x : Clk × Value => clkCells x.1 x.2) 9 (fun _ => rfl) l i j hi' hj).trans hu)
    have e : (l.map (·.1))[i] = l[i].1 := by simp
    rw [e]
    refine ⟨⟨?_, ?_, ?_, ?_, ?_, ?_, ?_, ?_⟩, l[i].2, ?_, he _ (List.getElem_mem hi')⟩
    · exact c 0 (by decide) _ rfl
    · rw [Nat.add_assoc]; exact c 1 (by decide) _ rfl
    · rw [Nat.add_assoc]; exact c 2 (by decide) _ rfl
    · rw [Nat.add_assoc]; exact c 3 (by decide) _ rfl
    · rw [Nat.add_assoc]; exact c 4 (by decide) _ rfl
    · rw [Nat.add_assoc]; exact c 5 (by decide) _ rfl
    · rw [Nat.add_assoc]; exact c 6 (by decide) _ rfl
    · rw [Nat.add_assoc]; exact c 7 (by decide) _ rfl
    · rw [Nat.add_assoc]; exact c 8 (by decide) _ rfl
end
section
open Go Go.RowKit
theorem below_alloc' {X Y : World} (h : Below X.heap.size X Y) (o : Obj) : Below X.heap.size X (Y.alloc o) := h.alloc h.size o
/-- the argument's box, the result's, and what is being made, after some chambers and clocks -/
structure OwnAt (w wr : World) (W : Wld) (p1 p2 : Option Addr) (c1 c2 : Nat) (v1 v2 : Value) : Prop where
  par : wr.heap[w.heap.size]? = some (.cells #[.int .u64 W.seed, .slice p1 W.chs.length c1, .slice p2 W.cls.length c2] 28 (0, 0))
  res : wr.heap[w.heap.size + 1]? = some (.cells #[.int .u64 0, .slice none 0 0, .slice none 0 0] 35 (0, 0))
  out : wr.heap[w.heap.size + 1 + 1]? = some (.cells #[.int .u64 W.seed, v1, v2] 35 (0, 0))
  bel : Below w.heap.size w wr
  big : w.heap.size + 3 ≤ wr.heap.size
variable {w wr wq w1 : World} {W : Wld} {p1 p2 : Option Addr} {c1 c2 : Nat} {v1 v2 v1' v2' v3 : Value}
theorem OwnAt.below (h : OwnAt w wr W p1 p2 c1 c2 v1 v2) (hb : Below wr.heap.size wr wq) : OwnAt w wq W p1 p2 c1 c2 v1 v2 :=
  ⟨blk_below h.par hb (by have := h.big; omega), blk_below h.res hb (by have := h.big; omega), blk_below h.out hb (by have := h.big; omega), h.bel.trans (hb.mono h.bel.size), Nat.le_trans h.big hb.size⟩
theorem below_grown {row : Option Nat} {X Y Z : World} (h : Below X.heap.size X Y) (hg : Y.grownBy Z row) (hr : ∀ g, row = some g → X.heap.size ≤ g) : Below X.heap.size X Z := h.grown hg h.size (fun g hx => hr g hx)
theorem OwnAt.store1 {o : Obj} (h : OwnAt w wr W p1 p2 c1 c2 v1 v2) (hg : (wr.alloc o).grownBy w1 v1.ownBlock) (hlo : ∀ g, v1.ownBlock = some g → w.heap.size + 3 ≤ g) :
    OwnAt w (w1.setCell ⟨w.heap.size + 1 + 1, 1, none⟩ v1') W p1 p2 c1 c2 v1' v2 := by
  have hs := hg.size
  have hb := h.big
  simp at hs
  have f : ∀ g, g < w.heap.size + 3 → v1.ownBlock ≠ some g := fun g hlt he => by have := hlo g he; omega
  refine ⟨blk_set_far _ (blk_grown (blk_alloc h.par o) hg (f _ (by omega))) (by dsimp only; omega), blk_set_far _ (blk_grown (blk_alloc h.res o) hg (f _ (by omega))) (by dsimp only; omega), ?_, ?_, by simpa using (by omega : w.heap.size + 3 ≤ w1.heap.size)⟩
  · have := blk_set 1 v1' (blk_grown (blk_alloc h.out o) hg (f _ (by omega)))
    simpa using this
  · exact (below_grown (below_alloc' h.bel o) hg (fun g hx => by have := hlo g hx; omega)).setCell (by dsimp only; omega) _
theorem OwnAt.store2 {o : Obj} (h : OwnAt w wr W p1 p2 c1 c2 v1 v2) (hg : (wr.alloc o).grownBy w1 v2.ownBlock) (hlo : ∀ g, v2.ownBlock = some g → w.heap.size + 3 ≤ g) :
    OwnAt w (w1.setCell ⟨w.heap.size + 1 + 1, 2, none⟩ v2') W p1 p2 c1 c2 v1 v2' := by
  have hs := hg.size
  have hb := h.big
  simp at hs
  have f : ∀ g, g < w.heap.size + 3 → v2.ownBlock ≠ some g := fun g hlt he => by have := hlo g he; omega
  refine ⟨blk_set_far _ (blk_grown (blk_alloc h.par o) hg (f _ (by omega))) (by dsimp only; omega), blk_set_far _ (blk_grown (blk_alloc h.res o) hg (f _ (by omega))) (by dsimp only; omega), ?_, ?_, by simpa using (by omega : w.heap.size + 3 ≤ w1.heap.size)⟩
  · have := blk_set 2 v2' (blk_grown (blk_alloc h.out o) hg (f _ (by omega)))
    simpa using this
  · exact (below_grown (below_alloc' h.bel o) hg (fun g hx => by have := hlo g hx; omega)).setCell (by dsimp only; omega) _
/-- behind an append the box is as it was -/
theorem OwnAt.boxed {o : Obj} {v : Value} (h : OwnAt w wr W p1 p2 c1 c2 v1 v2) (hg : (wr.alloc o).grownBy w1 v.ownBlock) (hlo : ∀ g, v.ownBlock = some g → w.heap.size + 3 ≤ g) :
    (w1.cell? ⟨w.heap.size + 1 + 1, 1, none⟩ = some v1 ∧ w1.frozen? ⟨w.heap.size + 1 + 1, 1, none⟩ = false) ∧ (w1.cell? ⟨w.heap.size + 1 + 1, 2, none⟩ = some v2 ∧ w1.frozen? ⟨w.heap.size + 1 + 1, 2, none⟩ = false) := by
  have e := blk_grown (blk_alloc h.out o) hg (fun he => by have := hlo _ he; omega)
  exact ⟨⟨blk_cell e 1 _ rfl, blk_free e 1⟩, blk_cell e 2 _ rfl, blk_free e 2⟩
/-- the chambers made so far -/
structure Own1 (w wr : World) (W : Wld) (p1 p2 : Option Addr) (c1 c2 : Nat) (k : Nat) (v1 : Value) : Prop where
  at_ : OwnAt w wr W p1 p2 c1 c2 v1 (.slice none 0 0)
  row : wr.ownsRow (w.heap.size + 3) 71 3 v1 k (chRow (W.chs.take k))
theorem own1_start (w : World) (W : Wld) (p1 p2 : Option Addr) (c1 c2 : Nat) :
    Own1 w (((w.alloc (.cells #[.int .u64 W.seed, .slice p1 W.chs.length c1, .slice p2 W.cls.length c2] 28)).alloc (.cells #[.int .u64 0, .slice none 0 0, .slice none 0 0] 35)).alloc (.cells #[.int .u64 W.seed, .slice none 0 0, .slice none 0 0] 35))
      W p1 p2 c1 c2 0 (.slice none 0 0) := by
  refine ⟨⟨blk_alloc (blk_alloc (heap_alloc_new w _) _) _, blk_alloc ?_ _, ?_, ?_, by simp⟩, World.ownsRow_nil _ _ _ _⟩
  · have := heap_alloc_new (w.alloc (.cells #[.int .u64 W.seed, .slice p1 W.chs.length c1, .slice p2 W.cls.length c2] 28)) (.cells #[.int .u64 0, .slice none 0 0, .slice none 0 0] 35)
    simpa using this
  · have := heap_alloc_new ((w.alloc (.cells #[.int .u64 W.seed, .slice p1 W.chs.length c1, .slice p2 W.cls.length c2] 28)).alloc (.cells #[.int .u64 0, .slice none 0 0, .slice none 0 0] 35)) (.cells #[.int .u64 W.seed, .slice none 0 0, .slice none 0 0] 35)
    simpa using this
  · exact below_alloc' (below_alloc' (below_alloc' (Below.refl _ _) _) _) _
theorem Own1.next {o : Obj} {k : Nat} (h : Own1 w wr W p1 p2 c1 c2 k v1) (hk : k < W.chs.length) (hown : w1.ownsRow (w.heap.size + 3) 71 3 v1' (k + 1) (chRow (W.chs.take k) ++ chCells W.chs[k]))
    (hg : (wr.alloc o).grownBy w1 v1.ownBlock) : Own1 w (w1.setCell ⟨w.heap.size + 1 + 1, 1, none⟩ v1') W p1 p2 c1 c2 (k + 1) v1' := by
  have hlo : ∀ g, v1.ownBlock = some g → w.heap.size + 3 ≤ g := fun g hx => (h.row.lt g hx).1
  refine ⟨h.at_.store1 hg hlo, ?_⟩
  rw [chRow_snoc _ _ hk]
  exact own_set hown _ (fun he => by have := (hown.lt _ he).1; dsimp only at this; omega)
/-- the clocks made so far -/
structure Own2 (w wr : World) (W : Wld) (p1 p2 : Option Addr) (c1 c2 : Nat) (k : Nat) (v1 v2 : Value) (l : List (Clk × Value)) : Prop where
  at_ : OwnAt w wr W p1 p2 c1 c2 v1 v2
  row1 : wr.ownsRow (w.heap.size + 3) 71 3 v1 W.chs.length (chRow W.chs)
  row2 : wr.ownsRow (w.heap.size + 3) 76 9 v2 k (clRow l)
  evs : ∀ x ∈ l, wr.ownsRow (w.heap.size + 3) 81 3 x.2 x.1.evs.length (evRow x.1.evs)
  done : l.map (·.1) = W.cls.take k
theorem Own1.start2 (h : Own1 w wr W p1 p2 c1 c2 W.chs.length v1) : Own2 w wr W p1 p2 c1 c2 0 v1 (.slice none 0 0) [] :=
  ⟨h.at_, by have := h.row; rwa [List.take_length] at this, World.ownsRow_nil _ _ _ _, (fun _ hx => by cases hx), rfl⟩
theorem Own2.below {k : Nat} {l : List (Clk × Value)} (h : Own2 w wr W p1 p2 c1 c2 k v1 v2 l) (hb : Below wr.heap.size wr wq) : Own2 w wq W p1 p2 c1 c2 k v1 v2 l :=
  ⟨h.at_.below hb, own_below h.row1 hb (Nat.le_refl _), own_below h.row2 hb (Nat.le_refl _), fun x hx => own_below (h.evs x hx) hb (Nat.le_refl _), h.done⟩
theorem Own2.next {o : Obj} {k : Nat} {l : List (Clk × Value)} (h : Own2 w wq W p1 p2 c1 c2 k v1 v2 l) (hk : k < W.cls.length) (hv : wq.ownsRow (w.heap.size + 3) 81 3 v3 W.cls[k].evs.length (evRow W.cls[k].evs))
    (hown : w1.ownsRow (w.heap.size + 3) 76 9 v2' (k + 1) (clRow l ++ clkCells W.cls[k] v3)) (hg : (wq.alloc o).grownBy w1 v2.ownBlock) :
    Own2 w (w1.setCell ⟨w.heap.size + 1 + 1, 2, none⟩ v2') W p1 p2 c1 c2 (k + 1) v1 v2' (l ++ [(W.cls[k], v3)]) := by
  have hlo : ∀ g, v2.ownBlock = some g → w.heap.size + 3 ≤ g := fun g hx => (h.row2.lt g hx).1
  have far : ∀ {v : Value} {n : Nat} {xs : List Value} {e : TypeId} {s : Nat}, e ≠ 76 → wq.ownsRow (w.heap.size + 3) e s v n xs → (w1.setCell ⟨w.heap.size + 1 + 1, 2, none⟩ v2').ownsRow (w.heap.size + 3) e s v n xs := by
    intro v n xs e s hne ho
    refine own_set ((ho.alloc o).kept hg (own_ne (ho.alloc o) (h.row2.alloc o) hne)) _ (fun he => ?_)
    have := (ho.lt _ he).1
    dsimp only at this; omega
  refine ⟨h.at_.store2 hg hlo, far (by decide) h.row1, ?_, ?_, ?_⟩
  · have : clRow (l ++ [(W.cls[k], v3)]) = clRow l ++ clkCells W.cls[k] v3 := by simp [clRow]
    rw [this]
    exact own_set hown _ (fun he => by have := (hown.lt _ he).1; dsimp only at this; omega)
  · intro x hx
    rcases List.mem_append.1 hx with hx | hx
    · exact far (by decide) (h.evs x hx)
    · obtain rfl := List.mem_singleton.1 hx
      exact far (by decide) hv
  · rw [List.map_append, h.done, List.take_succ_eq_append_getElem hk]; rfl
/-- the events of one clock made so far: wr is the world at the round's head -/
structure Own3 (wr wq : World) (c : Clk) (u : Value) (j : Nat) (v3 : Value) : Prop where
  xbox : wq.heap[wr.heap.size]? = some (.cells (clkCells c u).toArray 59 (0, 0))
  cbox : wq.heap[wr.heap.size + 1]? = some (.cells (clkCells c v3).toArray 76 (0, 0))
  row : wq.ownsRow (wr.heap.size + 2) 81 3 v3 j (evRow (c.evs.take j))
  bel : Below wr.heap.size wr wq
  big : wr.heap.size + 2 ≤ wq.heap.size
theorem own3_start (wr : World) (c : Clk) (u : Value) : Own3 wr ((wr.alloc (.cells (clkCells c u).toArray 59)).alloc (.cells (clkCells c (.slice none 0 0)).toArray 76)) c u 0 (.slice none 0 0) := by
  refine ⟨blk_alloc (heap_alloc_new wr _) _, ?_, World.ownsRow_nil _ _ _ _, below_alloc' (below_alloc' (Below.refl _ _) _) _, by simp⟩
  have := heap_alloc_new (wr.alloc (.cells (clkCells c u).toArray 59)) (.cells (clkCells c (.slice none 0 0)).toArray 76)
  simpa using this
theorem Own3.next {o : Obj} {n : Nat} {c : Clk} {u v3' : Value} {j : Nat} (h : Own3 wr wq c u j v3) (hj : j < c.evs.length) (hown : w1.ownsRow (wr.heap.size + 2) 81 3 v3' (j + 1) (evRow (c.evs.take j) ++ evCells c.evs[j]))
    (hg : ((wq.alloc o).drewN n).grownBy w1 v3.ownBlock) : Own3 wr (w1.setCell ⟨wr.heap.size + 1, 8, none⟩ v3') c u (j + 1) v3' := by
  have hlo : ∀ g, v3.ownBlock = some g → wr.heap.size + 2 ≤ g := fun g hx => (h.row.lt g hx).1
  have hs := hg.size
  have hb := h.big
  simp at hs
  have f : ∀ g, g < wr.heap.size + 2 → v3.ownBlock ≠ some g := fun g hlt he => by have := hlo g he; omega
  refine ⟨blk_set_far _ (blk_grown (w := (wq.alloc o).drewN n) (blk_alloc h.xbox o) hg (f _ (by omega))) (by simp), ?_, ?_, ?_, by simpa using (by omega : wr.heap.size + 2 ≤ w1.heap.size)⟩
  · have := blk_set 8 v3' (blk_grown (w := (wq.alloc o).drewN n) (blk_alloc h.cbox o) hg (f _ (by omega)))
    simpa [clkCells] using this
  · rw [evRow_snoc _ _ hj]
    exact own_set hown _ (fun he => by have := (hown.lt _ he).1; dsimp only at this; omega)
  · exact (below_grown (below_drewN (below_alloc' h.bel o) n) hg (fun g hx => by have := hlo g hx; omega)).setCell (by simp) _
/-- behind an append both boxes are as they were -/
theorem Own3.boxed {o : Obj} {n : Nat} {c : Clk} {u : Value} {j : Nat} (h : Own3 wr wq c u j v3) (hg : ((wq.alloc o).drewN n).grownBy w1 v3.ownBlock) :
    w1.cell? ⟨wr.heap.size + 1, 8, none⟩ = some v3 ∧ w1.frozen? ⟨wr.heap.size + 1, 8, none⟩ = false := by
  have hlo : ∀ g, v3.ownBlock = some g → wr.heap.size + 2 ≤ g := fun g hx => (h.row.lt g hx).1
  have e := blk_grown (w := (wq.alloc o).drewN n) (blk_alloc h.cbox o) hg (fun he => by have := hlo _ he; omega)
  exact ⟨blk_cell e 8 _ rfl, blk_free e 8⟩
theorem Own3.far {c : Clk} {u : Value} {j : Nat} (h : Own3 wr wq c u j v3) {g : Nat} (hg : g < wr.heap.size + 2) : v3.ownBlock ≠ some g := fun he => by
  have := (h.row.lt g he).1; omega
theorem Own3.done {c : Clk} {u : Value} (h : Own3 wr wq c u c.evs.length v3) : wq.ownsRow (wr.heap.size + 2) 81 3 v3 c.evs.length (evRow c.evs) := by
  have := h.row; rwa [List.take_length] at this
theorem own_one {b : Nat} {e : TypeId} {s : Nat} {v : Value} {n : Nat} {xs : List Value} {w : World} (h : w.ownsRow b e s v n xs) : v.oneCell' = true := by
  rcases h.2 with ⟨rfl, _⟩ | ⟨g, cap, cur, rfl, _⟩ <;> rfl
/-- a world that lies in blocks from n on: it lies wherever these blocks do -/
def WldFr (n : Nat) (X : World) (W : Wld) (q1 q2 : Option Addr) : Prop := ∀ Z : World, (∀ k o, n ≤ k → X.heap[k]? = some o → Z.heap[k]? = some o) → WldIn Z W q1 q2
theorem WldFr.in_ {n : Nat} {X : World} {W : Wld} {q1 q2 : Option Addr} (h : WldFr n X W q1 q2) : WldIn X W q1 q2 := h X fun _ _ _ h => h
theorem own_fresh_at {n b s m : Nat} {X Z : World} {e : TypeId} {v : Value} {xs : List Value} (hn : n ≤ b) (hZ : ∀ k o, n ≤ k → X.heap[k]? = some o → Z.heap[k]? = some o) (h : X.ownsRow b e s v m xs) : Z.ownsRow b e s v m xs := by
  refine ⟨h.1, ?_⟩
  rcases h.2 with h0 | ⟨g, cap, cur, hv, hb, hg, h1, h2, h3, h4⟩
  · exact .inl h0
  · exact .inr ⟨g, cap, cur, hv, hb, hZ g _ (by omega) hg, h1, h2, h3, h4⟩
theorem slices_own {X : World} {b1 s1 n1 b2 s2 n2 : Nat} {e1 e2 : TypeId} {v1 v2 : Value} {x1 x2 : List Value} {P : Prop} (h1 : X.ownsRow b1 e1 s1 v1 n1 x1) (h2 : X.ownsRow b2 e2 s2 v2 n2 x2) (k : ∀ q1 q2 d1 d2, v1 = .slice q1 n1 d1 → v2 = .slice q2 n2 d2 → P) : P := by
  rcases h1.2 with ⟨e, n⟩ | ⟨g, cap, cur, e, _⟩ <;> rcases h2.2 with ⟨e', n'⟩ | ⟨g', cap', cur', e', _⟩
  · exact k _ _ _ _ (by rw [n]; exact e) (by rw [n']; exact e')
  · exact k _ _ _ _ (by rw [n]; exact e) e'
  · exact k _ _ _ _ e (by rw [n']; exact e')
  · exact k _ _ _ _ e e'
theorem Own2.world {l : List (Clk × Value)} (h : Own2 w wr W p1 p2 c1 c2 W.cls.length v1 v2 l) (x y z : Value) (h1 : W.chs.length ≤ maxLen) (h2 : W.cls.length ≤ maxLen) (h3 : ∀ k, (hk : k < W.cls.length) → W.cls[k].evs.length ≤ maxLen) :
    ∃ q1 q2 d1 d2, v1 = .slice q1 W.chs.length d1 ∧ v2 = .slice q2 W.cls.length d2 ∧ WldFr w.heap.size (((wr.setCell ⟨w.heap.size + 1, 0, none⟩ x).setCell ⟨w.heap.size + 1, 1, none⟩ y).setCell ⟨w.heap.size + 1, 2, none⟩ z) W q1 q2 := by
  have st : ∀ {v : Value} {n : Nat} {xs : List Value} {e : TypeId} {s : Nat}, wr.ownsRow (w.heap.size + 3) e s v n xs →
      (((wr.setCell ⟨w.heap.size + 1, 0, none⟩ x).setCell ⟨w.heap.size + 1, 1, none⟩ y).setCell ⟨w.heap.size + 1, 2, none⟩ z).ownsRow (w.heap.size + 3) e s v n xs := by
    intro v n xs e s ho
    have hf : v.ownBlock ≠ some (w.heap.size + 1) := fun he => by have := (ho.lt _ he).1; omega
    exact own_set (own_set (own_set ho x hf) y hf) z hf
  refine slices_own h.row1 h.row2 fun q1 q2 d1 d2 hv1 hv2 => ⟨q1, q2, d1, d2, hv1, hv2, fun Z hZ => ?_⟩
  subst hv1 hv2
  have st : ∀ {v : Value} {n : Nat} {xs : List Value} {e : TypeId} {s : Nat}, wr.ownsRow (w.heap.size + 3) e s v n xs → Z.ownsRow (w.heap.size + 3) e s v n xs := fun ho => own_fresh_at (by omega) hZ (st ho)
  obtain ⟨q1', d1', e1, s1⟩ := chams_own (st h.row1)
  cases e1
  have hd := h.done
  rw [List.take_length] at hd
  have hlen : l.length = W.cls.length := by rw [← hd, List.length_map]
  have r2 := st h.row2
  rw [← hlen] at r2
  obtain ⟨q2', d2', e2, s2⟩ := clks_own r2 fun x hx => by
    have hxc : x.1 ∈ W.cls := by rw [← hd]; exact List.mem_map_of_mem hx
    obtain ⟨k, hk, he⟩ := List.getElem_of_mem hxc
    refine evts_own ?_ (st (h.evs x hx))
    have := h3 k hk
    rwa [he] at this
  cases e2
  rw [hlen] at s2
  rw [hd] at s2
  exact ⟨h1, h2, s1, s2⟩
end
section
open Go Go.RowKit
theorem infoCh : (Tryd.prog.info? 71).map (fun i => (i.zero, i.size, i.bytes)) = some (some (.agg #[.int .i64 0, .int .i64 0, .int .i64 0]), 3, 24) := by kernel_rfl
theorem infoEv : (Tryd.prog.info? 81).map (fun i => (i.zero, i.size, i.bytes)) = some (some (.agg #[.int .i64 0, .int .i64 0, .int .i64 0]), 3, 24) := by kernel_rfl
theorem infoCl : (Tryd.prog.info? 76).map (fun i => (i.zero, i.size, i.bytes)) = some (some (.agg #[.int .i64 0, .int .i64 0, .int .i64 0, .int .i64 0, .int .i64 0, .int .i64 0, .int .i64 0, .int .i64 0, .slice none 0 0]), 9, 88) := by kernel_rfl
theorem set_far {w : World} {b o b' o' : Nat} {u v : Value} (h : w.cell? ⟨b, o, none⟩ = some v) (hne : b' ≠ b) : (w.setCell ⟨b', o', none⟩ u).cell? ⟨b, o, none⟩ = some v := by
  rw [World.cell?_setCell_other w ⟨b', o', none⟩ ⟨b, o, none⟩ u (fun e => by cases e; exact hne rfl)]; exact h
/-- what Own leaves -/
def Owned (w : World) (W : Wld) (e : Ending) (w' : World) : Prop :=
  ∃ q1 q2 d1 d2, e = .returned (.agg #[.int .u64 W.seed, .slice q1 W.chs.length d1, .slice q2 W.cls.length d2]) ∧ WldIn w' W q1 q2 ∧ Below w.heap.size w w'
/-- what Own leaves, in blocks of its own -/
def OwnedF (w : World) (W : Wld) (e : Ending) (w' : World) : Prop :=
  ∃ q1 q2 d1 d2, e = .returned (.agg #[.int .u64 W.seed, .slice q1 W.chs.length d1, .slice q2 W.cls.length d2]) ∧ WldFr w.heap.size w' W q1 q2 ∧ Below w.heap.size w w'
end
end Go.Proofs.YtmfpnfdoidihcaaDoor.Wd
namespace Go.Proofs.YtmfpnfdoidihcaaDoor.Wd
open Go Go.RowKit
set_option maxRecDepth 100000 in
set_option maxHeartbeats 4000000 in
theorem own_both (W : Wld) (b1 o1 b2 o2 : Nat) (c1 c2 : Nat) (w : World) (h1 : ChamsAt w W.chs b1 o1) (h2 : ClksAt w W.cls b2 o2) (n1 : W.chs.length ≤ 40) (n2 : W.cls.length ≤ 40) (n3 : ∀ k, (hk : k < W.cls.length) → W.cls[k].evs.length ≤ 40) :
    Calls Tryd.prog 6 #[.agg #[.int .u64 W.seed, .slice (some ⟨b1, o1, none⟩) W.chs.length c1, .slice (some ⟨b2, o2, none⟩) W.cls.length c2]] w (OwnedF w W) := by
  obtain ⟨i0, hi0, hz0, hz1, hz2⟩ := info_parts infoCh
  obtain ⟨i1, hi1, hy0, hy1, hy2⟩ := info_parts infoCl
  obtain ⟨i2, hi2, hx0, hx1, hx2⟩ := info_parts infoEv
  have H1 := Lib.hid h1
  have H2 := Lib.hid h2
  have H3 := Lib.hid n3
  clear h1 h2 n3
  have hst := own1_start w W (some ⟨b1, o1, none⟩) (some ⟨b2, o2, none⟩) c1 c2
  have HST := Lib.hid hst
  clear hst
  go_enter Tryd.func6, Tryd.ntmps6
  go_wp2
  go_loopw [4] (fun i wr => ∃ (k : Nat) (v1 : Value), k ≤ W.chs.length ∧ i = .int .i64 k ∧ Hid (Own1 w wr W (some ⟨b1, o1, none⟩) (some ⟨b2, o2, none⟩) c1 c2 k v1)) (fun i _ => W.chs.length - (intOf i).toNat)
  case atStart => exact ⟨0, _, Nat.zero_le _, rfl, HST⟩
  case round =>
    obtain ⟨k, v1, hk, rfl, HS⟩ := hrel
    have par1 : wr.cell? ⟨w.heap.size, 1, none⟩ = some (.slice (some ⟨b1, o1, none⟩) W.chs.length c1) := blk_cell HS.out.at_.par 1 _ rfl
    by_cases hlt : k < W.chs.length
    · obtain ⟨r0, r1, r2⟩ := (H1.out k hlt).below HS.out.at_.bel
      have out1 : wr.cell? ⟨w.heap.size + 1 + 1, 1, none⟩ = some v1 := blk_cell HS.out.at_.out 1 _ rfl
      have hrow := HS.out.row
      have hkl : (k : Int) < (W.chs.length : Int) := by omega
      have hb3 := HS.out.at_.big
      generalize hch : W.chs[k] = ch at *
      have HCH := Lib.hid hch
      clear hch
      have HROW := Lib.hid hrow
      clear hrow
      go_wp2_with (at_builtin; refine wpList_append_lies _ rfl (.tmp 24) (.tmp 30) _ rfl (w.heap.size + 3) 71 i0 _ 3 24 Tryd.underlying32 hi0 hz0 hz1 hz2 rfl (by omega) v1 k _ rfl (HROW.out.alloc _) ⟨wr.heap.size, 0, none⟩ 1 1 (chCells ch) rfl rfl (World.news_of_block (cs := (chCells ch).toArray) (t := 71) (fr := (0, 0)) (heap_alloc_new wr _)) (by simp [Value.oneCell', chCells]) (by omega) (by unfold maxLen; omega) (by omega) (by simp; omega) _ rfl ?_; intro gg cap w1 hown1 hgrow _ _; obtain ⟨⟨st1, st2⟩, -⟩ := HS.out.at_.boxed hgrow (fun g hx => (HROW.out.lt g hx).1); have HOWN := Lib.hid hown1; have HGROW := Lib.hid hgrow; clear hown1 hgrow)
      go_roundw
      case rel => exact ⟨k + 1, _, by omega, by go_num, Lib.hid (HS.out.next hlt (by rw [HCH.out]; exact HOWN.out) HGROW.out)⟩
      case measure => simp [intOf]; omega
    · have hkl : ¬ (k : Int) < (W.chs.length : Int) := by omega
      obtain rfl : k = W.chs.length := by omega
      have HS2 := Lib.hid HS.out.start2
      clear HS hk hlt
      go_wp2
      go_loopw [6] (fun i wq => ∃ (k : Nat) (v2 : Value) (l : List (Clk × Value)), k ≤ W.cls.length ∧ i = .int .i64 k ∧ Hid (Own2 w wq W (some ⟨b1, o1, none⟩) (some ⟨b2, o2, none⟩) c1 c2 k v1 v2 l)) (fun i _ => W.cls.length - (intOf i).toNat)
      case atStart => exact ⟨0, _, _, Nat.zero_le _, rfl, HS2⟩
      case round =>
        obtain ⟨wq, rfl⟩ : ∃ wq : World, wq = wr := ⟨_, rfl⟩
        obtain ⟨k, v2, l, hk, rfl, HS⟩ := hrel
        have par2 : wq.cell? ⟨w.heap.size, 2, none⟩ = some (.slice (some ⟨b2, o2, none⟩) W.cls.length c2) := blk_cell HS.out.at_.par 2 _ rfl
        by_cases hlt : k < W.cls.length
        · obtain ⟨⟨y0, y1, y2, y3, y4, y5, y6, y7⟩, u, y8, hev⟩ := (H2.out k hlt).below HS.out.at_.bel
          have hkl : (k : Int) < (W.cls.length : Int) := by omega
          have hb3 := HS.out.at_.big
          have he40 := H3.out k hlt
          generalize hcl : W.cls[k] = c at *
          have HCL := Lib.hid hcl
          clear hcl
          obtain ⟨pe, ce, rfl, hml, hse⟩ := hev
          unfold maxLen at hml
          rcases hse with h0 | ⟨be, oe, rfl, hse⟩
          · have he0 : c.evs.length ≤ 0 := by omega
            clear h0
            have HT0 := Lib.hid (own3_start wq c (.slice pe c.evs.length ce))
            go_wp2
            go_loopw [9] (fun i wz => ∃ (j : Nat) (v3 : Value), j ≤ c.evs.length ∧ i = .int .i64 j ∧ Hid (Own3 wq wz c (.slice pe c.evs.length ce) j v3)) (fun i _ => c.evs.length - (intOf i).toNat)
            case atStart => exact ⟨0, _, Nat.zero_le _, rfl, HT0⟩
            case round =>
              obtain ⟨wz, rfl⟩ : ∃ wz : World, wz = wr := ⟨_, rfl⟩
              clear HT0 y0 y1 y2 y3 y4 y5 y6 y7 y8 par2
              obtain ⟨j, v3, hj, rfl, HT⟩ := hrel
              have x8 : wz.cell? ⟨wq.heap.size, 8, none⟩ = some (.slice pe c.evs.length ce) := blk_cell HT.out.xbox 8 _ rfl
              have k8 : wz.cell? ⟨wq.heap.size + 1, 8, none⟩ = some v3 := blk_cell HT.out.cbox 8 _ rfl
              have hbt := HT.out.big
              by_cases hjl : j < c.evs.length
              · exfalso; omega
              · have hjli : ¬ (j : Int) < (c.evs.length : Int) := by omega
                obtain rfl : j = c.evs.length := by omega
                clear x8 k8
                have x8 : wz.cell? ⟨wq.heap.size, 8, none⟩ = some (.slice pe c.evs.length ce) := blk_cell HT.out.xbox 8 _ rfl
                have HS2 := Lib.hid (HS.out.below HT.out.bel)
                have HEV := Lib.hid HT.out.done
                have ob2 : wz.cell? ⟨w.heap.size + 1 + 1, 2, none⟩ = some v2 := blk_cell HS2.out.at_.out 2 _ rfl
                have q0 : wz.cell? ⟨wq.heap.size + 1, 0, none⟩ = some (.int .i64 c.kind) := blk_cell HT.out.cbox 0 _ rfl
                have q1 : wz.cell? ⟨wq.heap.size + 1, 1, none⟩ = some (.int .i64 c.phase) := blk_cell HT.out.cbox 1 _ rfl
                have q2 : wz.cell? ⟨wq.heap.size + 1, 2, none⟩ = some (.int .i64 c.rate) := blk_cell HT.out.cbox 2 _ rfl
                have q3 : wz.cell? ⟨wq.heap.size + 1, 3, none⟩ = some (.int .i64 c.drift) := blk_cell HT.out.cbox 3 _ rfl
                have q4 : wz.cell? ⟨wq.heap.size + 1, 4, none⟩ = some (.int .i64 c.white) := blk_cell HT.out.cbox 4 _ rfl
                have q5 : wz.cell? ⟨wq.heap.size + 1, 5, none⟩ = some (.int .i64 c.walk) := blk_cell HT.out.cbox 5 _ rfl
                have q6 : wz.cell? ⟨wq.heap.size + 1, 6, none⟩ = some (.int .i64 c.heat) := blk_cell HT.out.cbox 6 _ rfl
                have q7 : wz.cell? ⟨wq.heap.size + 1, 7, none⟩ = some (.int .i64 c.room) := blk_cell HT.out.cbox 7 _ rfl
                have q8 : wz.cell? ⟨wq.heap.size + 1, 8, none⟩ = some v3 := blk_cell HT.out.cbox 8 _ rfl
                have HONE := Lib.hid (own_one HEV.out)
                go_wp2_with (at_builtin; refine wpList_append_lies _ rfl (.tmp 96) (.tmp 98) _ rfl (w.heap.size + 3) 76 i1 _ 9 88 Tryd.underlying33 hi1 hy0 hy1 hy2 rfl (by omega) v2 k _ rfl (HS2.out.row2.alloc _) ⟨wz.heap.size, 0, none⟩ 1 1 (clkCells c v3) rfl rfl (World.news_of_block (cs := (clkCells c v3).toArray) (t := 76) (fr := (0, 0)) (heap_alloc_new wz _)) (by simp [Value.oneCell', clkCells]; exact HONE.out) (by omega) (by unfold maxLen; omega) (by omega) (by simp; omega) _ rfl ?_; intro gg cap w1 hown1 hgrow _ _; obtain ⟨-, st1, st2⟩ := HS2.out.at_.boxed hgrow (fun g hx => (HS2.out.row2.lt g hx).1); have HOWN := Lib.hid hown1; have HGROW := Lib.hid hgrow; clear hown1 hgrow)
                go_roundw
                case rel =>
                  refine ⟨k + 1, .slice (some ⟨gg, 0, none⟩) (k + 1) cap, l ++ [(c, v3)], by omega, by go_num, Lib.hid ?_⟩
                  have hn := HS2.out.next hlt (v3 := v3) (by rw [HCL.out]; exact own_base HEV.out (by omega)) (by rw [HCL.out]; exact HOWN.out) HGROW.out
                  rw [HCL.out] at hn
                  exact hn
                case measure => simp [intOf]; omega
          · have HSE := Lib.hid hse
            clear hse
            have HT0 := Lib.hid (own3_start wq c (.slice (some ⟨be, oe, none⟩) c.evs.length ce))
            go_wp2
            go_loopw [9] (fun i wz => ∃ (j : Nat) (v3 : Value), j ≤ c.evs.length ∧ i = .int .i64 j ∧ Hid (Own3 wq wz c (.slice (some ⟨be, oe, none⟩) c.evs.length ce) j v3)) (fun i _ => c.evs.length - (intOf i).toNat)
            case atStart => exact ⟨0, _, Nat.zero_le _, rfl, HT0⟩
            case round =>
              obtain ⟨wz, rfl⟩ : ∃ wz : World, wz = wr := ⟨_, rfl⟩
              clear HT0 y0 y1 y2 y3 y4 y5 y6 y7 y8 par2
              obtain ⟨j, v3, hj, rfl, HT⟩ := hrel
              have x8 : wz.cell? ⟨wq.heap.size, 8, none⟩ = some (.slice (some ⟨be, oe, none⟩) c.evs.length ce) := blk_cell HT.out.xbox 8 _ rfl
              have k8 : wz.cell? ⟨wq.heap.size + 1, 8, none⟩ = some v3 := blk_cell HT.out.cbox 8 _ rfl
              have hbt := HT.out.big
              by_cases hjl : j < c.evs.length
              · obtain ⟨e0, e1, e2⟩ := (HSE.out j hjl).below HT.out.bel
                have hbe : be < wq.heap.size := cell_lt (HSE.out j hjl).1
                have hjli : (j : Int) < (c.evs.length : Int) := by omega
                generalize hev : c.evs[j] = ev at *
                have HEV := Lib.hid hev
                clear hev
                have HROW := Lib.hid HT.out.row
                have ag := HT.out.far (g := wq.heap.size) (by omega)
                have ae := HT.out.far (g := be) (by omega)
                have HAG := Lib.hid ag
                have HAE := Lib.hid ae
                clear ag ae
                go_wp2_with fail
                go_region_held3 (fun w' => w'.cell? ⟨wq.heap.size, 8, none⟩ = some (.slice (some ⟨be, oe, none⟩) c.evs.length ce) ∧ w'.cell? ⟨be, oe + j * 3, none⟩ = some (.int .i64 ev.what) ∧ w'.cell? ⟨be, oe + j * 3 + 1, none⟩ = some (.int .i64 ev.sec) ∧ w'.cell? ⟨be, oe + j * 3 + 2, none⟩ = some (.int .i64 ev.size))
                  (first
                    | (go_split_ands
                       refine ⟨set_far ?_ ?_, set_far ?_ ?_, set_far ?_ ?_, set_far ?_ ?_⟩
                       all_goals first | assumption | omega)
                    | (go_split_ands
                       refine ⟨?_, ?_, ?_, ?_⟩
                       · (rw [HGROW.out.cell_far _ (by simp; omega) (Ne.symm HAG.out)]; assumption)
                       · (rw [HGROW.out.cell_far _ (by simp; omega) (Ne.symm HAE.out)]; assumption)
                       · (rw [HGROW.out.cell_far _ (by simp; omega) (Ne.symm HAE.out)]; assumption)
                       · (rw [HGROW.out.cell_far _ (by simp; omega) (Ne.symm HAE.out)]; assumption))
                    | go_keep)
                  ((refine step_append_lies _ (by rfl) _ _ _ (by rfl) (wq.heap.size + 2) 81 i2 _ 3 24 Tryd.underlying74 hi2 hx0 hx1 hx2 rfl (by omega) v3 j _ (by rfl) ((HROW.out.alloc _).drew) ⟨wz.heap.size, 0, none⟩ 1 1 (evCells ev) (by rfl) (by rfl)
                      (World.news_of_block (cs := (evCells ev).toArray) (t := 81) (fr := (0, 0)) (heap_alloc_new wz _)) (by simp [Value.oneCell', evCells]) (by omega) (by unfold maxLen; omega) (by omega) (by simp; omega) (wz.heap.size + 1) (by simp) ?_
                    intro gg cap w1 hown1 hgrow _ _
                    obtain ⟨st1, st2⟩ := HT.out.boxed (n := 1) hgrow
                    have HOWN := Lib.hid hown1
                    have HGROW := Lib.hid hgrow
                    clear hown1 hgrow))
                go_wp2
                go_roundw
                case rel => exact ⟨j + 1, _, by omega, by go_num, Lib.hid (HT.out.next (n := 1) hjl (by rw [HEV.out]; exact HOWN.out) HGROW.out)⟩
                case measure => simp [intOf]; omega
              · have hjli : ¬ (j : Int) < (c.evs.length : Int) := by omega
                obtain rfl : j = c.evs.length := by omega
                clear x8 k8
                have x8 : wz.cell? ⟨wq.heap.size, 8, none⟩ = some (.slice (some ⟨be, oe, none⟩) c.evs.length ce) := blk_cell HT.out.xbox 8 _ rfl
                have HS2 := Lib.hid (HS.out.below HT.out.bel)
                have HEV := Lib.hid HT.out.done
                have ob2 : wz.cell? ⟨w.heap.size + 1 + 1, 2, none⟩ = some v2 := blk_cell HS2.out.at_.out 2 _ rfl
                have q0 : wz.cell? ⟨wq.heap.size + 1, 0, none⟩ = some (.int .i64 c.kind) := blk_cell HT.out.cbox 0 _ rfl
                have q1 : wz.cell? ⟨wq.heap.size + 1, 1, none⟩ = some (.int .i64 c.phase) := blk_cell HT.out.cbox 1 _ rfl
                have q2 : wz.cell? ⟨wq.heap.size + 1, 2, none⟩ = some (.int .i64 c.rate) := blk_cell HT.out.cbox 2 _ rfl
                have q3 : wz.cell? ⟨wq.heap.size + 1, 3, none⟩ = some (.int .i64 c.drift) := blk_cell HT.out.cbox 3 _ rfl
                have q4 : wz.cell? ⟨wq.heap.size + 1, 4, none⟩ = some (.int .i64 c.white) := blk_cell HT.out.cbox 4 _ rfl
                have q5 : wz.cell? ⟨wq.heap.size + 1, 5, none⟩ = some (.int .i64 c.walk) := blk_cell HT.out.cbox 5 _ rfl
                have q6 : wz.cell? ⟨wq.heap.size + 1, 6, none⟩ = some (.int .i64 c.heat) := blk_cell HT.out.cbox 6 _ rfl
                have q7 : wz.cell? ⟨wq.heap.size + 1, 7, none⟩ = some (.int .i64 c.room) := blk_cell HT.out.cbox 7 _ rfl
                have q8 : wz.cell? ⟨wq.heap.size + 1, 8, none⟩ = some v3 := blk_cell HT.out.cbox 8 _ rfl
                have HONE := Lib.hid (own_one HEV.out)
                go_wp2_with (at_builtin; refine wpList_append_lies _ rfl (.tmp 96) (.tmp 98) _ rfl (w.heap.size + 3) 76 i1 _ 9 88 Tryd.underlying33 hi1 hy0 hy1 hy2 rfl (by omega) v2 k _ rfl (HS2.out.row2.alloc _) ⟨wz.heap.size, 0, none⟩ 1 1 (clkCells c v3) rfl rfl (World.news_of_block (cs := (clkCells c v3).toArray) (t := 76) (fr := (0, 0)) (heap_alloc_new wz _)) (by simp [Value.oneCell', clkCells]; exact HONE.out) (by omega) (by unfold maxLen; omega) (by omega) (by simp; omega) _ rfl ?_; intro gg cap w1 hown1 hgrow _ _; obtain ⟨-, st1, st2⟩ := HS2.out.at_.boxed hgrow (fun g hx => (HS2.out.row2.lt g hx).1); have HOWN := Lib.hid hown1; have HGROW := Lib.hid hgrow; clear hown1 hgrow)
                go_roundw
                case rel =>
                  refine ⟨k + 1, .slice (some ⟨gg, 0, none⟩) (k + 1) cap, l ++ [(c, v3)], by omega, by go_num, Lib.hid ?_⟩
                  have hn := HS2.out.next hlt (v3 := v3) (by rw [HCL.out]; exact own_base HEV.out (by omega)) (by rw [HCL.out]; exact HOWN.out) HGROW.out
                  rw [HCL.out] at hn
                  exact hn
                case measure => simp [intOf]; omega
        · have hkl : ¬ (k : Int) < (W.cls.length : Int) := by omega
          obtain rfl : k = W.cls.length := by omega
          have r0 : wq.cell? ⟨w.heap.size + 1 + 1, 0, none⟩ = some (.int .u64 W.seed) := blk_cell HS.out.at_.out 0 _ rfl
          have r1 : wq.cell? ⟨w.heap.size + 1 + 1, 1, none⟩ = some v1 := blk_cell HS.out.at_.out 1 _ rfl
          have r2 : wq.cell? ⟨w.heap.size + 1 + 1, 2, none⟩ = some v2 := blk_cell HS.out.at_.out 2 _ rfl
          have t0 : wq.cell? ⟨w.heap.size + 1, 0, none⟩ = some (.int .u64 0) := blk_cell HS.out.at_.res 0 _ rfl
          have t1 : wq.cell? ⟨w.heap.size + 1, 1, none⟩ = some (.slice none 0 0) := blk_cell HS.out.at_.res 1 _ rfl
          have t2 : wq.cell? ⟨w.heap.size + 1, 2, none⟩ = some (.slice none 0 0) := blk_cell HS.out.at_.res 2 _ rfl
          have f0 := blk_free HS.out.at_.res 0
          have f1 := blk_free HS.out.at_.res 1
          have f2 := blk_free HS.out.at_.res 2
          obtain ⟨e1, e2, d1, d2, rfl, rfl, hfin⟩ := HS.out.world (.int .u64 W.seed) v1 v2 (by unfold maxLen; omega) (by unfold maxLen; omega) (fun k hk => by have := H3.out k hk; unfold maxLen; omega)
          have hbig := HS.out.at_.big
          have hblk := blk_set 2 (.slice e2 W.cls.length d2) (blk_set 1 (.slice e1 W.chs.length d1) (blk_set 0 (.int .u64 W.seed) HS.out.at_.res))
          have x0 := blk_cell hblk 0 (.int .u64 W.seed) rfl
          have x1 := blk_cell hblk 1 (.slice e1 W.chs.length d1) rfl
          have x2 := blk_cell hblk 2 (.slice e2 W.cls.length d2) rfl
          have X0 := Lib.hid x0
          have X1 := Lib.hid x1
          have X2 := Lib.hid x2
          have HFIN := Lib.hid hfin
          have hbel : Below w.heap.size w (((wq.setCell ⟨w.heap.size + 1, 0, none⟩ (.int .u64 W.seed)).setCell ⟨w.heap.size + 1, 1, none⟩ (.slice e1 W.chs.length d1)).setCell ⟨w.heap.size + 1, 2, none⟩ (.slice e2 W.cls.length d2)) := ((HS.out.at_.bel.setCell (by dsimp only; omega) _).setCell (by dsimp only; omega) _).setCell (by dsimp only; omega) _
          have HBEL := Lib.hid hbel
          clear hbel hfin hblk x0 x1 x2
          go_wp2
          refine bodyPost_ret (v := .agg #[.int .u64 W.seed, .slice e1 W.chs.length d1, .slice e2 W.cls.length d2]) (by simp [results, Tryd.results6, go_sem, X0.out, X1.out, X2.out]) rfl ?_
          exact ⟨_, _, _, _, rfl, HFIN.out, HBEL.out⟩
end Go.Proofs.YtmfpnfdoidihcaaDoor.Wd
