/- Rows of memory that Own makes: chambers, events, clocks; what they are good for when they are done. -/
import Derived.Test.YtehjkmnamgafaaaDoorBig
import Derived.Deep.AppendLies
import Derived.Maps.AppendAt
import Derived.Deep.RegionHeld3
import Derived.OwnWalk
namespace Go.Proofs.YtehjkmnamgafaaaDoor
open Go Go.RowKit
def chCells (c : Cham) : List Value := [.int .i64 c.base, .int .i64 c.swing, .int .i64 c.period]
def evCells (c : Evt) : List Value := [.int .i64 c.what, .int .i64 c.sec, .int .i64 c.size]
def clkCells (c : Clk) (v : Value) : List Value := [.int .i64 c.kind, .int .i64 c.phase, .int .i64 c.rate, .int .i64 c.drift, .int .i64 c.white, .int .i64 c.walk, .int .i64 c.heat, .int .i64 c.room, v]
def chRow (l : List Cham) : List Value := l.flatMap chCells
def evRow (l : List Evt) : List Value := l.flatMap evCells
def clRow (l : List (Clk × Value)) : List Value := l.flatMap fun x => clkCells x.1 x.2
theorem row_get {α : Type} (f : α → List Value) (m : Nat) (hm : ∀ x, (f x).length = m) : ∀ (l : List α) (i j : Nat) (hi : i < l.length), j < m → (l.flatMap f)[i * m + j]? = (f l[i])[j]?
  | [], i, _, hi, _ => absurd hi (by simp)
  | x :: l, 0, j, _, hj => by
    rw [List.flatMap_cons, Nat.zero_mul, Nat.zero_add, List.getElem?_append_left (by rw [hm]; exact hj)]; rfl
  | x :: l, i + 1, j, hi, hj => by
    have hi' : i < l.length := by simpa using hi
    have e : (i + 1) * m + j = m + (i * m + j) := by rw [Nat.add_mul]; omega
    rw [List.flatMap_cons, e, List.getElem?_append_right (by rw [hm]; omega), hm, Nat.add_sub_cancel_left, row_get f m hm l i j hi' hj]
    rfl
theorem row_snoc {α : Type} (f : α → List Value) (l : List α) (k : Nat) (h : k < l.length) : (l.take (k + 1)).flatMap f = (l.take k).flatMap f ++ f l[k] := by
  rw [List.take_succ_eq_append_getElem h, List.flatMap_append]; simp
theorem chRow_snoc (l : List Cham) (k : Nat) (h : k < l.length) : chRow (l.take (k + 1)) = chRow (l.take k) ++ chCells l[k] := row_snoc _ l k h
theorem evRow_snoc (l : List Evt) (k : Nat) (h : k < l.length) : evRow (l.take (k + 1)) = evRow (l.take k) ++ evCells l[k] := row_snoc _ l k h
section
variable {w w' : World} {b b' : Nat} {e e' : TypeId} {s s' : Nat} {v v' : Value} {n n' : Nat} {xs xs' : List Value}
theorem own_ne (h : w.ownsRow b e s v n xs) (h' : w.ownsRow b' e' s' v' n' xs') (hne : e ≠ e') : v.ownBlock = none ∨ v.ownBlock ≠ v'.ownBlock := by
  rcases h.2 with ⟨rfl, _⟩ | ⟨g, cap, cur, rfl, _, hg, _⟩
  · exact .inl rfl
  · right
    intro he
    rcases h'.2 with ⟨rfl, _⟩ | ⟨g', cap', cur', rfl, _, hg', _⟩
    · simp [Value.ownBlock] at he
    · simp [Value.ownBlock] at he
      subst he
      rw [hg] at hg'
      injection hg' with hg'
      injection hg' with _ h2
      exact hne h2
theorem own_far {g : Nat} {cs : Array Value} {t : TypeId} (h : w.ownsRow b e s v n xs) (hg : w.heap[g]? = some (.cells cs t (0, 0))) (hne : e ≠ t) : v.ownBlock ≠ some g := by
  rcases h.2 with ⟨rfl, _⟩ | ⟨g', cap, cur, rfl, _, hg', _⟩
  · simp [Value.ownBlock]
  · intro he
    simp [Value.ownBlock] at he
    subst he
    rw [hg] at hg'
    injection hg' with hg'
    injection hg' with _ h2
    exact hne h2.symm
theorem own_base (h : w.ownsRow b e s v n xs) (hb : b' ≤ b) : w.ownsRow b' e s v n xs := by
  refine ⟨h.1, ?_⟩
  rcases h.2 with hn | ⟨g, cap, cur, hv, hbg, rest⟩
  · exact .inl hn
  · exact .inr ⟨g, cap, cur, hv, by omega, rest⟩
theorem own_below {B : Nat} (h : w.ownsRow b e s v n xs) (hb : Below B w w') (hB : w.heap.size ≤ B) : w'.ownsRow b e s v n xs := by
  refine ⟨h.1, ?_⟩
  rcases h.2 with hn | ⟨g, cap, cur, hv, hbg, hg, rest⟩
  · exact .inl hn
  · exact .inr ⟨g, cap, cur, hv, hbg, (hb.block g (by have := heap_lt hg; omega)).trans hg, rest⟩
theorem own_set {p : Addr} (h : w.ownsRow b e s v n xs) (u : Value) (hne : v.ownBlock ≠ some p.block) : (w.setCell p u).ownsRow b e s v n xs := by
  refine ⟨h.1, ?_⟩
  rcases h.2 with hn | ⟨g, cap, cur, rfl, hbg, hg, rest⟩
  · exact .inl hn
  · refine .inr ⟨g, cap, cur, rfl, hbg, (Below.heap_setCell w p u g (fun he => ?_)).trans hg, rest⟩
    subst he
    exact hne rfl
theorem blk_grown {g : Nat} {o : Obj} {row : Option Nat} (hg : w.heap[g]? = some o) (h : w.grownBy w' row) (hne : row ≠ some g) : w'.heap[g]? = some o := (h.block g (heap_lt hg) (Ne.symm hne)).trans hg
theorem blk_set_far {g : Nat} {o : Obj} {p : Addr} (u : Value) (hg : w.heap[g]? = some o) (hne : g ≠ p.block) : (w.setCell p u).heap[g]? = some o := (Below.heap_setCell w p u g hne).trans hg
theorem blk_set {g : Nat} {cs : Array Value} {t : TypeId} (i : Nat) (u : Value) (hg : w.heap[g]? = some (.cells cs t (0, 0))) : (w.setCell ⟨g, i, none⟩ u).heap[g]? = some (.cells (cs.setIfInBounds i u) t (0, 0)) := by
  simp [World.setCell, Array.getElem?_modify, hg]
theorem blk_below {B g : Nat} {o : Obj} (hg : w.heap[g]? = some o) (hb : Below B w w') (h : g < B) : w'.heap[g]? = some o := (hb.block g h).trans hg
theorem blk_alloc {g : Nat} {o : Obj} (hg : w.heap[g]? = some o) (x : Obj) : (w.alloc x).heap[g]? = some o := (Below.heap_alloc w x g (heap_lt hg)).trans hg
theorem blk_cell {g : Nat} {cs : Array Value} {t : TypeId} (hg : w.heap[g]? = some (.cells cs t (0, 0))) (i : Nat) (u : Value) (h : cs[i]? = some u) : w.cell? ⟨g, i, none⟩ = some u := (cell_of_row w g i cs t (0, 0) hg).trans h
theorem blk_free {g : Nat} {cs : Array Value} {t : TypeId} (hg : w.heap[g]? = some (.cells cs t (0, 0))) (i : Nat) : w.frozen? ⟨g, i, none⟩ = false := by
  simp [World.frozen?, hg]
/-- the cells of a row that is owned -/
theorem own_cells {g : Nat} {cap : Nat} (h : w.ownsRow b e s (.slice (some ⟨g, 0, none⟩) n cap) n' xs) (j : Nat) (u : Value) (hj : xs[j]? = some u) : w.cell? ⟨g, 0 + j, none⟩ = some u := by
  have := h.cells (g := g) rfl j u hj
  rwa [add_plain] at this
end
theorem chams_own {w : World} {b : Nat} {v : Value} {l : List Cham} (h : w.ownsRow b 90 3 v l.length (chRow l)) : ∃ p cap, v = .slice p l.length cap ∧ SliceIn p l.length (ChamsAt w l) := by
  rcases h.2 with ⟨rfl, h0⟩ | ⟨g, cap, cur, rfl, _⟩
  · exact ⟨none, 0, by rw [h0], .inl h0⟩
  · refine ⟨_, cap, rfl, .inr ⟨g, 0, rfl, fun i hi => ⟨?_, ?_, ?_⟩⟩⟩
    · exact own_cells h (i * 3 + 0) _ (row_get chCells 3 (fun _ => rfl) l i 0 hi (by decide))
    · rw [Nat.add_assoc]; exact own_cells h (i * 3 + 1) _ (row_get chCells 3 (fun _ => rfl) l i 1 hi (by decide))
    · rw [Nat.add_assoc]; exact own_cells h (i * 3 + 2) _ (row_get chCells 3 (fun _ => rfl) l i 2 hi (by decide))
theorem evts_own {w : World} {b : Nat} {v : Value} {l : List Evt} (hm : l.length ≤ maxLen) (h : w.ownsRow b 89 3 v l.length (evRow l)) : EvSlice w l v := by
  rcases h.2 with ⟨rfl, h0⟩ | ⟨g, cap, cur, rfl, _⟩
  · exact ⟨none, 0, by rw [h0], hm, .inl h0⟩
  · refine ⟨_, cap, rfl, hm, .inr ⟨g, 0, rfl, fun i hi => ⟨?_, ?_, ?_⟩⟩⟩
    · exact own_cells h (i * 3 + 0) _ (row_get evCells 3 (fun _ => rfl) l i 0 hi (by decide))
    · rw [Nat.add_assoc]; exact own_cells h (i * 3 + 1) _ (row_get evCells 3 (fun _ => rfl) l i 1 hi (by decide))
    · rw [Nat.add_assoc]; exact own_cells h (i * 3 + 2) _ (row_get evCells 3 (fun _ => rfl) l i 2 hi (by decide))
theorem clks_own {w : World} {b : Nat} {v : Value} {l : List (Clk × Value)} (h : w.ownsRow b 86 9 v l.length (clRow l)) (he : ∀ x ∈ l, EvSlice w x.1.evs x.2) :
    ∃ p cap, v = .slice p l.length cap ∧ SliceIn p l.length (ClksAt w (l.map (·.1))) := by
  rcases h.2 with ⟨rfl, h0⟩ | ⟨g, cap, cur, rfl, _⟩
  · exact ⟨none, 0, by rw [h0], .inl h0⟩
  · refine ⟨_, cap, rfl, .inr ⟨g, 0, rfl, fun i hi => ?_⟩⟩
    have hi' : i < l.length := by simpa using hi
    have c := fun j (hj : j < 9) (u : Value) (hu : (clkCells l[i].1 l[i].2)[j]? = some u) => own_cells h (i * 9 + j) u ((row_get (fun x : Clk × Value => clkCells x.1 x.2) 9 (fun _ => rfl) l i j hi' hj).trans hu)
    have e : (l.map (·.1))[i] = l[i].1 := by simp
    rw [e]
    refine ⟨⟨?_, ?_, ?_, ?_, ?_, ?_, ?_, ?_⟩, l[i].2, ?_, he _ (List.getElem_mem hi')⟩
    · exact c 0 (by decide) _ rfl
    · rw [Nat.add_assoc]; exact c 1 (by decide) _ rfl
    · rw [Nat.add_assoc]; exact c 2 (by decide) _ rfl
    · rw [Nat.add_assoc]; exact c 3 (by decide) _ rfl
    · rw [Nat.add_assoc]; exact c 4 (by decide) _ rfl
    · rw [Nat.add_assoc]; exact c 5 (by decide) _ rfl
    · rw [Nat.add_assoc]; exact c 6 (by decide) _ rfl
    · rw [Nat.add_assoc]; exact c 7 (by decide) _ rfl
    · rw [Nat.add_assoc]; exact c 8 (by decide) _ rfl
end Go.Proofs.YtehjkmnamgafaaaDoor
