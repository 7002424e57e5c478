/- Layer 9 (calendar): cells that are far from what is written. -/
import Derived.RangeFuncBox
import Derived.Test.YtgnfaemnehmgcaaGreatDoorQ16
namespace Go.Proofs.YtgnfaemnehmgcaaGreatDoor.Cal
open Go Go.RowKit
attribute [local go_sem] Oper.semAt_some
theorem own_set {w : World} {b s n : Nat} {e : TypeId} {v : Value} {xs : List Value} {p : Addr} (h : w.ownsRow b e s v n xs) (u : Value) (hne : v.ownBlock ≠ some p.block) : (w.setCell p u).ownsRow b e s v n xs := by
  refine ⟨h.1, ?_⟩
  rcases h.2 with hn | ⟨g, cap, cur, rfl, hbg, hg, rest⟩
  · exact .inl hn
  · refine .inr ⟨g, cap, cur, rfl, hbg, (Below.heap_setCell w p u g (fun he => ?_)).trans hg, rest⟩
    subst he
    exact hne rfl
theorem two_new (w : World) (x y : Value) (t : TypeId) : ∀ j u, [x, y][j]? = some u → (w.alloc (.cells #[x, y] t)).cell? ((⟨w.heap.size, 0, none⟩ : Addr).add j) = some u := by
  intro j u hj
  match j, hj with
  | 0, hj => simp at hj; subst hj; simp [Addr.add]
  | 1, hj => simp at hj; subst hj; simp [Addr.add]
theorem farC {X : World} {a o a' o' : Nat} {x v : Value} (hne : a ≠ a') (h : X.cell? ⟨a, o, none⟩ = some x) : (X.setCell ⟨a', o', none⟩ v).cell? ⟨a, o, none⟩ = some x := by
  rw [World.cell?_setCell_far _ _ _ _ (Ne.symm hne)]; exact h
theorem LpIn.set {X : World} {f : Nat → Int × Int} {n a i : Nat} {q : Option Addr} {v : Value} (h : LpIn X f n q) (hne : ∀ b o, q = some ⟨b, o, none⟩ → b ≠ a) : LpIn (X.setCell ⟨a, i, none⟩ v) f n q := by
  rcases h with h | ⟨b, o, e, hi⟩
  · exact .inl h
  · exact .inr ⟨b, o, e, fun j hj => ⟨farC (hne b o e) (hi j hj).1, farC (hne b o e) (hi j hj).2⟩⟩
theorem own_geS {w : World} {b s : Nat} {e : TypeId} {v : Value} {n k : Nat} {xs : List Value} (h : w.ownsRow b e s v n xs) (hk : v.ownBlock = some k) : b ≤ k := by
  rcases h.2 with ⟨rfl, _⟩ | ⟨g, cap, cur, rfl, hg, _⟩
  · cases hk
  · obtain rfl : g = k := by simpa [Value.ownBlock] using hk
    exact hg
theorem grownO_cell {w w' : World} {b o : Nat} {v : Value} {r : Option Nat} (hg : w.grownBy w' r) (hc : w.cell? ⟨b, o, none⟩ = some v) (hne : some b ≠ r) : w'.cell? ⟨b, o, none⟩ = some v :=
  (World.cell?_of_block (w := w) (a := ⟨b, o, none⟩) (hg.block b (cell_lt hc) hne)).trans hc
theorem grownO_frozen {w w' : World} {b o : Nat} {r : Option Nat} (hg : w.grownBy w' r) (hb : b < w.heap.size) (hne : some b ≠ r) (hf : w.frozen? ⟨b, o, none⟩ = false) : w'.frozen? ⟨b, o, none⟩ = false := by
  have := hg.block b hb hne
  unfold World.frozen? at *
  simp only [this] at *
  exact hf
/-- a result's three cells -/
structure Res3 (w : World) (a : Nat) : Prop where
  r0 : ∃ v, w.cell? ⟨a, 0, none⟩ = some v
  r1 : ∃ v, w.cell? ⟨a, 1, none⟩ = some v
  r2 : ∃ v, w.cell? ⟨a, 2, none⟩ = some v
  z : ∀ i, w.frozen? ⟨a, i, none⟩ = false
theorem Res3.lt {w : World} {a : Nat} (h : Res3 w a) : a < w.heap.size := let ⟨_, e⟩ := h.r0; cell_lt e
theorem Res3.new (w : World) (v0 v1 v2 : Value) (t : TypeId) : Res3 (w.alloc (.cells #[v0, v1, v2] t)) w.heap.size := ⟨⟨v0, by simp⟩, ⟨v1, by simp⟩, ⟨v2, by simp⟩, fun i => by simp⟩
theorem Res3.below {w w' : World} {a : Nat} (h : Res3 w a) (hb : Below w.heap.size w w') : Res3 w' a :=
  ⟨h.r0.imp fun _ e => cell_below hb e, h.r1.imp fun _ e => cell_below hb e, h.r2.imp fun _ e => cell_below hb e, fun i => (hb.frozen (p := ⟨a, i, none⟩) h.lt).trans (h.z i)⟩
theorem Res3.grown {w w' : World} {a : Nat} {r : Option Nat} (h : Res3 w a) (hg : w.grownBy w' r) (hne : some a ≠ r) : Res3 w' a :=
  ⟨h.r0.imp fun _ e => grownO_cell hg e hne, h.r1.imp fun _ e => grownO_cell hg e hne, h.r2.imp fun _ e => grownO_cell hg e hne, fun i => grownO_frozen hg h.lt hne (h.z i)⟩
end Go.Proofs.YtgnfaemnehmgcaaGreatDoor.Cal
