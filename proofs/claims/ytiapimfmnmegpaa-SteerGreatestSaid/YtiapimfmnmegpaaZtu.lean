/- Stage 6 (steer): two lists of whole numbers that grow side by side, in blocks of their own. (own text, as in layer 2) -/
import Derived.Test.YtiapimfmnmegpaaZgt
import Derived.Maps.AppendAt
namespace Go.Proofs.Ytiapimfmnmegpaa.St
open Go Go.RowKit Go.Shelf
/-- the first k numbers of a sequence, as values -/
def seqV (f : Nat → Int) (k : Nat) : List Value := (List.range k).map fun i => .int .i64 (f i)
theorem seqV_succ (f : Nat → Int) (k : Nat) : seqV f (k + 1) = seqV f k ++ [.int .i64 (f k)] := by simp [seqV, List.range_succ]
/-- a slice of the call's own that holds the first k numbers of a sequence -/
def OwnF (B : Nat) (X : World) (v : Value) (f : Nat → Int) (k : Nat) : Prop := X.ownsRow B 3 1 v k (seqV f k)
def ApartV (a b : Value) : Prop := a.ownBlock = none ∨ b.ownBlock = none ∨ a.ownBlock ≠ b.ownBlock
theorem ApartV.symm {a b : Value} (h : ApartV a b) : ApartV b a := by
  rcases h with h | h | h
  · exact .inr (.inl h)
  · exact .inl h
  · exact .inr (.inr h.symm)
theorem ApartV.ne {a b : Value} (h : ApartV a b) : a.ownBlock = none ∨ a.ownBlock ≠ b.ownBlock := by
  rcases h with h | h | h
  · exact .inl h
  · rw [h]; cases e : a.ownBlock <;> simp
  · exact .inr h
theorem OwnF.nil (B : Nat) (X : World) (f : Nat → Int) : OwnF B X (.slice none 0 0) f 0 := World.ownsRow_nil _ _ _ _
theorem OwnF.below {B k : Nat} {X Y : World} {v : Value} {f : Nat → Int} (h : OwnF B X v f k) (hb : Below X.heap.size X Y) : OwnF B Y v f k :=
  World.ownsRow.kept h (gbw hb) (by cases e : v.ownBlock with | none => exact .inl rfl | some k => exact .inr (by simp))
theorem OwnF.in_ {B k : Nat} {X : World} {v : Value} {f : Nat → Int} (h : OwnF B X v f k) : ∃ p cap, v = .slice p k cap ∧ NumIn X f k p := by
  rcases h.2 with ⟨rfl, h0⟩ | ⟨g, cap, cur, rfl, _, _, _⟩
  · exact ⟨none, 0, by rw [h0], .inl h0⟩
  · refine ⟨some ⟨g, 0, none⟩, cap, rfl, .inr ⟨g, 0, rfl, fun i hi => ?_⟩⟩
    have := World.ownsRow.cells h (g := g) rfl i (.int .i64 (f i)) (by simp [seqV, hi])
    rwa [show (⟨g, 0, none⟩ : Addr).add i = ⟨g, 0 + i, none⟩ by unfold Addr.add; split <;> simp_all] at this
theorem OwnF.other {B k : Nat} {X Y : World} {v v' u : Value} {f : Nat → Int} {o : Obj} (h : OwnF B X u f k) (hd : ApartV u v) (hg : (X.alloc o).grownBy Y v.ownBlock) (hb : v'.ownBlock = v.ownBlock ∨ v'.ownBlock = some (X.alloc o).heap.size) : OwnF B Y u f k ∧ ApartV u v' := by
  refine ⟨World.ownsRow.kept (World.ownsRow.alloc h o) hg hd.ne, ?_⟩
  rcases hb with hb | hb
  · unfold ApartV; rw [hb]; exact hd
  · cases e : u.ownBlock with
    | none => exact .inl e
    | some k =>
      refine .inr (.inr ?_)
      rw [e, hb]
      have := (World.ownsRow.lt h k e).2
      intro hk
      cases hk
      simp at this
      omega
structure TurAt (W X : World) (u v : Value) (f g : Nat → Int) (i j : Nat) : Prop where
  o1 : OwnF W.heap.size X u f i
  o2 : OwnF W.heap.size X v g j
  d : ApartV u v
  bel : Below W.heap.size W X
variable {W X Y : World} {u v u' v' : Value} {f g : Nat → Int} {i j : Nat} {o : Obj}
theorem TurAt.below (h : TurAt W X u v f g i j) (hb : Below X.heap.size X Y) : TurAt W Y u v f g i j := ⟨h.o1.below hb, h.o2.below hb, h.d, h.bel.trans (hb.mono h.bel.size)⟩
theorem TurAt.grown {row : Option Nat} (h : TurAt W X u v f g i j) (hg : (X.alloc o).grownBy Y row) (hr : ∀ k, row = some k → W.heap.size ≤ k) : Below W.heap.size W Y := (h.bel.alloc h.bel.size o).grown hg (by have := h.bel.size; simp; omega) hr
theorem TurAt.first (h : TurAt W X u v f g i j) {x : Int} (hx : x = f i) (hown : Y.ownsRow W.heap.size 3 1 u' (i + 1) (seqV f i ++ [.int .i64 x])) (hg : (X.alloc o).grownBy Y u.ownBlock) (hb : u'.ownBlock = u.ownBlock ∨ u'.ownBlock = some (X.alloc o).heap.size) : TurAt W Y u' v f g (i + 1) j := by
  obtain ⟨p2, q2⟩ := h.o2.other h.d.symm hg hb
  refine ⟨?_, p2, q2.symm, h.grown hg (fun k hk => (World.ownsRow.lt h.o1 k hk).1)⟩
  unfold OwnF
  rw [seqV_succ, ← hx]
  exact hown
theorem TurAt.second (h : TurAt W X u v f g i j) {x : Int} (hx : x = g j) (hown : Y.ownsRow W.heap.size 3 1 v' (j + 1) (seqV g j ++ [.int .i64 x])) (hg : (X.alloc o).grownBy Y v.ownBlock) (hb : v'.ownBlock = v.ownBlock ∨ v'.ownBlock = some (X.alloc o).heap.size) : TurAt W Y u v' f g i (j + 1) := by
  obtain ⟨p1, q1⟩ := h.o1.other h.d hg hb
  refine ⟨p1, ?_, q1, h.grown hg (fun k hk => (World.ownsRow.lt h.o2 k hk).1)⟩
  unfold OwnF
  rw [seqV_succ, ← hx]
  exact hown
theorem OwnF.in2 {B k : Nat} {X : World} {v : Value} {f : Nat → Int} (h : OwnF B X v f k) (hk : 0 < k) : ∃ g cap, v = .slice (some ⟨g, 0, none⟩) k cap ∧ k ≤ cap ∧ NumIn X f k (some ⟨g, 0, none⟩) := by
  obtain ⟨p, cap, e, hn⟩ := h.in_
  rcases h.2 with ⟨_, h0⟩ | ⟨g, cap', cur, e', h1, h2, h3, h4, h5, h6⟩
  · omega
  · rw [e] at e'
    cases e'
    exact ⟨g, cap, e, h3, hn⟩
end Go.Proofs.Ytiapimfmnmegpaa.St
