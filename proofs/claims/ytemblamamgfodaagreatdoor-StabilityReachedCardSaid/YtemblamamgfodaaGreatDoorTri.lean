/- Three slices that grow side by side, in blocks of their own. -/
import Derived.Test.YtemblamamgfodaaGreatDoorBa
import Derived.Maps.AppendAt
namespace Go.Proofs.YtemblamamgfodaaGreatDoor
open Go Go.RowKit Go.Shelf
def ints (l : List Int) : List Value := l.map (Value.int .i64)
theorem ints_snoc (l : List Int) (x : Int) : ints (l ++ [x]) = ints l ++ [.int .i64 x] := by simp [ints]
def Apart (a b : Value) : Prop := a.ownBlock = none ∨ b.ownBlock = none ∨ a.ownBlock ≠ b.ownBlock
theorem Apart.symm {a b : Value} (h : Apart a b) : Apart b a := by
  rcases h with h | h | h
  · exact .inr (.inl h)
  · exact .inl h
  · exact .inr (.inr h.symm)
theorem Apart.ne {a b : Value} (h : Apart a b) : a.ownBlock = none ∨ a.ownBlock ≠ b.ownBlock := by
  rcases h with h | h | h
  · exact .inl h
  · rw [h]; cases e : a.ownBlock <;> simp
  · exact .inr h
/-- a slice of the call's own -/
def OwnI (B : Nat) (X : World) (v : Value) (l : List Int) : Prop := X.ownsRow B 3 1 v l.length (ints l)
theorem OwnI.kept {B : Nat} {X Y : World} {v : Value} {l : List Int} {row : Option Nat} (h : OwnI B X v l) (hg : X.grownBy Y row) (hne : v.ownBlock = none ∨ v.ownBlock ≠ row) : OwnI B Y v l := World.ownsRow.kept h hg hne
theorem OwnI.alloc {B : Nat} {X : World} {v : Value} {l : List Int} (h : OwnI B X v l) (o : Obj) : OwnI B (X.alloc o) v l := World.ownsRow.alloc h o
theorem OwnI.snoc {B : Nat} {X : World} {v : Value} {l : List Int} {x : Int} (h : X.ownsRow B 3 1 v (l.length + 1) (ints l ++ [.int .i64 x])) : OwnI B X v (l ++ [x]) := by
  unfold OwnI
  rw [ints_snoc, List.length_append]
  exact h
theorem OwnI.ints {B : Nat} {X : World} {v : Value} {l : List Int} (h : OwnI B X v l) (h1 : 1 ≤ l.length) : ∃ b cap, v = .slice (some ⟨b, 0, none⟩) l.length cap ∧ IntsAt X l b 0 := by
  obtain ⟨b, cap, hv⟩ := ownsRow_succ (k := l.length - 1) (by rw [Nat.sub_add_cancel h1]; exact h)
  rw [Nat.sub_add_cancel h1] at hv
  subst hv
  refine ⟨b, cap, rfl, fun i hi => ?_⟩
  have := World.ownsRow.cells h (g := b) rfl i (.int .i64 l[i]) (by simp [Go.Proofs.YtemblamamgfodaaGreatDoor.ints, hi])
  rw [add_plain] at this
  exact this
/-- behind an append to one slice another one reads as it did, and lies apart from it -/
theorem OwnI.other {B : Nat} {X Y : World} {v v' u : Value} {l : List Int} {o : Obj} (h : OwnI B X u l) (hd : Apart u v) (hg : (X.alloc o).grownBy Y v.ownBlock) (hb : v'.ownBlock = v.ownBlock ∨ v'.ownBlock = some (X.alloc o).heap.size) : OwnI B Y u l ∧ Apart u v' := by
  refine ⟨(h.alloc o).kept hg hd.ne, ?_⟩
  rcases hb with hb | hb
  · unfold Apart; rw [hb]; exact hd
  · cases e : u.ownBlock with
    | none => exact .inl e
    | some k =>
      refine .inr (.inr ?_)
      rw [e, hb]
      have := (World.ownsRow.lt h k e).2
      intro hk
      cases hk
      simp at this
      omega
structure Three (w X : World) (v1 v2 v3 : Value) (l1 l2 l3 : List Int) : Prop where
  o1 : OwnI w.heap.size X v1 l1
  o2 : OwnI w.heap.size X v2 l2
  o3 : OwnI w.heap.size X v3 l3
  d12 : Apart v1 v2
  d13 : Apart v1 v3
  d23 : Apart v2 v3
  bel : Below w.heap.size w X
variable {w X Y : World} {v1 v2 v3 v1' : Value} {l1 l2 l3 : List Int} {x : Int} {o : Obj}
theorem own_grown_below {B : Nat} {v : Value} {l : List Int} (h : OwnI B X v l) (hb : Below B w X) (hB : B ≤ X.heap.size) (hg : (X.alloc o).grownBy Y v.ownBlock) : Below B w Y :=
  (hb.alloc hB o).grown hg (by simp; omega) (fun k hk => (World.ownsRow.lt h k hk).1)
theorem Three.rot (h : Three w X v1 v2 v3 l1 l2 l3) : Three w X v2 v3 v1 l2 l3 l1 := ⟨h.o2, h.o3, h.o1, h.d23, h.d12.symm, h.d13.symm, h.bel⟩
theorem Three.step (h : Three w X v1 v2 v3 l1 l2 l3) (hown : Y.ownsRow w.heap.size 3 1 v1' (l1.length + 1) (ints l1 ++ [.int .i64 x])) (hg : (X.alloc o).grownBy Y v1.ownBlock)
    (hb : v1'.ownBlock = v1.ownBlock ∨ v1'.ownBlock = some (X.alloc o).heap.size) : Three w Y v1' v2 v3 (l1 ++ [x]) l2 l3 := by
  obtain ⟨p2, q2⟩ := h.o2.other h.d12.symm hg hb
  obtain ⟨p3, q3⟩ := h.o3.other h.d13.symm hg hb
  exact ⟨OwnI.snoc hown, p2, p3, q2.symm, q3.symm, h.d23, own_grown_below h.o1 h.bel h.bel.size hg⟩
theorem Three.start (w : World) : Three w w (.slice none 0 0) (.slice none 0 0) (.slice none 0 0) [] [] [] :=
  ⟨World.ownsRow_nil _ _ _ _, World.ownsRow_nil _ _ _ _, World.ownsRow_nil _ _ _ _, .inl rfl, .inl rfl, .inl rfl, Below.refl _ _⟩
end Go.Proofs.YtemblamamgfodaaGreatDoor
