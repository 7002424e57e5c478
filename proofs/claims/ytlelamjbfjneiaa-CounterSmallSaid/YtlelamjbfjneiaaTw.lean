/- Layer 2: the reference's counter and the program's, each in its box. -/
import Derived.Test.YtlelamjbfjneiaaNw
namespace Go.Proofs.Ytlelamjbfjneiaa.Ct
open Go Go.RowKit Go.Shelf
/-- the reference's counter and the program's, each in its box -/
structure TwoC (X : World) (b : Nat) (c : Cnt) : Prop where
  a : CBox X b c
  z : CBox X (b + 1) c
theorem TwoC.below {X Y : World} {b : Nat} {c : Cnt} (h : TwoC X b c) (hb : Below X.heap.size X Y) : TwoC Y b c := ⟨h.a.below hb, h.z.below hb⟩
def twoW (w : World) (c : Cnt) : World := (w.alloc (.cells #[.int .i64 c.f, .int .i64 c.o, .int .i64 c.j, .int .i64 c.g, .int .i64 c.r, .int .i64 c.d, .int .i64 c.i] 49)).alloc (.cells #[.int .i64 c.f, .int .i64 c.o, .int .i64 c.j, .int .i64 c.g, .int .i64 c.r, .int .i64 c.d, .int .i64 c.i] 56)
theorem two_box (w : World) (c : Cnt) : TwoC (twoW w c) w.heap.size c ∧ Below w.heap.size w (twoW w c) := by
  have al : ∀ (Y : World) (o : Obj), (Y.alloc o).heap.size = Y.heap.size + 1 := fun Y o => by simp
  have k1 : ∀ (X : World) (t : TypeId), CBox (X.alloc (.cells #[.int .i64 c.f, .int .i64 c.o, .int .i64 c.j, .int .i64 c.g, .int .i64 c.r, .int .i64 c.d, .int .i64 c.i] t)) X.heap.size c := fun X t => ⟨by simp, by simp, by simp, by simp, by simp, by simp, by simp⟩
  have h2 := k1 (w.alloc (.cells #[.int .i64 c.f, .int .i64 c.o, .int .i64 c.j, .int .i64 c.g, .int .i64 c.r, .int .i64 c.d, .int .i64 c.i] 49)) 56
  rw [al] at h2
  exact ⟨⟨(k1 w _).below (below_alloc (Below.refl _ _) _), h2⟩, below_alloc (below_alloc (Below.refl _ _) _) _⟩
end Go.Proofs.Ytlelamjbfjneiaa.Ct
