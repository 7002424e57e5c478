/- Stage 6 (steer): SteerGrows: its beginning's boxes; the statements of a body. (by gen_zgl.py) -/
import Derived.Test.YtiapimfmnmegpaaZlk
import Derived.Test.YtiapimfmnmegpaaKh
import Derived.Deep.CutBlock
namespace Go.Proofs.Ytiapimfmnmegpaa.St
open Go Go.RowKit Go.Shelf
attribute [local go_sem] Oper.semAt_some
/-- a plan of the reference in its box -/
def RPlAt (W : World) (B : Nat) (l r s z : Int) : Prop := W.heap[B]? = some (.cells #[.int .i64 l, .int .i64 r, .int .i64 s, .int .i64 z] 23)
theorem RPlAt.c {W : World} {B : Nat} {l r s z : Int} (h : RPlAt W B l r s z) : PlC W B l r s z := by
  unfold RPlAt at h
  constructor <;> simp [World.cell?, h]
theorem RPlAt.below {W X : World} {B : Nat} {l r s z : Int} (h : RPlAt W B l r s z) (hb : Below W.heap.size W X) : RPlAt X B l r s z := heap_below hb h
theorem law_start (w : World) (l r s z : Int) : ∃ W0, (w.alloc (.cells #[.int .i64 l, .int .i64 r, .int .i64 s, .int .i64 z] 23)).alloc (.cells #[.int .i64 l, .int .i64 r, .int .i64 s, .int .i64 z] 27) = W0 ∧
    RPlAt W0 w.heap.size l r s z ∧ PlAt W0 (w.heap.size + 1) l r s z ∧ Below w.heap.size w W0 := by
  refine ⟨_, rfl, ?_, ?_, below_alloc (below_alloc (Below.refl _ _) _) _⟩
  · exact heap_below (below_alloc (Below.refl _ _) _) (World.alloc_heap_new w _)
  · unfold PlAt
    have := World.alloc_heap_new (w.alloc (.cells #[.int .i64 l, .int .i64 r, .int .i64 s, .int .i64 z] 23)) (.cells #[.int .i64 l, .int .i64 r, .int .i64 s, .int .i64 z] 27)
    rwa [World.size_alloc] at this
theorem PlAt.frozen {W : World} {B : Nat} {l r s z : Int} (h : PlAt W B l r s z) (i : Nat) : W.frozen? ⟨B, i, none⟩ = false := by unfold PlAt at h; simp [World.frozen?, h]
/-- the statements of a body behind the first n; the first one -/
def tailN : Nat → Code → Code
  | 0, c => c
  | n + 1, .seq _ b => tailN n b
  | _ + 1, c => c
def headC : Code → Code
  | .seq a _ => a
  | c => c
def bodyC : Option Code → Code
  | some c => c
  | none => .skip
end Go.Proofs.Ytiapimfmnmegpaa.St
