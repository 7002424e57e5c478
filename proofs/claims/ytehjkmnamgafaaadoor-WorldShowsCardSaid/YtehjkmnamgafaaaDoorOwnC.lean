/- What Own's walks need: the element types' rows of the table; what Own leaves. -/
import Derived.Test.YtehjkmnamgafaaaDoorOwnB
import Derived.Laws.Pointers
namespace Go.Proofs.YtehjkmnamgafaaaDoor
open Go Go.RowKit
theorem infoCh : (Tryd.prog.info? 90).map (fun i => (i.zero, i.size, i.bytes)) = some (some (.agg #[.int .i64 0, .int .i64 0, .int .i64 0]), 3, 24) := by kernel_rfl
theorem infoEv : (Tryd.prog.info? 89).map (fun i => (i.zero, i.size, i.bytes)) = some (some (.agg #[.int .i64 0, .int .i64 0, .int .i64 0]), 3, 24) := by kernel_rfl
theorem infoCl : (Tryd.prog.info? 86).map (fun i => (i.zero, i.size, i.bytes)) = some (some (.agg #[.int .i64 0, .int .i64 0, .int .i64 0, .int .i64 0, .int .i64 0, .int .i64 0, .int .i64 0, .int .i64 0, .slice none 0 0]), 9, 88) := by kernel_rfl
theorem set_far {w : World} {b o b' o' : Nat} {u v : Value} (h : w.cell? ⟨b, o, none⟩ = some v) (hne : b' ≠ b) : (w.setCell ⟨b', o', none⟩ u).cell? ⟨b, o, none⟩ = some v := by
  rw [World.cell?_setCell_other w ⟨b', o', none⟩ ⟨b, o, none⟩ u (fun e => by cases e; exact hne rfl)]; exact h
/-- what Own leaves -/
def Owned (w : World) (W : Wld) (e : Ending) (w' : World) : Prop :=
  ∃ q1 q2 d1 d2, e = .returned (.agg #[.int .u64 W.seed, .slice q1 W.chs.length d1, .slice q2 W.cls.length d2]) ∧ WldIn w' W q1 q2 ∧ Below w.heap.size w w'
end Go.Proofs.YtehjkmnamgafaaaDoor
