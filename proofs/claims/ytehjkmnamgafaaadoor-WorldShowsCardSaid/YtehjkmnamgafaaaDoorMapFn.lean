/- Maps that a call makes out of a literal, with integers as keys: what an insertion and a look-up do; a slot of any kind. -/
import Derived.MapKept
import Derived.Carry
import Derived.WalkKit
namespace Go.Proofs.YtehjkmnamgafaaaDoor
open Go Go.RowKit
/-- an insertion of a new key into the block that was made last -/
theorem run_mapUpdate_top {P : Program} (w : World) (t kt et : TypeId) (es : Array MapEntry) (c : Nat) (k : IntKind) (n : Int) (v : Value)
    (h1 : P.underlying t = some (.map kt et)) (h2 : P.underlying kt = some (.int k)) (hf : Instr.findNow (.int k) (.int k n) es.toList 0 = some none) :
    (Instr.mapUpdate t (.map (some w.heap.size)) (.int k n) v).run P (w.alloc (.map es c)) = .ok () (w.alloc (.map (es.push { key := .int k n, val := v, born := c }) (c + 1))) := by
  have hb : (w.alloc (.map es c)).heap[w.heap.size]? = some (.map es c) := (MapKept.heap_alloc w _).1
  unfold Instr.mapUpdate
  simp only [Sem.run_bind, run_underlying h1, Result.andThen, MapKept.run_getObj_map hb, MapKept.run_checkKey h2 (show MapKept.IsKey (.int k) (.int k n) from rfl), MapKept.run_findKey h2 hf, MapKept.run_setObj_map _ hb]
  have e : (w.alloc (.map es c)).heap.setIfInBounds w.heap.size (.map (es.push { key := .int k n, val := v, born := c }) (c + 1)) = w.heap.push (.map (es.push { key := .int k n, val := v, born := c }) (c + 1)) := by
    show (w.heap.push _).setIfInBounds _ _ = _
    apply Array.ext_getElem?
    intro i
    simp only [Array.getElem?_setIfInBounds, Array.getElem?_push, Array.size_push]
    by_cases hi : w.heap.size = i
    · subst hi; simp
    · simp [hi, Ne.symm hi]
  rw [e]
  rfl
/-- a look-up, where the key is found -/
theorem run_lookup_found {P : Program} (w : World) (t kt et : TypeId) (r : Nat) (es : Array MapEntry) (c : Nat) (k : IntKind) (n : Int) (i : Nat) (v : Value)
    (h1 : P.underlying t = some (.map kt et)) (h2 : P.underlying kt = some (.int k)) (hb : w.heap[r]? = some (.map es c)) (hf : Instr.findNow (.int k) (.int k n) es.toList 0 = some (some (i, v))) :
    (Instr.lookup t (.map (some r)) (.int k n) false).run P w = .ok v w := by
  unfold Instr.lookup
  simp [Sem.run_bind, run_underlying h1, Result.andThen, MapKept.run_getObj_map hb, MapKept.run_checkKey h2 (show MapKept.IsKey (.int k) (.int k n) from rfl), MapKept.run_findKey h2 hf]
end Go.Proofs.YtehjkmnamgafaaaDoor
