/- What events do to a clock: the map of methods, and the methods. -/
import Derived.Test.YtehjkmnamgafaaaDoorLeafB
import Derived.Test.YtehjkmnamgafaaaDoorMapFn
import Derived.StillTailTactics
namespace Go.Proofs.YtehjkmnamgafaaaDoor
open Go Go.RowKit
def fnv (f : Nat) : Value := .func (.func f) #[] #[]
def fxMap : Obj := .map #[{ key := .int .i64 1, val := fnv 95, born := 0 }, { key := .int .i64 2, val := fnv 96, born := 1 }, { key := .int .i64 3, val := fnv 97, born := 2 }, { key := .int .i64 4, val := fnv 98, born := 3 }] 4
theorem effects_any (w : World) :
    Calls Tryd.prog 87 #[] w fun e w' => e = .returned (.map (some w.heap.size)) ∧ w' = w.alloc fxMap := by
  have hmm := @run_makeMap Tryd.prog
  have m1 := run_mapUpdate_top (P := Tryd.prog) w _ _ _ #[] 0 .i64 1 (fnv 95) Tryd.underlying116 Tryd.underlying87 rfl
  have m2 := run_mapUpdate_top (P := Tryd.prog) w _ _ _ #[{ key := .int .i64 1, val := fnv 95, born := 0 }] 1 .i64 2 (fnv 96) Tryd.underlying116 Tryd.underlying87 rfl
  have m3 := run_mapUpdate_top (P := Tryd.prog) w _ _ _ #[{ key := .int .i64 1, val := fnv 95, born := 0 }, { key := .int .i64 2, val := fnv 96, born := 1 }] 2 .i64 3 (fnv 97) Tryd.underlying116 Tryd.underlying87 rfl
  have m4 := run_mapUpdate_top (P := Tryd.prog) w _ _ _ #[{ key := .int .i64 1, val := fnv 95, born := 0 }, { key := .int .i64 2, val := fnv 96, born := 1 }, { key := .int .i64 3, val := fnv 97, born := 2 }] 3 .i64 4 (fnv 98) Tryd.underlying116 Tryd.underlying87 rfl
  simp only [fnv, List.push_toArray, List.nil_append, List.cons_append, Nat.reduceAdd] at m1 m2 m3 m4
  go_enter Tryd.func87, Tryd.ntmps87
  go_wp2
  go_ret
  exact ⟨rfl, rfl⟩
theorem step_any (bp : Nat) (j n m : Int) (w : World) (h0 : w.cell? ⟨bp, 0, none⟩ = some (.int .i64 j)) (hf : w.frozen? ⟨bp, 0, none⟩ = false) (hj : -1000000000000000000 ≤ j ∧ j ≤ 1000000000000000000) (hn : -1000000000000000000 ≤ n ∧ n ≤ 1000000000000000000) :
    Calls Tryd.prog 95 #[.pointer (some ⟨bp, 0, none⟩), .int .i64 n, .int .i64 m] w fun e w' => e = .returned (.tuple #[]) ∧ w' = w.setCell ⟨bp, 0, none⟩ (.int .i64 (j + n)) := by
  go_enter Tryd.func95, Tryd.ntmps95
  go_wp2
  go_end0
  exact ⟨rfl, rfl⟩
theorem kick_any (bp : Nat) (k n m : Int) (w : World) (h0 : w.cell? ⟨bp, 1, none⟩ = some (.int .i64 k)) (hf : w.frozen? ⟨bp, 1, none⟩ = false) (hj : -1000000000000000000 ≤ k ∧ k ≤ 1000000000000000000) (hn : -1000000000000000000 ≤ n * m ∧ n * m ≤ 1000000000000000000) :
    Calls Tryd.prog 96 #[.pointer (some ⟨bp, 0, none⟩), .int .i64 n, .int .i64 m] w fun e w' => e = .returned (.tuple #[]) ∧ w' = w.setCell ⟨bp, 1, none⟩ (.int .i64 (k + n * m)) := by
  go_enter Tryd.func96, Tryd.ntmps96
  go_wp2
  go_end0
  exact ⟨rfl, rfl⟩
theorem stop_any (bp : Nat) (st : Bool) (n m : Int) (w : World) (h0 : w.cell? ⟨bp, 2, none⟩ = some (.bool st)) (hf : w.frozen? ⟨bp, 2, none⟩ = false) :
    Calls Tryd.prog 97 #[.pointer (some ⟨bp, 0, none⟩), .int .i64 n, .int .i64 m] w fun e w' => e = .returned (.tuple #[]) ∧ w' = w.setCell ⟨bp, 2, none⟩ (.bool true) := by
  go_enter Tryd.func97, Tryd.ntmps97
  go_wp2
  go_end0
  exact ⟨rfl, rfl⟩
theorem start_any (bp : Nat) (st : Bool) (n m : Int) (w : World) (h0 : w.cell? ⟨bp, 2, none⟩ = some (.bool st)) (hf : w.frozen? ⟨bp, 2, none⟩ = false) :
    Calls Tryd.prog 98 #[.pointer (some ⟨bp, 0, none⟩), .int .i64 n, .int .i64 m] w fun e w' => e = .returned (.tuple #[]) ∧ w' = w.setCell ⟨bp, 2, none⟩ (.bool false) := by
  go_enter Tryd.func98, Tryd.ntmps98
  go_wp2
  go_end0
  exact ⟨rfl, rfl⟩
end Go.Proofs.YtehjkmnamgafaaaDoor
