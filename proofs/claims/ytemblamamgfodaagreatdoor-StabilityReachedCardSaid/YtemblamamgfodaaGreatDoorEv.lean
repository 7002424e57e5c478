/- Maps that a call makes out of a literal, with integers as keys: what an insertion and a look-up do; a slot of any kind. · What events do to a clock: the map of methods, and the methods. · How chambers, events, clocks and worlds lie in memory; what lies so still lies so when memory has only grown. -/
import Derived.MapKept
import Derived.Carry
import Derived.WalkKit
import Derived.Test.YtemblamamgfodaaGreatDoorLeaf
import Derived.StillTailTactics
namespace Go.Proofs.YtemblamamgfodaaGreatDoor.Wd
section
open Go Go.RowKit
/-- an insertion of a new key into the block that was made last -/
theorem run_mapUpdate_top {P : Program} (w : World) (t kt et : TypeId) (es : Array MapEntry) (c : Nat) (k : IntKind) (n : Int) (v : Value)
    (h1 : P.underlying t = some (.map kt et)) (h2 : P.underlying kt = some (.int k)) (hf : Instr.findNow (.int k) (.int k n) es.toList 0 = some none) :
    (Instr.mapUpdate t (.map (some w.heap.size)) (.int k n) v).run P (w.alloc (.map es c)) = .ok () (w.alloc (.map (es.push { key := .int k n, val := v, born := c }) (c + 1))) := by
  have hb : (w.alloc (.map es c)).heap[w.heap.size]? = some (.map es c) := (MapKept.heap_alloc w _).1
  unfold Instr.mapUpdate
  simp only [Sem.run_bind, run_underlying h1, Result.andThen, MapKept.run_getObj_map hb, MapKept.run_checkKey h2 (show MapKept.IsKey (.int k) (.int k n) from rfl), MapKept.run_findKey h2 hf, MapKept.run_setObj_map _ hb]
  have e : (w.alloc (.map es c)).heap.setIfInBounds w.heap.size (.map (es.push { key := .int k n, val := v, born := c }) (c + 1)) = w.heap.push (.map (es.push { key := .int k n, val := v, born := c }) (c + 1)) := by
    show (w.heap.push _).setIfInBounds _ _ = _
    apply Array.ext_getElem?
    intro i
    simp only [Array.getElem?_setIfInBounds, Array.getElem?_push, Array.size_push]
    by_cases hi : w.heap.size = i
    · subst hi; simp
    · simp [hi, Ne.symm hi]
  rw [e]
  rfl
/-- a look-up, where the key is found -/
theorem run_lookup_found {P : Program} (w : World) (t kt et : TypeId) (r : Nat) (es : Array MapEntry) (c : Nat) (k : IntKind) (n : Int) (i : Nat) (v : Value)
    (h1 : P.underlying t = some (.map kt et)) (h2 : P.underlying kt = some (.int k)) (hb : w.heap[r]? = some (.map es c)) (hf : Instr.findNow (.int k) (.int k n) es.toList 0 = some (some (i, v))) :
    (Instr.lookup t (.map (some r)) (.int k n) false).run P w = .ok v w := by
  unfold Instr.lookup
  simp [Sem.run_bind, run_underlying h1, Result.andThen, MapKept.run_getObj_map hb, MapKept.run_checkKey h2 (show MapKept.IsKey (.int k) (.int k n) from rfl), MapKept.run_findKey h2 hf]
end
section
open Go Go.RowKit
def fnv (f : Nat) : Value := .func (.func f) #[] #[]
def fxMap : Obj := .map #[{ key := .int .i64 1, val := fnv 136, born := 0 }, { key := .int .i64 2, val := fnv 137, born := 1 }, { key := .int .i64 3, val := fnv 138, born := 2 }, { key := .int .i64 4, val := fnv 139, born := 3 }] 4
theorem effects_any (w : World) :
    Calls Tryz.prog 92 #[] w fun e w' => e = .returned (.map (some w.heap.size)) ∧ w' = w.alloc fxMap := by
  have hmm := @run_makeMap Tryz.prog
  have m1 := run_mapUpdate_top (P := Tryz.prog) w _ _ _ #[] 0 .i64 1 (fnv 136) Tryz.underlying135 Tryz.underlying94 rfl
  have m2 := run_mapUpdate_top (P := Tryz.prog) w _ _ _ #[{ key := .int .i64 1, val := fnv 136, born := 0 }] 1 .i64 2 (fnv 137) Tryz.underlying135 Tryz.underlying94 rfl
  have m3 := run_mapUpdate_top (P := Tryz.prog) w _ _ _ #[{ key := .int .i64 1, val := fnv 136, born := 0 }, { key := .int .i64 2, val := fnv 137, born := 1 }] 2 .i64 3 (fnv 138) Tryz.underlying135 Tryz.underlying94 rfl
  have m4 := run_mapUpdate_top (P := Tryz.prog) w _ _ _ #[{ key := .int .i64 1, val := fnv 136, born := 0 }, { key := .int .i64 2, val := fnv 137, born := 1 }, { key := .int .i64 3, val := fnv 138, born := 2 }] 3 .i64 4 (fnv 139) Tryz.underlying135 Tryz.underlying94 rfl
  simp only [fnv, List.push_toArray, List.nil_append, List.cons_append, Nat.reduceAdd] at m1 m2 m3 m4
  go_enter Tryz.func92, Tryz.ntmps92
  go_wp2
  go_ret
  exact ⟨rfl, rfl⟩
theorem step_any (bp : Nat) (j n m : Int) (w : World) (h0 : w.cell? ⟨bp, 0, none⟩ = some (.int .i64 j)) (hf : w.frozen? ⟨bp, 0, none⟩ = false) (hj : -1000000000000000000 ≤ j ∧ j ≤ 1000000000000000000) (hn : -1000000000000000000 ≤ n ∧ n ≤ 1000000000000000000) :
    Calls Tryz.prog 136 #[.pointer (some ⟨bp, 0, none⟩), .int .i64 n, .int .i64 m] w fun e w' => e = .returned (.tuple #[]) ∧ w' = w.setCell ⟨bp, 0, none⟩ (.int .i64 (j + n)) := by
  go_enter Tryz.func136, Tryz.ntmps136
  go_wp2
  go_end0
  exact ⟨rfl, rfl⟩
theorem kick_any (bp : Nat) (k n m : Int) (w : World) (h0 : w.cell? ⟨bp, 1, none⟩ = some (.int .i64 k)) (hf : w.frozen? ⟨bp, 1, none⟩ = false) (hj : -1000000000000000000 ≤ k ∧ k ≤ 1000000000000000000) (hn : -1000000000000000000 ≤ n * m ∧ n * m ≤ 1000000000000000000) :
    Calls Tryz.prog 137 #[.pointer (some ⟨bp, 0, none⟩), .int .i64 n, .int .i64 m] w fun e w' => e = .returned (.tuple #[]) ∧ w' = w.setCell ⟨bp, 1, none⟩ (.int .i64 (k + n * m)) := by
  go_enter Tryz.func137, Tryz.ntmps137
  go_wp2
  go_end0
  exact ⟨rfl, rfl⟩
theorem stop_any (bp : Nat) (st : Bool) (n m : Int) (w : World) (h0 : w.cell? ⟨bp, 2, none⟩ = some (.bool st)) (hf : w.frozen? ⟨bp, 2, none⟩ = false) :
    Calls Tryz.prog 138 #[.pointer (some ⟨bp, 0, none⟩), .int .i64 n, .int .i64 m] w fun e w' => e = .returned (.tuple #[]) ∧ w' = w.setCell ⟨bp, 2, none⟩ (.bool true) := by
  go_enter Tryz.func138, Tryz.ntmps138
  go_wp2
  go_end0
  exact ⟨rfl, rfl⟩
theorem start_any (bp : Nat) (st : Bool) (n m : Int) (w : World) (h0 : w.cell? ⟨bp, 2, none⟩ = some (.bool st)) (hf : w.frozen? ⟨bp, 2, none⟩ = false) :
    Calls Tryz.prog 139 #[.pointer (some ⟨bp, 0, none⟩), .int .i64 n, .int .i64 m] w fun e w' => e = .returned (.tuple #[]) ∧ w' = w.setCell ⟨bp, 2, none⟩ (.bool false) := by
  go_enter Tryz.func139, Tryz.ntmps139
  go_wp2
  go_end0
  exact ⟨rfl, rfl⟩
end
section
open Go Go.RowKit

theorem take_all_snoc {α : Type} (f : α → Bool) (l : List α) (k : Nat) (h : k < l.length) (h1 : (l.take k).all f = true) (h2 : f l[k] = true) : (l.take (k + 1)).all f = true := by
  rw [List.take_succ_eq_append_getElem h, List.all_append, h1]; simp [h2]
theorem all_no {α : Type} (f : α → Bool) (l : List α) (k : Nat) (h : k < l.length) (h2 : f l[k] = false) : false = l.all f := by
  symm; rw [List.all_eq_false]; exact ⟨l[k], List.getElem_mem h, by simp [h2]⟩
theorem all_yes {α : Type} (f : α → Bool) (l : List α) (k : Nat) (h : l.length ≤ k) (h1 : (l.take k).all f = true) : true = l.all f := by
  rw [List.take_of_length_le h] at h1; exact h1.symm

/-- a slice of n elements: empty, or somewhere -/
def SliceIn (p : Option Addr) (n : Nat) (P : Nat → Nat → Prop) : Prop := n = 0 ∨ ∃ b o, p = some ⟨b, o, none⟩ ∧ P b o
theorem SliceIn.imp {p : Option Addr} {n : Nat} {P Q : Nat → Nat → Prop} (h : SliceIn p n P) (hi : ∀ b o, P b o → Q b o) : SliceIn p n Q := by
  rcases h with h | ⟨b, o, hp, h⟩
  · exact .inl h
  · exact .inr ⟨b, o, hp, hi b o h⟩
def ChamCells (w : World) (b o : Nat) (c : Cham) : Prop :=
  w.cell? ⟨b, o, none⟩ = some (.int .i64 c.base) ∧ w.cell? ⟨b, o + 1, none⟩ = some (.int .i64 c.swing) ∧ w.cell? ⟨b, o + 2, none⟩ = some (.int .i64 c.period)
theorem ChamCells.below {w w' : World} {b o : Nat} {c : Cham} (h : ChamCells w b o c) (hb : Below w.heap.size w w') : ChamCells w' b o c :=
  ⟨cell_below hb h.1, cell_below hb h.2.1, cell_below hb h.2.2⟩
def ChamsAt (w : World) (cs : List Cham) (b o : Nat) : Prop := ∀ i, (h : i < cs.length) → ChamCells w b (o + i * 3) cs[i]
theorem ChamsAt.below {w w' : World} {b o : Nat} {cs : List Cham} (h : ChamsAt w cs b o) (hb : Below w.heap.size w w') : ChamsAt w' cs b o :=
  fun i hi => (h i hi).below hb
def EvtCells (w : World) (b o : Nat) (e : Evt) : Prop :=
  w.cell? ⟨b, o, none⟩ = some (.int .i64 e.what) ∧ w.cell? ⟨b, o + 1, none⟩ = some (.int .i64 e.sec) ∧ w.cell? ⟨b, o + 2, none⟩ = some (.int .i64 e.size)
theorem EvtCells.below {w w' : World} {b o : Nat} {c : Evt} (h : EvtCells w b o c) (hb : Below w.heap.size w w') : EvtCells w' b o c :=
  ⟨cell_below hb h.1, cell_below hb h.2.1, cell_below hb h.2.2⟩
def EvtsAt (w : World) (es : List Evt) (b o : Nat) : Prop := ∀ i, (h : i < es.length) → EvtCells w b (o + i * 3) es[i]
theorem EvtsAt.below {w w' : World} {b o : Nat} {cs : List Evt} (h : EvtsAt w cs b o) (hb : Below w.heap.size w w') : EvtsAt w' cs b o :=
  fun i hi => (h i hi).below hb
/-- a value that is a slice of events -/
def EvSlice (w : World) (es : List Evt) (v : Value) : Prop := ∃ p cap, v = .slice p es.length cap ∧ es.length ≤ maxLen ∧ SliceIn p es.length (EvtsAt w es)
theorem EvSlice.below {w w' : World} {es : List Evt} {v : Value} (h : EvSlice w es v) (hb : Below w.heap.size w w') : EvSlice w' es v := by
  obtain ⟨p, cap, hv, hm, hs⟩ := h
  exact ⟨p, cap, hv, hm, hs.imp fun _ _ h => h.below hb⟩
/-- the eight numbers of a clock -/
def ClkNums (w : World) (b o : Nat) (c : Clk) : Prop :=
  w.cell? ⟨b, o, none⟩ = some (.int .i64 c.kind) ∧ w.cell? ⟨b, o + 1, none⟩ = some (.int .i64 c.phase) ∧ w.cell? ⟨b, o + 2, none⟩ = some (.int .i64 c.rate) ∧ w.cell? ⟨b, o + 3, none⟩ = some (.int .i64 c.drift) ∧
  w.cell? ⟨b, o + 4, none⟩ = some (.int .i64 c.white) ∧ w.cell? ⟨b, o + 5, none⟩ = some (.int .i64 c.walk) ∧ w.cell? ⟨b, o + 6, none⟩ = some (.int .i64 c.heat) ∧ w.cell? ⟨b, o + 7, none⟩ = some (.int .i64 c.room)
theorem ClkNums.below {w w' : World} {b o : Nat} {c : Clk} (h : ClkNums w b o c) (hb : Below w.heap.size w w') : ClkNums w' b o c := by
  obtain ⟨h0, h1, h2, h3, h4, h5, h6, h7⟩ := h
  exact ⟨cell_below hb h0, cell_below hb h1, cell_below hb h2, cell_below hb h3, cell_below hb h4, cell_below hb h5, cell_below hb h6, cell_below hb h7⟩
def ClkCells (w : World) (b o : Nat) (c : Clk) : Prop :=
  ClkNums w b o c ∧ ∃ v, w.cell? ⟨b, o + 8, none⟩ = some v ∧ EvSlice w c.evs v
theorem ClkCells.below {w w' : World} {b o : Nat} {c : Clk} (h : ClkCells w b o c) (hb : Below w.heap.size w w') : ClkCells w' b o c := by
  obtain ⟨h0, v, hv, hs⟩ := h
  exact ⟨h0.below hb, v, cell_below hb hv, hs.below hb⟩
def ClksAt (w : World) (cs : List Clk) (b o : Nat) : Prop := ∀ i, (h : i < cs.length) → ClkCells w b (o + i * 9) cs[i]
theorem ClksAt.below {w w' : World} {b o : Nat} {cs : List Clk} (h : ClksAt w cs b o) (hb : Below w.heap.size w w') : ClksAt w' cs b o :=
  fun i hi => (h i hi).below hb
/-- a clock as a value -/
def clkVal (c : Clk) (v : Value) : Value := .agg #[.int .i64 c.kind, .int .i64 c.phase, .int .i64 c.rate, .int .i64 c.drift, .int .i64 c.white, .int .i64 c.walk, .int .i64 c.heat, .int .i64 c.room, v]
/-- the slices of a world -/
def WldIn (w : World) (W : Wld) (p1 p2 : Option Addr) : Prop :=
  W.chs.length ≤ maxLen ∧ W.cls.length ≤ maxLen ∧ SliceIn p1 W.chs.length (ChamsAt w W.chs) ∧ SliceIn p2 W.cls.length (ClksAt w W.cls)
theorem WldIn.below {w w' : World} {W : Wld} {p1 p2 : Option Addr} (h : WldIn w W p1 p2) (hb : Below w.heap.size w w') : WldIn w' W p1 p2 :=
  ⟨h.1, h.2.1, h.2.2.1.imp fun _ _ h => h.below hb, h.2.2.2.imp fun _ _ h => h.below hb⟩
/-- what a clock at work holds: its clock, the seed, its index, its room, the effects of events -/
structure AtWork (w : World) (a m : Nat) (c : Clk) (seed k : Int) (r : Cham) (v : Value) : Prop where
  nums : ClkNums w a 0 c
  evs : w.cell? ⟨a, 8, none⟩ = some v
  slice : EvSlice w c.evs v
  seed : w.cell? ⟨a, 9, none⟩ = some (.int .u64 seed)
  index : w.cell? ⟨a, 10, none⟩ = some (.int .i64 k)
  room : ChamCells w a 11 r
  map : w.cell? ⟨a, 14, none⟩ = some (.map (some m))
  fx : w.heap[m]? = some fxMap
theorem heap_lt {w : World} {b : Nat} {o : Obj} (h : w.heap[b]? = some o) : b < w.heap.size := (Array.getElem?_eq_some_iff.1 h).1
theorem AtWork.below {w w' : World} {a m : Nat} {c : Clk} {seed k : Int} {r : Cham} {v : Value} (h : AtWork w a m c seed k r v) (hb : Below w.heap.size w w') : AtWork w' a m c seed k r v :=
  ⟨h.nums.below hb, cell_below hb h.evs, h.slice.below hb, cell_below hb h.seed, cell_below hb h.index, h.room.below hb, cell_below hb h.map, (hb.block _ (heap_lt h.fx)).trans h.fx⟩
end
end Go.Proofs.YtemblamamgfodaaGreatDoor.Wd
