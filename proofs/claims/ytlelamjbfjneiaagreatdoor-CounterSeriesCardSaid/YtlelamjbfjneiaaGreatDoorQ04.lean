/- Maps that a call makes out of a literal, with integers as keys: what an insertion and a look-up do; a slot of any kind. · What events do to a clock: the map of methods, and the methods. · How chambers, events, clocks and worlds lie in memory; what lies so still lies so when memory has only grown. · A world that comes in as an argument, as it lies in memory. · Contract: Big, which says whether a world is more than a law looks at. · Rows of memory that Own makes: chambers, events, clocks; what they are good for when they are done. · The states of Own's loops, and how a round leads from one to the next. · What Own's walks need: the element types' rows of the table; what Own leaves. -/
import Derived.MapKept
import Derived.Carry
import Derived.WalkKit
import Derived.Test.YtlelamjbfjneiaaGreatDoorQ03
import Derived.StillTailTactics
import Derived.Deep.Slices
import Derived.Deep.Fields
import Derived.ChangeSame
import Derived.Lib.SmallJoins
import Derived.LoopTactic
import Derived.Deep.AppendLies
import Derived.Maps.AppendAt
import Derived.Deep.RegionHeld3
import Derived.OwnWalk
import Derived.Laws.Pointers
namespace Go.Proofs.YtlelamjbfjneiaaGreatDoor.Wd
section
open Go Go.RowKit
/-- an insertion of a new key into the block that was made last -/
theorem run_mapUpdate_top {P : Program} (w : World) (t kt et : TypeId) (es : Array MapEntry) (c : Nat) (k : IntKind) (n : Int) (v : Value)
    (h1 : P.underlying t = some (.map kt et)) (h2 : P.underlying kt = some (.int k)) (hf : Instr.findNow (.int k) (.int k n) es.toList 0 = some none) :
    (Instr.mapUpdate t (.map (some w.heap.size)) (.int k n) v).run P (w.alloc (.map es c)) = .ok () (w.alloc (.map (es.push { key := .int k n, val := v, born := c }) (c + 1))) := by
  have hb : (w.alloc (.map es c)).heap[w.heap.size]? = some (.map es c) := (MapKept.heap_alloc w _).1
  unfold Instr.mapUpdate
  simp only [Sem.run_bind, run_underlying h1, Result.andThen, MapKept.run_getObj_map hb, MapKept.run_checkKey h2 (show MapKept.IsKey (.int k) (.int k n) from rfl), MapKept.run_findKey h2 hf, MapKept.run_setObj_map _ hb]
  have e : (w.alloc (.map es c)).heap.setIfInBounds w.heap.size (.map (es.push { key := .int k n, val := v, born := c }) (c + 1)) = w.heap.push (.map (es.push { key := .int k n, val := v, born := c }) (c + 1)) := by
    show (w.heap.push _).setIfInBounds _ _ = _
    apply Array.ext_getElem?
    intro i
    simp only [Array.getElem?_setIfInBounds, Array.getElem?_push, Array.size_push]
    by_cases hi : w.heap.size = i
    · subst hi; simp
    · simp [hi, Ne.symm hi]
  rw [e]
  rfl
/-- a look-up, where the key is found -/
theorem run_lookup_found {P : Program} (w : World) (t kt et : TypeId) (r : Nat) (es : Array MapEntry) (c : Nat) (k : IntKind) (n : Int) (i : Nat) (v : Value)
    (h1 : P.underlying t = some (.map kt et)) (h2 : P.underlying kt = some (.int k)) (hb : w.heap[r]? = some (.map es c)) (hf : Instr.findNow (.int k) (.int k n) es.toList 0 = some (some (i, v))) :
    (Instr.lookup t (.map (some r)) (.int k n) false).run P w = .ok v w := by
  unfold Instr.lookup
  simp [Sem.run_bind, run_underlying h1, Result.andThen, MapKept.run_getObj_map hb, MapKept.run_checkKey h2 (show MapKept.IsKey (.int k) (.int k n) from rfl), MapKept.run_findKey h2 hf]
end
section
open Go Go.RowKit
def fnv (f : Nat) : Value := .func (.func f) #[] #[]
def fxMap : Obj := .map #[{ key := .int .i64 1, val := fnv 128, born := 0 }, { key := .int .i64 2, val := fnv 129, born := 1 }, { key := .int .i64 3, val := fnv 130, born := 2 }, { key := .int .i64 4, val := fnv 131, born := 3 }] 4
theorem effects_any (w : World) :
    Calls Tryz.prog 111 #[] w fun e w' => e = .returned (.map (some w.heap.size)) ∧ w' = w.alloc fxMap := by
  have hmm := @run_makeMap Tryz.prog
  have m1 := run_mapUpdate_top (P := Tryz.prog) w _ _ _ #[] 0 .i64 1 (fnv 128) Tryz.underlying159 Tryz.underlying86 rfl
  have m2 := run_mapUpdate_top (P := Tryz.prog) w _ _ _ #[{ key := .int .i64 1, val := fnv 128, born := 0 }] 1 .i64 2 (fnv 129) Tryz.underlying159 Tryz.underlying86 rfl
  have m3 := run_mapUpdate_top (P := Tryz.prog) w _ _ _ #[{ key := .int .i64 1, val := fnv 128, born := 0 }, { key := .int .i64 2, val := fnv 129, born := 1 }] 2 .i64 3 (fnv 130) Tryz.underlying159 Tryz.underlying86 rfl
  have m4 := run_mapUpdate_top (P := Tryz.prog) w _ _ _ #[{ key := .int .i64 1, val := fnv 128, born := 0 }, { key := .int .i64 2, val := fnv 129, born := 1 }, { key := .int .i64 3, val := fnv 130, born := 2 }] 3 .i64 4 (fnv 131) Tryz.underlying159 Tryz.underlying86 rfl
  simp only [fnv, List.push_toArray, List.nil_append, List.cons_append, Nat.reduceAdd] at m1 m2 m3 m4
  go_enter Tryz.func111, Tryz.ntmps111
  go_wp2
  go_ret
  exact ⟨rfl, rfl⟩
theorem step_any (bp : Nat) (j n m : Int) (w : World) (h0 : w.cell? ⟨bp, 0, none⟩ = some (.int .i64 j)) (hf : w.frozen? ⟨bp, 0, none⟩ = false) (hj : -1000000000000000000 ≤ j ∧ j ≤ 1000000000000000000) (hn : -1000000000000000000 ≤ n ∧ n ≤ 1000000000000000000) :
    Calls Tryz.prog 128 #[.pointer (some ⟨bp, 0, none⟩), .int .i64 n, .int .i64 m] w fun e w' => e = .returned (.tuple #[]) ∧ w' = w.setCell ⟨bp, 0, none⟩ (.int .i64 (j + n)) := by
  go_enter Tryz.func128, Tryz.ntmps128
  go_wp2
  go_end0
  exact ⟨rfl, rfl⟩
theorem kick_any (bp : Nat) (k n m : Int) (w : World) (h0 : w.cell? ⟨bp, 1, none⟩ = some (.int .i64 k)) (hf : w.frozen? ⟨bp, 1, none⟩ = false) (hj : -1000000000000000000 ≤ k ∧ k ≤ 1000000000000000000) (hn : -1000000000000000000 ≤ n * m ∧ n * m ≤ 1000000000000000000) :
    Calls Tryz.prog 129 #[.pointer (some ⟨bp, 0, none⟩), .int .i64 n, .int .i64 m] w fun e w' => e = .returned (.tuple #[]) ∧ w' = w.setCell ⟨bp, 1, none⟩ (.int .i64 (k + n * m)) := by
  go_enter Tryz.func129, Tryz.ntmps129
  go_wp2
  go_end0
  exact ⟨rfl, rfl⟩
theorem stop_any (bp : Nat) (st : Bool) (n m : Int) (w : World) (h0 : w.cell? ⟨bp, 2, none⟩ = some (.bool st)) (hf : w.frozen? ⟨bp, 2, none⟩ = false) :
    Calls Tryz.prog 130 #[.pointer (some ⟨bp, 0, none⟩), .int .i64 n, .int .i64 m] w fun e w' => e = .returned (.tuple #[]) ∧ w' = w.setCell ⟨bp, 2, none⟩ (.bool true) := by
  go_enter Tryz.func130, Tryz.ntmps130
  go_wp2
  go_end0
  exact ⟨rfl, rfl⟩
theorem start_any (bp : Nat) (st : Bool) (n m : Int) (w : World) (h0 : w.cell? ⟨bp, 2, none⟩ = some (.bool st)) (hf : w.frozen? ⟨bp, 2, none⟩ = false) :
    Calls Tryz.prog 131 #[.pointer (some ⟨bp, 0, none⟩), .int .i64 n, .int .i64 m] w fun e w' => e = .returned (.tuple #[]) ∧ w' = w.setCell ⟨bp, 2, none⟩ (.bool false) := by
  go_enter Tryz.func131, Tryz.ntmps131
  go_wp2
  go_end0
  exact ⟨rfl, rfl⟩
end
section
open Go Go.RowKit

theorem take_all_snoc {α : Type} (f : α → Bool) (l : List α) (k : Nat) (h : k < l.length) (h1 : (l.take k).all f = true) (h2 : f l[k] = true) : (l.take (k + 1)).all f = true := by
  rw [List.take_succ_eq_append_getElem h, List.all_append, h1]; simp [h2]
theorem all_no {α : Type} (f : α → Bool) (l : List α) (k : Nat) (h : k < l.length) (h2 : f l[k] = false) : false = l.all f := by
  symm; rw [List.all_eq_false]; exact ⟨l[k], List.getElem_mem h, by simp [h2]⟩
theorem all_yes {α : Type} (f : α → Bool) (l : List α) (k : Nat) (h : l.length ≤ k) (h1 : (l.take k).all f = true) : true = l.all f := by
  rw [List.take_of_length_le h] at h1; exact h1.symm

/-- a slice of n elements: empty, or somewhere -/
def SliceIn (p : Option Addr) (n : Nat) (P : Nat → Nat → Prop) : Prop := n = 0 ∨ ∃ b o, p = some ⟨b, o, none⟩ ∧ P b o
theorem SliceIn.imp {p : Option Addr} {n : Nat} {P Q : Nat → Nat → Prop} (h : SliceIn p n P) (hi : ∀ b o, P b o → Q b o) : SliceIn p n Q := by
  rcases h with h | ⟨b, o, hp, h⟩
  · exact .inl h
  · exact .inr ⟨b, o, hp, hi b o h⟩
def ChamCells (w : World) (b o : Nat) (c : Cham) : Prop :=
  w.cell? ⟨b, o, none⟩ = some (.int .i64 c.base) ∧ w.cell? ⟨b, o + 1, none⟩ = some (.int .i64 c.swing) ∧ w.cell? ⟨b, o + 2, none⟩ = some (.int .i64 c.period)
theorem ChamCells.below {w w' : World} {b o : Nat} {c : Cham} (h : ChamCells w b o c) (hb : Below w.heap.size w w') : ChamCells w' b o c :=
  ⟨cell_below hb h.1, cell_below hb h.2.1, cell_below hb h.2.2⟩
def ChamsAt (w : World) (cs : List Cham) (b o : Nat) : Prop := ∀ i, (h : i < cs.length) → ChamCells w b (o + i * 3) cs[i]
theorem ChamsAt.below {w w' : World} {b o : Nat} {cs : List Cham} (h : ChamsAt w cs b o) (hb : Below w.heap.size w w') : ChamsAt w' cs b o :=
  fun i hi => (h i hi).below hb
def EvtCells (w : World) (b o : Nat) (e : Evt) : Prop :=
  w.cell? ⟨b, o, none⟩ = some (.int .i64 e.what) ∧ w.cell? ⟨b, o + 1, none⟩ = some (.int .i64 e.sec) ∧ w.cell? ⟨b, o + 2, none⟩ = some (.int .i64 e.size)
theorem EvtCells.below {w w' : World} {b o : Nat} {c : Evt} (h : EvtCells w b o c) (hb : Below w.heap.size w w') : EvtCells w' b o c :=
  ⟨cell_below hb h.1, cell_below hb h.2.1, cell_below hb h.2.2⟩
def EvtsAt (w : World) (es : List Evt) (b o : Nat) : Prop := ∀ i, (h : i < es.length) → EvtCells w b (o + i * 3) es[i]
theorem EvtsAt.below {w w' : World} {b o : Nat} {cs : List Evt} (h : EvtsAt w cs b o) (hb : Below w.heap.size w w') : EvtsAt w' cs b o :=
  fun i hi => (h i hi).below hb
/-- a value that is a slice of events -/
def EvSlice (w : World) (es : List Evt) (v : Value) : Prop := ∃ p cap, v = .slice p es.length cap ∧ es.length ≤ maxLen ∧ SliceIn p es.length (EvtsAt w es)
theorem EvSlice.below {w w' : World} {es : List Evt} {v : Value} (h : EvSlice w es v) (hb : Below w.heap.size w w') : EvSlice w' es v := by
  obtain ⟨p, cap, hv, hm, hs⟩ := h
  exact ⟨p, cap, hv, hm, hs.imp fun _ _ h => h.below hb⟩
/-- the eight numbers of a clock -/
def ClkNums (w : World) (b o : Nat) (c : Clk) : Prop :=
  w.cell? ⟨b, o, none⟩ = some (.int .i64 c.kind) ∧ w.cell? ⟨b, o + 1, none⟩ = some (.int .i64 c.phase) ∧ w.cell? ⟨b, o + 2, none⟩ = some (.int .i64 c.rate) ∧ w.cell? ⟨b, o + 3, none⟩ = some (.int .i64 c.drift) ∧
  w.cell? ⟨b, o + 4, none⟩ = some (.int .i64 c.white) ∧ w.cell? ⟨b, o + 5, none⟩ = some (.int .i64 c.walk) ∧ w.cell? ⟨b, o + 6, none⟩ = some (.int .i64 c.heat) ∧ w.cell? ⟨b, o + 7, none⟩ = some (.int .i64 c.room)
theorem ClkNums.below {w w' : World} {b o : Nat} {c : Clk} (h : ClkNums w b o c) (hb : Below w.heap.size w w') : ClkNums w' b o c := by
  obtain ⟨h0, h1, h2, h3, h4, h5, h6, h7⟩ := h
  exact ⟨cell_below hb h0, cell_below hb h1, cell_below hb h2, cell_below hb h3, cell_below hb h4, cell_below hb h5, cell_below hb h6, cell_below hb h7⟩
def ClkCells (w : World) (b o : Nat) (c : Clk) : Prop :=
  ClkNums w b o c ∧ ∃ v, w.cell? ⟨b, o + 8, none⟩ = some v ∧ EvSlice w c.evs v
theorem ClkCells.below {w w' : World} {b o : Nat} {c : Clk} (h : ClkCells w b o c) (hb : Below w.heap.size w w') : ClkCells w' b o c := by
  obtain ⟨h0, v, hv, hs⟩ := h
  exact ⟨h0.below hb, v, cell_below hb hv, hs.below hb⟩
def ClksAt (w : World) (cs : List Clk) (b o : Nat) : Prop := ∀ i, (h : i < cs.length) → ClkCells w b (o + i * 9) cs[i]
theorem ClksAt.below {w w' : World} {b o : Nat} {cs : List Clk} (h : ClksAt w cs b o) (hb : Below w.heap.size w w') : ClksAt w' cs b o :=
  fun i hi => (h i hi).below hb
/-- a clock as a value -/
def clkVal (c : Clk) (v : Value) : Value := .agg #[.int .i64 c.kind, .int .i64 c.phase, .int .i64 c.rate, .int .i64 c.drift, .int .i64 c.white, .int .i64 c.walk, .int .i64 c.heat, .int .i64 c.room, v]
/-- the slices of a world -/
def WldIn (w : World) (W : Wld) (p1 p2 : Option Addr) : Prop :=
  W.chs.length ≤ maxLen ∧ W.cls.length ≤ maxLen ∧ SliceIn p1 W.chs.length (ChamsAt w W.chs) ∧ SliceIn p2 W.cls.length (ClksAt w W.cls)
theorem WldIn.below {w w' : World} {W : Wld} {p1 p2 : Option Addr} (h : WldIn w W p1 p2) (hb : Below w.heap.size w w') : WldIn w' W p1 p2 :=
  ⟨h.1, h.2.1, h.2.2.1.imp fun _ _ h => h.below hb, h.2.2.2.imp fun _ _ h => h.below hb⟩
/-- what a clock at work holds: its clock, the seed, its index, its room, the effects of events -/
structure AtWork (w : World) (a m : Nat) (c : Clk) (seed k : Int) (r : Cham) (v : Value) : Prop where
  nums : ClkNums w a 0 c
  evs : w.cell? ⟨a, 8, none⟩ = some v
  slice : EvSlice w c.evs v
  seed : w.cell? ⟨a, 9, none⟩ = some (.int .u64 seed)
  index : w.cell? ⟨a, 10, none⟩ = some (.int .i64 k)
  room : ChamCells w a 11 r
  map : w.cell? ⟨a, 14, none⟩ = some (.map (some m))
  fx : w.heap[m]? = some fxMap
theorem heap_lt {w : World} {b : Nat} {o : Obj} (h : w.heap[b]? = some o) : b < w.heap.size := (Array.getElem?_eq_some_iff.1 h).1
theorem AtWork.below {w w' : World} {a m : Nat} {c : Clk} {seed k : Int} {r : Cham} {v : Value} (h : AtWork w a m c seed k r v) (hb : Below w.heap.size w w') : AtWork w' a m c seed k r v :=
  ⟨h.nums.below hb, cell_below hb h.evs, h.slice.below hb, cell_below hb h.seed, cell_below hb h.index, h.room.below hb, cell_below hb h.map, (hb.block _ (heap_lt h.fx)).trans h.fx⟩
end
end Go.Proofs.YtlelamjbfjneiaaGreatDoor.Wd
namespace Go.Proofs.YtlelamjbfjneiaaGreatDoor.Wd
open Go Go.RowKit Go.ChangeShapes Go.WideShapes Go.Deep Go.Joins
theorem pick_list {α : Type} (n : Nat) (Q : Nat → α → Prop) (h : ∀ i, i < n → ∃ x, Q i x) : ∃ l : List α, l.length = n ∧ ∀ i, (hi : i < l.length) → Q i l[i] := by
  induction n with
  | zero => exact ⟨[], rfl, fun i hi => absurd hi (by simp)⟩
  | succ n ih =>
    obtain ⟨l, hl, hq⟩ := ih fun i hi => h i (by omega)
    obtain ⟨x, hx⟩ := h n (by omega)
    refine ⟨l ++ [x], by simp [hl], fun i hi => ?_⟩
    by_cases hlt : i < l.length
    · rw [List.getElem_append_left hlt]; exact hq i hlt
    · have : i = l.length := by simp at hi; omega
      subst this
      rw [List.getElem_append_right (by omega)]
      simpa [hl] using hx
theorem add_plain (b o k : Nat) : (⟨b, o, none⟩ : Addr).add k = ⟨b, o + k, none⟩ := by
  unfold Addr.add; split <;> simp_all
section
variable {H : Type} {enc : TypeId × Value → H} {P : Program} {w : World} {base : Nat} {spare : Nat → Bool} {held : Bool}
theorem field_of {e : TypeId} {fs : Array Field} {fuel : Nat} {cs : List Value} {x : DataW H × List MemPlace} (he : P.underlying e = some (.struct fs)) (hone : oneCellFields P fs = true) (hC : P.cellsOf e = fs.size)
    (h : DataW.trod enc P w base spare held fuel e cs = some x) (j : Nat) (f : Field) (hj : fs[j]? = some f) :
    ∃ v y n, cs[j]? = some v ∧ DataW.trod enc P w base spare held n f.type [v] = some y := by
  obtain ⟨ys, n, _, _, hlen, hyl, hf⟩ := DataW.trod_struct he h
  obtain ⟨ho, hk⟩ := hone_of hone j f hj
  have hjl : j < fs.size := (Array.getElem?_eq_some_iff.1 hj).1
  have hv : j < cs.length := by omega
  have hy : j < ys.length := by omega
  have h1 := hf j f hj
  have e : (cs.drop j).take 1 = [cs[j]] := by rw [List.drop_eq_getElem_cons hv]; rfl
  rw [ho, hk, e, List.getElem?_eq_getElem hy] at h1
  exact ⟨cs[j], ys[j], n, List.getElem?_eq_getElem hv, h1⟩
/-- a slice of structs of one-cell fields: the cell of each field of each element -/
theorem struct_slice {t e : TypeId} {fs : Array Field} {fuel : Nat} {cs : List Value} {x : DataW H × List MemPlace} (ht : P.underlying t = some (.slice e)) (he : P.underlying e = some (.struct fs)) (hone : oneCellFields P fs = true)
    (hC : P.cellsOf e = fs.size) (hpos : 0 < fs.size) (h : DataW.trod enc P w base spare held fuel t cs = some x) :
    ∃ p n cap, cs = [.slice p n cap] ∧ n ≤ maxLen ∧ SliceIn p n fun b o => ∀ i, i < n → ∀ j f, fs[j]? = some f →
      ∃ v y m, w.cell? ⟨b, o + (i * fs.size + j), none⟩ = some v ∧ DataW.trod enc P w base spare held m f.type [v] = some y := by
  rcases open_slice ht h with ⟨rfl, _⟩ | ⟨a, len, cap, m, n, D, Pl, rfl, _, hl, hm, hmm, _, hx⟩
  · exact ⟨none, 0, 0, rfl, by simp [maxLen], .inl rfl⟩
  · refine ⟨some a, len, cap, rfl, by omega, ?_⟩
    rcases Nat.eq_zero_or_pos len with h0 | h0
    · exact .inl h0
    · have hlt : ∀ i, i < len → i < m := fun i hi => by rw [hmm]; split <;> omega
      have cell : ∀ i, i < len → ∀ j f, fs[j]? = some f → ∃ v y m', w.cell? (a.add (i * fs.size + j)) = some v ∧ DataW.trod enc P w base spare held m' f.type [v] = some y := by
        intro i hi j f hj
        obtain ⟨cs', hc, ht'⟩ := hx i (hlt i hi)
        obtain ⟨v, y, k, hv, hy⟩ := field_of he hone hC ht' j f hj
        rw [hC] at hc
        obtain ⟨_, _, hat⟩ := World.cells?_some hc
        have hjl : j < fs.size := (Array.getElem?_eq_some_iff.1 hj).1
        exact ⟨v, y, k, by rw [← Go.Deep.add_add, hat j hjl, hv], hy⟩
      obtain ⟨v, _, _, hv, _⟩ := cell 0 h0 0 (fs[0]'hpos) (Array.getElem?_eq_getElem hpos)
      obtain ⟨b, o, spot⟩ := a
      have hs : spot = none := by simpa [Addr.add] using World.cell?_spot hv
      subst hs
      refine .inr ⟨b, o, rfl, fun i hi j f hj => ?_⟩
      obtain ⟨v, y, k, hv, hy⟩ := cell i hi j f hj
      exact ⟨v, y, k, by rw [← hv, add_plain], hy⟩
end
section
variable {H : Type} {enc : TypeId × Value → H} {w : World} {base : Nat} {spare : Nat → Bool} {held : Bool}
theorem open_chams {fuel : Nat} {cs : List Value} {x : DataW H × List MemPlace} (h : DataW.trod enc Tryz.prog w base spare held fuel 25 cs = some x) :
    ∃ p cap, ∃ l : List Cham, cs = [.slice p l.length cap] ∧ l.length ≤ maxLen ∧ SliceIn p l.length (ChamsAt w l) := by
  obtain ⟨p, n, cap, hcs, hm, hs⟩ := struct_slice Tryz.underlying25 Tryz.underlying81 (by kernel_rfl) (by kernel_rfl) (by decide) h
  rcases hs with rfl | ⟨b, o, rfl, hs⟩
  · exact ⟨p, cap, [], hcs, hm, .inl rfl⟩
  · obtain ⟨l, rfl, hl⟩ := pick_list n (fun i c => ChamCells w b (o + i * 3) c) (by
      intro i hi
      obtain ⟨v0, y0, m0, c0, t0⟩ := hs i hi 0 _ rfl
      obtain ⟨v1, y1, m1, c1, t1⟩ := hs i hi 1 _ rfl
      obtain ⟨v2, y2, m2, c2, t2⟩ := hs i hi 2 _ rfl
      obtain ⟨n0, e0, _⟩ := DataW.trod_int Tryz.underlying3 t0
      obtain ⟨n1, e1, _⟩ := DataW.trod_int Tryz.underlying3 t1
      obtain ⟨n2, e2, _⟩ := DataW.trod_int Tryz.underlying3 t2
      simp only [List.cons.injEq, and_true] at e0 e1 e2
      subst e0 e1 e2
      exact ⟨⟨n0, n1, n2⟩, c0, c1, c2⟩)
    exact ⟨_, cap, l, hcs, hm, .inr ⟨b, o, rfl, hl⟩⟩
theorem open_evts {fuel : Nat} {v : Value} {x : DataW H × List MemPlace} (h : DataW.trod enc Tryz.prog w base spare held fuel 59 [v] = some x) : ∃ l : List Evt, EvSlice w l v := by
  obtain ⟨p, n, cap, hcs, hm, hs⟩ := struct_slice Tryz.underlying59 Tryz.underlying88 (by kernel_rfl) (by kernel_rfl) (by decide) h
  simp only [List.cons.injEq, and_true] at hcs
  subst hcs
  rcases hs with rfl | ⟨b, o, rfl, hs⟩
  · exact ⟨[], p, cap, rfl, hm, .inl rfl⟩
  · obtain ⟨l, rfl, hl⟩ := pick_list n (fun i c => EvtCells w b (o + i * 3) c) (by
      intro i hi
      obtain ⟨v0, y0, m0, c0, t0⟩ := hs i hi 0 _ rfl
      obtain ⟨v1, y1, m1, c1, t1⟩ := hs i hi 1 _ rfl
      obtain ⟨v2, y2, m2, c2, t2⟩ := hs i hi 2 _ rfl
      obtain ⟨n0, e0, _⟩ := DataW.trod_int Tryz.underlying3 t0
      obtain ⟨n1, e1, _⟩ := DataW.trod_int Tryz.underlying3 t1
      obtain ⟨n2, e2, _⟩ := DataW.trod_int Tryz.underlying3 t2
      simp only [List.cons.injEq, and_true] at e0 e1 e2
      subst e0 e1 e2
      exact ⟨⟨n0, n1, n2⟩, c0, c1, c2⟩)
    exact ⟨l, _, cap, rfl, hm, .inr ⟨b, o, rfl, hl⟩⟩
theorem open_clks {fuel : Nat} {cs : List Value} {x : DataW H × List MemPlace} (h : DataW.trod enc Tryz.prog w base spare held fuel 26 cs = some x) :
    ∃ p cap, ∃ l : List Clk, cs = [.slice p l.length cap] ∧ l.length ≤ maxLen ∧ SliceIn p l.length (ClksAt w l) := by
  obtain ⟨p, n, cap, hcs, hm, hs⟩ := struct_slice Tryz.underlying26 Tryz.underlying61 (by kernel_rfl) (by kernel_rfl) (by decide) h
  rcases hs with rfl | ⟨b, o, rfl, hs⟩
  · exact ⟨p, cap, [], hcs, hm, .inl rfl⟩
  · obtain ⟨l, rfl, hl⟩ := pick_list n (fun i c => ClkCells w b (o + i * 9) c) (by
      intro i hi
      obtain ⟨v0, y0, m0, c0, t0⟩ := hs i hi 0 _ rfl
      obtain ⟨v1, y1, m1, c1, t1⟩ := hs i hi 1 _ rfl
      obtain ⟨v2, y2, m2, c2, t2⟩ := hs i hi 2 _ rfl
      obtain ⟨v3, y3, m3, c3, t3⟩ := hs i hi 3 _ rfl
      obtain ⟨v4, y4, m4, c4, t4⟩ := hs i hi 4 _ rfl
      obtain ⟨v5, y5, m5, c5, t5⟩ := hs i hi 5 _ rfl
      obtain ⟨v6, y6, m6, c6, t6⟩ := hs i hi 6 _ rfl
      obtain ⟨v7, y7, m7, c7, t7⟩ := hs i hi 7 _ rfl
      obtain ⟨v8, y8, m8, c8, t8⟩ := hs i hi 8 _ rfl
      obtain ⟨n0, e0, _⟩ := DataW.trod_int Tryz.underlying3 t0
      obtain ⟨n1, e1, _⟩ := DataW.trod_int Tryz.underlying3 t1
      obtain ⟨n2, e2, _⟩ := DataW.trod_int Tryz.underlying3 t2
      obtain ⟨n3, e3, _⟩ := DataW.trod_int Tryz.underlying3 t3
      obtain ⟨n4, e4, _⟩ := DataW.trod_int Tryz.underlying3 t4
      obtain ⟨n5, e5, _⟩ := DataW.trod_int Tryz.underlying3 t5
      obtain ⟨n6, e6, _⟩ := DataW.trod_int Tryz.underlying3 t6
      obtain ⟨n7, e7, _⟩ := DataW.trod_int Tryz.underlying3 t7
      obtain ⟨es, he⟩ := open_evts t8
      simp only [List.cons.injEq, and_true] at e0 e1 e2 e3 e4 e5 e6 e7
      subst e0 e1 e2 e3 e4 e5 e6 e7
      exact ⟨⟨n0, n1, n2, n3, n4, n5, n6, n7, es⟩, ⟨c0, c1, c2, c3, c4, c5, c6, c7⟩, v8, c8, he⟩)
    exact ⟨_, cap, l, hcs, hm, .inr ⟨b, o, rfl, hl⟩⟩
set_option maxRecDepth 100000 in
/-- the argument of a law: a world -/
theorem open_world {r : Reach} {b0 : Nat} {v : Value} {d : DataW H} {q : List MemPlace} (hv : Value.okWide Tryz.prog w r b0 28 v) (h : DataW.Trod enc Tryz.prog w base spare held 28 v d q) :
    ∃ (W : Wld) (p1 p2 : Option Addr) (c1 c2 : Nat), v = .agg #[.int .u64 W.seed, .slice p1 W.chs.length c1, .slice p2 W.cls.length c2] ∧ WldIn w W p1 p2 := by
  obtain ⟨v0, v1, v2, y0, y1, y2, n, rfl, _, _, t0, t1, t2⟩ := open_agg3 Tryz.underlying28 (by kernel_rfl) (by kernel_rfl) hv h
  obtain ⟨n0, e0, _⟩ := DataW.trod_int Tryz.underlying24 t0
  obtain ⟨p1, c1, l1, e1, m1, s1⟩ := open_chams t1
  obtain ⟨p2, c2, l2, e2, m2, s2⟩ := open_clks t2
  simp only [List.cons.injEq, and_true] at e0 e1 e2
  subst e0 e1 e2
  exact ⟨⟨n0, l1, l2⟩, p1, p2, c1, c2, rfl, m1, m2, s1, s2⟩
end
end Go.Proofs.YtlelamjbfjneiaaGreatDoor.Wd
namespace Go.Proofs.YtlelamjbfjneiaaGreatDoor.Wd
open Go Go.RowKit
def manyEvs (l : List Clk) : Bool := l.any fun c => decide (40 < c.evs.length)
def bigS (W : Wld) : Bool := decide (40 < W.chs.length) || (decide (40 < W.cls.length) || manyEvs W.cls)
theorem manyEvs_snoc (l : List Clk) (k : Nat) (h : k < l.length) : manyEvs (l.take (k + 1)) = (manyEvs (l.take k) || decide (40 < l[k].evs.length)) := by
  unfold manyEvs; rw [List.take_succ_eq_append_getElem h, List.any_append]; simp
theorem manyEvs_at (l : List Clk) (k : Nat) (h : k < l.length) (h40 : 40 < l[k].evs.length) : manyEvs l = true := by
  unfold manyEvs; rw [List.any_eq_true]; exact ⟨l[k], List.getElem_mem h, by simpa using h40⟩
theorem bigS_no {W : Wld} (h : bigS W = false) : W.chs.length ≤ 40 ∧ W.cls.length ≤ 40 ∧ ∀ k, (hk : k < W.cls.length) → W.cls[k].evs.length ≤ 40 := by
  simp only [bigS, Bool.or_eq_false_iff, decide_eq_false_iff_not] at h
  refine ⟨by omega, by omega, fun k hk => ?_⟩
  by_cases h40 : 40 < W.cls[k].evs.length
  · have := manyEvs_at _ k hk h40; rw [h.2.2] at this; cases this
  · omega
set_option maxRecDepth 100000 in
set_option maxHeartbeats 1000000 in
theorem big_loop (W : Wld) (p1 p2 : Option Addr) (c1 c2 : Nat) (w : World) (hW : WldIn w W p1 p2) (h1 : ¬ (40 : Int) < W.chs.length) (h2 : ¬ (40 : Int) < W.cls.length) :
    Calls Tryz.prog 4 #[.agg #[.int .u64 W.seed, .slice p1 W.chs.length c1, .slice p2 W.cls.length c2]] w fun e w' => e = .returned (.bool (manyEvs W.cls)) ∧ Below w.heap.size w w' := by
  have hm2 := hW.2.1
  unfold maxLen at hm2
  have hS := hW.2.2.2.imp fun _ _ h => h.below ((Below.refl _ w).alloc (Nat.le_refl _) (.cells #[.int .u64 W.seed, .slice p1 W.chs.length c1, .slice p2 W.cls.length c2] 28))
  clear hW
  rcases hS with h0 | ⟨b, o, rfl, hS⟩
  · have hn : W.cls = [] := List.eq_nil_of_length_eq_zero h0
    have hle : (W.cls.length : Int) ≤ 0 := by omega
    have H0 := Lib.hid hn
    clear hn h0
    go_enter Tryz.func4, Tryz.ntmps4
    go_wp2
    go_loop [3] (fun i => i = .int .i64 0) (fun i => (5 : Nat) - (intOf i).toNat)
    case atStart => rfl
    case round =>
      subst hrel
      go_wp2
      go_ret
      exact ⟨ret_bool (by rw [H0.out]; rfl), by go_grown⟩
  · have HS := Lib.hid hS
    clear hS
    go_enter Tryz.func4, Tryz.ntmps4
    go_wp2
    go_loop [3] (fun i => ∃ k : Nat, k ≤ W.cls.length ∧ i = .int .i64 k ∧ manyEvs (W.cls.take k) = false) (fun i => W.cls.length - (intOf i).toNat)
    case atStart => exact ⟨0, Nat.zero_le _, rfl, rfl⟩
    case round =>
      obtain ⟨k, hk, rfl, hq⟩ := hrel
      by_cases hlt : k < W.cls.length
      · obtain ⟨-, v, y8, p, cap, rfl, hml, -⟩ := HS.out k hlt
        unfold maxLen at hml
        have hsn := manyEvs_snoc W.cls k hlt
        rw [hq, Bool.false_or] at hsn
        have HSN := Lib.hid hsn
        have HAT := Lib.hid (manyEvs_at W.cls k hlt)
        clear hsn hq
        have hkl : (k : Int) < (W.cls.length : Int) := by omega
        by_cases h40 : (40 : Int) < (W.cls[k].evs.length : Int)
        · go_wp2
          go_ret
          exact ⟨ret_bool (by rw [HAT.out (by omega)]), by go_grown⟩
        · go_wp2
          go_round
          case rel => exact ⟨k + 1, by omega, by go_num, by rw [HSN.out]; simp; omega⟩
          case measure => simp [intOf]; omega
      · have hkl : ¬ (k : Int) < (W.cls.length : Int) := by omega
        have hfin : false = manyEvs W.cls := by rw [← hq, List.take_of_length_le (by omega)]
        have HF := Lib.hid hfin
        clear hfin hq
        go_wp2
        go_ret
        exact ⟨ret_bool HF.out, by go_grown⟩
set_option maxRecDepth 100000 in
theorem big_any (W : Wld) (p1 p2 : Option Addr) (c1 c2 : Nat) (w : World) (hW : WldIn w W p1 p2) :
    Calls Tryz.prog 4 #[.agg #[.int .u64 W.seed, .slice p1 W.chs.length c1, .slice p2 W.cls.length c2]] w fun e w' => e = .returned (.bool (bigS W)) ∧ Below w.heap.size w w' := by
  by_cases h1 : (40 : Int) < W.chs.length
  · have hb : true = bigS W := by simp only [bigS]; rw [show decide (40 < W.chs.length) = true by simp; omega]; rfl
    have HB := Lib.hid hb
    clear hb hW
    go_enter Tryz.func4, Tryz.ntmps4
    go_wp2
    go_ret
    exact ⟨ret_bool HB.out, by go_grown⟩
  · by_cases h2 : (40 : Int) < W.cls.length
    · have hb : true = bigS W := by simp only [bigS]; rw [show decide (40 < W.cls.length) = true by simp; omega]; simp
      have HB := Lib.hid hb
      clear hb hW
      go_enter Tryz.func4, Tryz.ntmps4
      go_wp2
      go_ret
      exact ⟨ret_bool HB.out, by go_grown⟩
    · have hb : bigS W = manyEvs W.cls := by
        simp only [bigS]
        rw [show decide (40 < W.chs.length) = false by simp; omega, show decide (40 < W.cls.length) = false by simp; omega]; rfl
      rw [hb]
      exact big_loop W p1 p2 c1 c2 w hW h1 h2
end Go.Proofs.YtlelamjbfjneiaaGreatDoor.Wd
namespace Go.Proofs.YtlelamjbfjneiaaGreatDoor.Wd
section
open Go Go.RowKit
def chCells (c : Cham) : List Value := [.int .i64 c.base, .int .i64 c.swing, .int .i64 c.period]
def evCells (c : Evt) : List Value := [.int .i64 c.what, .int .i64 c.sec, .int .i64 c.size]
def clkCells (c : Clk) (v : Value) : List Value := [.int .i64 c.kind, .int .i64 c.phase, .int .i64 c.rate, .int .i64 c.drift, .int .i64 c.white, .int .i64 c.walk, .int .i64 c.heat, .int .i64 c.room, v]
def chRow (l : List Cham) : List Value := l.flatMap chCells
def evRow (l : List Evt) : List Value := l.flatMap evCells
def clRow (l : List (Clk × Value)) : List Value := l.flatMap fun x => clkCells x.1 x.2
theorem row_get {α : Type} (f : α → List Value) (m : Nat) (hm : ∀ x, (f x).length = m) : ∀ (l : List α) (i j : Nat) (hi : i < l.length), j < m → (l.flatMap f)[i * m + j]? = (f l[i])[j]?
  | [], i, _, hi, _ => absurd hi (by simp)
  | x :: l, 0, j, _, hj => by
    rw [List.flatMap_cons, Nat.zero_mul, Nat.zero_add, List.getElem?_append_left (by rw [hm]; exact hj)]; rfl
  | x :: l, i + 1, j, hi, hj => by
    have hi' : i < l.length := by simpa using hi
    have e : (i + 1) * m + j = m + (i * m + j) := by rw [Nat.add_mul]; omega
    rw [List.flatMap_cons, e, List.getElem?_append_right (by rw [hm]; omega), hm, Nat.add_sub_cancel_left, row_get f m hm l i j hi' hj]
    rfl
theorem row_snoc {α : Type} (f : α → List Value) (l : List α) (k : Nat) (h : k < l.length) : (l.take (k + 1)).flatMap f = (l.take k).flatMap f ++ f l[k] := by
  rw [List.take_succ_eq_append_getElem h, List.flatMap_append]; simp
theorem chRow_snoc (l : List Cham) (k : Nat) (h : k < l.length) : chRow (l.take (k + 1)) = chRow (l.take k) ++ chCells l[k] := row_snoc _ l k h
theorem evRow_snoc (l : List Evt) (k : Nat) (h : k < l.length) : evRow (l.take (k + 1)) = evRow (l.take k) ++ evCells l[k] := row_snoc _ l k h
section
variable {w w' : World} {b b' : Nat} {e e' : TypeId} {s s' : Nat} {v v' : Value} {n n' : Nat} {xs xs' : List Value}
theorem own_ne (h : w.ownsRow b e s v n xs) (h' : w.ownsRow b' e' s' v' n' xs') (hne : e ≠ e') : v.ownBlock = none ∨ v.ownBlock ≠ v'.ownBlock := by
  rcases h.2 with ⟨rfl, _⟩ | ⟨g, cap, cur, rfl, _, hg, _⟩
  · exact .inl rfl
  · right
    intro he
    rcases h'.2 with ⟨rfl, _⟩ | ⟨g', cap', cur', rfl, _, hg', _⟩
    · simp [Value.ownBlock] at he
    · simp [Value.ownBlock] at he
      subst he
      rw [hg] at hg'
      injection hg' with hg'
      injection hg' with _ h2
      exact hne h2
theorem own_far {g : Nat} {cs : Array Value} {t : TypeId} (h : w.ownsRow b e s v n xs) (hg : w.heap[g]? = some (.cells cs t (0, 0))) (hne : e ≠ t) : v.ownBlock ≠ some g := by
  rcases h.2 with ⟨rfl, _⟩ | ⟨g', cap, cur, rfl, _, hg', _⟩
  · simp [Value.ownBlock]
  · intro he
    simp [Value.ownBlock] at he
    subst he
    rw [hg] at hg'
    injection hg' with hg'
    injection hg' with _ h2
    exact hne h2.symm
theorem own_base (h : w.ownsRow b e s v n xs) (hb : b' ≤ b) : w.ownsRow b' e s v n xs := by
  refine ⟨h.1, ?_⟩
  rcases h.2 with hn | ⟨g, cap, cur, hv, hbg, rest⟩
  · exact .inl hn
  · exact .inr ⟨g, cap, cur, hv, by omega, rest⟩
theorem own_below {B : Nat} (h : w.ownsRow b e s v n xs) (hb : Below B w w') (hB : w.heap.size ≤ B) : w'.ownsRow b e s v n xs := by
  refine ⟨h.1, ?_⟩
  rcases h.2 with hn | ⟨g, cap, cur, hv, hbg, hg, rest⟩
  · exact .inl hn
  · exact .inr ⟨g, cap, cur, hv, hbg, (hb.block g (by have := heap_lt hg; omega)).trans hg, rest⟩
theorem own_set {p : Addr} (h : w.ownsRow b e s v n xs) (u : Value) (hne : v.ownBlock ≠ some p.block) : (w.setCell p u).ownsRow b e s v n xs := by
  refine ⟨h.1, ?_⟩
  rcases h.2 with hn | ⟨g, cap, cur, rfl, hbg, hg, rest⟩
  · exact .inl hn
  · refine .inr ⟨g, cap, cur, rfl, hbg, (Below.heap_setCell w p u g (fun he => ?_)).trans hg, rest⟩
    subst he
    exact hne rfl
theorem blk_grown {g : Nat} {o : Obj} {row : Option Nat} (hg : w.heap[g]? = some o) (h : w.grownBy w' row) (hne : row ≠ some g) : w'.heap[g]? = some o := (h.block g (heap_lt hg) (Ne.symm hne)).trans hg
theorem blk_set_far {g : Nat} {o : Obj} {p : Addr} (u : Value) (hg : w.heap[g]? = some o) (hne : g ≠ p.block) : (w.setCell p u).heap[g]? = some o := (Below.heap_setCell w p u g hne).trans hg
theorem blk_set {g : Nat} {cs : Array Value} {t : TypeId} (i : Nat) (u : Value) (hg : w.heap[g]? = some (.cells cs t (0, 0))) : (w.setCell ⟨g, i, none⟩ u).heap[g]? = some (.cells (cs.setIfInBounds i u) t (0, 0)) := by
  simp [World.setCell, Array.getElem?_modify, hg]
theorem blk_below {B g : Nat} {o : Obj} (hg : w.heap[g]? = some o) (hb : Below B w w') (h : g < B) : w'.heap[g]? = some o := (hb.block g h).trans hg
theorem blk_alloc {g : Nat} {o : Obj} (hg : w.heap[g]? = some o) (x : Obj) : (w.alloc x).heap[g]? = some o := (Below.heap_alloc w x g (heap_lt hg)).trans hg
theorem blk_cell {g : Nat} {cs : Array Value} {t : TypeId} (hg : w.heap[g]? = some (.cells cs t (0, 0))) (i : Nat) (u : Value) (h : cs[i]? = some u) : w.cell? ⟨g, i, none⟩ = some u := (cell_of_row w g i cs t (0, 0) hg).trans h
theorem blk_free {g : Nat} {cs : Array Value} {t : TypeId} (hg : w.heap[g]? = some (.cells cs t (0, 0))) (i : Nat) : w.frozen? ⟨g, i, none⟩ = false := by
  simp [World.frozen?, hg]
/-- the cells of a row that is owned -/
theorem own_cells {g : Nat} {cap : Nat} (h : w.ownsRow b e s (.slice (some ⟨g, 0, none⟩) n cap) n' xs) (j : Nat) (u : Value) (hj : xs[j]? = some u) : w.cell? ⟨g, 0 + j, none⟩ = some u := by
  have := h.cells (g := g) rfl j u hj
  rwa [add_plain] at this
end
theorem chams_own {w : World} {b : Nat} {v : Value} {l : List Cham} (h : w.ownsRow b 80 3 v l.length (chRow l)) : ∃ p cap, v = .slice p l.length cap ∧ SliceIn p l.length (ChamsAt w l) := by
  rcases h.2 with ⟨rfl, h0⟩ | ⟨g, cap, cur, rfl, _⟩
  · exact ⟨none, 0, by rw [h0], .inl h0⟩
  · refine ⟨_, cap, rfl, .inr ⟨g, 0, rfl, fun i hi => ⟨?_, ?_, ?_⟩⟩⟩
    · exact own_cells h (i * 3 + 0) _ (row_get chCells 3 (fun _ => rfl) l i 0 hi (by decide))
    · rw [Nat.add_assoc]; exact own_cells h (i * 3 + 1) _ (row_get chCells 3 (fun _ => rfl) l i 1 hi (by decide))
    · rw [Nat.add_assoc]; exact own_cells h (i * 3 + 2) _ (row_get chCells 3 (fun _ => rfl) l i 2 hi (by decide))
theorem evts_own {w : World} {b : Nat} {v : Value} {l : List Evt} (hm : l.length ≤ maxLen) (h : w.ownsRow b 90 3 v l.length (evRow l)) : EvSlice w l v := by
  rcases h.2 with ⟨rfl, h0⟩ | ⟨g, cap, cur, rfl, _⟩
  · exact ⟨none, 0, by rw [h0], hm, .inl h0⟩
  · refine ⟨_, cap, rfl, hm, .inr ⟨g, 0, rfl, fun i hi => ⟨?_, ?_, ?_⟩⟩⟩
    · exact own_cells h (i * 3 + 0) _ (row_get evCells 3 (fun _ => rfl) l i 0 hi (by decide))
    · rw [Nat.add_assoc]; exact own_cells h (i * 3 + 1) _ (row_get evCells 3 (fun _ => rfl) l i 1 hi (by decide))
    · rw [Nat.add_assoc]; exact own_cells h (i * 3 + 2) _ (row_get evCells 3 (fun _ => rfl) l i 2 hi (by decide))
theorem clks_own {w : World} {b : Nat} {v : Value} {l : List (Clk × Value)} (h : w.ownsRow b 85 9 v l.length (clRow l)) (he : ∀ x ∈ l, EvSlice w x.1.evs x.2) :
    ∃ p cap, v = .slice p l.length cap ∧ SliceIn p l.length (ClksAt w (l.map (·.1))) := by
  rcases h.2 with ⟨rfl, h0⟩ | ⟨g, cap, cur, rfl, _⟩
  · exact ⟨none, 0, by rw [h0], .inl h0⟩
  · refine ⟨_, cap, rfl, .inr ⟨g, 0, rfl, fun i hi => ?_⟩⟩
    have hi' : i < l.length := by simpa using hi
    have c := fun j (hj : j < 9) (u : Value) (hu : (clkCells l[i].1 l[i].2)[j]? = some u) => own_cells h (i * 9 + j) u ((row_get (fun x : Clk × Value => clkCells x.1 x.2) 9 (fun _ => rfl) l i j hi' hj).trans hu)
    have e : (l.map (·.1))[i] = l[i].1 := by simp
    rw [e]
    refine ⟨⟨?_, ?_, ?_, ?_, ?_, ?_, ?_, ?_⟩, l[i].2, ?_, he _ (List.getElem_mem hi')⟩
    · exact c 0 (by decide) _ rfl
    · rw [Nat.add_assoc]; exact c 1 (by decide) _ rfl
    · rw [Nat.add_assoc]; exact c 2 (by decide) _ rfl
    · rw [Nat.add_assoc]; exact c 3 (by decide) _ rfl
    · rw [Nat.add_assoc]; exact c 4 (by decide) _ rfl
    · rw [Nat.add_assoc]; exact c 5 (by decide) _ rfl
    · rw [Nat.add_assoc]; exact c 6 (by decide) _ rfl
    · rw [Nat.add_assoc]; exact c 7 (by decide) _ rfl
    · rw [Nat.add_assoc]; exact c 8 (by decide) _ rfl
end
section
open Go Go.RowKit
theorem below_alloc' {X Y : World} (h : Below X.heap.size X Y) (o : Obj) : Below X.heap.size X (Y.alloc o) := h.alloc h.size o
/-- the argument's box, the result's, and what is being made, after some chambers and clocks -/
structure OwnAt (w wr : World) (W : Wld) (p1 p2 : Option Addr) (c1 c2 : Nat) (v1 v2 : Value) : Prop where
  par : wr.heap[w.heap.size]? = some (.cells #[.int .u64 W.seed, .slice p1 W.chs.length c1, .slice p2 W.cls.length c2] 28 (0, 0))
  res : wr.heap[w.heap.size + 1]? = some (.cells #[.int .u64 0, .slice none 0 0, .slice none 0 0] 38 (0, 0))
  out : wr.heap[w.heap.size + 1 + 1]? = some (.cells #[.int .u64 W.seed, v1, v2] 38 (0, 0))
  bel : Below w.heap.size w wr
  big : w.heap.size + 3 ≤ wr.heap.size
variable {w wr wq w1 : World} {W : Wld} {p1 p2 : Option Addr} {c1 c2 : Nat} {v1 v2 v1' v2' v3 : Value}
theorem OwnAt.below (h : OwnAt w wr W p1 p2 c1 c2 v1 v2) (hb : Below wr.heap.size wr wq) : OwnAt w wq W p1 p2 c1 c2 v1 v2 :=
  ⟨blk_below h.par hb (by have := h.big; omega), blk_below h.res hb (by have := h.big; omega), blk_below h.out hb (by have := h.big; omega), h.bel.trans (hb.mono h.bel.size), Nat.le_trans h.big hb.size⟩
theorem below_grown {row : Option Nat} {X Y Z : World} (h : Below X.heap.size X Y) (hg : Y.grownBy Z row) (hr : ∀ g, row = some g → X.heap.size ≤ g) : Below X.heap.size X Z := h.grown hg h.size (fun g hx => hr g hx)
theorem OwnAt.store1 {o : Obj} (h : OwnAt w wr W p1 p2 c1 c2 v1 v2) (hg : (wr.alloc o).grownBy w1 v1.ownBlock) (hlo : ∀ g, v1.ownBlock = some g → w.heap.size + 3 ≤ g) :
    OwnAt w (w1.setCell ⟨w.heap.size + 1 + 1, 1, none⟩ v1') W p1 p2 c1 c2 v1' v2 := by
  have hs := hg.size
  have hb := h.big
  simp at hs
  have f : ∀ g, g < w.heap.size + 3 → v1.ownBlock ≠ some g := fun g hlt he => by have := hlo g he; omega
  refine ⟨blk_set_far _ (blk_grown (blk_alloc h.par o) hg (f _ (by omega))) (by dsimp only; omega), blk_set_far _ (blk_grown (blk_alloc h.res o) hg (f _ (by omega))) (by dsimp only; omega), ?_, ?_, by simpa using (by omega : w.heap.size + 3 ≤ w1.heap.size)⟩
  · have := blk_set 1 v1' (blk_grown (blk_alloc h.out o) hg (f _ (by omega)))
    simpa using this
  · exact (below_grown (below_alloc' h.bel o) hg (fun g hx => by have := hlo g hx; omega)).setCell (by dsimp only; omega) _
theorem OwnAt.store2 {o : Obj} (h : OwnAt w wr W p1 p2 c1 c2 v1 v2) (hg : (wr.alloc o).grownBy w1 v2.ownBlock) (hlo : ∀ g, v2.ownBlock = some g → w.heap.size + 3 ≤ g) :
    OwnAt w (w1.setCell ⟨w.heap.size + 1 + 1, 2, none⟩ v2') W p1 p2 c1 c2 v1 v2' := by
  have hs := hg.size
  have hb := h.big
  simp at hs
  have f : ∀ g, g < w.heap.size + 3 → v2.ownBlock ≠ some g := fun g hlt he => by have := hlo g he; omega
  refine ⟨blk_set_far _ (blk_grown (blk_alloc h.par o) hg (f _ (by omega))) (by dsimp only; omega), blk_set_far _ (blk_grown (blk_alloc h.res o) hg (f _ (by omega))) (by dsimp only; omega), ?_, ?_, by simpa using (by omega : w.heap.size + 3 ≤ w1.heap.size)⟩
  · have := blk_set 2 v2' (blk_grown (blk_alloc h.out o) hg (f _ (by omega)))
    simpa using this
  · exact (below_grown (below_alloc' h.bel o) hg (fun g hx => by have := hlo g hx; omega)).setCell (by dsimp only; omega) _
/-- behind an append the box is as it was -/
theorem OwnAt.boxed {o : Obj} {v : Value} (h : OwnAt w wr W p1 p2 c1 c2 v1 v2) (hg : (wr.alloc o).grownBy w1 v.ownBlock) (hlo : ∀ g, v.ownBlock = some g → w.heap.size + 3 ≤ g) :
    (w1.cell? ⟨w.heap.size + 1 + 1, 1, none⟩ = some v1 ∧ w1.frozen? ⟨w.heap.size + 1 + 1, 1, none⟩ = false) ∧ (w1.cell? ⟨w.heap.size + 1 + 1, 2, none⟩ = some v2 ∧ w1.frozen? ⟨w.heap.size + 1 + 1, 2, none⟩ = false) := by
  have e := blk_grown (blk_alloc h.out o) hg (fun he => by have := hlo _ he; omega)
  exact ⟨⟨blk_cell e 1 _ rfl, blk_free e 1⟩, blk_cell e 2 _ rfl, blk_free e 2⟩
/-- the chambers made so far -/
structure Own1 (w wr : World) (W : Wld) (p1 p2 : Option Addr) (c1 c2 : Nat) (k : Nat) (v1 : Value) : Prop where
  at_ : OwnAt w wr W p1 p2 c1 c2 v1 (.slice none 0 0)
  row : wr.ownsRow (w.heap.size + 3) 80 3 v1 k (chRow (W.chs.take k))
theorem own1_start (w : World) (W : Wld) (p1 p2 : Option Addr) (c1 c2 : Nat) :
    Own1 w (((w.alloc (.cells #[.int .u64 W.seed, .slice p1 W.chs.length c1, .slice p2 W.cls.length c2] 28)).alloc (.cells #[.int .u64 0, .slice none 0 0, .slice none 0 0] 38)).alloc (.cells #[.int .u64 W.seed, .slice none 0 0, .slice none 0 0] 38))
      W p1 p2 c1 c2 0 (.slice none 0 0) := by
  refine ⟨⟨blk_alloc (blk_alloc (heap_alloc_new w _) _) _, blk_alloc ?_ _, ?_, ?_, by simp⟩, World.ownsRow_nil _ _ _ _⟩
  · have := heap_alloc_new (w.alloc (.cells #[.int .u64 W.seed, .slice p1 W.chs.length c1, .slice p2 W.cls.length c2] 28)) (.cells #[.int .u64 0, .slice none 0 0, .slice none 0 0] 38)
    simpa using this
  · have := heap_alloc_new ((w.alloc (.cells #[.int .u64 W.seed, .slice p1 W.chs.length c1, .slice p2 W.cls.length c2] 28)).alloc (.cells #[.int .u64 0, .slice none 0 0, .slice none 0 0] 38)) (.cells #[.int .u64 W.seed, .slice none 0 0, .slice none 0 0] 38)
    simpa using this
  · exact below_alloc' (below_alloc' (below_alloc' (Below.refl _ _) _) _) _
theorem Own1.next {o : Obj} {k : Nat} (h : Own1 w wr W p1 p2 c1 c2 k v1) (hk : k < W.chs.length) (hown : w1.ownsRow (w.heap.size + 3) 80 3 v1' (k + 1) (chRow (W.chs.take k) ++ chCells W.chs[k]))
    (hg : (wr.alloc o).grownBy w1 v1.ownBlock) : Own1 w (w1.setCell ⟨w.heap.size + 1 + 1, 1, none⟩ v1') W p1 p2 c1 c2 (k + 1) v1' := by
  have hlo : ∀ g, v1.ownBlock = some g → w.heap.size + 3 ≤ g := fun g hx => (h.row.lt g hx).1
  refine ⟨h.at_.store1 hg hlo, ?_⟩
  rw [chRow_snoc _ _ hk]
  exact own_set hown _ (fun he => by have := (hown.lt _ he).1; dsimp only at this; omega)
/-- the clocks made so far -/
structure Own2 (w wr : World) (W : Wld) (p1 p2 : Option Addr) (c1 c2 : Nat) (k : Nat) (v1 v2 : Value) (l : List (Clk × Value)) : Prop where
  at_ : OwnAt w wr W p1 p2 c1 c2 v1 v2
  row1 : wr.ownsRow (w.heap.size + 3) 80 3 v1 W.chs.length (chRow W.chs)
  row2 : wr.ownsRow (w.heap.size + 3) 85 9 v2 k (clRow l)
  evs : ∀ x ∈ l, wr.ownsRow (w.heap.size + 3) 90 3 x.2 x.1.evs.length (evRow x.1.evs)
  done : l.map (·.1) = W.cls.take k
theorem Own1.start2 (h : Own1 w wr W p1 p2 c1 c2 W.chs.length v1) : Own2 w wr W p1 p2 c1 c2 0 v1 (.slice none 0 0) [] :=
  ⟨h.at_, by have := h.row; rwa [List.take_length] at this, World.ownsRow_nil _ _ _ _, (fun _ hx => by cases hx), rfl⟩
theorem Own2.below {k : Nat} {l : List (Clk × Value)} (h : Own2 w wr W p1 p2 c1 c2 k v1 v2 l) (hb : Below wr.heap.size wr wq) : Own2 w wq W p1 p2 c1 c2 k v1 v2 l :=
  ⟨h.at_.below hb, own_below h.row1 hb (Nat.le_refl _), own_below h.row2 hb (Nat.le_refl _), fun x hx => own_below (h.evs x hx) hb (Nat.le_refl _), h.done⟩
theorem Own2.next {o : Obj} {k : Nat} {l : List (Clk × Value)} (h : Own2 w wq W p1 p2 c1 c2 k v1 v2 l) (hk : k < W.cls.length) (hv : wq.ownsRow (w.heap.size + 3) 90 3 v3 W.cls[k].evs.length (evRow W.cls[k].evs))
    (hown : w1.ownsRow (w.heap.size + 3) 85 9 v2' (k + 1) (clRow l ++ clkCells W.cls[k] v3)) (hg : (wq.alloc o).grownBy w1 v2.ownBlock) :
    Own2 w (w1.setCell ⟨w.heap.size + 1 + 1, 2, none⟩ v2') W p1 p2 c1 c2 (k + 1) v1 v2' (l ++ [(W.cls[k], v3)]) := by
  have hlo : ∀ g, v2.ownBlock = some g → w.heap.size + 3 ≤ g := fun g hx => (h.row2.lt g hx).1
  have far : ∀ {v : Value} {n : Nat} {xs : List Value} {e : TypeId} {s : Nat}, e ≠ 85 → wq.ownsRow (w.heap.size + 3) e s v n xs → (w1.setCell ⟨w.heap.size + 1 + 1, 2, none⟩ v2').ownsRow (w.heap.size + 3) e s v n xs := by
    intro v n xs e s hne ho
    refine own_set ((ho.alloc o).kept hg (own_ne (ho.alloc o) (h.row2.alloc o) hne)) _ (fun he => ?_)
    have := (ho.lt _ he).1
    dsimp only at this; omega
  refine ⟨h.at_.store2 hg hlo, far (by decide) h.row1, ?_, ?_, ?_⟩
  · have : clRow (l ++ [(W.cls[k], v3)]) = clRow l ++ clkCells W.cls[k] v3 := by simp [clRow]
    rw [this]
    exact own_set hown _ (fun he => by have := (hown.lt _ he).1; dsimp only at this; omega)
  · intro x hx
    rcases List.mem_append.1 hx with hx | hx
    · exact far (by decide) (h.evs x hx)
    · obtain rfl := List.mem_singleton.1 hx
      exact far (by decide) hv
  · rw [List.map_append, h.done, List.take_succ_eq_append_getElem hk]; rfl
/-- the events of one clock made so far: wr is the world at the round's head -/
structure Own3 (wr wq : World) (c : Clk) (u : Value) (j : Nat) (v3 : Value) : Prop where
  xbox : wq.heap[wr.heap.size]? = some (.cells (clkCells c u).toArray 61 (0, 0))
  cbox : wq.heap[wr.heap.size + 1]? = some (.cells (clkCells c v3).toArray 85 (0, 0))
  row : wq.ownsRow (wr.heap.size + 2) 90 3 v3 j (evRow (c.evs.take j))
  bel : Below wr.heap.size wr wq
  big : wr.heap.size + 2 ≤ wq.heap.size
theorem own3_start (wr : World) (c : Clk) (u : Value) : Own3 wr ((wr.alloc (.cells (clkCells c u).toArray 61)).alloc (.cells (clkCells c (.slice none 0 0)).toArray 85)) c u 0 (.slice none 0 0) := by
  refine ⟨blk_alloc (heap_alloc_new wr _) _, ?_, World.ownsRow_nil _ _ _ _, below_alloc' (below_alloc' (Below.refl _ _) _) _, by simp⟩
  have := heap_alloc_new (wr.alloc (.cells (clkCells c u).toArray 61)) (.cells (clkCells c (.slice none 0 0)).toArray 85)
  simpa using this
theorem Own3.next {o : Obj} {n : Nat} {c : Clk} {u v3' : Value} {j : Nat} (h : Own3 wr wq c u j v3) (hj : j < c.evs.length) (hown : w1.ownsRow (wr.heap.size + 2) 90 3 v3' (j + 1) (evRow (c.evs.take j) ++ evCells c.evs[j]))
    (hg : ((wq.alloc o).drewN n).grownBy w1 v3.ownBlock) : Own3 wr (w1.setCell ⟨wr.heap.size + 1, 8, none⟩ v3') c u (j + 1) v3' := by
  have hlo : ∀ g, v3.ownBlock = some g → wr.heap.size + 2 ≤ g := fun g hx => (h.row.lt g hx).1
  have hs := hg.size
  have hb := h.big
  simp at hs
  have f : ∀ g, g < wr.heap.size + 2 → v3.ownBlock ≠ some g := fun g hlt he => by have := hlo g he; omega
  refine ⟨blk_set_far _ (blk_grown (w := (wq.alloc o).drewN n) (blk_alloc h.xbox o) hg (f _ (by omega))) (by simp), ?_, ?_, ?_, by simpa using (by omega : wr.heap.size + 2 ≤ w1.heap.size)⟩
  · have := blk_set 8 v3' (blk_grown (w := (wq.alloc o).drewN n) (blk_alloc h.cbox o) hg (f _ (by omega)))
    simpa [clkCells] using this
  · rw [evRow_snoc _ _ hj]
    exact own_set hown _ (fun he => by have := (hown.lt _ he).1; dsimp only at this; omega)
  · exact (below_grown (below_drewN (below_alloc' h.bel o) n) hg (fun g hx => by have := hlo g hx; omega)).setCell (by simp) _
/-- behind an append both boxes are as they were -/
theorem Own3.boxed {o : Obj} {n : Nat} {c : Clk} {u : Value} {j : Nat} (h : Own3 wr wq c u j v3) (hg : ((wq.alloc o).drewN n).grownBy w1 v3.ownBlock) :
    w1.cell? ⟨wr.heap.size + 1, 8, none⟩ = some v3 ∧ w1.frozen? ⟨wr.heap.size + 1, 8, none⟩ = false := by
  have hlo : ∀ g, v3.ownBlock = some g → wr.heap.size + 2 ≤ g := fun g hx => (h.row.lt g hx).1
  have e := blk_grown (w := (wq.alloc o).drewN n) (blk_alloc h.cbox o) hg (fun he => by have := hlo _ he; omega)
  exact ⟨blk_cell e 8 _ rfl, blk_free e 8⟩
theorem Own3.far {c : Clk} {u : Value} {j : Nat} (h : Own3 wr wq c u j v3) {g : Nat} (hg : g < wr.heap.size + 2) : v3.ownBlock ≠ some g := fun he => by
  have := (h.row.lt g he).1; omega
theorem Own3.done {c : Clk} {u : Value} (h : Own3 wr wq c u c.evs.length v3) : wq.ownsRow (wr.heap.size + 2) 90 3 v3 c.evs.length (evRow c.evs) := by
  have := h.row; rwa [List.take_length] at this
theorem own_one {b : Nat} {e : TypeId} {s : Nat} {v : Value} {n : Nat} {xs : List Value} {w : World} (h : w.ownsRow b e s v n xs) : v.oneCell' = true := by
  rcases h.2 with ⟨rfl, _⟩ | ⟨g, cap, cur, rfl, _⟩ <;> rfl
/-- a world that lies in blocks from n on: it lies wherever these blocks do -/
def WldFr (n : Nat) (X : World) (W : Wld) (q1 q2 : Option Addr) : Prop := ∀ Z : World, (∀ k o, n ≤ k → X.heap[k]? = some o → Z.heap[k]? = some o) → WldIn Z W q1 q2
theorem WldFr.in_ {n : Nat} {X : World} {W : Wld} {q1 q2 : Option Addr} (h : WldFr n X W q1 q2) : WldIn X W q1 q2 := h X fun _ _ _ h => h
theorem own_fresh_at {n b s m : Nat} {X Z : World} {e : TypeId} {v : Value} {xs : List Value} (hn : n ≤ b) (hZ : ∀ k o, n ≤ k → X.heap[k]? = some o → Z.heap[k]? = some o) (h : X.ownsRow b e s v m xs) : Z.ownsRow b e s v m xs := by
  refine ⟨h.1, ?_⟩
  rcases h.2 with h0 | ⟨g, cap, cur, hv, hb, hg, h1, h2, h3, h4⟩
  · exact .inl h0
  · exact .inr ⟨g, cap, cur, hv, hb, hZ g _ (by omega) hg, h1, h2, h3, h4⟩
theorem slices_own {X : World} {b1 s1 n1 b2 s2 n2 : Nat} {e1 e2 : TypeId} {v1 v2 : Value} {x1 x2 : List Value} {P : Prop} (h1 : X.ownsRow b1 e1 s1 v1 n1 x1) (h2 : X.ownsRow b2 e2 s2 v2 n2 x2) (k : ∀ q1 q2 d1 d2, v1 = .slice q1 n1 d1 → v2 = .slice q2 n2 d2 → P) : P := by
  rcases h1.2 with ⟨e, n⟩ | ⟨g, cap, cur, e, _⟩ <;> rcases h2.2 with ⟨e', n'⟩ | ⟨g', cap', cur', e', _⟩
  · exact k _ _ _ _ (by rw [n]; exact e) (by rw [n']; exact e')
  · exact k _ _ _ _ (by rw [n]; exact e) e'
  · exact k _ _ _ _ e (by rw [n']; exact e')
  · exact k _ _ _ _ e e'
theorem Own2.world {l : List (Clk × Value)} (h : Own2 w wr W p1 p2 c1 c2 W.cls.length v1 v2 l) (x y z : Value) (h1 : W.chs.length ≤ maxLen) (h2 : W.cls.length ≤ maxLen) (h3 : ∀ k, (hk : k < W.cls.length) → W.cls[k].evs.length ≤ maxLen) :
    ∃ q1 q2 d1 d2, v1 = .slice q1 W.chs.length d1 ∧ v2 = .slice q2 W.cls.length d2 ∧ WldFr w.heap.size (((wr.setCell ⟨w.heap.size + 1, 0, none⟩ x).setCell ⟨w.heap.size + 1, 1, none⟩ y).setCell ⟨w.heap.size + 1, 2, none⟩ z) W q1 q2 := by
  have st : ∀ {v : Value} {n : Nat} {xs : List Value} {e : TypeId} {s : Nat}, wr.ownsRow (w.heap.size + 3) e s v n xs →
      (((wr.setCell ⟨w.heap.size + 1, 0, none⟩ x).setCell ⟨w.heap.size + 1, 1, none⟩ y).setCell ⟨w.heap.size + 1, 2, none⟩ z).ownsRow (w.heap.size + 3) e s v n xs := by
    intro v n xs e s ho
    have hf : v.ownBlock ≠ some (w.heap.size + 1) := fun he => by have := (ho.lt _ he).1; omega
    exact own_set (own_set (own_set ho x hf) y hf) z hf
  refine slices_own h.row1 h.row2 fun q1 q2 d1 d2 hv1 hv2 => ⟨q1, q2, d1, d2, hv1, hv2, fun Z hZ => ?_⟩
  subst hv1 hv2
  have st : ∀ {v : Value} {n : Nat} {xs : List Value} {e : TypeId} {s : Nat}, wr.ownsRow (w.heap.size + 3) e s v n xs → Z.ownsRow (w.heap.size + 3) e s v n xs := fun ho => own_fresh_at (by omega) hZ (st ho)
  obtain ⟨q1', d1', e1, s1⟩ := chams_own (st h.row1)
  cases e1
  have hd := h.done
  rw [List.take_length] at hd
  have hlen : l.length = W.cls.length := by rw [← hd, List.length_map]
  have r2 := st h.row2
  rw [← hlen] at r2
  obtain ⟨q2', d2', e2, s2⟩ := clks_own r2 fun x hx => by
    have hxc : x.1 ∈ W.cls := by rw [← hd]; exact List.mem_map_of_mem hx
    obtain ⟨k, hk, he⟩ := List.getElem_of_mem hxc
    refine evts_own ?_ (st (h.evs x hx))
    have := h3 k hk
    rwa [he] at this
  cases e2
  rw [hlen] at s2
  rw [hd] at s2
  exact ⟨h1, h2, s1, s2⟩
end
section
open Go Go.RowKit
theorem infoCh : (Tryz.prog.info? 80).map (fun i => (i.zero, i.size, i.bytes)) = some (some (.agg #[.int .i64 0, .int .i64 0, .int .i64 0]), 3, 24) := by kernel_rfl
theorem infoEv : (Tryz.prog.info? 90).map (fun i => (i.zero, i.size, i.bytes)) = some (some (.agg #[.int .i64 0, .int .i64 0, .int .i64 0]), 3, 24) := by kernel_rfl
theorem infoCl : (Tryz.prog.info? 85).map (fun i => (i.zero, i.size, i.bytes)) = some (some (.agg #[.int .i64 0, .int .i64 0, .int .i64 0, .int .i64 0, .int .i64 0, .int .i64 0, .int .i64 0, .int .i64 0, .slice none 0 0]), 9, 88) := by kernel_rfl
theorem set_far {w : World} {b o b' o' : Nat} {u v : Value} (h : w.cell? ⟨b, o, none⟩ = some v) (hne : b' ≠ b) : (w.setCell ⟨b', o', none⟩ u).cell? ⟨b, o, none⟩ = some v := by
  rw [World.cell?_setCell_other w ⟨b', o', none⟩ ⟨b, o, none⟩ u (fun e => by cases e; exact hne rfl)]; exact h
/-- what Own leaves -/
def Owned (w : World) (W : Wld) (e : Ending) (w' : World) : Prop :=
  ∃ q1 q2 d1 d2, e = .returned (.agg #[.int .u64 W.seed, .slice q1 W.chs.length d1, .slice q2 W.cls.length d2]) ∧ WldIn w' W q1 q2 ∧ Below w.heap.size w w'
/-- what Own leaves, in blocks of its own -/
def OwnedF (w : World) (W : Wld) (e : Ending) (w' : World) : Prop :=
  ∃ q1 q2 d1 d2, e = .returned (.agg #[.int .u64 W.seed, .slice q1 W.chs.length d1, .slice q2 W.cls.length d2]) ∧ WldFr w.heap.size w' W q1 q2 ∧ Below w.heap.size w w'
end
end Go.Proofs.YtlelamjbfjneiaaGreatDoor.Wd
