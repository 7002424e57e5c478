/-  ·  -/
import Derived.Test.YtgnfaemnehmgcaaGreatDoorQ39
import Derived.Laws.IdiomStrings
import Derived.Laws.BytesString
import Derived.Laws.MakeOwn
import Derived.OwnWalk
namespace Go.Proofs.YtgnfaemnehmgcaaGreatDoor.Cal
open Go Go.RowKit
def BytAt (X : World) (blk n : Nat) : Prop := ∀ j, j < n → ∃ v : UInt8, X.cell? ⟨blk, j, none⟩ = some (.int .u8 (v.toNat : Int))
theorem BytAt.below {X Y : World} {blk n : Nat} (h : BytAt X blk n) (hb : Below X.heap.size X Y) : BytAt Y blk n := fun j hj => (h j hj).imp fun _ q => cell_below hb q
structure BytB (B X : World) (blk n : Nat) : Prop where
  c : BytAt X blk n
  fz : ∀ j, j < n → X.frozen? ⟨blk, j, none⟩ = false
  gb : B.heap.size ≤ blk
  bel : Below B.heap.size B X
theorem BytB.below {B X Y : World} {blk n : Nat} (h : BytB B X blk n) (hb : Below X.heap.size X Y) : BytB B Y blk n :=
  ⟨h.c.below hb, fun j hj => (hb.frozen (p := ⟨blk, j, none⟩) (cell_lt (h.c j hj).choose_spec)).trans (h.fz j hj), h.gb, bt h.bel hb⟩
theorem BytB.put {B X : World} {blk n : Nat} (h : BytB B X blk n) {i : Nat} (x : UInt8) : BytB B (X.setCell ⟨blk, i, none⟩ (.int .u8 (x.toNat : Int))) blk n := by
  refine ⟨fun j hj => ?_, fun j hj => by rw [World.frozen?_setCell]; exact h.fz j hj, h.gb, h.bel.setCell (p := ⟨blk, i, none⟩) h.gb _⟩
  obtain ⟨v, hv⟩ := h.c j hj
  by_cases e : i = j
  · subst e
    exact ⟨x, set_same hv⟩
  · exact ⟨v, set_far (.inr e) hv⟩
theorem bytes_new (w : World) (S : ByteArray) : ∃ cap W1, (convert 9 49 (.string S)).run Tryz.prog w = .ok (.slice (some ⟨w.heap.size, 0, none⟩) S.size cap) W1 ∧ BytB w W1 w.heap.size S.size := by
  refine ⟨_, _, run_bytes_of_string w _ _ 5 S Tryz.underlying9 Tryz.underlying49 Tryz.underlying5, ?_⟩
  generalize hC : grownCap w S.size 0 5 = cap
  have hsz : S.size ≤ (bytesRow S cap).size := by unfold bytesRow; rw [Array.size_append, Array.size_map]; exact Nat.le_add_right _ _
  refine ⟨fun j hj => ⟨S.data[j]'hj, ?_⟩, fun j hj => ?_, Nat.le_refl _, below_alloc (Below.drew (Below.refl _ _)) _⟩
  · have h := bytesRow_at S cap j hj
    simp only [World.cell?]
    show (match (w.heap.push (.cells (bytesRow S cap) 5 _))[w.heap.size]? with | some (.cells cs _ _) => cs[j]? | _ => none) = _
    rw [Array.getElem?_push_size]
    exact h
  · unfold World.frozen?
    show (match (w.heap.push (.cells (bytesRow S cap) 5 ((bytesRow S cap).size, (bytesRow S cap).size + 1)))[w.heap.size]? with | some (.cells _ _ (lo, hi)) => decide (lo ≤ j) && decide (j < hi) | _ => false) = false
    rw [Array.getElem?_push_size]
    show (decide ((bytesRow S cap).size ≤ j) && decide (j < (bytesRow S cap).size + 1)) = false
    rw [decide_eq_false (by omega), Bool.false_and]
theorem byt_vals {X : World} {blk n : Nat} (h : BytAt X blk n) : ∃ vb : Nat → UInt8, ∀ j, j < n → X.cell? ⟨blk, j, none⟩ = some (.int .u8 ((vb j).toNat : Int)) :=
  ⟨fun j => if hj : j < n then (h j hj).choose else 0, fun j hj => by simp only [dif_pos hj]; exact (h j hj).choose_spec⟩
theorem bytes_back (blk n cap : Nat) (vb : Nat → UInt8) : ∃ SS : ByteArray, ∀ X : World, (∀ j, j < n → X.cell? ⟨blk, j, none⟩ = some (.int .u8 ((vb j).toNat : Int))) →
    (convert 49 9 (.slice (some ⟨blk, 0, none⟩) n cap)).run Tryz.prog X = .ok (.string SS) X := by
  refine ⟨⟨((List.range n).map vb).toArray⟩, fun X hX => ?_⟩
  have h := run_convert_bytes_back (P := Tryz.prog) X 49 9 5 ⟨blk, 0, none⟩ cap ((List.range n).map vb) Tryz.underlying49 Tryz.underlying5 Tryz.underlying9 (fun j hj => by
    rw [add_plain, Nat.zero_add, hX j (by simpa using hj)]
    simp)
  simpa using h
theorem lit_bytes (w : World) (C : Array Value) (l c : Nat) : (convert 49 49 (.slice (some ⟨w.heap.size, 0, none⟩) l c)).run Tryz.prog (w.alloc (.cells C 5)) = .ok (.slice (some ⟨w.heap.size, 0, none⟩) l c) (w.alloc (.cells C 5 (C.size, C.size + 1))) := by
  have hsh : (w.alloc (.cells C 5)).shape? w.heap.size = some (5, C.size) := by
    have : (w.alloc (.cells C 5)).heap[w.heap.size]? = some (.cells C 5) := by
      show (w.heap.push (.cells C 5))[w.heap.size]? = _
      simp
    unfold World.shape?
    rw [this]
  have hfr : (w.alloc (.cells C 5)).freeze ⟨w.heap.size, C.size, none⟩ 1 = w.alloc (.cells C 5 (C.size, C.size + 1)) := by
    have hm : ∀ (a : Array Obj) (x : Obj) (f : Obj → Obj), (a.push x).modify a.size f = a.push (f x) := by
      intro a x f
      apply Array.ext
      · simp
      · intro i h1 h2
        simp only [Array.getElem_modify, Array.getElem_push]
        by_cases h : a.size = i
        · subst h
          simp
        · have hi : i < a.size := by simp at h1; omega
          simp [h, hi]
    unfold World.freeze
    rw [if_neg (by decide)]
    show ({ w.alloc (.cells C 5) with heap := (w.heap.push (.cells C 5)).modify w.heap.size _ } : World) = _
    rw [hm]
    rfl
  simp [convert, run_underlying Tryz.underlying49, run_underlying Tryz.underlying5, markStringish, hsh]
  exact hfr
theorem byt_new2 (w : World) (l : List UInt8) (t : TypeId) (fr : Nat × Nat) : BytAt (w.alloc (.cells (l.map (fun b => Value.int .u8 (b.toNat : Int))).toArray t fr)) w.heap.size l.length := by
  intro j hj
  refine ⟨l[j], ?_⟩
  simp only [World.cell?]
  show (match (w.heap.push (.cells (l.map (fun b => Value.int .u8 (b.toNat : Int))).toArray t fr))[w.heap.size]? with | some (.cells cs _ _) => cs[j]? | _ => none) = _
  rw [Array.getElem?_push_size]
  simp [hj]
end Go.Proofs.YtgnfaemnehmgcaaGreatDoor.Cal
namespace Go.Proofs.YtgnfaemnehmgcaaGreatDoor.Cal
open Go Go.RowKit
theorem Day_any (y m d : Int) : ∃ n e : Int, ∀ w : World, Mon w → Calls Tryz.prog 13 #[.int .i64 y, .int .i64 m, .int .i64 d] w fun x w' => x = .returned (.tuple #[.int .i64 n, .int .i64 e]) ∧ w = w' := by
  cases h : okDate y m d
  · exact ⟨0, 90, fun w hw => Day_no y m d w hw h⟩
  · obtain ⟨k, rfl, hd⟩ := okDate_yes h
    exact ⟨_, 0, fun w hw => Day_ok w hw hd⟩
def atF (f : Nat → Int × Int) (n : Nat) (x : Int × Int) : Nat → Int × Int := fun j => if j = n then x else f j
theorem lv_same {f g : Nat → Int × Int} : ∀ n, (∀ j, j < n → f j = g j) → lv f n = lv g n
  | 0, _ => rfl
  | n + 1, h => by rw [lv, lv, lv_same n (fun j hj => h j (by omega)), h n (by omega)]
theorem lv_atF (f : Nat → Int × Int) (n : Nat) (x : Int × Int) : lv (atF f n x) (n + 1) = lv f n ++ [.int .i64 x.1, .int .i64 x.2] := by
  have e : atF f n x n = x := by unfold atF; rw [if_pos rfl]
  rw [lv, e, lv_same n (fun j hj => show atF f n x j = f j by unfold atF; rw [if_neg (by omega)])]
structure SmL (B X : World) (v : Value) (k : Nat) (f : Nat → Int × Int) : Prop where
  own : X.ownsRow B.heap.size 33 2 v k (lv f k)
  bel : Below B.heap.size B X
theorem SmL.nil (B : World) (f : Nat → Int × Int) : SmL B B (.slice none 0 0) 0 f := ⟨World.ownsRow_nil _ _ _ _, Below.refl _ _⟩
theorem SmL.below {B X Y : World} {v : Value} {k : Nat} {f : Nat → Int × Int} (h : SmL B X v k f) (hb : Below X.heap.size X Y) : SmL B Y v k f := ⟨own_keep h.own hb (Nat.le_refl _), bt h.bel hb⟩
theorem SmL.more {B X Y : World} {v v' : Value} {k : Nat} {f : Nat → Int × Int} (h : SmL B X v k f) (x : Int × Int) (hown : Y.ownsRow B.heap.size 33 2 v' (k + 1) (lv f k ++ [.int .i64 x.1, .int .i64 x.2])) (hg : X.grownBy Y v.ownBlock) : SmL B Y v' (k + 1) (atF f k x) := by
  refine ⟨by rw [lv_atF]; exact hown, Below.grown h.bel hg h.bel.size (fun j hj => own_geS h.own hj)⟩
def noCs : Array Value := madeCells (Value.agg #[.int .i64 0, .int .i64 0]).cells (Int.toNat 201 * 2)
theorem noCs_at (i : Nat) (hi : i < 402) : noCs[i]? = some (.int .i64 0) := by
  unfold noCs madeCells
  show ((Array.range 402).map fun j => (#[Value.int .i64 0, Value.int .i64 0] : Array Value)[j % 2]!)[i]? = _
  rw [Array.getElem?_map, Array.getElem?_range, if_pos hi]
  rcases (by omega : i % 2 = 0 ∨ i % 2 = 1) with h | h <;> simp [h]
theorem noCs_new (X : World) (t : TypeId) : LpAt (X.alloc (.cells noCs t)) (fun _ => (0, 0)) 201 X.heap.size 0 := by
  intro i hi
  have h0 := noCs_at (0 + i * 2) (by omega)
  have h1 := noCs_at (0 + i * 2 + 1) (by omega)
  constructor
  · rw [World.cell?_alloc_new]; exact h0
  · rw [World.cell?_alloc_new]; exact h1
theorem infoChgP : (Tryz.prog.info? 35).map (fun i => (i.zero, i.size, i.bytes)) = some (some (.agg #[.int .i64 0, .int .i64 0]), 2, 16) := by kernel_rfl
theorem make201 (W : World) : (Instr.makeSlice 36 (.int .i64 201) (.int .i64 201)).run Tryz.prog W = .ok (.slice (some ⟨W.heap.size, 0, none⟩) 201 201) (W.alloc (.cells noCs 35)) := by
  obtain ⟨i1, hi1, hy0, hy1, hy2⟩ := info_parts infoChgP
  have h := run_make (P := Tryz.prog) W 36 35 i1 (.agg #[.int .i64 0, .int .i64 0]) Tryz.underlying36 hi1 hy0 .i64 .i64 201 201 (by decide) (by decide) (by rw [hy2]; decide) (by decide)
  rw [hy1] at h
  exact h
end Go.Proofs.YtgnfaemnehmgcaaGreatDoor.Cal
