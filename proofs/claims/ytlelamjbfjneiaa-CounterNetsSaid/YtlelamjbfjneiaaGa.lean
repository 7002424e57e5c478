/- The reference's Narrow: a row in memory, the rows so far. -/
import Derived.Test.YtlelamjbfjneiaaNar
import Derived.Test.YtlelamjbfjneiaaRk
import Derived.Test.YtlelamjbfjneiaaTq
import Derived.Test.YtlelamjbfjneiaaNi
namespace Go.Proofs.Ytlelamjbfjneiaa.Ct
open Go Go.RowKit Go.Shelf
/-- a row of numbers in a block that is new since A -/
structure RowAt (A X : World) (g n : Nat) (f : Nat → Int) : Prop where
  at_ : ∀ i, i < n → X.cell? ⟨g, i, none⟩ = some (.int .i64 (f i)) ∧ X.frozen? ⟨g, i, none⟩ = false
  ge : A.heap.size ≤ g
  bel : Below A.heap.size A X
variable {A X Y : World} {g n : Nat} {f : Nat → Int}
theorem RowAt.below (h : RowAt A X g n f) (hb : Below X.heap.size X Y) : RowAt A Y g n f :=
  ⟨fun i hi => ⟨cell_below hb (h.at_ i hi).1, (hb.frozen (p := ⟨g, i, none⟩) (cell_lt (h.at_ i hi).1)).trans (h.at_ i hi).2⟩, h.ge, h.bel.trans (hb.mono h.bel.size)⟩
theorem RowAt.congr {q : Nat → Int} (h : RowAt A X g n f) (e : ∀ i, i < n → f i = q i) : RowAt A X g n q := ⟨fun i hi => by rw [← e i hi]; exact h.at_ i hi, h.ge, h.bel⟩
theorem RowAt.put (h : RowAt A X g n f) {j : Nat} (hj : j < n) (x : Int) : RowAt A (X.setCell ⟨g, j, none⟩ (.int .i64 x)) g n (fun i => if i = j then x else f i) := by
  refine ⟨fun i hi => ⟨?_, by rw [World.frozen?_setCell]; exact (h.at_ i hi).2⟩, h.ge, h.bel.setCell (p := ⟨g, j, none⟩) h.ge _⟩
  by_cases e : i = j
  · subst e; rw [if_pos rfl]; exact World.cell?_setCell_same _ _ _ (h.at_ i hi).1
  · rw [if_neg e, World.cell?_setCell_other _ ⟨g, j, none⟩ ⟨g, i, none⟩ _ (fun q => by cases q; exact e rfl)]; exact (h.at_ i hi).1
theorem RowAt.low (h : RowAt A X g n f) {j : Nat} (hj : j < n) (y : Int) : RowAt A (X.setCell ⟨g, j, none⟩ (.int .i64 (min (f j) y))) g n (lowR f j y) := by
  refine (h.put hj (min (f j) y)).congr fun i _ => ?_
  unfold lowR
  by_cases e : i = j
  · subst e; rfl
  · rw [if_neg e, if_neg e]
theorem RowAt.of_own {v : Value} (hn : 1 ≤ n) (h : Y.ownsRow A.heap.size 3 1 v n (seqV f n)) (hb : Below A.heap.size A Y) : ∃ g cap, v = .slice (some ⟨g, 0, none⟩) n cap ∧ RowAt A Y g n f := by
  rcases h.2 with ⟨rfl, h0⟩ | ⟨g, cap, cur, rfl, hg, _, _⟩
  · omega
  · refine ⟨g, cap, rfl, fun i hi => ⟨?_, World.ownsRow.frozenAt h i⟩, hg, hb⟩
    have := World.ownsRow.cells h (g := g) rfl i (.int .i64 (f i)) (by simp [seqV, hi])
    rwa [add_plain, Nat.zero_add] at this
theorem RowAt.fn (h : RowAt A X g n f) : FnIn X f n (some ⟨g, 0, none⟩) := .inr ⟨g, 0, rfl, fun i hi => by rw [Nat.zero_add]; exact (h.at_ i hi).1⟩
def valV (rv : Nat → Value) (k : Nat) : List Value := (List.range k).map rv
/-- the rows so far -/
structure DAt (w X : World) (v : Value) (l : List Bnd) (n k : Nat) (rv : Nat → Value) : Prop where
  own : X.ownsRow w.heap.size 52 1 v k (valV rv k)
  rows : ∀ i, i < k → ∃ b c, rv i = .slice (some ⟨b, 0, none⟩) n c ∧ (∀ j, j < n → X.cell? ⟨b, j, none⟩ = some (.int .i64 (rowR l i n j))) ∧ v.ownBlock ≠ some b
  bel : Below w.heap.size w X
variable {w : World} {v : Value} {l : List Bnd} {k : Nat} {rv : Nat → Value}
theorem DAt.nil (l : List Bnd) (n : Nat) (rv : Nat → Value) (hb : Below w.heap.size w X) : DAt w X (.slice none 0 0) l n 0 rv := ⟨World.ownsRow_nil _ _ _ _, fun i hi => absurd hi (Nat.not_lt_zero i), hb⟩
theorem DAt.below (h : DAt w X v l n k rv) (hb : Below X.heap.size X Y) : DAt w Y v l n k rv :=
  ⟨World.ownsRow.kept h.own (grown_below hb) (by cases e : v.ownBlock with | none => exact .inl rfl | some k => exact .inr (by simp)), fun i hi => by
    obtain ⟨b, c, h1, h2, h3⟩ := h.rows i hi
    exact ⟨b, c, h1, fun j hj => cell_below hb (h2 j hj), h3⟩, h.bel.trans (hb.mono h.bel.size)⟩
theorem DAt.more {o : Obj} {v' : Value} {b c : Nat} (hn : 1 ≤ n) (h : DAt w X v l n k rv) (hr : ∀ j, j < n → X.cell? ⟨b, j, none⟩ = some (.int .i64 (rowR l k n j))) (hvb : v.ownBlock ≠ some b)
    (hown : Y.ownsRow w.heap.size 52 1 v' (k + 1) (valV rv k ++ [.slice (some ⟨b, 0, none⟩) n c])) (hg : (X.alloc o).grownBy Y v.ownBlock) (hb : v'.ownBlock = v.ownBlock ∨ v'.ownBlock = some (X.alloc o).heap.size) :
    DAt w Y v' l n (k + 1) (fun i => if i = k then .slice (some ⟨b, 0, none⟩) n c else rv i) := by
  have keep : ∀ {q j : Nat} {u : Value}, v.ownBlock ≠ some q → X.cell? ⟨q, j, none⟩ = some u → Y.cell? ⟨q, j, none⟩ = some u := fun {q j u} hq hc => by
    have hlt := cell_lt hc
    have h1 : (X.alloc o).cell? ⟨q, j, none⟩ = some u := cell_below (below_alloc (Below.refl _ _) _) hc
    rw [← h1]
    exact World.cell?_of_block (w := X.alloc o) (a := ⟨q, j, none⟩) (hg.block q (cell_lt h1) (fun e => hq e.symm))
  have apart : ∀ {q j : Nat} {u : Value}, v.ownBlock ≠ some q → X.cell? ⟨q, j, none⟩ = some u → v'.ownBlock ≠ some q := fun {q j u} hq hc => by
    have hlt := cell_lt hc
    rcases hb with e | e
    · rw [e]; exact hq
    · rw [e]; intro h2; have h3 : (X.alloc o).heap.size = q := Option.some.inj h2; have h4 : (X.alloc o).heap.size = X.heap.size + 1 := by simp
      omega
  have hval : valV (fun i => if i = k then .slice (some ⟨b, 0, none⟩) n c else rv i) (k + 1) = valV rv k ++ [.slice (some ⟨b, 0, none⟩) n c] := by
    unfold valV
    rw [List.range_succ, List.map_append]
    congr 1
    · refine List.map_congr_left fun i hi => ?_
      have := List.mem_range.1 hi
      rw [if_neg (by omega)]
    · simp
  refine ⟨by rw [hval]; exact hown, fun i hi => ?_, (h.bel.alloc h.bel.size o).grown hg (by have := h.bel.size; simp; omega) (fun k hk => (World.ownsRow.lt h.own k hk).1)⟩
  by_cases e : i = k
  · subst e
    exact ⟨b, c, by rw [if_pos rfl], fun j hj => keep hvb (hr j hj), apart hvb (hr 0 (by omega))⟩
  · obtain ⟨b', c', h1, h2, h3⟩ := h.rows i (by omega)
    exact ⟨b', c', by rw [if_neg e]; exact h1, fun j hj => keep h3 (h2 j hj), apart h3 (h2 0 (by omega))⟩
theorem DAt.in_ (hk : 1 ≤ k) (hn : n ≤ maxLen) (h : DAt w X v l n k rv) : ∃ g cap, v = .slice (some ⟨g, 0, none⟩) k cap ∧ RowsIn X (fun i => rowR l i n) (fun _ => n) k g 0 := by
  rcases h.own.2 with ⟨rfl, h0⟩ | ⟨g, cap, cur, rfl, _, _, _⟩
  · omega
  · refine ⟨g, cap, rfl, fun i hi => ?_⟩
    obtain ⟨b, c, h1, h2, -⟩ := h.rows i hi
    refine ⟨some ⟨b, 0, none⟩, c, ?_, .inr ⟨b, 0, rfl, fun j hj => by rw [Nat.zero_add]; exact h2 j hj⟩, hn⟩
    have := World.ownsRow.cells h.own (g := g) rfl i (rv i) (by simp [valV, hi])
    rw [add_plain, Nat.zero_add, h1] at this
    rw [Nat.zero_add]
    exact this
end Go.Proofs.Ytlelamjbfjneiaa.Ct
