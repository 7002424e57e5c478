/- A matrix of numbers in memory: a slice of rows, each with a block of its own. -/
import Derived.Test.YtlelamjbfjneiaaNa
import Derived.Test.YtlelamjbfjneiaaRpt
namespace Go.Proofs.Ytlelamjbfjneiaa.Ct
open Go Go.RowKit
structure MatAt (w X : World) (n g : Nat) (bs : Nat → Nat) (M : List (List Int)) : Prop where
  rows : ∀ i, i < n → X.cell? ⟨g, i, none⟩ = some (.slice (some ⟨bs i, 0, none⟩) n n)
  at_ : ∀ i j, i < n → j < n → X.cell? ⟨bs i, j, none⟩ = some (.int .i64 (getM M i j)) ∧ X.frozen? ⟨bs i, j, none⟩ = false
  inj : ∀ i j, i < n → j < n → bs i = bs j → i = j
  ne : ∀ i, i < n → bs i ≠ g
  ge : ∀ i, i < n → w.heap.size ≤ bs i
  bel : Below w.heap.size w X
variable {w X Y : World} {n g : Nat} {bs : Nat → Nat} {M : List (List Int)}
theorem MatAt.below (h : MatAt w X n g bs M) (hb : Below X.heap.size X Y) : MatAt w Y n g bs M :=
  ⟨fun i hi => cell_below hb (h.rows i hi), fun i j hi hj => ⟨cell_below hb (h.at_ i j hi hj).1, (hb.frozen (p := ⟨bs i, j, none⟩) (cell_lt (h.at_ i j hi hj).1)).trans (h.at_ i j hi hj).2⟩, h.inj, h.ne, h.ge, h.bel.trans (hb.mono h.bel.size)⟩
theorem MatAt.put (h : MatAt w X n g bs M) (sh : Shape n M) {i j : Nat} (hi : i < n) (hj : j < n) (x : Int) : MatAt w (X.setCell ⟨bs i, j, none⟩ (.int .i64 x)) n g bs (putM M i j x) := by
  refine ⟨fun k hk => ?_, fun a b ha hb => ⟨?_, ?_⟩, h.inj, h.ne, h.ge, h.bel.setCell (p := ⟨bs i, j, none⟩) (h.ge i hi) _⟩
  · rw [World.cell?_setCell_far _ _ _ _ (h.ne i hi)]; exact h.rows k hk
  · rw [getM_put sh hi hj]
    by_cases e : a = i
    · subst e
      by_cases e2 : b = j
      · subst e2
        rw [if_pos ⟨rfl, rfl⟩]; exact World.cell?_setCell_same _ _ _ (h.at_ a b ha hb).1
      · rw [if_neg (fun q => e2 q.2), World.cell?_setCell_other _ ⟨bs a, j, none⟩ ⟨bs a, b, none⟩ _ (fun q => by cases q; exact e2 rfl)]
        exact (h.at_ a b ha hb).1
    · rw [if_neg (fun q => e q.1), World.cell?_setCell_far _ _ _ _ (fun q => e (h.inj _ _ hi ha q).symm)]
      exact (h.at_ a b ha hb).1
  · rw [World.frozen?_setCell]; exact (h.at_ a b ha hb).2
theorem MatAt.low (h : MatAt w X n g bs M) (sh : Shape n M) {i j : Nat} (hi : i < n) (hj : j < n) (x : Int) : MatAt w (X.setCell ⟨bs i, j, none⟩ (.int .i64 (min (getM M i j) x))) n g bs (lowM M i j x) := h.put sh hi hj _
end Go.Proofs.Ytlelamjbfjneiaa.Ct
