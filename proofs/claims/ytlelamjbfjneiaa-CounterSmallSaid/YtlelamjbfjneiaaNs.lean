/- The end of a function whose loop ranges over an iterator in each round: one mark for each round is taken in. -/
import Derived.Test.YtlelamjbfjneiaaNd
namespace Go.Proofs.Ytlelamjbfjneiaa.Ct
open Go Go.RowKit Go.Shelf
def marksL (Ds : List Nat) : List Deferred := Ds.map fun D => { target := .collected D, args := #[] }
theorem leaves_marks {F : Fence} {n : Nat} {P : Program} {fn : Func} {tmps : Array Value} {R : Ending → World → Prop} (B : Nat) : ∀ (Ds : List Nat) (X : World), Ds.Nodup → (∀ D, D ∈ Ds → B ≤ D ∧ X.heap[D]? = some (.deferred (some []))) →
    (∀ Y, StayC (fun _ => True) X Y → Below B X Y → LeavesIn F n P fn tmps R [] .returning Y) → LeavesInM F n P fn tmps R (marksL Ds) .returning X
  | [], X, _, _, h => h X ⟨Nat.le_refl _, fun _ _ _ h _ => h⟩ (Below.refl _ _)
  | D :: Ds, X, hn, hd, h => by
    obtain ⟨hB, hK⟩ := hd D (by simp)
    have k : StayC (fun _ => True) X (X.putObj D (.deferred none)) := ⟨by simp, fun i o _ ho hc => (World.putObj_heap_other (by intro e; subst e; rw [hK] at ho; cases ho; cases hc)).trans ho⟩
    have hb : Below B X (X.putObj D (.deferred none)) := ⟨rfl, rfl, rfl, by simp, fun i hi => World.putObj_heap_other (by omega)⟩
    refine ⟨by simp, .inl ⟨_, _, rfl, run_takeDeferred hK, ?_⟩⟩
    refine leaves_marks B Ds _ (List.nodup_cons.1 hn).2 (fun D' hD' => ?_) (fun Y h1 h2 => h Y (k.trans h1) (hb.trans h2))
    obtain ⟨h1, h2⟩ := hd D' (by simp [hD'])
    refine ⟨h1, ?_⟩
    rw [World.putObj_heap_other (by intro e; subst e; exact (List.nodup_cons.1 hn).1 hD')]
    exact h2
end Go.Proofs.Ytlelamjbfjneiaa.Ct
