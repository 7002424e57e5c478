/- Contracts of layer 3: Chance. -/
import Derived.Test.YtemblamamgfodaaGreatDoorStJ
namespace Go.Proofs.YtemblamamgfodaaGreatDoor
open Go Go.RowKit Go.Shelf
def chOk (n k : Int) : Prop := (2 ≤ n ∧ n ≤ 40) ∧ 1 ≤ k ∧ k ≤ n / 2
instance (n k : Int) : Decidable (chOk n k) := by unfold chOk; infer_instance
def chanceE (n k : Int) : VarE := if chOk n k then ⟨lowN (chN n.toNat k.toNat) (2 ^ n.toNat), lowD (chN n.toNat k.toNat) (2 ^ n.toNat), 0⟩ else ⟨0, 0, 1⟩
end Go.Proofs.YtemblamamgfodaaGreatDoor
