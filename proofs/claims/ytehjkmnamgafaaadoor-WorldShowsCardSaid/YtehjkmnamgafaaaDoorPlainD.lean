/- Plain functions, continued: the draws of a walk as a list. -/
import Derived.Test.YtehjkmnamgafaaaDoorPlainC
namespace Go.Proofs.YtehjkmnamgafaaaDoor
open Go Go.RowKit
abbrev DInt := { x : Int // -1000000000 ≤ x ∧ x ≤ 1000000000 }
def drawL (src walk i0 : Int) (hw : 0 ≤ walk ∧ walk ≤ 1000000000) (n : Nat) : List DInt :=
  (List.range n).map fun (i : Nat) => ⟨drawS src (i0 + (i : Int) + 1) walk, by have := drawS_bd src (i0 + i + 1) walk hw.1; omega⟩
theorem drawL_len (src walk i0 : Int) (hw : 0 ≤ walk ∧ walk ≤ 1000000000) (n : Nat) : (drawL src walk i0 hw n).length = n := by simp [drawL]
theorem drawL_succ (src walk i0 : Int) (hw : 0 ≤ walk ∧ walk ≤ 1000000000) (n : Nat) :
    drawL src walk i0 hw (n + 1) = drawL src walk i0 hw n ++ [⟨drawS src (i0 + n + 1) walk, by have := drawS_bd src (i0 + n + 1) walk hw.1; omega⟩] := by
  simp [drawL, List.range_succ]
theorem drawL_prefix (src walk i0 : Int) (hw : 0 ≤ walk ∧ walk ≤ 1000000000) (j n : Nat) (h : j ≤ n) : drawL src walk i0 hw j <+: drawL src walk i0 hw n := by
  induction n with
  | zero => obtain rfl : j = 0 := by omega
            exact List.prefix_refl _
  | succ n ih =>
    by_cases hj : j = n + 1
    · subst hj; exact List.prefix_refl _
    · rw [drawL_succ]; exact (ih (by omega)).trans (List.prefix_append _ _)
def sumD : List DInt → Int := fun l => l.foldl (fun t x => t + x.1) 0
theorem sumD_snoc (l : List DInt) (x : DInt) : sumD (l ++ [x]) = sumD l + x.1 := by simp [sumD]
theorem sumD_drawL (src walk i0 : Int) (hw : 0 ≤ walk ∧ walk ≤ 1000000000) (n : Nat) : sumD (drawL src walk i0 hw n) = sumDraws src walk i0 n := by
  induction n with
  | zero => rfl
  | succ n ih => rw [drawL_succ, sumD_snoc, ih]; rfl
theorem foldD_bd : ∀ (l : List DInt) (t : Int) (k : Nat), -(1000000000 * k) ≤ t → t ≤ 1000000000 * k → -(1000000000 * (k + l.length : Nat) : Int) ≤ l.foldl (fun t x => t + x.1) t ∧ l.foldl (fun t x => t + x.1) t ≤ 1000000000 * (k + l.length : Nat)
  | [], t, k, h1, h2 => by simp; omega
  | x :: r, t, k, h1, h2 => by
    have hx := x.2
    have := foldD_bd r (t + x.1) (k + 1) (by omega) (by omega)
    simp only [List.foldl_cons, List.length_cons]
    have e : k + 1 + r.length = k + (r.length + 1) := by omega
    rw [e] at this
    exact this
theorem sumD_bd (l : List DInt) : -(1000000000 * (l.length : Int)) ≤ sumD l ∧ sumD l ≤ 1000000000 * (l.length : Int) := by
  have := foldD_bd l 0 0 (by omega) (by omega)
  simp only [Nat.zero_add] at this
  exact this
end Go.Proofs.YtehjkmnamgafaaaDoor
