/- Layer 9 (calendar): from what the row lists of the table of months to its cells. -/
import Derived.Test.YtgnfaemnehmgcaaGreatDoorCards
import Derived.Test.YtgnfaemnehmgcaaGreatDoorTie
import Derived.Test.YtgnfaemnehmgcaaGreatDoorQ02
import Derived.ProofKit
import Derived.OpenShut
import Derived.Deep.DeepHandedRow
import Derived.Lib.LaidTab
namespace Go.Proofs.YtgnfaemnehmgcaaGreatDoor.Cal
open Go Go.RowKit
theorem cellsInt : Tryz.prog.cellsOf 3 = 1 := by kernel_rfl
theorem cellsMonths : Tryz.prog.cellsOf 172 = 12 := by kernel_rfl
theorem gMonths : Tryz.prog.globalNamed "meridian/calendar.months" = some 0 := by kernel_rfl
theorem gMonthsT : (Tryz.prog.globals[0]?).map (·.type) = some 172 := by kernel_rfl
theorem mon_of {w : World} (h : laidMetH Tryz.prog [("meridian/calendar.months", Rows.laid_meridian_calendar_months)] w) : Mon w := by
  change laidMet Tryz.prog [("meridian/calendar.months", Rows.laid_meridian_calendar_months)] w at h
  obtain ⟨ps, hv, _, _⟩ := h
  obtain ⟨g, t, cs, fuel, p, q, hg, hty, hvar, hd, hr, _⟩ := hv
  obtain rfl := Option.some.inj (gMonths.symm.trans hg)
  obtain rfl := Option.some.inj (gMonthsT.symm.trans hty)
  have hs := Lib.cells_of_tab (k := .i64) (zs := [31, 28, 31, 30, 31, 30, 31, 31, 30, 31, 30, 31]) Tryz.underlying172 Tryz.underlying3 cellsInt cellsMonths hd
  have hsc : ∀ i, w.cell? ⟨0, i, none⟩ = cs.toList[i]? := fun i => by rw [World.var?_cell gMonths hvar i]; simp
  intro i hi
  rw [hsc, hs]
  have : i = 0 ∨ i = 1 ∨ i = 2 ∨ i = 3 ∨ i = 4 ∨ i = 5 ∨ i = 6 ∨ i = 7 ∨ i = 8 ∨ i = 9 ∨ i = 10 ∨ i = 11 := by omega
  rcases this with rfl | rfl | rfl | rfl | rfl | rfl | rfl | rfl | rfl | rfl | rfl | rfl <;> rfl
end Go.Proofs.YtgnfaemnehmgcaaGreatDoor.Cal
