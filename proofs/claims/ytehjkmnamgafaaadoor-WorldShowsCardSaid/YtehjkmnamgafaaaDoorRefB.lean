/- Contract of the reference: a clock that is not allowed. -/
import Derived.Test.YtehjkmnamgafaaaDoorRefA
namespace Go.Proofs.YtehjkmnamgafaaaDoor
open Go Go.RowKit
/-- the reference's word on a clock: is it not allowed? -/
theorem wrong_in {n : Int} {c : Clk} (h : inR c.kind 1 5 = true) : clkOk n c = (inR c.rate (-rateOf c.kind) (rateOf c.kind) && (inR c.drift (-driftOf c.kind) (driftOf c.kind) && (decide (0 ≤ c.white) && (decide (c.white ≤ whiteOf c.kind) && (decide (0 ≤ c.walk) && (decide (c.walk ≤ walkOf c.kind) &&
    (inR c.phase (-100000000000000) 100000000000000 && (inR c.heat (-1000000000) 1000000000 && (decide (0 ≤ c.room) && decide (c.room < n)))))))))) := by
  rw [clkOk_in h]
  have e : inR c.room 0 (n - 1) = (decide (0 ≤ c.room) && decide (c.room < n)) := by
    unfold inR; congr 1; rw [decide_eq_decide]; omega
  rw [e, show inR c.white 0 (whiteOf c.kind) = (decide (0 ≤ c.white) && decide (c.white ≤ whiteOf c.kind)) from rfl, show inR c.walk 0 (walkOf c.kind) = (decide (0 ≤ c.walk) && decide (c.walk ≤ walkOf c.kind)) from rfl]
  generalize inR c.phase (-100000000000000) 100000000000000 = a
  generalize inR c.rate (-rateOf c.kind) (rateOf c.kind) = b
  generalize inR c.drift (-driftOf c.kind) (driftOf c.kind) = d
  generalize decide (0 ≤ c.white) = e
  generalize decide (0 ≤ c.walk) = f
  generalize decide (c.white ≤ whiteOf c.kind) = g
  generalize decide (c.walk ≤ walkOf c.kind) = i
  cases a <;> cases b <;> cases d <;> cases e <;> cases f <;> cases g <;> cases i <;> rfl
set_option maxHeartbeats 4000000 in
theorem wrongClock_any (ki ph ra dr wh wa he ro : Int) (sd : Int) (n1 k1 n2 k2 : Nat) (p1 p2 : Option Addr) (evs : List Evt) (p : Option Addr) (l c : Nat) (w : World) (_hn : (n1 : Int) ≤ 9223372036854775807) :
    Calls Tryd.prog 62 #[.agg #[.int .u64 sd, .slice p1 n1 k1, .slice p2 n2 k2], .agg #[.int .i64 ki, .int .i64 ph, .int .i64 ra, .int .i64 dr, .int .i64 wh, .int .i64 wa, .int .i64 he, .int .i64 ro, .slice p l c]] w fun e w' =>
      e = .returned (.bool (!clkOk n1 ⟨ki, ph, ra, dr, wh, wa, he, ro, evs⟩)) ∧ Below w.heap.size w w' := by
  by_cases h0 : ki < 1 ∨ 5 < ki
  · have hf := clkOk_out (n := n1) (c := ⟨ki, ph, ra, dr, wh, wa, he, ro, evs⟩) h0
    rw [← hf]
    have e1 : (ki == 1) = false := by rw [beq_eq_false_iff_ne]; omega
    have e2 : (ki == 2) = false := by rw [beq_eq_false_iff_ne]; omega
    have e3 : (ki == 3) = false := by rw [beq_eq_false_iff_ne]; omega
    have e4 : (ki == 4) = false := by rw [beq_eq_false_iff_ne]; omega
    have e5 : (ki == 5) = false := by rw [beq_eq_false_iff_ne]; omega
    clear hf h0
    go_enter Tryd.func62, Tryd.ntmps62
    go_wp2
    go_ret
    exact ⟨rfl, by go_grown⟩
  · have h3 : ki = 1 ∨ ki = 2 ∨ ki = 3 ∨ ki = 4 ∨ ki = 5 := by omega
    have h4 : inR ki 1 5 = true := (inR_iff _ _ _).2 (by omega)
    have h5 := wrong_in (n := n1) (c := ⟨ki, ph, ra, dr, wh, wa, he, ro, evs⟩) h4
    rw [h5]
    clear h0 h4 h5
    dsimp only
    rcases h3 with rfl | rfl | rfl | rfl | rfl
    all_goals
      go_enter Tryd.func62, Tryd.ntmps62
      go_wp2_with (go_at_call 85; refine (rwithin_any _ _ _ (by decide)).mono ?_; rintro e w' ⟨rfl, rfl⟩)
      all_goals go_ret
      all_goals exact ⟨ret_bool (by simp [rateOf, driftOf, whiteOf, walkOf, *] <;> first | omega | (rw [Bool.eq_iff_iff]; simp; omega)), by go_grown⟩
end Go.Proofs.YtehjkmnamgafaaaDoor
