/- Contracts of the checks of package world. -/
import Derived.Test.YtehjkmnamgafaaaDoorLeafA
namespace Go.Proofs.YtehjkmnamgafaaaDoor
open Go Go.RowKit

/-- what the listed tables hold -/
def LimitCell (w : World) (i : Nat) (n : Int) : Prop := w.cell? ⟨0, i, none⟩ = some (.int .i64 n)
def SizeCell (w : World) (i : Nat) (n : Int) : Prop := w.cell? ⟨1, i, none⟩ = some (.int .i64 n)
def Tabs (w : World) : Prop := (SizeCell w 1 10000000000000 ∧ SizeCell w 2 10000000000 ∧ SizeCell w 3 0 ∧ SizeCell w 4 0) ∧
  (LimitCell w 4 10000000 ∧ LimitCell w 5 10000 ∧ LimitCell w 6 10000000 ∧ LimitCell w 7 100000) ∧
  (LimitCell w 8 1000000 ∧ LimitCell w 9 100000 ∧ LimitCell w 10 100000 ∧ LimitCell w 11 10000) ∧
  (LimitCell w 12 100000 ∧ LimitCell w 13 0 ∧ LimitCell w 14 1000000 ∧ LimitCell w 15 1000) ∧
  (LimitCell w 16 100000 ∧ LimitCell w 17 0 ∧ LimitCell w 18 100000 ∧ LimitCell w 19 100) ∧
  (LimitCell w 20 10000000000 ∧ LimitCell w 21 10000000 ∧ LimitCell w 22 1000000000000 ∧ LimitCell w 23 1000000000)
theorem cell_lt {w : World} {b o : Nat} {v : Value} (h : w.cell? ⟨b, o, none⟩ = some v) : b < w.heap.size := by
  by_cases hb : b < w.heap.size
  · exact hb
  · simp [World.cell?, hb] at h
theorem cell_below {w w' : World} {b o : Nat} {v : Value} (hb : Below w.heap.size w w') (h : w.cell? ⟨b, o, none⟩ = some v) : w'.cell? ⟨b, o, none⟩ = some v := by
  rw [← h]; exact hb.cell (p := ⟨b, o, none⟩) (cell_lt h)
theorem Tabs.below {w w' : World} (h : Tabs w) (hb : Below w.heap.size w w') : Tabs w' := by
  unfold Tabs LimitCell SizeCell at h ⊢
  obtain ⟨⟨a1, a2, a3, a4⟩, ⟨b1, b2, b3, b4⟩, ⟨c1, c2, c3, c4⟩, ⟨d1, d2, d3, d4⟩, ⟨e1, e2, e3, e4⟩, f1, f2, f3, f4⟩ := h
  exact ⟨⟨cell_below hb a1, cell_below hb a2, cell_below hb a3, cell_below hb a4⟩, ⟨cell_below hb b1, cell_below hb b2, cell_below hb b3, cell_below hb b4⟩, ⟨cell_below hb c1, cell_below hb c2, cell_below hb c3, cell_below hb c4⟩,
    ⟨cell_below hb d1, cell_below hb d2, cell_below hb d3, cell_below hb d4⟩, ⟨cell_below hb e1, cell_below hb e2, cell_below hb e3, cell_below hb e4⟩, cell_below hb f1, cell_below hb f2, cell_below hb f3, cell_below hb f4⟩
theorem chamAllowed_any (ba sw pe : Int) (w : World) :
    Calls Tryd.prog 55 #[.agg #[.int .i64 ba, .int .i64 sw, .int .i64 pe]] w fun e w' => e = .returned (.bool (chamOk ⟨ba, sw, pe⟩)) ∧ Below w.heap.size w w' := by
  go_enter Tryd.func55, Tryd.ntmps55
  go_wp2_with (go_at_call 52; refine (within_any _ _ _ _).mono ?_; rintro e w' ⟨rfl, rfl⟩)
  all_goals go_ret
  all_goals exact ⟨ret_bool (by simp [chamOk, *]), by go_grown⟩
theorem evOk_out {wh se sz : Int} (h : wh < 1 ∨ 4 < wh) : false = evOk ⟨wh, se, sz⟩ := by
  have : inR wh 1 4 = false := by simp [inR]; omega
  simp [evOk, this]
theorem evAllowed_any (wh se sz : Int) (w : World) (ht : Tabs w) :
    Calls Tryd.prog 84 #[.agg #[.int .i64 wh, .int .i64 se, .int .i64 sz]] w fun e w' => e = .returned (.bool (evOk ⟨wh, se, sz⟩)) ∧ Below w.heap.size w w' := by
  unfold Tabs LimitCell SizeCell at ht
  obtain ⟨⟨a1, a2, a3, a4⟩, -⟩ := ht
  have hz := cell_lt a1
  by_cases h1 : wh < 1
  · go_enter Tryd.func84, Tryd.ntmps84
    go_wp2
    go_ret
    exact ⟨ret_bool (evOk_out (.inl h1)), by go_grown⟩
  · by_cases h2 : 4 < wh
    · go_enter Tryd.func84, Tryd.ntmps84
      go_wp2
      go_ret
      exact ⟨ret_bool (evOk_out (.inr h2)), by go_grown⟩
    · have h3 : wh = 1 ∨ wh = 2 ∨ wh = 3 ∨ wh = 4 := by omega
      clear h1 h2
      rcases h3 with rfl | rfl | rfl | rfl
      all_goals
        go_enter Tryd.func84, Tryd.ntmps84
        go_wp2_with (go_at_call 52; refine (within_any _ _ _ _).mono ?_; rintro e w' ⟨rfl, rfl⟩)
        all_goals go_ret
        all_goals exact ⟨ret_bool (by simp [evOk, sizeOf, show ∀ k : Int, inR k 1 4 = (decide (1 ≤ k) && decide (k ≤ 4)) from fun _ => rfl, *]), by go_grown⟩
theorem clkOk_out {n : Int} {c : Clk} (h : c.kind < 1 ∨ 5 < c.kind) : false = clkOk n c := by
  have : inR c.kind 1 5 = false := by simp [inR]; omega
  simp [clkOk, this]
theorem clkOk_in {n : Int} {c : Clk} (h : inR c.kind 1 5 = true) : clkOk n c = (inR c.phase (-100000000000000) 100000000000000 && (inR c.rate (-rateOf c.kind) (rateOf c.kind) && (inR c.drift (-driftOf c.kind) (driftOf c.kind) &&
  (inR c.white 0 (whiteOf c.kind) && (inR c.walk 0 (walkOf c.kind) && (inR c.heat (-1000000000) 1000000000 && inR c.room 0 (n - 1))))))) := by
  simp [clkOk, h]
set_option maxHeartbeats 2000000 in
theorem clkAllowed_any (ki ph ra dr wh wa he ro n : Int) (evs : List Evt) (p : Option Addr) (l c : Nat) (w : World) (ht : Tabs w) (hn : 0 ≤ n) (hn' : n ≤ 9223372036854775807) :
    Calls Tryd.prog 59 #[.agg #[.int .i64 ki, .int .i64 ph, .int .i64 ra, .int .i64 dr, .int .i64 wh, .int .i64 wa, .int .i64 he, .int .i64 ro, .slice p l c], .int .i64 n] w fun e w' => e = .returned (.bool (clkOk n ⟨ki, ph, ra, dr, wh, wa, he, ro, evs⟩)) ∧ Below w.heap.size w w' := by
  unfold Tabs LimitCell SizeCell at ht
  obtain ⟨-, ⟨b1, b2, b3, b4⟩, ⟨c1, c2, c3, c4⟩, ⟨d1, d2, d3, d4⟩, ⟨e1, e2, e3, e4⟩, f1, f2, f3, f4⟩ := ht
  have hz := cell_lt b1
  by_cases h1 : ki < 1
  · go_enter Tryd.func59, Tryd.ntmps59
    go_wp2
    go_ret
    exact ⟨ret_bool (clkOk_out (.inl h1)), by go_grown⟩
  · by_cases h2 : 5 < ki
    · go_enter Tryd.func59, Tryd.ntmps59
      go_wp2
      go_ret
      exact ⟨ret_bool (clkOk_out (.inr h2)), by go_grown⟩
    · have h3 : ki = 1 ∨ ki = 2 ∨ ki = 3 ∨ ki = 4 ∨ ki = 5 := by omega
      have h4 : inR ki 1 5 = true := (inR_iff _ _ _).2 (by omega)
      have h5 := clkOk_in (n := n) (c := ⟨ki, ph, ra, dr, wh, wa, he, ro, evs⟩) h4
      rw [h5]
      clear h1 h2 h4 h5
      rcases h3 with rfl | rfl | rfl | rfl | rfl
      all_goals
        go_enter Tryd.func59, Tryd.ntmps59
        go_wp2_with (first | (go_at_call 52; refine (within_any _ _ _ _).mono ?_; rintro e w' ⟨rfl, rfl⟩) | (go_at_call 46; refine (isIndex_any _ _ _ hn hn').mono ?_; rintro e w' ⟨rfl, rfl⟩))
        all_goals go_ret
        all_goals exact ⟨ret_bool (by simp [rateOf, driftOf, whiteOf, walkOf, *]), by go_grown⟩
end Go.Proofs.YtehjkmnamgafaaaDoor
