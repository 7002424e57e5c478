/- Contracts of the small functions of package world: numbers in, numbers out. · Contracts of the checks of package world. -/
import Derived.Test.YtlelamjbfjneiaaGreatDoorProg
import Derived.Test.YtlelamjbfjneiaaGreatDoorQ02
import Derived.Handy
import Derived.Lib.Hide
import Derived.WalkSmall
import Derived.Deep.QuietTactic
import Derived.BigQuiet
import Derived.Outline
namespace Go.Proofs.YtlelamjbfjneiaaGreatDoor.Wd
section
open Go Go.RowKit

theorem ret_u64 {a b : Int} (h : a = b) : Ending.returned (.int .u64 a) = .returned (.int .u64 b) := by rw [h]
theorem ret_i64 {a b : Int} (h : a = b) : Ending.returned (.int .i64 a) = .returned (.int .i64 b) := by rw [h]
theorem ret_bool {a b : Bool} (h : a = b) : Ending.returned (.bool a) = .returned (.bool b) := by rw [h]

theorem mix_any (x y : Int) (w : World) :
    Calls Tryz.prog 105 #[.int .u64 x, .int .u64 y] w fun e w' => e = .returned (.int .u64 (mixS x y)) ∧ w = w' := by
  go_enter Tryz.func105, Tryz.ntmps105
  go_wp2
  go_ret
  exact ⟨rfl, rfl⟩
theorem rmix_any (x y : Int) (w : World) :
    Calls Tryz.prog 96 #[.int .u64 x, .int .u64 y] w fun e w' => e = .returned (.int .u64 (mixS x y)) ∧ w = w' := by
  have h := mixA_comm x y
  have H := Lib.hid h; clear h
  go_enter Tryz.func96, Tryz.ntmps96
  go_wp2
  go_ret
  refine ⟨ret_u64 ?_, rfl⟩
  simp only [mixS, mixC, mixB, ← H.out]
theorem source_any (s k c : Int) (w : World) (hk : 0 ≤ k) (hk' : k ≤ 9223372036854775807) (hc : 0 ≤ c) (hc' : c ≤ 9223372036854775807) :
    Calls Tryz.prog 72 #[.int .u64 s, .int .i64 k, .int .i64 c] w fun e w' => e = .returned (.int .u64 (sourceS s k c)) ∧ w = w' := by
  go_enter Tryz.func72, Tryz.ntmps72
  go_wp2_with (go_at_call 105; refine (mix_any _ _ _).mono ?_; rintro e w' ⟨rfl, rfl⟩)
  go_ret
  exact ⟨rfl, rfl⟩
theorem draw_any (s i m : Int) (w : World) (hi : 0 ≤ i) (hi' : i ≤ 9223372036854775807) (hm : 0 ≤ m) (hm' : m ≤ 1000000000000000) :
    Calls Tryz.prog 71 #[.int .u64 s, .int .i64 i, .int .i64 m] w fun e w' => e = .returned (.int .i64 (drawS s i m)) ∧ w = w' := by
  have g1 := mixS_lo s i
  have g2 := mixS_hi s i
  have g3 : 0 ≤ mixS s i % (2 * m + 1) := Int.emod_nonneg (mixS s i) (by omega)
  have g4 : mixS s i % (2 * m + 1) ≤ 2 * m := by have := Int.emod_lt_of_pos (mixS s i) (show 0 < 2 * m + 1 by omega); omega
  go_enter Tryz.func71, Tryz.ntmps71
  go_wp2_with (go_at_call 105; refine (mix_any _ _ _).mono ?_; rintro e w' ⟨rfl, rfl⟩)
  go_ret
  exact ⟨rfl, rfl⟩
theorem within_any (n lo hi : Int) (w : World) :
    Calls Tryz.prog 30 #[.int .i64 n, .int .i64 lo, .int .i64 hi] w fun e w' => e = .returned (.bool (inR n lo hi)) ∧ w = w' := by
  by_cases h : lo ≤ n
  · go_enter Tryz.func30, Tryz.ntmps30
    go_wp2
    go_ret
    exact ⟨ret_bool (inR_ge (by assumption)), rfl⟩
  · go_enter Tryz.func30, Tryz.ntmps30
    go_wp2
    go_ret
    exact ⟨ret_bool (inR_lt (by assumption)), rfl⟩
theorem isIndex_any (n k : Int) (w : World) (h0 : 0 ≤ k) (h1 : k ≤ 9223372036854775807) :
    Calls Tryz.prog 81 #[.int .i64 n, .int .i64 k] w fun e w' => e = .returned (.bool (inR n 0 (k - 1))) ∧ w = w' := by
  go_enter Tryz.func81, Tryz.ntmps81
  go_wp2_with (go_at_call 30; refine (within_any _ _ _ _).mono ?_; rintro e w' ⟨rfl, rfl⟩)
  go_ret
  exact ⟨rfl, rfl⟩
theorem isSecond_any (s : Int) (w : World) :
    Calls Tryz.prog 110 #[.int .i64 s] w fun e w' => e = .returned (.bool (inR s 0 1000000)) ∧ w = w' := by
  go_enter Tryz.func110, Tryz.ntmps110
  go_wp2_with (go_at_call 30; refine (within_any _ _ _ _).mono ?_; rintro e w' ⟨rfl, rfl⟩)
  go_ret
  exact ⟨rfl, rfl⟩
theorem floor_any (a b : Int) (w : World) (h1 : -9223372036854775807 ≤ a) (h2 : a ≤ 9223372036854775807) (hb : 1 ≤ b) (hb' : b ≤ 9223372036854775807) :
    Calls Tryz.prog 74 #[.int .i64 a, .int .i64 b] w fun e w' => e = .returned (.int .i64 (a / b)) ∧ w = w' := by
  have hd := tdiv_bd a b hb h1 h2
  by_cases h : a.tmod b < 0
  · go_enter Tryz.func74, Tryz.ntmps74
    go_wp2
    go_ret
    exact ⟨ret_i64 (floor_neg a b hb h), rfl⟩
  · go_enter Tryz.func74, Tryz.ntmps74
    go_wp2
    go_ret
    exact ⟨ret_i64 (floor_pos a b hb (by assumption)), rfl⟩
def Nice (w w' : World) : Prop := Below w.heap.size w w'
theorem around_any (a b : Int) (w : World) (h : -4000000000000000000 ≤ a ∧ a ≤ 4000000000000000000) (hb : 0 ≤ b ∧ b ≤ 4000000000000000000) :
    Calls Tryz.prog 97 #[.int .i64 a, .int .i64 b] w fun e w' => e = .returned (.agg #[.int .i64 (a - b), .int .i64 (a + b)]) ∧ Below w.heap.size w w' := by
  go_enter Tryz.func97, Tryz.ntmps97
  go_wp2
  go_returns
  exact ⟨rfl, by go_grown⟩
theorem temp_any (c : Cham) (s : Int) (w : World) (h1 : chamOk c = true) (h4 : 0 ≤ s) (h5 : s ≤ 1000000) :
    Calls Tryz.prog 116 #[.agg #[.int .i64 c.base, .int .i64 c.swing, .int .i64 c.period], .int .i64 s] w fun e w' => e = .returned (.int .i64 (tempS c s)) ∧ Below w.heap.size w w' := by
  obtain ⟨ba, sw, pe⟩ := c
  simp only [chamOk, Bool.and_eq_true] at h1
  obtain ⟨⟨h1, h2⟩, h3⟩ := h1
  have g1 := inR_true h1; have g2 := inR_true h2; have g3 := inR_true h3
  clear h1 h2 h3
  have g4 : 0 ≤ s % pe := Int.emod_nonneg s (by omega)
  have g5 : s % pe < pe := Int.emod_lt_of_pos s (by omega)
  show Calls _ _ #[.agg #[.int .i64 ba, .int .i64 sw, .int .i64 pe], .int .i64 s] w _
  by_cases h : pe < 2 * (s % pe)
  · have b := temp_bd sw pe (pe - s % pe) (by omega) (by omega) (by omega) (by omega) (by omega) (by omega)
    obtain ⟨b1, b2, b3, b4⟩ := b
    have hfin : tempS ⟨ba, sw, pe⟩ s = ba + 2 * sw * (pe - s % pe) / pe := by simp only [tempS, foldAt, if_pos h]
    have Hfin := Lib.hid hfin; clear hfin
    go_enter Tryz.func116, Tryz.ntmps116
    go_wp2
    go_quiet (fail)
    go_wp2
    go_ret
    exact ⟨ret_i64 Hfin.out.symm, by refine below_drewN ?_ _; go_grown⟩
  · have b := temp_bd sw pe (s % pe) (by omega) (by omega) (by omega) (by omega) (by omega) (by omega)
    obtain ⟨b1, b2, b3, b4⟩ := b
    have hfin : tempS ⟨ba, sw, pe⟩ s = ba + 2 * sw * (s % pe) / pe := by simp only [tempS, foldAt, if_neg h]
    have Hfin := Lib.hid hfin; clear hfin
    go_enter Tryz.func116, Tryz.ntmps116
    go_wp2
    go_quiet (fail)
    go_wp2
    go_ret
    exact ⟨ret_i64 Hfin.out.symm, by refine below_drewN ?_ _; go_grown⟩
end
section
open Go Go.RowKit

/-- what the listed tables hold -/
def LimitCell (w : World) (i : Nat) (n : Int) : Prop := w.cell? ⟨0, i, none⟩ = some (.int .i64 n)
def SizeCell (w : World) (i : Nat) (n : Int) : Prop := w.cell? ⟨1, i, none⟩ = some (.int .i64 n)
def Tabs (w : World) : Prop := (SizeCell w 1 10000000000000 ∧ SizeCell w 2 10000000000 ∧ SizeCell w 3 0 ∧ SizeCell w 4 0) ∧
  (LimitCell w 4 10000000 ∧ LimitCell w 5 10000 ∧ LimitCell w 6 10000000 ∧ LimitCell w 7 100000) ∧
  (LimitCell w 8 1000000 ∧ LimitCell w 9 100000 ∧ LimitCell w 10 100000 ∧ LimitCell w 11 10000) ∧
  (LimitCell w 12 100000 ∧ LimitCell w 13 0 ∧ LimitCell w 14 1000000 ∧ LimitCell w 15 1000) ∧
  (LimitCell w 16 100000 ∧ LimitCell w 17 0 ∧ LimitCell w 18 100000 ∧ LimitCell w 19 100) ∧
  (LimitCell w 20 10000000000 ∧ LimitCell w 21 10000000 ∧ LimitCell w 22 1000000000000 ∧ LimitCell w 23 1000000000)
theorem cell_lt {w : World} {b o : Nat} {v : Value} (h : w.cell? ⟨b, o, none⟩ = some v) : b < w.heap.size := by
  by_cases hb : b < w.heap.size
  · exact hb
  · simp [World.cell?, hb] at h
theorem cell_below {w w' : World} {b o : Nat} {v : Value} (hb : Below w.heap.size w w') (h : w.cell? ⟨b, o, none⟩ = some v) : w'.cell? ⟨b, o, none⟩ = some v := by
  rw [← h]; exact hb.cell (p := ⟨b, o, none⟩) (cell_lt h)
theorem Tabs.below {w w' : World} (h : Tabs w) (hb : Below w.heap.size w w') : Tabs w' := by
  unfold Tabs LimitCell SizeCell at h ⊢
  obtain ⟨⟨a1, a2, a3, a4⟩, ⟨b1, b2, b3, b4⟩, ⟨c1, c2, c3, c4⟩, ⟨d1, d2, d3, d4⟩, ⟨e1, e2, e3, e4⟩, f1, f2, f3, f4⟩ := h
  exact ⟨⟨cell_below hb a1, cell_below hb a2, cell_below hb a3, cell_below hb a4⟩, ⟨cell_below hb b1, cell_below hb b2, cell_below hb b3, cell_below hb b4⟩, ⟨cell_below hb c1, cell_below hb c2, cell_below hb c3, cell_below hb c4⟩,
    ⟨cell_below hb d1, cell_below hb d2, cell_below hb d3, cell_below hb d4⟩, ⟨cell_below hb e1, cell_below hb e2, cell_below hb e3, cell_below hb e4⟩, cell_below hb f1, cell_below hb f2, cell_below hb f3, cell_below hb f4⟩
theorem chamAllowed_any (ba sw pe : Int) (w : World) :
    Calls Tryz.prog 121 #[.agg #[.int .i64 ba, .int .i64 sw, .int .i64 pe]] w fun e w' => e = .returned (.bool (chamOk ⟨ba, sw, pe⟩)) ∧ Below w.heap.size w w' := by
  go_enter Tryz.func121, Tryz.ntmps121
  go_wp2_with (go_at_call 30; refine (within_any _ _ _ _).mono ?_; rintro e w' ⟨rfl, rfl⟩)
  all_goals go_ret
  all_goals exact ⟨ret_bool (by simp [chamOk, *]), by go_grown⟩
theorem evOk_out {wh se sz : Int} (h : wh < 1 ∨ 4 < wh) : false = evOk ⟨wh, se, sz⟩ := by
  have : inR wh 1 4 = false := by simp [inR]; omega
  simp [evOk, this]
theorem evAllowed_any (wh se sz : Int) (w : World) (ht : Tabs w) :
    Calls Tryz.prog 136 #[.agg #[.int .i64 wh, .int .i64 se, .int .i64 sz]] w fun e w' => e = .returned (.bool (evOk ⟨wh, se, sz⟩)) ∧ Below w.heap.size w w' := by
  unfold Tabs LimitCell SizeCell at ht
  obtain ⟨⟨a1, a2, a3, a4⟩, -⟩ := ht
  have hz := cell_lt a1
  by_cases h1 : wh < 1
  · go_enter Tryz.func136, Tryz.ntmps136
    go_wp2
    go_ret
    exact ⟨ret_bool (evOk_out (.inl h1)), by go_grown⟩
  · by_cases h2 : 4 < wh
    · go_enter Tryz.func136, Tryz.ntmps136
      go_wp2
      go_ret
      exact ⟨ret_bool (evOk_out (.inr h2)), by go_grown⟩
    · have h3 : wh = 1 ∨ wh = 2 ∨ wh = 3 ∨ wh = 4 := by omega
      clear h1 h2
      rcases h3 with rfl | rfl | rfl | rfl
      all_goals
        go_enter Tryz.func136, Tryz.ntmps136
        go_wp2_with (go_at_call 30; refine (within_any _ _ _ _).mono ?_; rintro e w' ⟨rfl, rfl⟩)
        all_goals go_ret
        all_goals exact ⟨ret_bool (by simp [evOk, sizeOf, show ∀ k : Int, inR k 1 4 = (decide (1 ≤ k) && decide (k ≤ 4)) from fun _ => rfl, *]), by go_grown⟩
theorem clkOk_out {n : Int} {c : Clk} (h : c.kind < 1 ∨ 5 < c.kind) : false = clkOk n c := by
  have : inR c.kind 1 5 = false := by simp [inR]; omega
  simp [clkOk, this]
theorem clkOk_in {n : Int} {c : Clk} (h : inR c.kind 1 5 = true) : clkOk n c = (inR c.phase (-100000000000000) 100000000000000 && (inR c.rate (-rateOf c.kind) (rateOf c.kind) && (inR c.drift (-driftOf c.kind) (driftOf c.kind) &&
  (inR c.white 0 (whiteOf c.kind) && (inR c.walk 0 (walkOf c.kind) && (inR c.heat (-1000000000) 1000000000 && inR c.room 0 (n - 1))))))) := by
  simp [clkOk, h]
set_option maxHeartbeats 2000000 in
theorem clkAllowed_any (ki ph ra dr wh wa he ro n : Int) (evs : List Evt) (p : Option Addr) (l c : Nat) (w : World) (ht : Tabs w) (hn : 0 ≤ n) (hn' : n ≤ 9223372036854775807) :
    Calls Tryz.prog 125 #[.agg #[.int .i64 ki, .int .i64 ph, .int .i64 ra, .int .i64 dr, .int .i64 wh, .int .i64 wa, .int .i64 he, .int .i64 ro, .slice p l c], .int .i64 n] w fun e w' => e = .returned (.bool (clkOk n ⟨ki, ph, ra, dr, wh, wa, he, ro, evs⟩)) ∧ Below w.heap.size w w' := by
  unfold Tabs LimitCell SizeCell at ht
  obtain ⟨-, ⟨b1, b2, b3, b4⟩, ⟨c1, c2, c3, c4⟩, ⟨d1, d2, d3, d4⟩, ⟨e1, e2, e3, e4⟩, f1, f2, f3, f4⟩ := ht
  have hz := cell_lt b1
  by_cases h1 : ki < 1
  · go_enter Tryz.func125, Tryz.ntmps125
    go_wp2
    go_ret
    exact ⟨ret_bool (clkOk_out (.inl h1)), by go_grown⟩
  · by_cases h2 : 5 < ki
    · go_enter Tryz.func125, Tryz.ntmps125
      go_wp2
      go_ret
      exact ⟨ret_bool (clkOk_out (.inr h2)), by go_grown⟩
    · have h3 : ki = 1 ∨ ki = 2 ∨ ki = 3 ∨ ki = 4 ∨ ki = 5 := by omega
      have h4 : inR ki 1 5 = true := (inR_iff _ _ _).2 (by omega)
      have h5 := clkOk_in (n := n) (c := ⟨ki, ph, ra, dr, wh, wa, he, ro, evs⟩) h4
      rw [h5]
      clear h1 h2 h4 h5
      rcases h3 with rfl | rfl | rfl | rfl | rfl
      all_goals
        go_enter Tryz.func125, Tryz.ntmps125
        go_wp2_with (first | (go_at_call 30; refine (within_any _ _ _ _).mono ?_; rintro e w' ⟨rfl, rfl⟩) | (go_at_call 81; refine (isIndex_any _ _ _ hn hn').mono ?_; rintro e w' ⟨rfl, rfl⟩))
        all_goals go_ret
        all_goals exact ⟨ret_bool (by simp [rateOf, driftOf, whiteOf, walkOf, *]), by go_grown⟩
end
end Go.Proofs.YtlelamjbfjneiaaGreatDoor.Wd
