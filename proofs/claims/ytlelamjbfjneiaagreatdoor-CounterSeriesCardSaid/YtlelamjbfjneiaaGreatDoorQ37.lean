/- Contracts of the reference's small functions: they answer the same plain functions. · Contract of the reference: a clock that is not allowed. -/
import Derived.Test.YtlelamjbfjneiaaGreatDoorQ03
import Derived.Test.YtlelamjbfjneiaaGreatDoorQ02
namespace Go.Proofs.YtlelamjbfjneiaaGreatDoor.Wd
section
open Go Go.RowKit
theorem rwithin_any (n most : Int) (w : World) (h : 0 ≤ most ∧ most ≤ 1000000000000000) :
    Calls Tryz.prog 133 #[.int .i64 n, .int .i64 most] w fun e w' => e = .returned (.bool (inR n (-most) most)) ∧ w = w' := by
  by_cases hc : -most ≤ n
  · go_enter Tryz.func133, Tryz.ntmps133
    go_wp2
    go_ret
    exact ⟨ret_bool (inR_ge hc), rfl⟩
  · go_enter Tryz.func133, Tryz.ntmps133
    go_wp2
    go_ret
    exact ⟨ret_bool (inR_lt (by omega)), rfl⟩
theorem rdown_eq (a b : Int) (_ha : a < 0) (hb : 1 ≤ b) : -((-a + b - 1) / b) = a / b := by
  have h1 := Int.mul_ediv_add_emod (-a + b - 1) b
  have h2 := Int.emod_nonneg (-a + b - 1) (show b ≠ 0 by omega)
  have h3 := Int.emod_lt_of_pos (-a + b - 1) (show 0 < b by omega)
  symm
  refine (Int.ediv_eq_iff_of_pos (by omega)).2 ?_
  have e : -((-a + b - 1) / b) * b = -(b * ((-a + b - 1) / b)) := by rw [Int.neg_mul, Int.mul_comm]
  rw [e]
  omega
theorem rdown_any (a b : Int) (w : World) (ha : -8000000000000000000 ≤ a ∧ a ≤ 8000000000000000000) (hb : 1 ≤ b ∧ b ≤ 1000000000) :
    Calls Tryz.prog 103 #[.int .i64 a, .int .i64 b] w fun e w' => e = .returned (.int .i64 (a / b)) ∧ w = w' := by
  by_cases hc : 0 ≤ a
  · go_enter Tryz.func103, Tryz.ntmps103
    go_wp2
    go_ret
    exact ⟨rfl, rfl⟩
  · have e := rdown_eq a b (by omega) hb.1
    have g1 : 0 ≤ (-a + b - 1) / b := Int.ediv_nonneg (by omega) (by omega)
    have g2 : (-a + b - 1) / b ≤ 9000000000000000000 := by
      refine Int.ediv_le_of_le_mul (by omega) ?_
      have : (9000000000000000000 : Int) * 1 ≤ 9000000000000000000 * b := Int.mul_le_mul_of_nonneg_left hb.1 (by omega)
      omega
    have E := Lib.hid e
    clear e
    go_enter Tryz.func103, Tryz.ntmps103
    go_wp2
    go_ret
    exact ⟨ret_i64 E.out, rfl⟩
theorem fold_emod (s pe : Int) : s - s / pe * pe = s % pe := by
  have := Int.mul_ediv_add_emod s pe
  rw [Int.mul_comm (s / pe) pe]; omega
theorem rwarm_spell (sw q : Int) : sw * q * 2 = 2 * sw * q := by
  rw [Int.mul_comm (sw * q) 2, Int.mul_assoc]
theorem warmth_any (c : Cham) (s : Int) (w : World) (h1 : chamOk c = true) (h4 : 0 ≤ s) (h5 : s ≤ 1000000) :
    Calls Tryz.prog 104 #[.agg #[.int .i64 c.base, .int .i64 c.swing, .int .i64 c.period], .int .i64 s] w fun e w' => e = .returned (.int .i64 (tempS c s)) ∧ Below w.heap.size w w' := by
  obtain ⟨ba, sw, pe⟩ := c
  simp only [chamOk, Bool.and_eq_true] at h1
  obtain ⟨⟨h1, h2⟩, h3⟩ := h1
  have g1 := inR_true h1; have g2 := inR_true h2; have g3 := inR_true h3
  clear h1 h2 h3
  have g4 : 0 ≤ s % pe := Int.emod_nonneg s (by omega)
  have g5 : s % pe < pe := Int.emod_lt_of_pos s (by omega)
  have hfold := fold_emod s pe
  have g6 : 0 ≤ s / pe * pe ∧ s / pe * pe ≤ 1000000 := by
    have := Int.emod_nonneg s (show pe ≠ 0 by omega)
    have h0 : 0 ≤ s / pe := Int.ediv_nonneg h4 (by omega)
    have h00 := Int.mul_nonneg h0 (show 0 ≤ pe by omega)
    omega
  have g7 : 0 ≤ s / pe ∧ s / pe ≤ 1000000 := ⟨Int.ediv_nonneg h4 (by omega), by have := Int.ediv_le_self pe h4; omega⟩
  show Calls _ _ #[.agg #[.int .i64 ba, .int .i64 sw, .int .i64 pe], .int .i64 s] w _
  by_cases h : pe < s % pe + s % pe
  · have b := temp_bd sw pe (pe - s % pe) (by omega) (by omega) (by omega) (by omega) (by omega) (by omega)
    rw [← rwarm_spell] at b
    obtain ⟨b1, b2, b3, b4⟩ := b
    have b5 : 0 ≤ sw * (pe - s % pe) ∧ sw * (pe - s % pe) ≤ 100000000000 := by omega
    have hfin : tempS ⟨ba, sw, pe⟩ s = ba + sw * (pe - s % pe) * 2 / pe := by simp only [tempS, foldAt, rwarm_spell]; rw [if_pos (by omega)]
    have Hfin := Lib.hid hfin
    clear hfin
    have HF := Lib.hid hfold
    clear hfold
    go_enter Tryz.func104, Tryz.ntmps104
    go_wp2
    go_quiet (fail)
    rw [HF.out]
    go_wp2
    go_quiet (fail)
    go_wp2
    go_ret
    exact ⟨ret_i64 Hfin.out.symm, below_drewN (below_drewN ((Below.refl _ _).alloc (Nat.le_refl _) _) _) _⟩
  · have b := temp_bd sw pe (s % pe) (by omega) (by omega) (by omega) (by omega) (by omega) (by omega)
    rw [← rwarm_spell] at b
    obtain ⟨b1, b2, b3, b4⟩ := b
    have b5 : 0 ≤ sw * (s % pe) ∧ sw * (s % pe) ≤ 100000000000 := by omega
    have hfin : tempS ⟨ba, sw, pe⟩ s = ba + sw * (s % pe) * 2 / pe := by simp only [tempS, foldAt, rwarm_spell]; rw [if_neg (by omega)]
    have Hfin := Lib.hid hfin
    clear hfin
    have HF := Lib.hid hfold
    clear hfold
    go_enter Tryz.func104, Tryz.ntmps104
    go_wp2
    go_quiet (fail)
    rw [HF.out]
    go_wp2
    go_quiet (fail)
    go_wp2
    go_ret
    exact ⟨ret_i64 Hfin.out.symm, below_drewN (below_drewN ((Below.refl _ _).alloc (Nat.le_refl _) _) _) _⟩
theorem rdraw_any (sd ki cl ix mo : Int) (w : World) (b1 : ki ≤ 9223372036854775807) (b2 : cl ≤ 9223372036854775807) (b3 : ix ≤ 9223372036854775807) :
    Calls Tryz.prog 60 #[.int .u64 sd, .int .i64 ki, .int .i64 cl, .int .i64 ix, .int .i64 mo] w fun e w' => e = .returned (.tuple #[.int .i64 (drawE sd ki cl ix mo).v, .int .i64 (drawE sd ki cl ix mo).e]) ∧ w = w' := by
  by_cases h : drawOk ki cl ix mo = true
  · have hf := show drawE sd ki cl ix mo = _ from if_pos h
    have HF := Lib.hid hf
    clear hf
    simp only [drawOk, Bool.and_eq_true, decide_eq_true_eq] at h
    obtain ⟨h1, h2, h3, h4⟩ := h
    have h5 := inR_true h4
    clear h4
    have g1 := mixS_lo (mixS (mixS sd ki) cl) ix
    have g2 := mixS_hi (mixS (mixS sd ki) cl) ix
    have g3 : 0 ≤ mixS (mixS (mixS sd ki) cl) ix % (1 + 2 * mo) := Int.emod_nonneg _ (by omega)
    have g4 : mixS (mixS (mixS sd ki) cl) ix % (1 + 2 * mo) ≤ 2 * mo := by have := Int.emod_lt_of_pos (mixS (mixS (mixS sd ki) cl) ix) (show 0 < 1 + 2 * mo by omega); omega
    go_enter Tryz.func60, Tryz.ntmps60
    go_wp2_with (go_at_call 96; refine (rmix_any _ _ _).mono ?_; rintro e w' ⟨rfl, rfl⟩)
    go_ret2
    exact ⟨by rw [HF.out, Int.add_comm 1 (2 * mo)]; rfl, rfl⟩
  · have hf := show drawE sd ki cl ix mo = _ from if_neg h
    have HF := Lib.hid hf
    clear hf
    have hc : mo < 0 ∨ 1000000000000000 < mo ∨ ki < 0 ∨ cl < 0 ∨ ix < 0 := by
      by_cases c1 : 0 ≤ ki
      · by_cases c2 : 0 ≤ cl
        · by_cases c3 : 0 ≤ ix
          · have h4 : inR mo 0 1000000000000000 = false := by
              cases h4 : inR mo 0 1000000000000000
              · rfl
              · simp [drawOk, c1, c2, c3, h4] at h
            rcases inR_false h4 with h | h
            · exact .inl h
            · exact .inr (.inl h)
          · exact .inr (.inr (.inr (.inr (by omega))))
        · exact .inr (.inr (.inr (.inl (by omega))))
      · exact .inr (.inr (.inl (by omega)))
    clear h
    by_cases d1 : mo < 0
    · clear hc
      go_enter Tryz.func60, Tryz.ntmps60
      go_wp2
      go_ret2
      exact ⟨by rw [HF.out]; rfl, rfl⟩
    · by_cases d2 : 1000000000000000 < mo
      · clear hc
        go_enter Tryz.func60, Tryz.ntmps60
        go_wp2
        go_ret2
        exact ⟨by rw [HF.out]; rfl, rfl⟩
      · by_cases d3 : ki < 0
        · clear hc
          go_enter Tryz.func60, Tryz.ntmps60
          go_wp2
          go_ret2
          exact ⟨by rw [HF.out]; rfl, rfl⟩
        · by_cases d4 : cl < 0
          · clear hc
            go_enter Tryz.func60, Tryz.ntmps60
            go_wp2
            go_ret2
            exact ⟨by rw [HF.out]; rfl, rfl⟩
          · have d5 : ix < 0 := by omega
            clear hc
            go_enter Tryz.func60, Tryz.ntmps60
            go_wp2
            go_ret2
            exact ⟨by rw [HF.out]; rfl, rfl⟩
end
section
open Go Go.RowKit
/-- the reference's word on a clock: is it not allowed? -/
theorem wrong_in {n : Int} {c : Clk} (h : inR c.kind 1 5 = true) : clkOk n c = (inR c.rate (-rateOf c.kind) (rateOf c.kind) && (inR c.drift (-driftOf c.kind) (driftOf c.kind) && (decide (0 ≤ c.white) && (decide (c.white ≤ whiteOf c.kind) && (decide (0 ≤ c.walk) && (decide (c.walk ≤ walkOf c.kind) &&
    (inR c.phase (-100000000000000) 100000000000000 && (inR c.heat (-1000000000) 1000000000 && (decide (0 ≤ c.room) && decide (c.room < n)))))))))) := by
  rw [clkOk_in h]
  have e : inR c.room 0 (n - 1) = (decide (0 ≤ c.room) && decide (c.room < n)) := by
    unfold inR; congr 1; rw [decide_eq_decide]; omega
  rw [e, show inR c.white 0 (whiteOf c.kind) = (decide (0 ≤ c.white) && decide (c.white ≤ whiteOf c.kind)) from rfl, show inR c.walk 0 (walkOf c.kind) = (decide (0 ≤ c.walk) && decide (c.walk ≤ walkOf c.kind)) from rfl]
  generalize inR c.phase (-100000000000000) 100000000000000 = a
  generalize inR c.rate (-rateOf c.kind) (rateOf c.kind) = b
  generalize inR c.drift (-driftOf c.kind) (driftOf c.kind) = d
  generalize decide (0 ≤ c.white) = e
  generalize decide (0 ≤ c.walk) = f
  generalize decide (c.white ≤ whiteOf c.kind) = g
  generalize decide (c.walk ≤ walkOf c.kind) = i
  cases a <;> cases b <;> cases d <;> cases e <;> cases f <;> cases g <;> cases i <;> rfl
set_option maxHeartbeats 4000000 in
theorem wrongClock_any (ki ph ra dr wh wa he ro : Int) (sd : Int) (n1 k1 n2 k2 : Nat) (p1 p2 : Option Addr) (evs : List Evt) (p : Option Addr) (l c : Nat) (w : World) (_hn : (n1 : Int) ≤ 9223372036854775807) :
    Calls Tryz.prog 114 #[.agg #[.int .u64 sd, .slice p1 n1 k1, .slice p2 n2 k2], .agg #[.int .i64 ki, .int .i64 ph, .int .i64 ra, .int .i64 dr, .int .i64 wh, .int .i64 wa, .int .i64 he, .int .i64 ro, .slice p l c]] w fun e w' =>
      e = .returned (.bool (!clkOk n1 ⟨ki, ph, ra, dr, wh, wa, he, ro, evs⟩)) ∧ Below w.heap.size w w' := by
  by_cases h0 : ki < 1 ∨ 5 < ki
  · have hf := clkOk_out (n := n1) (c := ⟨ki, ph, ra, dr, wh, wa, he, ro, evs⟩) h0
    rw [← hf]
    have e1 : (ki == 1) = false := by rw [beq_eq_false_iff_ne]; omega
    have e2 : (ki == 2) = false := by rw [beq_eq_false_iff_ne]; omega
    have e3 : (ki == 3) = false := by rw [beq_eq_false_iff_ne]; omega
    have e4 : (ki == 4) = false := by rw [beq_eq_false_iff_ne]; omega
    have e5 : (ki == 5) = false := by rw [beq_eq_false_iff_ne]; omega
    clear hf h0
    go_enter Tryz.func114, Tryz.ntmps114
    go_wp2
    go_ret
    exact ⟨rfl, by go_grown⟩
  · have h3 : ki = 1 ∨ ki = 2 ∨ ki = 3 ∨ ki = 4 ∨ ki = 5 := by omega
    have h4 : inR ki 1 5 = true := (inR_iff _ _ _).2 (by omega)
    have h5 := wrong_in (n := n1) (c := ⟨ki, ph, ra, dr, wh, wa, he, ro, evs⟩) h4
    rw [h5]
    clear h0 h4 h5
    dsimp only
    rcases h3 with rfl | rfl | rfl | rfl | rfl
    all_goals
      go_enter Tryz.func114, Tryz.ntmps114
      go_wp2_with (go_at_call 133; refine (rwithin_any _ _ _ (by decide)).mono ?_; rintro e w' ⟨rfl, rfl⟩)
      all_goals go_ret
      all_goals exact ⟨ret_bool (by simp [rateOf, driftOf, whiteOf, walkOf, *] <;> first | omega | (rw [Bool.eq_iff_iff]; simp; omega)), by go_grown⟩
end
end Go.Proofs.YtlelamjbfjneiaaGreatDoor.Wd
