/- Plain functions, continued: the phase of a clock and its parts. -/
import Derived.Test.YtehjkmnamgafaaaDoorPlainB
namespace Go.Proofs.YtehjkmnamgafaaaDoor
open Go Go.RowKit
def agedS (c : Clk) (s : Int) : Int := c.drift * (s * (s - 1) / 2) / 86400
def gainedS (c : Clk) (s : Int) : Int := (c.rate * s + (pastS s c.evs).kicked + agedS c s) / 1000
def warmedS (c : Clk) (r : Cham) (s : Int) : Int := c.heat * (tempS r s - tempS r 0)
def fixedS (c : Clk) (r : Cham) (s : Int) : Int := c.phase + gainedS c s + warmedS c r s + (pastS s c.evs).jumped
def strayedS (c : Clk) (a b : Int) : Int := c.walk * (b / 100 - a / 100)
/-- the sum of the draws with the indices i + 1 to i + n -/
def sumDraws (src walk : Int) (i : Int) : Nat → Int
  | 0 => 0
  | n + 1 => sumDraws src walk i n + drawS src (i + n + 1) walk
def walkedS (seed k walk : Int) (a b : Int) : Int := sumDraws (sourceS seed 1 k) walk (a / 100) (b / 100 - a / 100).toNat
def phaseS (seed k : Int) (c : Clk) (r : Cham) (s : Int) : Int := fixedS c r s + walkedS seed k c.walk 0 s
def whiteS (seed k : Int) (c : Clk) (s : Int) : Int := drawS (sourceS seed 2 k) s c.white
def shownS (seed k : Int) (c : Clk) (r : Cham) (s : Int) : Int := phaseS seed k c r s + whiteS seed k c s
/-- a clock that is allowed: the bounds of its numbers -/
structure ClkIn (c : Clk) : Prop where
  phase : -100000000000000 ≤ c.phase ∧ c.phase ≤ 100000000000000
  rate : -10000000000 ≤ c.rate ∧ c.rate ≤ 10000000000
  drift : -10000000 ≤ c.drift ∧ c.drift ≤ 10000000
  white : 0 ≤ c.white ∧ c.white ≤ 1000000000000
  walk : 0 ≤ c.walk ∧ c.walk ≤ 1000000000
  heat : -1000000000 ≤ c.heat ∧ c.heat ≤ 1000000000
  evs : evsOk c.evs = true
theorem rateOf_bd (k : Int) : 0 ≤ rateOf k ∧ rateOf k ≤ 10000000000 := by unfold rateOf; repeat (split; omega); omega
theorem driftOf_bd (k : Int) : 0 ≤ driftOf k ∧ driftOf k ≤ 10000000 := by unfold driftOf; repeat (split; omega); omega
theorem whiteOf_bd (k : Int) : 0 ≤ whiteOf k ∧ whiteOf k ≤ 1000000000000 := by unfold whiteOf; repeat (split; omega); omega
theorem walkOf_bd (k : Int) : 0 ≤ walkOf k ∧ walkOf k ≤ 1000000000 := by unfold walkOf; repeat (split; omega); omega
theorem clkIn_of {n : Int} {c : Clk} (h : clkOk n c = true) (he : evsOk c.evs = true) : ClkIn c ∧ 0 ≤ c.room ∧ c.room < n := by
  simp only [clkOk, Bool.and_eq_true, inR_iff] at h
  obtain ⟨h0, h1, h2, h3, h4, h5, h6, h7⟩ := h
  have a := rateOf_bd c.kind
  have b := driftOf_bd c.kind
  have d := whiteOf_bd c.kind
  have e := walkOf_bd c.kind
  exact ⟨⟨h1, by omega, by omega, by omega, by omega, h6, he⟩, by omega, by omega⟩
theorem half_bd (s : Int) (h0 : 0 ≤ s) (h1 : s ≤ 1000000) : (0 ≤ s * (s - 1) ∧ s * (s - 1) ≤ 1000000000000) ∧ (0 ≤ s * (s - 1) / 2 ∧ s * (s - 1) / 2 ≤ 500000000000) := by
  by_cases h : s = 0
  · subst h; decide
  · have a : 0 ≤ s * (s - 1) := Int.mul_nonneg h0 (by omega)
    have b : s * (s - 1) ≤ 1000000 * 1000000 := Int.mul_le_mul h1 (by omega) (by omega) (by omega)
    omega
theorem foldAt_bd (p pe : Int) (_h : 2 ≤ pe) (h0 : 0 ≤ p) (h1 : p < pe) : 0 ≤ foldAt p pe ∧ 2 * foldAt p pe ≤ pe := by
  unfold foldAt; split <;> omega
theorem chamOk_parts {c : Cham} (h : chamOk c = true) : (0 ≤ c.base ∧ c.base ≤ 1000000) ∧ (0 ≤ c.swing ∧ c.swing ≤ 100000) ∧ (2 ≤ c.period ∧ c.period ≤ 1000000) := by
  simp only [chamOk, Bool.and_eq_true, inR_iff] at h
  exact ⟨h.1.1, h.1.2, h.2⟩
theorem tempS_bd {c : Cham} (h : chamOk c = true) (s : Int) : c.base ≤ tempS c s ∧ tempS c s ≤ c.base + 100000 := by
  obtain ⟨h1, h2, h3⟩ := chamOk_parts h
  have a := Int.emod_nonneg s (show c.period ≠ 0 by omega)
  have b := Int.emod_lt_of_pos s (show 0 < c.period by omega)
  have f := foldAt_bd _ _ h3.1 a b
  have t := temp_bd c.swing c.period (foldAt (s % c.period) c.period) h2.1 h2.2 h3.1 h3.2 f.1 f.2
  unfold tempS
  omega
theorem warm_bd {c : Clk} {r : Cham} (hc : ClkIn c) (h : chamOk r = true) (s : Int) : (-100000 ≤ tempS r s - tempS r 0 ∧ tempS r s - tempS r 0 ≤ 100000) ∧ (-100000000000000 ≤ warmedS c r s ∧ warmedS c r s ≤ 100000000000000) := by
  have a := tempS_bd h s
  have b := tempS_bd h 0
  have d : -100000 ≤ tempS r s - tempS r 0 ∧ tempS r s - tempS r 0 ≤ 100000 := by omega
  refine ⟨d, ?_⟩
  unfold warmedS
  have hh := hc.heat
  rw [Int.mul_comm]
  by_cases h0 : 0 ≤ c.heat
  · have := mul_bd (tempS r s - tempS r 0) c.heat 100000 1000000000 d ⟨h0, hh.2⟩; omega
  · have := mul_bd (tempS r s - tempS r 0) (-c.heat) 100000 1000000000 d ⟨by omega, by omega⟩
    rw [Int.mul_neg] at this
    omega
theorem aged_bd {c : Clk} (hc : ClkIn c) (s : Int) (h0 : 0 ≤ s) (h1 : s ≤ 1000000) : (-5000000000000000000 ≤ c.drift * (s * (s - 1) / 2) ∧ c.drift * (s * (s - 1) / 2) ≤ 5000000000000000000) ∧ (-60000000000000 ≤ agedS c s ∧ agedS c s ≤ 60000000000000) := by
  have a := (half_bd s h0 h1).2
  have m := mul_bd c.drift (s * (s - 1) / 2) 10000000 500000000000 hc.drift a
  refine ⟨by omega, ?_⟩
  unfold agedS
  omega
theorem past_bd {c : Clk} (hc : ClkIn c) (s : Int) (h0 : 0 ≤ s) (h1 : s ≤ 1000000) : (-80000000000000 ≤ (pastS s c.evs).jumped ∧ (pastS s c.evs).jumped ≤ 80000000000000) ∧ (-80000000000000000 ≤ (pastS s c.evs).kicked ∧ (pastS s c.evs).kicked ≤ 80000000000000000) := by
  obtain ⟨hl, hok⟩ := evsOk_parts hc.evs
  have h := past_bound s c.evs hok h0 h1 c.evs.length (Nat.le_refl _)
  rw [List.take_length] at h
  obtain ⟨a, b⟩ := h
  omega
theorem rate_bd {c : Clk} (hc : ClkIn c) (s : Int) (h0 : 0 ≤ s) (h1 : s ≤ 1000000) : -10000000000000000 ≤ c.rate * s ∧ c.rate * s ≤ 10000000000000000 := by
  have m := mul_bd c.rate s 10000000000 1000000 hc.rate ⟨h0, h1⟩
  omega
end Go.Proofs.YtehjkmnamgafaaaDoor
