/- Plain functions on numbers that say what layer 3 computes; nothing here speaks of the program. -/
import Derived.WalkKit
namespace Go.Proofs.YtemblamamgfodaaGreatDoor
open Go Go.RowKit
/-- f 0 + .. + f (k - 1) -/
def sumF (f : Nat → Int) : Nat → Int
  | 0 => 0
  | k + 1 => sumF f k + f k
theorem sumF_bd (f : Nat → Int) (B : Int) : ∀ k, (∀ i, i < k → -B ≤ f i ∧ f i ≤ B) → -(B * k) ≤ sumF f k ∧ sumF f k ≤ B * k
  | 0, _ => by simp [sumF]
  | k + 1, h => by
    have h1 := sumF_bd f B k (fun i hi => h i (by omega))
    have h2 := h k (by omega)
    have e : B * ((k + 1 : Nat) : Int) = B * k + B := by rw [Int.natCast_add, Int.mul_add]; simp
    rw [e]
    simp only [sumF]
    omega
theorem sumF_nonneg (f : Nat → Int) : ∀ k, (∀ i, i < k → 0 ≤ f i) → 0 ≤ sumF f k
  | 0, _ => by simp [sumF]
  | k + 1, h => by
    have h1 := sumF_nonneg f k (fun i hi => h i (by omega))
    have h2 := h k (by omega)
    simp only [sumF]; omega
theorem sumF_congr (f g : Nat → Int) : ∀ k, (∀ i, i < k → f i = g i) → sumF f k = sumF g k
  | 0, _ => rfl
  | k + 1, h => by simp only [sumF]; rw [sumF_congr f g k (fun i hi => h i (by omega)), h k (by omega)]
theorem sumF_add (f g : Nat → Int) : ∀ k, sumF (fun i => f i + g i) k = sumF f k + sumF g k
  | 0 => rfl
  | k + 1 => by simp only [sumF]; rw [sumF_add f g k]; omega
theorem sumF_mul (c : Int) (f : Nat → Int) : ∀ k, sumF (fun i => c * f i) k = c * sumF f k
  | 0 => by simp [sumF]
  | k + 1 => by simp only [sumF]; rw [sumF_mul c f k, Int.mul_add]
/-- the number at a place of a list -/
def atL (l : List Int) (i : Nat) : Int := l[i]?.getD 0
theorem atL_get (l : List Int) (i : Nat) (h : i < l.length) : l[i] = atL l i := by simp [atL, h]
def totalL (l : List Int) : Int := sumF (atL l) l.length
def momL (l : List Int) : Int := sumF (fun i => (i : Int) * atL l i) l.length
def sqL (l : List Int) : Int := sumF (fun i => atL l i * atL l i) l.length
/-! fractions in lowest terms -/
def gcdS (n d : Int) : Int := (Int.gcd n d : Int)
def lowN (n d : Int) : Int := n / gcdS n d
def lowD (n d : Int) : Int := d / gcdS n d
theorem gcd_step (a b : Int) : Int.gcd b (a.tmod b) = Int.gcd a b := by
  unfold Int.gcd
  rw [Int.natAbs_tmod, Nat.gcd_comm b.natAbs, ← Nat.gcd_rec b.natAbs a.natAbs, Nat.gcd_comm]
theorem gcdS_pos (n d : Int) (h : 1 ≤ d) : 1 ≤ gcdS n d := by
  unfold gcdS
  have : 0 < Int.gcd n d := Int.gcd_pos_of_ne_zero_right n (by omega)
  omega
theorem gcdS_le (n d : Int) (h : 1 ≤ d) : gcdS n d ≤ d := by
  unfold gcdS
  exact Int.le_of_dvd (by omega) (Int.gcd_dvd_right n d)
theorem gcdS_n (n d : Int) : gcdS n d * lowN n d = n := Int.mul_ediv_cancel' (Int.gcd_dvd_left n d)
theorem gcdS_d (n d : Int) : gcdS n d * lowD n d = d := Int.mul_ediv_cancel' (Int.gcd_dvd_right n d)
theorem low_tdiv (n d : Int) : n.tdiv (gcdS n d) = lowN n d := Int.tdiv_eq_ediv_of_dvd (Int.gcd_dvd_left n d)
theorem lowD_tdiv (n d : Int) : d.tdiv (gcdS n d) = lowD n d := Int.tdiv_eq_ediv_of_dvd (Int.gcd_dvd_right n d)
theorem lowD_pos (n d : Int) (h : 1 ≤ d) : 1 ≤ lowD n d := by
  have h1 := gcdS_pos n d h
  have h2 := gcdS_d n d
  by_cases h3 : 1 ≤ lowD n d
  · exact h3
  · have : gcdS n d * lowD n d ≤ gcdS n d * 0 := Int.mul_le_mul_of_nonneg_left (by omega) (by omega)
    omega
/-! a series -/
def phasesOk (l : List Int) : Bool := l.all fun x => decide (-1000000 ≤ x) && decide (x ≤ 1000000)
def checkSt (tau : Int) (l : List Int) : Int :=
  if 128 < l.length then 2 else if (1 ≤ tau ∧ tau ≤ 1000) ∧ phasesOk l = true then 0 else 6
theorem phasesOk_at {l : List Int} (h : phasesOk l = true) (i : Nat) (hi : i < l.length) : -1000000 ≤ l[i] ∧ l[i] ≤ 1000000 := by
  have := List.all_eq_true.1 h _ (List.getElem_mem hi)
  simpa using this
theorem phasesOk_no {l : List Int} (i : Nat) (hi : i < l.length) (h : ¬ (-1000000 ≤ l[i] ∧ l[i] ≤ 1000000)) : phasesOk l = false := by
  cases hp : phasesOk l
  · rfl
  · exact absurd (phasesOk_at hp i hi) h
theorem checkSt_zero {tau : Int} {l : List Int} (h : checkSt tau l = 0) : l.length ≤ 128 ∧ (1 ≤ tau ∧ tau ≤ 1000) ∧ phasesOk l = true := by
  unfold checkSt at h
  by_cases h1 : 128 < l.length
  · rw [if_pos h1] at h; omega
  · rw [if_neg h1] at h
    by_cases h2 : (1 ≤ tau ∧ tau ≤ 1000) ∧ phasesOk l = true
    · exact ⟨by omega, h2⟩
    · rw [if_neg h2] at h; omega
theorem atL_bd {l : List Int} (h : phasesOk l = true) (i : Nat) : -1000000 ≤ atL l i ∧ atL l i ≤ 1000000 := by
  by_cases hi : i < l.length
  · rw [← atL_get l i hi]; exact phasesOk_at h i hi
  · have : atL l i = 0 := by simp [atL, show l[i]? = none from List.getElem?_eq_none (by omega)]
    omega
end Go.Proofs.YtemblamamgfodaaGreatDoor
