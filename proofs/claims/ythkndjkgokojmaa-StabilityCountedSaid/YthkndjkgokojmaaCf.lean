/- Plain facts for StabilityCounted: what is unwrapped follows the rounded numbers; second differences; the variance. -/
import Derived.Test.YthkndjkgokojmaaCe
import Derived.Test.YthkndjkgokojmaaPc
namespace Go.Proofs.Ythkndjkgokojmaa.Ct
open Go Go.RowKit
theorem wrapS_eq {c : Cnt} {x y k : Int} (hx : x = y + c.r * k) (hy : -(c.r / 2) ≤ y ∧ y < c.r - c.r / 2) : wrapS c x = y := by
  unfold wrapS
  rw [hx, show y + c.r * k + c.r / 2 = (y + c.r / 2) + c.r * k by omega, Int.add_mul_emod_self_left, Int.emod_eq_of_lt (by omega) (by omega)]
  omega
theorem wrapS_turn (c : Cnt) (x : Int) : ∃ k, x = wrapS c x + c.r * k := by
  refine ⟨(x + c.r / 2) / c.r, ?_⟩
  unfold wrapS
  have := Int.emod_add_mul_ediv (x + c.r / 2) c.r
  omega
/-- what is unwrapped grows as what was wrapped does -/
theorem unw_eq {c : Cnt} (R : Nat → Int) (n : Nat) (h : ∀ i, i + 1 < n → -(c.r / 2) ≤ R (i + 1) - R i ∧ R (i + 1) - R i < c.r - c.r / 2) :
    ∀ i, i < n → unwS c (fun j => wrapS c (R j)) i = wrapS c (R 0) + (R i - R 0)
  | 0, _ => by show wrapS c (R 0) = _; omega
  | i + 1, hi => by
    have ih := unw_eq R n h i (by omega)
    obtain ⟨k0, e0⟩ := wrapS_turn c (R i)
    obtain ⟨k1, e1⟩ := wrapS_turn c (R (i + 1))
    have hw : wrapS c (wrapS c (R (i + 1)) - wrapS c (R i)) = R (i + 1) - R i :=
      wrapS_eq (k := k0 - k1) (by have : c.r * (k0 - k1) = c.r * k0 - c.r * k1 := by grind
                                  omega) (h i (by omega))
    show unwS c (fun j => wrapS c (R j)) i + wrapS c (wrapS c (R (i + 1)) - wrapS c (R i)) = _
    rw [ih, hw]; omega
/-- rounded numbers are near the true ones -/
theorem near {c : Cnt} (h : CntIn c) (hf : c.f = 1) (seed s d : Int) : -faultS c ≤ roundS c (rawS c seed s d) - d - c.o ∧ roundS c (rawS c seed s d) - d - c.o ≤ faultS c := by
  have h1 := roundS_bd h (rawS c seed s d)
  have h2 := drawS_bd (sourceS seed 3 c.i) s c.j h.j.1
  have h3 : rawS c seed s d = d + c.o + drawS (sourceS seed 3 c.i) s c.j := by unfold rawS; rw [hf]; omega
  have := h.g
  unfold faultS
  omega
/-- the true differences -/
def dS (l : List Int) : Nat → Int
  | 0 => 0
  | i + 1 => dS l i + (atL l i).tmod 2001
theorem dS_step (l : List Int) (i : Nat) : -2000 ≤ dS l (i + 1) - dS l i ∧ dS l (i + 1) - dS l i ≤ 2000 := by
  have h := tmod_bd (atL l i) 2001 (by decide)
  simp only [dS]
  omega
theorem dS_far (l : List Int) (i : Nat) : ∀ k : Nat, -(2000 * (k : Int)) ≤ dS l (i + k) - dS l i ∧ dS l (i + k) - dS l i ≤ 2000 * (k : Int)
  | 0 => by simp
  | k + 1 => by
    have h1 := dS_far l i k
    have h2 := dS_step l (i + k)
    rw [show i + (k + 1) = i + k + 1 by omega]
    omega
def trueS (l : List Int) (i : Nat) : Int := dS l (i + 1)
/-- the rounded numbers of the law -/
def rouS (c : Cnt) (seed : Int) (l : List Int) (i : Nat) : Int := roundS c (rawS c seed i (trueS l i))
def secS (u : Nat → Int) (b i : Nat) : Int := u (i + 2 * b) - 2 * u (i + b) + u i
structure Law (c : Cnt) : Prop where
  i : CntIn c
  f : c.f = 1
  j : c.j ≤ 255
  g : c.g ≤ 256
  r : 20000 ≤ c.r ∧ c.r ≤ 40000
variable {c : Cnt}
theorem Law.fault (h : Law c) : 0 ≤ faultS c ∧ faultS c ≤ 383 := by
  have := h.i.j; have := h.i.g; have := h.j; have := h.g
  unfold faultS; omega
theorem Law.close (h : Law c) (seed : Int) (l : List Int) (i : Nat) : -faultS c ≤ rouS c seed l i - trueS l i - c.o ∧ rouS c seed l i - trueS l i - c.o ≤ faultS c := near h.i h.f seed i (trueS l i)
theorem Law.steps (h : Law c) (seed : Int) (l : List Int) (i : Nat) : -(c.r / 2) ≤ rouS c seed l (i + 1) - rouS c seed l i ∧ rouS c seed l (i + 1) - rouS c seed l i < c.r - c.r / 2 := by
  have h1 := h.close seed l i
  have h2 := h.close seed l (i + 1)
  have h3 := dS_step l (i + 1)
  have h4 := h.fault
  have h5 := h.r
  unfold trueS at h1 h2
  omega
def uS (c : Cnt) (seed : Int) (l : List Int) (i : Nat) : Int := unwS c (fun j => wrapS c (rouS c seed l j)) i
theorem Law.unw (h : Law c) (seed : Int) (l : List Int) (i : Nat) : uS c seed l i = wrapS c (rouS c seed l 0) + (rouS c seed l i - rouS c seed l 0) :=
  unw_eq (rouS c seed l) (i + 1) (fun k _ => h.steps seed l k) i (Nat.lt_succ_self _)
theorem Law.u_bd (h : Law c) (seed : Int) (l : List Int) (i : Nat) (hi : i < 60) : -200000 ≤ uS c seed l i ∧ uS c seed l i ≤ 200000 := by
  rw [h.unw]
  have h1 := h.close seed l i
  have h2 := h.close seed l 0
  have h3 := dS_far l 1 i
  have h4 := h.fault
  have h5 := h.r
  have h6 := wrapS_bd h.i (rouS c seed l 0)
  unfold trueS at h1 h2
  rw [Nat.zero_add] at h2
  rw [Nat.add_comm] at h3
  omega
/-- second differences -/
theorem Law.sec (h : Law c) (seed : Int) (l : List Int) (b i : Nat) : -(4 * faultS c) ≤ secS (uS c seed l) b i - secS (trueS l) b i ∧ secS (uS c seed l) b i - secS (trueS l) b i ≤ 4 * faultS c := by
  have h1 := h.close seed l i
  have h2 := h.close seed l (i + b)
  have h3 := h.close seed l (i + 2 * b)
  unfold secS
  rw [h.unw, h.unw, h.unw]
  omega
theorem true_sec (l : List Int) (b i : Nat) (hb : b ≤ 4) : -16000 ≤ secS (trueS l) b i ∧ secS (trueS l) b i ≤ 16000 := by
  have h1 := dS_far l (i + 1) b
  have h2 := dS_far l (i + 1 + b) b
  unfold secS trueS
  rw [show i + 2 * b + 1 = i + 1 + b + b by omega, show i + b + 1 = i + 1 + b by omega]
  omega
/-- the greatest of the first second differences -/
def mostS (q : Nat → Int) : Nat → Int
  | 0 => 0
  | i + 1 => max (max (mostS q i) (q i)) (-(q i))
theorem mostS_bd (q : Nat → Int) (B : Int) (hB : 0 ≤ B) : ∀ n, (∀ i, i < n → -B ≤ q i ∧ q i ≤ B) → 0 ≤ mostS q n ∧ mostS q n ≤ B
  | 0, _ => ⟨Int.le_refl _, hB⟩
  | n + 1, h => by
    have h1 := mostS_bd q B hB n fun i hi => h i (by omega)
    have h2 := h n (by omega)
    simp only [mostS]
    omega
theorem mostS_ge (q : Nat → Int) : ∀ n i, i < n → -mostS q n ≤ q i ∧ q i ≤ mostS q n
  | 0, i, h => absurd h (Nat.not_lt_zero i)
  | n + 1, i, h => by
    simp only [mostS]
    by_cases e : i = n
    · subst e; omega
    · have := mostS_ge q n i (by omega)
      omega
theorem cross_low (x D : Int) : lowN x D * D = x * lowD x D := by
  have h1 := gcdS_n x D
  have h2 := gcdS_d x D
  calc lowN x D * D = lowN x D * (gcdS x D * lowD x D) := by rw [h2]
    _ = (gcdS x D * lowN x D) * lowD x D := by grind
    _ = x * lowD x D := by rw [h1]
theorem sum_sq (f : Nat → Int) (M : Int) : ∀ k, (∀ i, i < k → -M ≤ f i ∧ f i ≤ M) → 0 ≤ sumF (fun i => f i * f i) k ∧ sumF (fun i => f i * f i) k ≤ k * (M * M)
  | 0, _ => by simp [sumF]
  | k + 1, h => by
    have h1 := sum_sq f M k fun i hi => h i (by omega)
    have h2 := h k (by omega)
    have h3 : f k * f k ≤ M * M := by
      have a : 0 ≤ (M - f k) * (M + f k) := Int.mul_nonneg (by omega) (by omega)
      have b : (M - f k) * (M + f k) = M * M - f k * f k := by grind
      omega
    have h4 : 0 ≤ f k * f k := by
      rcases Int.le_total 0 (f k) with h | h
      · exact Int.mul_nonneg h h
      · have := Int.mul_nonneg (show 0 ≤ -f k by omega) (show 0 ≤ -f k by omega)
        have e : -f k * -f k = f k * f k := by grind
        omega
    show 0 ≤ sumF (fun i => f i * f i) k + f k * f k ∧ sumF (fun i => f i * f i) k + f k * f k ≤ _
    have h5 : ((k + 1 : Nat) : Int) * (M * M) = k * (M * M) + M * M := by rw [Int.natCast_add, Int.add_mul]; simp
    rw [h5]
    omega
/-- a variance is at most that of the greatest second difference -/
theorem var_le (f : Nat → Int) (M dv : Int) (k : Nat) (hk : 1 ≤ k) (hd : 1 ≤ dv) (h : ∀ i, i < k → -M ≤ f i ∧ f i ≤ M) :
    dv * lowN (sumF (fun i => f i * f i) k) (k * dv) ≤ M * M * lowD (sumF (fun i => f i * f i) k) (k * dv) := by
  obtain ⟨h1, h2⟩ := sum_sq f M k h
  have hkd : 1 ≤ (k : Int) * dv := by
    have : (1 : Int) * 1 ≤ (k : Int) * dv := Int.mul_le_mul (by omega) hd (by decide) (by omega)
    omega
  have hp := lowD_pos (sumF (fun i => f i * f i) k) (k * dv) hkd
  have hc := cross_low (sumF (fun i => f i * f i) k) (k * dv)
  generalize sumF (fun i => f i * f i) k = S at *
  generalize lowN S (k * dv) = N at *
  generalize lowD S (k * dv) = D at *
  have h3 : S * D ≤ k * (M * M) * D := Int.mul_le_mul_of_nonneg_right h2 (by omega)
  have h4 : (k : Int) * (dv * N) ≤ k * (M * M * D) := by
    have e1 : (k : Int) * (dv * N) = N * (k * dv) := by grind
    have e2 : (k : Int) * (M * M * D) = k * (M * M) * D := by grind
    rw [e1, e2, hc]; exact h3
  exact Int.le_of_mul_le_mul_left h4 (by omega)
end Go.Proofs.Ythkndjkgokojmaa.Ct
