/- Plain facts: what a line leaves, and that no line leaves less than the best one. -/
import Derived.Test.YtemblamamgfodaaGreatDoorStPlain
namespace Go.Proofs.YtemblamamgfodaaGreatDoor
open Go Go.RowKit
/-- the sum of the squares that a line leaves -/
def leaves (x : Nat → Int) (a b : Int) (k : Nat) : Int := sumF (fun i => (x i - (a + b * i)) * (x i - (a + b * i))) k
theorem leaves_eq (x : Nat → Int) (a b : Int) : ∀ k : Nat, 6 * leaves x a b k = 6 * sumF (fun i => x i * x i) k - 12 * a * sumF x k - 12 * b * sumF (fun i => (i : Int) * x i) k + 6 * a * a * k + 6 * a * b * ((k : Int) * (k - 1)) + b * b * (((k : Int) - 1) * k * (2 * k - 1))
  | 0 => by simp [leaves, sumF]
  | k + 1 => by
    have ih := leaves_eq x a b k
    have e : leaves x a b (k + 1) = leaves x a b k + (x k - (a + b * k)) * (x k - (a + b * k)) := rfl
    rw [e]
    simp only [sumF]
    have hc : ((k + 1 : Nat) : Int) = (k : Int) + 1 := by omega
    rw [hc]
    generalize leaves x a b k = E at *
    generalize sumF (fun i => x i * x i) k = Q at *
    generalize sumF x k = S at *
    generalize sumF (fun i => (i : Int) * x i) k = M at *
    generalize x k = y at *
    generalize (k : Int) = n at *
    grind
theorem sq_nonneg (a : Int) : 0 ≤ a * a := by
  by_cases h : 0 ≤ a
  · exact Int.mul_nonneg h h
  · have := Int.mul_nonneg (show 0 ≤ -a by omega) (show 0 ≤ -a by omega)
    rwa [Int.neg_mul_neg] at this
theorem leaves_nonneg (x : Nat → Int) (a b : Int) (k : Nat) : 0 ≤ leaves x a b k := sumF_nonneg _ _ fun _ _ => sq_nonneg _
def tiltS (n S M : Int) : Int := 2 * M - (n - 1) * S
def leftS (n Q S M : Int) : Int := (n * n - 1) * (n * Q - S * S) - 3 * tiltS n S M * tiltS n S M
theorem ident0 (n Q S M a b : Int) :
    2 * (n * (n * n - 1)) * (6 * Q - 12 * a * S - 12 * b * M + 6 * a * a * n + 6 * a * b * (n * (n - 1)) + b * b * ((n - 1) * n * (2 * n - 1))) - 12 * ((n * n - 1) * (n * Q - S * S) - 3 * (2 * M - (n - 1) * S) * (2 * M - (n - 1) * S))
     = 3 * (n * n - 1) * ((2 * S - 2 * n * a - n * (n - 1) * b) * (2 * S - 2 * n * a - n * (n - 1) * b)) + (n * (n * n - 1) * b - 6 * (2 * M - (n - 1) * S)) * (n * (n * n - 1) * b - 6 * (2 * M - (n - 1) * S)) := by
  grind
/-- what the best line leaves, times n (n^2 - 1) -/
def left (x : Nat → Int) (k : Nat) : Int := leftS k (sumF (fun i => x i * x i) k) (sumF x k) (sumF (fun i => (i : Int) * x i) k)
theorem left_eq (x : Nat → Int) (a b : Int) (k : Nat) : 12 * ((k : Int) * ((k : Int) * k - 1)) * leaves x a b k - 12 * left x k = 3 * ((k : Int) * k - 1) * ((2 * sumF x k - 2 * k * a - k * ((k : Int) - 1) * b) * (2 * sumF x k - 2 * k * a - k * ((k : Int) - 1) * b))
    + (k * ((k : Int) * k - 1) * b - 6 * tiltS k (sumF x k) (sumF (fun i => (i : Int) * x i) k)) * (k * ((k : Int) * k - 1) * b - 6 * tiltS k (sumF x k) (sumF (fun i => (i : Int) * x i) k)) := by
  have h := leaves_eq x a b k
  have i := ident0 k (sumF (fun i => x i * x i) k) (sumF x k) (sumF (fun i => (i : Int) * x i) k) a b
  unfold left leftS tiltS
  rw [← h] at i
  rw [← i]
  generalize leaves x a b k = E
  generalize sumF (fun i => x i * x i) k = Q
  generalize sumF x k = S
  generalize sumF (fun i => (i : Int) * x i) k = M
  generalize (k : Int) = n
  grind
theorem kk_pos (k : Nat) (h : 2 ≤ k) : 0 < (k : Int) * k - 1 := by
  have : (2 : Int) * 2 ≤ (k : Int) * k := Int.mul_le_mul (by omega) (by omega) (by omega) (by omega)
  omega
theorem left_le (x : Nat → Int) (a b : Int) (k : Nat) (h : 2 ≤ k) : left x k ≤ (k : Int) * ((k : Int) * k - 1) * leaves x a b k := by
  have e := left_eq x a b k
  have p1 := sq_nonneg (2 * sumF x k - 2 * k * a - k * ((k : Int) - 1) * b)
  have p2 := sq_nonneg (k * ((k : Int) * k - 1) * b - 6 * tiltS k (sumF x k) (sumF (fun i => (i : Int) * x i) k))
  have p3 : 0 ≤ 3 * ((k : Int) * k - 1) * ((2 * sumF x k - 2 * k * a - k * ((k : Int) - 1) * b) * (2 * sumF x k - 2 * k * a - k * ((k : Int) - 1) * b)) := Int.mul_nonneg (by have := kk_pos k h; omega) p1
  rw [Int.mul_assoc 12] at e
  omega
theorem left_nonneg (x : Nat → Int) (k : Nat) (h : 2 ≤ k) : 0 ≤ left x k := by
  have hk := kk_pos k h
  obtain ⟨K, hK⟩ : ∃ K, K = (k : Int) * ((k : Int) * k - 1) := ⟨_, rfl⟩
  have hKp : 0 < K := by rw [hK]; exact Int.mul_pos (by omega) hk
  obtain ⟨T, hT⟩ : ∃ T, T = tiltS k (sumF x k) (sumF (fun i => (i : Int) * x i) k) := ⟨_, rfl⟩
  have e := left_eq (fun i => K * x i) (((k : Int) * k - 1) * sumF x k - 3 * ((k : Int) - 1) * T) (6 * T) k
  have s1 : sumF (fun i => K * x i) k = K * sumF x k := sumF_mul K x k
  have s2 : sumF (fun i => (i : Int) * (K * x i)) k = K * sumF (fun i => (i : Int) * x i) k := by
    rw [← sumF_mul]; exact sumF_congr _ _ k fun i _ => by rw [← Int.mul_assoc, Int.mul_comm (i : Int) K, Int.mul_assoc]
  have s3 : sumF (fun i => K * x i * (K * x i)) k = K * K * sumF (fun i => x i * x i) k := by
    rw [← sumF_mul]; exact sumF_congr _ _ k fun i _ => by grind
  have hl : left (fun i => K * x i) k = K * K * left x k := by
    unfold left leftS tiltS
    rw [s1, s2, s3]
    grind
  rw [hl, s1, s2] at e
  have hz : leaves (fun i => K * x i) (((k : Int) * k - 1) * sumF x k - 3 * ((k : Int) - 1) * T) (6 * T) k * K = K * K * left x k := by
    generalize leaves (fun i => K * x i) (((k : Int) * k - 1) * sumF x k - 3 * ((k : Int) - 1) * T) (6 * T) k = E at *
    generalize left x k = L at *
    generalize sumF x k = S at *
    generalize sumF (fun i => (i : Int) * x i) k = M at *
    unfold tiltS at *
    generalize (k : Int) = n at *
    subst hT
    grind
  have hn := leaves_nonneg (fun i => K * x i) (((k : Int) * k - 1) * sumF x k - 3 * ((k : Int) - 1) * T) (6 * T) k
  have h1 : 0 ≤ K * K * left x k := by rw [← hz]; exact Int.mul_nonneg hn (by omega)
  have hKK : 0 < K * K := Int.mul_pos hKp hKp
  by_cases hL : 0 ≤ left x k
  · exact hL
  · have := Int.mul_pos hKK (show 0 < -left x k by omega)
    rw [Int.mul_neg] at this
    omega
end Go.Proofs.YtemblamamgfodaaGreatDoor
