/- Plain facts: phases on a line, and what Rest says. -/
import Derived.Test.YtemblamamgfodaaGreatDoorStD
namespace Go.Proofs.YtemblamamgfodaaGreatDoor
open Go Go.RowKit
theorem prod_even (k : Nat) : ∃ z : Int, (k : Int) * ((k : Int) - 1) = 2 * z := by
  induction k with
  | zero => exact ⟨0, by decide⟩
  | succ k ih =>
    obtain ⟨z, hz⟩ := ih
    refine ⟨z + k, ?_⟩
    rw [show ((k + 1 : Nat) : Int) = (k : Int) + 1 by omega]
    generalize (k : Int) = n at *
    grind
theorem prod_six (k : Nat) : ∃ z : Int, ((k : Int) - 1) * k * (2 * k - 1) = 6 * z := by
  induction k with
  | zero => exact ⟨0, by decide⟩
  | succ k ih =>
    obtain ⟨z, hz⟩ := ih
    refine ⟨z + k * k, ?_⟩
    rw [show ((k + 1 : Nat) : Int) = (k : Int) + 1 by omega]
    generalize (k : Int) = n at *
    grind
theorem places2 (k : Nat) : 2 * placesS k = (k : Int) * ((k : Int) - 1) := by
  obtain ⟨z, hz⟩ := prod_even k
  unfold placesS; omega
theorem squares6 (k : Nat) : 6 * squaresS k = ((k : Int) - 1) * k * (2 * k - 1) := by
  obtain ⟨z, hz⟩ := prod_six k
  unfold squaresS; omega
theorem straight_sum (a b : Int) : ∀ k : Nat, sumF (fun i => a + b * i) k = a * k + b * placesS k
  | 0 => by simp [sumF, placesS]
  | k + 1 => by
    have ih := straight_sum a b k
    have p := places2 k
    have q := places2 (k + 1)
    have hc : ((k + 1 : Nat) : Int) = (k : Int) + 1 := by omega
    rw [hc] at q ⊢
    simp only [sumF]
    rw [ih]
    generalize placesS k = A at *
    generalize placesS (k + 1) = B at *
    generalize (k : Int) = n at *
    have hB : B = A + n := by grind
    subst hB
    grind
theorem straight_mom (a b : Int) : ∀ k : Nat, sumF (fun i => (i : Int) * (a + b * i)) k = a * placesS k + b * squaresS k
  | 0 => by simp [sumF, placesS, squaresS]
  | k + 1 => by
    have ih := straight_mom a b k
    have p := places2 k
    have q := places2 (k + 1)
    have p6 := squares6 k
    have q6 := squares6 (k + 1)
    have hc : ((k + 1 : Nat) : Int) = (k : Int) + 1 := by omega
    rw [hc] at q q6 ⊢
    simp only [sumF]
    rw [ih]
    generalize placesS k = A at *
    generalize placesS (k + 1) = B at *
    generalize squaresS k = C at *
    generalize squaresS (k + 1) = D at *
    generalize (k : Int) = n at *
    have hB : B = A + n := by grind
    have hD : D = C + n * n := by grind
    subst hB hD
    grind
theorem low_mul (a d : Int) (hd : 1 ≤ d) : lowN (d * a) d = a ∧ lowD (d * a) d = 1 := by
  have hg : gcdS (d * a) d = d := by
    unfold gcdS Int.gcd
    rw [Int.natAbs_mul, Nat.gcd_comm, Nat.gcd_eq_left (Nat.dvd_mul_right _ _)]
    omega
  unfold lowN lowD
  rw [hg]
  exact ⟨Int.mul_ediv_cancel_left a (by omega), Int.ediv_self (by omega)⟩
theorem low_zero (d : Int) (hd : 1 ≤ d) : lowN 0 d = 0 ∧ lowD 0 d = 1 := by
  have := low_mul 0 d hd
  rwa [Int.mul_zero] at this
/-- phases on a line -/
structure OnLine (a b : Int) (l : List Int) : Prop where
  at_ : ∀ i, i < l.length → atL l i = a + b * i
theorem on_total {a b : Int} {l : List Int} (h : OnLine a b l) : totalL l = a * l.length + b * placesS l.length := by
  unfold totalL
  rw [← straight_sum]; exact sumF_congr _ _ _ fun i hi => h.at_ i hi
theorem on_mom {a b : Int} {l : List Int} (h : OnLine a b l) : momL l = a * placesS l.length + b * squaresS l.length := by
  unfold momL
  rw [← straight_mom]; exact sumF_congr _ _ _ fun i hi => by rw [h.at_ i hi]
theorem on_off {a b : Int} {l : List Int} (h : OnLine a b l) : offN l = detS l.length * a := by
  unfold offN detS
  rw [on_total h, on_mom h]
  generalize placesS l.length = A
  generalize squaresS l.length = C
  grind
theorem on_slo {a b : Int} {l : List Int} (h : OnLine a b l) : sloN l = detS l.length * b := by
  unfold sloN detS
  rw [on_total h, on_mom h]
  generalize placesS l.length = A
  generalize squaresS l.length = C
  grind
theorem leaves_congr {x y : Nat → Int} {a b : Int} {k : Nat} (h : ∀ i, i < k → x i = y i) : leaves x a b k = leaves y a b k := sumF_congr _ _ _ fun i hi => by rw [h i hi]
theorem sumF_zero (f : Nat → Int) : ∀ k, (∀ i, i < k → f i = 0) → sumF f k = 0
  | 0, _ => rfl
  | k + 1, h => by simp only [sumF]; rw [sumF_zero f k (fun i hi => h i (by omega)), h k (by omega)]; rfl
theorem on_leaves {a b : Int} {l : List Int} (h : OnLine a b l) : leaves (atL l) a b l.length = 0 :=
  sumF_zero _ _ fun i hi => by rw [h.at_ i hi]; simp
theorem on_left {a b : Int} {l : List Int} (h : OnLine a b l) (h2 : 2 ≤ l.length) : left (atL l) l.length = 0 := by
  have h1 := left_le (atL l) a b l.length h2
  have h0 := left_nonneg (atL l) l.length h2
  rw [on_leaves h, Int.mul_zero] at h1
  omega
/-- what Fit and Rest say of phases on a line -/
theorem on_fit {a b tau : Int} {l : List Int} (h : OnLine a b l) (h2 : 2 ≤ l.length) (he : fitErr tau l = 0) : fitE tau l = ⟨a, 1, b, 1, 0⟩ := by
  have hd := (lineNums l.length h2 (fitErr_zero he).1).det.1
  unfold fitE
  rw [if_pos he, on_off h, on_slo h, (low_mul a _ hd).1, (low_mul a _ hd).2, (low_mul b _ hd).1, (low_mul b _ hd).2]
theorem restD_pos (k : Nat) (h2 : 2 ≤ k) : 1 ≤ restD k := by
  have := Int.mul_pos (show (0 : Int) < k by omega) (kk_pos k h2)
  unfold restD; omega
theorem on_rest {a b tau : Int} {l : List Int} (h : OnLine a b l) (h2 : 2 ≤ l.length) (he : restErr tau l = 0) : restE tau l = ⟨0, 1, 0⟩ := by
  unfold restE
  rw [if_pos he]
  unfold restV
  rw [on_left h h2, (low_zero _ (restD_pos _ h2)).1, (low_zero _ (restD_pos _ h2)).2]
/-- what Rest leaves is not more than what any line leaves: in the law's words -/
theorem rest_law {tau a b : Int} {l : List Int} (h2 : 2 ≤ l.length) (he : restErr tau l = 0) (n : Int) (hn : leaves (atL l) a b l.length = n) :
    1 ≤ (restE tau l).d ∧ 0 ≤ (restE tau l).n ∧ (restE tau l).n ≤ (restE tau l).d * n := by
  unfold restE
  rw [if_pos he]
  have hD := restD_pos l.length h2
  have hg := gcdS_pos (restV l) (restD l.length) hD
  have e1 := gcdS_n (restV l) (restD l.length)
  have e2 := gcdS_d (restV l) (restD l.length)
  have hle := left_le (atL l) a b l.length h2
  have h0 := left_nonneg (atL l) l.length h2
  rw [hn] at hle
  have hle' : restV l ≤ restD l.length * n := hle
  have h0' : 0 ≤ restV l := h0
  refine ⟨lowD_pos _ _ hD, Int.ediv_nonneg h0' (by omega), ?_⟩
  refine Int.le_of_mul_le_mul_left (a := gcdS (restV l) (restD l.length)) ?_ (by omega)
  rw [← Int.mul_assoc, e1, e2]
  exact hle'
end Go.Proofs.YtemblamamgfodaaGreatDoor
