/- Plain facts: all choices, and what a sorted list tells. -/
import Derived.Test.YthkndjkgokojmaaStX
namespace Go.Proofs.Ythkndjkgokojmaa
open Go Go.RowKit
/-! all choices -/
def bitS (s i : Nat) : Nat := s / 2 ^ i % 2
def popS (s : Nat) : Nat → Nat
  | 0 => 0
  | i + 1 => popS s i + bitS s i
def indI (lo hi x : Nat) : Int := if lo ≤ x ∧ x ≤ hi then 1 else 0
def inS (n k s : Nat) : Int := if k ≤ popS s n ∧ k ≤ n - popS s n then 1 else 0
/-- of the numbers below s, those with at least k bits, and at least k that are not, of n -/
def insideS (n k s : Nat) : Int := sumF (fun t => inS n k t) s
def cntIn (lo hi : Nat) : Nat → Nat → Int
  | 0, c => indI lo hi c
  | n + 1, c => cntIn lo hi n c + cntIn lo hi n (c + 1)
theorem sumF_split (f : Nat → Int) (a : Nat) : ∀ b, sumF f (a + b) = sumF f a + sumF (fun i => f (a + i)) b
  | 0 => by simp [sumF]
  | b + 1 => by
    show sumF f (a + b) + f (a + b) = sumF f a + (sumF (fun i => f (a + i)) b + f (a + b))
    rw [sumF_split f a b]; omega
theorem bitS_high (n s i : Nat) (h : i < n) : bitS (2 ^ n + s) i = bitS s i := by
  unfold bitS
  obtain ⟨d, rfl⟩ : ∃ d, n = i + 1 + d := ⟨n - (i + 1), by omega⟩
  rw [show 2 ^ (i + 1 + d) = 2 ^ i * (2 * 2 ^ d) by rw [Nat.pow_add, Nat.pow_succ, Nat.mul_assoc], Nat.add_comm, Nat.add_mul_div_left _ _ (Nat.two_pow_pos i)]
  omega
theorem bitS_zero (n s : Nat) (h : s < 2 ^ n) : bitS s n = 0 := by unfold bitS; rw [Nat.div_eq_of_lt h]
theorem bitS_one (n s : Nat) (h : s < 2 ^ n) : bitS (2 ^ n + s) n = 1 := by
  unfold bitS
  rw [Nat.add_comm, show s + 2 ^ n = s + 2 ^ n * 1 by rw [Nat.mul_one], Nat.add_mul_div_left _ _ (Nat.two_pow_pos n), Nat.div_eq_of_lt h]
theorem popS_high (n s : Nat) : ∀ i, i ≤ n → popS (2 ^ n + s) i = popS s i
  | 0, _ => rfl
  | i + 1, h => by simp only [popS]; rw [popS_high n s i (by omega), bitS_high n s i (by omega)]
theorem popS_le (s : Nat) : ∀ n, popS s n ≤ n
  | 0 => Nat.le_refl _
  | n + 1 => by
    have := popS_le s n
    have : bitS s n < 2 := Nat.mod_lt _ (by decide)
    simp only [popS]; omega
theorem cntIn_eq (lo hi : Nat) : ∀ n c, sumF (fun s => indI lo hi (c + popS s n)) (2 ^ n) = cntIn lo hi n c
  | 0, c => by simp [sumF, popS, cntIn]
  | n + 1, c => by
    rw [show 2 ^ (n + 1) = 2 ^ n + 2 ^ n by rw [Nat.pow_succ]; omega, sumF_split]
    simp only [cntIn]
    rw [← cntIn_eq lo hi n c, ← cntIn_eq lo hi n (c + 1)]
    congr 1
    · exact sumF_congr _ _ _ fun s hs => by simp only [popS]; rw [bitS_zero n s hs]; rfl
    · exact sumF_congr _ _ _ fun s hs => by simp only [popS]; rw [bitS_one n s hs, popS_high n s n (Nat.le_refl _), show c + (popS s n + 1) = c + 1 + popS s n by omega]
theorem inside_all (n k : Nat) (hk : k ≤ n) : insideS n k (2 ^ n) = cntIn k (n - k) n 0 := by
  rw [← cntIn_eq]
  exact sumF_congr _ _ _ fun s _ => by
    unfold inS indI
    have := popS_le s n
    by_cases h : k ≤ popS s n ∧ k ≤ n - popS s n
    · rw [if_pos h, if_pos (by omega)]
    · rw [if_neg h, if_neg (by omega)]
def covB : Bool := (List.range 13).all fun n => (List.range 7).all fun k => decide (n < 2 * k) || decide (k = 0) || decide (cntIn k (n - k) n 0 = chN n k)
theorem covB_yes : covB = true := by decide +kernel
theorem inside_chN (n k : Nat) (hn : n ≤ 12) (hk : 1 ≤ k) (h2 : 2 * k ≤ n) : insideS n k (2 ^ n) = chN n k := by
  rw [inside_all n k (by omega)]
  have h := List.all_eq_true.1 covB_yes n (by simp; omega)
  have h := List.all_eq_true.1 h k (by simp; omega)
  simp only [Bool.or_eq_true, decide_eq_true_eq] at h
  omega
def covC : Bool := (List.range 13).all fun n => (List.range 7).all fun k => decide (n < 2 * k) || decide (k ≤ 1) || decide (lowN (chN n k) (2 ^ n) * lowD (chN n (k - 1)) (2 ^ n) ≤ lowN (chN n (k - 1)) (2 ^ n) * lowD (chN n k) (2 ^ n))
theorem covC_yes : covC = true := by decide +kernel
/-- the cover of more is no less likely -/
theorem wider (n k : Nat) (hn : n ≤ 12) (hk : 2 ≤ k) (h2 : 2 * k ≤ n) : lowN (chN n k) (2 ^ n) * lowD (chN n (k - 1)) (2 ^ n) ≤ lowN (chN n (k - 1)) (2 ^ n) * lowD (chN n k) (2 ^ n) := by
  have h := List.all_eq_true.1 covC_yes n (by simp; omega)
  have h := List.all_eq_true.1 h k (by simp; omega)
  simp only [Bool.or_eq_true, decide_eq_true_eq] at h
  omega
/-- a fraction with the denominator 100, brought to lowest terms as the law does it -/
def wantF (N : Nat) : Nat → Nat
  | 0 => 1
  | 1 => 1
  | d + 2 => if N % (d + 2) = 0 ∧ 100 % (d + 2) = 0 then d + 2 else wantF N (d + 1)
def wantB : Bool := (List.range 101).all fun N => partB ((N / wantF N 100 : Nat) : Int) ((100 / wantF N 100 : Nat) : Int)
theorem wantB_yes : wantB = true := by decide +kernel
theorem want_part (N : Nat) (h : N ≤ 100) : partB ((N / wantF N 100 : Nat) : Int) ((100 / wantF N 100 : Nat) : Int) = true :=
  List.all_eq_true.1 wantB_yes N (by simp; omega)
/-! what a sorted list's places say of the list -/
theorem sortL_pair (l : List Int) : (sortL l).Pairwise (· ≤ ·) := by
  have h := List.pairwise_mergeSort (le := fun x y : Int => decide (x ≤ y)) (fun a b c h1 h2 => by simp at *; omega) (fun a b => by simp only [Bool.or_eq_true, decide_eq_true_eq]; omega) l
  exact h.imp fun h => by simpa using h
theorem sortL_le (l : List Int) (i j : Nat) (hij : i ≤ j) (hj : j < l.length) : atL (sortL l) i ≤ atL (sortL l) j := by
  have hl := List.length_mergeSort (le := fun x y : Int => decide (x ≤ y)) l
  have hl' : (sortL l).length = l.length := hl
  have e1 := atL_get (sortL l) i (by rw [hl']; omega)
  have e2 := atL_get (sortL l) j (by rw [hl']; omega)
  rw [← e1, ← e2]
  rcases Nat.lt_or_eq_of_le hij with h | rfl
  · exact List.pairwise_iff_getElem.1 (sortL_pair l) i j (by rw [hl']; omega) (by rw [hl']; omega) h
  · exact Int.le_refl _
theorem sortL_in (l : List Int) (i : Nat) (hi : i < l.length) : ∃ j, j < l.length ∧ atL l j = atL (sortL l) i := by
  have hl' : (sortL l).length = l.length := List.length_mergeSort l
  have hm : (sortL l)[i]'(by rw [hl']; exact hi) ∈ l := (List.mergeSort_perm l _).mem_iff.1 (List.getElem_mem (l := sortL l) (by rw [hl']; exact hi))
  obtain ⟨j, hj, e⟩ := List.getElem_of_mem hm
  exact ⟨j, hj, by rw [← atL_get l j hj, ← atL_get (sortL l) i (by rw [hl']; exact hi), e]⟩
/-- how many of the first numbers are at most x / at least x -/
def lowC (l : List Int) (x : Int) (k : Nat) : Int := sumF (fun i => if atL l i ≤ x then 1 else 0) k
def highC (l : List Int) (x : Int) (k : Nat) : Int := sumF (fun i => if x ≤ atL l i then 1 else 0) k
theorem sumF_one {f : Nat → Int} (h : ∀ i, 0 ≤ f i) {j : Nat} (h1 : f j = 1) : ∀ k, j < k → 1 ≤ sumF f k
  | 0, hj => by omega
  | k + 1, hj => by
    show 1 ≤ sumF f k + f k
    by_cases e : j = k
    · subst e; have := sumF_nonneg f j (fun i _ => h i); omega
    · have := sumF_one h h1 k (by omega); have := h k; omega
theorem lowC_one (l : List Int) (x : Int) (j : Nat) (hj : j < l.length) (h : atL l j = x) : 1 ≤ lowC l x l.length :=
  sumF_one (f := fun i => if atL l i ≤ x then 1 else 0) (fun i => by split <;> decide) (j := j) (if_pos (by omega)) _ hj
theorem highC_one (l : List Int) (x : Int) (j : Nat) (hj : j < l.length) (h : atL l j = x) : 1 ≤ highC l x l.length :=
  sumF_one (f := fun i => if x ≤ atL l i then 1 else 0) (fun i => by split <;> decide) (j := j) (if_pos (by omega)) _ hj
end Go.Proofs.Ythkndjkgokojmaa
