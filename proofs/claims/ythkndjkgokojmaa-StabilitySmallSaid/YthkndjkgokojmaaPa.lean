/- Plain facts: the sets of an exchange, counted over a list. -/
import Derived.Test.YthkndjkgokojmaaStL
namespace Go.Proofs.Ythkndjkgokojmaa
open Go Go.RowKit
/-- how many sets of k numbers of a list have a sum of at least t -/
def cg : List Int → Nat → Int → Int
  | _, 0, t => if t ≤ 0 then 1 else 0
  | [], _ + 1, _ => 0
  | x :: l, k + 1, t => cg l k (t - x) + cg l (k + 1) t
/-- how many sets of k of n there are -/
def cs : Nat → Nat → Int
  | _, 0 => 1
  | 0, _ + 1 => 0
  | n + 1, k + 1 => cs n k + cs n (k + 1)
theorem cg_zero (l : List Int) (t : Int) : cg l 0 t = if t ≤ 0 then 1 else 0 := by cases l <;> rfl
theorem cs_zero (n : Nat) : cs n 0 = 1 := by cases n <;> rfl
theorem cg_short : ∀ (l : List Int) (k : Nat) (t : Int), l.length < k → cg l k t = 0
  | _, 0, _, h => by omega
  | [], _ + 1, _, _ => rfl
  | x :: l, k + 1, t, h => by
    simp only [List.length_cons] at h
    show cg l k (t - x) + cg l (k + 1) t = 0
    rw [cg_short l k _ (by omega), cg_short l (k + 1) _ (by omega)]; rfl
theorem cs_short : ∀ n k : Nat, n < k → cs n k = 0
  | _, 0, h => by omega
  | 0, _ + 1, _ => rfl
  | n + 1, k + 1, h => by
    show cs n k + cs n (k + 1) = 0
    rw [cs_short n k (by omega), cs_short n (k + 1) (by omega)]; rfl
theorem cg_nn : ∀ (l : List Int) (k : Nat) (t : Int), 0 ≤ cg l k t
  | l, 0, t => by rw [cg_zero]; split <;> decide
  | [], _ + 1, _ => by simp [cg]
  | x :: l, k + 1, t => by
    show 0 ≤ cg l k (t - x) + cg l (k + 1) t
    have := cg_nn l k (t - x); have := cg_nn l (k + 1) t; omega
theorem cg_le : ∀ (l : List Int) (k : Nat) (t : Int), cg l k t ≤ cs l.length k
  | l, 0, t => by rw [cg_zero, cs_zero]; split <;> decide
  | [], _ + 1, _ => by simp [cg, cs]
  | x :: l, k + 1, t => by
    show cg l k (t - x) + cg l (k + 1) t ≤ cs l.length k + cs l.length (k + 1)
    have := cg_le l k (t - x); have := cg_le l (k + 1) t; omega
theorem cg_swap (x y : Int) (l : List Int) : ∀ (k : Nat) (t : Int), cg (x :: y :: l) k t = cg (y :: x :: l) k t
  | 0, t => rfl
  | 1, t => by
    show cg (y :: l) 0 (t - x) + (cg l 0 (t - y) + cg l 1 t) = cg (x :: l) 0 (t - y) + (cg l 0 (t - x) + cg l 1 t)
    simp only [cg_zero]; omega
  | k + 2, t => by
    show (cg l k (t - x - y) + cg l (k + 1) (t - x)) + (cg l (k + 1) (t - y) + cg l (k + 2) t) = (cg l k (t - y - x) + cg l (k + 1) (t - y)) + (cg l (k + 1) (t - x) + cg l (k + 2) t)
    rw [show t - x - y = t - y - x by omega]; omega
theorem cg_perm {l m : List Int} (h : l.Perm m) : ∀ (k : Nat) (t : Int), cg l k t = cg m k t := by
  induction h with
  | nil => intro _ _; rfl
  | cons x _ ih =>
    intro k t
    cases k with
    | zero => simp only [cg_zero]
    | succ k => show cg _ k (t - x) + cg _ (k + 1) t = cg _ k (t - x) + cg _ (k + 1) t; rw [ih, ih]
  | swap x y l => intro k t; exact cg_swap y x l k t
  | trans _ _ h1 h2 => intro k t; rw [h1, h2]
def sumL : List Int → Int
  | [] => 0
  | x :: l => x + sumL l
def negL (l : List Int) : List Int := l.map (fun x => -x)
theorem negL_len (l : List Int) : (negL l).length = l.length := by simp [negL]
theorem cg_compl : ∀ (l : List Int) (k : Nat) (t : Int), k ≤ l.length → cg l k t = cg (negL l) (l.length - k) (t - sumL l)
  | [], k, t, h => by
    obtain rfl : k = 0 := by simp at h; omega
    simp [negL, cg_zero, sumL]
  | x :: l, 0, t, _ => by
    have ih := cg_compl l 0 t (by omega)
    show cg (x :: l) 0 t = cg (negL l) l.length (t - (x + sumL l) - -x) + cg (negL l) (l.length + 1) (t - (x + sumL l))
    rw [cg_short (negL l) (l.length + 1) _ (by rw [negL_len]; omega), show t - (x + sumL l) - -x = t - sumL l by omega]
    rw [Nat.sub_zero] at ih
    rw [← ih, cg_zero, cg_zero]; omega
  | x :: l, k + 1, t, h => by
    simp only [List.length_cons] at h
    have i1 := cg_compl l k (t - x) (by omega)
    show cg l k (t - x) + cg l (k + 1) t = cg (-x :: negL l) (l.length + 1 - (k + 1)) (t - (x + sumL l))
    rw [show l.length + 1 - (k + 1) = l.length - k by omega]
    by_cases hk : k = l.length
    · rw [cg_short l (k + 1) t (by omega), i1, hk]
      simp only [Nat.sub_self, cg_zero]
      rw [show t - x - sumL l = t - (x + sumL l) by omega]; omega
    · have i2 := cg_compl l (k + 1) t (by omega)
      obtain ⟨m, hm⟩ : ∃ m, l.length - k = m + 1 := ⟨l.length - k - 1, by omega⟩
      rw [i1, i2, hm, show l.length - (k + 1) = m by omega]
      show _ = cg (negL l) m (t - (x + sumL l) - -x) + cg (negL l) (m + 1) (t - (x + sumL l))
      rw [show t - x - sumL l = t - (x + sumL l) by omega, show t - (x + sumL l) - -x = t - sumL l by omega]; omega
theorem cs_compl : ∀ n k : Nat, k ≤ n → cs n k = cs n (n - k)
  | 0, k, h => by
    obtain rfl : k = 0 := by omega
    rfl
  | n + 1, 0, _ => by
    have ih := cs_compl n 0 (by omega)
    rw [cs_zero, Nat.sub_zero] at ih
    show 1 = cs n n + cs n (n + 1)
    rw [cs_short n (n + 1) (by omega), ← ih]; rfl
  | n + 1, k + 1, h => by
    have i1 := cs_compl n k (by omega)
    show cs n k + cs n (k + 1) = cs (n + 1) (n + 1 - (k + 1))
    rw [show n + 1 - (k + 1) = n - k by omega]
    by_cases hk : k = n
    · rw [cs_short n (k + 1) (by omega), i1, hk]; simp only [Nat.sub_self, cs_zero]; omega
    · have i2 := cs_compl n (k + 1) (by omega)
      obtain ⟨m, hm⟩ : ∃ m, n - k = m + 1 := ⟨n - k - 1, by omega⟩
      rw [i1, i2, hm, show n - (k + 1) = m by omega]
      show _ = cs n m + cs n (m + 1)
      omega
theorem cg_shift (s : Int) : ∀ (l : List Int) (k : Nat) (t : Int), cg (l.map (fun x => x + s)) k (t + k * s) = cg l k t
  | l, 0, t => by simp [cg_zero]
  | [], _ + 1, _ => rfl
  | x :: l, k + 1, t => by
    have i1 := cg_shift s l k (t - x)
    have i2 := cg_shift s l (k + 1) t
    show cg (l.map (fun x => x + s)) k (t + ((k + 1 : Nat) : Int) * s - (x + s)) + cg (l.map (fun x => x + s)) (k + 1) (t + ((k + 1 : Nat) : Int) * s) = cg l k (t - x) + cg l (k + 1) t
    rw [i2, ← i1, show t + ((k + 1 : Nat) : Int) * s - (x + s) = t - x + k * s by push_cast; rw [Int.add_mul]; omega]
theorem cg_self : ∀ (p q : List Int), 1 ≤ cg (p ++ q) p.length (sumL p)
  | [], q => by show 1 ≤ cg q 0 0; rw [cg_zero]; decide
  | x :: p, q => by
    have h1 := cg_self p q
    have h2 := cg_nn (p ++ q) (p.length + 1) (x + sumL p)
    show 1 ≤ cg (p ++ q) p.length (x + sumL p - x) + cg (p ++ q) (p.length + 1) (x + sumL p)
    rw [show x + sumL p - x = sumL p by omega]; omega
theorem cg_both : ∀ (l : List Int) (k : Nat) (t : Int), cs l.length k ≤ cg l k t + cg (negL l) k (-t)
  | l, 0, t => by simp only [cg_zero, cs_zero]; split <;> split <;> omega
  | [], _ + 1, _ => by simp [cs, cg, negL]
  | x :: l, k + 1, t => by
    have i1 := cg_both l k (t - x)
    have i2 := cg_both l (k + 1) t
    show cs l.length k + cs l.length (k + 1) ≤ (cg l k (t - x) + cg l (k + 1) t) + (cg (negL l) k (-t - -x) + cg (negL l) (k + 1) (-t))
    rw [show -t - -x = -(t - x) by omega]; omega
theorem sumL_append (p q : List Int) : sumL (p ++ q) = sumL p + sumL q := by
  induction p with
  | nil => simp [sumL]
  | cons x p ih => simp only [List.cons_append, sumL, ih]; omega
theorem sumL_neg (p : List Int) : sumL (negL p) = -sumL p := by
  induction p with
  | nil => rfl
  | cons x p ih => show -x + sumL (negL p) = -(x + sumL p); rw [ih]; omega
theorem sumL_shift (s : Int) (p : List Int) : sumL (p.map (fun x => x + s)) = sumL p + p.length * s := by
  induction p with
  | nil => simp [sumL]
  | cons x p ih => simp only [List.map_cons, sumL, ih, List.length_cons]; push_cast; rw [Int.add_mul]; omega
/-- the four answers of the law, before they are brought to lowest terms -/
theorem ex_up (p q : List Int) : cg (negL q ++ negL p) q.length (-sumL q) = cg (p ++ q) p.length (sumL p) := by
  have h := cg_compl (p ++ q) p.length (sumL p) (by simp)
  rw [h, sumL_append, show (p ++ q).length - p.length = q.length by simp, show sumL p - (sumL p + sumL q) = -sumL q by omega]
  refine cg_perm ?_ _ _
  unfold negL
  rw [List.map_append]
  exact List.perm_append_comm
theorem ex_moved (s : Int) (p q : List Int) : cg (p.map (fun x => x + s) ++ q.map (fun x => x + s)) p.length (sumL p + p.length * s) = cg (p ++ q) p.length (sumL p) := by
  rw [← List.map_append]; exact cg_shift s _ _ _
theorem ex_less (p q : List Int) : cs (p.length + q.length) p.length ≤ cg (p ++ q) p.length (sumL p) + cg (negL p ++ negL q) p.length (-sumL p) := by
  have h := cg_both (p ++ q) p.length (sumL p)
  rw [List.length_append] at h
  unfold negL at h ⊢
  rwa [List.map_append] at h

theorem sumF_front (f : Nat → Int) : ∀ n, sumF f (n + 1) = f 0 + sumF (fun j => f (j + 1)) n
  | 0 => by simp [sumF]
  | n + 1 => by
    show sumF f (n + 1) + f (n + 1) = f 0 + (sumF (fun j => f (j + 1)) n + f (n + 1))
    rw [sumF_front f n]; omega
theorem atL_succ (x : Int) (l : List Int) (j : Nat) : atL (x :: l) (j + 1) = atL l j := by simp [atL]
theorem atL_drop (l : List Int) (a j : Nat) : atL (l.drop a) j = atL l (a + j) := by simp [atL]
theorem cg_sum : ∀ (l : List Int) (k : Nat) (t : Int), cg l (k + 1) t = sumF (fun j => cg (l.drop (j + 1)) k (t - atL l j)) (l.length - k)
  | [], k, t => by simp [cg, sumF]
  | x :: l, k, t => by
    have ih := cg_sum l k t
    show cg l k (t - x) + cg l (k + 1) t = _
    by_cases hk : k ≤ l.length
    · rw [show (x :: l).length - k = (l.length - k) + 1 by simp only [List.length_cons]; omega, sumF_front, ih]
      rfl
    · rw [show (x :: l).length - k = 0 by simp only [List.length_cons]; omega, cg_short l k _ (by omega), cg_short l (k + 1) _ (by omega)]
      rfl
theorem cs_sum : ∀ (n k : Nat), cs n (k + 1) = sumF (fun j => cs (n - (j + 1)) k) (n - k)
  | 0, k => by simp [cs, sumF]
  | n + 1, k => by
    have ih := cs_sum n k
    show cs n k + cs n (k + 1) = _
    by_cases hk : k ≤ n
    · rw [show n + 1 - k = (n - k) + 1 by omega, sumF_front, ih]
      simp
    · rw [show n + 1 - k = 0 by omega, cs_short n k (by omega), cs_short n (k + 1) (by omega)]
      rfl
theorem exG_eq (P : List Int) (least : Int) : ∀ (left from_ : Nat) (total : Int), exG P least left from_ total = cg (P.drop from_) left (least - total)
  | 0, from_, total => by
    rw [cg_zero]; unfold exG
    by_cases h : least ≤ total
    · rw [if_pos h, if_pos (by omega)]
    · rw [if_neg h, if_neg (by omega)]
  | left + 1, from_, total => by
    unfold exG
    rw [cg_sum, show (P.drop from_).length - left = P.length - left - from_ by rw [List.length_drop]; omega]
    refine sumF_congr _ _ _ fun j _ => ?_
    rw [exG_eq P least left, List.drop_drop, atL_drop, show from_ + j + 1 = from_ + (j + 1) by omega, show least - (total + atL P (from_ + j)) = least - total - atL P (from_ + j) by omega]
theorem exS_eq (len : Nat) : ∀ (left from_ : Nat), exS len left from_ = cs (len - from_) left
  | 0, from_ => by rw [cs_zero]; rfl
  | left + 1, from_ => by
    unfold exS
    rw [cs_sum, show len - from_ - left = len - left - from_ by omega]
    refine sumF_congr _ _ _ fun j _ => ?_
    rw [exS_eq len left, show len - from_ - (j + 1) = len - (from_ + j + 1) by omega]
theorem totalL_sum : ∀ l : List Int, totalL l = sumL l
  | [] => rfl
  | x :: l => by
    have ih := totalL_sum l
    unfold totalL at ih ⊢
    rw [List.length_cons, sumF_front, show sumL (x :: l) = x + sumL l from rfl, ← ih]
    rw [show atL (x :: l) 0 = x from rfl]
    congr 1
theorem exN_eq (p q : List Int) : exN (p ++ q) p.length = cg (p ++ q) p.length (sumL p) := by
  unfold exN exLeast
  rw [exG_eq, List.take_left', totalL_sum]
  · simp
  · rfl
theorem exS_eq0 (p q : List Int) : exS (p ++ q).length p.length 0 = cs (p.length + q.length) p.length := by
  rw [exS_eq, List.length_append]; rfl
theorem low_one (N S : Int) (hN : 1 ≤ N) (hS : N ≤ S) : 1 ≤ lowN N S ∧ lowN N S ≤ lowD N S := by
  have hg := gcdS_pos N S (by omega)
  have h1 := gcdS_n N S
  have h2 := gcdS_d N S
  constructor
  · by_cases h : 1 ≤ lowN N S
    · exact h
    · have := Int.mul_le_mul_of_nonneg_left (show lowN N S ≤ 0 by omega) (show 0 ≤ gcdS N S by omega)
      omega
  · by_cases h : lowN N S ≤ lowD N S
    · exact h
    · have := Int.mul_le_mul_of_nonneg_left (show lowD N S + 1 ≤ lowN N S by omega) (show 0 ≤ gcdS N S by omega)
      rw [Int.mul_add] at this
      omega
theorem low_sum (a b S : Int) (hS : 1 ≤ S) (h : S ≤ a + b) : lowD a S * lowD b S ≤ lowN a S * lowD b S + lowN b S * lowD a S := by
  have hg := gcdS_pos a S hS
  have hh := gcdS_pos b S hS
  have a1 := gcdS_n a S
  have a2 := gcdS_d a S
  have b1 := gcdS_n b S
  have b2 := gcdS_d b S
  have hp : 1 ≤ gcdS a S * gcdS b S := by
    have := Int.mul_le_mul_of_nonneg_left hh (show 0 ≤ gcdS a S by omega)
    omega
  have e1 : gcdS a S * gcdS b S * (lowD a S * lowD b S) = S * S := by
    rw [show gcdS a S * gcdS b S * (lowD a S * lowD b S) = (gcdS a S * lowD a S) * (gcdS b S * lowD b S) by grind, a2, b2]
  have e2 : gcdS a S * gcdS b S * (lowN a S * lowD b S + lowN b S * lowD a S) = (a + b) * S := by
    rw [show gcdS a S * gcdS b S * (lowN a S * lowD b S + lowN b S * lowD a S) = (gcdS a S * lowN a S) * (gcdS b S * lowD b S) + (gcdS b S * lowN b S) * (gcdS a S * lowD a S) by grind, a1, a2, b1, b2]; grind
  have e3 : S * S ≤ (a + b) * S := Int.mul_le_mul_of_nonneg_right h (by omega)
  refine Int.le_of_mul_le_mul_left (a := gcdS a S * gcdS b S) ?_ (by omega)
  rw [e1, e2]; exact e3
end Go.Proofs.Ythkndjkgokojmaa
