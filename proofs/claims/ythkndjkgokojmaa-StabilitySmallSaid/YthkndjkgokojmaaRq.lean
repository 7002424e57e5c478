/- Plain facts of the reference's Exchange: all sets of places, as the bits of a number, counted. -/
import Derived.Test.YthkndjkgokojmaaPa
namespace Go.Proofs.Ythkndjkgokojmaa
open Go Go.RowKit
/-- how many places a set has, and the sum of what lies there -/
def szB : List Int → Nat → Nat
  | [], _ => 0
  | _ :: l, s => s % 2 + szB l (s / 2)
def smB : List Int → Nat → Int
  | [], _ => 0
  | x :: l, s => (if s % 2 = 1 then x else 0) + smB l (s / 2)
def hitB (l : List Int) (k : Nat) (t : Int) (s : Nat) : Int := if szB l s = k ∧ t ≤ smB l s then 1 else 0
def setB (l : List Int) (k : Nat) (s : Nat) : Int := if szB l s = k then 1 else 0
theorem sumF_pairs (f : Nat → Int) : ∀ n, sumF f (2 * n) = sumF (fun j => f (2 * j) + f (2 * j + 1)) n
  | 0 => rfl
  | n + 1 => by
    show sumF f (2 * n + 1 + 1) = _
    simp only [sumF]
    rw [sumF_pairs f n]
    omega
theorem even_two (s : Nat) : (2 * s) % 2 = 0 ∧ (2 * s) / 2 = s ∧ (2 * s + 1) % 2 = 1 ∧ (2 * s + 1) / 2 = s := by omega
theorem hit_cons (x : Int) (l : List Int) (k : Nat) (t : Int) (s : Nat) : hitB (x :: l) k t (2 * s) = hitB l k t s ∧ hitB (x :: l) (k + 1) t (2 * s + 1) = hitB l k (t - x) s ∧ hitB (x :: l) 0 t (2 * s + 1) = 0 := by
  obtain ⟨e1, e2, e3, e4⟩ := even_two s
  unfold hitB
  simp only [szB, smB, e1, e2, e3, e4]
  refine ⟨by simp, ?_, ?_⟩
  · by_cases h : szB l s = k ∧ t - x ≤ smB l s
    · rw [if_pos h, if_pos ⟨by omega, by simp; omega⟩]
    · rw [if_neg h, if_neg (fun h' => h ⟨by omega, by have := h'.2; simp at this; omega⟩)]
  · rw [if_neg (fun h' => by have := h'.1; omega)]
theorem set_cons (x : Int) (l : List Int) (k : Nat) (s : Nat) : setB (x :: l) k (2 * s) = setB l k s ∧ setB (x :: l) (k + 1) (2 * s + 1) = setB l k s ∧ setB (x :: l) 0 (2 * s + 1) = 0 := by
  obtain ⟨e1, e2, e3, e4⟩ := even_two s
  unfold setB
  simp only [szB, e1, e2, e3, e4]
  refine ⟨by simp, ?_, ?_⟩
  · by_cases h : szB l s = k
    · rw [if_pos h, if_pos (by omega)]
    · rw [if_neg h, if_neg (by omega)]
  · rw [if_neg (by omega)]
theorem sumF_zero : ∀ n, sumF (fun _ => 0) n = 0
  | 0 => rfl
  | n + 1 => by simp only [sumF]; rw [sumF_zero n]; rfl
theorem hits_all : ∀ (l : List Int) (k : Nat) (t : Int), sumF (hitB l k t) (2 ^ l.length) = cg l k t
  | [], 0, t => by rw [cg_zero]; simp [sumF, hitB, szB, smB]
  | [], k + 1, t => by
    rw [cg_short [] (k + 1) t (by simp)]
    simp [sumF, hitB, szB]
  | x :: l, 0, t => by
    rw [List.length_cons, Nat.pow_succ, Nat.mul_comm, sumF_pairs, cg_zero]
    rw [sumF_congr _ (hitB l 0 t) _ (fun j _ => by rw [(hit_cons x l 0 t j).1, (hit_cons x l 0 t j).2.2]; omega), hits_all l 0 t, cg_zero]
  | x :: l, k + 1, t => by
    rw [List.length_cons, Nat.pow_succ, Nat.mul_comm, sumF_pairs]
    rw [sumF_congr _ (fun j => hitB l (k + 1) t j + hitB l k (t - x) j) _ (fun j _ => by rw [(hit_cons x l (k + 1) t j).1, (hit_cons x l k t j).2.1]), sumF_add, hits_all l (k + 1) t, hits_all l k (t - x)]
    exact Int.add_comm _ _
theorem sets_all : ∀ (l : List Int) (k : Nat), sumF (setB l k) (2 ^ l.length) = cs l.length k
  | [], 0 => by rw [cs_zero]; simp [sumF, setB, szB]
  | [], k + 1 => by
    rw [cs_short _ (k + 1) (by simp)]
    simp [sumF, setB, szB]
  | x :: l, 0 => by
    rw [List.length_cons, Nat.pow_succ, Nat.mul_comm, sumF_pairs, cs_zero]
    rw [sumF_congr _ (setB l 0) _ (fun j _ => by rw [(set_cons x l 0 j).1, (set_cons x l 0 j).2.2]; omega), sets_all l 0, cs_zero]
  | x :: l, k + 1 => by
    rw [List.length_cons, Nat.pow_succ, Nat.mul_comm, sumF_pairs]
    rw [sumF_congr _ (fun j => setB l (k + 1) j + setB l k j) _ (fun j _ => by rw [(set_cons x l (k + 1) j).1, (set_cons x l k j).2.1]), sumF_add, sets_all l (k + 1), sets_all l k]
    exact Int.add_comm _ _
/-! a set, place by place -/
theorem szB_sum : ∀ (l : List Int) (s : Nat), (szB l s : Int) = sumF (fun j => ((s / 2 ^ j % 2 : Nat) : Int)) l.length
  | [], s => rfl
  | x :: l, s => by
    rw [List.length_cons, sumF_front]
    show ((s % 2 + szB l (s / 2) : Nat) : Int) = _
    rw [Int.natCast_add, szB_sum l (s / 2)]
    rw [sumF_congr (fun j => ((s / 2 / 2 ^ j % 2 : Nat) : Int)) (fun j => ((s / 2 ^ (j + 1) % 2 : Nat) : Int)) l.length (fun j _ => by rw [Nat.div_div_eq_div_mul, Nat.pow_succ, Nat.mul_comm 2])]
    simp
theorem smB_sum : ∀ (l : List Int) (s : Nat), smB l s = sumF (fun j => if s / 2 ^ j % 2 = 1 then atL l j else 0) l.length
  | [], s => rfl
  | x :: l, s => by
    rw [List.length_cons, sumF_front]
    show (if s % 2 = 1 then x else 0) + smB l (s / 2) = _
    rw [smB_sum l (s / 2)]
    rw [sumF_congr (fun j => if s / 2 / 2 ^ j % 2 = 1 then atL l j else 0) (fun j => if s / 2 ^ (j + 1) % 2 = 1 then atL (x :: l) (j + 1) else 0) l.length (fun j _ => by rw [atL_succ, Nat.div_div_eq_div_mul, Nat.pow_succ, Nat.mul_comm 2])]
    simp [atL]
end Go.Proofs.Ythkndjkgokojmaa
