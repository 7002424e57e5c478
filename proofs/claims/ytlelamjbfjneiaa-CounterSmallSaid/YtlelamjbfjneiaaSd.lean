/- Layer 2, the reference: what its Resolve finds, told plainly. -/
import Derived.Test.YtlelamjbfjneiaaHp
namespace Go.Proofs.Ytlelamjbfjneiaa.Ct
open Go Go.RowKit
def refN (c : Cnt) (m lo hi : Int) : Nat := (min (farS c m hi) (firstS c m lo + 2499) + 1 - firstS c m lo).toNat
def refL (c : Cnt) (m lo hi : Int) : List (Int × Int) := spanL c (midS c m) lo hi (firstS c m lo) (refN c m lo hi)
theorem spanL_has {c : Cnt} {mid lo hi first : Int} : ∀ {n : Nat}, spanL c mid lo hi first n ≠ [] → ∃ j, j < n ∧ xLo c mid lo (first + j) ≤ xHi c mid hi (first + j)
  | 0, h => absurd rfl h
  | n + 1, h => by
    by_cases hc : xLo c mid lo (first + n) ≤ xHi c mid hi (first + n)
    · exact ⟨n, by omega, hc⟩
    · rw [spanL, if_neg hc] at h
      obtain ⟨j, hj, hx⟩ := spanL_has h
      exact ⟨j, by omega, hx⟩
theorem turn_shift {c : Cnt} (h : CntIn c) (x : Int) : turnLo c (x + c.f * c.r) = turnLo c x + c.r ∧ turnHi c (x + c.f * c.r) = turnHi c x + c.r := by
  have hf := h.f
  constructor
  · unfold turnLo ceilS
    have e0 : c.f * (-c.r) = -(c.f * c.r) := by grind
    have e : -(x + c.f * c.r - faultS c) = -(x - faultS c) + c.f * (-c.r) := by omega
    rw [e, Int.add_mul_ediv_left _ _ (show c.f ≠ 0 by omega)]
    omega
  · unfold turnHi
    rw [show x + c.f * c.r + faultS c = (x + faultS c) + c.f * c.r by omega, Int.add_mul_ediv_left _ _ (show c.f ≠ 0 by omega)]
theorem ref_same {c : Cnt} (h : CntIn c) (m lo hi : Int) (hlh : lo ≤ hi) : pickS (refL c m lo hi) = pickS (foundL c m lo hi) := by
  have hf := h.f
  have hr := h.r
  unfold refL foundL
  by_cases hfar : farS c m hi ≤ firstS c m lo + 2 * c.f - 1
  · have e : refN c m lo hi = turnN c m lo hi := by unfold refN turnN lastS; omega
    rw [e]
  · obtain ⟨F, hF⟩ : ∃ F : Nat, c.f = (F : Int) := ⟨c.f.toNat, by omega⟩
    have e1 : turnN c m lo hi = 2 * F := by unfold turnN lastS; omega
    have e2 : 2 * F ≤ refN c m lo hi := by unfold refN; omega
    have e3 : ∀ j : Nat, j < refN c m lo hi → firstS c m lo + j ≤ farS c m hi := fun j hj => by unfold refN at hj; omega
    have per : ∀ k : Int, firstS c m lo ≤ k → k ≤ farS c m hi → (xLo c (midS c m) lo k ≤ xHi c (midS c m) hi k ↔ turnLo c (midS c m + k * c.r) ≤ turnHi c (midS c m + k * c.r)) := by
      intro k h1 h2
      have a1 := (ceil_iff _ _ _ hr.1).1 h1
      have a2 : k * c.r ≤ c.f * hi - midS c m + faultS c := (Int.le_ediv_iff_mul_le (by omega)).1 h2
      have b1 : lo ≤ turnHi c (midS c m + k * c.r) := (Int.le_ediv_iff_mul_le (by omega)).2 (by have := Int.mul_comm lo c.f; omega)
      have b2 : turnLo c (midS c m + k * c.r) ≤ hi := (ceil_iff _ _ _ hf.1).2 (by have := Int.mul_comm hi c.f; omega)
      unfold xLo xHi
      omega
    have shift : ∀ k : Int, (turnLo c (midS c m + (k + c.f) * c.r) ≤ turnHi c (midS c m + (k + c.f) * c.r) ↔ turnLo c (midS c m + k * c.r) ≤ turnHi c (midS c m + k * c.r)) := by
      intro k
      obtain ⟨s1, s2⟩ := turn_shift h (midS c m + k * c.r)
      rw [show midS c m + (k + c.f) * c.r = midS c m + k * c.r + c.f * c.r by grind, s1, s2]
      omega
    have shiftN : ∀ (t : Nat) (k : Int), (turnLo c (midS c m + (k + c.f * t) * c.r) ≤ turnHi c (midS c m + (k + c.f * t) * c.r) ↔ turnLo c (midS c m + k * c.r) ≤ turnHi c (midS c m + k * c.r)) := by
      intro t
      induction t with
      | zero => intro k; simp
      | succ t ih =>
        intro k
        rw [show k + c.f * ((t + 1 : Nat) : Int) = (k + c.f * t) + c.f by push_cast; grind, shift, ih]
    rw [e1]
    by_cases hn : spanL c (midS c m) lo hi (firstS c m lo) (refN c m lo hi) = []
    · have hp := spanL_prefix c (midS c m) lo hi (firstS c m lo) e2
      rw [hn] at hp
      rw [hn, List.prefix_nil.1 hp]
    · obtain ⟨j, hj, hx⟩ := spanL_has hn
      have d1 := Nat.mod_lt j (show 0 < F by omega)
      have d2 := Nat.mod_add_div j F
      have hxj := (per _ (by omega) (e3 j hj)).1 hx
      have hx0 : turnLo c (midS c m + (firstS c m lo + ((j % F : Nat) : Int)) * c.r) ≤ turnHi c (midS c m + (firstS c m lo + ((j % F : Nat) : Int)) * c.r) := by
        refine (shiftN (j / F) _).1 ?_
        rw [show firstS c m lo + ((j % F : Nat) : Int) + c.f * ((j / F : Nat) : Int) = firstS c m lo + (j : Int) by
          have e : ((j % F : Nat) : Int) + (F : Int) * ((j / F : Nat) : Int) = (j : Int) := by rw [← Int.natCast_mul, ← Int.natCast_add, d2]
          rw [hF]; omega]
        exact hxj
      have hx1 := (shift _).2 hx0
      have l1 := (per (firstS c m lo + ((j % F : Nat) : Int)) (by omega) (e3 _ (by omega))).2 hx0
      have l2 := (per (firstS c m lo + ((j % F + F : Nat) : Int)) (by omega) (e3 _ (by omega))).2 (by rw [show firstS c m lo + ((j % F + F : Nat) : Int) = firstS c m lo + ((j % F : Nat) : Int) + c.f by rw [hF]; push_cast; omega]; exact hx1)
      have two := spanL_two (show j % F < j % F + F by omega) (show j % F + F < 2 * F by omega) l1 l2
      have two' := spanL_two (n := refN c m lo hi) (show j % F < j % F + F by omega) (show j % F + F < refN c m lo hi by omega) l1 l2
      have pk : ∀ L : List (Int × Int), 2 ≤ L.length → pickS L = ((0, 0), 8) := fun L hL => by
        match L, hL with
        | _ :: _ :: _, _ => rfl
      rw [pk _ two, pk _ two']
end Go.Proofs.Ytlelamjbfjneiaa.Ct
