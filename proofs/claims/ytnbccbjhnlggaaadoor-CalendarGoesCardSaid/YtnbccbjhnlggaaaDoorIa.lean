/- Layer 9 (calendar): days go on: the next date, the next week (plain). -/
import Derived.Test.YtnbccbjhnlggaaaDoorFa
namespace Go.Proofs.YtnbccbjhnlggaaaDoor.Cal
theorem civ_next {a y : Int} {k : Nat} {d : Int} (h : IsCiv a y k d) {p : Int} {q : Nat} {r : Int} (g : IsCiv (a + 1) p q r) :
    (p = y ∧ q = k ∧ r = d + 1) ∨ (p = y ∧ q = k + 1 ∧ r = 1) ∨ (p = y + 1 ∧ q = 1 ∧ r = 1 ∧ k = 12) := by
  have hn := h.n_
  have hd := h.d2
  have hd1 := h.d1
  have hm1 := h.m1
  have hm2 := h.m2
  have hb := g.n_bd
  have hp := cm_pred y k h.m1
  unfold dayN at hn
  by_cases e : d < dm y k
  · left
    have h2 : IsCiv (a + 1) y k (d + 1) := ⟨⟨h.y1, h.y2, h.m1, h.m2, by omega, by omega⟩, by unfold dayN; omega⟩
    have := g.uniq h2
    exact this
  · have ed : d = dm y k := by omega
    by_cases e2 : k < 12
    · right; left
      have h3 := dm_bd y ((k + 1 : Nat) : Int)
      have h2 : IsCiv (a + 1) y (k + 1) 1 := ⟨⟨h.y1, h.y2, by omega, by omega, by omega, by omega⟩, by unfold dayN; rw [show k + 1 - 1 = k by omega]; omega⟩
      exact g.uniq h2
    · right; right
      have hk : k = 12 := by omega
      subst hk
      have hs := ny_succ y
      have hy : y + 1 ≤ 2099 := by
        have h4 := ny_bd y ⟨h.y1, h.y2⟩
        have h1 : a + 1 = ny (y + 1) := by omega
        have h2 : y ≠ 2099 := by
          intro e
          rw [e] at h1
          have h5 : ny (2099 + 1) = 88069 := by decide
          omega
        have := h.y2
        omega
      have h3 := dm_bd (y + 1) 1
      have h2 : IsCiv (a + 1) (y + 1) 1 1 := ⟨⟨by have := h.y1; omega, hy, by omega, by omega, by omega, by show (1 : Int) ≤ dm (y + 1) ((1 : Nat) : Int); exact Int.le_trans (by omega) h3.1⟩, by unfold dayN; rw [show (1 - 1 : Nat) = 0 from rfl, cm]; omega⟩
      obtain ⟨e1, e3, e4⟩ := g.uniq h2
      exact ⟨e1, e3, e4, rfl⟩
theorem wd_next (a : Int) : wd (a + 1) = wd a % 7 + 1 := by unfold wd; omega
theorem week_same {a : Int} (h : 1 < wd (a + 1)) : weekY (a + 1) = weekY a ∧ weekN (a + 1) = weekN a := by
  have e : thu (a + 1) = thu a := by revert h; unfold thu wd; omega
  unfold weekY weekN
  rw [e]
  exact ⟨rfl, rfl⟩
theorem week_next {a : Int} (h : wd (a + 1) = 1) : (weekY (a + 1) = weekY a ∧ weekN (a + 1) = weekN a + 1) ∨ (weekY (a + 1) = weekY a + 1 ∧ weekN (a + 1) = 1 ∧ 52 ≤ weekN a) := by
  have e : thu (a + 1) = thu a + 7 := by revert h; unfold thu wd; omega
  unfold weekY weekN
  rw [e]
  generalize thu a = t
  obtain ⟨h1, h2⟩ := yr_spec t
  generalize hy : yr t = y at *
  have hs := ny_succ y
  rw [cm_twelve] at hs
  by_cases c : t + 7 < ny (y + 1)
  · have e2 : yr (t + 7) = y := yr_eq (by omega) c
    rw [e2]
    left
    exact ⟨rfl, by omega⟩
  · have hs2 := ny_succ (y + 1)
    rw [cm_twelve] at hs2
    have e2 : yr (t + 7) = y + 1 := yr_eq (by omega) (by split at hs2 <;> omega)
    rw [e2]
    right
    refine ⟨rfl, by omega, ?_⟩
    split at hs <;> omega
theorem weekN_bd (a : Int) : 1 ≤ weekN a ∧ weekN a ≤ 53 := by
  unfold weekN
  generalize thu a = t
  obtain ⟨h1, h2⟩ := yr_spec t
  rw [ny_succ, cm_twelve] at h2
  split at h2 <;> omega
end Go.Proofs.YtnbccbjhnlggaaaDoor.Cal
