/- Layer 9 (calendar): leaps and the months in which they lie; plain. -/
import Derived.Test.YtahdkgldhiekjaaDoorFha
namespace Go.Proofs.YtahdkgldhiekjaaDoor.Cal
theorem eom_civ {n y : Int} {k : Nat} {d : Int} (h : IsCiv n y k d) : eom n = n - d + dm y k := by
  obtain ⟨e1, e2, e3⟩ := (civ_is n h.n_bd).uniq h
  unfold eom
  rw [e1, e2, e3]
theorem same_month {L D y : Int} {k : Nat} {d : Int} (hL : 41317 ≤ L ∧ L ≤ 88068) (he : L = eom L) (h : IsCiv D y k d) : (yr L = y ∧ (mo L : Int) = (k : Int)) ↔ L = eom D := by
  have hc := civ_is L hL
  have e1 := eom_civ h
  have e2 := eom_civ hc
  have e3 := h.n_
  have e4 := hc.n_
  constructor
  · rintro ⟨a, b⟩
    have b : mo L = k := by omega
    rw [a, b] at e2 e4
    unfold dayN at *
    omega
  · intro hl
    have hi : IsCiv L y k (dm y k) := ⟨⟨h.y1, h.y2, h.m1, h.m2, by have := dm_bd y k; omega, Int.le_refl _⟩, by unfold dayN at *; omega⟩
    obtain ⟨q1, q2, q3⟩ := hc.uniq hi
    exact ⟨q1, by rw [q2]⟩
theorem ahead (s b D : Int) (n : Nat) (f : Nat → Int × Int) : s + b - (86400 * (D - 40587) + (s - beginS f n D) - 63072000) = b + growS f n D := by
  unfold beginS; omega
end Go.Proofs.YtahdkgldhiekjaaDoor.Cal
