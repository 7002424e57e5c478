/- Plain facts for CounterTurns: what is unwrapped follows the rounded numbers. -/
import Derived.Test.YtildlfcbgiaopaaHp
import Derived.Test.YtildlfcbgiaopaaOi
namespace Go.Proofs.Ytildlfcbgiaopaa.Ct
open Go Go.RowKit
theorem wrap_is {c : Cnt} {x y k : Int} (hx : x = y + k * c.r) (hy : -(c.r / 2) ≤ y ∧ y < c.r - c.r / 2) : wrapS c x = y := by
  unfold wrapS
  rw [hx, show y + k * c.r + c.r / 2 = (y + c.r / 2) + c.r * k by have := Int.mul_comm k c.r; omega, Int.add_mul_emod_self_left, Int.emod_eq_of_lt (by omega) (by omega)]
  omega
/-- what is unwrapped grows as what was wrapped does -/
theorem unw_is {c : Cnt} (R : Nat → Int) (n : Nat) (h : ∀ i, i + 1 < n → -(c.r / 2) ≤ R (i + 1) - R i ∧ R (i + 1) - R i < c.r - c.r / 2) :
    ∀ i, i < n → unwS c (fun j => wrapS c (R j)) i = wrapS c (R 0) + (R i - R 0)
  | 0, _ => by show wrapS c (R 0) = _; omega
  | i + 1, hi => by
    have ih := unw_is R n h i (by omega)
    obtain ⟨k0, e0⟩ := shown_turn c (R i)
    obtain ⟨k1, e1⟩ := shown_turn c (R (i + 1))
    have hw : wrapS c (wrapS c (R (i + 1)) - wrapS c (R i)) = R (i + 1) - R i :=
      wrap_is (k := k0 - k1) (by have : (k0 - k1) * c.r = k0 * c.r - k1 * c.r := by grind
                                 omega) (h i (by omega))
    show unwS c (fun j => wrapS c (R j)) i + wrapS c (wrapS c (R (i + 1)) - wrapS c (R i)) = _
    rw [ih, hw]; omega
/-- the true differences -/
def trT (far b0 : Int) (l : List Int) : Nat → Int
  | 0 => b0
  | i + 1 => trT far b0 l i + (lAt l i % (2 * far + 1) - far)
theorem trT_step (far b0 : Int) (l : List Int) (hf : 0 ≤ far) (i : Nat) : -far ≤ trT far b0 l (i + 1) - trT far b0 l i ∧ trT far b0 l (i + 1) - trT far b0 l i ≤ far := by
  have h1 := Int.emod_nonneg (lAt l i) (show 2 * far + 1 ≠ 0 by omega)
  have h2 := Int.emod_lt_of_pos (lAt l i) (show 0 < 2 * far + 1 by omega)
  simp only [trT]
  omega
theorem trT_bd (far b0 : Int) (l : List Int) (hf : 0 ≤ far ∧ far ≤ 1000000000000) (hb : -100000000000000 < b0 ∧ b0 < 100000000000000) : ∀ i : Nat, -(100000000000000 + 1000000000000 * (i : Int)) ≤ trT far b0 l i ∧ trT far b0 l i ≤ 100000000000000 + 1000000000000 * (i : Int)
  | 0 => by simp only [trT]; omega
  | i + 1 => by
    have h1 := trT_bd far b0 l hf hb i
    have h2 := trT_step far b0 l hf.1 i
    push_cast
    omega
/-- the second of a measurement -/
def secT (c : Cnt) (i : Nat) : Int := ((i : Int) * c.d) % (1000000 / c.d * c.d + c.d)
theorem secT_meet {c : Cnt} (h : CntIn c) (i : Nat) : meetB c (secT c i) = true := by
  have hd := h.d
  have e1 : 1000000 / c.d * c.d + c.d = c.d * (1000000 / c.d + 1) := by grind
  have q0 : 0 ≤ 1000000 / c.d := Int.ediv_nonneg (by decide) (by omega)
  have q1 : 1000000 / c.d * c.d ≤ 1000000 := Int.ediv_mul_le _ (by omega)
  unfold secT meetB
  rw [e1, Int.mul_comm (i : Int) c.d, Int.mul_emod_mul_of_pos _ _ (by omega), Int.mul_comm c.d]
  have r1 := Int.emod_nonneg (i : Int) (show 1000000 / c.d + 1 ≠ 0 by omega)
  have r2 := Int.emod_lt_of_pos (i : Int) (show 0 < 1000000 / c.d + 1 by omega)
  generalize (i : Int) % (1000000 / c.d + 1) = k at *
  have p1 : 0 ≤ k * c.d := Int.mul_nonneg r1 (by omega)
  have p2 : k * c.d ≤ 1000000 / c.d * c.d := Int.mul_le_mul_of_nonneg_right (by omega) (by omega)
  have p3 : (k * c.d) % c.d = 0 := Int.mul_emod_left _ _
  simp only [Bool.and_eq_true, decide_eq_true_eq]
  omega
/-- the rounded number of a measurement -/
def rouT (c : Cnt) (seed far b0 : Int) (l : List Int) (i : Nat) : Int := roundS c (rawS c seed (secT c i) (trT far b0 l i))
theorem rouT_shown (c : Cnt) (seed far b0 : Int) (l : List Int) (i : Nat) : shownS c seed (secT c i) (trT far b0 l i) = wrapS c (rouT c seed far b0 l i) := rfl
structure TurnIs (c : Cnt) (far : Int) : Prop where
  i : CntIn c
  f : 0 ≤ far ∧ far ≤ 1000000000000
  t : c.f * far + 2 * faultS c < c.r / 2
variable {c : Cnt} {far : Int}
theorem TurnIs.close (h : TurnIs c far) (seed b0 : Int) (l : List Int) (i : Nat) : -faultS c ≤ rouT c seed far b0 l i - c.f * trT far b0 l i - c.o ∧ rouT c seed far b0 l i - c.f * trT far b0 l i - c.o ≤ faultS c := near_f h.i seed _ _
theorem TurnIs.steps (h : TurnIs c far) (seed b0 : Int) (l : List Int) (i : Nat) : -(c.r / 2) ≤ rouT c seed far b0 l (i + 1) - rouT c seed far b0 l i ∧ rouT c seed far b0 l (i + 1) - rouT c seed far b0 l i < c.r - c.r / 2 := by
  have h1 := h.close seed b0 l i
  have h2 := h.close seed b0 l (i + 1)
  have h3 := trT_step far b0 l h.f.1 i
  have h4 := h.t
  have hf := h.i.f
  have m1 : c.f * (trT far b0 l (i + 1) - trT far b0 l i) ≤ c.f * far := Int.mul_le_mul_of_nonneg_left h3.2 (by omega)
  have m2 : c.f * (-far) ≤ c.f * (trT far b0 l (i + 1) - trT far b0 l i) := Int.mul_le_mul_of_nonneg_left h3.1 (by omega)
  have e1 : c.f * (trT far b0 l (i + 1) - trT far b0 l i) = c.f * trT far b0 l (i + 1) - c.f * trT far b0 l i := by grind
  have e2 : c.f * (-far) = -(c.f * far) := by grind
  omega
def uT (c : Cnt) (seed far b0 : Int) (l : List Int) (i : Nat) : Int := unwS c (fun j => wrapS c (rouT c seed far b0 l j)) i
theorem TurnIs.unw (h : TurnIs c far) (seed b0 : Int) (l : List Int) (i : Nat) : uT c seed far b0 l i = wrapS c (rouT c seed far b0 l 0) + (rouT c seed far b0 l i - rouT c seed far b0 l 0) :=
  unw_is (rouT c seed far b0 l) (i + 1) (fun k _ => h.steps seed b0 l k) i (Nat.lt_succ_self _)
theorem TurnIs.apart (h : TurnIs c far) (seed b0 : Int) (l : List Int) (i k : Nat) : -(2 * faultS c) ≤ uT c seed far b0 l i - uT c seed far b0 l k - c.f * (trT far b0 l i - trT far b0 l k) ∧ uT c seed far b0 l i - uT c seed far b0 l k - c.f * (trT far b0 l i - trT far b0 l k) ≤ 2 * faultS c := by
  have h1 := h.close seed b0 l i
  have h2 := h.close seed b0 l k
  have e1 : c.f * (trT far b0 l i - trT far b0 l k) = c.f * trT far b0 l i - c.f * trT far b0 l k := by grind
  rw [h.unw, h.unw]
  omega
theorem TurnIs.turn (h : TurnIs c far) (seed b0 : Int) (l : List Int) (i : Nat) : (uT c seed far b0 l i - wrapS c (rouT c seed far b0 l i)).tmod c.r = 0 := by
  obtain ⟨k0, e0⟩ := shown_turn c (rouT c seed far b0 l 0)
  obtain ⟨k1, e1⟩ := shown_turn c (rouT c seed far b0 l i)
  have hu := h.unw seed b0 l i
  apply Int.tmod_eq_zero_of_dvd
  refine ⟨k1 - k0, ?_⟩
  have e : c.r * (k1 - k0) = k1 * c.r - k0 * c.r := by grind
  omega
theorem TurnIs.bd (h : TurnIs c far) (seed b0 : Int) (l : List Int) (hb : -100000000000000 < b0 ∧ b0 < 100000000000000) (i : Nat) (hi : i ≤ 40) :
    (-140000000000000 ≤ trT far b0 l i ∧ trT far b0 l i ≤ 140000000000000) ∧ (-400000000000000000 ≤ uT c seed far b0 l i ∧ uT c seed far b0 l i ≤ 400000000000000000) := by
  have h1 := trT_bd far b0 l h.f hb i
  have h0 := trT_bd far b0 l h.f hb 0
  have d1 : -140000000000000 ≤ trT far b0 l i ∧ trT far b0 l i ≤ 140000000000000 := by omega
  have c1 := h.close seed b0 l i
  have c0 := h.close seed b0 l 0
  have m1 := mul_bd c.f (trT far b0 l i) 1000 140000000000000 (by have := h.i.f; omega) d1
  have m0 := mul_bd c.f (trT far b0 l 0) 1000 140000000000000 (by have := h.i.f; omega) (by omega)
  have hw := wrapS_bd h.i (rouT c seed far b0 l 0)
  have hr := h.i.r
  have hfb := fault_bd h.i
  rw [h.unw]
  omega
end Go.Proofs.Ytildlfcbgiaopaa.Ct
