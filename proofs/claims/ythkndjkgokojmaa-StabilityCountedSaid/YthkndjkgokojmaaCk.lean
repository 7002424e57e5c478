/- Plain facts for StabilityCounted, continued: the variance of what is unwrapped. -/
import Derived.Test.YthkndjkgokojmaaCf
namespace Go.Proofs.Ythkndjkgokojmaa.Ct
open Go Go.RowKit
def lstF (f : Nat → Int) (k : Nat) : List Int := (List.range k).map f
theorem lstF_succ (f : Nat → Int) (k : Nat) : lstF f (k + 1) = lstF f k ++ [f k] := by simp [lstF, List.range_succ]
theorem lstF_len (f : Nat → Int) (k : Nat) : (lstF f k).length = k := by simp [lstF]
theorem lstF_at (f : Nat → Int) (k i : Nat) (h : i < k) : atL (lstF f k) i = f i := by simp [atL, lstF, h]
variable {c : Cnt}
theorem Law.phases (h : Law c) (seed : Int) (l : List Int) (k : Nat) (hk : k ≤ 60) : phasesOk (lstF (uS c seed l) k) = true := by
  unfold phasesOk
  refine List.all_eq_true.2 fun x hx => ?_
  obtain ⟨i, hi, rfl⟩ := List.mem_map.1 hx
  have := h.u_bd seed l i (by simp at hi; omega)
  simp only [Bool.and_eq_true, decide_eq_true_eq]
  omega
theorem Law.step (h : Law c) (seed : Int) (l : List Int) (k b : Nat) (hk : k ≤ 60) (hb : 1 ≤ b ∧ b ≤ 4) : stepErr 1 (lstF (uS c seed l) k) b = 0 := by
  have hc : checkSt 1 (lstF (uS c seed l) k) = 0 := by
    unfold checkSt
    rw [lstF_len, if_neg (by omega), if_pos ⟨by decide, h.phases seed l k hk⟩]
  unfold stepErr
  rw [hc, if_pos rfl, if_pos (by omega)]
theorem Law.over (h : Law c) (seed : Int) (l : List Int) (k b : Nat) (hk : k ≤ 60) (hb : 1 ≤ b ∧ b ≤ 4) :
    overlappingE 1 (lstF (uS c seed l) k) b = varF (k - 2 * b) (secS (uS c seed l) b) (2 * b * b) := by
  rw [overlappingE_eq]
  unfold errF
  rw [if_pos (h.step seed l k b hk hb), lstF_len]
  have e : divTwo (b : Int) 1 = 2 * b * b := by unfold divTwo; omega
  rw [e, Int.toNat_natCast]
  refine varF_congr _ fun i hi => ?_
  unfold secAt secS
  rw [lstF_at _ _ _ (by omega), lstF_at _ _ _ (by omega), lstF_at _ _ _ (by omega)]
theorem Law.none (h : Law c) (seed : Int) (l : List Int) (k b : Nat) (hk : k ≤ 60) (hb : 1 ≤ b ∧ b ≤ 4) (h2 : k ≤ 2 * b) : overlappingE 1 (lstF (uS c seed l) k) b = ⟨0, 0, 4⟩ := by
  rw [h.over seed l k b hk hb]
  exact if_pos (by omega)
def topS (c : Cnt) (l : List Int) (k b : Nat) : Int := mostS (secS (trueS l) b) (k - 2 * b) + 4 * faultS c
structure VarOk (b : Nat) (M vn vd : Int) : Prop where
  n : 0 ≤ vn ∧ vn ≤ 100000000000
  d : 1 ≤ vd ∧ vd ≤ 10000
  m : 0 ≤ M ∧ M ≤ 20000
  le : 2 * b * b * vn ≤ M * M * vd
theorem Law.some (h : Law c) (seed : Int) (l : List Int) (k b : Nat) (hk : k ≤ 60) (hb : 1 ≤ b ∧ b ≤ 4) (h2 : 2 * b < k) :
    (overlappingE 1 (lstF (uS c seed l) k) b).e = 0 ∧ VarOk b (topS c l k b) (overlappingE 1 (lstF (uS c seed l) k) b).n (overlappingE 1 (lstF (uS c seed l) k) b).d := by
  rw [h.over seed l k b hk hb]
  unfold varF
  rw [if_neg (by omega)]
  have hf := h.fault
  have hm := mostS_bd (secS (trueS l) b) 16000 (by decide) (k - 2 * b) fun i _ => true_sec l b i (by omega)
  have hM : 0 ≤ topS c l k b ∧ topS c l k b ≤ 20000 := by unfold topS; omega
  have hs : ∀ i, i < k - 2 * b → -topS c l k b ≤ secS (uS c seed l) b i ∧ secS (uS c seed l) b i ≤ topS c l k b := fun i hi => by
    have h1 := h.sec seed l b i
    have h3 := mostS_ge (secS (trueS l) b) (k - 2 * b) i hi
    unfold topS
    omega
  have hbb : (1 : Int) ≤ 2 * b * b ∧ (2 : Int) * b * b ≤ 32 := by
    have : b = 1 ∨ b = 2 ∨ b = 3 ∨ b = 4 := by omega
    rcases this with rfl | rfl | rfl | rfl <;> decide
  have hle := var_le (secS (uS c seed l) b) (topS c l k b) (2 * b * b) (k - 2 * b) (by omega) hbb.1 hs
  obtain ⟨s1, s2⟩ := sum_sq (secS (uS c seed l) b) (topS c l k b) (k - 2 * b) hs
  have hMM : topS c l k b * topS c l k b ≤ 400000000 := by
    have : topS c l k b * topS c l k b ≤ 20000 * 20000 := Int.mul_le_mul hM.2 hM.2 hM.1 (by decide)
    omega
  have hMM0 : 0 ≤ topS c l k b * topS c l k b := Int.mul_nonneg hM.1 hM.1
  have hkm : ((k - 2 * b : Nat) : Int) * (topS c l k b * topS c l k b) ≤ 60 * 400000000 := Int.mul_le_mul (by omega) hMM hMM0 (by decide)
  have hkd : 1 ≤ ((k - 2 * b : Nat) : Int) * (2 * b * b) ∧ ((k - 2 * b : Nat) : Int) * (2 * b * b) ≤ 60 * 32 := by
    have a1 : (1 : Int) * 1 ≤ ((k - 2 * b : Nat) : Int) * (2 * b * b) := Int.mul_le_mul (by omega) hbb.1 (by decide) (by omega)
    have a2 : ((k - 2 * b : Nat) : Int) * (2 * b * b) ≤ 60 * 32 := Int.mul_le_mul (by omega) hbb.2 (by omega) (by decide)
    omega
  generalize sumF (fun i => secS (uS c seed l) b i * secS (uS c seed l) b i) (k - 2 * b) = S at *
  generalize ((k - 2 * b : Nat) : Int) * (2 * b * b) = T at *
  have hg := gcdS_pos S T hkd.1
  have h5 : 0 ≤ lowN S T ∧ lowN S T ≤ S := ⟨Int.ediv_nonneg s1 (by omega), Int.ediv_le_self _ s1⟩
  have h6 : 1 ≤ lowD S T ∧ lowD S T ≤ T := ⟨lowD_pos S T hkd.1, Int.ediv_le_self _ (by omega)⟩
  exact ⟨rfl, ⟨by show 0 ≤ lowN S T ∧ lowN S T ≤ _; omega, by show 1 ≤ lowD S T ∧ lowD S T ≤ _; omega, hM, hle⟩⟩
theorem even_r (h : Law c) : c.r % 2 = 0 := by
  have h1 := h.i.m
  have h2 := Int.emod_add_mul_ediv c.r (2 * c.g)
  rw [h1] at h2
  have h3 : 2 * c.g * (c.r / (2 * c.g)) = 2 * (c.g * (c.r / (2 * c.g))) := by grind
  omega
end Go.Proofs.Ythkndjkgokojmaa.Ct
