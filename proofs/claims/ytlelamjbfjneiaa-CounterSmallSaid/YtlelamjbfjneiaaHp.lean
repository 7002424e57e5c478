/- Plain facts of layer 2: what Resolve says of what Show shows; what is shown is near. -/
import Derived.Test.YtlelamjbfjneiaaNo
namespace Go.Proofs.Ytlelamjbfjneiaa.Ct
open Go Go.RowKit
theorem r_even {c : Cnt} (h : CntIn c) : c.r % 2 = 0 ∧ 2 ≤ c.r := by
  have h1 := h.m
  have h2 := Int.emod_add_mul_ediv c.r (2 * c.g)
  rw [h1] at h2
  have h3 : 2 * c.g * (c.r / (2 * c.g)) = 2 * (c.g * (c.r / (2 * c.g))) := by grind
  have h4 := h.r
  omega
theorem shown_turn (c : Cnt) (x : Int) : ∃ k, x = wrapS c x + k * c.r := by
  refine ⟨(x + c.r / 2) / c.r, ?_⟩
  unfold wrapS
  have := Int.emod_add_mul_ediv (x + c.r / 2) c.r
  have e : c.r * ((x + c.r / 2) / c.r) = (x + c.r / 2) / c.r * c.r := Int.mul_comm _ _
  omega
theorem near_f {c : Cnt} (h : CntIn c) (seed s d : Int) : -faultS c ≤ roundS c (rawS c seed s d) - c.f * d - c.o ∧ roundS c (rawS c seed s d) - c.f * d - c.o ≤ faultS c := by
  have h1 := roundS_bd h (rawS c seed s d)
  have h2 := drawS_bd (sourceS seed 3 c.i) s c.j h.j.1
  have h3 : rawS c seed s d = c.f * d + c.o + drawS (sourceS seed 3 c.i) s c.j := rfl
  have := h.g
  unfold faultS
  omega
theorem shown_show {c : Cnt} (h : CntIn c) (seed s d : Int) : showB c (shownS c seed s d) = true := by
  have h1 := wrapS_bd h (roundS c (rawS c seed s d))
  have h2 := r_even h
  unfold showB shownS
  simp only [Bool.and_eq_true, decide_eq_true_eq]
  omega
theorem shown_grid {c : Cnt} (h : CntIn c) (seed s d : Int) : (shownS c seed s d).tmod c.g = 0 := by
  obtain ⟨k, hk⟩ := shown_turn c (roundS c (rawS c seed s d))
  have h2 := Int.emod_add_mul_ediv c.r (2 * c.g)
  rw [h.m] at h2
  apply Int.tmod_eq_zero_of_dvd
  refine ⟨(2 * rawS c seed s d + c.g) / (2 * c.g) - k * (2 * (c.r / (2 * c.g))), ?_⟩
  show wrapS c (roundS c (rawS c seed s d)) = _
  have e1 : roundS c (rawS c seed s d) = (2 * rawS c seed s d + c.g) / (2 * c.g) * c.g := rfl
  generalize wrapS c (roundS c (rawS c seed s d)) = m at *
  generalize (2 * rawS c seed s d + c.g) / (2 * c.g) = q at *
  generalize c.r / (2 * c.g) = t at *
  have e2 : m = q * c.g - k * (2 * c.g * t) := by
    have : k * c.r = k * (2 * c.g * t) := by rw [show c.r = 2 * c.g * t by omega]
    omega
  rw [e2]
  grind
theorem shown_far {c : Cnt} (h : CntIn c) (seed s d : Int) : ¬ (faultS c < (c.f * d + c.o - shownS c seed s d) % c.r ∧ faultS c < c.r - (c.f * d + c.o - shownS c seed s d) % c.r) := by
  obtain ⟨k, hk⟩ := shown_turn c (roundS c (rawS c seed s d))
  have hn := near_f h seed s d
  have hr := h.r
  have hb1 := Int.emod_nonneg (c.f * d + c.o - shownS c seed s d) (show c.r ≠ 0 by omega)
  have hb2 := Int.emod_lt_of_pos (c.f * d + c.o - shownS c seed s d) (show 0 < c.r by omega)
  have e : c.f * d + c.o - shownS c seed s d = (c.f * d + c.o - roundS c (rawS c seed s d)) + c.r * k := by
    have : shownS c seed s d = wrapS c (roundS c (rawS c seed s d)) := rfl
    have : k * c.r = c.r * k := Int.mul_comm _ _
    omega
  rw [e, Int.add_mul_emod_self_left] at hb1 hb2 ⊢
  have hd : -faultS c ≤ c.f * d + c.o - roundS c (rawS c seed s d) ∧ c.f * d + c.o - roundS c (rawS c seed s d) ≤ faultS c := by omega
  generalize c.f * d + c.o - roundS c (rawS c seed s d) = δ at *
  by_cases h1 : c.r ≤ faultS c
  · omega
  · by_cases h2 : 0 ≤ δ
    · rw [Int.emod_eq_of_lt h2 (by omega)]; omega
    · have e3 : δ % c.r = δ + c.r := by
        rw [show δ % c.r = (δ + c.r) % c.r by rw [Int.add_emod_right]]
        exact Int.emod_eq_of_lt (by omega) (by omega)
      rw [e3]; omega
theorem spanL_mem {c : Cnt} {mid lo hi first : Int} {j n : Nat} (hj : j < n) (hc : xLo c mid lo (first + j) ≤ xHi c mid hi (first + j)) : (xLo c mid lo (first + j), xHi c mid hi (first + j)) ∈ spanL c mid lo hi first n := by
  refine (spanL_prefix c mid lo hi first (show j + 1 ≤ n by omega)).subset ?_
  rw [spanL, if_pos hc]
  simp
theorem spanL_two {c : Cnt} {mid lo hi first : Int} {i j n : Nat} (hi' : i < j) (hj : j < n) (h1 : xLo c mid lo (first + i) ≤ xHi c mid hi (first + i)) (h2 : xLo c mid lo (first + j) ≤ xHi c mid hi (first + j)) : 2 ≤ (spanL c mid lo hi first n).length := by
  have a := (spanL_prefix c mid lo hi first (show j + 1 ≤ n by omega)).length_le
  rw [spanL, if_pos h2, List.length_append] at a
  have b := List.length_pos_of_mem (spanL_mem (c := c) (mid := mid) (lo := lo) (hi := hi) (first := first) hi' h1)
  simp at a
  omega
theorem pick_two {L : List (Int × Int)} (h : 2 ≤ L.length) : (pickS L).2 = 8 := by
  match L, h with
  | _ :: _ :: _, _ => rfl
theorem pick_mem {L : List (Int × Int)} {e : Int × Int} (h : e ∈ L) : (pickS L).2 = 8 ∨ pickS L = (e, 0) := by
  match L, h with
  | [x], h => exact .inr (by rw [List.mem_singleton.1 h]; rfl)
  | _ :: _ :: _, _ => exact .inl rfl
theorem holds_plain {c : Cnt} (h : CntIn c) (seed s d lo hi : Int) (hd : lo ≤ d ∧ d ≤ hi) (hlo : -1000000000000000 ≤ lo) (hhi : hi ≤ 1000000000000000) :
    (resS c (shownS c seed s d) lo hi).2 = 8 ∨ ∃ x y, resS c (shownS c seed s d) lo hi = ((x, y), 0) ∧ x ≤ d ∧ d ≤ y ∧ lo ≤ x ∧ y ≤ hi := by
  have hs := shown_show h seed s d
  unfold resS
  rw [hs, show inDiff lo = true by unfold inDiff; simp only [Bool.and_eq_true, decide_eq_true_eq]; omega, show inDiff hi = true by unfold inDiff; simp only [Bool.and_eq_true, decide_eq_true_eq]; omega, show (true && true && true) = true from rfl, if_pos rfl, if_neg (by omega)]
  obtain ⟨k, hk⟩ := shown_turn c (roundS c (rawS c seed s d))
  have hn := near_f h seed s d
  have hf := h.f
  have hr := h.r
  have em : midS c (shownS c seed s d) + k * c.r = roundS c (rawS c seed s d) - c.o := by
    have : midS c (shownS c seed s d) = wrapS c (roundS c (rawS c seed s d)) - c.o := rfl
    omega
  have f1 : c.f * lo ≤ c.f * d := Int.mul_le_mul_of_nonneg_left hd.1 (by omega)
  have f2 : c.f * d ≤ c.f * hi := Int.mul_le_mul_of_nonneg_left hd.2 (by omega)
  have fc : d * c.f = c.f * d := Int.mul_comm _ _
  -- a turn between has a number
  have any : ∀ j : Int, firstS c (shownS c seed s d) lo ≤ j → (∃ t : Int, 0 ≤ t ∧ k = j + c.f * t) → xLo c (midS c (shownS c seed s d)) lo j ≤ xHi c (midS c (shownS c seed s d)) hi j := by
    rintro j hj ⟨t, ht, hjt⟩
    have a1 := (ceil_iff _ _ _ hr.1).1 hj
    have e1 : k * c.r = j * c.r + c.f * (t * c.r) := by rw [hjt]; grind
    have e2 : 0 ≤ t * c.r := Int.mul_nonneg ht (by omega)
    have e3 : (d - t * c.r) * c.f = c.f * d - c.f * (t * c.r) := by grind
    have b1 : turnLo c (midS c (shownS c seed s d) + j * c.r) ≤ d - t * c.r := (ceil_iff _ _ _ hf.1).2 (by omega)
    have b2 : d - t * c.r ≤ turnHi c (midS c (shownS c seed s d) + j * c.r) := (Int.le_ediv_iff_mul_le (by omega)).2 (by omega)
    have b3 : lo ≤ turnHi c (midS c (shownS c seed s d) + j * c.r) := (Int.le_ediv_iff_mul_le (by omega)).2 (by have : lo * c.f = c.f * lo := Int.mul_comm _ _; omega)
    unfold xLo xHi
    omega
  have hfk : firstS c (shownS c seed s d) lo ≤ k := (ceil_iff _ _ _ hr.1).2 (by omega)
  have hkf : k ≤ farS c (shownS c seed s d) hi := (Int.le_ediv_iff_mul_le (by omega)).2 (by omega)
  unfold foundL
  by_cases hkl : k ≤ lastS c (shownS c seed s d) lo hi
  · have hx := any k hfk ⟨0, Int.le_refl _, by omega⟩
    obtain ⟨j, hj⟩ : ∃ j : Nat, k = firstS c (shownS c seed s d) lo + (j : Int) := ⟨(k - firstS c (shownS c seed s d) lo).toNat, by omega⟩
    have hjn : j < turnN c (shownS c seed s d) lo hi := by unfold turnN; omega
    rw [hj] at hx
    rcases pick_mem (spanL_mem hjn hx) with h8 | h0
    · exact .inl h8
    · refine .inr ⟨_, _, h0, ?_⟩
      have b1 : turnLo c (midS c (shownS c seed s d) + k * c.r) ≤ d := (ceil_iff _ _ _ hf.1).2 (by omega)
      have b2 : d ≤ turnHi c (midS c (shownS c seed s d) + k * c.r) := (Int.le_ediv_iff_mul_le (by omega)).2 (by omega)
      rw [← hj]
      unfold xLo xHi
      omega
  · have hlast : lastS c (shownS c seed s d) lo hi = firstS c (shownS c seed s d) lo + 2 * c.f - 1 := by unfold lastS at hkl ⊢; omega
    -- two turns before it
    have d1 := Int.emod_nonneg (k - firstS c (shownS c seed s d) lo) (show c.f ≠ 0 by omega)
    have d2 := Int.emod_lt_of_pos (k - firstS c (shownS c seed s d) lo) (show 0 < c.f by omega)
    have d3 := Int.emod_add_mul_ediv (k - firstS c (shownS c seed s d) lo) c.f
    have d4 : 2 ≤ (k - firstS c (shownS c seed s d) lo) / c.f := (Int.le_ediv_iff_mul_le (by omega)).2 (by omega)
    generalize (k - firstS c (shownS c seed s d) lo) / c.f = t at *
    obtain ⟨i, hi'⟩ : ∃ i : Nat, (k - firstS c (shownS c seed s d) lo) % c.f = (i : Int) := ⟨((k - firstS c (shownS c seed s d) lo) % c.f).toNat, by omega⟩
    rw [hi'] at d1 d2 d3
    obtain ⟨F, hF⟩ : ∃ F : Nat, c.f = (F : Int) := ⟨c.f.toNat, by omega⟩
    have x1 := any (firstS c (shownS c seed s d) lo + (i : Int)) (by omega) ⟨t, by omega, by omega⟩
    have x2 := any (firstS c (shownS c seed s d) lo + ((i + F : Nat) : Int)) (by push_cast; omega) ⟨t - 1, by omega, by
      have e : c.f * (t - 1) = c.f * t - c.f := by grind
      push_cast; omega⟩
    exact .inl (pick_two (spanL_two (show i < i + F by omega) (show i + F < turnN c (shownS c seed s d) lo hi by unfold turnN; omega) x1 x2))
end Go.Proofs.Ytlelamjbfjneiaa.Ct
