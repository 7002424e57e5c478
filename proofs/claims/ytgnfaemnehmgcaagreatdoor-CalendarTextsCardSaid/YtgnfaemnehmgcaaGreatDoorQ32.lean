/- Layer 9 (calendar): the days of seconds, plain. -/
import Derived.Test.YtgnfaemnehmgcaaGreatDoorQ12
namespace Go.Proofs.YtgnfaemnehmgcaaGreatDoor.Cal
theorem stepAt_none {f : Nat → Int × Int} {d : Int} : ∀ k : Nat, (∀ i, i < k → (f i).1 ≠ d) → stepAt f k d = 0
  | 0, _ => rfl
  | k + 1, h => by rw [stepAt, if_neg (h k (by omega))]; exact stepAt_none k (fun i hi => h i (by omega))
theorem grow_succ {f : Nat → Int × Int} {n : Nat} (ho : ∀ i j, i < j → j < n → (f i).1 < (f j).1) (d : Int) : ∀ k : Nat, k ≤ n → growS f k (d + 1) = growS f k d + stepAt f k d
  | 0, _ => rfl
  | k + 1, hk => by
    have ih := grow_succ ho d k (by omega)
    rw [growS, growS, stepAt]
    by_cases e : (f k).1 = d
    · have h0 : stepAt f k d = 0 := stepAt_none k (fun i hi => by have := ho i k hi (by omega); omega)
      rw [if_pos (by omega), if_neg (by omega), if_pos e, ih, h0]
    · rw [if_neg e]
      by_cases h1 : (f k).1 < d
      · rw [if_pos (by omega), if_pos h1, ih]; omega
      · rw [if_neg (by omega), if_neg h1, ih]; omega
theorem TabOk.begin_succ {b u : Int} {n : Nat} {f : Nat → Int × Int} (h : TabOk b u n f) (d : Int) : beginS f n (d + 1) = beginS f n d + 86400 + stepAt f n d := by
  have := grow_succ h.o d n (Nat.le_refl _)
  unfold beginS; rw [this]; omega
theorem TabOk.begin_first {b u : Int} {n : Nat} {f : Nat → Int × Int} (h : TabOk b u n f) : beginS f n 41317 = 0 := by
  have hd := h.d1
  clear h
  have : ∀ k : Nat, k ≤ n → growS f k 41317 = 0 := by
    intro k
    induction k with
    | zero => intro _; rfl
    | succ k ih => intro hk; have := hd k (by omega); rw [growS, ih (by omega), if_neg (by omega)]; rfl
  unfold beginS; rw [this n (Nat.le_refl _)]; rfl
theorem TabOk.begin_lt {b u : Int} {n : Nat} {f : Nat → Int × Int} (h : TabOk b u n f) (d : Int) (k : Nat) : beginS f n d + k * 86399 ≤ beginS f n (d + k) := by
  induction k with
  | zero => simp
  | succ k ih =>
    have h1 := h.begin_succ (d + k)
    have h2 := stepAt_bd (f := f) (d + k) n h.s
    rw [show d + ((k + 1 : Nat) : Int) = d + k + 1 by omega]; omega
theorem TabOk.begin_mono {b u : Int} {n : Nat} {f : Nat → Int × Int} (h : TabOk b u n f) {d e : Int} (hde : d ≤ e) : beginS f n d ≤ beginS f n e := by
  have := h.begin_lt d (e - d).toNat
  rw [show d + ((e - d).toNat : Int) = e by omega] at this
  omega
/-- D is the day of the second s -/
structure IsDayOf (u : Int) (n : Nat) (f : Nat → Int × Int) (s D : Int) : Prop where
  d1 : 41317 ≤ D
  d2 : D ≤ u - 1
  lo : beginS f n D ≤ s
  hi : s < beginS f n (D + 1)
theorem TabOk.day_exists {b u : Int} {n : Nat} {f : Nat → Int × Int} (h : TabOk b u n f) {s : Int} (h0 : 0 ≤ s) (h1 : s < beginS f n u) : ∃ D, IsDayOf u n f s D := by
  have key : ∀ k : Nat, (41317 : Int) + k ≤ u → s < beginS f n (41317 + k) → ∃ D, IsDayOf u n f s D := by
    intro k
    induction k with
    | zero => intro _ hs; rw [show (41317 : Int) + ((0 : Nat) : Int) = 41317 by rfl, h.begin_first] at hs; omega
    | succ k ih =>
      intro hu hs
      by_cases e : s < beginS f n (41317 + k)
      · exact ih (by omega) e
      · exact ⟨41317 + k, by omega, by omega, by omega, by rw [show (41317 : Int) + k + 1 = 41317 + ((k + 1 : Nat) : Int) by omega]; exact hs⟩
  have := h.u1
  exact key (u - 41317).toNat (by omega) (by rw [show (41317 : Int) + ((u - 41317).toNat : Int) = u by omega]; exact h1)
theorem IsDayOf.after {b u : Int} {n : Nat} {f : Nat → Int × Int} (ht : TabOk b u n f) {s D : Int} (h : IsDayOf u n f s D) {e : Int} (he : D < e) : s < beginS f n e := by
  have := ht.begin_mono (show D + 1 ≤ e by omega)
  have := h.hi; omega
theorem IsDayOf.before {b u : Int} {n : Nat} {f : Nat → Int × Int} (ht : TabOk b u n f) {s D : Int} (h : IsDayOf u n f s D) {e : Int} (he : e ≤ D) : beginS f n e ≤ s := by
  have := ht.begin_mono he
  have := h.lo; omega
theorem TabOk.total_bd {b u : Int} {n : Nat} {f : Nat → Int × Int} (h : TabOk b u n f) : 0 ≤ beginS f n u ∧ beginS f n u ≤ 100000000000 := by
  have h1 := h.begin_mono (show 41317 ≤ u by have := h.u1; omega)
  rw [h.begin_first] at h1
  have := h.grow_bd u
  have := h.u2
  unfold beginS at *; omega
def minS (r : Int) : Int := if 1439 < r / 60 then 1439 else r / 60
/-- the seconds of a day -/
theorem IsDayOf.rest_bd {b u : Int} {n : Nat} {f : Nat → Int × Int} (ht : TabOk b u n f) {s D : Int} (h : IsDayOf u n f s D) : 0 ≤ s - beginS f n D ∧ s - beginS f n D ≤ 86400 := by
  have h1 := ht.begin_succ D
  have h2 := stepAt_bd (f := f) D n ht.s
  have := h.lo; have := h.hi; omega
theorem minS_bd (r : Int) (h : 0 ≤ r) : 0 ≤ minS r ∧ minS r ≤ 1439 := by unfold minS; split <;> omega
theorem sec_bd (r : Int) (h : 0 ≤ r ∧ r ≤ 86400) : 0 ≤ r - 60 * minS r ∧ r - 60 * minS r ≤ 60 := by unfold minS; split <;> omega
theorem mom_day (D r : Int) (h : 0 ≤ r) : (1440 * D + minS r) / 1440 = D ∧ (1440 * D + minS r) % 1440 = minS r := by
  have := minS_bd r h
  omega
theorem eom_date {n y : Int} {m : Nat} {d : Int} (h : IsCiv n y m d) : dayN y m (dm y m) = n - d + dm y m := by
  have := h.n_
  unfold dayN at *; omega
/-- which dates the reference takes -/
def secB (u : Int) (f : Nat → Int × Int) (n : Nat) (D h mi s : Int) : Bool :=
  decide (D < u) && (decide (0 ≤ h) && decide (h ≤ 23)) && (decide (0 ≤ mi) && decide (mi ≤ 59)) && decide (0 ≤ s) && decide (s ≤ 59 + (if h = 23 ∧ mi = 59 then stepAt f n D else 0))
theorem sec_same {b u : Int} {n : Nat} {f : Nat → Int × Int} (ht : TabOk b u n f) {D : Int} (hD : 41317 ≤ D) (h mi s : Int) :
    secB u f n D h mi s = (tB h && miB mi && sB s && hasB u f n (1440 * D + 60 * h + mi) s) := by
  have hs := stepAt_bd (f := f) D n ht.s
  by_cases h1 : 0 ≤ h ∧ h ≤ 23
  · by_cases h2 : 0 ≤ mi ∧ mi ≤ 59
    · have e1 : (1440 * D + 60 * h + mi) / 1440 = D := by omega
      have e2 : (1440 * D + 60 * h + mi) % 1440 = 60 * h + mi := by omega
      unfold secB tB miB sB hasB lenS dayK
      rw [e1, e2]
      by_cases h3 : h = 23 ∧ mi = 59
      · rw [if_pos h3, if_pos (by omega)]
        rw [Bool.eq_iff_iff]; simp only [Bool.and_eq_true, decide_eq_true_eq]; omega
      · rw [if_neg h3, if_neg (by omega)]
        rw [Bool.eq_iff_iff]; simp only [Bool.and_eq_true, decide_eq_true_eq]; omega
    · have e1 : secB u f n D h mi s = false := by
        unfold secB; rw [Bool.eq_false_iff]; intro hc; simp only [Bool.and_eq_true, decide_eq_true_eq] at hc; omega
      have e2 : miB mi = false := by unfold miB; rw [Bool.eq_false_iff]; intro hc; simp only [Bool.and_eq_true, decide_eq_true_eq] at hc; omega
      rw [e1, e2]; simp
  · have e1 : secB u f n D h mi s = false := by
      unfold secB; rw [Bool.eq_false_iff]; intro hc; simp only [Bool.and_eq_true, decide_eq_true_eq] at hc; omega
    have e2 : tB h = false := by unfold tB; rw [Bool.eq_false_iff]; intro hc; simp only [Bool.and_eq_true, decide_eq_true_eq] at hc; omega
    rw [e1, e2]; simp
theorem num_same {D h mi s : Int} (f : Nat → Int × Int) (n : Nat) (h1 : 0 ≤ h ∧ h ≤ 23) (h2 : 0 ≤ mi ∧ mi ≤ 59) : numS f n (1440 * D + 60 * h + mi) s = beginS f n D + 3600 * h + 60 * mi + s := by
  have e1 : (1440 * D + 60 * h + mi) / 1440 = D := by omega
  have e2 : (1440 * D + 60 * h + mi) % 1440 = 60 * h + mi := by omega
  unfold numS; rw [e1, e2]; omega
end Go.Proofs.YtgnfaemnehmgcaaGreatDoor.Cal
