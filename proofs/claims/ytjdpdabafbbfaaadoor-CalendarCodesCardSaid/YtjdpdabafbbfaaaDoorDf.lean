/- Layer 9 (calendar): tables of leap seconds, plain. -/
import Derived.Test.YtjdpdabafbbfaaaDoorDa
namespace Go.Proofs.YtjdpdabafbbfaaaDoor.Cal
/-- the month in which a day of a year lies -/
def moF (y r : Int) : Nat → Nat
  | 0 => 1
  | k + 1 => if cm y k ≤ r then k + 1 else moF y r k
theorem moF_spec (y r : Int) (h0 : 0 ≤ r) : ∀ k : Nat, r < cm y k → 1 ≤ moF y r k ∧ moF y r k ≤ k ∧ cm y (moF y r k - 1) ≤ r ∧ r < cm y (moF y r k)
  | 0, h => by simp [cm] at h; omega
  | k + 1, h => by
    by_cases e : cm y k ≤ r
    · rw [moF, if_pos e]
      exact ⟨by omega, Nat.le_refl _, by simpa using e, h⟩
    · rw [moF, if_neg e]
      obtain ⟨a, b, c, d⟩ := moF_spec y r h0 k (by omega)
      exact ⟨a, by omega, c, d⟩
def mo (n : Int) : Nat := moF (yr n) (n - ny (yr n)) 12
def da (n : Int) : Int := n - ny (yr n) - cm (yr n) (mo n - 1) + 1
def eom (n : Int) : Int := n - da n + dm (yr n) (mo n)
theorem civ_is (n : Int) (h : 41317 ≤ n ∧ n ≤ 88068) : IsCiv n (yr n) (mo n) (da n) := by
  obtain ⟨h1, h2⟩ := yr_spec n
  have hy : 1972 ≤ yr n ∧ yr n ≤ 2099 := by unfold yr; omega
  rw [ny_succ] at h2
  obtain ⟨a, b, c, d⟩ := moF_spec (yr n) (n - ny (yr n)) (by omega) 12 (by omega)
  have := cm_pred (yr n) (mo n) a
  unfold da
  exact ⟨⟨hy.1, hy.2, a, b, by unfold mo; omega, by unfold mo at *; omega⟩, by unfold dayN; omega⟩
theorem eom_bd (n : Int) (h : 41317 ≤ n ∧ n ≤ 88068) : n ≤ eom n ∧ eom n ≤ n + 31 := by
  have c := civ_is n h
  have := c.d1; have := c.d2; have := dm_bd (yr n) (mo n)
  unfold eom; omega
/-- a leap that is allowed -/
def leapB (d s : Int) : Bool := (decide (s = 1) || decide (s = -1)) && (!(decide (41317 ≤ d) && decide (d ≤ 88068)) || decide (d = eom d))
def dayK (u d : Int) : Bool := decide (41317 ≤ d) && decide (d ≤ u - 1)
/-- the error of leap k, behind leaps that have none -/
def lE (u : Int) (f : Nat → Int × Int) (k : Nat) : Int :=
  if leapB (f k).1 (f k).2 = true then if dayK u (f k).1 = true then if (if k = 0 then 0 else (f (k - 1)).1) < (f k).1 then 0 else 11 else 6 else 91
def lErr (u : Int) (f : Nat → Int × Int) : Nat → Int
  | 0 => 0
  | k + 1 => if lErr u f k = 0 then lE u f k else lErr u f k
theorem lErr_stop {u : Int} {f : Nat → Int × Int} {k : Nat} (h : lErr u f k ≠ 0) : ∀ n, k ≤ n → lErr u f n = lErr u f k
  | 0, hn => by have : k = 0 := by omega
                subst this; rfl
  | n + 1, hn => by
    by_cases e : k = n + 1
    · subst e; rfl
    · have := lErr_stop h n (by omega)
      rw [lErr, if_neg (by rw [this]; exact h), this]
theorem lErr_at {u : Int} {f : Nat → Int × Int} {k n : Nat} (hk : k < n) (h0 : lErr u f k = 0) (h : lE u f k ≠ 0) : lErr u f n = lE u f k := by
  have e : lErr u f (k + 1) = lE u f k := by rw [lErr, if_pos h0]
  rw [lErr_stop (k := k + 1) (by rw [e]; exact h) n hk, e]
def tabB (b u : Int) : Bool := (decide (0 ≤ b) && decide (b ≤ 100)) && (decide (41318 ≤ u) && decide (u ≤ 88069))
/-- the error of a table -/
def tabE (b u : Int) (n : Nat) (f : Nat → Int × Int) : Int := if tabB b u = true then if n ≤ 100 then lErr u f n else 2 else 6
/-- a table that is valid -/
structure TabOk (b u : Int) (n : Nat) (f : Nat → Int × Int) : Prop where
  b1 : 0 ≤ b
  b2 : b ≤ 100
  u1 : 41318 ≤ u
  u2 : u ≤ 88069
  n1 : n ≤ 100
  s : ∀ i, i < n → (f i).2 = 1 ∨ (f i).2 = -1
  d1 : ∀ i, i < n → 41317 ≤ (f i).1 ∧ (f i).1 ≤ u - 1
  e : ∀ i, i < n → (f i).1 = eom (f i).1
  o : ∀ i j, i < j → j < n → (f i).1 < (f j).1
theorem lErr_back {u : Int} {f : Nat → Int × Int} : ∀ n, lErr u f n = 0 → ∀ k, k < n → lE u f k = 0
  | 0, _, k, hk => by omega
  | n + 1, h, k, hk => by
    rw [lErr] at h
    by_cases e : lErr u f n = 0
    · rw [if_pos e] at h
      by_cases ek : k = n
      · subst ek; exact h
      · exact lErr_back n e k (by omega)
    · rw [if_neg e] at h; exact absurd h e
theorem lE_zero {u : Int} {f : Nat → Int × Int} {k : Nat} (h : lE u f k = 0) : leapB (f k).1 (f k).2 = true ∧ dayK u (f k).1 = true ∧ (if k = 0 then 0 else (f (k - 1)).1) < (f k).1 := by
  unfold lE at h
  by_cases h1 : leapB (f k).1 (f k).2 = true
  · by_cases h2 : dayK u (f k).1 = true
    · by_cases h3 : (if k = 0 then 0 else (f (k - 1)).1) < (f k).1
      · exact ⟨h1, h2, h3⟩
      · rw [if_pos h1, if_pos h2, if_neg h3] at h; cases h
    · rw [if_pos h1, if_neg h2] at h; cases h
  · rw [if_neg h1] at h; cases h
theorem tab_ok {b u : Int} {n : Nat} {f : Nat → Int × Int} (h : tabE b u n f = 0) : TabOk b u n f := by
  unfold tabE at h
  by_cases hb : tabB b u = true
  · rw [if_pos hb] at h
    by_cases hn : n ≤ 100
    · rw [if_pos hn] at h
      have hl := fun k hk => lE_zero (lErr_back n h k hk)
      unfold tabB at hb
      simp only [Bool.and_eq_true, decide_eq_true_eq] at hb
      have hd : ∀ i, i < n → 41317 ≤ (f i).1 ∧ (f i).1 ≤ u - 1 := fun i hi => by
        have := (hl i hi).2.1
        unfold dayK at this
        simpa using this
      have hs : ∀ i, i + 1 < n → (f i).1 < (f (i + 1)).1 := fun i hi => by
        have := (hl (i + 1) hi).2.2
        simpa using this
      refine ⟨hb.1.1, hb.1.2, hb.2.1, hb.2.2, hn, fun i hi => ?_, hd, fun i hi => ?_, fun i j hij hj => ?_⟩
      · have := (hl i hi).1
        unfold leapB at this
        simp only [Bool.and_eq_true, Bool.or_eq_true, decide_eq_true_eq] at this
        exact this.1
      · have := (hl i hi).1
        unfold leapB at this
        simp only [Bool.and_eq_true, Bool.or_eq_true, decide_eq_true_eq, Bool.not_eq_true', Bool.and_eq_false_iff, decide_eq_false_iff_not] at this
        have := hd i hi
        omega
      · obtain ⟨k, rfl⟩ : ∃ k, j = i + 1 + k := ⟨j - (i + 1), by omega⟩
        clear hij
        induction k with
        | zero => exact hs i hj
        | succ k ih =>
          have := ih (by omega)
          have := hs (i + 1 + k) (by omega)
          rw [show i + 1 + (k + 1) = i + 1 + k + 1 by omega]
          omega
    · rw [if_neg hn] at h; cases h
  · rw [if_neg hb] at h; cases h
/-- the step of a day: what a map says into which all leaps were laid -/
def stepAt (f : Nat → Int × Int) : Nat → Int → Int
  | 0, _ => 0
  | k + 1, d => if (f k).1 = d then (f k).2 else stepAt f k d
/-- the sum of the steps of days before a day -/
def growS (f : Nat → Int × Int) : Nat → Int → Int
  | 0, _ => 0
  | k + 1, d => growS f k d + if (f k).1 < d then (f k).2 else 0
def sumS (f : Nat → Int × Int) : Nat → Int
  | 0 => 0
  | k + 1 => sumS f k + (f k).2
theorem sumS_bd {f : Nat → Int × Int} : ∀ k : Nat, (∀ i, i < k → (f i).2 = 1 ∨ (f i).2 = -1) → -(k : Int) ≤ sumS f k ∧ sumS f k ≤ k
  | 0, _ => by simp [sumS]
  | k + 1, h => by
    have := sumS_bd k (fun i hi => h i (by omega))
    have := h k (by omega)
    rw [sumS]; omega
theorem stepAt_bd {f : Nat → Int × Int} (d : Int) : ∀ k : Nat, (∀ i, i < k → (f i).2 = 1 ∨ (f i).2 = -1) → -1 ≤ stepAt f k d ∧ stepAt f k d ≤ 1
  | 0, _ => by simp [stepAt]
  | k + 1, h => by
    have := stepAt_bd d k (fun i hi => h i (by omega))
    have := h k (by omega)
    rw [stepAt]; split <;> omega
/-- the first so many leaps are those of the days before a day -/
theorem grow_sum {f : Nat → Int × Int} {d : Int} {i : Nat} (hlt : ∀ j, j < i → (f j).1 < d) : ∀ n, i ≤ n → (∀ j, i ≤ j → j < n → d ≤ (f j).1) → growS f n d = sumS f i
  | 0, hn, _ => by have : i = 0 := by omega
                   subst this; rfl
  | n + 1, hn, hge => by
    by_cases e : i = n + 1
    · subst e
      have := grow_sum (i := n) (fun j hj => hlt j (by omega)) n (Nat.le_refl _) (fun j h1 h2 => by omega)
      rw [growS, if_pos (hlt n (by omega)), sumS, this]
    · have := grow_sum hlt n (by omega) (fun j h1 h2 => hge j h1 (by omega))
      have h3 := hge n (by omega) (by omega)
      rw [growS, if_neg (by omega), this]; omega
theorem TabOk.grow_bd {b u : Int} {n : Nat} {f : Nat → Int × Int} (h : TabOk b u n f) (d : Int) : -100 ≤ growS f n d ∧ growS f n d ≤ 100 := by
  have hn := h.n1
  have hs := h.s
  clear h
  have : ∀ k : Nat, k ≤ n → -(k : Int) ≤ growS f k d ∧ growS f k d ≤ k := by
    intro k
    induction k with
    | zero => intro _; simp [growS]
    | succ k ih =>
      intro hk
      have := ih (by omega)
      have := hs k (by omega)
      rw [growS]; split <;> omega
  have := this n (Nat.le_refl _)
  omega
def beginS (f : Nat → Int × Int) (n : Nat) (d : Int) : Int := 86400 * (d - 41317) + growS f n d
end Go.Proofs.YtjdpdabafbbfaaaDoor.Cal
