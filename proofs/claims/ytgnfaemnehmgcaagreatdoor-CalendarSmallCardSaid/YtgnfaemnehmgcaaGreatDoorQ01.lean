/-  ·  -/
import Derived.Test.YtgnfaemnehmgcaaGreatDoorProg
namespace Go.Proofs.YtgnfaemnehmgcaaGreatDoor.Cal
def mon (m : Int) : Int := if m = 2 then 28 else if m = 4 ∨ m = 6 ∨ m = 9 ∨ m = 11 then 30 else 31
def dm (y m : Int) : Int := if m = 2 ∧ y % 4 = 0 then 29 else mon m
def cm (y : Int) : Nat → Int
  | 0 => 0
  | k + 1 => cm y k + dm y ((k + 1 : Nat) : Int)
def ny (y : Int) : Int := 41317 + (1461 * (y - 1972) + 3) / 4
theorem dm_bd (y m : Int) : 28 ≤ dm y m ∧ dm y m ≤ 31 := by
  unfold dm mon
  split
  · omega
  · split
    · omega
    · split <;> omega
theorem cm_mono (y : Int) (a b : Nat) (h : a ≤ b) : cm y a ≤ cm y b := by
  induction b with
  | zero => have : a = 0 := by omega
            subst this; exact Int.le_refl _
  | succ b ih =>
    by_cases e : a = b + 1
    · subst e; exact Int.le_refl _
    · have := ih (by omega)
      have := dm_bd y ((b + 1 : Nat) : Int)
      rw [cm]; omega
theorem cm_nonneg (y : Int) (k : Nat) : 0 ≤ cm y k := cm_mono y 0 k (Nat.zero_le _)
theorem cm_twelve (y : Int) : cm y 12 = if y % 4 = 0 then 366 else 365 := by
  by_cases h : y % 4 = 0 <;> simp [cm, dm, mon, h]
theorem cm_le (y : Int) (k : Nat) (h : k ≤ 12) : cm y k ≤ 366 := by
  have := cm_mono y k 12 h
  rw [cm_twelve] at this
  split at this <;> omega
theorem ny_succ (y : Int) : ny (y + 1) = ny y + cm y 12 := by
  rw [cm_twelve]; unfold ny
  have e : y = 1972 + 4 * ((y - 1972) / 4) + (y - 1972) % 4 := by omega
  generalize (y - 1972) / 4 = q at e
  have hr : (y - 1972) % 4 = 0 ∨ (y - 1972) % 4 = 1 ∨ (y - 1972) % 4 = 2 ∨ (y - 1972) % 4 = 3 := by omega
  generalize (y - 1972) % 4 = r at e hr
  subst e
  rcases hr with rfl | rfl | rfl | rfl <;> split <;> omega
theorem ny_bd (y : Int) (h : 1972 ≤ y ∧ y ≤ 2099) : 41317 ≤ ny y ∧ ny y + cm y 12 ≤ 88069 := by
  rw [cm_twelve]; unfold ny
  split <;> omega
structure IsDate (y : Int) (m : Nat) (d : Int) : Prop where
  y1 : 1972 ≤ y
  y2 : y ≤ 2099
  m1 : 1 ≤ m
  m2 : m ≤ 12
  d1 : 1 ≤ d
  d2 : d ≤ dm y m
def dayN (y : Int) (m : Nat) (d : Int) : Int := ny y + cm y (m - 1) + d - 1
structure IsCiv (n y : Int) (m : Nat) (d : Int) : Prop extends IsDate y m d where
  n_ : n = dayN y m d
theorem cm_pred (y : Int) (m : Nat) (h : 1 ≤ m) : cm y m = cm y (m - 1) + dm y m := by
  obtain ⟨k, rfl⟩ : ∃ k, m = k + 1 := ⟨m - 1, by omega⟩
  rw [cm]; simp
theorem IsCiv.n_bd {n y : Int} {m : Nat} {d : Int} (h : IsCiv n y m d) : 41317 ≤ n ∧ n ≤ 88068 := by
  have h1 := ny_bd y ⟨h.y1, h.y2⟩
  have h2 := cm_nonneg y (m - 1)
  have h3 := cm_mono y m 12 h.m2
  have h4 := cm_pred y m h.m1
  have := h.n_; have := h.d1; have := h.d2
  unfold dayN at *
  omega
theorem find_month (y r : Int) (h0 : 0 ≤ r) : ∀ k : Nat, r < cm y k → ∃ m : Nat, 1 ≤ m ∧ m ≤ k ∧ cm y (m - 1) ≤ r ∧ r < cm y m
  | 0, h => by simp [cm] at h; omega
  | k + 1, h => by
    by_cases e : r < cm y k
    · obtain ⟨m, a, b, c, d⟩ := find_month y r h0 k e
      exact ⟨m, a, by omega, c, d⟩
    · exact ⟨k + 1, by omega, by omega, by simpa using e, h⟩
def yr (n : Int) : Int := 1972 + 4 * (n - 41317) / 1461
theorem yr_spec (n : Int) : ny (yr n) ≤ n ∧ n < ny (yr n + 1) := by
  unfold ny yr; omega
theorem yr_eq {n y : Int} (h1 : ny y ≤ n) (h2 : n < ny (y + 1)) : yr n = y := by
  unfold ny at *; unfold yr; omega
theorem civ_exists (n : Int) (h : 41317 ≤ n ∧ n ≤ 88068) : ∃ y m d, IsCiv n y m d := by
  obtain ⟨h1, h2⟩ := yr_spec n
  have hy : 1972 ≤ yr n ∧ yr n ≤ 2099 := by unfold yr; omega
  rw [ny_succ] at h2
  obtain ⟨m, a, b, c, d⟩ := find_month (yr n) (n - ny (yr n)) (by omega) 12 (by omega)
  have := cm_pred (yr n) m a
  exact ⟨yr n, m, n - ny (yr n) - cm (yr n) (m - 1) + 1, ⟨⟨hy.1, hy.2, a, b, by omega, by omega⟩, by unfold dayN; omega⟩⟩
theorem IsCiv.yr_ {n y : Int} {m : Nat} {d : Int} (h : IsCiv n y m d) : yr n = y := by
  have h2 := cm_nonneg y (m - 1)
  have h3 := cm_mono y m 12 h.m2
  have h4 := cm_pred y m h.m1
  have := h.n_; have := h.d1; have := h.d2
  unfold dayN at *
  refine yr_eq (by omega) ?_
  rw [ny_succ]; omega
theorem IsCiv.on {n y : Int} {m : Nat} {d : Int} (h : IsCiv n y m d) {yy : Int} {k : Nat} (hk : 1 ≤ k ∧ k ≤ 12) (hlt : 12 * yy + k < 12 * y + m) : dm yy k ≤ n - (ny yy + cm yy (k - 1)) := by
  have h4 := cm_pred yy k hk.1
  have h0 := h.n_; have := h.d1; have := h.m2
  unfold dayN at h0
  by_cases e : yy = y
  · subst e
    have := cm_mono yy k (m - 1) (by omega)
    omega
  · have hmono : ∀ j : Nat, ny (yy + 1) ≤ ny (yy + 1 + j) := fun j => by unfold ny; omega
    have h5 := hmono (y - (yy + 1)).toNat
    rw [show yy + 1 + ((y - (yy + 1)).toNat : Int) = y by omega, ny_succ] at h5
    have := cm_mono yy k 12 hk.2
    have := cm_nonneg y (m - 1)
    omega
theorem IsCiv.off {n y : Int} {m : Nat} {d : Int} (h : IsCiv n y m d) : ¬ dm y m ≤ n - (ny y + cm y (m - 1)) := by
  have h0 := h.n_; have := h.d2
  unfold dayN at h0
  omega
theorem IsCiv.rest {n y : Int} {m : Nat} {d : Int} (h : IsCiv n y m d) : n - (ny y + cm y (m - 1)) + 1 = d := by
  have h0 := h.n_
  unfold dayN at h0
  omega
def wd (n : Int) : Int := (n - 41317 + 5) % 7 + 1
def thu (n : Int) : Int := n - wd n + 4
def weekY (n : Int) : Int := yr (thu n)
def weekN (n : Int) : Int := (thu n - ny (yr (thu n))) / 7 + 1
def mond (y : Int) : Int := ny y + 3 - wd (ny y + 3) + 1
theorem mond_le (n y : Int) : mond y ≤ n ↔ ny y ≤ thu n := by
  unfold mond thu wd; omega
theorem week_n (n y : Int) (h : mond y ≤ n) : (n - wd n + 1 - mond y) / 7 + 1 = (thu n - ny y) / 7 + 1 := by
  revert h; unfold mond thu wd; omega
theorem thu_bd (n : Int) : n - 3 ≤ thu n ∧ thu n ≤ n + 3 := by unfold thu wd; omega
theorem wd_bd (n : Int) : 1 ≤ wd n ∧ wd n ≤ 7 := by unfold wd; omega
theorem thu_top (n : Int) (h : n ≤ 88068) : thu n ≤ 88068 := by unfold thu wd; omega
theorem weekY_bd (n : Int) (h : 41317 ≤ n ∧ n ≤ 88068) : 1971 ≤ weekY n ∧ weekY n ≤ 2099 ∧ weekY n ≤ yr n + 1 := by
  have h1 := thu_bd n
  have h2 := thu_top n h.2
  unfold weekY yr; omega
theorem week_1971 (n : Int) (h : 41317 ≤ n) (h2 : weekY n < 1972) : weekY n = 1971 ∧ weekN n = 52 := by
  have h3 : thu n = 41315 := by revert h2; unfold weekY yr thu wd; omega
  unfold weekY weekN; rw [h3]
  exact ⟨by decide, by decide⟩
theorem ny_mono (a b : Int) (h : a ≤ b) : ny a ≤ ny b := by unfold ny; omega
theorem mond_iff (n y : Int) : mond y ≤ n ↔ y ≤ weekY n := by
  rw [mond_le]; unfold weekY
  obtain ⟨h1, h2⟩ := yr_spec (thu n)
  constructor
  · intro h
    by_cases e : y ≤ yr (thu n)
    · exact e
    · have := ny_mono (yr (thu n) + 1) y (by omega)
      omega
  · intro h
    have := ny_mono y (yr (thu n)) h
    omega
theorem week_at (n : Int) : (n - wd n + 1 - mond (weekY n)) / 7 + 1 = weekN n := week_n n (weekY n) ((mond_iff n _).2 (Int.le_refl _))
theorem mond_bd (y : Int) : ny y - 3 ≤ mond y ∧ mond y ≤ ny y + 3 := by unfold mond wd; omega
def okDate (y m d : Int) : Bool := (decide (1972 ≤ y) && decide (y ≤ 2099)) && (decide (1 ≤ m) && decide (m ≤ 12)) && (decide (1 ≤ d) && decide (d ≤ dm y m))
theorem okDate_yes {y m d : Int} (h : okDate y m d = true) : ∃ k : Nat, m = (k : Int) ∧ IsDate y k d := by
  unfold okDate at h
  simp only [Bool.and_eq_true, decide_eq_true_eq] at h
  have e : m = ((m.toNat : Nat) : Int) := by omega
  exact ⟨m.toNat, e, ⟨by omega, by omega, by omega, by omega, by omega, by rw [← e]; omega⟩⟩
theorem IsDate.civ {y : Int} {m : Nat} {d : Int} (h : IsDate y m d) : IsCiv (dayN y m d) y m d := ⟨h, rfl⟩
end Go.Proofs.YtgnfaemnehmgcaaGreatDoor.Cal
namespace Go.Proofs.YtgnfaemnehmgcaaGreatDoor.Cal
def moF (y r : Int) : Nat → Nat
  | 0 => 1
  | k + 1 => if cm y k ≤ r then k + 1 else moF y r k
theorem moF_spec (y r : Int) (h0 : 0 ≤ r) : ∀ k : Nat, r < cm y k → 1 ≤ moF y r k ∧ moF y r k ≤ k ∧ cm y (moF y r k - 1) ≤ r ∧ r < cm y (moF y r k)
  | 0, h => by simp [cm] at h; omega
  | k + 1, h => by
    by_cases e : cm y k ≤ r
    · rw [moF, if_pos e]
      exact ⟨by omega, Nat.le_refl _, by simpa using e, h⟩
    · rw [moF, if_neg e]
      obtain ⟨a, b, c, d⟩ := moF_spec y r h0 k (by omega)
      exact ⟨a, by omega, c, d⟩
def mo (n : Int) : Nat := moF (yr n) (n - ny (yr n)) 12
def da (n : Int) : Int := n - ny (yr n) - cm (yr n) (mo n - 1) + 1
def eom (n : Int) : Int := n - da n + dm (yr n) (mo n)
theorem civ_is (n : Int) (h : 41317 ≤ n ∧ n ≤ 88068) : IsCiv n (yr n) (mo n) (da n) := by
  obtain ⟨h1, h2⟩ := yr_spec n
  have hy : 1972 ≤ yr n ∧ yr n ≤ 2099 := by unfold yr; omega
  rw [ny_succ] at h2
  obtain ⟨a, b, c, d⟩ := moF_spec (yr n) (n - ny (yr n)) (by omega) 12 (by omega)
  have := cm_pred (yr n) (mo n) a
  unfold da
  exact ⟨⟨hy.1, hy.2, a, b, by unfold mo; omega, by unfold mo at *; omega⟩, by unfold dayN; omega⟩
theorem eom_bd (n : Int) (h : 41317 ≤ n ∧ n ≤ 88068) : n ≤ eom n ∧ eom n ≤ n + 31 := by
  have c := civ_is n h
  have := c.d1; have := c.d2; have := dm_bd (yr n) (mo n)
  unfold eom; omega
def leapB (d s : Int) : Bool := (decide (s = 1) || decide (s = -1)) && (!(decide (41317 ≤ d) && decide (d ≤ 88068)) || decide (d = eom d))
def dayK (u d : Int) : Bool := decide (41317 ≤ d) && decide (d ≤ u - 1)
def lE (u : Int) (f : Nat → Int × Int) (k : Nat) : Int :=
  if leapB (f k).1 (f k).2 = true then if dayK u (f k).1 = true then if (if k = 0 then 0 else (f (k - 1)).1) < (f k).1 then 0 else 11 else 6 else 91
def lErr (u : Int) (f : Nat → Int × Int) : Nat → Int
  | 0 => 0
  | k + 1 => if lErr u f k = 0 then lE u f k else lErr u f k
theorem lErr_stop {u : Int} {f : Nat → Int × Int} {k : Nat} (h : lErr u f k ≠ 0) : ∀ n, k ≤ n → lErr u f n = lErr u f k
  | 0, hn => by have : k = 0 := by omega
                subst this; rfl
  | n + 1, hn => by
    by_cases e : k = n + 1
    · subst e; rfl
    · have := lErr_stop h n (by omega)
      rw [lErr, if_neg (by rw [this]; exact h), this]
theorem lErr_at {u : Int} {f : Nat → Int × Int} {k n : Nat} (hk : k < n) (h0 : lErr u f k = 0) (h : lE u f k ≠ 0) : lErr u f n = lE u f k := by
  have e : lErr u f (k + 1) = lE u f k := by rw [lErr, if_pos h0]
  rw [lErr_stop (k := k + 1) (by rw [e]; exact h) n hk, e]
def tabB (b u : Int) : Bool := (decide (0 ≤ b) && decide (b ≤ 100)) && (decide (41318 ≤ u) && decide (u ≤ 88069))
def tabE (b u : Int) (n : Nat) (f : Nat → Int × Int) : Int := if tabB b u = true then if n ≤ 100 then lErr u f n else 2 else 6
structure TabOk (b u : Int) (n : Nat) (f : Nat → Int × Int) : Prop where
  b1 : 0 ≤ b
  b2 : b ≤ 100
  u1 : 41318 ≤ u
  u2 : u ≤ 88069
  n1 : n ≤ 100
  s : ∀ i, i < n → (f i).2 = 1 ∨ (f i).2 = -1
  d1 : ∀ i, i < n → 41317 ≤ (f i).1 ∧ (f i).1 ≤ u - 1
  e : ∀ i, i < n → (f i).1 = eom (f i).1
  o : ∀ i j, i < j → j < n → (f i).1 < (f j).1
theorem lErr_back {u : Int} {f : Nat → Int × Int} : ∀ n, lErr u f n = 0 → ∀ k, k < n → lE u f k = 0
  | 0, _, k, hk => by omega
  | n + 1, h, k, hk => by
    rw [lErr] at h
    by_cases e : lErr u f n = 0
    · rw [if_pos e] at h
      by_cases ek : k = n
      · subst ek; exact h
      · exact lErr_back n e k (by omega)
    · rw [if_neg e] at h; exact absurd h e
theorem lE_zero {u : Int} {f : Nat → Int × Int} {k : Nat} (h : lE u f k = 0) : leapB (f k).1 (f k).2 = true ∧ dayK u (f k).1 = true ∧ (if k = 0 then 0 else (f (k - 1)).1) < (f k).1 := by
  unfold lE at h
  by_cases h1 : leapB (f k).1 (f k).2 = true
  · by_cases h2 : dayK u (f k).1 = true
    · by_cases h3 : (if k = 0 then 0 else (f (k - 1)).1) < (f k).1
      · exact ⟨h1, h2, h3⟩
      · rw [if_pos h1, if_pos h2, if_neg h3] at h; cases h
    · rw [if_pos h1, if_neg h2] at h; cases h
  · rw [if_neg h1] at h; cases h
theorem tab_ok {b u : Int} {n : Nat} {f : Nat → Int × Int} (h : tabE b u n f = 0) : TabOk b u n f := by
  unfold tabE at h
  by_cases hb : tabB b u = true
  · rw [if_pos hb] at h
    by_cases hn : n ≤ 100
    · rw [if_pos hn] at h
      have hl := fun k hk => lE_zero (lErr_back n h k hk)
      unfold tabB at hb
      simp only [Bool.and_eq_true, decide_eq_true_eq] at hb
      have hd : ∀ i, i < n → 41317 ≤ (f i).1 ∧ (f i).1 ≤ u - 1 := fun i hi => by
        have := (hl i hi).2.1
        unfold dayK at this
        simpa using this
      have hs : ∀ i, i + 1 < n → (f i).1 < (f (i + 1)).1 := fun i hi => by
        have := (hl (i + 1) hi).2.2
        simpa using this
      refine ⟨hb.1.1, hb.1.2, hb.2.1, hb.2.2, hn, fun i hi => ?_, hd, fun i hi => ?_, fun i j hij hj => ?_⟩
      · have := (hl i hi).1
        unfold leapB at this
        simp only [Bool.and_eq_true, Bool.or_eq_true, decide_eq_true_eq] at this
        exact this.1
      · have := (hl i hi).1
        unfold leapB at this
        simp only [Bool.and_eq_true, Bool.or_eq_true, decide_eq_true_eq, Bool.not_eq_true', Bool.and_eq_false_iff, decide_eq_false_iff_not] at this
        have := hd i hi
        omega
      · obtain ⟨k, rfl⟩ : ∃ k, j = i + 1 + k := ⟨j - (i + 1), by omega⟩
        clear hij
        induction k with
        | zero => exact hs i hj
        | succ k ih =>
          have := ih (by omega)
          have := hs (i + 1 + k) (by omega)
          rw [show i + 1 + (k + 1) = i + 1 + k + 1 by omega]
          omega
    · rw [if_neg hn] at h; cases h
  · rw [if_neg hb] at h; cases h
def stepAt (f : Nat → Int × Int) : Nat → Int → Int
  | 0, _ => 0
  | k + 1, d => if (f k).1 = d then (f k).2 else stepAt f k d
def growS (f : Nat → Int × Int) : Nat → Int → Int
  | 0, _ => 0
  | k + 1, d => growS f k d + if (f k).1 < d then (f k).2 else 0
def sumS (f : Nat → Int × Int) : Nat → Int
  | 0 => 0
  | k + 1 => sumS f k + (f k).2
theorem sumS_bd {f : Nat → Int × Int} : ∀ k : Nat, (∀ i, i < k → (f i).2 = 1 ∨ (f i).2 = -1) → -(k : Int) ≤ sumS f k ∧ sumS f k ≤ k
  | 0, _ => by simp [sumS]
  | k + 1, h => by
    have := sumS_bd k (fun i hi => h i (by omega))
    have := h k (by omega)
    rw [sumS]; omega
theorem stepAt_bd {f : Nat → Int × Int} (d : Int) : ∀ k : Nat, (∀ i, i < k → (f i).2 = 1 ∨ (f i).2 = -1) → -1 ≤ stepAt f k d ∧ stepAt f k d ≤ 1
  | 0, _ => by simp [stepAt]
  | k + 1, h => by
    have := stepAt_bd d k (fun i hi => h i (by omega))
    have := h k (by omega)
    rw [stepAt]; split <;> omega
theorem grow_sum {f : Nat → Int × Int} {d : Int} {i : Nat} (hlt : ∀ j, j < i → (f j).1 < d) : ∀ n, i ≤ n → (∀ j, i ≤ j → j < n → d ≤ (f j).1) → growS f n d = sumS f i
  | 0, hn, _ => by have : i = 0 := by omega
                   subst this; rfl
  | n + 1, hn, hge => by
    by_cases e : i = n + 1
    · subst e
      have := grow_sum (i := n) (fun j hj => hlt j (by omega)) n (Nat.le_refl _) (fun j h1 h2 => by omega)
      rw [growS, if_pos (hlt n (by omega)), sumS, this]
    · have := grow_sum hlt n (by omega) (fun j h1 h2 => hge j h1 (by omega))
      have h3 := hge n (by omega) (by omega)
      rw [growS, if_neg (by omega), this]; omega
theorem TabOk.grow_bd {b u : Int} {n : Nat} {f : Nat → Int × Int} (h : TabOk b u n f) (d : Int) : -100 ≤ growS f n d ∧ growS f n d ≤ 100 := by
  have hn := h.n1
  have hs := h.s
  clear h
  have : ∀ k : Nat, k ≤ n → -(k : Int) ≤ growS f k d ∧ growS f k d ≤ k := by
    intro k
    induction k with
    | zero => intro _; simp [growS]
    | succ k ih =>
      intro hk
      have := ih (by omega)
      have := hs k (by omega)
      rw [growS]; split <;> omega
  have := this n (Nat.le_refl _)
  omega
def beginS (f : Nat → Int × Int) (n : Nat) (d : Int) : Int := 86400 * (d - 41317) + growS f n d
end Go.Proofs.YtgnfaemnehmgcaaGreatDoor.Cal
