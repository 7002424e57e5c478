/- Layer 9 (calendar): ends of months one after the other; tables that are valid; plain. -/
import Derived.Test.YtklhepgpepfgjaaDoorQ18
namespace Go.Proofs.YtklhepgpepfgjaaDoor.Cal
theorem IsCiv.uniq {n y y' : Int} {m m' : Nat} {d d' : Int} (h : IsCiv n y m d) (h' : IsCiv n y' m' d') : y = y' ∧ m = m' ∧ d = d' := by
  have a1 := h.m1; have a2 := h.m2; have b1 := h'.m1; have b2 := h'.m2
  have n1 : ¬ 12 * y + m < 12 * y' + m' := fun hl => h.off (h'.on ⟨a1, a2⟩ hl)
  have n2 : ¬ 12 * y' + m' < 12 * y + m := fun hl => h'.off (h.on ⟨b1, b2⟩ hl)
  have e1 : y = y' := by omega
  have e2 : m = m' := by omega
  subst e1 e2
  exact ⟨rfl, rfl, h.rest.symm.trans h'.rest⟩
/-- the last day of month n, counted from the first of 1972 -/
def mE (n : Nat) : Int := ny (1972 + ((n / 12 : Nat) : Int)) + cm (1972 + ((n / 12 : Nat) : Int)) (n % 12 + 1) - 1
theorem mE_next (n : Nat) : ny (1972 + (((n + 1) / 12 : Nat) : Int)) + cm (1972 + (((n + 1) / 12 : Nat) : Int)) ((n + 1) % 12) = mE n + 1 := by
  unfold mE
  by_cases h : n % 12 = 11
  · have e1 : (n + 1) / 12 = n / 12 + 1 := by omega
    have e2 : (n + 1) % 12 = 0 := by omega
    rw [e1, e2, h, show (1972 + ((n / 12 + 1 : Nat) : Int)) = 1972 + ((n / 12 : Nat) : Int) + 1 by omega, ny_succ]
    simp [cm]
  · have e1 : (n + 1) / 12 = n / 12 := by omega
    have e2 : (n + 1) % 12 = n % 12 + 1 := by omega
    rw [e1, e2]; omega
theorem mE_day (n : Nat) : dayN (1972 + (((n + 1) / 12 : Nat) : Int)) ((n + 1) % 12 + 1) 1 - 1 = mE n := by
  have := mE_next n
  unfold dayN
  rw [Nat.add_sub_cancel]; omega
theorem mE_succ (n : Nat) : mE n + 28 ≤ mE (n + 1) := by
  have h := mE_next n
  have h1 := cm_pred (1972 + (((n + 1) / 12 : Nat) : Int)) ((n + 1) % 12 + 1) (by omega)
  have h2 := dm_bd (1972 + (((n + 1) / 12 : Nat) : Int)) (((n + 1) % 12 + 1 : Nat) : Int)
  rw [Nat.add_sub_cancel] at h1
  have h3 : mE (n + 1) = ny (1972 + (((n + 1) / 12 : Nat) : Int)) + cm (1972 + (((n + 1) / 12 : Nat) : Int)) ((n + 1) % 12 + 1) - 1 := rfl
  omega
theorem mE_lt {a b : Nat} (h : a < b) : mE a < mE b := by
  obtain ⟨k, rfl⟩ : ∃ k, b = a + 1 + k := ⟨b - (a + 1), by omega⟩
  clear h
  induction k with
  | zero => have := mE_succ a; rw [Nat.add_zero]; omega
  | succ k ih =>
    have := mE_succ (a + 1 + k)
    rw [show a + 1 + (k + 1) = a + 1 + k + 1 by omega]; omega
theorem mE_civ {n : Nat} (h : n < 1536) : IsCiv (mE n) (1972 + ((n / 12 : Nat) : Int)) (n % 12 + 1) (dm (1972 + ((n / 12 : Nat) : Int)) ((n % 12 + 1 : Nat) : Int)) := by
  have h1 := cm_pred (1972 + ((n / 12 : Nat) : Int)) (n % 12 + 1) (by omega)
  have h2 := dm_bd (1972 + ((n / 12 : Nat) : Int)) ((n % 12 + 1 : Nat) : Int)
  refine ⟨⟨by omega, by omega, by omega, by omega, by omega, Int.le_refl _⟩, ?_⟩
  unfold mE dayN
  omega
theorem mE_eom {n : Nat} (h : n < 1536) : mE n = eom (mE n) := by
  have hc := mE_civ h
  have hd := civ_is (mE n) hc.n_bd
  obtain ⟨e1, e2, e3⟩ := hd.uniq hc
  unfold eom
  rw [e3, e1, e2]; omega
theorem TabOk.tabE {b u : Int} {n : Nat} {f : Nat → Int × Int} (h : TabOk b u n f) : tabE b u n f = 0 := by
  have ht : tabB b u = true := by
    have := h.b1; have := h.b2; have := h.u1; have := h.u2
    unfold tabB; simp only [Bool.and_eq_true, decide_eq_true_eq]; omega
  have hl : ∀ k, k ≤ n → lErr u f k = 0 := by
    intro k
    induction k with
    | zero => intro _; rfl
    | succ k ih =>
      intro hk
      have h1 := h.s k hk
      have h2 := h.d1 k hk
      have h3 := h.e k hk
      have e1 : leapB (f k).1 (f k).2 = true := by
        unfold leapB
        simp only [Bool.and_eq_true, Bool.or_eq_true, decide_eq_true_eq]
        exact ⟨h1, .inr h3⟩
      have e2 : dayK u (f k).1 = true := by unfold dayK; simpa using h2
      have e3 : (if k = 0 then 0 else (f (k - 1)).1) < (f k).1 := by
        split
        · omega
        · exact h.o (k - 1) k (by omega) hk
      rw [lErr, if_pos (ih (by omega))]
      unfold lE
      rw [if_pos e1, if_pos e2, if_pos e3]
  unfold Cal.tabE
  rw [if_pos ht, if_pos h.n1]
  exact hl n (Nat.le_refl _)
/-- a table as it grows, month after month -/
structure Grw (u : Int) (n : Nat) (f : Nat → Int × Int) (a : Nat) : Prop where
  t : TabOk 10 u n f
  l : ∀ j, j < n → (f j).1 ≤ mE a
def putL (f : Nat → Int × Int) (n : Nat) (x : Int × Int) : Nat → Int × Int := fun j => if j = n then x else f j
theorem putL_at (f : Nat → Int × Int) (n : Nat) (x : Int × Int) : putL f n x n = x := by unfold putL; rw [if_pos rfl]
theorem putL_ne (f : Nat → Int × Int) (n : Nat) (x : Int × Int) {j : Nat} (h : j < n) : putL f n x j = f j := by unfold putL; rw [if_neg (by omega)]
theorem Grw.nil (f : Nat → Int × Int) : Grw 41357 0 f 0 := ⟨⟨by decide, by decide, by decide, by decide, by decide, fun i h => by omega, fun i h => by omega, fun i h => by omega, fun i j _ h => by omega⟩, fun j h => by omega⟩
theorem Grw.put {u : Int} {n : Nat} {f : Nat → Int × Int} {a : Nat} (h : Grw u n f a) (hn : n < 100) {a' : Nat} (ha : a < a') (ha' : a' < 1536) {s x : Int} (hs : s = 1 ∨ s = -1) (hx : 0 ≤ x) :
    Grw (if 88069 < mE a' + 1 + x then 88069 else mE a' + 1 + x) (n + 1) (putL f n (mE a', s)) a' := by
  have hb := (mE_civ ha').n_bd
  have hlt := mE_lt ha
  have hle : ∀ j, j < n + 1 → (putL f n (mE a', s) j).1 ≤ mE a' := fun j hj => by
    by_cases e : j = n
    · subst e; rw [putL_at]; exact Int.le_refl _
    · rw [putL_ne _ _ _ (by omega)]
      have := h.l j (by omega); omega
  refine ⟨⟨by decide, by decide, by split <;> omega, by split <;> omega, by omega, fun i hi => ?_, fun i hi => ?_, fun i hi => ?_, fun i j hij hj => ?_⟩, hle⟩
  · by_cases e : i = n
    · subst e; rw [putL_at]; exact hs
    · rw [putL_ne _ _ _ (by omega)]; exact h.t.s i (by omega)
  · have h1 := hle i hi
    have h2 : 41317 ≤ (putL f n (mE a', s) i).1 := by
      by_cases e : i = n
      · subst e; rw [putL_at]; exact hb.1
      · rw [putL_ne _ _ _ (by omega)]; exact (h.t.d1 i (by omega)).1
    refine ⟨h2, ?_⟩
    split <;> omega
  · by_cases e : i = n
    · subst e; rw [putL_at]; exact mE_eom ha'
    · rw [putL_ne _ _ _ (by omega)]; exact h.t.e i (by omega)
  · by_cases e : j = n
    · subst e
      rw [putL_at, putL_ne _ _ _ (by omega)]
      have := h.l i (by omega)
      show (f i).1 < mE a'
      omega
    · rw [putL_ne _ _ _ (by omega), putL_ne _ _ _ (by omega)]; exact h.t.o i j hij (by omega)
theorem Grw.base {u : Int} {n : Nat} {f : Nat → Int × Int} {a : Nat} (h : Grw u n f a) {b : Int} (hb : 0 ≤ b ∧ b ≤ 100) : TabOk b u n f := ⟨hb.1, hb.2, h.t.u1, h.t.u2, h.t.n1, h.t.s, h.t.d1, h.t.e, h.t.o⟩
theorem TabOk.total_pos {b u : Int} {n : Nat} {f : Nat → Int × Int} (h : TabOk b u n f) : 1 ≤ beginS f n u := by
  have h1 := h.begin_lt 41317 (u - 41317).toNat
  have h2 := h.begin_first
  have := h.u1
  rw [show (41317 : Int) + ((u - 41317).toNat : Int) = u by omega] at h1
  omega
end Go.Proofs.YtklhepgpepfgjaaDoor.Cal
