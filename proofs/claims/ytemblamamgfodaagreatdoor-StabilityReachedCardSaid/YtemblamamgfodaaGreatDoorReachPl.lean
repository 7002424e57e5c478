/- Plain facts for StabilityReached: what a track holds lies within reach; a tube with nothing but a rate keeps a line. -/
import Derived.Test.YtemblamamgfodaaGreatDoorPlain
namespace Go.Proofs.YtemblamamgfodaaGreatDoor.Wd
open Go Go.RowKit
def boundS (n most : Int) : Int := n.tmod (most + 1)
theorem boundS_bd (n most : Int) (h : 0 ≤ most) : -most ≤ boundS n most ∧ boundS n most ≤ most := by
  have a := Int.lt_tmod_of_pos n (show (0 : Int) < most + 1 by omega)
  have b := Int.tmod_lt_of_pos n (show (0 : Int) < most + 1 by omega)
  unfold boundS; omega
def tube (start rate : Int) (evs : List Evt) : Clk := ⟨1, start, rate, 0, 0, 0, 0, 0, evs⟩
def exactW (seed start rate size sec : Int) (last : Clk) : Wld := ⟨seed, [⟨0, 0, 2⟩], [tube start rate [], tube start rate [⟨2, sec, size⟩], tube start rate [⟨1, sec, size⟩], last]⟩
theorem evsOk_one (k sec size : Int) (h : evOk ⟨k, sec, size⟩ = true) (h1 : 1 ≤ sec) : evsOk [⟨k, sec, size⟩] = true := by
  have : (0 : Int) < sec := by omega
  simp [evsOk, evsFrom, h, this]
theorem exact_check (seed start rate size sec : Int) (last : Clk) (hl : clkOk 1 last = true) (hle : evsOf last = true) (h1 : -100000000000000 ≤ start ∧ start ≤ 100000000000000) (h2 : -10000000 ≤ rate ∧ rate ≤ 10000000)
    (h3 : -10000000000 ≤ size ∧ size ≤ 10000000000) (h4 : 1 ≤ sec ∧ sec ≤ 1000000) : checkS (exactW seed start rate size sec last) = 0 := by
  have a : inR start (-100000000000000) 100000000000000 = true := (inR_iff _ _ _).2 h1
  have b : inR rate (-10000000) 10000000 = true := (inR_iff _ _ _).2 h2
  have d : inR sec 1 1000000 = true := (inR_iff _ _ _).2 h4
  have e : inR size (-10000000000) 10000000000 = true := (inR_iff _ _ _).2 h3
  have f : inR size (-10000000000000) 10000000000000 = true := (inR_iff _ _ _).2 (by omega)
  have ct : ∀ evs, clkOk 1 (tube start rate evs) = true := by
    intro evs
    unfold clkOk tube
    simp only [show rateOf 1 = 10000000 from rfl, show driftOf 1 = 10000 from rfl, show whiteOf 1 = 10000000 from rfl, show walkOf 1 = 100000 from rfl, a, b]
    decide
  have v2 : evOk ⟨2, sec, size⟩ = true := by
    unfold evOk
    simp only [show sizeOf 2 = 10000000000 from rfl, d, e]
    decide
  have v1 : evOk ⟨1, sec, size⟩ = true := by
    unfold evOk
    simp only [show sizeOf 1 = 10000000000000 from rfl, d, f]
    decide
  have e1 : manyOk (exactW seed start rate size sec last) = true := rfl
  have e2 : (exactW seed start rate size sec last).chs.all chamOk = true := rfl
  have e4 : (exactW seed start rate size sec last).cls.all (clkOk (exactW seed start rate size sec last).chs.length) = true := by
    show (clkOk 1 (tube start rate []) && (clkOk 1 (tube start rate [⟨2, sec, size⟩]) && (clkOk 1 (tube start rate [⟨1, sec, size⟩]) && (clkOk 1 last && true)))) = true
    rw [ct, ct, ct, hl]; rfl
  have e5 : (exactW seed start rate size sec last).cls.all evsOf = true := by
    show (evsOk [] && (evsOk [⟨2, sec, size⟩] && (evsOk [⟨1, sec, size⟩] && (evsOf last && true)))) = true
    rw [evsOk_one _ _ _ v2 h4.1, evsOk_one _ _ _ v1 h4.1, hle]; rfl
  unfold checkS
  rw [e1, e2, e4, e5]; rfl
theorem exact_find (W : Wld) (k s : Int) (hc : checkS W = 0) (hk : inR k 0 (W.cls.length - 1) = true) (h3 : 0 ≤ s ∧ s ≤ 1000000) : findErr W k [s] = 0 := by
  have a : inR s 0 1000000 = true := (inR_iff _ _ _).2 h3
  unfold findErr
  rw [if_pos hc, hk, show secsOk [s] = (inR s 0 1000000 && true) from rfl, a]
  rfl
theorem draw_none (src i : Int) : drawS src i 0 = 0 := by
  unfold drawS
  simp [Int.emod_one]
theorem walk_none (seed k a b : Int) : walkedS seed k 0 a b = 0 := by
  unfold walkedS
  generalize (b / 100 - a / 100).toNat = n
  induction n with
  | zero => rfl
  | succ n ih => show sumDraws _ _ _ n + drawS _ _ 0 = 0; rw [ih, draw_none]; rfl
theorem tube_phase (seed k start rate s : Int) (r : Cham) (evs : List Evt) : phaseS seed k (tube start rate evs) r s = start + (rate * s + (pastS s evs).kicked) / 1000 + (pastS s evs).jumped := by
  unfold phaseS fixedS gainedS agedS warmedS tube
  simp only [walk_none, Int.zero_mul, Int.zero_ediv, Int.add_zero]
theorem past_kick (s sec size : Int) : pastS s [⟨2, sec, size⟩] = if sec ≤ s then ⟨0, size * (s - sec), false⟩ else ⟨0, 0, false⟩ := by
  unfold pastS pastFrom
  simp only [List.foldl_cons, List.foldl_nil, Past.bear]
  split <;> simp
theorem past_step (s sec size : Int) : pastS s [⟨1, sec, size⟩] = if sec ≤ s then ⟨size, 0, false⟩ else ⟨0, 0, false⟩ := by
  unfold pastS pastFrom
  simp only [List.foldl_cons, List.foldl_nil, Past.bear]
  split <;> simp
end Go.Proofs.YtemblamamgfodaaGreatDoor.Wd
namespace Go.Proofs.YtemblamamgfodaaGreatDoor.Wd
open Go Go.RowKit
theorem trackL_at (seed k : Int) (c : Clk) (r : Cham) (a st : Int) : ∀ n i (h : i < (trackL seed k c r a st n).length), (trackL seed k c r a st n)[i] = shownS seed k c r (a + (i : Int) * st)
  | 0, i, h => absurd h (by simp [trackL])
  | n + 1, i, h => by
    have hl := trackL_len seed k c r a st n
    have hi : i < n + 1 := by rw [trackL_len] at h; exact h
    by_cases e : i < n
    · have h1 : i < (trackL seed k c r a st n).length := by omega
      have := trackL_at seed k c r a st n i h1
      simp only [trackL]
      rw [List.getElem_append_left h1, this]
    · obtain rfl : i = n := by omega
      simp only [trackL]
      rw [List.getElem_append_right (by omega)]
      simp [hl]
theorem trackRuns_at (c : Clk) (a st : Int) : ∀ n, trackRuns c a st n = true → ∀ i, i < n → runsS c (a + (i : Int) * st) = true
  | 0, _, i, h => absurd h (by omega)
  | n + 1, h, i, hi => by
    simp only [trackRuns, Bool.and_eq_true] at h
    by_cases e : i < n
    · exact trackRuns_at c a st n h.1 i e
    · obtain rfl : i = n := by omega
      exact h.2
theorem track_hour {a st : Int} {n i : Nat} (h1 : 1 ≤ st) (h2 : 0 ≤ a ∧ a ≤ 1000000) (h3 : (n : Int) ≤ 1 ∨ st * ((n : Int) - 1) ≤ 1000000 - a) (hi : i < n) : 0 ≤ a + (i : Int) * st ∧ a + (i : Int) * st ≤ 1000000 := by
  have h0 : 0 ≤ (i : Int) * st := Int.mul_nonneg (by omega) (by omega)
  refine ⟨by omega, ?_⟩
  rcases h3 with h3 | h3
  · obtain rfl : i = 0 := by omega
    simp; omega
  · have : (i : Int) * st ≤ ((n : Int) - 1) * st := Int.mul_le_mul_of_nonneg_right (by omega) (by omega)
    rw [Int.mul_comm st] at h3
    omega
/-- what a track holds lies within reach -/
theorem track_reach {W : Wld} {k a st n : Int} (h : (trackE W k a st n).e = 0) :
    (trackE W k a st n).l.length = n.toNat ∧ ∀ (i : Nat) (hi : i < (trackE W k a st n).l.length), (reachE W k (a + (i : Int) * st)).e = 0 ∧
      (reachE W k (a + (i : Int) * st)).a ≤ ((trackE W k a st n).l)[i] ∧ ((trackE W k a st n).l)[i] ≤ (reachE W k (a + (i : Int) * st)).b ∧
      -400000000000000 < (reachE W k (a + (i : Int) * st)).a ∧ (reachE W k (a + (i : Int) * st)).b < 400000000000000 := by
  have h0 : trackErr W k a st n = 0 := by
    by_cases h0 : trackErr W k a st n = 0
    · exact h0
    · unfold trackE at h; rw [if_neg h0] at h; exact absurd h h0
  obtain ⟨p1, p2, p3, p4, p5⟩ := trackErr_parts h0
  have hr : trackRuns (clkOf W k) a st n.toNat = true := by
    by_cases hr : trackRuns (clkOf W k) a st n.toNat = true
    · exact hr
    · unfold trackE at h; rw [if_pos h0, if_neg hr] at h; simp at h
  have e : trackE W k a st n = ⟨trackL W.seed k (clkOf W k) (roomOf W k) a st n.toNat, 0⟩ := by unfold trackE; rw [if_pos h0, if_pos hr]
  rw [e]
  refine ⟨trackL_len _ _ _ _ _ _ _, fun i hi => ?_⟩
  have hin : i < n.toNat := by simpa [trackL_len] using hi
  have p6 : ((n.toNat : Nat) : Int) ≤ 1 ∨ st * (((n.toNat : Nat) : Int) - 1) ≤ 1000000 - a := by
    rw [Int.toNat_of_nonneg p3.1]; exact p5
  have hs := track_hour p2 p4 p6 hin
  have hf : findErr W k [a + (i : Int) * st] = 0 := by
    have hc : checkS W = 0 := by
      by_cases hc : checkS W = 0
      · exact hc
      · unfold findErr at p1; rw [if_neg hc] at p1; exact absurd p1 hc
    have hk : inR k 0 (W.cls.length - 1) = true := by
      by_cases hk : inR k 0 (W.cls.length - 1) = true
      · exact hk
      · unfold findErr at p1; rw [if_pos hc, if_neg hk] at p1; omega
    exact exact_find W k _ hc hk hs
  have hrun := trackRuns_at _ _ _ _ hr i hin
  have hre : runErr W k (a + (i : Int) * st) = 0 := by unfold runErr; rw [if_pos hf, if_pos hrun]
  have hsh : shownE W k (a + (i : Int) * st) = ⟨shownS W.seed k (clkOf W k) (roomOf W k) (a + (i : Int) * st), 0⟩ := by unfold shownE; rw [if_pos hre]
  have hR := holds_reach W W.seed k (a + (i : Int) * st)
  have hw : reseed W W.seed = W := rfl
  rw [hw, hsh] at hR
  have he : (reachE W k (a + (i : Int) * st)).e = 0 := by unfold reachE; rw [if_pos hf]
  obtain ⟨q1, q2, q3, q4⟩ := hR.ok he rfl
  have hat := trackL_at W.seed k (clkOf W k) (roomOf W k) a st n.toNat i (by simpa using hi)
  refine ⟨he, ?_, ?_, q3, q4⟩
  · show _ ≤ (trackL W.seed k (clkOf W k) (roomOf W k) a st n.toNat)[i]
    rw [hat]; exact q1
  · show (trackL W.seed k (clkOf W k) (roomOf W k) a st n.toNat)[i] ≤ _
    rw [hat]; exact q2
/-- one chamber, one tube with a rate -/
def flatW (seed r : Int) : Wld := ⟨seed, [⟨20000, 0, 2⟩], [tube 0 r []]⟩
theorem plain_check (seed r : Int) (h : -10000000 ≤ r ∧ r ≤ 10000000) : checkS (flatW seed r) = 0 := by
  have b : inR r (-10000000) 10000000 = true := (inR_iff _ _ _).2 h
  have ct : clkOk 1 (tube 0 r []) = true := by
    unfold clkOk tube
    simp only [show rateOf 1 = 10000000 from rfl, show driftOf 1 = 10000 from rfl, show whiteOf 1 = 10000000 from rfl, show walkOf 1 = 100000 from rfl, b]
    decide
  have e1 : manyOk (flatW seed r) = true := rfl
  have e2 : (flatW seed r).chs.all chamOk = true := rfl
  have e4 : (flatW seed r).cls.all (clkOk (flatW seed r).chs.length) = true := by
    show (clkOk 1 (tube 0 r []) && true) = true
    rw [ct]; rfl
  have e5 : (flatW seed r).cls.all evsOf = true := rfl
  unfold checkS
  rw [e1, e2, e4, e5]; rfl
theorem plain_shown (seed r s : Int) (c : Cham) : shownS seed 0 (tube 0 r []) c s = r * s / 1000 := by
  unfold shownS whiteS
  rw [tube_phase]
  have : (tube 0 r []).white = 0 := rfl
  rw [this, draw_none]
  simp [pastS, pastFrom]
theorem runs_all (r s : Int) : runsS (tube 0 r []) s = true := rfl
theorem trackRuns_all (r a st : Int) : ∀ n, trackRuns (tube 0 r []) a st n = true
  | 0 => rfl
  | n + 1 => by simp [trackRuns, trackRuns_all r a st n, runs_all]
/-- its track is a line -/
theorem plain_track (seed rate f : Int) (n : Nat) (h : -32768 ≤ rate ∧ rate ≤ 32767) (hf : 0 ≤ f ∧ f ≤ 9) (hn : n ≤ 128) :
    ∃ l : List Int, trackE (flatW seed (10 * rate)) 0 (1000 * f) 100 n = ⟨l, 0⟩ ∧ l.length = n ∧ ∀ (i : Nat) (hi : i < l.length), l[i] = 10 * rate * f + rate * i := by
  have hc := plain_check seed (10 * rate) (by omega)
  have h0 : trackErr (flatW seed (10 * rate)) 0 (1000 * f) 100 n = 0 := by
    unfold trackErr findErr
    rw [if_pos hc]
    have hk : inR 0 0 ((flatW seed (10 * rate)).cls.length - 1) = true := rfl
    rw [hk]
    simp only [secsOk, List.all_nil, if_true]
    rw [if_pos (by omega), if_pos (by omega)]
  have hr : trackRuns (clkOf (flatW seed (10 * rate)) 0) (1000 * f) 100 (n : Int).toNat = true := trackRuns_all _ _ _ _
  refine ⟨_, by unfold trackE; rw [if_pos h0, if_pos hr], by rw [trackL_len]; simp, fun i hi => ?_⟩
  rw [trackL_at]
  show shownS seed 0 (tube 0 (10 * rate) []) _ _ = _
  rw [plain_shown, show 10 * rate * (1000 * f + (i : Int) * 100) = 1000 * (10 * rate * f + rate * i) by grind]
  exact Int.mul_ediv_cancel_left _ (by decide)
end Go.Proofs.YtemblamamgfodaaGreatDoor.Wd
