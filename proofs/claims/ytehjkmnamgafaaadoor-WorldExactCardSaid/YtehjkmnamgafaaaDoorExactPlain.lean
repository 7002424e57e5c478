/- Plain facts for WorldExact: tubes without noise. -/
import Derived.Test.YtehjkmnamgafaaaDoorWalksPlain
namespace Go.Proofs.YtehjkmnamgafaaaDoor
open Go Go.RowKit
def boundS (n most : Int) : Int := n.tmod (most + 1)
theorem boundS_bd (n most : Int) (h : 0 ≤ most) : -most ≤ boundS n most ∧ boundS n most ≤ most := by
  have a := Int.lt_tmod_of_pos n (show (0 : Int) < most + 1 by omega)
  have b := Int.tmod_lt_of_pos n (show (0 : Int) < most + 1 by omega)
  unfold boundS; omega
def tube (start rate : Int) (evs : List Evt) : Clk := ⟨1, start, rate, 0, 0, 0, 0, 0, evs⟩
def exactW (seed start rate size sec : Int) (last : Clk) : Wld := ⟨seed, [⟨0, 0, 2⟩], [tube start rate [], tube start rate [⟨2, sec, size⟩], tube start rate [⟨1, sec, size⟩], last]⟩
theorem evsOk_one (k sec size : Int) (h : evOk ⟨k, sec, size⟩ = true) (h1 : 1 ≤ sec) : evsOk [⟨k, sec, size⟩] = true := by
  have : (0 : Int) < sec := by omega
  simp [evsOk, evsFrom, h, this]
theorem exact_check (seed start rate size sec : Int) (last : Clk) (hl : clkOk 1 last = true) (hle : evsOf last = true) (h1 : -100000000000000 ≤ start ∧ start ≤ 100000000000000) (h2 : -10000000 ≤ rate ∧ rate ≤ 10000000)
    (h3 : -10000000000 ≤ size ∧ size ≤ 10000000000) (h4 : 1 ≤ sec ∧ sec ≤ 1000000) : checkS (exactW seed start rate size sec last) = 0 := by
  have a : inR start (-100000000000000) 100000000000000 = true := (inR_iff _ _ _).2 h1
  have b : inR rate (-10000000) 10000000 = true := (inR_iff _ _ _).2 h2
  have d : inR sec 1 1000000 = true := (inR_iff _ _ _).2 h4
  have e : inR size (-10000000000) 10000000000 = true := (inR_iff _ _ _).2 h3
  have f : inR size (-10000000000000) 10000000000000 = true := (inR_iff _ _ _).2 (by omega)
  have ct : ∀ evs, clkOk 1 (tube start rate evs) = true := by
    intro evs
    unfold clkOk tube
    simp only [show rateOf 1 = 10000000 from rfl, show driftOf 1 = 10000 from rfl, show whiteOf 1 = 10000000 from rfl, show walkOf 1 = 100000 from rfl, a, b]
    decide
  have v2 : evOk ⟨2, sec, size⟩ = true := by
    unfold evOk
    simp only [show sizeOf 2 = 10000000000 from rfl, d, e]
    decide
  have v1 : evOk ⟨1, sec, size⟩ = true := by
    unfold evOk
    simp only [show sizeOf 1 = 10000000000000 from rfl, d, f]
    decide
  have e1 : manyOk (exactW seed start rate size sec last) = true := rfl
  have e2 : (exactW seed start rate size sec last).chs.all chamOk = true := rfl
  have e4 : (exactW seed start rate size sec last).cls.all (clkOk (exactW seed start rate size sec last).chs.length) = true := by
    show (clkOk 1 (tube start rate []) && (clkOk 1 (tube start rate [⟨2, sec, size⟩]) && (clkOk 1 (tube start rate [⟨1, sec, size⟩]) && (clkOk 1 last && true)))) = true
    rw [ct, ct, ct, hl]; rfl
  have e5 : (exactW seed start rate size sec last).cls.all evsOf = true := by
    show (evsOk [] && (evsOk [⟨2, sec, size⟩] && (evsOk [⟨1, sec, size⟩] && (evsOf last && true)))) = true
    rw [evsOk_one _ _ _ v2 h4.1, evsOk_one _ _ _ v1 h4.1, hle]; rfl
  unfold checkS
  rw [e1, e2, e4, e5]; rfl
theorem exact_find (W : Wld) (k s : Int) (hc : checkS W = 0) (hk : inR k 0 (W.cls.length - 1) = true) (h3 : 0 ≤ s ∧ s ≤ 1000000) : findErr W k [s] = 0 := by
  have a : inR s 0 1000000 = true := (inR_iff _ _ _).2 h3
  unfold findErr
  rw [if_pos hc, hk, show secsOk [s] = (inR s 0 1000000 && true) from rfl, a]
  rfl
theorem draw_none (src i : Int) : drawS src i 0 = 0 := by
  unfold drawS
  simp [Int.emod_one]
theorem walk_none (seed k a b : Int) : walkedS seed k 0 a b = 0 := by
  unfold walkedS
  generalize (b / 100 - a / 100).toNat = n
  induction n with
  | zero => rfl
  | succ n ih => show sumDraws _ _ _ n + drawS _ _ 0 = 0; rw [ih, draw_none]; rfl
theorem tube_phase (seed k start rate s : Int) (r : Cham) (evs : List Evt) : phaseS seed k (tube start rate evs) r s = start + (rate * s + (pastS s evs).kicked) / 1000 + (pastS s evs).jumped := by
  unfold phaseS fixedS gainedS agedS warmedS tube
  simp only [walk_none, Int.zero_mul, Int.zero_ediv, Int.add_zero]
theorem past_kick (s sec size : Int) : pastS s [⟨2, sec, size⟩] = if sec ≤ s then ⟨0, size * (s - sec), false⟩ else ⟨0, 0, false⟩ := by
  unfold pastS pastFrom
  simp only [List.foldl_cons, List.foldl_nil, Past.bear]
  split <;> simp
theorem past_step (s sec size : Int) : pastS s [⟨1, sec, size⟩] = if sec ≤ s then ⟨size, 0, false⟩ else ⟨0, 0, false⟩ := by
  unfold pastS pastFrom
  simp only [List.foldl_cons, List.foldl_nil, Past.bear]
  split <;> simp
end Go.Proofs.YtehjkmnamgafaaaDoor
