/- Plain facts for WorldWalks: a tube that only walks. -/
import Derived.Test.YtehjkmnamgafaaaDoorPlainG
namespace Go.Proofs.YtehjkmnamgafaaaDoor
open Go Go.RowKit
def posS (n : Int) : Int := if n.tmod 1000001 < 0 then -(n.tmod 1000001) else n.tmod 1000001
theorem posS_bd (n : Int) : 0 ≤ posS n ∧ posS n ≤ 1000000 := by
  have a := Int.lt_tmod_of_pos n (show (0 : Int) < 1000001 by decide)
  have b := Int.tmod_lt_of_pos n (show (0 : Int) < 1000001 by decide)
  unfold posS; split <;> omega
def quietW (walk white : Int) : Clk := ⟨1, 0, 0, 0, white, walk, 0, 0, []⟩
def walksW (seed walk white : Int) : Wld := ⟨seed, [⟨0, 0, 2⟩], [⟨4, 0, 0, 0, 0, 0, 0, 0, []⟩, quietW walk white]⟩
theorem walks_check (seed walk white : Int) (h1 : 0 ≤ walk ∧ walk ≤ 100000) (h2 : 0 ≤ white ∧ white ≤ 1000000) : checkS (walksW seed walk white) = 0 := by
  have a : inR walk 0 100000 = true := (inR_iff _ _ _).2 h1
  have b : inR white 0 10000000 = true := (inR_iff _ _ _).2 (by omega)
  have e1 : manyOk (walksW seed walk white) = true := rfl
  have e2 : (walksW seed walk white).chs.all chamOk = true := rfl
  have e3 : clkOk 1 (quietW walk white) = true := by
    unfold clkOk quietW
    simp only [show rateOf 1 = 10000000 from rfl, show driftOf 1 = 10000 from rfl, show whiteOf 1 = 10000000 from rfl, show walkOf 1 = 100000 from rfl, a, b]
    decide
  have e4 : (walksW seed walk white).cls.all (clkOk (walksW seed walk white).chs.length) = true := by
    show (clkOk 1 ⟨4, 0, 0, 0, 0, 0, 0, 0, []⟩ && (clkOk 1 (quietW walk white) && true)) = true
    rw [e3]; decide
  have e5 : (walksW seed walk white).cls.all evsOf = true := by
    show (evsOf ⟨4, 0, 0, 0, 0, 0, 0, 0, []⟩ && (evsOf (quietW walk white) && true)) = true
    rfl
  unfold checkS
  rw [e1, e2, e4, e5]; rfl
theorem walks_find (seed walk white s : Int) (h1 : 0 ≤ walk ∧ walk ≤ 100000) (h2 : 0 ≤ white ∧ white ≤ 1000000) (h3 : 0 ≤ s ∧ s ≤ 1000000) : findErr (walksW seed walk white) 1 [s] = 0 := by
  have a : inR s 0 1000000 = true := (inR_iff _ _ _).2 h3
  unfold findErr
  rw [if_pos (walks_check seed walk white h1 h2), show inR 1 0 ((walksW seed walk white).cls.length - 1) = true from rfl, show secsOk [s] = (inR s 0 1000000 && true) from rfl, a]
  rfl
theorem quiet_fixed (walk white s : Int) (r : Cham) : fixedS (quietW walk white) r s = 0 := by
  simp [fixedS, gainedS, agedS, warmedS, quietW, pastS, pastFrom]
theorem walks_phase (seed walk white s : Int) (h1 : 0 ≤ walk ∧ walk ≤ 100000) (h2 : 0 ≤ white ∧ white ≤ 1000000) (h3 : 0 ≤ s ∧ s ≤ 1000000) :
    phaseE (walksW seed walk white) 1 s = ⟨walkedS seed 1 walk 0 s, 0⟩ := by
  unfold phaseE
  rw [if_pos (walks_find seed walk white s h1 h2 h3)]
  have e : phaseS (walksW seed walk white).seed 1 (clkOf (walksW seed walk white) 1) (roomOf (walksW seed walk white) 1) s = walkedS seed 1 walk 0 s := by
    show fixedS (quietW walk white) _ s + walkedS seed 1 walk 0 s = _
    rw [quiet_fixed, Int.zero_add]
  rw [e]
theorem walks_shown (seed walk white s : Int) (h1 : 0 ≤ walk ∧ walk ≤ 100000) (h2 : 0 ≤ white ∧ white ≤ 1000000) (h3 : 0 ≤ s ∧ s ≤ 1000000) :
    shownE (walksW seed walk white) 1 s = ⟨walkedS seed 1 walk 0 s + drawS (sourceS seed 2 1) s white, 0⟩ := by
  have hr : runErr (walksW seed walk white) 1 s = 0 := by
    unfold runErr
    rw [if_pos (walks_find seed walk white s h1 h2 h3)]
    rfl
  unfold shownE
  rw [if_pos hr]
  have e : shownS (walksW seed walk white).seed 1 (clkOf (walksW seed walk white) 1) (roomOf (walksW seed walk white) 1) s = walkedS seed 1 walk 0 s + drawS (sourceS seed 2 1) s white := by
    show fixedS (quietW walk white) _ s + walkedS seed 1 walk 0 s + drawS (sourceS seed 2 1) s white = _
    rw [quiet_fixed, Int.zero_add]
  rw [e]
theorem walked_next (seed walk s : Int) (h0 : 0 ≤ s) : walkedS seed 1 walk 0 (s + 100) - walkedS seed 1 walk 0 s = drawS (sourceS seed 1 1) (s / 100 + 1) walk := by
  unfold walkedS
  have e1 : ((s + 100) / 100 - 0 / 100).toNat = (s / 100 - 0 / 100).toNat + 1 := by omega
  have e2 : (0 : Int) / 100 = 0 := rfl
  rw [e1]
  show sumDraws _ _ _ _ + drawS _ (0 / 100 + (((s / 100 - 0 / 100).toNat : Nat) : Int) + 1) walk - _ = _
  have e3 : (0 : Int) / 100 + (((s / 100 - 0 / 100).toNat : Nat) : Int) + 1 = s / 100 + 1 := by omega
  rw [e3]
  omega
theorem walked_small (seed walk s : Int) (h1 : 0 ≤ walk ∧ walk ≤ 100000) (h3 : 0 ≤ s ∧ s ≤ 1000000) : -1000000000 ≤ walkedS seed 1 walk 0 s ∧ walkedS seed 1 walk 0 s ≤ 1000000000 := by
  have a := walked_bd seed 1 walk 0 s h1.1 (Int.le_refl 0) h3.1
  have b := mul_bd walk (s / 100 - 0 / 100) 100000 10000 (by omega) (by omega)
  omega
theorem walks_draw (seed kind index most : Int) (hk : 0 ≤ kind) (hi : 0 ≤ index) (hm : 0 ≤ most ∧ most ≤ 1000000000000000) : drawE seed kind 1 index most = ⟨drawS (sourceS seed kind 1) index most, 0⟩ := by
  have h : drawOk kind 1 index most = true := by
    simp only [drawOk, Bool.and_eq_true, decide_eq_true_eq, inR_iff]
    exact ⟨hk, by decide, hi, hm⟩
  unfold drawE; rw [if_pos h]
end Go.Proofs.YtehjkmnamgafaaaDoor
