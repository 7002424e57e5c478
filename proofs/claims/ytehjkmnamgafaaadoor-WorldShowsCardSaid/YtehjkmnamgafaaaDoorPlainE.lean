/- Plain functions, continued: what the calls of layer 1 answer. -/
import Derived.Test.YtehjkmnamgafaaaDoorPlainD
namespace Go.Proofs.YtehjkmnamgafaaaDoor
open Go Go.RowKit
def secsOk (l : List Int) : Bool := l.all fun s => inR s 0 1000000
def findErr (W : Wld) (k : Int) (l : List Int) : Int :=
  if checkS W = 0 then (if inR k 0 (W.cls.length - 1) = true then (if secsOk l = true then 0 else 21) else 20) else checkS W
def noClk : Clk := ⟨1, 0, 0, 0, 0, 0, 0, 0, []⟩
def noCham : Cham := ⟨0, 0, 2⟩
def clkOf (W : Wld) (k : Int) : Clk := (W.cls[k.toNat]?).getD noClk
def roomOf (W : Wld) (k : Int) : Cham := (W.chs[(clkOf W k).room.toNat]?).getD noCham
def runsS (c : Clk) (s : Int) : Bool := !(pastS s c.evs).stopped
/-- what is known of a clock of a world that is allowed -/
structure Allowed (W : Wld) (k : Int) : Prop where
  cin : ClkIn (clkOf W k)
  rok : chamOk (roomOf W k) = true
  k16 : 0 ≤ k ∧ k ≤ 16
  hk : k.toNat < W.cls.length
  hc : W.cls[k.toNat]? = some (clkOf W k)
  hi : (clkOf W k).room.toNat < W.chs.length
  hr : W.chs[(clkOf W k).room.toNat]? = some (roomOf W k)
  room : 0 ≤ (clkOf W k).room
theorem findErr_zero {W : Wld} {k : Int} {l : List Int} (h : findErr W k l = 0) : checkS W = 0 ∧ inR k 0 (W.cls.length - 1) = true ∧ secsOk l = true := by
  unfold findErr at h
  by_cases h0 : checkS W = 0
  · rw [if_pos h0] at h
    cases h1 : inR k 0 (W.cls.length - 1)
    · rw [h1, if_neg (by decide)] at h; omega
    · rw [h1, if_pos rfl] at h
      cases h2 : secsOk l
      · rw [h2, if_neg (by decide)] at h; omega
      · exact ⟨h0, rfl, rfl⟩
  · rw [if_neg h0] at h; exact absurd h h0
theorem allowed_of {W : Wld} {k : Int} (h : checkS W = 0) (hk : inR k 0 (W.cls.length - 1) = true) : Allowed W k := by
  obtain ⟨h1, h2, h3, h4⟩ := checkS_zero h
  have hk' := inR_true hk
  have hj : k.toNat < W.cls.length := by omega
  have hce : W.cls[k.toNat]? = some (W.cls[k.toNat]) := List.getElem?_eq_getElem hj
  have hco : clkOf W k = W.cls[k.toNat] := by unfold clkOf; rw [hce]; rfl
  have c1 := List.all_eq_true.1 h3 _ (List.getElem_mem hj)
  have c2 := List.all_eq_true.1 h4 _ (List.getElem_mem hj)
  obtain ⟨c3, c4, c5⟩ := clkIn_of c1 c2
  rw [← hco] at c3 c4 c5 hce
  have hi : (clkOf W k).room.toNat < W.chs.length := by omega
  have hre : W.chs[(clkOf W k).room.toNat]? = some (W.chs[(clkOf W k).room.toNat]) := List.getElem?_eq_getElem hi
  have hro : roomOf W k = W.chs[(clkOf W k).room.toNat] := by unfold roomOf; rw [hre]; rfl
  have r1 := List.all_eq_true.1 h2 _ (List.getElem_mem hi)
  simp only [manyOk, Bool.and_eq_true, inR_iff] at h1
  rw [← hro] at r1 hre
  exact ⟨c3, r1, by omega, hj, hce, hi, hre, c4⟩
theorem allowed_find {W : Wld} {k : Int} {l : List Int} (h : findErr W k l = 0) : Allowed W k :=
  allowed_of (findErr_zero h).1 (findErr_zero h).2.1
theorem sec_of {W : Wld} {k s : Int} (h : findErr W k [s] = 0) : 0 ≤ s ∧ s ≤ 1000000 := by
  have := (findErr_zero h).2.2
  simp only [secsOk, List.all_cons, List.all_nil, Bool.and_true, inR_iff] at this
  exact this
theorem secs_of {W : Wld} {k a b : Int} (h : findErr W k [a, b] = 0) : (0 ≤ a ∧ a ≤ 1000000) ∧ (0 ≤ b ∧ b ≤ 1000000) := by
  have := (findErr_zero h).2.2
  simp only [secsOk, List.all_cons, List.all_nil, Bool.and_true, Bool.and_eq_true, inR_iff] at this
  exact this
/-! bounds of what is shown -/
theorem gained_bd {c : Clk} (hc : ClkIn c) (s : Int) (h0 : 0 ≤ s) (h1 : s ≤ 1000000) : -91000000000000 ≤ gainedS c s ∧ gainedS c s ≤ 91000000000000 := by
  have a := (aged_bd hc s h0 h1).2
  have b := (past_bd hc s h0 h1).2
  have d := rate_bd hc s h0 h1
  unfold gainedS
  omega
theorem fixed_bd {c : Clk} {r : Cham} (hc : ClkIn c) (hr : chamOk r = true) (s : Int) (h0 : 0 ≤ s) (h1 : s ≤ 1000000) : -371000000000000 ≤ fixedS c r s ∧ fixedS c r s ≤ 371000000000000 := by
  have a := gained_bd hc s h0 h1
  have b := (warm_bd hc hr s).2
  have d := (past_bd hc s h0 h1).1
  have e := hc.phase
  unfold fixedS
  omega
theorem sumDraws_bd (src walk i : Int) (hw : 0 ≤ walk) (n : Nat) : -(walk * n) ≤ sumDraws src walk i n ∧ sumDraws src walk i n ≤ walk * n := by
  induction n with
  | zero => simp [sumDraws]
  | succ n ih =>
    have h := drawS_bd src (i + n + 1) walk hw
    have e : walk * ((n + 1 : Nat) : Int) = walk * n + walk := by rw [Int.natCast_add, Int.mul_add]; simp
    rw [e]
    show -(walk * n + walk) ≤ sumDraws src walk i n + drawS src (i + n + 1) walk ∧ sumDraws src walk i n + drawS src (i + n + 1) walk ≤ walk * n + walk
    omega
theorem walked_bd (seed k walk a b : Int) (hw : 0 ≤ walk) (_h0 : 0 ≤ a) (h1 : a ≤ b) : -(walk * (b / 100 - a / 100)) ≤ walkedS seed k walk a b ∧ walkedS seed k walk a b ≤ walk * (b / 100 - a / 100) := by
  have h := sumDraws_bd (sourceS seed 1 k) walk (a / 100) hw (b / 100 - a / 100).toNat
  have e : (((b / 100 - a / 100).toNat : Nat) : Int) = b / 100 - a / 100 := by omega
  rw [e] at h
  exact h
theorem stray_bd {c : Clk} (hc : ClkIn c) (a b : Int) (h0 : 0 ≤ a) (h1 : a ≤ b) (h2 : b ≤ 1000000) : 0 ≤ c.walk * (b / 100 - a / 100) ∧ c.walk * (b / 100 - a / 100) ≤ 10000000000000 := by
  have hw := hc.walk
  have m := mul_bd c.walk (b / 100 - a / 100) 1000000000 10000 (by omega) (by omega)
  exact ⟨Int.mul_nonneg hw.1 (by omega), by omega⟩
theorem phase_bd {c : Clk} {r : Cham} (seed k : Int) (hc : ClkIn c) (hr : chamOk r = true) (s : Int) (h0 : 0 ≤ s) (h1 : s ≤ 1000000) : -381000000000000 ≤ phaseS seed k c r s ∧ phaseS seed k c r s ≤ 381000000000000 := by
  have a := fixed_bd hc hr s h0 h1
  have b := walked_bd seed k c.walk 0 s hc.walk.1 (Int.le_refl 0) h0
  have d := stray_bd hc 0 s (Int.le_refl 0) h0 h1
  unfold phaseS
  omega
theorem white_bd {c : Clk} (seed k : Int) (hc : ClkIn c) (s : Int) : -c.white ≤ whiteS seed k c s ∧ whiteS seed k c s ≤ c.white := drawS_bd _ _ _ hc.white.1
theorem shown_bd {c : Clk} {r : Cham} (seed k : Int) (hc : ClkIn c) (hr : chamOk r = true) (s : Int) (h0 : 0 ≤ s) (h1 : s ≤ 1000000) : -382000000000000 ≤ shownS seed k c r s ∧ shownS seed k c r s ≤ 382000000000000 := by
  have a := phase_bd seed k hc hr s h0 h1
  have b := white_bd seed k hc s
  have d := hc.white
  unfold shownS
  omega
/-! what the calls answer: a value and an error -/
structure IntErr where
  v : Int
  e : Int
def phaseE (W : Wld) (k s : Int) : IntErr := if findErr W k [s] = 0 then ⟨phaseS W.seed k (clkOf W k) (roomOf W k) s, 0⟩ else ⟨0, findErr W k [s]⟩
/-- the error of a clock that must run -/
def runErr (W : Wld) (k s : Int) : Int := if findErr W k [s] = 0 then (if runsS (clkOf W k) s = true then 0 else 22) else findErr W k [s]
def shownE (W : Wld) (k s : Int) : IntErr := if runErr W k s = 0 then ⟨shownS W.seed k (clkOf W k) (roomOf W k) s, 0⟩ else ⟨0, runErr W k s⟩
theorem runErr_zero {W : Wld} {k s : Int} (h : runErr W k s = 0) : findErr W k [s] = 0 ∧ runsS (clkOf W k) s = true := by
  unfold runErr at h
  by_cases h0 : findErr W k [s] = 0
  · rw [if_pos h0] at h
    cases h1 : runsS (clkOf W k) s
    · rw [h1, if_neg (by decide)] at h; omega
    · exact ⟨h0, rfl⟩
  · rw [if_neg h0] at h; exact absurd h h0
structure BoolErr where
  v : Bool
  e : Int
def runsE (W : Wld) (k s : Int) : BoolErr := if findErr W k [s] = 0 then ⟨runsS (clkOf W k) s, 0⟩ else ⟨false, findErr W k [s]⟩
structure PairErr where
  a : Int
  b : Int
  e : Int
def readSec (s sh : Int) : Int := s + sh / 1000000000000000
def readFs (sh : Int) : Int := sh - sh / 1000000000000000 * 1000000000000000
def readE (W : Wld) (k s : Int) : PairErr :=
  if runErr W k s = 0 then ⟨readSec s (shownS W.seed k (clkOf W k) (roomOf W k) s), readFs (shownS W.seed k (clkOf W k) (roomOf W k) s), 0⟩ else ⟨0, 0, runErr W k s⟩
def reachE (W : Wld) (k s : Int) : PairErr :=
  if findErr W k [s] = 0 then ⟨fixedS (clkOf W k) (roomOf W k) s - (strayedS (clkOf W k) 0 s + (clkOf W k).white), fixedS (clkOf W k) (roomOf W k) s + (strayedS (clkOf W k) 0 s + (clkOf W k).white), 0⟩ else ⟨0, 0, findErr W k [s]⟩
def growErr (W : Wld) (k a b : Int) : Int := if findErr W k [a, b] = 0 then (if b < a then 1 else 0) else findErr W k [a, b]
def growthE (W : Wld) (k a b : Int) : PairErr :=
  if growErr W k a b = 0 then ⟨fixedS (clkOf W k) (roomOf W k) b - fixedS (clkOf W k) (roomOf W k) a - strayedS (clkOf W k) a b, fixedS (clkOf W k) (roomOf W k) b - fixedS (clkOf W k) (roomOf W k) a + strayedS (clkOf W k) a b, 0⟩
  else ⟨0, 0, growErr W k a b⟩
def tempErr (W : Wld) (k s : Int) : Int := if checkS W = 0 then (if inR k 0 (W.chs.length - 1) = true then (if inR s 0 1000000 = true then 0 else 21) else 20) else checkS W
def chamOf (W : Wld) (k : Int) : Cham := (W.chs[k.toNat]?).getD noCham
def tempE (W : Wld) (k s : Int) : IntErr := if tempErr W k s = 0 then ⟨tempS (chamOf W k) s, 0⟩ else ⟨0, tempErr W k s⟩
def drawOk (kind clock index most : Int) : Bool := decide (0 ≤ kind) && (decide (0 ≤ clock) && (decide (0 ≤ index) && inR most 0 1000000000000000))
def drawE (seed kind clock index most : Int) : IntErr := if drawOk kind clock index most = true then ⟨drawS (sourceS seed kind clock) index most, 0⟩ else ⟨0, 1⟩
end Go.Proofs.YtehjkmnamgafaaaDoor
