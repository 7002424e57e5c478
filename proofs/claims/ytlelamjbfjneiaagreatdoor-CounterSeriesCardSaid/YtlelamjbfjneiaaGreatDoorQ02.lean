/- Plain functions on numbers that say what layer 1 computes; nothing here speaks of the program. · Plain functions, continued: the checks of a world. · Plain functions, continued: the phase of a clock and its parts. · Plain functions, continued: the draws of a walk as a list. · Plain functions, continued: what the calls of layer 1 answer. · Plain functions, continued: the last second at which a clock runs. · Plain functions, continued: the second that belongs to a moment. · Plain facts for WorldWalks: a tube that only walks. · Plain facts for WorldHolds: what is shown is in its reach, and phases grow within their growth, whatever the seed. · Plain facts for WorldOrders: readings increase, and Back of a reading is its second. · Plain facts for WorldTracks: a track, the last second at which a clock runs, and the second that belongs to a moment, from the greatest one down. -/
import Derived.WalkKit
namespace Go.Proofs.YtlelamjbfjneiaaGreatDoor.Wd
section
open Go Go.RowKit

/-- the mixed number of two numbers of 64 bits -/
def mixA (x y : Int) : Int := IntKind.u64.wrap (x + IntKind.u64.wrap (y * 11400714819323198485))
def mixB (z : Int) : Int := IntKind.u64.wrap (bits BinOp.xor IntKind.u64 z (z / 2147483648) * 10723151780598845931)
def mixC (z : Int) : Int := bits BinOp.xor IntKind.u64 z (z / 1073741824)
def mixS (x y : Int) : Int := mixC (mixB (mixA x y))
/-- the numbers of 64 bits -/
def U64 (x : Int) : Prop := 0 ≤ x ∧ x < 18446744073709551616
theorem u64_wrap (x : Int) : U64 (IntKind.u64.wrap x) := by
  unfold U64; rw [IntKind.wrap_u64]; omega
theorem u64_mixS (x y : Int) : U64 (mixS x y) := by
  unfold mixS mixC bits; exact u64_wrap _
theorem mixS_lo (x y : Int) : 0 ≤ mixS x y := (u64_mixS x y).1
theorem mixS_hi (x y : Int) : mixS x y ≤ 18446744073709551615 := by have := (u64_mixS x y).2; omega
theorem mixA_comm (x y : Int) : IntKind.u64.wrap (IntKind.u64.wrap (y * 11400714819323198485) + x) = mixA x y := by
  unfold mixA; rw [Int.add_comm]
def sourceS (seed kind clock : Int) : Int := mixS (mixS seed kind) clock
/-- a draw out of its source -/
def drawS (source index most : Int) : Int := mixS source index % (2 * most + 1) - most
theorem drawS_bd (s i m : Int) (h : 0 ≤ m) : -m ≤ drawS s i m ∧ drawS s i m ≤ m := by
  unfold drawS
  have h1 := Int.emod_nonneg (mixS s i) (show 2 * m + 1 ≠ 0 by omega)
  have h2 := Int.emod_lt_of_pos (mixS s i) (show 0 < 2 * m + 1 by omega)
  omega
def inR (n lo hi : Int) : Bool := decide (lo ≤ n) && decide (n ≤ hi)
theorem inR_iff (n lo hi : Int) : inR n lo hi = true ↔ lo ≤ n ∧ n ≤ hi := by simp [inR]
theorem inR_true {n lo hi : Int} (h : inR n lo hi = true) : lo ≤ n ∧ n ≤ hi := (inR_iff n lo hi).1 h
theorem inR_false {n lo hi : Int} (h : inR n lo hi = false) : n < lo ∨ hi < n := by
  simp [inR] at h; omega
theorem inR_lt {n lo hi : Int} (h : n < lo) : false = inR n lo hi := by
  have : ¬ lo ≤ n := by omega
  simp [inR, this]
theorem inR_ge {n lo hi : Int} (h : lo ≤ n) : decide (n ≤ hi) = inR n lo hi := by simp [inR, h]
/-- a division towards the lesser number -/
theorem floor_neg (a b : Int) (hb : 1 ≤ b) (h : a.tmod b < 0) : a.tdiv b - 1 = a / b := by
  have h1 := Int.mul_tdiv_add_tmod a b
  have h2 : a < 0 := by
    by_cases h0 : 0 ≤ a
    · have := Int.tmod_nonneg b h0; omega
    · omega
  have h3 := Int.lt_tmod_of_pos a (show 0 < b by omega)
  symm
  refine (Int.ediv_eq_iff_of_pos (by omega)).2 ?_
  have e : (a.tdiv b - 1) * b = b * a.tdiv b - b := by rw [Int.sub_mul, Int.mul_comm, Int.one_mul]
  rw [e]
  omega
theorem floor_pos (a b : Int) (hb : 1 ≤ b) (h : 0 ≤ a.tmod b) : a.tdiv b = a / b := by
  by_cases h0 : 0 ≤ a
  · exact Int.tdiv_eq_ediv_of_nonneg h0
  · have h1 := Int.mul_tdiv_add_tmod a b
    have h3 := Int.tmod_lt_of_pos a (show 0 < b by omega)
    symm
    refine (Int.ediv_eq_iff_of_pos (by omega)).2 ?_
    have e : (a.tdiv b) * b = b * a.tdiv b := Int.mul_comm _ _
    rw [e]
    omega
theorem tdiv_bd (a b : Int) (hb : 1 ≤ b) (h1 : -9223372036854775807 ≤ a) (h2 : a ≤ 9223372036854775807) : -9223372036854775807 ≤ a.tdiv b ∧ a.tdiv b ≤ 9223372036854775807 := by
  rw [tdiv_eq_if]
  split
  · rename_i hx; have := IntWalk.tdiv_le a b hx hb; omega
  · rename_i hx; have := IntWalk.tdiv_le (-a) b (by omega) hb; omega
/-- what layer 1 speaks of, as plain data -/
structure Cham where
  base : Int
  swing : Int
  period : Int
structure Evt where
  what : Int
  sec : Int
  size : Int
structure Clk where
  kind : Int
  phase : Int
  rate : Int
  drift : Int
  white : Int
  walk : Int
  heat : Int
  room : Int
  evs : List Evt
structure Wld where
  seed : Int
  chs : List Cham
  cls : List Clk
def foldAt (p pe : Int) : Int := if pe < 2 * p then pe - p else p
def tempS (c : Cham) (s : Int) : Int := c.base + 2 * c.swing * foldAt (s % c.period) c.period / c.period
def chamOk (c : Cham) : Bool := inR c.base 0 1000000 && inR c.swing 0 100000 && inR c.period 2 1000000
def sizeOf (what : Int) : Int := if what = 1 then 10000000000000 else if what = 2 then 10000000000 else 0
def evOk (e : Evt) : Bool := inR e.what 1 4 && inR e.sec 1 1000000 && inR e.size (-sizeOf e.what) (sizeOf e.what)
def rateOf (k : Int) : Int := if k = 1 then 10000000 else if k = 2 then 1000000 else if k = 3 then 100000 else if k = 4 then 100000 else 10000000000
def driftOf (k : Int) : Int := if k = 1 then 10000 else if k = 2 then 100000 else if k = 3 then 0 else if k = 4 then 0 else 10000000
def whiteOf (k : Int) : Int := if k = 1 then 10000000 else if k = 2 then 100000 else if k = 3 then 1000000 else if k = 4 then 100000 else 1000000000000
def walkOf (k : Int) : Int := if k = 1 then 100000 else if k = 2 then 10000 else if k = 3 then 1000 else if k = 4 then 100 else 1000000000
def clkOk (n : Int) (c : Clk) : Bool := inR c.kind 1 5 && (inR c.phase (-100000000000000) 100000000000000 && (inR c.rate (-rateOf c.kind) (rateOf c.kind) && (inR c.drift (-driftOf c.kind) (driftOf c.kind) &&
  (inR c.white 0 (whiteOf c.kind) && (inR c.walk 0 (walkOf c.kind) && (inR c.heat (-1000000000) 1000000000 && inR c.room 0 (n - 1)))))))
/-- the temperature's bounds, spelt as they come -/
theorem temp_bd (sw pe q : Int) (h1 : 0 ≤ sw) (h2 : sw ≤ 100000) (h3 : 2 ≤ pe) (h3' : pe ≤ 1000000) (hq : 0 ≤ q) (hq' : 2 * q ≤ pe) :
    0 ≤ 2 * sw * q ∧ 2 * sw * q ≤ 100000000000 ∧ 0 ≤ 2 * sw * q / pe ∧ 2 * sw * q / pe ≤ 100000 := by
  have a : 0 ≤ 2 * sw * q := Int.mul_nonneg (by omega) hq
  have b : 2 * sw * q = sw * (2 * q) := by rw [Int.mul_comm 2 sw, Int.mul_assoc]
  have c : sw * (2 * q) ≤ 100000 * pe := Int.mul_le_mul h2 hq' (by omega) (by omega)
  refine ⟨a, by omega, Int.ediv_nonneg a (by omega), ?_⟩
  exact Int.ediv_le_of_le_mul (by omega) (by omega)
structure Past where
  jumped : Int
  kicked : Int
  stopped : Bool
def Past.bear (p : Past) (s : Int) (e : Evt) : Past :=
  if e.sec ≤ s then
    if e.what = 1 then { p with jumped := p.jumped + e.size }
    else if e.what = 2 then { p with kicked := p.kicked + e.size * (s - e.sec) }
    else if e.what = 3 then { p with stopped := true }
    else { p with stopped := false }
  else p
def pastFrom (s : Int) (p : Past) (l : List Evt) : Past := l.foldl (fun p e => p.bear s e) p
def pastS (s : Int) (l : List Evt) : Past := pastFrom s ⟨0, 0, false⟩ l
theorem sizeOf_bd (k : Int) : 0 ≤ sizeOf k ∧ sizeOf k ≤ 10000000000000 := by
  unfold sizeOf; split <;> (try split) <;> omega
theorem sizeOf_kick (k : Int) (h : k = 2) : sizeOf k = 10000000000 := by subst h; rfl
theorem evOk_parts {e : Evt} (h : evOk e = true) : (1 ≤ e.what ∧ e.what ≤ 4) ∧ (1 ≤ e.sec ∧ e.sec ≤ 1000000) ∧ (-sizeOf e.what ≤ e.size ∧ e.size ≤ sizeOf e.what) := by
  simp only [evOk, Bool.and_eq_true, inR_iff] at h
  exact ⟨h.1.1, h.1.2, h.2⟩
theorem mul_bd (a b A B : Int) (ha : -A ≤ a ∧ a ≤ A) (hb : 0 ≤ b ∧ b ≤ B) : -(A * B) ≤ a * b ∧ a * b ≤ A * B := by
  have hA : 0 ≤ A := by omega
  have h1 : a * b ≤ A * b := Int.mul_le_mul_of_nonneg_right ha.2 hb.1
  have h2 : A * b ≤ A * B := Int.mul_le_mul_of_nonneg_left hb.2 hA
  have h3 : -A * b ≤ a * b := Int.mul_le_mul_of_nonneg_right ha.1 hb.1
  have h4 : -A * b = -(A * b) := Int.neg_mul A b
  omega
/-- after n events the numbers are at most so great -/
def Past.bound (p : Past) (n : Nat) : Prop := (-(10000000000000 * n) ≤ p.jumped ∧ p.jumped ≤ 10000000000000 * n) ∧ (-(10000000000000000 * n) ≤ p.kicked ∧ p.kicked ≤ 10000000000000000 * n)
theorem Past.bear_bound {p : Past} {n : Nat} {s : Int} {e : Evt} (h : p.bound n) (he : evOk e = true) (_h0 : 0 ≤ s) (hs : s ≤ 1000000) : (p.bear s e).bound (n + 1) := by
  obtain ⟨h1, h2, h3⟩ := evOk_parts he
  have hz := sizeOf_bd e.what
  obtain ⟨a, b⟩ := h
  unfold Past.bear
  split
  · rename_i hle
    split
    · simp only [Past.bound]; omega
    · split
      · rename_i hw
        have hk := sizeOf_kick _ hw
        have hm := mul_bd e.size (s - e.sec) 10000000000 1000000 (by omega) (by omega)
        simp only [Past.bound]; omega
      · split <;> (simp only [Past.bound]; omega)
  · simp only [Past.bound]; omega
theorem pastFrom_snoc (s : Int) (p : Past) (l : List Evt) (k : Nat) (h : k < l.length) : pastFrom s p (l.take (k + 1)) = (pastFrom s p (l.take k)).bear s l[k] := by
  unfold pastFrom; rw [List.take_succ_eq_append_getElem h, List.foldl_append]; rfl
theorem past_bound (s : Int) (l : List Evt) (hl : ∀ e ∈ l, evOk e = true) (h0 : 0 ≤ s) (hs : s ≤ 1000000) (k : Nat) (hk : k ≤ l.length) : (pastS s (l.take k)).bound k := by
  induction k with
  | zero => simp [pastS, pastFrom, Past.bound]
  | succ k ih =>
    have e := pastFrom_snoc s ⟨0, 0, false⟩ l k (by omega)
    unfold pastS; rw [e]
    exact Past.bear_bound (ih (by omega)) (hl _ (List.getElem_mem _)) h0 hs
end
section
open Go Go.RowKit
/-- events, one after the other, behind a second -/
def evsFrom : Int → List Evt → Bool
  | _, [] => true
  | last, e :: r => evOk e && (decide (last < e.sec) && evsFrom e.sec r)
def evsOk (l : List Evt) : Bool := decide (l.length ≤ 8) && evsFrom 0 l
theorem drop_cons {α : Type} (l : List α) (k : Nat) (h : k < l.length) : l.drop k = l[k] :: l.drop (k + 1) := List.drop_eq_getElem_cons h
theorem evsFrom_no1 {last : Int} {l : List Evt} {k : Nat} (h : k < l.length) (he : evOk l[k] = false) : evsFrom last (l.drop k) = false := by
  rw [drop_cons l k h]; simp [evsFrom, he]
theorem evsFrom_no2 {last : Int} {l : List Evt} {k : Nat} (h : k < l.length) (he : l[k].sec ≤ last) : evsFrom last (l.drop k) = false := by
  rw [drop_cons l k h]
  have : ¬ last < l[k].sec := by omega
  simp [evsFrom, this]
theorem evsFrom_yes {last : Int} {l : List Evt} {k : Nat} (h : k < l.length) (he : evOk l[k] = true) (hs : ¬ l[k].sec ≤ last) : evsFrom last (l.drop k) = evsFrom l[k].sec (l.drop (k + 1)) := by
  rw [drop_cons l k h]
  have : last < l[k].sec := by omega
  simp [evsFrom, he, this]
theorem evsFrom_all : ∀ (last : Int) (l : List Evt), evsFrom last l = true → ∀ e ∈ l, evOk e = true
  | _, [], _, e, he => by cases he
  | last, x :: r, h, e, he => by
    simp only [evsFrom, Bool.and_eq_true] at h
    rcases List.mem_cons.1 he with rfl | he
    · exact h.1
    · exact evsFrom_all _ r h.2.2 e he
theorem evsOk_parts {l : List Evt} (h : evsOk l = true) : l.length ≤ 8 ∧ ∀ e ∈ l, evOk e = true := by
  simp only [evsOk, Bool.and_eq_true, decide_eq_true_eq] at h
  exact ⟨h.1, evsFrom_all 0 l h.2⟩
def evsOf (c : Clk) : Bool := evsOk c.evs
def manyOk (W : Wld) : Bool := inR W.chs.length 1 8 && inR W.cls.length 1 16
def checkS (W : Wld) : Int :=
  if manyOk W = false then 2
  else if W.chs.all chamOk = false then 6
  else if W.cls.all (clkOk W.chs.length) = false then 20
  else if W.cls.all evsOf = false then 21
  else 0
theorem checkS_zero {W : Wld} (h : checkS W = 0) : manyOk W = true ∧ W.chs.all chamOk = true ∧ W.cls.all (clkOk W.chs.length) = true ∧ W.cls.all evsOf = true := by
  unfold checkS at h
  by_cases h1 : manyOk W = false
  · rw [if_pos h1] at h; omega
  rw [if_neg h1] at h
  by_cases h2 : W.chs.all chamOk = false
  · rw [if_pos h2] at h; omega
  rw [if_neg h2] at h
  by_cases h3 : W.cls.all (clkOk W.chs.length) = false
  · rw [if_pos h3] at h; omega
  rw [if_neg h3] at h
  by_cases h4 : W.cls.all evsOf = false
  · rw [if_pos h4] at h; omega
  exact ⟨by simpa using h1, by simpa using h2, by simpa using h3, by simpa using h4⟩
end
section
open Go Go.RowKit
def agedS (c : Clk) (s : Int) : Int := c.drift * (s * (s - 1) / 2) / 86400
def gainedS (c : Clk) (s : Int) : Int := (c.rate * s + (pastS s c.evs).kicked + agedS c s) / 1000
def warmedS (c : Clk) (r : Cham) (s : Int) : Int := c.heat * (tempS r s - tempS r 0)
def fixedS (c : Clk) (r : Cham) (s : Int) : Int := c.phase + gainedS c s + warmedS c r s + (pastS s c.evs).jumped
def strayedS (c : Clk) (a b : Int) : Int := c.walk * (b / 100 - a / 100)
/-- the sum of the draws with the indices i + 1 to i + n -/
def sumDraws (src walk : Int) (i : Int) : Nat → Int
  | 0 => 0
  | n + 1 => sumDraws src walk i n + drawS src (i + n + 1) walk
def walkedS (seed k walk : Int) (a b : Int) : Int := sumDraws (sourceS seed 1 k) walk (a / 100) (b / 100 - a / 100).toNat
def phaseS (seed k : Int) (c : Clk) (r : Cham) (s : Int) : Int := fixedS c r s + walkedS seed k c.walk 0 s
def whiteS (seed k : Int) (c : Clk) (s : Int) : Int := drawS (sourceS seed 2 k) s c.white
def shownS (seed k : Int) (c : Clk) (r : Cham) (s : Int) : Int := phaseS seed k c r s + whiteS seed k c s
/-- a clock that is allowed: the bounds of its numbers -/
structure ClkIn (c : Clk) : Prop where
  phase : -100000000000000 ≤ c.phase ∧ c.phase ≤ 100000000000000
  rate : -10000000000 ≤ c.rate ∧ c.rate ≤ 10000000000
  drift : -10000000 ≤ c.drift ∧ c.drift ≤ 10000000
  white : 0 ≤ c.white ∧ c.white ≤ 1000000000000
  walk : 0 ≤ c.walk ∧ c.walk ≤ 1000000000
  heat : -1000000000 ≤ c.heat ∧ c.heat ≤ 1000000000
  evs : evsOk c.evs = true
theorem rateOf_bd (k : Int) : 0 ≤ rateOf k ∧ rateOf k ≤ 10000000000 := by unfold rateOf; repeat (split; omega); omega
theorem driftOf_bd (k : Int) : 0 ≤ driftOf k ∧ driftOf k ≤ 10000000 := by unfold driftOf; repeat (split; omega); omega
theorem whiteOf_bd (k : Int) : 0 ≤ whiteOf k ∧ whiteOf k ≤ 1000000000000 := by unfold whiteOf; repeat (split; omega); omega
theorem walkOf_bd (k : Int) : 0 ≤ walkOf k ∧ walkOf k ≤ 1000000000 := by unfold walkOf; repeat (split; omega); omega
theorem clkIn_of {n : Int} {c : Clk} (h : clkOk n c = true) (he : evsOk c.evs = true) : ClkIn c ∧ 0 ≤ c.room ∧ c.room < n := by
  simp only [clkOk, Bool.and_eq_true, inR_iff] at h
  obtain ⟨h0, h1, h2, h3, h4, h5, h6, h7⟩ := h
  have a := rateOf_bd c.kind
  have b := driftOf_bd c.kind
  have d := whiteOf_bd c.kind
  have e := walkOf_bd c.kind
  exact ⟨⟨h1, by omega, by omega, by omega, by omega, h6, he⟩, by omega, by omega⟩
theorem half_bd (s : Int) (h0 : 0 ≤ s) (h1 : s ≤ 1000000) : (0 ≤ s * (s - 1) ∧ s * (s - 1) ≤ 1000000000000) ∧ (0 ≤ s * (s - 1) / 2 ∧ s * (s - 1) / 2 ≤ 500000000000) := by
  by_cases h : s = 0
  · subst h; decide
  · have a : 0 ≤ s * (s - 1) := Int.mul_nonneg h0 (by omega)
    have b : s * (s - 1) ≤ 1000000 * 1000000 := Int.mul_le_mul h1 (by omega) (by omega) (by omega)
    omega
theorem foldAt_bd (p pe : Int) (_h : 2 ≤ pe) (h0 : 0 ≤ p) (h1 : p < pe) : 0 ≤ foldAt p pe ∧ 2 * foldAt p pe ≤ pe := by
  unfold foldAt; split <;> omega
theorem chamOk_parts {c : Cham} (h : chamOk c = true) : (0 ≤ c.base ∧ c.base ≤ 1000000) ∧ (0 ≤ c.swing ∧ c.swing ≤ 100000) ∧ (2 ≤ c.period ∧ c.period ≤ 1000000) := by
  simp only [chamOk, Bool.and_eq_true, inR_iff] at h
  exact ⟨h.1.1, h.1.2, h.2⟩
theorem tempS_bd {c : Cham} (h : chamOk c = true) (s : Int) : c.base ≤ tempS c s ∧ tempS c s ≤ c.base + 100000 := by
  obtain ⟨h1, h2, h3⟩ := chamOk_parts h
  have a := Int.emod_nonneg s (show c.period ≠ 0 by omega)
  have b := Int.emod_lt_of_pos s (show 0 < c.period by omega)
  have f := foldAt_bd _ _ h3.1 a b
  have t := temp_bd c.swing c.period (foldAt (s % c.period) c.period) h2.1 h2.2 h3.1 h3.2 f.1 f.2
  unfold tempS
  omega
theorem warm_bd {c : Clk} {r : Cham} (hc : ClkIn c) (h : chamOk r = true) (s : Int) : (-100000 ≤ tempS r s - tempS r 0 ∧ tempS r s - tempS r 0 ≤ 100000) ∧ (-100000000000000 ≤ warmedS c r s ∧ warmedS c r s ≤ 100000000000000) := by
  have a := tempS_bd h s
  have b := tempS_bd h 0
  have d : -100000 ≤ tempS r s - tempS r 0 ∧ tempS r s - tempS r 0 ≤ 100000 := by omega
  refine ⟨d, ?_⟩
  unfold warmedS
  have hh := hc.heat
  rw [Int.mul_comm]
  by_cases h0 : 0 ≤ c.heat
  · have := mul_bd (tempS r s - tempS r 0) c.heat 100000 1000000000 d ⟨h0, hh.2⟩; omega
  · have := mul_bd (tempS r s - tempS r 0) (-c.heat) 100000 1000000000 d ⟨by omega, by omega⟩
    rw [Int.mul_neg] at this
    omega
theorem aged_bd {c : Clk} (hc : ClkIn c) (s : Int) (h0 : 0 ≤ s) (h1 : s ≤ 1000000) : (-5000000000000000000 ≤ c.drift * (s * (s - 1) / 2) ∧ c.drift * (s * (s - 1) / 2) ≤ 5000000000000000000) ∧ (-60000000000000 ≤ agedS c s ∧ agedS c s ≤ 60000000000000) := by
  have a := (half_bd s h0 h1).2
  have m := mul_bd c.drift (s * (s - 1) / 2) 10000000 500000000000 hc.drift a
  refine ⟨by omega, ?_⟩
  unfold agedS
  omega
theorem past_bd {c : Clk} (hc : ClkIn c) (s : Int) (h0 : 0 ≤ s) (h1 : s ≤ 1000000) : (-80000000000000 ≤ (pastS s c.evs).jumped ∧ (pastS s c.evs).jumped ≤ 80000000000000) ∧ (-80000000000000000 ≤ (pastS s c.evs).kicked ∧ (pastS s c.evs).kicked ≤ 80000000000000000) := by
  obtain ⟨hl, hok⟩ := evsOk_parts hc.evs
  have h := past_bound s c.evs hok h0 h1 c.evs.length (Nat.le_refl _)
  rw [List.take_length] at h
  obtain ⟨a, b⟩ := h
  omega
theorem rate_bd {c : Clk} (hc : ClkIn c) (s : Int) (h0 : 0 ≤ s) (h1 : s ≤ 1000000) : -10000000000000000 ≤ c.rate * s ∧ c.rate * s ≤ 10000000000000000 := by
  have m := mul_bd c.rate s 10000000000 1000000 hc.rate ⟨h0, h1⟩
  omega
end
section
open Go Go.RowKit
abbrev DInt := { x : Int // -1000000000 ≤ x ∧ x ≤ 1000000000 }
def drawL (src walk i0 : Int) (hw : 0 ≤ walk ∧ walk ≤ 1000000000) (n : Nat) : List DInt :=
  (List.range n).map fun (i : Nat) => ⟨drawS src (i0 + (i : Int) + 1) walk, by have := drawS_bd src (i0 + i + 1) walk hw.1; omega⟩
theorem drawL_len (src walk i0 : Int) (hw : 0 ≤ walk ∧ walk ≤ 1000000000) (n : Nat) : (drawL src walk i0 hw n).length = n := by simp [drawL]
theorem drawL_succ (src walk i0 : Int) (hw : 0 ≤ walk ∧ walk ≤ 1000000000) (n : Nat) :
    drawL src walk i0 hw (n + 1) = drawL src walk i0 hw n ++ [⟨drawS src (i0 + n + 1) walk, by have := drawS_bd src (i0 + n + 1) walk hw.1; omega⟩] := by
  simp [drawL, List.range_succ]
theorem drawL_prefix (src walk i0 : Int) (hw : 0 ≤ walk ∧ walk ≤ 1000000000) (j n : Nat) (h : j ≤ n) : drawL src walk i0 hw j <+: drawL src walk i0 hw n := by
  induction n with
  | zero => obtain rfl : j = 0 := by omega
            exact List.prefix_refl _
  | succ n ih =>
    by_cases hj : j = n + 1
    · subst hj; exact List.prefix_refl _
    · rw [drawL_succ]; exact (ih (by omega)).trans (List.prefix_append _ _)
def sumD : List DInt → Int := fun l => l.foldl (fun t x => t + x.1) 0
theorem sumD_snoc (l : List DInt) (x : DInt) : sumD (l ++ [x]) = sumD l + x.1 := by simp [sumD]
theorem sumD_drawL (src walk i0 : Int) (hw : 0 ≤ walk ∧ walk ≤ 1000000000) (n : Nat) : sumD (drawL src walk i0 hw n) = sumDraws src walk i0 n := by
  induction n with
  | zero => rfl
  | succ n ih => rw [drawL_succ, sumD_snoc, ih]; rfl
theorem foldD_bd : ∀ (l : List DInt) (t : Int) (k : Nat), -(1000000000 * k) ≤ t → t ≤ 1000000000 * k → -(1000000000 * (k + l.length : Nat) : Int) ≤ l.foldl (fun t x => t + x.1) t ∧ l.foldl (fun t x => t + x.1) t ≤ 1000000000 * (k + l.length : Nat)
  | [], t, k, h1, h2 => by simp; omega
  | x :: r, t, k, h1, h2 => by
    have hx := x.2
    have := foldD_bd r (t + x.1) (k + 1) (by omega) (by omega)
    simp only [List.foldl_cons, List.length_cons]
    have e : k + 1 + r.length = k + (r.length + 1) := by omega
    rw [e] at this
    exact this
theorem sumD_bd (l : List DInt) : -(1000000000 * (l.length : Int)) ≤ sumD l ∧ sumD l ≤ 1000000000 * (l.length : Int) := by
  have := foldD_bd l 0 0 (by omega) (by omega)
  simp only [Nat.zero_add] at this
  exact this
end
section
open Go Go.RowKit
def secsOk (l : List Int) : Bool := l.all fun s => inR s 0 1000000
def findErr (W : Wld) (k : Int) (l : List Int) : Int :=
  if checkS W = 0 then (if inR k 0 (W.cls.length - 1) = true then (if secsOk l = true then 0 else 21) else 20) else checkS W
def noClk : Clk := ⟨1, 0, 0, 0, 0, 0, 0, 0, []⟩
def noCham : Cham := ⟨0, 0, 2⟩
def clkOf (W : Wld) (k : Int) : Clk := (W.cls[k.toNat]?).getD noClk
def roomOf (W : Wld) (k : Int) : Cham := (W.chs[(clkOf W k).room.toNat]?).getD noCham
def runsS (c : Clk) (s : Int) : Bool := !(pastS s c.evs).stopped
/-- what is known of a clock of a world that is allowed -/
structure Allowed (W : Wld) (k : Int) : Prop where
  cin : ClkIn (clkOf W k)
  rok : chamOk (roomOf W k) = true
  k16 : 0 ≤ k ∧ k ≤ 16
  hk : k.toNat < W.cls.length
  hc : W.cls[k.toNat]? = some (clkOf W k)
  hi : (clkOf W k).room.toNat < W.chs.length
  hr : W.chs[(clkOf W k).room.toNat]? = some (roomOf W k)
  room : 0 ≤ (clkOf W k).room
theorem findErr_zero {W : Wld} {k : Int} {l : List Int} (h : findErr W k l = 0) : checkS W = 0 ∧ inR k 0 (W.cls.length - 1) = true ∧ secsOk l = true := by
  unfold findErr at h
  by_cases h0 : checkS W = 0
  · rw [if_pos h0] at h
    cases h1 : inR k 0 (W.cls.length - 1)
    · rw [h1, if_neg (by decide)] at h; omega
    · rw [h1, if_pos rfl] at h
      cases h2 : secsOk l
      · rw [h2, if_neg (by decide)] at h; omega
      · exact ⟨h0, rfl, rfl⟩
  · rw [if_neg h0] at h; exact absurd h h0
theorem allowed_of {W : Wld} {k : Int} (h : checkS W = 0) (hk : inR k 0 (W.cls.length - 1) = true) : Allowed W k := by
  obtain ⟨h1, h2, h3, h4⟩ := checkS_zero h
  have hk' := inR_true hk
  have hj : k.toNat < W.cls.length := by omega
  have hce : W.cls[k.toNat]? = some (W.cls[k.toNat]) := List.getElem?_eq_getElem hj
  have hco : clkOf W k = W.cls[k.toNat] := by unfold clkOf; rw [hce]; rfl
  have c1 := List.all_eq_true.1 h3 _ (List.getElem_mem hj)
  have c2 := List.all_eq_true.1 h4 _ (List.getElem_mem hj)
  obtain ⟨c3, c4, c5⟩ := clkIn_of c1 c2
  rw [← hco] at c3 c4 c5 hce
  have hi : (clkOf W k).room.toNat < W.chs.length := by omega
  have hre : W.chs[(clkOf W k).room.toNat]? = some (W.chs[(clkOf W k).room.toNat]) := List.getElem?_eq_getElem hi
  have hro : roomOf W k = W.chs[(clkOf W k).room.toNat] := by unfold roomOf; rw [hre]; rfl
  have r1 := List.all_eq_true.1 h2 _ (List.getElem_mem hi)
  simp only [manyOk, Bool.and_eq_true, inR_iff] at h1
  rw [← hro] at r1 hre
  exact ⟨c3, r1, by omega, hj, hce, hi, hre, c4⟩
theorem allowed_find {W : Wld} {k : Int} {l : List Int} (h : findErr W k l = 0) : Allowed W k :=
  allowed_of (findErr_zero h).1 (findErr_zero h).2.1
theorem sec_of {W : Wld} {k s : Int} (h : findErr W k [s] = 0) : 0 ≤ s ∧ s ≤ 1000000 := by
  have := (findErr_zero h).2.2
  simp only [secsOk, List.all_cons, List.all_nil, Bool.and_true, inR_iff] at this
  exact this
theorem secs_of {W : Wld} {k a b : Int} (h : findErr W k [a, b] = 0) : (0 ≤ a ∧ a ≤ 1000000) ∧ (0 ≤ b ∧ b ≤ 1000000) := by
  have := (findErr_zero h).2.2
  simp only [secsOk, List.all_cons, List.all_nil, Bool.and_true, Bool.and_eq_true, inR_iff] at this
  exact this
/-! bounds of what is shown -/
theorem gained_bd {c : Clk} (hc : ClkIn c) (s : Int) (h0 : 0 ≤ s) (h1 : s ≤ 1000000) : -91000000000000 ≤ gainedS c s ∧ gainedS c s ≤ 91000000000000 := by
  have a := (aged_bd hc s h0 h1).2
  have b := (past_bd hc s h0 h1).2
  have d := rate_bd hc s h0 h1
  unfold gainedS
  omega
theorem fixed_bd {c : Clk} {r : Cham} (hc : ClkIn c) (hr : chamOk r = true) (s : Int) (h0 : 0 ≤ s) (h1 : s ≤ 1000000) : -371000000000000 ≤ fixedS c r s ∧ fixedS c r s ≤ 371000000000000 := by
  have a := gained_bd hc s h0 h1
  have b := (warm_bd hc hr s).2
  have d := (past_bd hc s h0 h1).1
  have e := hc.phase
  unfold fixedS
  omega
theorem sumDraws_bd (src walk i : Int) (hw : 0 ≤ walk) (n : Nat) : -(walk * n) ≤ sumDraws src walk i n ∧ sumDraws src walk i n ≤ walk * n := by
  induction n with
  | zero => simp [sumDraws]
  | succ n ih =>
    have h := drawS_bd src (i + n + 1) walk hw
    have e : walk * ((n + 1 : Nat) : Int) = walk * n + walk := by rw [Int.natCast_add, Int.mul_add]; simp
    rw [e]
    show -(walk * n + walk) ≤ sumDraws src walk i n + drawS src (i + n + 1) walk ∧ sumDraws src walk i n + drawS src (i + n + 1) walk ≤ walk * n + walk
    omega
theorem walked_bd (seed k walk a b : Int) (hw : 0 ≤ walk) (_h0 : 0 ≤ a) (h1 : a ≤ b) : -(walk * (b / 100 - a / 100)) ≤ walkedS seed k walk a b ∧ walkedS seed k walk a b ≤ walk * (b / 100 - a / 100) := by
  have h := sumDraws_bd (sourceS seed 1 k) walk (a / 100) hw (b / 100 - a / 100).toNat
  have e : (((b / 100 - a / 100).toNat : Nat) : Int) = b / 100 - a / 100 := by omega
  rw [e] at h
  exact h
theorem stray_bd {c : Clk} (hc : ClkIn c) (a b : Int) (h0 : 0 ≤ a) (h1 : a ≤ b) (h2 : b ≤ 1000000) : 0 ≤ c.walk * (b / 100 - a / 100) ∧ c.walk * (b / 100 - a / 100) ≤ 10000000000000 := by
  have hw := hc.walk
  have m := mul_bd c.walk (b / 100 - a / 100) 1000000000 10000 (by omega) (by omega)
  exact ⟨Int.mul_nonneg hw.1 (by omega), by omega⟩
theorem phase_bd {c : Clk} {r : Cham} (seed k : Int) (hc : ClkIn c) (hr : chamOk r = true) (s : Int) (h0 : 0 ≤ s) (h1 : s ≤ 1000000) : -381000000000000 ≤ phaseS seed k c r s ∧ phaseS seed k c r s ≤ 381000000000000 := by
  have a := fixed_bd hc hr s h0 h1
  have b := walked_bd seed k c.walk 0 s hc.walk.1 (Int.le_refl 0) h0
  have d := stray_bd hc 0 s (Int.le_refl 0) h0 h1
  unfold phaseS
  omega
theorem white_bd {c : Clk} (seed k : Int) (hc : ClkIn c) (s : Int) : -c.white ≤ whiteS seed k c s ∧ whiteS seed k c s ≤ c.white := drawS_bd _ _ _ hc.white.1
theorem shown_bd {c : Clk} {r : Cham} (seed k : Int) (hc : ClkIn c) (hr : chamOk r = true) (s : Int) (h0 : 0 ≤ s) (h1 : s ≤ 1000000) : -382000000000000 ≤ shownS seed k c r s ∧ shownS seed k c r s ≤ 382000000000000 := by
  have a := phase_bd seed k hc hr s h0 h1
  have b := white_bd seed k hc s
  have d := hc.white
  unfold shownS
  omega
/-! what the calls answer: a value and an error -/
structure IntErr where
  v : Int
  e : Int
def phaseE (W : Wld) (k s : Int) : IntErr := if findErr W k [s] = 0 then ⟨phaseS W.seed k (clkOf W k) (roomOf W k) s, 0⟩ else ⟨0, findErr W k [s]⟩
/-- the error of a clock that must run -/
def runErr (W : Wld) (k s : Int) : Int := if findErr W k [s] = 0 then (if runsS (clkOf W k) s = true then 0 else 22) else findErr W k [s]
def shownE (W : Wld) (k s : Int) : IntErr := if runErr W k s = 0 then ⟨shownS W.seed k (clkOf W k) (roomOf W k) s, 0⟩ else ⟨0, runErr W k s⟩
theorem runErr_zero {W : Wld} {k s : Int} (h : runErr W k s = 0) : findErr W k [s] = 0 ∧ runsS (clkOf W k) s = true := by
  unfold runErr at h
  by_cases h0 : findErr W k [s] = 0
  · rw [if_pos h0] at h
    cases h1 : runsS (clkOf W k) s
    · rw [h1, if_neg (by decide)] at h; omega
    · exact ⟨h0, rfl⟩
  · rw [if_neg h0] at h; exact absurd h h0
structure BoolErr where
  v : Bool
  e : Int
def runsE (W : Wld) (k s : Int) : BoolErr := if findErr W k [s] = 0 then ⟨runsS (clkOf W k) s, 0⟩ else ⟨false, findErr W k [s]⟩
structure PairErr where
  a : Int
  b : Int
  e : Int
def readSec (s sh : Int) : Int := s + sh / 1000000000000000
def readFs (sh : Int) : Int := sh - sh / 1000000000000000 * 1000000000000000
def readE (W : Wld) (k s : Int) : PairErr :=
  if runErr W k s = 0 then ⟨readSec s (shownS W.seed k (clkOf W k) (roomOf W k) s), readFs (shownS W.seed k (clkOf W k) (roomOf W k) s), 0⟩ else ⟨0, 0, runErr W k s⟩
def reachE (W : Wld) (k s : Int) : PairErr :=
  if findErr W k [s] = 0 then ⟨fixedS (clkOf W k) (roomOf W k) s - (strayedS (clkOf W k) 0 s + (clkOf W k).white), fixedS (clkOf W k) (roomOf W k) s + (strayedS (clkOf W k) 0 s + (clkOf W k).white), 0⟩ else ⟨0, 0, findErr W k [s]⟩
def growErr (W : Wld) (k a b : Int) : Int := if findErr W k [a, b] = 0 then (if b < a then 1 else 0) else findErr W k [a, b]
def growthE (W : Wld) (k a b : Int) : PairErr :=
  if growErr W k a b = 0 then ⟨fixedS (clkOf W k) (roomOf W k) b - fixedS (clkOf W k) (roomOf W k) a - strayedS (clkOf W k) a b, fixedS (clkOf W k) (roomOf W k) b - fixedS (clkOf W k) (roomOf W k) a + strayedS (clkOf W k) a b, 0⟩
  else ⟨0, 0, growErr W k a b⟩
def tempErr (W : Wld) (k s : Int) : Int := if checkS W = 0 then (if inR k 0 (W.chs.length - 1) = true then (if inR s 0 1000000 = true then 0 else 21) else 20) else checkS W
def chamOf (W : Wld) (k : Int) : Cham := (W.chs[k.toNat]?).getD noCham
def tempE (W : Wld) (k s : Int) : IntErr := if tempErr W k s = 0 then ⟨tempS (chamOf W k) s, 0⟩ else ⟨0, tempErr W k s⟩
def drawOk (kind clock index most : Int) : Bool := decide (0 ≤ kind) && (decide (0 ≤ clock) && (decide (0 ≤ index) && inR most 0 1000000000000000))
def drawE (seed kind clock index most : Int) : IntErr := if drawOk kind clock index most = true then ⟨drawS (sourceS seed kind clock) index most, 0⟩ else ⟨0, 1⟩
end
section
open Go Go.RowKit
abbrev EvtIn := { e : Evt // 1 ≤ e.sec ∧ e.sec ≤ 1000000 }
abbrev BEv := Int × EvtIn
def lastStep (c : Clk) (s : Int) (e : Evt) : Int := if e.sec ≤ s ∧ runsS c s = false then e.sec - 1 else s
def lastFrom (c : Clk) (s : Int) (l : List BEv) : Int := l.foldl (fun s x => lastStep c s x.2.1) s
def lastS (c : Clk) (s : Int) : Int := c.evs.reverse.foldl (lastStep c) s
theorem lastFrom_snoc (c : Clk) (s : Int) (l : List BEv) (x : BEv) : lastFrom c s (l ++ [x]) = lastStep c (lastFrom c s l) x.2.1 := by simp [lastFrom]
theorem lastFrom_all (c : Clk) (s : Int) (l : List BEv) (h : l.map (fun x => x.2.1) = c.evs.reverse) : lastFrom c s l = lastS c s := by
  unfold lastFrom lastS; rw [← h, List.foldl_map]
theorem lastStep_bd (c : Clk) (s : Int) (e : EvtIn) (h0 : 0 ≤ s) (h1 : s ≤ 1000000) : 0 ≤ lastStep c s e.1 ∧ lastStep c s e.1 ≤ 1000000 := by
  have := e.2
  unfold lastStep; split <;> omega
theorem foldLast_bd (c : Clk) : ∀ (l : List BEv) (s : Int), 0 ≤ s → s ≤ 1000000 → 0 ≤ l.foldl (fun s (x : BEv) => lastStep c s x.2.1) s ∧ l.foldl (fun s (x : BEv) => lastStep c s x.2.1) s ≤ 1000000
  | [], s, h0, h1 => ⟨h0, h1⟩
  | x :: r, s, h0, h1 => by
    have := lastStep_bd c s x.2 h0 h1
    exact foldLast_bd c r _ this.1 this.2
theorem lastFrom_bd (c : Clk) (s : Int) (l : List BEv) (h0 : 0 ≤ s) (h1 : s ≤ 1000000) : 0 ≤ lastFrom c s l ∧ lastFrom c s l ≤ 1000000 := foldLast_bd c l s h0 h1
theorem rev_take {α : Type} (l : List α) (q : Nat) (h : q < l.length) : l.reverse.take (l.length - q) = l.reverse.take (l.length - (q + 1)) ++ [l[q]] := by
  have e : l.length - q = l.length - (q + 1) + 1 := by omega
  have hk : l.length - (q + 1) < l.reverse.length := by simp; omega
  rw [e, List.take_succ_eq_append_getElem hk, List.getElem_reverse]
  congr 2
  congr 1
  omega
end
section
open Go Go.RowKit
def afterS (a b c d : Int) : Bool := decide (c < a) || (a == c && decide (d < b))
/-- is a moment after what is read at a second? -/
def lateS (seed k : Int) (c : Clk) (r : Cham) (ms mf s : Int) : Bool := afterS (readSec s (shownS seed k c r s)) (readFs (shownS seed k c r s)) ms mf
def backFrom (late : Int → Bool) : Nat → Option Int
  | 0 => none
  | q + 1 => if late (q : Int) = false then some (q : Int) else backFrom late q
def capS (ms : Int) : Int := if ms ≤ 999999 then ms else 999999
def backOf (c : Clk) : Option Int → IntErr
  | some s => ⟨lastS c s, 0⟩
  | none => ⟨0, 4⟩
def backS (seed k : Int) (c : Clk) (r : Cham) (ms mf : Int) : IntErr := backOf c (backFrom (lateS seed k c r ms mf) (capS ms + 1 + 1).toNat)
def backErr (W : Wld) (k mf : Int) : Int := if findErr W k [] = 0 then (if inR mf 0 999999999999999 = true then 0 else 1) else findErr W k []
def backE (W : Wld) (k ms mf : Int) : IntErr := if backErr W k mf = 0 then backS W.seed k (clkOf W k) (roomOf W k) ms mf else ⟨0, backErr W k mf⟩
theorem backFrom_no {late : Int → Bool} {t : Int} (h0 : 0 ≤ t) (h : late t = true) : backFrom late (t + 1).toNat = backFrom late (t - 1 + 1).toNat := by
  obtain ⟨q, rfl⟩ := Int.eq_ofNat_of_zero_le h0
  rw [show ((q : Int) + 1).toNat = q + 1 by omega, show ((q : Int) - 1 + 1).toNat = q by omega]
  simp only [backFrom, h]; rfl
theorem backFrom_yes {late : Int → Bool} {t : Int} (h0 : 0 ≤ t) (h : late t = false) : backFrom late (t + 1).toNat = some t := by
  obtain ⟨q, rfl⟩ := Int.eq_ofNat_of_zero_le h0
  rw [show ((q : Int) + 1).toNat = q + 1 by omega]
  simp only [backFrom, h]; rfl
theorem backFrom_end {late : Int → Bool} {t : Int} (h : t < 0) : backFrom late (t + 1).toNat = none := by
  rw [show (t + 1).toNat = 0 by omega]; rfl
end
section
open Go Go.RowKit
def posS (n : Int) : Int := if n.tmod 1000001 < 0 then -(n.tmod 1000001) else n.tmod 1000001
theorem posS_bd (n : Int) : 0 ≤ posS n ∧ posS n ≤ 1000000 := by
  have a := Int.lt_tmod_of_pos n (show (0 : Int) < 1000001 by decide)
  have b := Int.tmod_lt_of_pos n (show (0 : Int) < 1000001 by decide)
  unfold posS; split <;> omega
def quietW (walk white : Int) : Clk := ⟨1, 0, 0, 0, white, walk, 0, 0, []⟩
def walksW (seed walk white : Int) : Wld := ⟨seed, [⟨0, 0, 2⟩], [⟨4, 0, 0, 0, 0, 0, 0, 0, []⟩, quietW walk white]⟩
theorem walks_check (seed walk white : Int) (h1 : 0 ≤ walk ∧ walk ≤ 100000) (h2 : 0 ≤ white ∧ white ≤ 1000000) : checkS (walksW seed walk white) = 0 := by
  have a : inR walk 0 100000 = true := (inR_iff _ _ _).2 h1
  have b : inR white 0 10000000 = true := (inR_iff _ _ _).2 (by omega)
  have e1 : manyOk (walksW seed walk white) = true := rfl
  have e2 : (walksW seed walk white).chs.all chamOk = true := rfl
  have e3 : clkOk 1 (quietW walk white) = true := by
    unfold clkOk quietW
    simp only [show rateOf 1 = 10000000 from rfl, show driftOf 1 = 10000 from rfl, show whiteOf 1 = 10000000 from rfl, show walkOf 1 = 100000 from rfl, a, b]
    decide
  have e4 : (walksW seed walk white).cls.all (clkOk (walksW seed walk white).chs.length) = true := by
    show (clkOk 1 ⟨4, 0, 0, 0, 0, 0, 0, 0, []⟩ && (clkOk 1 (quietW walk white) && true)) = true
    rw [e3]; decide
  have e5 : (walksW seed walk white).cls.all evsOf = true := by
    show (evsOf ⟨4, 0, 0, 0, 0, 0, 0, 0, []⟩ && (evsOf (quietW walk white) && true)) = true
    rfl
  unfold checkS
  rw [e1, e2, e4, e5]; rfl
theorem walks_find (seed walk white s : Int) (h1 : 0 ≤ walk ∧ walk ≤ 100000) (h2 : 0 ≤ white ∧ white ≤ 1000000) (h3 : 0 ≤ s ∧ s ≤ 1000000) : findErr (walksW seed walk white) 1 [s] = 0 := by
  have a : inR s 0 1000000 = true := (inR_iff _ _ _).2 h3
  unfold findErr
  rw [if_pos (walks_check seed walk white h1 h2), show inR 1 0 ((walksW seed walk white).cls.length - 1) = true from rfl, show secsOk [s] = (inR s 0 1000000 && true) from rfl, a]
  rfl
theorem quiet_fixed (walk white s : Int) (r : Cham) : fixedS (quietW walk white) r s = 0 := by
  simp [fixedS, gainedS, agedS, warmedS, quietW, pastS, pastFrom]
theorem walks_phase (seed walk white s : Int) (h1 : 0 ≤ walk ∧ walk ≤ 100000) (h2 : 0 ≤ white ∧ white ≤ 1000000) (h3 : 0 ≤ s ∧ s ≤ 1000000) :
    phaseE (walksW seed walk white) 1 s = ⟨walkedS seed 1 walk 0 s, 0⟩ := by
  unfold phaseE
  rw [if_pos (walks_find seed walk white s h1 h2 h3)]
  have e : phaseS (walksW seed walk white).seed 1 (clkOf (walksW seed walk white) 1) (roomOf (walksW seed walk white) 1) s = walkedS seed 1 walk 0 s := by
    show fixedS (quietW walk white) _ s + walkedS seed 1 walk 0 s = _
    rw [quiet_fixed, Int.zero_add]
  rw [e]
theorem walks_shown (seed walk white s : Int) (h1 : 0 ≤ walk ∧ walk ≤ 100000) (h2 : 0 ≤ white ∧ white ≤ 1000000) (h3 : 0 ≤ s ∧ s ≤ 1000000) :
    shownE (walksW seed walk white) 1 s = ⟨walkedS seed 1 walk 0 s + drawS (sourceS seed 2 1) s white, 0⟩ := by
  have hr : runErr (walksW seed walk white) 1 s = 0 := by
    unfold runErr
    rw [if_pos (walks_find seed walk white s h1 h2 h3)]
    rfl
  unfold shownE
  rw [if_pos hr]
  have e : shownS (walksW seed walk white).seed 1 (clkOf (walksW seed walk white) 1) (roomOf (walksW seed walk white) 1) s = walkedS seed 1 walk 0 s + drawS (sourceS seed 2 1) s white := by
    show fixedS (quietW walk white) _ s + walkedS seed 1 walk 0 s + drawS (sourceS seed 2 1) s white = _
    rw [quiet_fixed, Int.zero_add]
  rw [e]
theorem walked_next (seed walk s : Int) (h0 : 0 ≤ s) : walkedS seed 1 walk 0 (s + 100) - walkedS seed 1 walk 0 s = drawS (sourceS seed 1 1) (s / 100 + 1) walk := by
  unfold walkedS
  have e1 : ((s + 100) / 100 - 0 / 100).toNat = (s / 100 - 0 / 100).toNat + 1 := by omega
  have e2 : (0 : Int) / 100 = 0 := rfl
  rw [e1]
  show sumDraws _ _ _ _ + drawS _ (0 / 100 + (((s / 100 - 0 / 100).toNat : Nat) : Int) + 1) walk - _ = _
  have e3 : (0 : Int) / 100 + (((s / 100 - 0 / 100).toNat : Nat) : Int) + 1 = s / 100 + 1 := by omega
  rw [e3]
  omega
theorem walked_small (seed walk s : Int) (h1 : 0 ≤ walk ∧ walk ≤ 100000) (h3 : 0 ≤ s ∧ s ≤ 1000000) : -1000000000 ≤ walkedS seed 1 walk 0 s ∧ walkedS seed 1 walk 0 s ≤ 1000000000 := by
  have a := walked_bd seed 1 walk 0 s h1.1 (Int.le_refl 0) h3.1
  have b := mul_bd walk (s / 100 - 0 / 100) 100000 10000 (by omega) (by omega)
  omega
theorem walks_draw (seed kind index most : Int) (hk : 0 ≤ kind) (hi : 0 ≤ index) (hm : 0 ≤ most ∧ most ≤ 1000000000000000) : drawE seed kind 1 index most = ⟨drawS (sourceS seed kind 1) index most, 0⟩ := by
  have h : drawOk kind 1 index most = true := by
    simp only [drawOk, Bool.and_eq_true, decide_eq_true_eq, inR_iff]
    exact ⟨hk, by decide, hi, hm⟩
  unfold drawE; rw [if_pos h]
end
section
open Go Go.RowKit
def reseed (W : Wld) (seed : Int) : Wld := ⟨seed, W.chs, W.cls⟩
theorem reseed_find (W : Wld) (seed k : Int) (l : List Int) : findErr (reseed W seed) k l = findErr W k l := rfl
theorem reseed_run (W : Wld) (seed k s : Int) : runErr (reseed W seed) k s = runErr W k s := rfl
theorem sumDraws_add (src walk i : Int) (n m : Nat) : sumDraws src walk i (n + m) = sumDraws src walk i n + sumDraws src walk (i + n) m := by
  induction m with
  | zero => simp [sumDraws]
  | succ m ih =>
    show sumDraws src walk i (n + m) + drawS src (i + (n + m : Nat) + 1) walk = sumDraws src walk i n + (sumDraws src walk (i + n) m + drawS src (i + n + m + 1) walk)
    rw [ih, show i + ((n + m : Nat) : Int) + 1 = i + n + m + 1 by omega]; omega
theorem walked_add (seed k walk a b : Int) (h0 : 0 ≤ a) (h1 : a ≤ b) : walkedS seed k walk 0 b = walkedS seed k walk 0 a + walkedS seed k walk a b := by
  unfold walkedS
  have e : (b / 100 - 0 / 100).toNat = (a / 100 - 0 / 100).toNat + (b / 100 - a / 100).toNat := by omega
  rw [e, sumDraws_add]
  have e2 : (0 : Int) / 100 + ((a / 100 - 0 / 100).toNat : Nat) = a / 100 := by omega
  rw [e2]
/-- what is asked of a reach (r) and of what is shown (n) -/
structure InReach (r : PairErr) (n : IntErr) : Prop where
  ok : r.e = 0 → n.e = 0 → r.a ≤ n.v ∧ n.v ≤ r.b ∧ -400000000000000 < r.a ∧ r.b < 400000000000000
  no : r.e ≠ 0 → n.e = r.e
theorem holds_reach (W : Wld) (seed k a : Int) : InReach (reachE W k a) (shownE (reseed W seed) k a) := by
  by_cases h : findErr W k [a] = 0
  · have er : reachE W k a = ⟨fixedS (clkOf W k) (roomOf W k) a - (strayedS (clkOf W k) 0 a + (clkOf W k).white), fixedS (clkOf W k) (roomOf W k) a + (strayedS (clkOf W k) 0 a + (clkOf W k).white), 0⟩ := if_pos h
    rw [er]
    refine ⟨fun _ h2 => ?_, fun h2 => absurd rfl h2⟩
    have hr : runErr (reseed W seed) k a = 0 := by
      by_cases hr : runErr (reseed W seed) k a = 0
      · exact hr
      · have es : shownE (reseed W seed) k a = ⟨0, runErr (reseed W seed) k a⟩ := if_neg hr
        rw [es] at h2; exact h2
    have es : shownE (reseed W seed) k a = ⟨shownS seed k (clkOf W k) (roomOf W k) a, 0⟩ := if_pos hr
    rw [es]
    have al := allowed_find h
    obtain ⟨s0, s1⟩ := sec_of h
    have f := fixed_bd al.cin al.rok a s0 s1
    have g := walked_bd seed k (clkOf W k).walk 0 a al.cin.walk.1 (Int.le_refl 0) s0
    have i := stray_bd al.cin 0 a (Int.le_refl 0) s0 s1
    have j := white_bd seed k al.cin a
    have l := al.cin.white
    simp only [shownS, phaseS, strayedS]
    omega
  · have er : reachE W k a = ⟨0, 0, findErr W k [a]⟩ := if_neg h
    have hr : runErr (reseed W seed) k a = findErr W k [a] := by
      rw [reseed_run]; unfold runErr; rw [if_neg h]
    have es : shownE (reseed W seed) k a = ⟨0, findErr W k [a]⟩ := by
      unfold shownE; rw [hr, if_neg h]
    rw [er, es]
    exact ⟨fun h2 => absurd h2 h, fun _ => rfl⟩
/-- what is asked of a growth (g) and of two phases -/
structure InGrowth (g : PairErr) (x y : IntErr) : Prop where
  ok : g.e = 0 → (x.e = 0 ∧ y.e = 0) ∧ g.a ≤ y.v - x.v ∧ y.v - x.v ≤ g.b ∧ (-400000000000000 ≤ x.v ∧ x.v ≤ 400000000000000) ∧ (-400000000000000 ≤ y.v ∧ y.v ≤ 400000000000000)
theorem find_two {W : Wld} {k a b : Int} (h : findErr W k [a, b] = 0) : findErr W k [a] = 0 ∧ findErr W k [b] = 0 := by
  obtain ⟨h1, h2, h3⟩ := findErr_zero h
  simp only [secsOk, List.all_cons, List.all_nil, Bool.and_true, Bool.and_eq_true] at h3
  refine ⟨?_, ?_⟩
  · unfold findErr; rw [if_pos h1, if_pos h2, if_pos (by simp [secsOk, h3.1])]
  · unfold findErr; rw [if_pos h1, if_pos h2, if_pos (by simp [secsOk, h3.2])]
theorem holds_growth (W : Wld) (seed k a b : Int) : InGrowth (growthE W k a b) (phaseE (reseed W seed) k a) (phaseE (reseed W seed) k b) := by
  refine ⟨fun hg => ?_⟩
  have hge : growErr W k a b = 0 := by
    by_cases hr : growErr W k a b = 0
    · exact hr
    · have es : growthE W k a b = ⟨0, 0, growErr W k a b⟩ := if_neg hr
      rw [es] at hg; exact hg
  have hf : findErr W k [a, b] = 0 := by
    by_cases hr : findErr W k [a, b] = 0
    · exact hr
    · unfold growErr at hge; rw [if_neg hr] at hge; exact hge
  have hab : a ≤ b := by
    unfold growErr at hge; rw [if_pos hf] at hge
    by_cases hl : b < a
    · rw [if_pos hl] at hge; omega
    · omega
  have eg : growthE W k a b = ⟨fixedS (clkOf W k) (roomOf W k) b - fixedS (clkOf W k) (roomOf W k) a - strayedS (clkOf W k) a b, fixedS (clkOf W k) (roomOf W k) b - fixedS (clkOf W k) (roomOf W k) a + strayedS (clkOf W k) a b, 0⟩ := if_pos hge
  obtain ⟨fa, fb⟩ := find_two hf
  have ea : phaseE (reseed W seed) k a = ⟨phaseS seed k (clkOf W k) (roomOf W k) a, 0⟩ := if_pos fa
  have eb : phaseE (reseed W seed) k b = ⟨phaseS seed k (clkOf W k) (roomOf W k) b, 0⟩ := if_pos fb
  rw [eg, ea, eb]
  have al := allowed_find fa
  obtain ⟨a0, a1⟩ := sec_of fa
  obtain ⟨b0, b1⟩ := sec_of fb
  have p1 := phase_bd seed k al.cin al.rok a a0 a1
  have p2 := phase_bd seed k al.cin al.rok b b0 b1
  have g := walked_bd seed k (clkOf W k).walk a b al.cin.walk.1 a0 hab
  have w := walked_add seed k (clkOf W k).walk a b a0 hab
  simp only [strayedS]
  have q1 : phaseS seed k (clkOf W k) (roomOf W k) a = fixedS (clkOf W k) (roomOf W k) a + walkedS seed k (clkOf W k).walk 0 a := rfl
  have q2 : phaseS seed k (clkOf W k) (roomOf W k) b = fixedS (clkOf W k) (roomOf W k) b + walkedS seed k (clkOf W k).walk 0 b := rfl
  simp only [true_and, and_true]
  omega
end
section
open Go Go.RowKit
/-- is a moment before another one? -/
def beforeS (a b c d : Int) : Bool := decide (a < c) || (a == c && decide (b < d))
/-- a moment's femtoseconds since the first second -/
def totalS (a b : Int) : Int := a * 1000000000000000 + b
theorem before_iff {a b c d : Int} (h1 : 0 ≤ b ∧ b < 1000000000000000) (h2 : 0 ≤ d ∧ d < 1000000000000000) : beforeS a b c d = decide (totalS a b < totalS c d) := by
  unfold beforeS totalS
  rw [Bool.eq_iff_iff]
  simp only [Bool.or_eq_true, Bool.and_eq_true, decide_eq_true_eq, beq_iff_eq]
  omega
theorem after_iff {a b c d : Int} (h1 : 0 ≤ b ∧ b < 1000000000000000) (h2 : 0 ≤ d ∧ d < 1000000000000000) : afterS a b c d = decide (totalS c d < totalS a b) := by
  unfold afterS totalS
  rw [Bool.eq_iff_iff]
  simp only [Bool.or_eq_true, Bool.and_eq_true, decide_eq_true_eq, beq_iff_eq]
  omega
theorem readFs_bd (sh : Int) : 0 ≤ readFs sh ∧ readFs sh < 1000000000000000 := by unfold readFs; omega
theorem read_total (s sh : Int) : totalS (readSec s sh) (readFs sh) = s * 1000000000000000 + sh := by unfold totalS readSec readFs; omega
theorem backFrom_at {late : Int → Bool} {a : Int} (h0 : 0 ≤ a) (ha : late a = false) : ∀ (n : Nat), a < n → (∀ t, a < t → t < n → late t = true) → backFrom late n = some a
  | 0, h, _ => by omega
  | n + 1, h, hl => by
    unfold backFrom
    by_cases e : a = n
    · subst e; rw [if_pos ha]
    · have hn : late (n : Int) = true := hl n (by omega) (by omega)
      rw [hn, if_neg (by decide)]
      exact backFrom_at h0 ha n (by omega) fun t h1 h2 => hl t h1 (by omega)
theorem backFrom_lt {late : Int → Bool} {a : Int} : ∀ (n : Nat), (∀ t, a ≤ t → t < n → late t = true) → ∀ t, backFrom late n = some t → 0 ≤ t ∧ t < a ∧ t < n
  | 0, _, t, h => by simp [backFrom] at h
  | n + 1, hl, t, h => by
    unfold backFrom at h
    by_cases e : late (n : Int) = false
    · rw [if_pos e] at h
      obtain rfl := Option.some.inj h
      refine ⟨by omega, ?_, by omega⟩
      by_cases hlt : (n : Int) < a
      · exact hlt
      · have := hl n (by omega) (by omega); rw [this] at e; cases e
    · rw [if_neg e] at h
      have := backFrom_lt n (fun t h1 h2 => hl t h1 (by omega)) t h
      omega
theorem lastStep_le (c : Clk) (s : Int) (e : Evt) : lastStep c s e ≤ s := by unfold lastStep; split <;> omega
theorem lastFold_le (c : Clk) : ∀ (l : List Evt) (s : Int), l.foldl (lastStep c) s ≤ s
  | [], _ => Int.le_refl _
  | e :: l, s => Int.le_trans (lastFold_le c l (lastStep c s e)) (lastStep_le c s e)
theorem lastFold_same (c : Clk) (s : Int) (h : runsS c s = true) : ∀ (l : List Evt), l.foldl (lastStep c) s = s
  | [] => rfl
  | e :: l => by
    have : lastStep c s e = s := by unfold lastStep; rw [h]; simp
    rw [List.foldl_cons, this]; exact lastFold_same c s h l
theorem lastS_le (c : Clk) (s : Int) : lastS c s ≤ s := lastFold_le c _ s
theorem lastS_same (c : Clk) (s : Int) (h : runsS c s = true) : lastS c s = s := lastFold_same c s h _
/-- a second of a clock at which it is read -/
structure Readable (W : Wld) (k s : Int) : Prop where
  run : runErr W k s = 0
theorem read_ok {W : Wld} {k s : Int} (h : (readE W k s).e = 0) : Readable W k s := by
  refine ⟨?_⟩
  by_cases hr : runErr W k s = 0
  · exact hr
  · have es : readE W k s = ⟨0, 0, runErr W k s⟩ := if_neg hr
    rw [es] at h; exact h
theorem Readable.eq {W : Wld} {k s : Int} (h : Readable W k s) : readE W k s = ⟨readSec s (shownS W.seed k (clkOf W k) (roomOf W k) s), readFs (shownS W.seed k (clkOf W k) (roomOf W k) s), 0⟩ := if_pos h.run
theorem Readable.bd {W : Wld} {k s : Int} (h : Readable W k s) : (0 ≤ s ∧ s ≤ 1000000) ∧ -382000000000000 ≤ shownS W.seed k (clkOf W k) (roomOf W k) s ∧ shownS W.seed k (clkOf W k) (roomOf W k) s ≤ 382000000000000 := by
  have hf := (runErr_zero h.run).1
  have al := allowed_find hf
  have hs := sec_of hf
  exact ⟨hs, shown_bd W.seed k al.cin al.rok s hs.1 hs.2⟩
/-- what is asked of two readings -/
structure Ordered (a b : Int) (m n : PairErr) : Prop where
  ma : -9000000 ≤ m.a ∧ m.a ≤ 9000000
  m1 : 0 ≤ m.b ∧ m.b < 1000000000000000
  n1 : 0 ≤ n.b ∧ n.b < 1000000000000000
  up : beforeS m.a m.b n.a n.b = decide (a < b)
  down : beforeS n.a n.b m.a m.b = decide (b < a)
theorem orders_read {W : Wld} {k a b : Int} (ha : (readE W k a).e = 0) (hb : (readE W k b).e = 0) : Ordered a b (readE W k a) (readE W k b) := by
  have ra := read_ok ha
  have rb := read_ok hb
  have ea := ra.eq
  have eb := rb.eq
  have da := ra.bd
  have db := rb.bd
  rw [ea, eb]
  have hxy : a = b → shownS W.seed k (clkOf W k) (roomOf W k) a = shownS W.seed k (clkOf W k) (roomOf W k) b := by rintro rfl; rfl
  generalize shownS W.seed k (clkOf W k) (roomOf W k) a = x at *
  generalize shownS W.seed k (clkOf W k) (roomOf W k) b = y at *
  have fx := readFs_bd x
  have fy := readFs_bd y
  refine ⟨?_, fx, fy, ?_, ?_⟩
  · show -9000000 ≤ readSec a x ∧ readSec a x ≤ 9000000
    unfold readSec; omega
  · show beforeS (readSec a x) (readFs x) (readSec b y) (readFs y) = _
    rw [before_iff fx fy, read_total, read_total, decide_eq_decide]; omega
  · show beforeS (readSec b y) (readFs y) (readSec a x) (readFs x) = _
    rw [before_iff fy fx, read_total, read_total, decide_eq_decide]; omega
theorem late_iff (seed k : Int) (c : Clk) (r : Cham) (ms mf t : Int) (h : 0 ≤ mf ∧ mf < 1000000000000000) : lateS seed k c r ms mf t = decide (totalS ms mf < t * 1000000000000000 + shownS seed k c r t) := by
  unfold lateS
  rw [after_iff (readFs_bd _) h, read_total]
theorem back_ok {W : Wld} {k s mf : Int} (h : Readable W k s) (hm : 0 ≤ mf ∧ mf < 1000000000000000) : backErr W k mf = 0 := by
  obtain ⟨h1, h2, _⟩ := findErr_zero (runErr_zero h.run).1
  have h3 : findErr W k [] = 0 := by unfold findErr; rw [if_pos h1, if_pos h2]; rfl
  have h4 : inR mf 0 999999999999999 = true := (inR_iff _ _ _).2 (by omega)
  unfold backErr
  rw [if_pos h3, if_pos h4]
/-- Back of a reading is its second -/
theorem orders_back {W : Wld} {k a : Int} (ha : (readE W k a).e = 0) : backE W k (readE W k a).a (readE W k a).b = ⟨a, 0⟩ := by
  have ra := read_ok ha
  have hf := (runErr_zero ra.run).1
  have hr := (runErr_zero ra.run).2
  have al := allowed_find hf
  have da := ra.bd
  rw [ra.eq]
  have fx := readFs_bd (shownS W.seed k (clkOf W k) (roomOf W k) a)
  show backE W k (readSec a (shownS W.seed k (clkOf W k) (roomOf W k) a)) (readFs (shownS W.seed k (clkOf W k) (roomOf W k) a)) = ⟨a, 0⟩
  unfold backE
  rw [if_pos (back_ok ra fx)]
  unfold backS
  have hl : ∀ t, lateS W.seed k (clkOf W k) (roomOf W k) (readSec a (shownS W.seed k (clkOf W k) (roomOf W k) a)) (readFs (shownS W.seed k (clkOf W k) (roomOf W k) a)) t
      = decide (a * 1000000000000000 + shownS W.seed k (clkOf W k) (roomOf W k) a < t * 1000000000000000 + shownS W.seed k (clkOf W k) (roomOf W k) t) := fun t => by
    rw [late_iff _ _ _ _ _ _ _ fx, read_total]
  have hcap : capS (readSec a (shownS W.seed k (clkOf W k) (roomOf W k) a)) + 1 ≤ 1000000 ∧ a < capS (readSec a (shownS W.seed k (clkOf W k) (roomOf W k) a)) + 1 + 1 := by
    unfold capS readSec; split <;> omega
  rw [backFrom_at (a := a) da.1.1 (by rw [hl]; simp) _ (by omega) (fun t h1 h2 => by
    have st := shown_bd W.seed k al.cin al.rok t (by omega) (by omega)
    rw [hl]; simp only [decide_eq_true_eq]; omega)]
  show (⟨lastS (clkOf W k) a, 0⟩ : IntErr) = ⟨a, 0⟩
  rw [lastS_same _ _ hr]
/-- Back of a moment before a reading is before its second, or there is none -/
def Earlier (a : Int) (x : IntErr) : Prop := (x.e = 0 ∧ x.v < a) ∨ x.e = 4
theorem orders_less {W : Wld} {k a : Int} (ha : (readE W k a).e = 0) (hp : 0 < (readE W k a).b) : Earlier a (backE W k (readE W k a).a ((readE W k a).b - 1)) := by
  have ra := read_ok ha
  have hf := (runErr_zero ra.run).1
  have al := allowed_find hf
  have da := ra.bd
  rw [ra.eq] at hp ⊢
  have fx := readFs_bd (shownS W.seed k (clkOf W k) (roomOf W k) a)
  have hp' : 0 < readFs (shownS W.seed k (clkOf W k) (roomOf W k) a) := hp
  show Earlier a (backE W k (readSec a (shownS W.seed k (clkOf W k) (roomOf W k) a)) (readFs (shownS W.seed k (clkOf W k) (roomOf W k) a) - 1))
  unfold backE
  rw [if_pos (back_ok ra (by omega))]
  unfold backS
  have hl : ∀ t, lateS W.seed k (clkOf W k) (roomOf W k) (readSec a (shownS W.seed k (clkOf W k) (roomOf W k) a)) (readFs (shownS W.seed k (clkOf W k) (roomOf W k) a) - 1) t
      = decide (a * 1000000000000000 + shownS W.seed k (clkOf W k) (roomOf W k) a - 1 < t * 1000000000000000 + shownS W.seed k (clkOf W k) (roomOf W k) t) := fun t => by
    rw [late_iff _ _ _ _ _ _ _ (by omega)]
    have := read_total a (shownS W.seed k (clkOf W k) (roomOf W k) a)
    rw [decide_eq_decide]
    unfold totalS at this ⊢
    omega
  have hcap : capS (readSec a (shownS W.seed k (clkOf W k) (roomOf W k) a)) + 1 ≤ 1000000 := by
    unfold capS readSec; split <;> omega
  generalize hb : backFrom _ _ = o
  cases o with
  | none => exact .inr rfl
  | some t =>
    have := backFrom_lt (a := a) _ (fun t h1 h2 => by
      have st := shown_bd W.seed k al.cin al.rok t (by omega) (by omega)
      rw [hl]; simp only [decide_eq_true_eq]
      by_cases e : t = a
      · subst e; omega
      · omega) t hb
    have hle := lastS_le (clkOf W k) t
    exact .inl ⟨rfl, by show lastS (clkOf W k) t < a; omega⟩
end
section
open Go Go.RowKit
/-! when a clock stands still -/
def stopF (s : Int) (b : Bool) (e : Evt) : Bool := if e.sec ≤ s ∧ e.what ≠ 1 ∧ e.what ≠ 2 then decide (e.what = 3) else b
theorem bear_stopped (p : Past) (s : Int) (e : Evt) : (p.bear s e).stopped = stopF s p.stopped e := by
  unfold Past.bear stopF
  by_cases h : e.sec ≤ s
  · by_cases h1 : e.what = 1
    · simp [h, h1]
    · by_cases h2 : e.what = 2
      · simp [h, h2]
      · by_cases h3 : e.what = 3
        · simp [h, h3]
        · simp [h, h1, h2, h3]
  · simp [h]
theorem stopped_fold (s : Int) : ∀ (l : List Evt) (p : Past), (pastFrom s p l).stopped = l.foldl (stopF s) p.stopped
  | [], _ => rfl
  | e :: l, p => by
    show (pastFrom s (p.bear s e) l).stopped = l.foldl (stopF s) (stopF s p.stopped e)
    rw [stopped_fold s l, bear_stopped]
def stopS (s : Int) (l : List Evt) : Bool := l.foldl (stopF s) false
theorem runs_stop (c : Clk) (s : Int) : runsS c s = !stopS s c.evs := by unfold runsS pastS; rw [stopped_fold]; rfl
theorem runs_false (c : Clk) (s : Int) : runsS c s = false ↔ stopS s c.evs = true := by rw [runs_stop]; simp
def stopAtF (s : Int) (a : Int) (e : Evt) : Int := if e.sec ≤ s ∧ e.what = 3 then e.sec else a
def stopAt (s : Int) (l : List Evt) : Int := l.foldl (stopAtF s) 0
theorem stopAt_fold (s : Int) : ∀ (l : List Evt) (_hl : ∀ e ∈ l, 1 ≤ e.sec) (a : Int) (g : Int → Bool), (g s = true → 1 ≤ a ∧ a ≤ s ∧ ∀ t, a ≤ t → t ≤ s → g t = true) →
    l.foldl (stopF s) (g s) = true → 1 ≤ l.foldl (stopAtF s) a ∧ l.foldl (stopAtF s) a ≤ s ∧ ∀ t, l.foldl (stopAtF s) a ≤ t → t ≤ s → l.foldl (stopF t) (g t) = true
  | [], _, _, _, hg, h => hg h
  | e :: l, hl, a, g, hg, h => by
    refine stopAt_fold s l (fun x hx => hl x (List.mem_cons_of_mem _ hx)) (stopAtF s a e) (fun t => stopF t (g t) e) ?_ h
    have h1 := hl e List.mem_cons_self
    intro h2
    by_cases hs : e.sec ≤ s
    · by_cases h3 : e.what = 3
      · have ea : stopAtF s a e = e.sec := if_pos ⟨hs, h3⟩
        rw [ea]
        refine ⟨h1, hs, fun t ht _ => ?_⟩
        unfold stopF
        rw [if_pos ⟨ht, by omega, by omega⟩, h3]; rfl
      · have ea : stopAtF s a e = a := if_neg fun x => h3 x.2
        rw [ea]
        by_cases h4 : e.what ≠ 1 ∧ e.what ≠ 2
        · unfold stopF at h2
          rw [if_pos ⟨hs, h4⟩] at h2
          exact absurd (of_decide_eq_true h2) h3
        · have en : ∀ t, stopF t (g t) e = g t := fun t => if_neg fun x => h4 x.2
          rw [en] at h2
          obtain ⟨b1, b2, b3⟩ := hg h2
          exact ⟨b1, b2, fun t t1 t2 => by rw [en]; exact b3 t t1 t2⟩
    · have ea : stopAtF s a e = a := if_neg fun x => hs x.1
      have en : ∀ t, t ≤ s → stopF t (g t) e = g t := fun t ht => if_neg fun x => hs (by omega)
      rw [ea]
      rw [en s (Int.le_refl _)] at h2
      obtain ⟨b1, b2, b3⟩ := hg h2
      exact ⟨b1, b2, fun t t1 t2 => by rw [en t t2]; exact b3 t t1 t2⟩
/-- the last stop up to a second at which a clock stands still -/
theorem stopAt_spec (s : Int) (l : List Evt) (hl : ∀ e ∈ l, 1 ≤ e.sec) (h : stopS s l = true) : 1 ≤ stopAt s l ∧ stopAt s l ≤ s ∧ ∀ t, stopAt s l ≤ t → t ≤ s → stopS t l = true :=
  stopAt_fold s l hl 0 (fun _ => false) (fun h => by cases h) h
theorem stop_same (t u : Int) : ∀ (l : List Evt) (b : Bool), (∀ x ∈ l, x.sec ≤ t ↔ x.sec ≤ u) → l.foldl (stopF t) b = l.foldl (stopF u) b
  | [], _, _ => rfl
  | e :: l, b, h => by
    have he : stopF t b e = stopF u b e := by
      have := h e List.mem_cons_self
      unfold stopF
      by_cases h1 : e.sec ≤ t
      · have h2 := this.1 h1; simp [h1, h2]
      · have h2 : ¬ e.sec ≤ u := fun x => h1 (this.2 x)
        simp [h1, h2]
    show l.foldl (stopF t) (stopF t b e) = l.foldl (stopF u) (stopF u b e)
    rw [he]; exact stop_same t u l _ fun x hx => h x (List.mem_cons_of_mem _ hx)
theorem evs_sorted : ∀ (l : List Evt) (last : Int), evsFrom last l = true → l.Pairwise (fun a b => a.sec < b.sec) ∧ ∀ x ∈ l, last < x.sec
  | [], _, _ => ⟨.nil, fun x hx => by cases hx⟩
  | e :: l, last, h => by
    simp only [evsFrom, Bool.and_eq_true, decide_eq_true_eq] at h
    obtain ⟨p, q⟩ := evs_sorted l e.sec h.2.2
    refine ⟨.cons q p, fun x hx => ?_⟩
    rcases List.mem_cons.1 hx with rfl | hx
    · exact h.2.1
    · have := q x hx; omega
theorem last_fold (c : Clk) (s : Int) (h0 : 0 ≤ s) : ∀ (l pre : List Evt), c.evs = pre ++ l → c.evs.Pairwise (fun a b => a.sec < b.sec) → (∀ e ∈ c.evs, 1 ≤ e.sec) →
    (∀ t, l.foldr (fun e cur => lastStep c cur e) s < t → t ≤ s → runsS c t = false) ∧ (runsS c (l.foldr (fun e cur => lastStep c cur e) s) = true ∨ ∀ e ∈ l, l.foldr (fun e cur => lastStep c cur e) s < e.sec) ∧ 0 ≤ l.foldr (fun e cur => lastStep c cur e) s
  | [], _, _, _, _ => ⟨fun t h1 h2 => by simp only [List.foldr_nil] at h1; omega, .inr (fun e he => by cases he), h0⟩
  | e :: l, pre, hev, hp, h1 => by
    obtain ⟨i1, i2, i3⟩ := last_fold c s h0 l (pre ++ [e]) (by rw [hev]; simp) hp h1
    simp only [List.foldr_cons]
    generalize l.foldr (fun e cur => lastStep c cur e) s = cur at *
    have he1 := h1 e (by rw [hev]; simp)
    have hp2 : (∀ x ∈ pre, x.sec < e.sec) ∧ ∀ x ∈ l, e.sec < x.sec := by
      rw [hev, List.pairwise_append] at hp
      exact ⟨fun x hx => hp.2.2 x hx e List.mem_cons_self, fun x hx => (List.pairwise_cons.1 hp.2.1).1 x hx⟩
    by_cases ht : e.sec ≤ cur ∧ runsS c cur = false
    · have es : lastStep c cur e = e.sec - 1 := if_pos ht
      rw [es]
      have hcur : ∀ x ∈ l, cur < x.sec := i2.resolve_left (by rw [ht.2]; simp)
      refine ⟨fun t t1 t2 => ?_, .inr fun x hx => ?_, by omega⟩
      · by_cases hc : cur < t
        · exact i1 t hc t2
        · rw [runs_false]
          have hst := (runs_false c cur).1 ht.2
          unfold stopS at hst ⊢
          rw [stop_same t cur c.evs false fun x hx => ?_]
          · exact hst
          · rw [hev] at hx
            rcases List.mem_append.1 hx with hx | hx
            · have := hp2.1 x hx; constructor <;> intro <;> omega
            · rcases List.mem_cons.1 hx with rfl | hx
              · constructor <;> intro <;> omega
              · have := hcur x hx; constructor <;> intro <;> omega
      · rcases List.mem_cons.1 hx with rfl | hx
        · omega
        · have := hp2.2 x hx; omega
    · have es : lastStep c cur e = cur := if_neg ht
      rw [es]
      refine ⟨i1, ?_, i3⟩
      cases hr : runsS c cur
      · right
        have hcur : ∀ x ∈ l, cur < x.sec := i2.resolve_left (by rw [hr]; simp)
        have hlt : cur < e.sec := by
          by_cases h : e.sec ≤ cur
          · exact absurd ⟨h, hr⟩ ht
          · omega
        intro x hx
        rcases List.mem_cons.1 hx with rfl | hx
        · exact hlt
        · exact hcur x hx
      · exact .inl rfl
theorem stop_none (s : Int) : ∀ (l : List Evt), (∀ e ∈ l, s < e.sec) → ∀ b, l.foldl (stopF s) b = b
  | [], _, _ => rfl
  | e :: l, h, b => by
    have h1 := h e List.mem_cons_self
    have : stopF s b e = b := if_neg (by omega)
    show l.foldl (stopF s) (stopF s b e) = b
    rw [this]; exact stop_none s l (fun x hx => h x (List.mem_cons_of_mem _ hx)) b
/-- lastS is the last second up to s at which the clock runs -/
theorem lastS_spec (c : Clk) (s : Int) (h0 : 0 ≤ s) (he : evsOk c.evs = true) : runsS c (lastS c s) = true ∧ 0 ≤ lastS c s ∧ ∀ t, lastS c s < t → t ≤ s → runsS c t = false := by
  simp only [evsOk, Bool.and_eq_true, decide_eq_true_eq] at he
  obtain ⟨p, q⟩ := evs_sorted c.evs 0 he.2
  have el : lastS c s = c.evs.foldr (fun e cur => lastStep c cur e) s := by unfold lastS; rw [List.foldl_reverse]
  obtain ⟨i1, i2, i3⟩ := last_fold c s h0 c.evs [] rfl p (fun e hx => by have := q e hx; omega)
  rw [← el] at i1 i2 i3
  refine ⟨?_, i3, i1⟩
  rcases i2 with h | h
  · exact h
  · rw [runs_stop]
    unfold stopS
    rw [stop_none _ _ h]; rfl
/-! Back, from the greatest second that can be meant -/
/-- no second from cur to the first one is the answer -/
def NoneAbove (c : Clk) (late : Int → Bool) (top cur : Int) : Prop := ∀ t, cur < t → t ≤ top → runsS c t = true → late t = true
theorem backFrom_max {late : Int → Bool} : ∀ (n : Nat) (t : Int), backFrom late n = some t → late t = false ∧ 0 ≤ t ∧ t < n ∧ ∀ u, t < u → u < n → late u = true
  | 0, t, h => by simp [backFrom] at h
  | n + 1, t, h => by
    unfold backFrom at h
    by_cases e : late (n : Int) = false
    · rw [if_pos e] at h
      obtain rfl := Option.some.inj h
      exact ⟨e, by omega, by omega, fun u h1 h2 => by omega⟩
    · rw [if_neg e] at h
      obtain ⟨a, b, c, d⟩ := backFrom_max n t h
      refine ⟨a, b, by omega, fun u h1 h2 => ?_⟩
      by_cases hu : u = n
      · subst hu; simpa using e
      · exact d u h1 (by omega)
theorem backFrom_no2 {late : Int → Bool} : ∀ (n : Nat), backFrom late n = none → ∀ u : Int, 0 ≤ u → u < n → late u = true
  | 0, _, u, h1, h2 => by omega
  | n + 1, h, u, h1, h2 => by
    unfold backFrom at h
    by_cases e : late (n : Int) = false
    · rw [if_pos e] at h; cases h
    · rw [if_neg e] at h
      by_cases hu : u = n
      · subst hu; simpa using e
      · exact backFrom_no2 n h u h1 (by omega)
theorem back_hit {c : Clk} {late : Int → Bool} (top s : Int) (he : evsOk c.evs = true) (hmono : ∀ a b, 0 ≤ a → a ≤ b → b ≤ top → late a = true → late b = true)
    (h0 : 0 ≤ s) (h1 : s ≤ top) (hr : runsS c s = true) (hl : late s = false) (hn : NoneAbove c late top s) : backOf c (backFrom late (top + 1).toNat) = ⟨s, 0⟩ := by
  cases hb : backFrom late (top + 1).toNat with
  | none => have := backFrom_no2 _ hb s h0 (by omega); rw [hl] at this; cases this
  | some t =>
    obtain ⟨a, b, d, e⟩ := backFrom_max _ t hb
    obtain ⟨r1, r2, r3⟩ := lastS_spec c t b he
    have hle := lastS_le c t
    have hst : s ≤ t := by
      by_cases h : s ≤ t
      · exact h
      · have := e s (by omega) (by omega); rw [hl] at this; cases this
    have h2 : s ≤ lastS c t := by
      by_cases h : s ≤ lastS c t
      · exact h
      · have := r3 s (by omega) hst; rw [hr] at this; cases this
    have h3 : lastS c t ≤ s := by
      by_cases h : lastS c t ≤ s
      · exact h
      · have h4 := hn (lastS c t) (by omega) (by omega) r1
        have h5 := hmono (lastS c t) t r2 hle (by omega) h4
        rw [a] at h5; cases h5
    show (⟨lastS c t, 0⟩ : IntErr) = _
    rw [show lastS c t = s by omega]
theorem back_miss {c : Clk} {late : Int → Bool} (top : Int) (he : evsOk c.evs = true) (hmono : ∀ a b, 0 ≤ a → a ≤ b → b ≤ top → late a = true → late b = true)
    (hn : NoneAbove c late top (-1)) : backOf c (backFrom late (top + 1).toNat) = ⟨0, 4⟩ := by
  cases hb : backFrom late (top + 1).toNat with
  | none => rfl
  | some t =>
    obtain ⟨a, b, d, e⟩ := backFrom_max _ t hb
    obtain ⟨r1, r2, r3⟩ := lastS_spec c t b he
    have hle := lastS_le c t
    have h4 := hn (lastS c t) (by omega) (by omega) r1
    have h5 := hmono (lastS c t) t r2 hle (by omega) h4
    rw [a] at h5; cases h5
theorem late_mono {seed k : Int} {c : Clk} {r : Cham} {ms mf : Int} (hc : ClkIn c) (hr : chamOk r = true) (hf : 0 ≤ mf ∧ mf < 1000000000000000) (a b : Int) (h0 : 0 ≤ a) (hab : a ≤ b) (h1 : b ≤ 1000000)
    (h : lateS seed k c r ms mf a = true) : lateS seed k c r ms mf b = true := by
  rw [late_iff _ _ _ _ _ _ _ hf] at h ⊢
  have s1 := shown_bd seed k hc hr a h0 (by omega)
  have s2 := shown_bd seed k hc hr b (by omega) h1
  simp only [decide_eq_true_eq] at h ⊢
  by_cases e : a = b
  · subst e; exact h
  · omega
theorem capS_bd (ms : Int) : capS ms + 1 ≤ 1000000 := by unfold capS; split <;> omega
/-- a second before one at which a clock stands still, not before its stop less one -/
theorem noneAbove_before {c : Clk} {late : Int → Bool} {top s : Int} (he : evsOk c.evs = true) (hs : runsS c s = false) (hn : NoneAbove c late top s) :
    (1 ≤ stopAt s c.evs ∧ stopAt s c.evs ≤ s) ∧ NoneAbove c late top (stopAt s c.evs - 1) := by
  simp only [evsOk, Bool.and_eq_true, decide_eq_true_eq] at he
  obtain ⟨p, q⟩ := evs_sorted c.evs 0 he.2
  obtain ⟨a, b, d⟩ := stopAt_spec s c.evs (fun e hx => by have := q e hx; omega) ((runs_false c s).1 hs)
  refine ⟨⟨a, b⟩, fun t t1 t2 t3 => ?_⟩
  by_cases h : s < t
  · exact hn t h t2 t3
  · have := (runs_false c t).2 (d t (by omega) (by omega))
    rw [t3] at this; cases this
theorem noneAbove_stop {c : Clk} {late : Int → Bool} {top s : Int} (hs : runsS c s = false) (hn : NoneAbove c late top s) : NoneAbove c late top (s - 1) := fun t t1 t2 t3 => by
  by_cases h : t = s
  · subst h; rw [hs] at t3; cases t3
  · exact hn t (by omega) t2 t3
theorem noneAbove_late {c : Clk} {late : Int → Bool} {top s : Int} (hs : late s = true) (hn : NoneAbove c late top s) : NoneAbove c late top (s - 1) := fun t t1 t2 t3 => by
  by_cases h : t = s
  · subst h; exact hs
  · exact hn t (by omega) t2 t3
/-! a track -/
def trackErr (W : Wld) (k a st n : Int) : Int :=
  if findErr W k [] = 0 then
    (if 1 ≤ st ∧ (0 ≤ n ∧ n ≤ 20000) then
      (if (0 ≤ a ∧ a ≤ 1000000) ∧ (n ≤ 1 ∨ st * (n - 1) ≤ 1000000 - a) then 0 else 21)
     else 1)
  else findErr W k []
def trackRuns (c : Clk) (a st : Int) : Nat → Bool
  | 0 => true
  | n + 1 => trackRuns c a st n && runsS c (a + (n : Int) * st)
def trackL (seed k : Int) (c : Clk) (r : Cham) (a st : Int) : Nat → List Int
  | 0 => []
  | n + 1 => trackL seed k c r a st n ++ [shownS seed k c r (a + (n : Int) * st)]
theorem trackL_len (seed k : Int) (c : Clk) (r : Cham) (a st : Int) : ∀ n, (trackL seed k c r a st n).length = n
  | 0 => rfl
  | n + 1 => by simp [trackL, trackL_len seed k c r a st n]
theorem trackRuns_no (c : Clk) (a st : Int) (i : Nat) (h : runsS c (a + (i : Int) * st) = false) : ∀ n, i < n → trackRuns c a st n = false
  | 0, h1 => by omega
  | n + 1, h1 => by
    unfold trackRuns
    by_cases e : i = n
    · subst e; rw [h]; simp
    · rw [trackRuns_no c a st i h n (by omega)]; rfl
structure ListErr where
  l : List Int
  e : Int
def trackE (W : Wld) (k a st n : Int) : ListErr :=
  if trackErr W k a st n = 0 then
    (if trackRuns (clkOf W k) a st n.toNat = true then ⟨trackL W.seed k (clkOf W k) (roomOf W k) a st n.toNat, 0⟩ else ⟨[], 22⟩)
  else ⟨[], trackErr W k a st n⟩
theorem trackErr_parts {W : Wld} {k a st n : Int} (h : trackErr W k a st n = 0) : findErr W k [] = 0 ∧ 1 ≤ st ∧ (0 ≤ n ∧ n ≤ 20000) ∧ (0 ≤ a ∧ a ≤ 1000000) ∧ (n ≤ 1 ∨ st * (n - 1) ≤ 1000000 - a) := by
  unfold trackErr at h
  by_cases h0 : findErr W k [] = 0
  · rw [if_pos h0] at h
    by_cases h1 : 1 ≤ st ∧ (0 ≤ n ∧ n ≤ 20000)
    · rw [if_pos h1] at h
      by_cases h2 : (0 ≤ a ∧ a ≤ 1000000) ∧ (n ≤ 1 ∨ st * (n - 1) ≤ 1000000 - a)
      · exact ⟨h0, h1.1, h1.2, h2.1, h2.2⟩
      · rw [if_neg h2] at h; omega
    · rw [if_neg h1] at h; omega
  · rw [if_neg h0] at h; exact absurd h h0
/-- the seconds of a track -/
theorem track_sec {a st n : Int} {i : Nat} (h1 : 1 ≤ st) (h2 : 0 ≤ a ∧ a ≤ 1000000) (h3 : n ≤ 1 ∨ st * (n - 1) ≤ 1000000 - a) (hi : (i : Int) < n) : (0 ≤ (i : Int) * st ∧ (i : Int) * st ≤ 1000000) ∧ (0 ≤ a + (i : Int) * st ∧ a + (i : Int) * st ≤ 1000000) := by
  have hz : 0 ≤ (i : Int) * st := Int.mul_nonneg (by omega) (by omega)
  rcases h3 with h | h
  · have : (i : Int) = 0 := by omega
    rw [this, Int.zero_mul]; omega
  · have hm : (i : Int) * st ≤ (n - 1) * st := Int.mul_le_mul_of_nonneg_right (by omega) (by omega)
    have hc : (n - 1) * st = st * (n - 1) := Int.mul_comm _ _
    omega
theorem find_zero (W : Wld) (k : Int) : findErr W k [0] = findErr W k [] := by unfold findErr; rfl
theorem find_sec {W : Wld} {k : Int} (h : findErr W k [] = 0) (s : Int) (hs : 0 ≤ s ∧ s ≤ 1000000) : findErr W k [s] = 0 := by
  obtain ⟨h1, h2, _⟩ := findErr_zero h
  unfold findErr
  rw [if_pos h1, if_pos h2, if_pos (by simp [secsOk, inR, hs])]
end
end Go.Proofs.YtlelamjbfjneiaaGreatDoor.Wd
