/- Plain functions on numbers that say what layer 1 computes; nothing here speaks of the program. -/
import Derived.WalkKit
namespace Go.Proofs.YtehjkmnamgafaaaDoor
open Go Go.RowKit

/-- the mixed number of two numbers of 64 bits -/
def mixA (x y : Int) : Int := IntKind.u64.wrap (x + IntKind.u64.wrap (y * 11400714819323198485))
def mixB (z : Int) : Int := IntKind.u64.wrap (bits BinOp.xor IntKind.u64 z (z / 2147483648) * 10723151780598845931)
def mixC (z : Int) : Int := bits BinOp.xor IntKind.u64 z (z / 1073741824)
def mixS (x y : Int) : Int := mixC (mixB (mixA x y))
/-- the numbers of 64 bits -/
def U64 (x : Int) : Prop := 0 ≤ x ∧ x < 18446744073709551616
theorem u64_wrap (x : Int) : U64 (IntKind.u64.wrap x) := by
  unfold U64; rw [IntKind.wrap_u64]; omega
theorem u64_mixS (x y : Int) : U64 (mixS x y) := by
  unfold mixS mixC bits; exact u64_wrap _
theorem mixS_lo (x y : Int) : 0 ≤ mixS x y := (u64_mixS x y).1
theorem mixS_hi (x y : Int) : mixS x y ≤ 18446744073709551615 := by have := (u64_mixS x y).2; omega
theorem mixA_comm (x y : Int) : IntKind.u64.wrap (IntKind.u64.wrap (y * 11400714819323198485) + x) = mixA x y := by
  unfold mixA; rw [Int.add_comm]
def sourceS (seed kind clock : Int) : Int := mixS (mixS seed kind) clock
/-- a draw out of its source -/
def drawS (source index most : Int) : Int := mixS source index % (2 * most + 1) - most
theorem drawS_bd (s i m : Int) (h : 0 ≤ m) : -m ≤ drawS s i m ∧ drawS s i m ≤ m := by
  unfold drawS
  have h1 := Int.emod_nonneg (mixS s i) (show 2 * m + 1 ≠ 0 by omega)
  have h2 := Int.emod_lt_of_pos (mixS s i) (show 0 < 2 * m + 1 by omega)
  omega
def inR (n lo hi : Int) : Bool := decide (lo ≤ n) && decide (n ≤ hi)
theorem inR_iff (n lo hi : Int) : inR n lo hi = true ↔ lo ≤ n ∧ n ≤ hi := by simp [inR]
theorem inR_true {n lo hi : Int} (h : inR n lo hi = true) : lo ≤ n ∧ n ≤ hi := (inR_iff n lo hi).1 h
theorem inR_false {n lo hi : Int} (h : inR n lo hi = false) : n < lo ∨ hi < n := by
  simp [inR] at h; omega
theorem inR_lt {n lo hi : Int} (h : n < lo) : false = inR n lo hi := by
  have : ¬ lo ≤ n := by omega
  simp [inR, this]
theorem inR_ge {n lo hi : Int} (h : lo ≤ n) : decide (n ≤ hi) = inR n lo hi := by simp [inR, h]
/-- a division towards the lesser number -/
theorem floor_neg (a b : Int) (hb : 1 ≤ b) (h : a.tmod b < 0) : a.tdiv b - 1 = a / b := by
  have h1 := Int.mul_tdiv_add_tmod a b
  have h2 : a < 0 := by
    by_cases h0 : 0 ≤ a
    · have := Int.tmod_nonneg b h0; omega
    · omega
  have h3 := Int.lt_tmod_of_pos a (show 0 < b by omega)
  symm
  refine (Int.ediv_eq_iff_of_pos (by omega)).2 ?_
  have e : (a.tdiv b - 1) * b = b * a.tdiv b - b := by rw [Int.sub_mul, Int.mul_comm, Int.one_mul]
  rw [e]
  omega
theorem floor_pos (a b : Int) (hb : 1 ≤ b) (h : 0 ≤ a.tmod b) : a.tdiv b = a / b := by
  by_cases h0 : 0 ≤ a
  · exact Int.tdiv_eq_ediv_of_nonneg h0
  · have h1 := Int.mul_tdiv_add_tmod a b
    have h3 := Int.tmod_lt_of_pos a (show 0 < b by omega)
    symm
    refine (Int.ediv_eq_iff_of_pos (by omega)).2 ?_
    have e : (a.tdiv b) * b = b * a.tdiv b := Int.mul_comm _ _
    rw [e]
    omega
theorem tdiv_bd (a b : Int) (hb : 1 ≤ b) (h1 : -9223372036854775807 ≤ a) (h2 : a ≤ 9223372036854775807) : -9223372036854775807 ≤ a.tdiv b ∧ a.tdiv b ≤ 9223372036854775807 := by
  rw [tdiv_eq_if]
  split
  · rename_i hx; have := IntWalk.tdiv_le a b hx hb; omega
  · rename_i hx; have := IntWalk.tdiv_le (-a) b (by omega) hb; omega
/-- what layer 1 speaks of, as plain data -/
structure Cham where
  base : Int
  swing : Int
  period : Int
structure Evt where
  what : Int
  sec : Int
  size : Int
structure Clk where
  kind : Int
  phase : Int
  rate : Int
  drift : Int
  white : Int
  walk : Int
  heat : Int
  room : Int
  evs : List Evt
structure Wld where
  seed : Int
  chs : List Cham
  cls : List Clk
def foldAt (p pe : Int) : Int := if pe < 2 * p then pe - p else p
def tempS (c : Cham) (s : Int) : Int := c.base + 2 * c.swing * foldAt (s % c.period) c.period / c.period
def chamOk (c : Cham) : Bool := inR c.base 0 1000000 && inR c.swing 0 100000 && inR c.period 2 1000000
def sizeOf (what : Int) : Int := if what = 1 then 10000000000000 else if what = 2 then 10000000000 else 0
def evOk (e : Evt) : Bool := inR e.what 1 4 && inR e.sec 1 1000000 && inR e.size (-sizeOf e.what) (sizeOf e.what)
def rateOf (k : Int) : Int := if k = 1 then 10000000 else if k = 2 then 1000000 else if k = 3 then 100000 else if k = 4 then 100000 else 10000000000
def driftOf (k : Int) : Int := if k = 1 then 10000 else if k = 2 then 100000 else if k = 3 then 0 else if k = 4 then 0 else 10000000
def whiteOf (k : Int) : Int := if k = 1 then 10000000 else if k = 2 then 100000 else if k = 3 then 1000000 else if k = 4 then 100000 else 1000000000000
def walkOf (k : Int) : Int := if k = 1 then 100000 else if k = 2 then 10000 else if k = 3 then 1000 else if k = 4 then 100 else 1000000000
def clkOk (n : Int) (c : Clk) : Bool := inR c.kind 1 5 && (inR c.phase (-100000000000000) 100000000000000 && (inR c.rate (-rateOf c.kind) (rateOf c.kind) && (inR c.drift (-driftOf c.kind) (driftOf c.kind) &&
  (inR c.white 0 (whiteOf c.kind) && (inR c.walk 0 (walkOf c.kind) && (inR c.heat (-1000000000) 1000000000 && inR c.room 0 (n - 1)))))))
/-- the temperature's bounds, spelt as they come -/
theorem temp_bd (sw pe q : Int) (h1 : 0 ≤ sw) (h2 : sw ≤ 100000) (h3 : 2 ≤ pe) (h3' : pe ≤ 1000000) (hq : 0 ≤ q) (hq' : 2 * q ≤ pe) :
    0 ≤ 2 * sw * q ∧ 2 * sw * q ≤ 100000000000 ∧ 0 ≤ 2 * sw * q / pe ∧ 2 * sw * q / pe ≤ 100000 := by
  have a : 0 ≤ 2 * sw * q := Int.mul_nonneg (by omega) hq
  have b : 2 * sw * q = sw * (2 * q) := by rw [Int.mul_comm 2 sw, Int.mul_assoc]
  have c : sw * (2 * q) ≤ 100000 * pe := Int.mul_le_mul h2 hq' (by omega) (by omega)
  refine ⟨a, by omega, Int.ediv_nonneg a (by omega), ?_⟩
  exact Int.ediv_le_of_le_mul (by omega) (by omega)
structure Past where
  jumped : Int
  kicked : Int
  stopped : Bool
def Past.bear (p : Past) (s : Int) (e : Evt) : Past :=
  if e.sec ≤ s then
    if e.what = 1 then { p with jumped := p.jumped + e.size }
    else if e.what = 2 then { p with kicked := p.kicked + e.size * (s - e.sec) }
    else if e.what = 3 then { p with stopped := true }
    else { p with stopped := false }
  else p
def pastFrom (s : Int) (p : Past) (l : List Evt) : Past := l.foldl (fun p e => p.bear s e) p
def pastS (s : Int) (l : List Evt) : Past := pastFrom s ⟨0, 0, false⟩ l
theorem sizeOf_bd (k : Int) : 0 ≤ sizeOf k ∧ sizeOf k ≤ 10000000000000 := by
  unfold sizeOf; split <;> (try split) <;> omega
theorem sizeOf_kick (k : Int) (h : k = 2) : sizeOf k = 10000000000 := by subst h; rfl
theorem evOk_parts {e : Evt} (h : evOk e = true) : (1 ≤ e.what ∧ e.what ≤ 4) ∧ (1 ≤ e.sec ∧ e.sec ≤ 1000000) ∧ (-sizeOf e.what ≤ e.size ∧ e.size ≤ sizeOf e.what) := by
  simp only [evOk, Bool.and_eq_true, inR_iff] at h
  exact ⟨h.1.1, h.1.2, h.2⟩
theorem mul_bd (a b A B : Int) (ha : -A ≤ a ∧ a ≤ A) (hb : 0 ≤ b ∧ b ≤ B) : -(A * B) ≤ a * b ∧ a * b ≤ A * B := by
  have hA : 0 ≤ A := by omega
  have h1 : a * b ≤ A * b := Int.mul_le_mul_of_nonneg_right ha.2 hb.1
  have h2 : A * b ≤ A * B := Int.mul_le_mul_of_nonneg_left hb.2 hA
  have h3 : -A * b ≤ a * b := Int.mul_le_mul_of_nonneg_right ha.1 hb.1
  have h4 : -A * b = -(A * b) := Int.neg_mul A b
  omega
/-- after n events the numbers are at most so great -/
def Past.bound (p : Past) (n : Nat) : Prop := (-(10000000000000 * n) ≤ p.jumped ∧ p.jumped ≤ 10000000000000 * n) ∧ (-(10000000000000000 * n) ≤ p.kicked ∧ p.kicked ≤ 10000000000000000 * n)
theorem Past.bear_bound {p : Past} {n : Nat} {s : Int} {e : Evt} (h : p.bound n) (he : evOk e = true) (_h0 : 0 ≤ s) (hs : s ≤ 1000000) : (p.bear s e).bound (n + 1) := by
  obtain ⟨h1, h2, h3⟩ := evOk_parts he
  have hz := sizeOf_bd e.what
  obtain ⟨a, b⟩ := h
  unfold Past.bear
  split
  · rename_i hle
    split
    · simp only [Past.bound]; omega
    · split
      · rename_i hw
        have hk := sizeOf_kick _ hw
        have hm := mul_bd e.size (s - e.sec) 10000000000 1000000 (by omega) (by omega)
        simp only [Past.bound]; omega
      · split <;> (simp only [Past.bound]; omega)
  · simp only [Past.bound]; omega
theorem pastFrom_snoc (s : Int) (p : Past) (l : List Evt) (k : Nat) (h : k < l.length) : pastFrom s p (l.take (k + 1)) = (pastFrom s p (l.take k)).bear s l[k] := by
  unfold pastFrom; rw [List.take_succ_eq_append_getElem h, List.foldl_append]; rfl
theorem past_bound (s : Int) (l : List Evt) (hl : ∀ e ∈ l, evOk e = true) (h0 : 0 ≤ s) (hs : s ≤ 1000000) (k : Nat) (hk : k ≤ l.length) : (pastS s (l.take k)).bound k := by
  induction k with
  | zero => simp [pastS, pastFrom, Past.bound]
  | succ k ih =>
    have e := pastFrom_snoc s ⟨0, 0, false⟩ l k (by omega)
    unfold pastS; rw [e]
    exact Past.bear_bound (ih (by omega)) (hl _ (List.getElem_mem _)) h0 hs
end Go.Proofs.YtehjkmnamgafaaaDoor
