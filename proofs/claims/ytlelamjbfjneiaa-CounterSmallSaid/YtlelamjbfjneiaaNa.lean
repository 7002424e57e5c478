/- Plain: a net of bounds, its narrowest matrix, its contradictions, as the program computes them. -/
import Derived.Test.YtlelamjbfjneiaaCa
namespace Go.Proofs.Ytlelamjbfjneiaa.Ct
open Go Go.RowKit
/-- a bound of two clocks -/
structure Bnd where
  a : Int
  b : Int
  lo : Int
  hi : Int
/-- what a use of it says -/
structure Lim where
  f : Int
  s : Int
  m : Int
def noBnd : Bnd := ⟨0, 0, 0, 0⟩
def bndAt (l : List Bnd) (i : Nat) : Bnd := (l[i]?).getD noBnd
theorem bndAt_get {l : List Bnd} {i : Nat} (h : i < l.length) : l[i] = bndAt l i := by simp [bndAt, h]
def bndOk (n : Int) (x : Bnd) : Bool :=
  decide (0 ≤ x.a ∧ x.a ≤ n - 1) && decide (0 ≤ x.b ∧ x.b ≤ n - 1) && decide (x.a ≠ x.b) && decide (-1000000000000000 ≤ x.lo ∧ x.lo ≤ 1000000000000000) && decide (-1000000000000000 ≤ x.hi ∧ x.hi ≤ 1000000000000000) && decide (x.lo ≤ x.hi)
structure BndIn (n : Int) (x : Bnd) : Prop where
  a : 0 ≤ x.a ∧ x.a ≤ n - 1
  b : 0 ≤ x.b ∧ x.b ≤ n - 1
  ne : x.a ≠ x.b
  lo : -1000000000000000 ≤ x.lo ∧ x.lo ≤ 1000000000000000
  hi : -1000000000000000 ≤ x.hi ∧ x.hi ≤ 1000000000000000
  le : x.lo ≤ x.hi
theorem bndOk_iff {n : Int} {x : Bnd} : bndOk n x = true ↔ BndIn n x := by
  unfold bndOk
  simp only [Bool.and_eq_true, decide_eq_true_eq]
  exact ⟨fun ⟨⟨⟨⟨⟨h1, h2⟩, h3⟩, h4⟩, h5⟩, h6⟩ => ⟨h1, h2, h3, h4, h5, h6⟩, fun ⟨h1, h2, h3, h4, h5, h6⟩ => ⟨⟨⟨⟨⟨h1, h2⟩, h3⟩, h4⟩, h5⟩, h6⟩⟩
def netErr (n : Int) (l : List Bnd) : Int := if 1 ≤ n ∧ n ≤ 16 then (if l.length ≤ 240 then (if l.all (bndOk n) = true then 0 else 6) else 2) else 1
def limUp (x : Bnd) : Lim := ⟨x.a, x.b, x.hi⟩
def limDn (x : Bnd) : Lim := ⟨x.b, x.a, -x.lo⟩
def limOf (x : Bnd) (up : Bool) : Lim := if up = true then limUp x else limDn x
/-! the matrix -/
def openI : Int := 100000000000000000
def getM (M : List (List Int)) (i j : Nat) : Int := (((M[i]?).getD [])[j]?).getD 0
def putM (M : List (List Int)) (i j : Nat) (x : Int) : List (List Int) := M.set i (((M[i]?).getD []).set j x)
def lowM (M : List (List Int)) (i j : Nat) (x : Int) : List (List Int) := putM M i j (min (getM M i j) x)
def fillM (n : Nat) : List (List Int) := List.replicate n (List.replicate n openI)
def diagM (n : Nat) : Nat → List (List Int)
  | 0 => fillM n
  | k + 1 => lowM (diagM n k) k k 0
def useM (M : List (List Int)) (x : Lim) : List (List Int) := lowM M x.f.toNat x.s.toNat x.m
def useN : Nat → List (Nat × Bool)
  | 0 => []
  | k + 1 => useN k ++ [(k, true), (k, false)]
def limsL (l : List Bnd) : List Lim := (useN l.length).map fun q => limOf (bndAt l q.1) q.2
def boundM (n : Nat) (l : List Lim) : List (List Int) := l.foldl useM (diagM n n)
def relaxM (M : List (List Int)) (v a b : Nat) : List (List Int) := if getM M a v < openI ∧ getM M v b < openI then lowM M a b (getM M a v + getM M v b) else M
def rowM (M : List (List Int)) (v a : Nat) : Nat → List (List Int)
  | 0 => M
  | b + 1 => relaxM (rowM M v a b) v a b
def colM (n : Nat) (M : List (List Int)) (v : Nat) : Nat → List (List Int) × Bool
  | 0 => (M, true)
  | a + 1 => if (colM n M v a).2 = true then (rowM (colM n M v a).1 v a n, decide (0 ≤ getM (rowM (colM n M v a).1 v a n) a a)) else colM n M v a
def viaM (n : Nat) (M : List (List Int)) : Nat → List (List Int) × Bool
  | 0 => (M, true)
  | v + 1 => if (viaM n M v).2 = true then colM n (viaM n M v).1 v n else viaM n M v
def narrowS (n : Nat) (l : List Bnd) : List (List Int) × Bool := viaM n (boundM n (limsL l)) n
/-- no sum of two entries that is asked for leaves the numbers -/
def calmB (M : List (List Int)) : Bool := M.all fun r => r.all fun x => decide (-1000000000000000000 ≤ x) && decide (x ≤ openI)
structure Shape (n : Nat) (M : List (List Int)) : Prop where
  rows : M.length = n
  cols : ∀ i, i < n → ((M[i]?).getD []).length = n
theorem Shape.put {n : Nat} {M : List (List Int)} (h : Shape n M) (i j : Nat) (x : Int) : Shape n (putM M i j x) := by
  refine ⟨by simp [putM, h.rows], fun k hk => ?_⟩
  have hi := h.rows
  by_cases e : i = k
  · subst e
    have h2 := h.cols i hk
    simp only [putM]
    rw [List.getElem?_set_self (by omega), Option.getD_some, List.length_set]
    exact h2
  · have := h.cols k hk
    simp only [putM, List.getElem?_set_ne e]
    exact this
theorem getM_put {n : Nat} {M : List (List Int)} (h : Shape n M) {i j : Nat} (hi : i < n) (hj : j < n) (x : Int) (a b : Nat) : getM (putM M i j x) a b = if a = i ∧ b = j then x else getM M a b := by
  have hr := h.rows
  have hc := h.cols i hi
  unfold getM putM
  by_cases ea : a = i
  · subst ea
    rw [List.getElem?_set_self (by omega), Option.getD_some]
    by_cases eb : b = j
    · subst eb
      rw [List.getElem?_set_self (by omega), if_pos ⟨rfl, rfl⟩]; rfl
    · rw [List.getElem?_set_ne (fun e => eb e.symm), if_neg (fun e => eb e.2)]
  · rw [List.getElem?_set_ne (fun e => ea e.symm), if_neg (fun e => ea e.1)]
theorem Shape.low {n : Nat} {M : List (List Int)} (h : Shape n M) (i j : Nat) (x : Int) : Shape n (lowM M i j x) := h.put i j _
theorem shape_fill (n : Nat) : Shape n (fillM n) := ⟨by simp [fillM], fun i hi => by simp [fillM, hi]⟩
theorem shape_diag (n : Nat) : ∀ k, Shape n (diagM n k)
  | 0 => shape_fill n
  | k + 1 => (shape_diag n k).low k k 0
theorem shape_use {n : Nat} : ∀ (l : List Lim) {M : List (List Int)}, Shape n M → Shape n (l.foldl useM M)
  | [], _, h => h
  | _ :: l, _, h => shape_use l (h.low _ _ _)
theorem shape_bound (n : Nat) (l : List Lim) : Shape n (boundM n l) := shape_use l (shape_diag n n)
theorem Shape.relax {n : Nat} {M : List (List Int)} (h : Shape n M) (v a b : Nat) : Shape n (relaxM M v a b) := by
  unfold relaxM
  split
  · exact h.low _ _ _
  · exact h
theorem Shape.row {n : Nat} {M : List (List Int)} (h : Shape n M) (v a : Nat) : ∀ b, Shape n (rowM M v a b)
  | 0 => h
  | b + 1 => (h.row v a b).relax v a b
theorem Shape.col {n : Nat} {M : List (List Int)} (h : Shape n M) (v : Nat) : ∀ a, Shape n (colM n M v a).1
  | 0 => h
  | a + 1 => by
    unfold colM
    split
    · exact (h.col v a).row v a n
    · exact h.col v a
theorem Shape.via {n : Nat} {M : List (List Int)} (h : Shape n M) : ∀ v, Shape n (viaM n M v).1
  | 0 => h
  | v + 1 => by
    unfold viaM
    split
    · exact (h.via v).col v n
    · exact h.via v
/-- all numbers stay numbers in each round, as far as there is one -/
def calmRow (M : List (List Int)) (v a : Nat) (n : Nat) : Bool := (List.range n).all fun b => calmB (rowM M v a b)
def calmCol (n : Nat) (M : List (List Int)) (v : Nat) : Bool := (List.range n).all fun a => !(colM n M v a).2 || calmRow (colM n M v a).1 v a n
def calmAll (n : Nat) (l : List Bnd) : Bool := (List.range n).all fun v => !(viaM n (boundM n (limsL l)) v).2 || calmCol n (viaM n (boundM n (limsL l)) v).1 v
end Go.Proofs.Ytlelamjbfjneiaa.Ct
