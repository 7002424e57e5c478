/- Stage 6 (steer): plain facts: plans, states, the numbers of a law. -/
import Derived.Test.YtiapimfmnmegpaaZsq
namespace Go.Proofs.Ytiapimfmnmegpaa.St
open Go Go.RowKit Go.Shelf
structure PlanOk (l r s z : Int) : Prop where
  l1 : 1 ≤ l
  l2 : l ≤ 40
  r1 : 0 ≤ r
  r2 : r ≤ 12
  s1 : 1 ≤ s
  s2 : s ≤ 24
  z1 : 0 ≤ z
  z2 : z ≤ 12
def planB (l r s z : Int) : Bool := (decide (1 ≤ l) && decide (l ≤ 40)) && (decide (0 ≤ r) && decide (r ≤ 12)) && (decide (1 ≤ s) && decide (s ≤ 24)) && (decide (0 ≤ z) && decide (z ≤ 12))
theorem plan_ok {l r s z : Int} (h : planB l r s z = true) : PlanOk l r s z := by
  unfold planB at h
  simp only [Bool.and_eq_true, decide_eq_true_eq] at h
  constructor <;> omega
theorem PlanOk.b {l r s z : Int} (h : PlanOk l r s z) : planB l r s z = true := by
  obtain ⟨_, _, _, _, _, _, _, _⟩ := h
  unfold planB
  simp only [Bool.and_eq_true, decide_eq_true_eq]
  omega
/-- how many states there are -/
def sizP (l r : Int) : Int := (2 * l + 1) * (2 * r + 1)
def idxP (l r e q : Int) : Int := (e + l) * (2 * r + 1) + q + r
def hasP (l r e q : Int) : Bool := (decide (-l ≤ e) && decide (e ≤ l)) && (decide (-r ≤ q) && decide (q ≤ r))
def allP (r s g q : Int) : Bool := (decide (-r ≤ q) && decide (q ≤ r)) && (decide (g - s ≤ q) && decide (q ≤ g + s))
/-- the number of a state -/
def atP (l r : Int) (f : Nat → Int) (e q : Int) : Int := if hasP l r e q = true then f (idxP l r e q).toNat else 1000
def meaP (l r : Int) (f : Nat → Int) (e q : Int) : Bool := decide (atP l r f e q < 1000)
theorem has_iff {l r e q : Int} : hasP l r e q = true ↔ (-l ≤ e ∧ e ≤ l) ∧ (-r ≤ q ∧ q ≤ r) := by
  unfold hasP; simp only [Bool.and_eq_true, decide_eq_true_eq]
theorem siz_bd {l r s z : Int} (h : PlanOk l r s z) : 3 ≤ sizP l r ∧ sizP l r ≤ 2025 := by
  obtain ⟨_, _, _, _, _, _, _, _⟩ := h
  unfold sizP
  have h1 : (2 * l + 1) * (2 * r + 1) ≤ 81 * 25 := Int.mul_le_mul (by omega) (by omega) (by omega) (by omega)
  have h2 : 3 * 1 ≤ (2 * l + 1) * (2 * r + 1) := Int.mul_le_mul (by omega) (by omega) (by omega) (by omega)
  omega
theorem idx_bd {l r s z e q : Int} (h : PlanOk l r s z) (hh : hasP l r e q = true) : 0 ≤ idxP l r e q ∧ idxP l r e q < sizP l r := by
  obtain ⟨⟨h1, h2⟩, h3, h4⟩ := has_iff.1 hh
  obtain ⟨_, _, _, _, _, _, _, _⟩ := h
  unfold idxP sizP
  have a1 : 0 ≤ (e + l) * (2 * r + 1) := Int.mul_nonneg (by omega) (by omega)
  have a2 : (e + l) * (2 * r + 1) ≤ (2 * l) * (2 * r + 1) := Int.mul_le_mul_of_nonneg_right (by omega) (by omega)
  have a3 : (2 * l + 1) * (2 * r + 1) = 2 * l * (2 * r + 1) + (2 * r + 1) := by rw [Int.add_mul]; omega
  omega
theorem idx_inj {l r s z e q e' q' : Int} (h : PlanOk l r s z) (hh : hasP l r e q = true) (hh' : hasP l r e' q' = true) (he : idxP l r e q = idxP l r e' q') : e = e' ∧ q = q' := by
  obtain ⟨⟨h1, h2⟩, h3, h4⟩ := has_iff.1 hh
  obtain ⟨⟨g1, g2⟩, g3, g4⟩ := has_iff.1 hh'
  obtain ⟨_, _, _, _, _, _, _, _⟩ := h
  unfold idxP at he
  have k1 : (q + r) / (2 * r + 1) = 0 := Int.ediv_eq_zero_of_lt (by omega) (by omega)
  have k2 : (q' + r) / (2 * r + 1) = 0 := Int.ediv_eq_zero_of_lt (by omega) (by omega)
  have e1 : ((q + r) + (e + l) * (2 * r + 1)) / (2 * r + 1) = (q + r) / (2 * r + 1) + (e + l) := Int.add_mul_ediv_right _ _ (by omega)
  have e2 : ((q' + r) + (e' + l) * (2 * r + 1)) / (2 * r + 1) = (q' + r) / (2 * r + 1) + (e' + l) := Int.add_mul_ediv_right _ _ (by omega)
  have e3 : (q + r) + (e + l) * (2 * r + 1) = (q' + r) + (e' + l) * (2 * r + 1) := by omega
  rw [e3, e2] at e1
  have e4 : e = e' := by omega
  subst e4
  exact ⟨rfl, by omega⟩
theorem at_has {l r e q : Int} {f : Nat → Int} (h : hasP l r e q = true) : atP l r f e q = f (idxP l r e q).toNat := by unfold atP; rw [if_pos h]
theorem at_not {l r e q : Int} {f : Nat → Int} (h : hasP l r e q = false) : atP l r f e q = 1000 := by unfold atP; rw [if_neg (by rw [h]; decide)]
/-- numbers that lie in memory -/
def NumIn (w : World) (f : Nat → Int) (n : Nat) (p : Option Addr) : Prop := n = 0 ∨ ∃ b o, p = some ⟨b, o, none⟩ ∧ ∀ i, i < n → w.cell? ⟨b, o + i, none⟩ = some (.int .i64 (f i))
theorem NumIn.below {w w' : World} {f : Nat → Int} {n : Nat} {p : Option Addr} (h : NumIn w f n p) (hb : Below w.heap.size w w') : NumIn w' f n p := h.imp id fun ⟨b, o, e, hi⟩ => ⟨b, o, e, fun i hh => cell_below hb (hi i hh)⟩
/-- the row may not be written by others -/
def RowSafe (g : Nat → TypeId → Prop) (p : Option Addr) : Prop := ∀ b o, p = some ⟨b, o, none⟩ → ∀ t, g b t
theorem NumIn.kp {w w' : World} {f : Nat → Int} {n : Nat} {p : Option Addr} {g : Nat → TypeId → Prop} (h : NumIn w f n p) (hb : KpF g w w') (hp : RowSafe g p) : NumIn w' f n p := h.imp id fun ⟨b, o, e, hi⟩ => ⟨b, o, e, fun i hh => hb.cell (hp b o e) (hi i hh)⟩
theorem NumIn.lt {w : World} {f : Nat → Int} {n : Nat} {p : Option Addr} (h : NumIn w f n p) (hn : 0 < n) {b o : Nat} (hp : p = some ⟨b, o, none⟩) : b < w.heap.size := by
  obtain ⟨b', o', e, hi⟩ := h.resolve_left (by omega)
  rw [hp] at e
  cases e
  exact cell_lt (hi 0 hn)
theorem Calls.bel {P : Program} {f : FuncId} {args : Array Value} {w0 w : World} {R : Ending → Prop} (h : Below w0.heap.size w0 w) (hc : Calls P f args w fun e w' => R e ∧ Below w.heap.size w w') : Calls P f args w fun e w' => R e ∧ Below w0.heap.size w0 w' :=
  hc.mono fun _ _ q => ⟨q.1, bt h q.2⟩
theorem ret_i64 {a b : Int} (h : a = b) : Ending.returned (.int .i64 a) = .returned (.int .i64 b) := by rw [h]
theorem ret_bool {a b : Bool} (h : a = b) : Ending.returned (.bool a) = .returned (.bool b) := by rw [h]
end Go.Proofs.Ytiapimfmnmegpaa.St
