/- Plain functions, continued: the checks of a world. -/
import Derived.Test.YtehjkmnamgafaaaDoorPlain
namespace Go.Proofs.YtehjkmnamgafaaaDoor
open Go Go.RowKit
/-- events, one after the other, behind a second -/
def evsFrom : Int → List Evt → Bool
  | _, [] => true
  | last, e :: r => evOk e && (decide (last < e.sec) && evsFrom e.sec r)
def evsOk (l : List Evt) : Bool := decide (l.length ≤ 8) && evsFrom 0 l
theorem drop_cons {α : Type} (l : List α) (k : Nat) (h : k < l.length) : l.drop k = l[k] :: l.drop (k + 1) := List.drop_eq_getElem_cons h
theorem evsFrom_no1 {last : Int} {l : List Evt} {k : Nat} (h : k < l.length) (he : evOk l[k] = false) : evsFrom last (l.drop k) = false := by
  rw [drop_cons l k h]; simp [evsFrom, he]
theorem evsFrom_no2 {last : Int} {l : List Evt} {k : Nat} (h : k < l.length) (he : l[k].sec ≤ last) : evsFrom last (l.drop k) = false := by
  rw [drop_cons l k h]
  have : ¬ last < l[k].sec := by omega
  simp [evsFrom, this]
theorem evsFrom_yes {last : Int} {l : List Evt} {k : Nat} (h : k < l.length) (he : evOk l[k] = true) (hs : ¬ l[k].sec ≤ last) : evsFrom last (l.drop k) = evsFrom l[k].sec (l.drop (k + 1)) := by
  rw [drop_cons l k h]
  have : last < l[k].sec := by omega
  simp [evsFrom, he, this]
theorem evsFrom_all : ∀ (last : Int) (l : List Evt), evsFrom last l = true → ∀ e ∈ l, evOk e = true
  | _, [], _, e, he => by cases he
  | last, x :: r, h, e, he => by
    simp only [evsFrom, Bool.and_eq_true] at h
    rcases List.mem_cons.1 he with rfl | he
    · exact h.1
    · exact evsFrom_all _ r h.2.2 e he
theorem evsOk_parts {l : List Evt} (h : evsOk l = true) : l.length ≤ 8 ∧ ∀ e ∈ l, evOk e = true := by
  simp only [evsOk, Bool.and_eq_true, decide_eq_true_eq] at h
  exact ⟨h.1, evsFrom_all 0 l h.2⟩
def evsOf (c : Clk) : Bool := evsOk c.evs
def manyOk (W : Wld) : Bool := inR W.chs.length 1 8 && inR W.cls.length 1 16
def checkS (W : Wld) : Int :=
  if manyOk W = false then 2
  else if W.chs.all chamOk = false then 6
  else if W.cls.all (clkOk W.chs.length) = false then 20
  else if W.cls.all evsOf = false then 21
  else 0
theorem checkS_zero {W : Wld} (h : checkS W = 0) : manyOk W = true ∧ W.chs.all chamOk = true ∧ W.cls.all (clkOk W.chs.length) = true ∧ W.cls.all evsOf = true := by
  unfold checkS at h
  by_cases h1 : manyOk W = false
  · rw [if_pos h1] at h; omega
  rw [if_neg h1] at h
  by_cases h2 : W.chs.all chamOk = false
  · rw [if_pos h2] at h; omega
  rw [if_neg h2] at h
  by_cases h3 : W.cls.all (clkOk W.chs.length) = false
  · rw [if_pos h3] at h; omega
  rw [if_neg h3] at h
  by_cases h4 : W.cls.all evsOf = false
  · rw [if_pos h4] at h; omega
  exact ⟨by simpa using h1, by simpa using h2, by simpa using h3, by simpa using h4⟩
end Go.Proofs.YtehjkmnamgafaaaDoor
