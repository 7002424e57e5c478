/- Stage 6 (steer): a list of whole numbers as an argument of a law. (own text, as in layer 2) -/
import Derived.Test.YtiapimfmnmegpaaZpl
import Derived.Lib.SmallJoins
import Derived.Deep.Slices
import Derived.OpenShut
namespace Go.Proofs.Ytiapimfmnmegpaa.St
open Go Go.RowKit Go.WideShapes Go.ChangeShapes Go.Deep Go.Joins
theorem pick_list {α : Type} (n : Nat) (Q : Nat → α → Prop) (h : ∀ i, i < n → ∃ x, Q i x) : ∃ l : List α, l.length = n ∧ ∀ i, (hi : i < l.length) → Q i l[i] := by
  induction n with
  | zero => exact ⟨[], rfl, fun i hi => absurd hi (by simp)⟩
  | succ n ih =>
    obtain ⟨l, hl, hq⟩ := ih fun i hi => h i (by omega)
    obtain ⟨x, hx⟩ := h n (by omega)
    refine ⟨l ++ [x], by simp [hl], fun i hi => ?_⟩
    by_cases hlt : i < l.length
    · rw [List.getElem_append_left hlt]; exact hq i hlt
    · have : i = l.length := by simp at hi; omega
      subst this
      rw [List.getElem_append_right (by omega)]
      simpa [hl] using hx
theorem add_plain (b o k : Nat) : (⟨b, o, none⟩ : Addr).add k = ⟨b, o + k, none⟩ := by
  unfold Addr.add; split <;> simp_all
def lAt (l : List Int) (i : Nat) : Int := (l[i]?).getD 0
section
variable {H : Type} {enc : TypeId × Value → H} {w : World} {base : Nat} {spare : Nat → Bool} {held : Bool}
set_option maxRecDepth 100000 in
theorem trod_list {fuel : Nat} {cs : List Value} {x : DataW H × List MemPlace} (h : DataW.trod enc Try.prog w base spare held fuel 24 cs = some x) :
    ∃ (l : List Int) (p : Option Addr) (cap : Nat), cs = [.slice p l.length cap] ∧ l.length ≤ maxLen ∧ NumIn w (lAt l) l.length p := by
  rcases open_slice1 Try.underlying24 (show Try.prog.cellsOf 3 = 1 by kernel_rfl) h with ⟨hcs, _⟩ | ⟨a, n, cap, m, n', V, D, Pl, rfl, _, hl, hm, hmm, hxe, hx⟩
  · exact ⟨[], none, 0, hcs, by simp [maxLen], .inl rfl⟩
  · have hlt : ∀ i, i < n → i < m := fun i hi => by rw [hmm]; split <;> omega
    have cell : ∀ i, i < n → ∃ x : Int, w.cell? (a.add i) = some (.int .i64 x) := by
      intro i hi
      obtain ⟨hc, ht'⟩ := hx i (hlt i hi)
      obtain ⟨x, hxx, _, _⟩ := DataW.trod_int Try.underlying3 ht'
      simp only [List.cons.injEq, and_true] at hxx
      exact ⟨x, by rw [hc, hxx]⟩
    rcases Nat.eq_zero_or_pos n with h0 | h0
    · subst h0
      exact ⟨[], some a, cap, rfl, by simp [maxLen], .inl rfl⟩
    · obtain ⟨v0, hv0⟩ := cell 0 h0
      obtain ⟨b, o, spot⟩ := a
      have hs : spot = none := by simpa [Addr.add] using World.cell?_spot hv0
      subst hs
      obtain ⟨l, rfl, hq⟩ := pick_list n _ cell
      refine ⟨l, _, cap, rfl, by omega, .inr ⟨b, o, rfl, fun i hi => ?_⟩⟩
      have := hq i hi
      rw [add_plain] at this
      rw [this]
      simp [lAt, hi]
set_option maxRecDepth 100000 in
theorem open_ints {r : Reach} {b0 : Nat} {v : Value} {d : DataW H} {q : List MemPlace} (hv : Value.okWide Try.prog w r b0 24 v) (h : DataW.Trod enc Try.prog w base spare held 24 v d q) :
    ∃ (l : List Int) (p : Option Addr) (cap : Nat), v = .slice p l.length cap ∧ l.length ≤ maxLen ∧ NumIn w (lAt l) l.length p := by
  obtain ⟨p, n, cap, rfl⟩ := okWide_slice Try.underlying24 hv
  obtain ⟨fuel, hf⟩ := h
  obtain ⟨l, p', cap', hcs, hl, hs⟩ := trod_list hf
  simp [Value.cells] at hcs
  obtain ⟨rfl, rfl, rfl⟩ := hcs
  exact ⟨l, p, cap, rfl, hl, hs⟩
end
end Go.Proofs.Ytiapimfmnmegpaa.St
