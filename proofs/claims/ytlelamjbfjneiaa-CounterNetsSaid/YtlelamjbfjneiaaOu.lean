/- Layer 2: a list of uses as an argument of a law. -/
import Derived.Test.YtlelamjbfjneiaaOb
import Derived.Test.YtlelamjbfjneiaaNj
namespace Go.Proofs.Ytlelamjbfjneiaa.Ct
open Go Go.RowKit Go.WideShapes Go.ChangeShapes Go.Deep Go.Joins
section
variable {H : Type} {enc : TypeId × Value → H} {w : World} {base : Nat} {spare : Nat → Bool} {held : Bool}
theorem cellsBool : Try.prog.cellsOf 4 = 1 := by kernel_rfl
theorem cellsUse : Try.prog.cellsOf 40 = 2 := by kernel_rfl
set_option maxRecDepth 100000 in
theorem trod_use {fuel : Nat} {cs : List Value} {x : DataW H × List MemPlace} (h : DataW.trod enc Try.prog w base spare held fuel 40 cs = some x) :
    ∃ y : Int × Bool, cs = [.int .i64 y.1, .bool y.2] := by
  obtain ⟨y0, y1, n, _, hl, t0', t1'⟩ := trod_struct2 Try.underlying40 h
  obtain ⟨c0, c1, rfl⟩ : ∃ a b, cs = [a, b] := by
    match cs, hl.trans cellsUse with
    | [a, b], _ => exact ⟨a, b, rfl⟩
  have t0 : DataW.trod enc Try.prog w base spare held n 3 (([c0, c1].drop 0).take (Try.prog.cellsOf 3)) = some y0 := t0'
  have t1 : DataW.trod enc Try.prog w base spare held n 4 (([c0, c1].drop 1).take (Try.prog.cellsOf 4)) = some y1 := t1'
  rw [cellsInt] at t0
  rw [cellsBool] at t1
  obtain ⟨n0, e0, _⟩ := DataW.trod_int Try.underlying3 t0
  obtain ⟨n1, e1, _⟩ := DataW.trod_bool Try.underlying4 t1
  simp only [List.drop_zero, List.drop_succ_cons, List.take_succ_cons, List.take_zero, List.cons.injEq, and_true] at e0 e1
  subst e0 e1
  exact ⟨(n0, n1), rfl⟩
set_option maxRecDepth 100000 in
theorem open_uses {r : Reach} {b0 : Nat} {v : Value} {d : DataW H} {q : List MemPlace} (hv : Value.okWide Try.prog w r b0 23 v) (h : DataW.Trod enc Try.prog w base spare held 23 v d q) :
    ∃ (l : List (Int × Bool)) (p : Option Addr) (cap : Nat), v = .slice p l.length cap ∧ l.length ≤ maxLen ∧ UsesIn w l p := by
  obtain ⟨p, n, cap, rfl⟩ := okWide_slice Try.underlying23 hv
  obtain ⟨fuel, hf⟩ := h
  simp only [Value.cells] at hf
  rcases open_slice Try.underlying23 hf with ⟨hcs, _⟩ | ⟨a, len, cap', m, n', D, Pl, hcs, _, hl, hm, hmm, _, hx⟩
  · simp at hcs
    obtain ⟨rfl, rfl, rfl⟩ := hcs
    exact ⟨[], none, 0, rfl, by simp [maxLen], .inl rfl⟩
  · simp at hcs
    obtain ⟨rfl, rfl, rfl⟩ := hcs
    rcases Nat.eq_zero_or_pos n with h0 | h0
    · subst h0
      exact ⟨[], some a, cap, rfl, by simp [maxLen], .inl rfl⟩
    · have cell : ∀ i, i < n → ∃ y : Int × Bool, w.cell? (a.add (i * 2 + 0)) = some (.int .i64 y.1) ∧ w.cell? (a.add (i * 2 + 1)) = some (.bool y.2) := by
        intro i hi
        obtain ⟨cs', hc, ht'⟩ := hx i (by rw [hmm]; split <;> omega)
        rw [cellsUse] at hc
        obtain ⟨y, rfl⟩ := trod_use ht'
        obtain ⟨_, _, hat⟩ := World.cells?_some hc
        exact ⟨y, by rw [← Go.Deep.add_add, hat 0 (by decide)]; rfl, by rw [← Go.Deep.add_add, hat 1 (by decide)]; rfl⟩
      obtain ⟨y0, hv0, -⟩ := cell 0 h0
      obtain ⟨b, o, spot⟩ := a
      have hs : spot = none := by simpa [Addr.add] using World.cell?_spot hv0
      subst hs
      obtain ⟨l, rfl, hq⟩ := pick_list n _ cell
      refine ⟨l, _, cap, rfl, by omega, .inr ⟨b, o, rfl, fun i hi => ?_⟩⟩
      obtain ⟨q0, q1⟩ := hq i hi
      rw [add_plain] at q0 q1
      have e : l[i] = useAt l i := by simp [useAt, hi]
      rw [e] at q0 q1
      exact ⟨by rw [← q0]; congr 1, by rw [← q1]; congr 2⟩
end
end Go.Proofs.Ytlelamjbfjneiaa.Ct
