/- Layer 2: a list of bounds as an argument of a law. -/
import Derived.Test.YtlelamjbfjneiaaNd
import Derived.Test.YtlelamjbfjneiaaOi
import Derived.ChangeSame
namespace Go.Proofs.Ytlelamjbfjneiaa.Ct
open Go Go.RowKit Go.WideShapes Go.ChangeShapes Go.Deep Go.Joins
theorem len4 {α : Type} {cs : List α} (h : cs.length = 4) : ∃ a b c d, cs = [a, b, c, d] := by
  match cs, h with
  | [a, b, c, d], _ => exact ⟨a, b, c, d, rfl⟩
theorem len3 {α : Type} {cs : List α} (h : cs.length = 3) : ∃ a b c, cs = [a, b, c] := by
  match cs, h with
  | [a, b, c], _ => exact ⟨a, b, c, rfl⟩
section
variable {H : Type} {enc : TypeId × Value → H} {w : World} {base : Nat} {spare : Nat → Bool} {held : Bool}
theorem cellsInt : Try.prog.cellsOf 3 = 1 := by kernel_rfl
theorem cellsSpan : Try.prog.cellsOf 43 = 2 := by kernel_rfl
theorem cellsBnd : Try.prog.cellsOf 45 = 4 := by kernel_rfl
set_option maxRecDepth 100000 in
theorem trod_bnd {fuel : Nat} {cs : List Value} {x : DataW H × List MemPlace} (h : DataW.trod enc Try.prog w base spare held fuel 45 cs = some x) :
    ∃ y : Bnd, cs = [.int .i64 y.a, .int .i64 y.b, .int .i64 y.lo, .int .i64 y.hi] := by
  obtain ⟨xs, n, _, _, hl, hlen, hf⟩ := DataW.trod_struct Try.underlying45 h
  obtain ⟨c0, c1, c2, c3, rfl⟩ := len4 (hl.trans cellsBnd)
  obtain ⟨y0, y1, y2, rfl⟩ := len3 hlen
  have t0 : DataW.trod enc Try.prog w base spare held n 3 (([c0, c1, c2, c3].drop 0).take (Try.prog.cellsOf 3)) = some y0 := hf 0 _ rfl
  have t1 : DataW.trod enc Try.prog w base spare held n 3 (([c0, c1, c2, c3].drop 1).take (Try.prog.cellsOf 3)) = some y1 := hf 1 _ rfl
  have t2 : DataW.trod enc Try.prog w base spare held n 43 (([c0, c1, c2, c3].drop 2).take (Try.prog.cellsOf 43)) = some y2 := hf 2 _ rfl
  rw [cellsInt] at t0 t1
  rw [cellsSpan] at t2
  obtain ⟨z0, z1, k, _, _, u0', u1'⟩ := trod_struct2 Try.underlying43 t2
  have u0 : DataW.trod enc Try.prog w base spare held k 3 (([c2, c3].drop 0).take (Try.prog.cellsOf 3)) = some z0 := u0'
  have u1 : DataW.trod enc Try.prog w base spare held k 3 (([c2, c3].drop 1).take (Try.prog.cellsOf 3)) = some z1 := u1'
  rw [cellsInt] at u0 u1
  obtain ⟨n0, e0, _⟩ := DataW.trod_int Try.underlying3 t0
  obtain ⟨n1, e1, _⟩ := DataW.trod_int Try.underlying3 t1
  obtain ⟨n2, e2, _⟩ := DataW.trod_int Try.underlying3 u0
  obtain ⟨n3, e3, _⟩ := DataW.trod_int Try.underlying3 u1
  simp only [List.drop_zero, List.drop_succ_cons, List.take_succ_cons, List.take_zero, List.cons.injEq, and_true] at e0 e1 e2 e3
  subst e0 e1 e2 e3
  exact ⟨⟨n0, n1, n2, n3⟩, rfl⟩
set_option maxRecDepth 100000 in
theorem open_bnds {r : Reach} {b0 : Nat} {v : Value} {d : DataW H} {q : List MemPlace} (hv : Value.okWide Try.prog w r b0 22 v) (h : DataW.Trod enc Try.prog w base spare held 22 v d q) :
    ∃ (l : List Bnd) (p : Option Addr) (cap : Nat), v = .slice p l.length cap ∧ l.length ≤ maxLen ∧ BndsIn w l p := by
  obtain ⟨p, n, cap, rfl⟩ := okWide_slice Try.underlying22 hv
  obtain ⟨fuel, hf⟩ := h
  simp only [Value.cells] at hf
  rcases open_slice Try.underlying22 hf with ⟨hcs, _⟩ | ⟨a, len, cap', m, n', D, Pl, hcs, _, hl, hm, hmm, _, hx⟩
  · simp at hcs
    obtain ⟨rfl, rfl, rfl⟩ := hcs
    exact ⟨[], none, 0, rfl, by simp [maxLen], .inl rfl⟩
  · simp at hcs
    obtain ⟨rfl, rfl, rfl⟩ := hcs
    rcases Nat.eq_zero_or_pos n with h0 | h0
    · subst h0
      exact ⟨[], some a, cap, rfl, by simp [maxLen], .inl rfl⟩
    · have cell : ∀ i, i < n → ∃ y : Bnd, (w.cell? (a.add (i * 4 + 0)) = some (.int .i64 y.a) ∧ w.cell? (a.add (i * 4 + 1)) = some (.int .i64 y.b)) ∧ w.cell? (a.add (i * 4 + 2)) = some (.int .i64 y.lo) ∧ w.cell? (a.add (i * 4 + 3)) = some (.int .i64 y.hi) := by
        intro i hi
        obtain ⟨cs', hc, ht'⟩ := hx i (by rw [hmm]; split <;> omega)
        rw [cellsBnd] at hc
        obtain ⟨y, rfl⟩ := trod_bnd ht'
        obtain ⟨_, _, hat⟩ := World.cells?_some hc
        exact ⟨y, ⟨by rw [← Go.Deep.add_add, hat 0 (by decide)]; rfl, by rw [← Go.Deep.add_add, hat 1 (by decide)]; rfl⟩, by rw [← Go.Deep.add_add, hat 2 (by decide)]; rfl, by rw [← Go.Deep.add_add, hat 3 (by decide)]; rfl⟩
      obtain ⟨y0, ⟨hv0, -⟩, -⟩ := cell 0 h0
      obtain ⟨b, o, spot⟩ := a
      have hs : spot = none := by simpa [Addr.add] using World.cell?_spot hv0
      subst hs
      obtain ⟨l, rfl, hq⟩ := pick_list n _ cell
      refine ⟨l, _, cap, rfl, by omega, .inr ⟨b, o, rfl, fun i hi => ?_⟩⟩
      obtain ⟨⟨q0, q1⟩, q2, q3⟩ := hq i hi
      rw [add_plain] at q0 q1 q2 q3
      rw [bndAt_get hi] at q0 q1 q2 q3
      exact ⟨⟨by rw [← q0]; congr 1, by rw [← q1]; congr 2⟩, by rw [← q2]; congr 2, by rw [← q3]; congr 2⟩
end
end Go.Proofs.Ytlelamjbfjneiaa.Ct
