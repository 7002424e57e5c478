/- A series, or a list of whole numbers, that came in as an argument. -/
import Derived.Test.YthkndjkgokojmaaBa
import Derived.Lib.SmallJoins
import Derived.Deep.Slices
import Derived.SizedLaws
namespace Go.Proofs.Ythkndjkgokojmaa
open Go Go.RowKit Go.ChangeShapes Go.WideShapes Go.Deep Go.Shelf Go.Joins
section
variable {H : Type} {enc : TypeId × Value → H} {w : World} {base : Nat} {spare : Nat → Bool} {held : Bool}
set_option maxRecDepth 100000 in
theorem trod_ints' {fuel : Nat} {cs : List Value} {x : DataW H × List MemPlace} (h : DataW.trod enc Try.prog w base spare held fuel 22 cs = some x) :
    ∃ (l : List Int) (p : Option Addr) (cap : Nat), cs = [.slice p l.length cap] ∧ l.length ≤ cap ∧ SerIn w l p ∧ (l.length = 0 ∨ ∃ el sp, x.1 = .slice el sp ∧ el.length = l.length) := by
  rcases open_slice1 Try.underlying22 (show Try.prog.cellsOf 3 = 1 by kernel_rfl) h with ⟨hcs, _⟩ | ⟨a, n, cap, m, n', V, D, Pl, rfl, _, hl, hm, hmm, hxe, hx⟩
  · exact ⟨[], none, 0, hcs, Nat.le_refl _, ⟨by simp [maxLen], .inl rfl⟩, .inl rfl⟩
  · have hlt : ∀ i, i < n → i < m := fun i hi => by rw [hmm]; split <;> omega
    have cell : ∀ i, i < n → ∃ x : Int, w.cell? (a.add i) = some (.int .i64 x) := by
      intro i hi
      obtain ⟨hc, ht'⟩ := hx i (hlt i hi)
      obtain ⟨x, hxx, _, _⟩ := DataW.trod_int Try.underlying3 ht'
      simp only [List.cons.injEq, and_true] at hxx
      exact ⟨x, by rw [hc, hxx]⟩
    rcases Nat.eq_zero_or_pos n with h0 | h0
    · subst h0
      exact ⟨[], some a, cap, rfl, Nat.zero_le _, ⟨by simp [maxLen], .inl rfl⟩, .inl rfl⟩
    · obtain ⟨v0, hv0⟩ := cell 0 h0
      obtain ⟨b, o, spot⟩ := a
      have hs : spot = none := by simpa [Addr.add] using World.cell?_spot hv0
      subst hs
      obtain ⟨l, rfl, hq⟩ := pick_list n _ cell
      refine ⟨l, _, cap, rfl, hl, ⟨by omega, .inr ⟨b, o, rfl, fun i hi => ?_⟩⟩, .inr ⟨_, _, by rw [hxe], by simp⟩⟩
      have := hq i hi
      rwa [add_plain] at this
theorem trod_ints {fuel : Nat} {cs : List Value} {x : DataW H × List MemPlace} (h : DataW.trod enc Try.prog w base spare held fuel 22 cs = some x) :
    ∃ (l : List Int) (p : Option Addr) (cap : Nat), cs = [.slice p l.length cap] ∧ l.length ≤ cap ∧ SerIn w l p := by
  obtain ⟨l, p, cap, h1, h2, h3, _⟩ := trod_ints' h
  exact ⟨l, p, cap, h1, h2, h3⟩
set_option maxRecDepth 100000 in
theorem open_series {r : Reach} {b0 : Nat} {v : Value} {d : DataW H} {q : List MemPlace} (hv : Value.okWide Try.prog w r b0 28 v) (h : DataW.Trod enc Try.prog w base spare held 28 v d q) :
    ∃ (tau : Int) (l : List Int) (p : Option Addr) (cap : Nat), v = .agg #[.int .i64 tau, .slice p l.length cap] ∧ SerIn w l p := by
  obtain ⟨v0, v1, y0, y1, n, rfl, _, _, t0, t1⟩ := open_agg2 Try.underlying28 (by kernel_rfl) (by kernel_rfl) hv h
  obtain ⟨n0, e0, _⟩ := DataW.trod_int Try.underlying3 t0
  obtain ⟨l, p, cap, e1, _, hs⟩ := trod_ints t1
  simp only [List.cons.injEq, and_true] at e0 e1
  subst e0 e1
  exact ⟨n0, l, p, cap, rfl, hs⟩
set_option maxRecDepth 100000 in
theorem open_intlist {r : Reach} {b0 : Nat} {v : Value} {d : DataW H} {q : List MemPlace} (hv : Value.okWide Try.prog w r b0 22 v) (h : DataW.Trod enc Try.prog w base spare held 22 v d q) :
    ∃ (l : List Int) (p : Option Addr) (cap : Nat), v = .slice p l.length cap ∧ SerIn w l p ∧ (l.length = 0 ∨ ∃ el sp, d = .slice el sp ∧ el.length = l.length) := by
  obtain ⟨p, n, cap, rfl⟩ := okWide_slice Try.underlying22 hv
  obtain ⟨fuel, hf⟩ := h
  obtain ⟨l, p', cap', hcs, _, hs, hd⟩ := trod_ints' hf
  simp [Value.cells] at hcs
  obtain ⟨rfl, rfl, rfl⟩ := hcs
  exact ⟨l, p, cap, rfl, hs, hd⟩
/-- the reach of the row, for a list that came in -/
theorem list_room {ts : List TypeId} {ds : List (DataW H)} (hsz : (DataW.weightsEach Try.prog ts ds).all (· ≤ reachBytes) = true) {j : Nat} {d : DataW H} {l : List Int} (ht : ts[j]? = some 22) (hd : ds[j]? = some d) (h : l.length = 0 ∨ ∃ el sp, d = .slice el sp ∧ el.length = l.length) : l.length ≤ 17592186044416 := by
  rcases h with h | ⟨el, sp, rfl, he⟩
  · omega
  · have h1 := sized_slice hsz ht hd Try.underlying22
    have h2 := reachBytes_lt
    rw [show Try.prog.bytesOf 3 = 8 by kernel_rfl] at h1
    omega
end
end Go.Proofs.Ythkndjkgokojmaa
