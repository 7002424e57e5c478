/- Layer 9 (calendar): a zone as an argument of a law. -/
import Derived.Test.YtklhepgpepfgjaaDoorQ12
namespace Go.Proofs.YtklhepgpepfgjaaDoor.Cal
open Go Go.RowKit Go.WideShapes Go.ChangeShapes Go.Deep Go.Joins
theorem wf_top {n : Int} (h : (Lit.int .i64 n).wf = true) : n ≤ 9223372036854775807 := by
  simp only [Lit.wf, Bool.and_eq_true, decide_eq_true_eq] at h
  have h2 : IntKind.i64.max = 9223372036854775807 := by decide
  omega
section
variable {H : Type} {enc : TypeId × Value → H} {P : Program} {w : World} {base : Nat} {spare : Nat → Bool} {held : Bool}
theorem cellsChg : Tryd.prog.cellsOf 58 = 2 := by kernel_rfl
set_option maxRecDepth 100000 in
theorem trod_chg {fuel : Nat} {cs : List Value} {x : DataW H × List MemPlace} (h : DataW.trod enc Tryd.prog w base spare held fuel 58 cs = some x) :
    ∃ y : Int × Int, cs = [.int .i64 y.1, .int .i64 y.2] ∧ y.1 ≤ 9223372036854775807 := by
  obtain ⟨xs, n, _, _, hl, hlen, hf⟩ := DataW.trod_struct Tryd.underlying58 h
  obtain ⟨c0, c1, rfl⟩ := len2 (hl.trans cellsChg)
  obtain ⟨y0, y1, rfl⟩ := len2 hlen
  have t0 : DataW.trod enc Tryd.prog w base spare held n 3 (([c0, c1].drop 0).take (Tryd.prog.cellsOf 3)) = some y0 := hf 0 _ rfl
  have t1 : DataW.trod enc Tryd.prog w base spare held n 3 (([c0, c1].drop 1).take (Tryd.prog.cellsOf 3)) = some y1 := hf 1 _ rfl
  rw [cellsI] at t0 t1
  obtain ⟨n0, e0, _, hwf⟩ := DataW.trod_int Tryd.underlying3 t0
  obtain ⟨n1, e1, _⟩ := DataW.trod_int Tryd.underlying3 t1
  simp only [List.drop_zero, List.drop_succ_cons, List.take_succ_cons, List.take_zero, List.cons.injEq, and_true] at e0 e1
  subst e0 e1
  exact ⟨(n0, n1), rfl, wf_top hwf⟩
set_option maxRecDepth 100000 in
theorem trod_chgs {fuel : Nat} {cs : List Value} {x : DataW H × List MemPlace} (h : DataW.trod enc Tryd.prog w base spare held fuel 25 cs = some x) :
    ∃ (f : Nat → Int × Int) (n : Nat) (p : Option Addr) (cap : Nat), cs = [.slice p n cap] ∧ n ≤ cap ∧ cap ≤ maxLen ∧ LpIn w f n p ∧ (p = none → n = 0) ∧ (∀ i, i < n → (f i).1 ≤ 9223372036854775807) := by
  rcases open_slice Tryd.underlying25 h with ⟨hcs, _⟩ | ⟨a, n, cap, m, n', D, Pl, hcs, _, hl, hm, hmm, _, hx⟩
  · exact ⟨fun _ => (0, 0), 0, none, 0, hcs, Nat.le_refl _, by simp [maxLen], .inl rfl, fun _ => rfl, fun i hi => absurd hi (Nat.not_lt_zero i)⟩
  · rcases Nat.eq_zero_or_pos n with h0 | h0
    · subst h0
      exact ⟨fun _ => (0, 0), 0, some a, cap, hcs, Nat.zero_le _, hm, .inl rfl, fun e => (by cases e), fun i hi => absurd hi (Nat.not_lt_zero i)⟩
    · have cell : ∀ i, i < n → ∃ y : Int × Int, w.cell? (a.add (i * 2 + 0)) = some (.int .i64 y.1) ∧ w.cell? (a.add (i * 2 + 1)) = some (.int .i64 y.2) ∧ y.1 ≤ 9223372036854775807 := by
        intro i hi
        obtain ⟨cs', hc, ht'⟩ := hx i (by rw [hmm]; split <;> omega)
        rw [cellsChg] at hc
        obtain ⟨y, rfl, hy⟩ := trod_chg ht'
        obtain ⟨_, _, hat⟩ := World.cells?_some hc
        exact ⟨y, by rw [← Go.Deep.add_add, hat 0 (by decide)]; rfl, by rw [← Go.Deep.add_add, hat 1 (by decide)]; rfl, hy⟩
      obtain ⟨y0, hv0, -⟩ := cell 0 h0
      obtain ⟨b, o, spot⟩ := a
      have hs : spot = none := by simpa [Addr.add] using World.cell?_spot hv0
      subst hs
      have cell2 : ∀ i, i < n → ∃ y : Int × Int, w.cell? ⟨b, o + i * 2, none⟩ = some (.int .i64 y.1) ∧ w.cell? ⟨b, o + i * 2 + 1, none⟩ = some (.int .i64 y.2) ∧ y.1 ≤ 9223372036854775807 := by
        intro i hi
        obtain ⟨y, q0, q1, hy⟩ := cell i hi
        rw [add_plain] at q0 q1
        exact ⟨y, q0, q1, hy⟩
      refine ⟨fun i => if h : i < n then (cell2 i h).choose else (0, 0), n, _, cap, hcs, hl, hm, .inr ⟨b, o, rfl, fun i hi => ?_⟩, fun e => (by cases e), fun i hi => ?_⟩
      · simp only [dif_pos hi]
        exact ⟨(cell2 i hi).choose_spec.1, (cell2 i hi).choose_spec.2.1⟩
      · simp only [dif_pos hi]
        exact (cell2 i hi).choose_spec.2.2
set_option maxRecDepth 100000 in
theorem open_zone {r : Reach} {b0 : Nat} {v : Value} {d : DataW H} {q : List MemPlace} (hv : Value.okWide Tryd.prog w r b0 27 v) (h : DataW.Trod enc Tryd.prog w base spare held 27 v d q) :
    ∃ (o : Int) (n c : Nat) (p : Option Addr) (f : Nat → Int × Int), v = .agg #[.int .i64 o, .slice p n c] ∧ n ≤ c ∧ c ≤ maxLen ∧ LpIn w f n p ∧ (p = none → n = 0) ∧ (∀ i, i < n → (f i).1 ≤ 9223372036854775807) := by
  obtain ⟨v0, v1, y0, y1, n, rfl, _, _, t0, t1⟩ := open_agg2 Tryd.underlying27 (by kernel_rfl) (by kernel_rfl) hv h
  obtain ⟨n0, e0, _⟩ := DataW.trod_int Tryd.underlying3 t0
  obtain ⟨f, m, p, cap, e1, h1, h2, h3, h4, h5⟩ := trod_chgs t1
  simp only [List.cons.injEq, and_true] at e0 e1
  subst e0 e1
  exact ⟨n0, m, cap, p, f, rfl, h1, h2, h3, h4, h5⟩
end
end Go.Proofs.YtklhepgpepfgjaaDoor.Cal
