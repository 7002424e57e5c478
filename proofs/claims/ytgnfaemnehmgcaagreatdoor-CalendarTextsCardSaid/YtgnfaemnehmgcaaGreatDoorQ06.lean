/- Layer 9 (calendar): a table and a date as arguments of a law. -/
import Derived.Test.YtgnfaemnehmgcaaGreatDoorQ05
import Derived.Lib.SmallJoins
import Derived.Deep.Slices
import Derived.OpenShut
import Derived.ChangeSame
namespace Go.Proofs.YtgnfaemnehmgcaaGreatDoor.Cal
open Go Go.RowKit Go.WideShapes Go.ChangeShapes Go.Deep Go.Joins
theorem add_plain (b o k : Nat) : (⟨b, o, none⟩ : Addr).add k = ⟨b, o + k, none⟩ := by
  simp only [Addr.add]; split <;> simp_all
theorem len2 {α : Type} {cs : List α} (h : cs.length = 2) : ∃ a b, cs = [a, b] := by
  match cs, h with
  | [a, b], _ => exact ⟨a, b, rfl⟩
section
variable {H : Type} {enc : TypeId × Value → H} {P : Program} {w : World} {base : Nat} {spare : Nat → Bool} {held : Bool}
theorem cellsI : Tryz.prog.cellsOf 3 = 1 := by kernel_rfl
theorem cellsLeap : Tryz.prog.cellsOf 33 = 2 := by kernel_rfl
set_option maxRecDepth 100000 in
theorem trod_leap {fuel : Nat} {cs : List Value} {x : DataW H × List MemPlace} (h : DataW.trod enc Tryz.prog w base spare held fuel 33 cs = some x) :
    ∃ y : Int × Int, cs = [.int .i64 y.1, .int .i64 y.2] := by
  obtain ⟨xs, n, _, _, hl, hlen, hf⟩ := DataW.trod_struct Tryz.underlying33 h
  obtain ⟨c0, c1, rfl⟩ := len2 (hl.trans cellsLeap)
  obtain ⟨y0, y1, rfl⟩ := len2 hlen
  have t0 : DataW.trod enc Tryz.prog w base spare held n 3 (([c0, c1].drop 0).take (Tryz.prog.cellsOf 3)) = some y0 := hf 0 _ rfl
  have t1 : DataW.trod enc Tryz.prog w base spare held n 3 (([c0, c1].drop 1).take (Tryz.prog.cellsOf 3)) = some y1 := hf 1 _ rfl
  rw [cellsI] at t0 t1
  obtain ⟨n0, e0, _⟩ := DataW.trod_int Tryz.underlying3 t0
  obtain ⟨n1, e1, _⟩ := DataW.trod_int Tryz.underlying3 t1
  simp only [List.drop_zero, List.drop_succ_cons, List.take_succ_cons, List.take_zero, List.cons.injEq, and_true] at e0 e1
  subst e0 e1
  exact ⟨(n0, n1), rfl⟩
set_option maxRecDepth 100000 in
theorem trod_leaps {fuel : Nat} {cs : List Value} {x : DataW H × List MemPlace} (h : DataW.trod enc Tryz.prog w base spare held fuel 22 cs = some x) :
    ∃ (f : Nat → Int × Int) (n : Nat) (p : Option Addr) (cap : Nat), cs = [.slice p n cap] ∧ n ≤ cap ∧ cap ≤ maxLen ∧ LpIn w f n p ∧ (p = none → n = 0) := by
  rcases open_slice Tryz.underlying22 h with ⟨hcs, _⟩ | ⟨a, n, cap, m, n', D, Pl, hcs, _, hl, hm, hmm, _, hx⟩
  · exact ⟨fun _ => (0, 0), 0, none, 0, hcs, Nat.le_refl _, by simp [maxLen], .inl rfl, fun _ => rfl⟩
  · rcases Nat.eq_zero_or_pos n with h0 | h0
    · subst h0
      exact ⟨fun _ => (0, 0), 0, some a, cap, hcs, Nat.zero_le _, hm, .inl rfl, fun e => by cases e⟩
    · have cell : ∀ i, i < n → ∃ y : Int × Int, w.cell? (a.add (i * 2 + 0)) = some (.int .i64 y.1) ∧ w.cell? (a.add (i * 2 + 1)) = some (.int .i64 y.2) := by
        intro i hi
        obtain ⟨cs', hc, ht'⟩ := hx i (by rw [hmm]; split <;> omega)
        rw [cellsLeap] at hc
        obtain ⟨y, rfl⟩ := trod_leap ht'
        obtain ⟨_, _, hat⟩ := World.cells?_some hc
        exact ⟨y, by rw [← Go.Deep.add_add, hat 0 (by decide)]; rfl, by rw [← Go.Deep.add_add, hat 1 (by decide)]; rfl⟩
      obtain ⟨y0, hv0, -⟩ := cell 0 h0
      obtain ⟨b, o, spot⟩ := a
      have hs : spot = none := by simpa [Addr.add] using World.cell?_spot hv0
      subst hs
      have cell2 : ∀ i, i < n → ∃ y : Int × Int, w.cell? ⟨b, o + i * 2, none⟩ = some (.int .i64 y.1) ∧ w.cell? ⟨b, o + i * 2 + 1, none⟩ = some (.int .i64 y.2) := by
        intro i hi
        obtain ⟨y, q0, q1⟩ := cell i hi
        rw [add_plain] at q0 q1
        exact ⟨y, q0, q1⟩
      refine ⟨fun i => if h : i < n then (cell2 i h).choose else (0, 0), n, _, cap, hcs, hl, hm, .inr ⟨b, o, rfl, fun i hi => ?_⟩, fun e => by cases e⟩
      simp only [dif_pos hi]
      exact (cell2 i hi).choose_spec
set_option maxRecDepth 100000 in
theorem open_tab {r : Reach} {b0 : Nat} {v : Value} {d : DataW H} {q : List MemPlace} (hv : Value.okWide Tryz.prog w r b0 24 v) (h : DataW.Trod enc Tryz.prog w base spare held 24 v d q) :
    ∃ (b u : Int) (n c : Nat) (p : Option Addr) (f : Nat → Int × Int), v = .agg #[.int .i64 b, .slice p n c, .int .i64 u] ∧ n ≤ c ∧ c ≤ maxLen ∧ LpIn w f n p ∧ (p = none → n = 0) := by
  obtain ⟨v0, v1, v2, y0, y1, y2, n, rfl, _, _, t0, t1, t2⟩ := open_agg3 Tryz.underlying24 (by kernel_rfl) (by kernel_rfl) hv h
  obtain ⟨n0, e0, _⟩ := DataW.trod_int Tryz.underlying3 t0
  obtain ⟨f, m, p, cap, e1, h1, h2, h3, h4⟩ := trod_leaps t1
  obtain ⟨n2, e2, _⟩ := DataW.trod_int Tryz.underlying3 t2
  simp only [List.cons.injEq, and_true] at e0 e1 e2
  subst e0 e1 e2
  exact ⟨n0, n2, m, cap, p, f, rfl, h1, h2, h3, h4⟩
theorem array6 {α : Type} {cs : Array α} (h : cs.size = 6) : ∃ c0 c1 c2 c3 c4 c5, cs = #[c0, c1, c2, c3, c4, c5] := by
  obtain ⟨l⟩ := cs
  match l, h with
  | [c0, c1, c2, c3, c4, c5], _ => exact ⟨c0, c1, c2, c3, c4, c5, rfl⟩
theorem open_agg6 {r : Reach} {b0 : Nat} {t : TypeId} {f0 f1 f2 f3 f4 f5 : Field} {v : Value} {d : DataW H} {p : List MemPlace} (hs : P.underlying t = some (.struct #[f0, f1, f2, f3, f4, f5])) (hone : oneCellFields P #[f0, f1, f2, f3, f4, f5] = true) (hC : P.cellsOf t = 6)
    (hv : Value.okWide P w r b0 t v) (h : DataW.Trod enc P w base spare held t v d p) :
    ∃ (v0 v1 v2 v3 v4 v5 : Value) (y0 y1 y2 y3 y4 y5 : DataW H × List MemPlace) (n : Nat), v = .agg #[v0, v1, v2, v3, v4, v5] ∧
      DataW.trod enc P w base spare held n f0.type [v0] = some y0 ∧ DataW.trod enc P w base spare held n f1.type [v1] = some y1 ∧ DataW.trod enc P w base spare held n f2.type [v2] = some y2 ∧ DataW.trod enc P w base spare held n f3.type [v3] = some y3 ∧
      DataW.trod enc P w base spare held n f4.type [v4] = some y4 ∧ DataW.trod enc P w base spare held n f5.type [v5] = some y5 := by
  obtain ⟨cs, rfl, hsz⟩ := okWide_struct hs hv
  obtain ⟨c0, c1, c2, c3, c4, c5, rfl⟩ := array6 (hsz.trans hC)
  obtain ⟨fuel, hf⟩ := h
  obtain ⟨xs, n, _, _, _, hlen, hq⟩ := DataW.trod_struct hs hf
  match xs, hlen with
  | [y0, y1, y2, y3, y4, y5], _ =>
    obtain ⟨o0, k0⟩ := hone_of hone 0 f0 rfl
    obtain ⟨o1, k1⟩ := hone_of hone 1 f1 rfl
    obtain ⟨o2, k2⟩ := hone_of hone 2 f2 rfl
    obtain ⟨o3, k3⟩ := hone_of hone 3 f3 rfl
    obtain ⟨o4, k4⟩ := hone_of hone 4 f4 rfl
    obtain ⟨o5, k5⟩ := hone_of hone 5 f5 rfl
    exact ⟨c0, c1, c2, c3, c4, c5, y0, y1, y2, y3, y4, y5, n, rfl, by simpa [Value.cells, o0, k0] using hq 0 f0 rfl, by simpa [Value.cells, o1, k1] using hq 1 f1 rfl, by simpa [Value.cells, o2, k2] using hq 2 f2 rfl, by simpa [Value.cells, o3, k3] using hq 3 f3 rfl,
      by simpa [Value.cells, o4, k4] using hq 4 f4 rfl, by simpa [Value.cells, o5, k5] using hq 5 f5 rfl⟩
set_option maxRecDepth 100000 in
theorem open_date {r : Reach} {b0 : Nat} {v : Value} {d : DataW H} {q : List MemPlace} (hv : Value.okWide Tryz.prog w r b0 26 v) (h : DataW.Trod enc Tryz.prog w base spare held 26 v d q) :
    ∃ y m dd hh mi s : Int, v = .agg #[.int .i64 y, .int .i64 m, .int .i64 dd, .int .i64 hh, .int .i64 mi, .int .i64 s] := by
  obtain ⟨v0, v1, v2, v3, v4, v5, y0, y1, y2, y3, y4, y5, n, rfl, t0, t1, t2, t3, t4, t5⟩ := open_agg6 Tryz.underlying26 (by kernel_rfl) (by kernel_rfl) hv h
  obtain ⟨n0, e0, _⟩ := DataW.trod_int Tryz.underlying3 t0
  obtain ⟨n1, e1, _⟩ := DataW.trod_int Tryz.underlying3 t1
  obtain ⟨n2, e2, _⟩ := DataW.trod_int Tryz.underlying3 t2
  obtain ⟨n3, e3, _⟩ := DataW.trod_int Tryz.underlying3 t3
  obtain ⟨n4, e4, _⟩ := DataW.trod_int Tryz.underlying3 t4
  obtain ⟨n5, e5, _⟩ := DataW.trod_int Tryz.underlying3 t5
  simp only [List.cons.injEq, and_true] at e0 e1 e2 e3 e4 e5
  subst e0 e1 e2 e3 e4 e5
  exact ⟨n0, n1, n2, n3, n4, n5, rfl⟩
end
end Go.Proofs.YtgnfaemnehmgcaaGreatDoor.Cal
