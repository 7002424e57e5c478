/- Contracts of layer 2: contradiction, the way back and the cycle, in memory. -/
import Derived.Test.YtlelamjbfjneiaaNw
import Derived.Test.YtlelamjbfjneiaaNs
import Derived.Test.YtlelamjbfjneiaaNn
namespace Go.Proofs.Ytlelamjbfjneiaa.Ct
open Go Go.RowKit Go.Shelf
theorem CtrB.below {W Y : World} {q : CtB} {n : Nat} {l : List Bnd} {p : Option Addr} {cap : Nat} {s : Ctr} (H : CtrB W q n l p cap s) (hb : Below W.heap.size W Y) : CtrB Y q n l p cap s :=
  ⟨cell_below hb H.b3, cell_below hb H.b5, cell_below hb H.b6, fun i hi => (H.lev i hi).below hb, fun i hi => ⟨(H.cau i hi).1.below hb, (H.cau i hi).2.below hb⟩, H.low.below hb,
    by have := H.gt; have := hb.size; exact ⟨by omega, by omega, by omega, by omega, by omega, by omega⟩, H.bnds.imp id fun ⟨b, o, h1, e, hi⟩ => ⟨b, o, h1, e, fun i hi' => (hi i hi').of (cell_below hb)⟩⟩
theorem CtrB.setLow {W : World} {q : CtB} {n : Nat} {l : List Bnd} {p : Option Addr} {cap : Nat} {s : Ctr} (H : CtrB W q n l p cap s) (k : Nat) :
    CtrB (W.setCell ⟨q.b7, 0, none⟩ (.int .i64 (k : Int))) q n l p cap { s with low := k } := by
  have hg := H.gt
  have f : ∀ {b o : Nat} {v : Value}, b ≠ q.b7 → W.cell? ⟨b, o, none⟩ = some v → (W.setCell ⟨q.b7, 0, none⟩ (.int .i64 (k : Int))).cell? ⟨b, o, none⟩ = some v := fun {b o v} hb e => by
    rw [World.cell?_setCell_far _ _ _ _ (by show q.b7 ≠ b; omega)]; exact e
  refine ⟨f (by omega) H.b3, f (by omega) H.b5, f (by omega) H.b6, fun i hi => Own2.other (H.lev i hi) (.inl (by omega)), fun i hi => ⟨Own2.other (H.cau i hi).1 (.inl (by omega)), Own2.other (H.cau i hi).2 (.inl (by omega))⟩, Own2.set H.low, ?_, ?_⟩
  · have e : (W.setCell ⟨q.b7, 0, none⟩ (.int .i64 (k : Int))).heap.size = W.heap.size := by simp
    rw [e]; exact hg
  · exact H.bnds.imp id fun ⟨b, o, hb, e, hi⟩ => ⟨b, o, hb, e, fun i hi' => (hi i hi').far (by omega)⟩
theorem UsesIn.stay {A B : World} {u : List (Int × Bool)} {p : Option Addr} (h : UsesIn A u p) (k : StayC (fun _ => True) A B) : UsesIn B u p :=
  h.imp id fun ⟨b, o, e, hi⟩ => ⟨b, o, e, fun i h' => ⟨k.cell trivial (hi i h').1, k.cell trivial (hi i h').2⟩⟩
theorem CtrB.bin {W : World} {q : CtB} {n : Nat} {l : List Bnd} {p : Option Addr} {cap : Nat} {s : Ctr} (H : CtrB W q n l p cap s) : BndsIn W l p := H.bnds.imp id fun ⟨b, o, _, e, hi⟩ => ⟨b, o, e, hi⟩
theorem kLim_pos {n : Nat} {l : List Bnd} (hl : LimsOk n l) (d : Nat × Bool) (hd : d.1 < l.length) : ((kLim l d).s.toNat : Int) = (kLim l d).s ∧ ((kLim l d).f.toNat : Int) = (kLim l d).f := by
  obtain ⟨x, y, mm, hxy, hx, hy⟩ := uix_bd hl ⟨d, hd⟩
  have e : kLim l d = uixLim l ⟨d, hd⟩ := rfl
  rw [e, hxy]
  exact ⟨by simp, by simp⟩
theorem back_at {W : World} {q : CtB} {n : Nat} {l : List Bnd} {p : Option Addr} {cap : Nat} {s : Ctr} (H : CtrB W q n l p cap s) (hl : LimsOk n l) (hn : n ≤ 16) (hc : ∀ k, (s.cause k).1 < l.length) {k : Nat} (hk : k < n) :
    Calls Try.prog 49 #[.int .i64 (k : Int), .pointer (some ⟨q.b6, 0, none⟩), .pointer (some ⟨q.h, 0, none⟩)] W fun e w' => e = .returned (.int .i64 ((backK l s k : Nat) : Int)) ∧ Below W.heap.size W w' := by
  have h := back_any n k (s.cause k).1 (s.cause k).2 q.b6 q.h q.gc l p cap W H.b6 H.b3 H.bin hk hn hl.len (hc k) (H.cau k hk).1.1 (H.cau k hk).2.1 (hl.ok _ (hc k)).lo
  rw [show ((backK l s k : Nat) : Int) = (limOf (bndAt l (s.cause k).1) (s.cause k).2).s from (kLim_pos hl _ (hc k)).1]
  exact h
/-- the marks of the rounds -/
def MkAt (W : World) (Ds : List Nat) : Prop := ∀ D, D ∈ Ds → W.heap[D]? = some (.deferred (some []))
theorem MkAt.below {W Y : World} {Ds : List Nat} (h : MkAt W Ds) (hb : Below W.heap.size W Y) : MkAt Y Ds := fun D hD => (hb.block D (Array.getElem?_eq_some_iff.1 (h D hD)).1).trans (h D hD)
theorem MkAt.set {W : World} {Ds : List Nat} {b o : Nat} {u : Value} (h : MkAt W Ds) (hc : W.cell? ⟨b, o, none⟩ = some u) (v : Value) : MkAt (W.setCell ⟨b, o, none⟩ v) Ds := fun D hD => by
  have hne : D ≠ b := by
    intro e
    subst e
    obtain ⟨ob, h1, h2⟩ := cells_of_cell hc
    rw [h D hD] at h1
    cases h1
    cases h2
  rw [Below.heap_setCell _ _ _ _ hne]
  exact h D hD
def useCells (u : List (Int × Bool)) : List Value := u.flatMap fun d => [.int .i64 d.1, .bool d.2]
theorem useCells_snoc (u : List (Int × Bool)) (d : Int × Bool) : useCells (u ++ [d]) = useCells u ++ [.int .i64 d.1, .bool d.2] := by simp [useCells]
theorem useCells_at : ∀ (u : List (Int × Bool)) (i : Nat), i < u.length → (useCells u)[i * 2]? = some (.int .i64 (useAt u i).1) ∧ (useCells u)[i * 2 + 1]? = some (.bool (useAt u i).2)
  | [], i, h => absurd h (Nat.not_lt_zero i)
  | d :: u, 0, _ => by simp [useCells, useAt]
  | d :: u, i + 1, h => by
    have := useCells_at u i (by simpa using h)
    have e : useCells (d :: u) = .int .i64 d.1 :: .bool d.2 :: useCells u := by simp [useCells]
    have e2 : useAt (d :: u) (i + 1) = useAt u i := by simp [useAt]
    rw [e, e2, show (i + 1) * 2 = i * 2 + 1 + 1 by omega]
    simpa using this
/-- the cycle as it is collected -/
structure CycAt (W3 X : World) (v : Value) (u : List (Int × Bool)) : Prop where
  own : X.ownsRow W3.heap.size 41 2 v u.length (useCells u)
  bel : Below W3.heap.size W3 X
theorem CycAt.below {W3 X Y : World} {v : Value} {u : List (Int × Bool)} (h : CycAt W3 X v u) (hb : Below X.heap.size X Y) : CycAt W3 Y v u :=
  ⟨World.ownsRow.kept h.own (grown_below hb) (by cases e : v.ownBlock with | none => exact .inl rfl | some k => exact .inr (by simp)), h.bel.trans (hb.mono h.bel.size)⟩
theorem CycAt.more {W3 X Y : World} {v v' : Value} {u : List (Int × Bool)} {j : Int} {b : Bool} {o : Obj} (h : CycAt W3 X v u) (hown : Y.ownsRow W3.heap.size 41 2 v' (u.length + 1) (useCells u ++ [.int .i64 j, .bool b])) (hg : (X.alloc o).grownBy Y v.ownBlock) : CycAt W3 Y v' (u ++ [(j, b)]) :=
  ⟨by rw [useCells_snoc, List.length_append]; exact hown, (h.bel.alloc h.bel.size o).grown hg (by have := h.bel.size; simp; omega) (fun k hk => (World.ownsRow.lt h.own k hk).1)⟩
theorem CycAt.new (W3 : World) (j : Int) (b : Bool) : CycAt W3 (W3.alloc (.cells #[.int .i64 j, .bool b] 41)) (.slice (some ⟨W3.heap.size, 0, none⟩) 1 1) [(j, b)] :=
  ⟨⟨rfl, .inr ⟨W3.heap.size, 1, #[.int .i64 j, .bool b], rfl, Nat.le_refl _, by show (W3.heap.push _)[W3.heap.size]? = _; simp, Nat.le_refl _, by decide, rfl, rfl⟩⟩, (Below.refl _ _).alloc (Nat.le_refl _) _⟩
theorem CycAt.uses {W3 X : World} {v : Value} {u : List (Int × Bool)} (h : CycAt W3 X v u) : ∃ p cap, v = .slice p u.length cap ∧ UsesIn X u p ∧ u.length ≤ cap ∧ cap ≤ maxLen := by
  rcases h.own.2 with ⟨rfl, h0⟩ | ⟨g, cap, cur, rfl, _, _, hle, hcm, _, _⟩
  · exact ⟨none, 0, by rw [h0], .inl h0, by omega, by simp [maxLen]⟩
  · refine ⟨some ⟨g, 0, none⟩, cap, rfl, .inr ⟨g, 0, rfl, fun i hi => ?_⟩, hle, hcm⟩
    obtain ⟨h1, h2⟩ := useCells_at u i hi
    have k : ∀ (i : Nat) (v : Value), (useCells u)[i]? = some v → X.cell? ⟨g, i, none⟩ = some v := fun i v hi => by
      have := World.ownsRow.cells h.own (g := g) rfl i v hi
      rwa [show (⟨g, 0, none⟩ : Addr).add i = ⟨g, i, none⟩ by unfold Addr.add; split <;> simp_all] at this
    rw [Nat.zero_add]
    exact ⟨k _ _ h1, k _ _ h2⟩
def lenV : Value → Nat
  | .slice _ n _ => n
  | _ => 0
theorem CycAt.len {W3 X : World} {v : Value} {u : List (Int × Bool)} (h : CycAt W3 X v u) : lenV v = u.length := by
  obtain ⟨p, cap, rfl, _⟩ := h.uses
  rfl
theorem two_new (w : World) (x y : Value) (t : TypeId) : ∀ j u, [x, y][j]? = some u → (w.alloc (.cells #[x, y] t)).cell? ((⟨w.heap.size, 0, none⟩ : Addr).add j) = some u := by
  intro j u hj
  match j, hj with
  | 0, hj => simp at hj; subst hj; simp [Addr.add]
  | 1, hj => simp at hj; subst hj; simp [Addr.add]
theorem cycK_succ (l : List Bnd) (s : Ctr) (k c : Nat) : cycK l s k (c + 1) = cycK l s k c ++ [(((s.cause (itN (backK l s) c k)).1 : Int), (s.cause (itN (backK l s) c k)).2)] := by simp [cycK, List.range_succ]
end Go.Proofs.Ytlelamjbfjneiaa.Ct
