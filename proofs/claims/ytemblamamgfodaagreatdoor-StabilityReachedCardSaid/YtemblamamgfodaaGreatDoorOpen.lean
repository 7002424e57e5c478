/- A world that comes in as an argument, as it lies in memory. -/
import Derived.Test.YtemblamamgfodaaGreatDoorEv
import Derived.Deep.Slices
import Derived.Deep.Fields
import Derived.ChangeSame
import Derived.Lib.SmallJoins
namespace Go.Proofs.YtemblamamgfodaaGreatDoor.Wd
open Go Go.RowKit Go.ChangeShapes Go.WideShapes Go.Deep Go.Joins
theorem pick_list {α : Type} (n : Nat) (Q : Nat → α → Prop) (h : ∀ i, i < n → ∃ x, Q i x) : ∃ l : List α, l.length = n ∧ ∀ i, (hi : i < l.length) → Q i l[i] := by
  induction n with
  | zero => exact ⟨[], rfl, fun i hi => absurd hi (by simp)⟩
  | succ n ih =>
    obtain ⟨l, hl, hq⟩ := ih fun i hi => h i (by omega)
    obtain ⟨x, hx⟩ := h n (by omega)
    refine ⟨l ++ [x], by simp [hl], fun i hi => ?_⟩
    by_cases hlt : i < l.length
    · rw [List.getElem_append_left hlt]; exact hq i hlt
    · have : i = l.length := by simp at hi; omega
      subst this
      rw [List.getElem_append_right (by omega)]
      simpa [hl] using hx
theorem add_plain (b o k : Nat) : (⟨b, o, none⟩ : Addr).add k = ⟨b, o + k, none⟩ := by
  unfold Addr.add; split <;> simp_all
section
variable {H : Type} {enc : TypeId × Value → H} {P : Program} {w : World} {base : Nat} {spare : Nat → Bool} {held : Bool}
theorem field_of {e : TypeId} {fs : Array Field} {fuel : Nat} {cs : List Value} {x : DataW H × List MemPlace} (he : P.underlying e = some (.struct fs)) (hone : oneCellFields P fs = true) (hC : P.cellsOf e = fs.size)
    (h : DataW.trod enc P w base spare held fuel e cs = some x) (j : Nat) (f : Field) (hj : fs[j]? = some f) :
    ∃ v y n, cs[j]? = some v ∧ DataW.trod enc P w base spare held n f.type [v] = some y := by
  obtain ⟨ys, n, _, _, hlen, hyl, hf⟩ := DataW.trod_struct he h
  obtain ⟨ho, hk⟩ := hone_of hone j f hj
  have hjl : j < fs.size := (Array.getElem?_eq_some_iff.1 hj).1
  have hv : j < cs.length := by omega
  have hy : j < ys.length := by omega
  have h1 := hf j f hj
  have e : (cs.drop j).take 1 = [cs[j]] := by rw [List.drop_eq_getElem_cons hv]; rfl
  rw [ho, hk, e, List.getElem?_eq_getElem hy] at h1
  exact ⟨cs[j], ys[j], n, List.getElem?_eq_getElem hv, h1⟩
/-- a slice of structs of one-cell fields: the cell of each field of each element -/
theorem struct_slice {t e : TypeId} {fs : Array Field} {fuel : Nat} {cs : List Value} {x : DataW H × List MemPlace} (ht : P.underlying t = some (.slice e)) (he : P.underlying e = some (.struct fs)) (hone : oneCellFields P fs = true)
    (hC : P.cellsOf e = fs.size) (hpos : 0 < fs.size) (h : DataW.trod enc P w base spare held fuel t cs = some x) :
    ∃ p n cap, cs = [.slice p n cap] ∧ n ≤ maxLen ∧ SliceIn p n fun b o => ∀ i, i < n → ∀ j f, fs[j]? = some f →
      ∃ v y m, w.cell? ⟨b, o + (i * fs.size + j), none⟩ = some v ∧ DataW.trod enc P w base spare held m f.type [v] = some y := by
  rcases open_slice ht h with ⟨rfl, _⟩ | ⟨a, len, cap, m, n, D, Pl, rfl, _, hl, hm, hmm, _, hx⟩
  · exact ⟨none, 0, 0, rfl, by simp [maxLen], .inl rfl⟩
  · refine ⟨some a, len, cap, rfl, by omega, ?_⟩
    rcases Nat.eq_zero_or_pos len with h0 | h0
    · exact .inl h0
    · have hlt : ∀ i, i < len → i < m := fun i hi => by rw [hmm]; split <;> omega
      have cell : ∀ i, i < len → ∀ j f, fs[j]? = some f → ∃ v y m', w.cell? (a.add (i * fs.size + j)) = some v ∧ DataW.trod enc P w base spare held m' f.type [v] = some y := by
        intro i hi j f hj
        obtain ⟨cs', hc, ht'⟩ := hx i (hlt i hi)
        obtain ⟨v, y, k, hv, hy⟩ := field_of he hone hC ht' j f hj
        rw [hC] at hc
        obtain ⟨_, _, hat⟩ := World.cells?_some hc
        have hjl : j < fs.size := (Array.getElem?_eq_some_iff.1 hj).1
        exact ⟨v, y, k, by rw [← Go.Deep.add_add, hat j hjl, hv], hy⟩
      obtain ⟨v, _, _, hv, _⟩ := cell 0 h0 0 (fs[0]'hpos) (Array.getElem?_eq_getElem hpos)
      obtain ⟨b, o, spot⟩ := a
      have hs : spot = none := by simpa [Addr.add] using World.cell?_spot hv
      subst hs
      refine .inr ⟨b, o, rfl, fun i hi j f hj => ?_⟩
      obtain ⟨v, y, k, hv, hy⟩ := cell i hi j f hj
      exact ⟨v, y, k, by rw [← hv, add_plain], hy⟩
end
section
variable {H : Type} {enc : TypeId × Value → H} {w : World} {base : Nat} {spare : Nat → Bool} {held : Bool}
theorem open_chams {fuel : Nat} {cs : List Value} {x : DataW H × List MemPlace} (h : DataW.trod enc Tryz.prog w base spare held fuel 32 cs = some x) :
    ∃ p cap, ∃ l : List Cham, cs = [.slice p l.length cap] ∧ l.length ≤ maxLen ∧ SliceIn p l.length (ChamsAt w l) := by
  obtain ⟨p, n, cap, hcs, hm, hs⟩ := struct_slice Tryz.underlying32 Tryz.underlying64 (by kernel_rfl) (by kernel_rfl) (by decide) h
  rcases hs with rfl | ⟨b, o, rfl, hs⟩
  · exact ⟨p, cap, [], hcs, hm, .inl rfl⟩
  · obtain ⟨l, rfl, hl⟩ := pick_list n (fun i c => ChamCells w b (o + i * 3) c) (by
      intro i hi
      obtain ⟨v0, y0, m0, c0, t0⟩ := hs i hi 0 _ rfl
      obtain ⟨v1, y1, m1, c1, t1⟩ := hs i hi 1 _ rfl
      obtain ⟨v2, y2, m2, c2, t2⟩ := hs i hi 2 _ rfl
      obtain ⟨n0, e0, _⟩ := DataW.trod_int Tryz.underlying3 t0
      obtain ⟨n1, e1, _⟩ := DataW.trod_int Tryz.underlying3 t1
      obtain ⟨n2, e2, _⟩ := DataW.trod_int Tryz.underlying3 t2
      simp only [List.cons.injEq, and_true] at e0 e1 e2
      subst e0 e1 e2
      exact ⟨⟨n0, n1, n2⟩, c0, c1, c2⟩)
    exact ⟨_, cap, l, hcs, hm, .inr ⟨b, o, rfl, hl⟩⟩
theorem open_evts {fuel : Nat} {v : Value} {x : DataW H × List MemPlace} (h : DataW.trod enc Tryz.prog w base spare held fuel 66 [v] = some x) : ∃ l : List Evt, EvSlice w l v := by
  obtain ⟨p, n, cap, hcs, hm, hs⟩ := struct_slice Tryz.underlying66 Tryz.underlying98 (by kernel_rfl) (by kernel_rfl) (by decide) h
  simp only [List.cons.injEq, and_true] at hcs
  subst hcs
  rcases hs with rfl | ⟨b, o, rfl, hs⟩
  · exact ⟨[], p, cap, rfl, hm, .inl rfl⟩
  · obtain ⟨l, rfl, hl⟩ := pick_list n (fun i c => EvtCells w b (o + i * 3) c) (by
      intro i hi
      obtain ⟨v0, y0, m0, c0, t0⟩ := hs i hi 0 _ rfl
      obtain ⟨v1, y1, m1, c1, t1⟩ := hs i hi 1 _ rfl
      obtain ⟨v2, y2, m2, c2, t2⟩ := hs i hi 2 _ rfl
      obtain ⟨n0, e0, _⟩ := DataW.trod_int Tryz.underlying94 t0
      obtain ⟨n1, e1, _⟩ := DataW.trod_int Tryz.underlying3 t1
      obtain ⟨n2, e2, _⟩ := DataW.trod_int Tryz.underlying3 t2
      simp only [List.cons.injEq, and_true] at e0 e1 e2
      subst e0 e1 e2
      exact ⟨⟨n0, n1, n2⟩, c0, c1, c2⟩)
    exact ⟨l, _, cap, rfl, hm, .inr ⟨b, o, rfl, hl⟩⟩
theorem open_clks {fuel : Nat} {cs : List Value} {x : DataW H × List MemPlace} (h : DataW.trod enc Tryz.prog w base spare held fuel 33 cs = some x) :
    ∃ p cap, ∃ l : List Clk, cs = [.slice p l.length cap] ∧ l.length ≤ maxLen ∧ SliceIn p l.length (ClksAt w l) := by
  obtain ⟨p, n, cap, hcs, hm, hs⟩ := struct_slice Tryz.underlying33 Tryz.underlying68 (by kernel_rfl) (by kernel_rfl) (by decide) h
  rcases hs with rfl | ⟨b, o, rfl, hs⟩
  · exact ⟨p, cap, [], hcs, hm, .inl rfl⟩
  · obtain ⟨l, rfl, hl⟩ := pick_list n (fun i c => ClkCells w b (o + i * 9) c) (by
      intro i hi
      obtain ⟨v0, y0, m0, c0, t0⟩ := hs i hi 0 _ rfl
      obtain ⟨v1, y1, m1, c1, t1⟩ := hs i hi 1 _ rfl
      obtain ⟨v2, y2, m2, c2, t2⟩ := hs i hi 2 _ rfl
      obtain ⟨v3, y3, m3, c3, t3⟩ := hs i hi 3 _ rfl
      obtain ⟨v4, y4, m4, c4, t4⟩ := hs i hi 4 _ rfl
      obtain ⟨v5, y5, m5, c5, t5⟩ := hs i hi 5 _ rfl
      obtain ⟨v6, y6, m6, c6, t6⟩ := hs i hi 6 _ rfl
      obtain ⟨v7, y7, m7, c7, t7⟩ := hs i hi 7 _ rfl
      obtain ⟨v8, y8, m8, c8, t8⟩ := hs i hi 8 _ rfl
      obtain ⟨n0, e0, _⟩ := DataW.trod_int Tryz.underlying65 t0
      obtain ⟨n1, e1, _⟩ := DataW.trod_int Tryz.underlying3 t1
      obtain ⟨n2, e2, _⟩ := DataW.trod_int Tryz.underlying3 t2
      obtain ⟨n3, e3, _⟩ := DataW.trod_int Tryz.underlying3 t3
      obtain ⟨n4, e4, _⟩ := DataW.trod_int Tryz.underlying3 t4
      obtain ⟨n5, e5, _⟩ := DataW.trod_int Tryz.underlying3 t5
      obtain ⟨n6, e6, _⟩ := DataW.trod_int Tryz.underlying3 t6
      obtain ⟨n7, e7, _⟩ := DataW.trod_int Tryz.underlying3 t7
      obtain ⟨es, he⟩ := open_evts t8
      simp only [List.cons.injEq, and_true] at e0 e1 e2 e3 e4 e5 e6 e7
      subst e0 e1 e2 e3 e4 e5 e6 e7
      exact ⟨⟨n0, n1, n2, n3, n4, n5, n6, n7, es⟩, ⟨c0, c1, c2, c3, c4, c5, c6, c7⟩, v8, c8, he⟩)
    exact ⟨_, cap, l, hcs, hm, .inr ⟨b, o, rfl, hl⟩⟩
set_option maxRecDepth 100000 in
/-- the argument of a law: a world -/
theorem open_world {r : Reach} {b0 : Nat} {v : Value} {d : DataW H} {q : List MemPlace} (hv : Value.okWide Tryz.prog w r b0 35 v) (h : DataW.Trod enc Tryz.prog w base spare held 35 v d q) :
    ∃ (W : Wld) (p1 p2 : Option Addr) (c1 c2 : Nat), v = .agg #[.int .u64 W.seed, .slice p1 W.chs.length c1, .slice p2 W.cls.length c2] ∧ WldIn w W p1 p2 := by
  obtain ⟨v0, v1, v2, y0, y1, y2, n, rfl, _, _, t0, t1, t2⟩ := open_agg3 Tryz.underlying35 (by kernel_rfl) (by kernel_rfl) hv h
  obtain ⟨n0, e0, _⟩ := DataW.trod_int Tryz.underlying24 t0
  obtain ⟨p1, c1, l1, e1, m1, s1⟩ := open_chams t1
  obtain ⟨p2, c2, l2, e2, m2, s2⟩ := open_clks t2
  simp only [List.cons.injEq, and_true] at e0 e1 e2
  subst e0 e1 e2
  exact ⟨⟨n0, l1, l2⟩, p1, p2, c1, c2, rfl, m1, m2, s1, s2⟩
end
end Go.Proofs.YtemblamamgfodaaGreatDoor.Wd
