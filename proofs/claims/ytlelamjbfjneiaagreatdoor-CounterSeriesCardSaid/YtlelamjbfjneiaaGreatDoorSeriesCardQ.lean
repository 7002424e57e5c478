/- What a law's row asks behind the call, out of two facts: it has answered true, and nothing that was there has turned. Nothing here speaks of one program. · Layer 2: a counter as an argument of a law. · Layer 2: a span as an argument of a law. · From what the row lists of the two tables to their cells. · CounterSeries, for every counter, world, pair of clocks, first second, step, farthest change, list of values and prior: the law returns true, and its arguments read as before. The tables that the row lists hold what the program's own text lays into them (the given tie). -/
import Derived.ProofKit
import Derived.Carry
import Derived.Test.YtlelamjbfjneiaaGreatDoorQ01
import Derived.Lib.SmallJoins
import Derived.Deep.Slices
import Derived.OpenShut
import Derived.Test.YtlelamjbfjneiaaGreatDoorCards
import Derived.Test.YtlelamjbfjneiaaGreatDoorTie
import Derived.Test.YtlelamjbfjneiaaGreatDoorQ03
import Derived.Deep.DeepHandedRow
import Derived.Lib.LaidTab
import Derived.Test.YtlelamjbfjneiaaGreatDoorQ53
import Derived.Test.YtlelamjbfjneiaaGreatDoorQ04
namespace Go.Proofs.YtlelamjbfjneiaaGreatDoor.Wd
open Go Go.RowKit Go.WideShapes Go.ChangeShapes
section
variable {H : Type} {enc : TypeId × Value → H} {P : Program}
theorem all_stays (hl : laidOutB P = true) {W W' : World} (sp : Nat → Bool) : ∀ (ts : List TypeId) (vs : List Value) (ds : List (DataW H)) (ps : List MemPlace),
    ts.all (fun t => P.readableRec t && decide (t < P.types.size)) = true → DataW.TrodAll enc P W 0 (fun _ => true) true ts vs ds ps → (∀ p ∈ ps, W.sameAt W' p) → (∀ p ∈ ps, sp p.block = true) → DataW.TrodAll enc P W' 0 sp true ts vs ds ps
  | [], [], [], _, _, h, _, _ => h
  | [], _ :: _, _, _, _, h, _, _ => h.elim
  | [], [], _ :: _, _, _, h, _, _ => h.elim
  | _ :: _, [], _, _, _, h, _, _ => h.elim
  | _ :: _, _ :: _, [], _, _, h, _, _ => h.elim
  | t :: ts, v :: vs, d :: ds, ps, ha, ⟨p, q, h, hr, e⟩, hs, hp => by
    simp only [List.all_cons, Bool.and_eq_true, decide_eq_true_eq] at ha
    subst e
    exact ⟨p, q, WideElems.Trod_stays hl ha.1.1 ha.1.2 h (fun x hx => hs x (List.mem_append_left _ hx)) (fun x hx => hp x (List.mem_append_left _ hx)),
      all_stays hl sp ts vs ds q ha.2 hr (fun x hx => hs x (List.mem_append_right _ hx)) (fun x hx => hp x (List.mem_append_right _ hx)), rfl⟩
/-- THE LAW's END. -/
theorem law_post (hl : laidOutB P = true) {f : Func} {s : ChangeSpec} {apart fresh handsOn again : Bool} {W W' : World} {args : Array Value} {ds gs : List (DataW H)} {before : List MemPlace} {tb : TypeId}
    (hts : f.params.toList.all (fun t => P.readableRec t && decide (t < P.types.size)) = true) (hvars : s.vars = []) (hres : f.resultTypes = #[tb]) (hub : P.underlying tb = some .bool)
    (hs : s.fn H (ds ++ gs) = { results := [.lit (.bool true)], args := ds })
    (hW : DataW.Whole enc P f.params.toList s.vars apart W args.toList ds gs before) (hb : Below W.heap.size W W') :
    s.post enc P f apart fresh handsOn again W args (.bool true) W' := by
  have hWh := hW
  obtain ⟨p, q, hA, hV, hps, hfz, hnd⟩ := hW
  rw [hvars] at hV
  obtain ⟨rfl, rfl⟩ := trodVars_none hV
  rw [List.append_nil] at hps
  subst hps
  have hlt : ∀ x ∈ before, x.block < W.heap.size := fun x hx => hWh.lt x hx
  have hsame : ∀ x ∈ before, W.sameAt W' x := fun x hx => hb.same (hlt x hx)
  have hr : ∀ (b : Nat) (sp : Nat → Bool) (hd : Bool), DataW.TrodAll enc P W' b sp hd [tb] [.bool true] [.lit (.bool true)] [] := fun b sp hd => trodAll_mk1 (shut_bool hub true)
  have hrl : f.resultTypes.toList = [tb] := by rw [hres]
  have hvl : (Value.bool true).resultList f.resultTypes.size = [.bool true] := by rw [hres]; rfl
  refine ⟨ds, [], before, [], before, [], hWh, ?_, ?_, ?_, ?_, fun _ => ⟨?_, [.lit (.bool true)] ++ ds, [], before, ?_, ?_⟩⟩
  · rw [hs, hrl, hvl]; exact hr _ _ _
  · rw [hs]; exact all_stays hl _ _ _ _ _ hts hA hsame (fun x hx => by simpa using hlt x hx)
  · rw [hs, hvars]; rfl
  · exact hb.frame _
  · exact ok_one hres rfl (okWide_bool_mk hub true)
  · rw [hrl, hvl, hvars]
    refine ⟨before, [], ⟨[], before, ?_, all_stays hl _ _ _ _ _ hts hA hsame (fun _ _ => rfl), rfl⟩, rfl, (List.append_nil _).symm, fun b o hx => ?_, hnd⟩
    · exact shut_bool hub true
    · rw [hb.frozen (p := ⟨b, o, none⟩) (hlt _ hx)]
      exact hfz b o hx
  · exact fun x hx _ => hx
end
end Go.Proofs.YtlelamjbfjneiaaGreatDoor.Wd
namespace Go.Proofs.YtlelamjbfjneiaaGreatDoor.Ct
open Go Go.RowKit Go.WideShapes Go.ChangeShapes Go.Deep Go.Joins
section
variable {H : Type} {enc : TypeId × Value → H} {P : Program} {w : World} {base : Nat} {spare : Nat → Bool} {held : Bool}
theorem array7 {α : Type} {cs : Array α} (h : cs.size = 7) : ∃ c0 c1 c2 c3 c4 c5 c6, cs = #[c0, c1, c2, c3, c4, c5, c6] := by
  obtain ⟨l⟩ := cs
  match l, h with
  | [c0, c1, c2, c3, c4, c5, c6], _ => exact ⟨c0, c1, c2, c3, c4, c5, c6, rfl⟩
theorem open_agg7 {r : Reach} {b0 : Nat} {t : TypeId} {f0 f1 f2 f3 f4 f5 f6 : Field} {v : Value} {d : DataW H} {p : List MemPlace} (hs : P.underlying t = some (.struct #[f0, f1, f2, f3, f4, f5, f6])) (hone : oneCellFields P #[f0, f1, f2, f3, f4, f5, f6] = true) (hC : P.cellsOf t = 7)
    (hv : Value.okWide P w r b0 t v) (h : DataW.Trod enc P w base spare held t v d p) :
    ∃ (v0 v1 v2 v3 v4 v5 v6 : Value) (y0 y1 y2 y3 y4 y5 y6 : DataW H × List MemPlace) (n : Nat), v = .agg #[v0, v1, v2, v3, v4, v5, v6] ∧
      DataW.trod enc P w base spare held n f0.type [v0] = some y0 ∧ DataW.trod enc P w base spare held n f1.type [v1] = some y1 ∧ DataW.trod enc P w base spare held n f2.type [v2] = some y2 ∧ DataW.trod enc P w base spare held n f3.type [v3] = some y3 ∧
      DataW.trod enc P w base spare held n f4.type [v4] = some y4 ∧ DataW.trod enc P w base spare held n f5.type [v5] = some y5 ∧ DataW.trod enc P w base spare held n f6.type [v6] = some y6 := by
  obtain ⟨cs, rfl, hsz⟩ := okWide_struct hs hv
  obtain ⟨c0, c1, c2, c3, c4, c5, c6, rfl⟩ := array7 (hsz.trans hC)
  obtain ⟨fuel, hf⟩ := h
  obtain ⟨xs, n, _, _, _, hlen, hq⟩ := DataW.trod_struct hs hf
  match xs, hlen with
  | [y0, y1, y2, y3, y4, y5, y6], _ =>
    obtain ⟨o0, k0⟩ := hone_of hone 0 f0 rfl
    obtain ⟨o1, k1⟩ := hone_of hone 1 f1 rfl
    obtain ⟨o2, k2⟩ := hone_of hone 2 f2 rfl
    obtain ⟨o3, k3⟩ := hone_of hone 3 f3 rfl
    obtain ⟨o4, k4⟩ := hone_of hone 4 f4 rfl
    obtain ⟨o5, k5⟩ := hone_of hone 5 f5 rfl
    obtain ⟨o6, k6⟩ := hone_of hone 6 f6 rfl
    exact ⟨c0, c1, c2, c3, c4, c5, c6, y0, y1, y2, y3, y4, y5, y6, n, rfl, by simpa [Value.cells, o0, k0] using hq 0 f0 rfl, by simpa [Value.cells, o1, k1] using hq 1 f1 rfl, by simpa [Value.cells, o2, k2] using hq 2 f2 rfl, by simpa [Value.cells, o3, k3] using hq 3 f3 rfl,
      by simpa [Value.cells, o4, k4] using hq 4 f4 rfl, by simpa [Value.cells, o5, k5] using hq 5 f5 rfl, by simpa [Value.cells, o6, k6] using hq 6 f6 rfl⟩
set_option maxRecDepth 100000 in
theorem open_counter {r : Reach} {b0 : Nat} {v : Value} {d : DataW H} {q : List MemPlace} (hv : Value.okWide Tryz.prog w r b0 23 v) (h : DataW.Trod enc Tryz.prog w base spare held 23 v d q) : ∃ c : Cnt, v = cntVal c := by
  obtain ⟨v0, v1, v2, v3, v4, v5, v6, y0, y1, y2, y3, y4, y5, y6, n, rfl, t0, t1, t2, t3, t4, t5, t6⟩ := open_agg7 Tryz.underlying23 (by kernel_rfl) (by kernel_rfl) hv h
  obtain ⟨n0, e0, _⟩ := DataW.trod_int Tryz.underlying3 t0
  obtain ⟨n1, e1, _⟩ := DataW.trod_int Tryz.underlying3 t1
  obtain ⟨n2, e2, _⟩ := DataW.trod_int Tryz.underlying3 t2
  obtain ⟨n3, e3, _⟩ := DataW.trod_int Tryz.underlying3 t3
  obtain ⟨n4, e4, _⟩ := DataW.trod_int Tryz.underlying3 t4
  obtain ⟨n5, e5, _⟩ := DataW.trod_int Tryz.underlying3 t5
  obtain ⟨n6, e6, _⟩ := DataW.trod_int Tryz.underlying3 t6
  simp only [List.cons.injEq, and_true] at e0 e1 e2 e3 e4 e5 e6
  subst e0 e1 e2 e3 e4 e5 e6
  exact ⟨⟨n0, n1, n2, n3, n4, n5, n6⟩, rfl⟩
end
end Go.Proofs.YtlelamjbfjneiaaGreatDoor.Ct
namespace Go.Proofs.YtlelamjbfjneiaaGreatDoor.Ct
open Go Go.RowKit Go.WideShapes Go.ChangeShapes Go.Deep Go.Joins
section
variable {H : Type} {enc : TypeId × Value → H} {w : World} {base : Nat} {spare : Nat → Bool} {held : Bool}
set_option maxRecDepth 100000 in
theorem open_span {r : Reach} {b0 : Nat} {v : Value} {d : DataW H} {q : List MemPlace} (hv : Value.okWide Tryz.prog w r b0 31 v) (h : DataW.Trod enc Tryz.prog w base spare held 31 v d q) : ∃ lo hi : Int, v = .agg #[.int .i64 lo, .int .i64 hi] := by
  obtain ⟨v0, v1, y0, y1, n, rfl, _, _, t0, t1⟩ := open_agg2 Tryz.underlying31 (by kernel_rfl) (by kernel_rfl) hv h
  obtain ⟨n0, e0, _⟩ := DataW.trod_int Tryz.underlying3 t0
  obtain ⟨n1, e1, _⟩ := DataW.trod_int Tryz.underlying3 t1
  simp only [List.cons.injEq, and_true] at e0 e1
  subst e0 e1
  exact ⟨n0, n1, rfl⟩
end
end Go.Proofs.YtlelamjbfjneiaaGreatDoor.Ct
namespace Go.Proofs.YtlelamjbfjneiaaGreatDoor.Wd
open Go Go.RowKit
theorem cellsLimit : Tryz.prog.cellsOf 191 = 4 := by kernel_rfl
theorem cellsInt : Tryz.prog.cellsOf 3 = 1 := by kernel_rfl
theorem cellsSizes : Tryz.prog.cellsOf 193 = 5 := by kernel_rfl
theorem cellsLimits : Tryz.prog.cellsOf 192 = 24 := by kernel_rfl
theorem gLimits : Tryz.prog.globalNamed "meridian/world.limits" = some 0 := by kernel_rfl
theorem gSizes : Tryz.prog.globalNamed "meridian/world.sizes" = some 1 := by kernel_rfl
theorem gLimitsT : (Tryz.prog.globals[0]?).map (·.type) = some 192 := by kernel_rfl
theorem gSizesT : (Tryz.prog.globals[1]?).map (·.type) = some 193 := by kernel_rfl
def lim4 (a b c d : Int) : DataW Unit := .agg [.lit (.int .i64 a), .lit (.int .i64 b), .lit (.int .i64 c), .lit (.int .i64 d)]
set_option maxRecDepth 100000 in
theorem limit_cells {w : World} {fuel : Nat} {cs : List Value} {p : List MemPlace} {a b c d : Int}
    (h : DataW.trod (fun _ => ()) Tryz.prog w 0 (fun _ => true) false fuel 191 cs = some (lim4 a b c d, p)) : cs = [.int .i64 a, .int .i64 b, .int .i64 c, .int .i64 d] := by
  obtain ⟨xs, n, _, hx, hlen, hl, hf⟩ := DataW.trod_struct Tryz.underlying191 h
  rw [cellsLimit] at hlen
  match cs, hlen with
  | [c0, c1, c2, c3], _ =>
    match xs, hl with
    | [x0, x1, x2, x3], _ =>
      have t0 : DataW.trod (fun _ => ()) Tryz.prog w 0 (fun _ => true) false n 3 [c0] = some x0 := by
        have t := hf 0 _ rfl
        change DataW.trod (fun _ => ()) Tryz.prog w 0 (fun _ => true) false n 3 ((([c0, c1, c2, c3] : List Value).drop 0).take (Tryz.prog.cellsOf 3)) = some x0 at t
        rw [cellsInt] at t
        exact t
      have t1 : DataW.trod (fun _ => ()) Tryz.prog w 0 (fun _ => true) false n 3 [c1] = some x1 := by
        have t := hf 1 _ rfl
        change DataW.trod (fun _ => ()) Tryz.prog w 0 (fun _ => true) false n 3 ((([c0, c1, c2, c3] : List Value).drop 1).take (Tryz.prog.cellsOf 3)) = some x1 at t
        rw [cellsInt] at t
        exact t
      have t2 : DataW.trod (fun _ => ()) Tryz.prog w 0 (fun _ => true) false n 3 [c2] = some x2 := by
        have t := hf 2 _ rfl
        change DataW.trod (fun _ => ()) Tryz.prog w 0 (fun _ => true) false n 3 ((([c0, c1, c2, c3] : List Value).drop 2).take (Tryz.prog.cellsOf 3)) = some x2 at t
        rw [cellsInt] at t
        exact t
      have t3 : DataW.trod (fun _ => ()) Tryz.prog w 0 (fun _ => true) false n 3 [c3] = some x3 := by
        have t := hf 3 _ rfl
        change DataW.trod (fun _ => ()) Tryz.prog w 0 (fun _ => true) false n 3 ((([c0, c1, c2, c3] : List Value).drop 3).take (Tryz.prog.cellsOf 3)) = some x3 at t
        rw [cellsInt] at t
        exact t
      obtain ⟨n0, e0, f0, _⟩ := DataW.trod_int Tryz.underlying3 t0
      obtain ⟨n1, e1, f1, _⟩ := DataW.trod_int Tryz.underlying3 t1
      obtain ⟨n2, e2, f2, _⟩ := DataW.trod_int Tryz.underlying3 t2
      obtain ⟨n3, e3, f3, _⟩ := DataW.trod_int Tryz.underlying3 t3
      subst f0 f1 f2 f3
      simp only [List.cons.injEq, and_true] at e0 e1 e2 e3
      subst e0 e1 e2 e3
      simp only [lim4, Prod.mk.injEq, DataW.agg.injEq, List.map_cons, List.map_nil, List.cons.injEq, DataW.lit.injEq, Lit.int.injEq, true_and, and_true] at hx
      obtain ⟨⟨rfl, rfl, rfl, rfl⟩, _⟩ := hx
      rfl
theorem part_get {cs : List Value} {i : Nat} {l : List Value} (h : (cs.drop (i * 4)).take 4 = l) (j : Nat) (hj : j < 4) : cs[i * 4 + j]? = l[j]? := by
  rw [← h, List.getElem?_take, if_pos hj, List.getElem?_drop]
theorem limits_cells {w : World} {fuel : Nat} {cs : List Value} {p : List MemPlace} {l : List (Int × Int × Int × Int)} (hlen : l.length = 6)
    (h : DataW.trod (fun _ => ()) Tryz.prog w 0 (fun _ => true) false fuel 192 cs = some (.agg (l.map fun x => lim4 x.1 x.2.1 x.2.2.1 x.2.2.2), p)) :
    ∀ i, (hi : i < l.length) → (cs.drop (i * 4)).take 4 = [.int .i64 l[i].1, .int .i64 l[i].2.1, .int .i64 l[i].2.2.1, .int .i64 l[i].2.2.2] := by
  obtain ⟨xs, n, _, hx, _, hl, hf⟩ := DataW.trod_array Tryz.underlying192 h
  intro i hi
  have t := hf i (by omega)
  rw [cellsLimit] at t
  have hxi : i < xs.length := by omega
  rw [List.getElem?_eq_getElem hxi] at t
  simp only [Prod.mk.injEq, DataW.agg.injEq] at hx
  have e : (xs.map (·.1))[i]? = some (xs[i].1) := by simp [hxi]
  rw [← hx.1] at e
  simp only [List.getElem?_map, List.getElem?_eq_getElem hi, Option.map_some, Option.some.injEq] at e
  refine limit_cells (w := w) (fuel := n) (p := xs[i].2) ?_
  rw [t, e]
set_option maxRecDepth 100000 in
theorem tabs_of {w : World} (h : laidMetH Tryz.prog [("meridian/world.limits", Rows.laid_meridian_world_limits), ("meridian/world.sizes", Rows.laid_meridian_world_sizes)] w) : Tabs w := by
  change laidMet Tryz.prog [("meridian/world.limits", Rows.laid_meridian_world_limits), ("meridian/world.sizes", Rows.laid_meridian_world_sizes)] w at h
  obtain ⟨ps, hv, _, _⟩ := h
  obtain ⟨g, t, cs, fuel, p, q, hg, hty, hvar, hd, hr, _⟩ := hv
  obtain ⟨g', t', cs', fuel', p', q', hg', hty', hvar', hd', _, _⟩ := hr
  obtain rfl := Option.some.inj (gLimits.symm.trans hg)
  obtain rfl := Option.some.inj (gLimitsT.symm.trans hty)
  obtain rfl := Option.some.inj (gSizes.symm.trans hg')
  obtain rfl := Option.some.inj (gSizesT.symm.trans hty')
  have hs := Lib.cells_of_tab (k := .i64) (zs := [0, 10000000000000, 10000000000, 0, 0]) Tryz.underlying193 Tryz.underlying3 cellsInt cellsSizes hd'
  have hl := limits_cells (l := [(0, 0, 0, 0), (10000000, 10000, 10000000, 100000), (1000000, 100000, 100000, 10000), (100000, 0, 1000000, 1000), (100000, 0, 100000, 100), (10000000000, 10000000, 1000000000000, 1000000000)]) rfl hd
  have hsc : ∀ i, w.cell? ⟨1, i, none⟩ = cs'.toList[i]? := fun i => by rw [World.var?_cell gSizes hvar' i]; simp
  have hlc : ∀ i, w.cell? ⟨0, i, none⟩ = cs.toList[i]? := fun i => by rw [World.var?_cell gLimits hvar i]; simp
  unfold Tabs LimitCell SizeCell
  simp only [hsc, hlc, hs]
  have l1 := hl 1 (by decide)
  have l2 := hl 2 (by decide)
  have l3 := hl 3 (by decide)
  have l4 := hl 4 (by decide)
  have l5 := hl 5 (by decide)
  exact ⟨⟨rfl, rfl, rfl, rfl⟩, ⟨part_get l1 0 (by decide), part_get l1 1 (by decide), part_get l1 2 (by decide), part_get l1 3 (by decide)⟩, ⟨part_get l2 0 (by decide), part_get l2 1 (by decide), part_get l2 2 (by decide), part_get l2 3 (by decide)⟩,
    ⟨part_get l3 0 (by decide), part_get l3 1 (by decide), part_get l3 2 (by decide), part_get l3 3 (by decide)⟩, ⟨part_get l4 0 (by decide), part_get l4 1 (by decide), part_get l4 2 (by decide), part_get l4 3 (by decide)⟩,
    part_get l5 0 (by decide), part_get l5 1 (by decide), part_get l5 2 (by decide), part_get l5 3 (by decide)⟩
end Go.Proofs.YtlelamjbfjneiaaGreatDoor.Wd
namespace Go.Proofs.YtlelamjbfjneiaaGreatDoor.lawCounterSeries
open Go Go.RowKit Go.WideShapes Go.ChangeShapes Go.ChangeAt

theorem wrap_of {n : Int} (h : (Lit.int .i64 n).wf = true) : IntKind.i64.wrap n = n := by
  simp only [Lit.wf, Bool.and_eq_true, decide_eq_true_eq] at h
  have h1 : IntKind.i64.min = -9223372036854775808 := by decide
  have h2 : IntKind.i64.max = 9223372036854775807 := by decide
  exact IntWalk.i64_in _ (by omega)
theorem own : ownKnob Tryz.prog.godebug = none := by kernel_rfl
theorem laidOut : laidOutB Tryz.prog = true := by kernel_rfl
theorem types : Tryz.f3.params.toList.all (fun t => Tryz.prog.readableRec t && decide (t < Tryz.prog.types.size)) = true := by kernel_rfl

set_option maxRecDepth 100000 in
theorem contract (H : Type) (enc : TypeId × Value → H) (W : World) (base : Nat) (args : Array Value) (ds gs : List (DataW H)) (before : List MemPlace)
    (hval : ∀ (j : Nat) t v, Tryz.f3.params[j]? = some t → args[j]? = some v → Value.okWide Tryz.prog W .any base t v)
    (hW : DataW.Whole enc Tryz.prog Tryz.f3.params.toList Rows.counterSeriesSpec.vars false W args.toList ds gs before) (hL : laidMetH Tryz.prog Rows.counterSeriesRow.laid W) :
    Calls Tryz.prog 3 args W fun e W' => ∃ v, e = .returned v ∧ Rows.counterSeriesSpec.post enc Tryz.prog Tryz.f3 false true false false W args v W' := by
  have hW' := hW
  obtain ⟨p, q, hA0, hV, hpq, hfz, hnd⟩ := hW
  have hA : DataW.TrodAll enc Tryz.prog W 0 (fun _ => true) true Tryz.f3.params.toList args.toList ds p := hA0
  rw [Tryz.params3] at hA hval
  obtain ⟨v0, vs0, d0, ds0, p0, q0, hargs, rfl, hp0, h0, r0⟩ := trodAll_cons hA
  obtain ⟨v1, vs1, d1, ds1, p1, q1, rfl, rfl, hp1, h1, r1⟩ := trodAll_cons r0
  obtain ⟨v2, vs2, d2, ds2, p2, q2, rfl, rfl, hp2, h2, r2⟩ := trodAll_cons r1
  obtain ⟨v3, vs3, d3, ds3, p3, q3, rfl, rfl, hp3, h3, r3⟩ := trodAll_cons r2
  obtain ⟨v4, vs4, d4, ds4, p4, q4, rfl, rfl, hp4, h4, r4⟩ := trodAll_cons r3
  obtain ⟨v5, vs5, d5, ds5, p5, q5, rfl, rfl, hp5, h5, r5⟩ := trodAll_cons r4
  obtain ⟨v6, vs6, d6, ds6, p6, q6, rfl, rfl, hp6, h6, r6⟩ := trodAll_cons r5
  obtain ⟨v7, vs7, d7, ds7, p7, q7, rfl, rfl, hp7, h7, r7⟩ := trodAll_cons r6
  obtain ⟨v8, vs8, d8, ds8, p8, q8, rfl, rfl, hp8, h8, r8⟩ := trodAll_cons r7
  obtain ⟨rfl, rfl, rfl⟩ := trodAll_nil r8
  obtain rfl : args = #[v0, v1, v2, v3, v4, v5, v6, v7, v8] := Array.ext' hargs
  obtain ⟨rfl, rfl⟩ := trodVars_none hV
  obtain ⟨x0, rfl⟩ := Ct.open_counter (hval 0 23 v0 rfl rfl) h0
  obtain ⟨x1, pa1, pb1, ca1, cb1, rfl, hw1⟩ := Wd.open_world (hval 1 28 v1 rfl rfl) h1
  obtain ⟨x2, rfl, _, _, wf2⟩ := open_int Tryz.underlying3 (hval 2 3 v2 rfl rfl) h2
  obtain ⟨x3, rfl, _, _, wf3⟩ := open_int Tryz.underlying3 (hval 3 3 v3 rfl rfl) h3
  obtain ⟨x4, rfl, _, _, wf4⟩ := open_int Tryz.underlying3 (hval 4 3 v4 rfl rfl) h4
  obtain ⟨x5, rfl, _, _, wf5⟩ := open_int Tryz.underlying3 (hval 5 3 v5 rfl rfl) h5
  obtain ⟨x6, rfl, _, _, wf6⟩ := open_int Tryz.underlying3 (hval 6 3 v6 rfl rfl) h6
  obtain ⟨l7, s7, c7, rfl, hl7, hi7⟩ := Ct.open_ints (hval 7 29 v7 rfl rfl) h7
  obtain ⟨lo8, hi8, rfl⟩ := Ct.open_span (hval 8 31 v8 rfl rfl) h8
  refine (Ct.series_any x0 x1 x2 x3 x4 x5 x6 lo8 hi8 l7 pa1 pb1 s7 ca1 cb1 c7 W hw1 hi7 (wrap_of wf4) (wrap_of wf5) (Wd.tabs_of hL)).mono fun e W' ⟨he, hb⟩ => ?_
  exact ⟨_, he, Wd.law_post laidOut types rfl rfl Tryz.underlying4 rfl hW' hb⟩

def setLimits : Obj → Obj
  | .cells _ t frozen => .cells #[.int .i64 0, .int .i64 0, .int .i64 0, .int .i64 0, .int .i64 10000000, .int .i64 10000, .int .i64 10000000, .int .i64 100000, .int .i64 1000000, .int .i64 100000, .int .i64 100000, .int .i64 10000, .int .i64 100000, .int .i64 0, .int .i64 1000000, .int .i64 1000, .int .i64 100000, .int .i64 0, .int .i64 100000, .int .i64 100, .int .i64 10000000000, .int .i64 10000000, .int .i64 1000000000000, .int .i64 1000000000] t frozen
  | o => o
def setSizes : Obj → Obj
  | .cells _ t frozen => .cells #[.int .i64 0, .int .i64 10000000000000, .int .i64 10000000000, .int .i64 0, .int .i64 0] t frozen
  | o => o
noncomputable def laidWorld (os : Os) : World :=
  { World.holding Tryz.prog os ⟨#[], #[], []⟩ with heap := ((World.holding Tryz.prog os ⟨#[], #[], []⟩).heap.modify 0 setLimits).modify 1 setSizes }
def wargs : Array Value := #[.agg #[.int .i64 0, .int .i64 0, .int .i64 0, .int .i64 0, .int .i64 0, .int .i64 0, .int .i64 0], .agg #[.int .u64 0, .slice none 0 0, .slice none 0 0], .int .i64 0, .int .i64 0, .int .i64 0, .int .i64 0, .int .i64 0, .slice none 0 0, .agg #[.int .i64 0, .int .i64 0]]
theorem laid_met (os : Os) : laidMet Tryz.prog Rows.counterSeriesRow.laid ((laidWorld os).forCall (fun _ _ => 0) ⟨#[], wargs, []⟩).memory :=
  laidMet_of_run' 8 (by kernel_rfl) (by kernel_rfl)
theorem reads (os : Os) {H : Type} (enc : TypeId × Value → H) : ∃ places, DataW.whole enc Tryz.prog ((laidWorld os).forCall (fun _ _ => 0) ⟨#[], wargs, []⟩).memory Tryz.f3.params.toList Rows.counterSeriesSpec.vars false wargs.toList 8 = some ([.agg [.lit (.int .i64 0), .lit (.int .i64 0), .lit (.int .i64 0), .lit (.int .i64 0), .lit (.int .i64 0), .lit (.int .i64 0), .lit (.int .i64 0)], .agg [.lit (.int .u64 0), .nil, .nil], .lit (.int .i64 0), .lit (.int .i64 0), .lit (.int .i64 0), .lit (.int .i64 0), .lit (.int .i64 0), .nil, .agg [.lit (.int .i64 0), .lit (.int .i64 0)]], [], places) :=
  ⟨[], by kernel_rfl⟩
set_option maxRecDepth 100000 in
theorem lifted (os : Os) (started : os.Started) (H : Type) (enc : TypeId × Value → H) (F : Stop.Interp) :
    ReturnsInHanded {} Tryz.checked os 3 .any ((OpenSpec.ofChange Rows.counterSeriesSpec).preRow enc Tryz.prog Tryz.f3 Rows.counterSeriesRow.domain false Rows.counterSeriesRow.laid) (((OpenSpec.ofChange Rows.counterSeriesSpec).at F).post enc Tryz.prog Tryz.f3 false true false false) := by
  obtain ⟨places, hx⟩ := reads os enc
  refine returnsInHanded_of_row (C := Tryz.checked) (s := OpenSpec.ofChange Rows.counterSeriesSpec) own started (by kernel_rfl) Tryz.func3
    (witness_row_at (enc := enc) (C := Tryz.checked) false (laidWorld os) wargs rfl (by kernel_rfl) (by kernel_rfl) (by kernel_rfl)
      (OpenSpec.preRow_of_cond 8 hx (by kernel_rfl) (fun k hk => by cases hk) (by kernel_rfl) (laid_met os))) ?_
  intro W base args ds gs before hval hW _ _ _ hL _ _
  exact contract H enc W base args ds gs before hval hW hL
theorem said : Rows.CounterSeriesSaid :=
  OpenClaim.holds_of_cond 3 Tryz.f3 rfl rfl rfl rfl rfl rfl rfl ⟨rfl, rfl, rfl, rfl, rfl⟩ rfl rfl rfl rfl rfl (by kernel_rfl) Tryz.func3 (by kernel_rfl)
    (of_decide_eq_true (by kernel_rfl)) (by unfold Func.isWrapper; rw [if_neg (of_decide_eq_false (by kernel_rfl))]; exact ⟨rfl, rfl⟩)
    (fun os started H enc _ F => by rw [OpenClaim.pre_eq_preRow]; exact lifted os started H enc F)
theorem noStandIn : Tryz.f3.params.toList.all (fun t => !Tryz.prog.wantsStandIn t) = true := by kernel_rfl
theorem plain (f : FuncId) (fn : Func) (hf : Tryz.pinned.checked.prog.funcNamed "meridian/meridianlaw02.CounterSeries" = some f) (hfn : Tryz.pinned.checked.prog.funcs[f]? = some fn) :
    false = Tryz.pinned.checked.prog.looks [] ∧ ∀ (j : Nat) t, fn.params[j]? = some t → Tryz.pinned.checked.prog.wantsStandIn t = false := by
  obtain rfl : f = 3 := Option.some.inj ((show Tryz.prog.funcNamed "meridian/meridianlaw02.CounterSeries" = some 3 by kernel_rfl).symm.trans hf) |>.symm
  obtain rfl : fn = Tryz.f3 := (Option.some.inj (Tryz.func3.symm.trans hfn)).symm
  refine ⟨by kernel_rfl, fun j t ht => ?_⟩
  have hm := List.all_eq_true.1 noStandIn t (by simpa using Array.mem_of_getElem? ht)
  exact (by simpa using hm : Tryz.prog.wantsStandIn t = false)
theorem card : Rows.CounterSeriesCardSaid :=
  Claim7.holds_tied_plain_at .later [] _ _ _ _ said (fun _ h => by cases h) (by kernel_rfl) (fun _ h => by cases h) counterSeries_row_tie rfl ⟨rfl, rfl⟩ (by kernel_rfl) rfl plain (by kernel_rfl)
end Go.Proofs.YtlelamjbfjneiaaGreatDoor.lawCounterSeries
