/- From what the row lists of the two tables to their cells. -/
import Derived.Test.YtmfpnfdoidihcaaGreatDoorCards
import Derived.Test.YtmfpnfdoidihcaaGreatDoorTie
import Derived.Test.YtmfpnfdoidihcaaGreatDoorVa
import Derived.ProofKit
import Derived.OpenShut
import Derived.Deep.DeepHandedRow
import Derived.Lib.LaidTab
namespace Go.Proofs.YtmfpnfdoidihcaaGreatDoor.Wd
open Go Go.RowKit
theorem cellsLimit : Tryz.prog.cellsOf 187 = 4 := by kernel_rfl
theorem cellsInt : Tryz.prog.cellsOf 3 = 1 := by kernel_rfl
theorem cellsSizes : Tryz.prog.cellsOf 194 = 5 := by kernel_rfl
theorem cellsLimits : Tryz.prog.cellsOf 188 = 24 := by kernel_rfl
theorem gLimits : Tryz.prog.globalNamed "meridian/world.limits" = some 0 := by kernel_rfl
theorem gSizes : Tryz.prog.globalNamed "meridian/world.sizes" = some 1 := by kernel_rfl
theorem gLimitsT : (Tryz.prog.globals[0]?).map (·.type) = some 188 := by kernel_rfl
theorem gSizesT : (Tryz.prog.globals[1]?).map (·.type) = some 194 := by kernel_rfl
def lim4 (a b c d : Int) : DataW Unit := .agg [.lit (.int .i64 a), .lit (.int .i64 b), .lit (.int .i64 c), .lit (.int .i64 d)]
set_option maxRecDepth 100000 in
theorem limit_cells {w : World} {fuel : Nat} {cs : List Value} {p : List MemPlace} {a b c d : Int}
    (h : DataW.trod (fun _ => ()) Tryz.prog w 0 (fun _ => true) false fuel 187 cs = some (lim4 a b c d, p)) : cs = [.int .i64 a, .int .i64 b, .int .i64 c, .int .i64 d] := by
  obtain ⟨xs, n, _, hx, hlen, hl, hf⟩ := DataW.trod_struct Tryz.underlying187 h
  rw [cellsLimit] at hlen
  match cs, hlen with
  | [c0, c1, c2, c3], _ =>
    match xs, hl with
    | [x0, x1, x2, x3], _ =>
      have t0 : DataW.trod (fun _ => ()) Tryz.prog w 0 (fun _ => true) false n 3 [c0] = some x0 := by
        have t := hf 0 _ rfl
        change DataW.trod (fun _ => ()) Tryz.prog w 0 (fun _ => true) false n 3 ((([c0, c1, c2, c3] : List Value).drop 0).take (Tryz.prog.cellsOf 3)) = some x0 at t
        rw [cellsInt] at t
        exact t
      have t1 : DataW.trod (fun _ => ()) Tryz.prog w 0 (fun _ => true) false n 3 [c1] = some x1 := by
        have t := hf 1 _ rfl
        change DataW.trod (fun _ => ()) Tryz.prog w 0 (fun _ => true) false n 3 ((([c0, c1, c2, c3] : List Value).drop 1).take (Tryz.prog.cellsOf 3)) = some x1 at t
        rw [cellsInt] at t
        exact t
      have t2 : DataW.trod (fun _ => ()) Tryz.prog w 0 (fun _ => true) false n 3 [c2] = some x2 := by
        have t := hf 2 _ rfl
        change DataW.trod (fun _ => ()) Tryz.prog w 0 (fun _ => true) false n 3 ((([c0, c1, c2, c3] : List Value).drop 2).take (Tryz.prog.cellsOf 3)) = some x2 at t
        rw [cellsInt] at t
        exact t
      have t3 : DataW.trod (fun _ => ()) Tryz.prog w 0 (fun _ => true) false n 3 [c3] = some x3 := by
        have t := hf 3 _ rfl
        change DataW.trod (fun _ => ()) Tryz.prog w 0 (fun _ => true) false n 3 ((([c0, c1, c2, c3] : List Value).drop 3).take (Tryz.prog.cellsOf 3)) = some x3 at t
        rw [cellsInt] at t
        exact t
      obtain ⟨n0, e0, f0, _⟩ := DataW.trod_int Tryz.underlying3 t0
      obtain ⟨n1, e1, f1, _⟩ := DataW.trod_int Tryz.underlying3 t1
      obtain ⟨n2, e2, f2, _⟩ := DataW.trod_int Tryz.underlying3 t2
      obtain ⟨n3, e3, f3, _⟩ := DataW.trod_int Tryz.underlying3 t3
      subst f0 f1 f2 f3
      simp only [List.cons.injEq, and_true] at e0 e1 e2 e3
      subst e0 e1 e2 e3
      simp only [lim4, Prod.mk.injEq, DataW.agg.injEq, List.map_cons, List.map_nil, List.cons.injEq, DataW.lit.injEq, Lit.int.injEq, true_and, and_true] at hx
      obtain ⟨⟨rfl, rfl, rfl, rfl⟩, _⟩ := hx
      rfl
theorem part_get {cs : List Value} {i : Nat} {l : List Value} (h : (cs.drop (i * 4)).take 4 = l) (j : Nat) (hj : j < 4) : cs[i * 4 + j]? = l[j]? := by
  rw [← h, List.getElem?_take, if_pos hj, List.getElem?_drop]
theorem limits_cells {w : World} {fuel : Nat} {cs : List Value} {p : List MemPlace} {l : List (Int × Int × Int × Int)} (hlen : l.length = 6)
    (h : DataW.trod (fun _ => ()) Tryz.prog w 0 (fun _ => true) false fuel 188 cs = some (.agg (l.map fun x => lim4 x.1 x.2.1 x.2.2.1 x.2.2.2), p)) :
    ∀ i, (hi : i < l.length) → (cs.drop (i * 4)).take 4 = [.int .i64 l[i].1, .int .i64 l[i].2.1, .int .i64 l[i].2.2.1, .int .i64 l[i].2.2.2] := by
  obtain ⟨xs, n, _, hx, _, hl, hf⟩ := DataW.trod_array Tryz.underlying188 h
  intro i hi
  have t := hf i (by omega)
  rw [cellsLimit] at t
  have hxi : i < xs.length := by omega
  rw [List.getElem?_eq_getElem hxi] at t
  simp only [Prod.mk.injEq, DataW.agg.injEq] at hx
  have e : (xs.map (·.1))[i]? = some (xs[i].1) := by simp [hxi]
  rw [← hx.1] at e
  simp only [List.getElem?_map, List.getElem?_eq_getElem hi, Option.map_some, Option.some.injEq] at e
  refine limit_cells (w := w) (fuel := n) (p := xs[i].2) ?_
  rw [t, e]
set_option maxRecDepth 100000 in
theorem tabs_of {w : World} (h : laidMetH Tryz.prog [("meridian/world.limits", Rows.laid_meridian_world_limits), ("meridian/world.sizes", Rows.laid_meridian_world_sizes)] w) : Tabs w := by
  change laidMet Tryz.prog [("meridian/world.limits", Rows.laid_meridian_world_limits), ("meridian/world.sizes", Rows.laid_meridian_world_sizes)] w at h
  obtain ⟨ps, hv, _, _⟩ := h
  obtain ⟨g, t, cs, fuel, p, q, hg, hty, hvar, hd, hr, _⟩ := hv
  obtain ⟨g', t', cs', fuel', p', q', hg', hty', hvar', hd', _, _⟩ := hr
  obtain rfl := Option.some.inj (gLimits.symm.trans hg)
  obtain rfl := Option.some.inj (gLimitsT.symm.trans hty)
  obtain rfl := Option.some.inj (gSizes.symm.trans hg')
  obtain rfl := Option.some.inj (gSizesT.symm.trans hty')
  have hs := Lib.cells_of_tab (k := .i64) (zs := [0, 10000000000000, 10000000000, 0, 0]) Tryz.underlying194 Tryz.underlying3 cellsInt cellsSizes hd'
  have hl := limits_cells (l := [(0, 0, 0, 0), (10000000, 10000, 10000000, 100000), (1000000, 100000, 100000, 10000), (100000, 0, 1000000, 1000), (100000, 0, 100000, 100), (10000000000, 10000000, 1000000000000, 1000000000)]) rfl hd
  have hsc : ∀ i, w.cell? ⟨1, i, none⟩ = cs'.toList[i]? := fun i => by rw [World.var?_cell gSizes hvar' i]; simp
  have hlc : ∀ i, w.cell? ⟨0, i, none⟩ = cs.toList[i]? := fun i => by rw [World.var?_cell gLimits hvar i]; simp
  unfold Tabs LimitCell SizeCell
  simp only [hsc, hlc, hs]
  have l1 := hl 1 (by decide)
  have l2 := hl 2 (by decide)
  have l3 := hl 3 (by decide)
  have l4 := hl 4 (by decide)
  have l5 := hl 5 (by decide)
  exact ⟨⟨rfl, rfl, rfl, rfl⟩, ⟨part_get l1 0 (by decide), part_get l1 1 (by decide), part_get l1 2 (by decide), part_get l1 3 (by decide)⟩, ⟨part_get l2 0 (by decide), part_get l2 1 (by decide), part_get l2 2 (by decide), part_get l2 3 (by decide)⟩,
    ⟨part_get l3 0 (by decide), part_get l3 1 (by decide), part_get l3 2 (by decide), part_get l3 3 (by decide)⟩, ⟨part_get l4 0 (by decide), part_get l4 1 (by decide), part_get l4 2 (by decide), part_get l4 3 (by decide)⟩,
    part_get l5 0 (by decide), part_get l5 1 (by decide), part_get l5 2 (by decide), part_get l5 3 (by decide)⟩
end Go.Proofs.YtmfpnfdoidihcaaGreatDoor.Wd
