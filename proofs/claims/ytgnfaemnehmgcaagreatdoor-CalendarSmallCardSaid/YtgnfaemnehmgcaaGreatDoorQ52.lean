/- -/
import Derived.Test.YtgnfaemnehmgcaaGreatDoorCards
import Derived.Test.YtgnfaemnehmgcaaGreatDoorTie
import Derived.Test.YtgnfaemnehmgcaaGreatDoorQ02
import Derived.ProofKit
import Derived.OpenShut
import Derived.Deep.DeepHandedRow
import Derived.Lib.LaidTab
import Derived.Test.YtgnfaemnehmgcaaGreatDoorQ51
import Derived.Stop.LaidErr
import Derived.Carry
namespace Go.Proofs.YtgnfaemnehmgcaaGreatDoor.Cal
open Go Go.RowKit
theorem cellsInt : Tryz.prog.cellsOf 3 = 1 := by kernel_rfl
theorem cellsMonths : Tryz.prog.cellsOf 172 = 12 := by kernel_rfl
theorem gMonths : Tryz.prog.globalNamed "meridian/calendar.months" = some 0 := by kernel_rfl
theorem gMonthsT : (Tryz.prog.globals[0]?).map (·.type) = some 172 := by kernel_rfl
theorem mon_of {w : World} (h : laidMetH Tryz.prog [("meridian/calendar.months", Rows.laid_meridian_calendar_months)] w) : Mon w := by
  change laidMet Tryz.prog [("meridian/calendar.months", Rows.laid_meridian_calendar_months)] w at h
  obtain ⟨ps, hv, _, _⟩ := h
  obtain ⟨g, t, cs, fuel, p, q, hg, hty, hvar, hd, hr, _⟩ := hv
  obtain rfl := Option.some.inj (gMonths.symm.trans hg)
  obtain rfl := Option.some.inj (gMonthsT.symm.trans hty)
  have hs := Lib.cells_of_tab (k := .i64) (zs := [31, 28, 31, 30, 31, 30, 31, 31, 30, 31, 30, 31]) Tryz.underlying172 Tryz.underlying3 cellsInt cellsMonths hd
  have hsc : ∀ i, w.cell? ⟨0, i, none⟩ = cs.toList[i]? := fun i => by rw [World.var?_cell gMonths hvar i]; simp
  intro i hi
  rw [hsc, hs]
  have : i = 0 ∨ i = 1 ∨ i = 2 ∨ i = 3 ∨ i = 4 ∨ i = 5 ∨ i = 6 ∨ i = 7 ∨ i = 8 ∨ i = 9 ∨ i = 10 ∨ i = 11 := by omega
  rcases this with rfl | rfl | rfl | rfl | rfl | rfl | rfl | rfl | rfl | rfl | rfl | rfl <;> rfl
end Go.Proofs.YtgnfaemnehmgcaaGreatDoor.Cal
namespace Go.Proofs.YtgnfaemnehmgcaaGreatDoor.Cal
open Go Go.RowKit Go.WideShapes Go.ChangeShapes Go.Deep Go.Joins
theorem cellsU64s : Tryz.prog.cellsOf 200 = 1 := by kernel_rfl
theorem cellsPows : Tryz.prog.cellsOf 225 = 20 := by kernel_rfl
theorem gPowTs : (Tryz.prog.globals[3]?).map (·.type) = some 225 := by kernel_rfl
theorem powTabs : (Rows.laid_internal_strconv_uint64pow10 : DataW Unit) = Lib.tabData .u64 Lib.pow10Tab := by rfl
theorem sm_laid {w : World} (h : laidMetH Tryz.prog Rows.calendarSmallRow.laid w) : Mon w ∧ Pow w := by
  change laidMet Tryz.prog [("math/bits.deBruijn32tab", Rows.laid_math_bits_deBruijn32tab), ("math/bits.deBruijn64tab", Rows.laid_math_bits_deBruijn64tab), ("internal/strconv.uint64pow10", Rows.laid_internal_strconv_uint64pow10), ("strconv.ErrRange", Rows.laid_strconv_ErrRange), ("strconv.ErrSyntax", Rows.laid_strconv_ErrSyntax), ("meridian/calendar.months", Rows.laid_meridian_calendar_months)] w at h
  have h2 := h.tail.tail
  have h5 := h2.tail.tail.tail
  rw [powTabs] at h2
  exact ⟨mon_of h5, Lib.tabIs_of_head gPow gPowTs Tryz.underlying225 Tryz.underlying200 cellsU64s cellsPows h2⟩
end Go.Proofs.YtgnfaemnehmgcaaGreatDoor.Cal
namespace Go.Proofs.YtgnfaemnehmgcaaGreatDoor
open Go Go.RowKit Go.WideShapes Go.ChangeShapes
section
variable {H : Type} {enc : TypeId × Value → H} {P : Program}
theorem all_stays (hl : laidOutB P = true) {W W' : World} (sp : Nat → Bool) : ∀ (ts : List TypeId) (vs : List Value) (ds : List (DataW H)) (ps : List MemPlace),
    ts.all (fun t => P.readableRec t && decide (t < P.types.size)) = true → DataW.TrodAll enc P W 0 (fun _ => true) true ts vs ds ps → (∀ p ∈ ps, W.sameAt W' p) → (∀ p ∈ ps, sp p.block = true) → DataW.TrodAll enc P W' 0 sp true ts vs ds ps
  | [], [], [], _, _, h, _, _ => h
  | [], _ :: _, _, _, _, h, _, _ => h.elim
  | [], [], _ :: _, _, _, h, _, _ => h.elim
  | _ :: _, [], _, _, _, h, _, _ => h.elim
  | _ :: _, _ :: _, [], _, _, h, _, _ => h.elim
  | t :: ts, v :: vs, d :: ds, ps, ha, ⟨p, q, h, hr, e⟩, hs, hp => by
    simp only [List.all_cons, Bool.and_eq_true, decide_eq_true_eq] at ha
    subst e
    exact ⟨p, q, WideElems.Trod_stays hl ha.1.1 ha.1.2 h (fun x hx => hs x (List.mem_append_left _ hx)) (fun x hx => hp x (List.mem_append_left _ hx)),
      all_stays hl sp ts vs ds q ha.2 hr (fun x hx => hs x (List.mem_append_right _ hx)) (fun x hx => hp x (List.mem_append_right _ hx)), rfl⟩
theorem law_post (hl : laidOutB P = true) {f : Func} {s : ChangeSpec} {apart fresh handsOn again : Bool} {W W' : World} {args : Array Value} {ds gs : List (DataW H)} {before : List MemPlace} {tb : TypeId}
    (hts : f.params.toList.all (fun t => P.readableRec t && decide (t < P.types.size)) = true) (hvars : s.vars = []) (hres : f.resultTypes = #[tb]) (hub : P.underlying tb = some .bool)
    (hs : s.fn H (ds ++ gs) = { results := [.lit (.bool true)], args := ds })
    (hW : DataW.Whole enc P f.params.toList s.vars apart W args.toList ds gs before) (hb : Below W.heap.size W W') :
    s.post enc P f apart fresh handsOn again W args (.bool true) W' := by
  have hWh := hW
  obtain ⟨p, q, hA, hV, hps, hfz, hnd⟩ := hW
  rw [hvars] at hV
  obtain ⟨rfl, rfl⟩ := trodVars_none hV
  rw [List.append_nil] at hps
  subst hps
  have hlt : ∀ x ∈ before, x.block < W.heap.size := fun x hx => hWh.lt x hx
  have hsame : ∀ x ∈ before, W.sameAt W' x := fun x hx => hb.same (hlt x hx)
  have hr : ∀ (b : Nat) (sp : Nat → Bool) (hd : Bool), DataW.TrodAll enc P W' b sp hd [tb] [.bool true] [.lit (.bool true)] [] := fun b sp hd => trodAll_mk1 (shut_bool hub true)
  have hrl : f.resultTypes.toList = [tb] := by rw [hres]
  have hvl : (Value.bool true).resultList f.resultTypes.size = [.bool true] := by rw [hres]; rfl
  refine ⟨ds, [], before, [], before, [], hWh, ?_, ?_, ?_, ?_, fun _ => ⟨?_, [.lit (.bool true)] ++ ds, [], before, ?_, ?_⟩⟩
  · rw [hs, hrl, hvl]; exact hr _ _ _
  · rw [hs]; exact all_stays hl _ _ _ _ _ hts hA hsame (fun x hx => by simpa using hlt x hx)
  · rw [hs, hvars]; rfl
  · exact hb.frame _
  · exact ok_one hres rfl (okWide_bool_mk hub true)
  · rw [hrl, hvl, hvars]
    refine ⟨before, [], ⟨[], before, ?_, all_stays hl _ _ _ _ _ hts hA hsame (fun _ _ => rfl), rfl⟩, rfl, (List.append_nil _).symm, fun b o hx => ?_, hnd⟩
    · exact shut_bool hub true
    · rw [hb.frozen (p := ⟨b, o, none⟩) (hlt _ hx)]
      exact hfz b o hx
  · exact fun x hx _ => hx
end
end Go.Proofs.YtgnfaemnehmgcaaGreatDoor
