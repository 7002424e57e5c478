/- Contracts of layer 3: the modified variance and that of the time. -/
import Derived.Test.YtemblamamgfodaaGreatDoorStN
import Derived.Test.YtemblamamgfodaaGreatDoorStI
namespace Go.Proofs.YtemblamamgfodaaGreatDoor
open Go Go.RowKit Go.Shelf
attribute [local go_sem] Oper.semAt_some
set_option maxRecDepth 100000 in
set_option maxHeartbeats 4000000 in
theorem of_modified (tau : Int) (l : List Int) (p : Option Addr) (cap : Nat) (m : Int) (w : World) (hs : SerIn w l p) (hp : phasesOk l = true) (h128 : l.length ≤ 128) (hm : 1 ≤ m ∧ m ≤ 32) (ht : 1 ≤ tau ∧ tau ≤ 1000) (he : stepErr tau l m = 0) :
    Calls Tryz.prog 53 #[.agg #[.func (.func 98) #[] #[], .func (.func 99) #[] #[]], .agg #[.int .i64 tau, .slice p l.length cap], .int .i64 m] w fun e w' =>
      e = .returned (varVal (varE (sumsL l hp m.toNat) (divMod m tau))) ∧ Below w.heap.size w w' := by
  obtain ⟨M, rfl⟩ : ∃ M : Nat, m = M := ⟨m.toNat, by omega⟩
  rw [Int.toNat_natCast]
  refine (callsIn_wide (n := 9)).1 ?_
  have hro : Fence.wide.round = none := rfl
  have a0 := below_alloc (below_alloc (below_alloc (Below.refl w.heap.size w) (.cells #[.func (.func 98) #[] #[], .func (.func 99) #[] #[]] 131)) (.cells #[.int .i64 tau, .slice p l.length cap] 56)) (.cells #[.int .i64 0, .int .i64 0] 58)
  have HB0 := Lib.hid (OfBox.start w (.func (.func 98) #[] #[]) (.func (.func 99) #[] #[]) tau (.slice p l.length cap))
  generalize hW0 : ((w.alloc (.cells #[.func (.func 98) #[] #[], .func (.func 99) #[] #[]] 131)).alloc (.cells #[.int .i64 tau, .slice p l.length cap] 56)).alloc (.cells #[.int .i64 0, .int .i64 0] 58) = W0 at *
  have HC := Lib.hid (checkStep_any tau l p cap M W0 (hs.below a0))
  have HS := Lib.hid (hs.below a0)
  have A0 := Lib.hid a0
  have HS0 := Lib.hid hs
  have HW := Lib.hid hW0
  obtain ⟨c0, c1, c2, c3, -⟩ := id HB0.out
  clear hs a0
  refine callsIn_of_wp_marks Tryz.func53 rfl trivial ?_ hro
  simp only [Tryz.ntmps53, List.size_toArray, List.length_cons, List.length_nil, Nat.reduceAdd, Nat.reduceSub, Array.replicate_succ, Array.replicate_zero, List.push_toArray, List.append_toArray, List.nil_append, List.cons_append]
  gi_wp2
  refine ⟨trivial, (callsIn_wide.2 HC.out).mono ?_⟩
  rintro e w1 ⟨rfl, hb⟩
  rw [he]
  have HB1 := Lib.hid (HB0.out.below hb)
  have HS1 := Lib.hid (HS.out.below hb)
  have A1 := Lib.hid (A0.out.trans (hb.mono A0.out.size))
  have hz := cell_lt HB1.out.f0
  have hz1 := cell_lt HB1.out.s0
  have hz2 := cell_lt HB1.out.r0
  obtain ⟨c0, c1, c2, c3, c4, c5, c6, c7⟩ := id HB1.out
  clear hb
  gi_wp2
  have b2 : Below w1.heap.size w1 ((w1.alloc (.cells #[.int .i64 0] 3)).alloc (.cells #[.int .i64 0] 3)) := below_alloc (below_alloc (Below.refl _ _) _) _
  have HG := Lib.hid (sums_gives tau l p cap M _ (HS1.out.below b2) hp h128 (by omega))
  refine ⟨trivial, (callsIn_wide.2 HG.out).mono ?_⟩
  rintro e w3 ⟨lb, rfl, hb3, hseq⟩
  have hO := (HB1.out.below b2).below hb3
  have hA : Below w.heap.size w w3 := A1.out.trans ((b2.mono A1.out.size).trans (hb3.mono (Nat.le_trans A1.out.size b2.size)))
  have s0 : w3.cell? ⟨w1.heap.size, 0, none⟩ = some (.int .i64 0) := cell_below hb3 (by simp)
  have s1 : w3.cell? ⟨w1.heap.size + 1, 0, none⟩ = some (.int .i64 0) := cell_below hb3 (by simp)
  have s2 : w3.frozen? ⟨w1.heap.size, 0, none⟩ = false := (hb3.frozen (p := ⟨w1.heap.size, 0, none⟩) (by simp; omega)).trans (by simp)
  have s3 : w3.frozen? ⟨w1.heap.size + 1, 0, none⟩ = false := (hb3.frozen (p := ⟨w1.heap.size + 1, 0, none⟩) (by simp)).trans (by simp)
  clear c0 c1 c2 c3 c4 c5 c6 c7 hz hz1 hz2 HG hb3 b2
  have hAt : OfAt w w1.heap.size (.func (.func 98) #[] #[]) (.func (.func 99) #[] #[]) tau (.slice p l.length cap) (sqSum []) (([] : List SInt).length : Nat) w3 := ⟨hO, s0, s2, s1, s3, hA⟩
  have hS : w.heap.size + 2 < w1.heap.size := cell_lt HB1.out.r0
  have HX := Lib.hid (show (sumsL l hp M).length ≤ 128 from sumsL_len l hp M h128 (by omega))
  obtain ⟨xs, hxs⟩ : ∃ xs, xs = sumsL l hp M := ⟨_, rfl⟩
  rw [← hxs] at HX hseq
  have HXS := Lib.hid hxs
  clear hxs
  clear s0 s1 s2 s3 hO HB0 HC HS HB1 HS1 A1 A0 HW hA
  gi_wp2
  refine wpIn_rangeFunc_ownF hro (by decide) (gf := 142) (lb := lb) rfl trivial (enters_of Tryz.func142 (by kernel_rfl) rfl)
    (hseq 8 (by decide)) (fun h k => h.trans k) (StayC.putObj) (Below.refl _ _) (fun _ => rfl)
    (fun pre W => OfAt w w1.heap.size (.func (.func 98) #[] #[]) (.func (.func 99) #[] #[]) tau (.slice p l.length cap) (sqSum pre) (pre.length : Nat) W)
    (fun _ _ _ => False) (OfAt.own hAt.below.size) (fun _ _ _ _ _ hs _ _ => hs) hAt
    (fun d => { tmps := #[.agg #[.func (.func 98) #[] #[], .func (.func 99) #[] #[]], .agg #[.int .i64 tau, .slice p l.length cap], .int .i64 M, .pointer (some ⟨w.heap.size, 0, none⟩), .pointer (some ⟨w.heap.size + 1, 0, none⟩), undef, .pointer (some ⟨w.heap.size + 1 + 1, 0, none⟩), .int .i64 0, .int .i64 0, .pointer (some ⟨w1.heap.size, 0, none⟩), .pointer (some ⟨w1.heap.size + 1, 0, none⟩), .int .i64 d.1, .agg #[.int .i64 tau, .slice p l.length cap], .int .i64 M, .int .i64 0, .int .i64 0, .bool false, undef, undef, .pointer (some ⟨w.heap.size, 0, none⟩), .func (.func 98) #[] #[], .agg #[.int .i64 tau, .slice p l.length cap], .int .i64 M, .func (.func 142) #[] lb, .int .i64 d.1, undef, undef, undef, undef, undef, undef, undef, undef, undef, undef, undef, undef, undef, undef, undef, undef, undef, undef, undef, undef], defers := [] }) ?assign ?body ?done ?stop
  case assign =>
    intro lp x W K hK
    gi_wp2
    exact hK
  case body =>
    rintro lp pre d W hI hlen
    have hb1 := sqSum_bd pre
    have hb2 := sq_bd d
    have hb3 := HX.out
    have hb4 : pre.length < 128 := by omega
    have w1' : IntKind.i64.wrap (d.1 * d.1) = d.1 * d.1 := IntWalk.i64_in _ (by omega)
    have w2' : IntKind.i64.wrap (sqSum pre + d.1 * d.1) = sqSum pre + d.1 * d.1 := IntWalk.i64_in _ (by omega)
    obtain ⟨x0, x1, x2, x3, x4, x5⟩ := id hI
    gi_wp2
    have hst := hI.step hS (sqSum pre + d.1 * d.1) (pre.length + 1)
    refine ⟨(KeepsOthers.setCell _ _ _).trans (KeepsOthers.setCell _ _ _), ⟨by simp, fun k ob hk hob _ => ?_⟩, ?_⟩
    · simp at hk
      rw [Below.heap_setCell _ _ _ _ (by show k ≠ w1.heap.size + 1; omega), Below.heap_setCell _ _ _ _ (by show k ≠ w1.heap.size; omega)]
      exact hob
    · show OfAt w _ _ _ _ _ (sqSum (pre ++ [d])) (((pre ++ [d]).length : Nat) : Int) _
      rw [sqSum_snoc, show (((pre ++ [d]).length : Nat) : Int) = pre.length + 1 by simp]
      exact hst
  case done =>
    rintro D ys W hD hys hI hK
    simp only [hys] at hI
    clear hys
    by_cases hx : xs = []
    · rw [hx] at hI
      have HE := Lib.hid (show varE xs (divMod M tau) = _ from if_pos hx)
      obtain ⟨b0, b1, b2, b3, b4, b5, b6, b7⟩ := id hI.box
      obtain ⟨-, x1, x2, x3, x4, x5⟩ := id hI
      have hz0 : ((([] : List SInt).length : Nat) : Int) = 0 := rfl
      rw [hz0] at x3
      gi_wp2
      obtain ⟨r0, r1⟩ := set2 (.int .i64 0) (.int .i64 0) b4 b5
      have hKO := (KeepsOthers.setCell W ⟨w.heap.size + 1 + 1, 0, none⟩ (.int .i64 0)).trans (KeepsOthers.setCell _ ⟨w.heap.size + 1 + 1, 1, none⟩ (.int .i64 0))
      have hK2 := hKO.same D _ hK rfl
      have r0' := cell_kept r0 (grownBy_putObj' _ D (.deferred none)) (fun r e => by cases e; exact ⟨_, hK2, rfl⟩)
      have r1' := cell_kept r1 (grownBy_putObj' _ D (.deferred none)) (fun r e => by cases e; exact ⟨_, hK2, rfl⟩)
      refine ⟨by simp, .inl ⟨_, _, rfl, run_takeDeferred hK2, ?_⟩⟩
      refine ⟨.tuple #[.agg #[.int .i64 0, .int .i64 0], .int .i64 4], by simp [results, Tryz.results53, go_sem, r0', r1'], by rw [← HXS.out, HE.out]; rfl, ?_⟩
      have hb := (hI.below.setCell (p := ⟨w.heap.size + 1 + 1, 0, none⟩) (by show w.heap.size ≤ w.heap.size + 1 + 1; omega) (.int .i64 0)).setCell (p := ⟨w.heap.size + 1 + 1, 1, none⟩) (by show w.heap.size ≤ w.heap.size + 1 + 1; omega) (.int .i64 0)
      exact hb.trans (belowK_b (w := w) (Nat.le_refl _) _ D _ _ (Nat.le_trans hAt.below.size hD) hK2 rfl rfl)
    · have HE := Lib.hid (show varE xs (divMod M tau) = _ from if_neg hx)
      have hpos : 1 ≤ xs.length := List.length_pos_iff.2 hx
      have hdv := divMod_last M tau hm ht
      have hsq := sqSum_bd xs
      have hl128 := HX.out
      have hmu := mul_bd2 (x := (xs.length : Int)) (y := divMod M tau) (a := 128) (b := 2097152000000) (by omega) (by omega)
      have hmp : 0 < (xs.length : Int) * divMod M tau := Int.mul_pos (by omega) (by omega)
      have w1' : IntKind.i64.wrap ((xs.length : Int) * divMod M tau) = xs.length * divMod M tau := IntWalk.i64_in _ (by omega)
      have HLO := Lib.hid (fun W' => lowest_any (sqSum xs) (xs.length * divMod M tau) W' (by omega) (by omega))
      have HDV := Lib.hid (fun W' => divMod_any M tau W' hm ht)
      generalize hgd : divMod M tau = dv at *
      have HGD := Lib.hid hgd
      clear hgd
      have hne0 : ((xs.length : Int) == 0) = false := by simp; omega
      obtain ⟨b0, b1, b2, b3, b4, b5, b6, b7⟩ := id hI.box
      obtain ⟨-, x1, x2, x3, x4, x5⟩ := id hI
      have HI := Lib.hid hI
      clear hI hmu hmp hdv hsq x5
      gi_wp2
      refine wpIn_region_pre_lit 9 3 rfl (by kernel_rfl) (by kernel_rfl) (by kernel_rfl) (by kernel_rfl) rfl ?_
      simp only [List.take_succ_cons, List.take_zero]
      repeat (refine wpQuietIn_step (by first | exact fun _ _ _ _ => trivial | quiet_asked_in) (fun KQ hKQ => ?_); go_simp; first | (refine hKQ _ ?_; clear hKQ KQ) | (apply Exists.intro; refine ⟨fun _ => ?_, hKQ _ ?_⟩; ((gi_at_call 99; exact quiet_in (HDV.out _))); clear hKQ KQ))
      refine wpQuietIn_nil ?_
      intro _ hwq1
      obtain ⟨nq, hwq2⟩ := hwq1
      subst hwq2
      simp only [List.replicate_succ, List.replicate_zero, List.cons_append, List.nil_append]
      refine wpAnyIn_ready (rs := [9]) (by kernel_rfl) (by simp) (AllReadyIn.cons rfl (fun K' hKK => ?_) AllReadyIn.nil)
      go_simp
      refine ⟨trivial, (callsIn_wide.2 (HLO.out _)).mono ?_⟩
      rintro e w4 ⟨rfl, hb4⟩
      go_simp
      refine hKK _ _ ?_
      clear hKK
      have hB4 : OfAt w w1.heap.size (.func (.func 98) #[] #[]) (.func (.func 99) #[] #[]) tau (.slice p l.length cap) (sqSum xs) (xs.length : Nat) w4 := OfAt.later (W := W.drewN nq) (HI.out.drewN nq) hb4
      have hK4 : w4.heap[D]? = some (.deferred (some [])) := (hb4.block D (Array.getElem?_eq_some_iff.1 (show (W.drewN nq).heap[D]? = _ from hK)).1).trans hK
      clear b0 b1 b2 b3 b4 b5 b6 b7 x1 x2 x3 x4 hb4
      obtain ⟨b0, b1, b2, b3, b4, b5, b6, b7⟩ := id hB4.box
      refine wpAnyIn_ready (rs := [10]) (by kernel_rfl) (by simp) (AllReadyIn.cons rfl (fun K' hKK => ?_) AllReadyIn.nil)
      go_simp
      refine hKK _ _ ?_
      clear hKK
      refine wpAnyIn_ready (rs := [11]) (by kernel_rfl) (by simp) (AllReadyIn.cons rfl (fun K' hKK => ?_) AllReadyIn.nil)
      go_simp
      refine hKK _ _ ?_
      clear hKK
      refine wpAnyIn_done (by kernel_rfl) ?_ _
      gi_wp2
      obtain ⟨r0, r1⟩ := set2 (.int .i64 (lowN (sqSum xs) (xs.length * dv))) (.int .i64 (lowD (sqSum xs) (xs.length * dv))) b4 b5
      have hK2 := ((KeepsOthers.setCell w4 ⟨w.heap.size + 1 + 1, 0, none⟩ (.int .i64 (lowN (sqSum xs) (xs.length * dv)))).trans (KeepsOthers.setCell _ ⟨w.heap.size + 1 + 1, 1, none⟩ (.int .i64 (lowD (sqSum xs) (xs.length * dv))))).same D _ hK4 rfl
      have r0' := cell_kept r0 (grownBy_putObj' _ D (.deferred none)) (fun r e => by cases e; exact ⟨_, hK2, rfl⟩)
      have r1' := cell_kept r1 (grownBy_putObj' _ D (.deferred none)) (fun r e => by cases e; exact ⟨_, hK2, rfl⟩)
      refine ⟨by simp, .inl ⟨_, _, rfl, run_takeDeferred hK2, ?_⟩⟩
      refine ⟨.tuple #[.agg #[.int .i64 (lowN (sqSum xs) (xs.length * dv)), .int .i64 (lowD (sqSum xs) (xs.length * dv))], .int .i64 0], by simp [results, Tryz.results53, go_sem, r0', r1'], by rw [← HXS.out, HGD.out, HE.out]; rfl, ?_⟩
      have hb := (hB4.below.setCell (p := ⟨w.heap.size + 1 + 1, 0, none⟩) (by show w.heap.size ≤ w.heap.size + 1 + 1; omega) (.int .i64 (lowN (sqSum xs) (xs.length * dv)))).setCell (p := ⟨w.heap.size + 1 + 1, 1, none⟩) (by show w.heap.size ≤ w.heap.size + 1 + 1; omega) (.int .i64 (lowD (sqSum xs) (xs.length * dv)))
      exact hb.trans (belowK_b (w := w) (Nat.le_refl _) _ D _ _ (Nat.le_trans hAt.below.size hD) hK2 rfl rfl)
  case stop =>
    rintro D c pre W _ _ h _
    exact h.elim

set_option maxRecDepth 100000 in
set_option maxHeartbeats 4000000 in
theorem of_time (tau : Int) (l : List Int) (p : Option Addr) (cap : Nat) (m : Int) (w : World) (hs : SerIn w l p) (hp : phasesOk l = true) (h128 : l.length ≤ 128) (hm : 1 ≤ m ∧ m ≤ 32) (ht : 1 ≤ tau ∧ tau ≤ 1000) (he : stepErr tau l m = 0) :
    Calls Tryz.prog 53 #[.agg #[.func (.func 98) #[] #[], .func (.func 102) #[] #[]], .agg #[.int .i64 tau, .slice p l.length cap], .int .i64 m] w fun e w' =>
      e = .returned (varVal (varE (sumsL l hp m.toNat) (divTime m tau))) ∧ Below w.heap.size w w' := by
  obtain ⟨M, rfl⟩ : ∃ M : Nat, m = M := ⟨m.toNat, by omega⟩
  rw [Int.toNat_natCast]
  refine (callsIn_wide (n := 9)).1 ?_
  have hro : Fence.wide.round = none := rfl
  have a0 := below_alloc (below_alloc (below_alloc (Below.refl w.heap.size w) (.cells #[.func (.func 98) #[] #[], .func (.func 102) #[] #[]] 131)) (.cells #[.int .i64 tau, .slice p l.length cap] 56)) (.cells #[.int .i64 0, .int .i64 0] 58)
  have HB0 := Lib.hid (OfBox.start w (.func (.func 98) #[] #[]) (.func (.func 102) #[] #[]) tau (.slice p l.length cap))
  generalize hW0 : ((w.alloc (.cells #[.func (.func 98) #[] #[], .func (.func 102) #[] #[]] 131)).alloc (.cells #[.int .i64 tau, .slice p l.length cap] 56)).alloc (.cells #[.int .i64 0, .int .i64 0] 58) = W0 at *
  have HC := Lib.hid (checkStep_any tau l p cap M W0 (hs.below a0))
  have HS := Lib.hid (hs.below a0)
  have A0 := Lib.hid a0
  have HS0 := Lib.hid hs
  have HW := Lib.hid hW0
  obtain ⟨c0, c1, c2, c3, -⟩ := id HB0.out
  clear hs a0
  refine callsIn_of_wp_marks Tryz.func53 rfl trivial ?_ hro
  simp only [Tryz.ntmps53, List.size_toArray, List.length_cons, List.length_nil, Nat.reduceAdd, Nat.reduceSub, Array.replicate_succ, Array.replicate_zero, List.push_toArray, List.append_toArray, List.nil_append, List.cons_append]
  gi_wp2
  refine ⟨trivial, (callsIn_wide.2 HC.out).mono ?_⟩
  rintro e w1 ⟨rfl, hb⟩
  rw [he]
  have HB1 := Lib.hid (HB0.out.below hb)
  have HS1 := Lib.hid (HS.out.below hb)
  have A1 := Lib.hid (A0.out.trans (hb.mono A0.out.size))
  have hz := cell_lt HB1.out.f0
  have hz1 := cell_lt HB1.out.s0
  have hz2 := cell_lt HB1.out.r0
  obtain ⟨c0, c1, c2, c3, c4, c5, c6, c7⟩ := id HB1.out
  clear hb
  gi_wp2
  have b2 : Below w1.heap.size w1 ((w1.alloc (.cells #[.int .i64 0] 3)).alloc (.cells #[.int .i64 0] 3)) := below_alloc (below_alloc (Below.refl _ _) _) _
  have HG := Lib.hid (sums_gives tau l p cap M _ (HS1.out.below b2) hp h128 (by omega))
  refine ⟨trivial, (callsIn_wide.2 HG.out).mono ?_⟩
  rintro e w3 ⟨lb, rfl, hb3, hseq⟩
  have hO := (HB1.out.below b2).below hb3
  have hA : Below w.heap.size w w3 := A1.out.trans ((b2.mono A1.out.size).trans (hb3.mono (Nat.le_trans A1.out.size b2.size)))
  have s0 : w3.cell? ⟨w1.heap.size, 0, none⟩ = some (.int .i64 0) := cell_below hb3 (by simp)
  have s1 : w3.cell? ⟨w1.heap.size + 1, 0, none⟩ = some (.int .i64 0) := cell_below hb3 (by simp)
  have s2 : w3.frozen? ⟨w1.heap.size, 0, none⟩ = false := (hb3.frozen (p := ⟨w1.heap.size, 0, none⟩) (by simp; omega)).trans (by simp)
  have s3 : w3.frozen? ⟨w1.heap.size + 1, 0, none⟩ = false := (hb3.frozen (p := ⟨w1.heap.size + 1, 0, none⟩) (by simp)).trans (by simp)
  clear c0 c1 c2 c3 c4 c5 c6 c7 hz hz1 hz2 HG hb3 b2
  have hAt : OfAt w w1.heap.size (.func (.func 98) #[] #[]) (.func (.func 102) #[] #[]) tau (.slice p l.length cap) (sqSum []) (([] : List SInt).length : Nat) w3 := ⟨hO, s0, s2, s1, s3, hA⟩
  have hS : w.heap.size + 2 < w1.heap.size := cell_lt HB1.out.r0
  have HX := Lib.hid (show (sumsL l hp M).length ≤ 128 from sumsL_len l hp M h128 (by omega))
  obtain ⟨xs, hxs⟩ : ∃ xs, xs = sumsL l hp M := ⟨_, rfl⟩
  rw [← hxs] at HX hseq
  have HXS := Lib.hid hxs
  clear hxs
  clear s0 s1 s2 s3 hO HB0 HC HS HB1 HS1 A1 A0 HW hA
  gi_wp2
  refine wpIn_rangeFunc_ownF hro (by decide) (gf := 142) (lb := lb) rfl trivial (enters_of Tryz.func142 (by kernel_rfl) rfl)
    (hseq 8 (by decide)) (fun h k => h.trans k) (StayC.putObj) (Below.refl _ _) (fun _ => rfl)
    (fun pre W => OfAt w w1.heap.size (.func (.func 98) #[] #[]) (.func (.func 102) #[] #[]) tau (.slice p l.length cap) (sqSum pre) (pre.length : Nat) W)
    (fun _ _ _ => False) (OfAt.own hAt.below.size) (fun _ _ _ _ _ hs _ _ => hs) hAt
    (fun d => { tmps := #[.agg #[.func (.func 98) #[] #[], .func (.func 102) #[] #[]], .agg #[.int .i64 tau, .slice p l.length cap], .int .i64 M, .pointer (some ⟨w.heap.size, 0, none⟩), .pointer (some ⟨w.heap.size + 1, 0, none⟩), undef, .pointer (some ⟨w.heap.size + 1 + 1, 0, none⟩), .int .i64 0, .int .i64 0, .pointer (some ⟨w1.heap.size, 0, none⟩), .pointer (some ⟨w1.heap.size + 1, 0, none⟩), .int .i64 d.1, .agg #[.int .i64 tau, .slice p l.length cap], .int .i64 M, .int .i64 0, .int .i64 0, .bool false, undef, undef, .pointer (some ⟨w.heap.size, 0, none⟩), .func (.func 98) #[] #[], .agg #[.int .i64 tau, .slice p l.length cap], .int .i64 M, .func (.func 142) #[] lb, .int .i64 d.1, undef, undef, undef, undef, undef, undef, undef, undef, undef, undef, undef, undef, undef, undef, undef, undef, undef, undef, undef, undef], defers := [] }) ?assign ?body ?done ?stop
  case assign =>
    intro lp x W K hK
    gi_wp2
    exact hK
  case body =>
    rintro lp pre d W hI hlen
    have hb1 := sqSum_bd pre
    have hb2 := sq_bd d
    have hb3 := HX.out
    have hb4 : pre.length < 128 := by omega
    have w1' : IntKind.i64.wrap (d.1 * d.1) = d.1 * d.1 := IntWalk.i64_in _ (by omega)
    have w2' : IntKind.i64.wrap (sqSum pre + d.1 * d.1) = sqSum pre + d.1 * d.1 := IntWalk.i64_in _ (by omega)
    obtain ⟨x0, x1, x2, x3, x4, x5⟩ := id hI
    gi_wp2
    have hst := hI.step hS (sqSum pre + d.1 * d.1) (pre.length + 1)
    refine ⟨(KeepsOthers.setCell _ _ _).trans (KeepsOthers.setCell _ _ _), ⟨by simp, fun k ob hk hob _ => ?_⟩, ?_⟩
    · simp at hk
      rw [Below.heap_setCell _ _ _ _ (by show k ≠ w1.heap.size + 1; omega), Below.heap_setCell _ _ _ _ (by show k ≠ w1.heap.size; omega)]
      exact hob
    · show OfAt w _ _ _ _ _ (sqSum (pre ++ [d])) (((pre ++ [d]).length : Nat) : Int) _
      rw [sqSum_snoc, show (((pre ++ [d]).length : Nat) : Int) = pre.length + 1 by simp]
      exact hst
  case done =>
    rintro D ys W hD hys hI hK
    simp only [hys] at hI
    clear hys
    by_cases hx : xs = []
    · rw [hx] at hI
      have HE := Lib.hid (show varE xs (divTime M tau) = _ from if_pos hx)
      obtain ⟨b0, b1, b2, b3, b4, b5, b6, b7⟩ := id hI.box
      obtain ⟨-, x1, x2, x3, x4, x5⟩ := id hI
      have hz0 : ((([] : List SInt).length : Nat) : Int) = 0 := rfl
      rw [hz0] at x3
      gi_wp2
      obtain ⟨r0, r1⟩ := set2 (.int .i64 0) (.int .i64 0) b4 b5
      have hKO := (KeepsOthers.setCell W ⟨w.heap.size + 1 + 1, 0, none⟩ (.int .i64 0)).trans (KeepsOthers.setCell _ ⟨w.heap.size + 1 + 1, 1, none⟩ (.int .i64 0))
      have hK2 := hKO.same D _ hK rfl
      have r0' := cell_kept r0 (grownBy_putObj' _ D (.deferred none)) (fun r e => by cases e; exact ⟨_, hK2, rfl⟩)
      have r1' := cell_kept r1 (grownBy_putObj' _ D (.deferred none)) (fun r e => by cases e; exact ⟨_, hK2, rfl⟩)
      refine ⟨by simp, .inl ⟨_, _, rfl, run_takeDeferred hK2, ?_⟩⟩
      refine ⟨.tuple #[.agg #[.int .i64 0, .int .i64 0], .int .i64 4], by simp [results, Tryz.results53, go_sem, r0', r1'], by rw [← HXS.out, HE.out]; rfl, ?_⟩
      have hb := (hI.below.setCell (p := ⟨w.heap.size + 1 + 1, 0, none⟩) (by show w.heap.size ≤ w.heap.size + 1 + 1; omega) (.int .i64 0)).setCell (p := ⟨w.heap.size + 1 + 1, 1, none⟩) (by show w.heap.size ≤ w.heap.size + 1 + 1; omega) (.int .i64 0)
      exact hb.trans (belowK_b (w := w) (Nat.le_refl _) _ D _ _ (Nat.le_trans hAt.below.size hD) hK2 rfl rfl)
    · have HE := Lib.hid (show varE xs (divTime M tau) = _ from if_neg hx)
      have hpos : 1 ≤ xs.length := List.length_pos_iff.2 hx
      have hdv := divTime_last M tau hm ht
      have hsq := sqSum_bd xs
      have hl128 := HX.out
      have hmu := mul_bd2 (x := (xs.length : Int)) (y := divTime M tau) (a := 128) (b := 6144) (by omega) (by omega)
      have hmp : 0 < (xs.length : Int) * divTime M tau := Int.mul_pos (by omega) (by omega)
      have w1' : IntKind.i64.wrap ((xs.length : Int) * divTime M tau) = xs.length * divTime M tau := IntWalk.i64_in _ (by omega)
      have HLO := Lib.hid (fun W' => lowest_any (sqSum xs) (xs.length * divTime M tau) W' (by omega) (by omega))
      have HDV := Lib.hid (fun W' => divTime_any M tau W' hm ht)
      generalize hgd : divTime M tau = dv at *
      have HGD := Lib.hid hgd
      clear hgd
      have hne0 : ((xs.length : Int) == 0) = false := by simp; omega
      obtain ⟨b0, b1, b2, b3, b4, b5, b6, b7⟩ := id hI.box
      obtain ⟨-, x1, x2, x3, x4, x5⟩ := id hI
      have HI := Lib.hid hI
      clear hI hmu hmp hdv hsq x5
      gi_wp2
      refine wpIn_region_pre_lit 9 3 rfl (by kernel_rfl) (by kernel_rfl) (by kernel_rfl) (by kernel_rfl) rfl ?_
      simp only [List.take_succ_cons, List.take_zero]
      repeat (refine wpQuietIn_step (by first | exact fun _ _ _ _ => trivial | quiet_asked_in) (fun KQ hKQ => ?_); go_simp; first | (refine hKQ _ ?_; clear hKQ KQ) | (apply Exists.intro; refine ⟨fun _ => ?_, hKQ _ ?_⟩; ((gi_at_call 102; exact quiet_in (HDV.out _))); clear hKQ KQ))
      refine wpQuietIn_nil ?_
      intro _ hwq1
      obtain ⟨nq, hwq2⟩ := hwq1
      subst hwq2
      simp only [List.replicate_succ, List.replicate_zero, List.cons_append, List.nil_append]
      refine wpAnyIn_ready (rs := [9]) (by kernel_rfl) (by simp) (AllReadyIn.cons rfl (fun K' hKK => ?_) AllReadyIn.nil)
      go_simp
      refine ⟨trivial, (callsIn_wide.2 (HLO.out _)).mono ?_⟩
      rintro e w4 ⟨rfl, hb4⟩
      go_simp
      refine hKK _ _ ?_
      clear hKK
      have hB4 : OfAt w w1.heap.size (.func (.func 98) #[] #[]) (.func (.func 102) #[] #[]) tau (.slice p l.length cap) (sqSum xs) (xs.length : Nat) w4 := OfAt.later (W := W.drewN nq) (HI.out.drewN nq) hb4
      have hK4 : w4.heap[D]? = some (.deferred (some [])) := (hb4.block D (Array.getElem?_eq_some_iff.1 (show (W.drewN nq).heap[D]? = _ from hK)).1).trans hK
      clear b0 b1 b2 b3 b4 b5 b6 b7 x1 x2 x3 x4 hb4
      obtain ⟨b0, b1, b2, b3, b4, b5, b6, b7⟩ := id hB4.box
      refine wpAnyIn_ready (rs := [10]) (by kernel_rfl) (by simp) (AllReadyIn.cons rfl (fun K' hKK => ?_) AllReadyIn.nil)
      go_simp
      refine hKK _ _ ?_
      clear hKK
      refine wpAnyIn_ready (rs := [11]) (by kernel_rfl) (by simp) (AllReadyIn.cons rfl (fun K' hKK => ?_) AllReadyIn.nil)
      go_simp
      refine hKK _ _ ?_
      clear hKK
      refine wpAnyIn_done (by kernel_rfl) ?_ _
      gi_wp2
      obtain ⟨r0, r1⟩ := set2 (.int .i64 (lowN (sqSum xs) (xs.length * dv))) (.int .i64 (lowD (sqSum xs) (xs.length * dv))) b4 b5
      have hK2 := ((KeepsOthers.setCell w4 ⟨w.heap.size + 1 + 1, 0, none⟩ (.int .i64 (lowN (sqSum xs) (xs.length * dv)))).trans (KeepsOthers.setCell _ ⟨w.heap.size + 1 + 1, 1, none⟩ (.int .i64 (lowD (sqSum xs) (xs.length * dv))))).same D _ hK4 rfl
      have r0' := cell_kept r0 (grownBy_putObj' _ D (.deferred none)) (fun r e => by cases e; exact ⟨_, hK2, rfl⟩)
      have r1' := cell_kept r1 (grownBy_putObj' _ D (.deferred none)) (fun r e => by cases e; exact ⟨_, hK2, rfl⟩)
      refine ⟨by simp, .inl ⟨_, _, rfl, run_takeDeferred hK2, ?_⟩⟩
      refine ⟨.tuple #[.agg #[.int .i64 (lowN (sqSum xs) (xs.length * dv)), .int .i64 (lowD (sqSum xs) (xs.length * dv))], .int .i64 0], by simp [results, Tryz.results53, go_sem, r0', r1'], by rw [← HXS.out, HGD.out, HE.out]; rfl, ?_⟩
      have hb := (hB4.below.setCell (p := ⟨w.heap.size + 1 + 1, 0, none⟩) (by show w.heap.size ≤ w.heap.size + 1 + 1; omega) (.int .i64 (lowN (sqSum xs) (xs.length * dv)))).setCell (p := ⟨w.heap.size + 1 + 1, 1, none⟩) (by show w.heap.size ≤ w.heap.size + 1 + 1; omega) (.int .i64 (lowD (sqSum xs) (xs.length * dv)))
      exact hb.trans (belowK_b (w := w) (Nat.le_refl _) _ D _ _ (Nat.le_trans hAt.below.size hD) hK2 rfl rfl)
  case stop =>
    rintro D c pre W _ _ h _
    exact h.elim

end Go.Proofs.YtemblamamgfodaaGreatDoor
