/-  -/
import Derived.Test.YtgnfaemnehmgcaaGreatDoorQ41
import Derived.Test.YtgnfaemnehmgcaaGreatDoorQ30
import Derived.Test.YtgnfaemnehmgcaaGreatDoorQ11
import Derived.Test.YtgnfaemnehmgcaaGreatDoorQ06
import Derived.Test.YtgnfaemnehmgcaaGreatDoorQ16
import Derived.Test.YtgnfaemnehmgcaaGreatDoorQ12
namespace Go.Proofs.YtgnfaemnehmgcaaGreatDoor.Cal
open Go Go.RowKit Go.Shelf
attribute [local go_sem] Oper.semAt_some
theorem two_f (w : World) (x y : Int) (t : TypeId) : FnIn (w.alloc (.cells #[.int .i64 x, .int .i64 y] t)) (fun i => if i = 0 then x else y) 2 (some ⟨w.heap.size, 0, none⟩) :=
  .inr ⟨_, _, rfl, fun i hi => by
    rcases (by omega : i = 0 ∨ i = 1) with rfl | rfl
    · simp
    · simp⟩
theorem or_two (x y : Int) : orF (fun i => if i = 0 then x else y) 2 = if x = 0 then y else x := by
  simp [orF]
theorem loc_start (w : World) (b u : Int) (n c : Nat) (p : Option Addr) (o : Int) (q cz : Nat) (pz : Option Addr) :
    ∃ W1, ((w.alloc (.cells #[.int .i64 b, .slice p n c, .int .i64 u] 24)).alloc (.cells #[.int .i64 o, .slice pz q cz] 38)).alloc (.cells #[.int .i64 0, .int .i64 0, .int .i64 0, .int .i64 0, .int .i64 0, .int .i64 0] 26) = W1 ∧
      TBox W1 w.heap.size b u n c p ∧ ZBox W1 (w.heap.size + 1) o q cz pz ∧ Res6 W1 (w.heap.size + 1 + 1) ∧ Below w.heap.size w W1 := by
  refine ⟨_, rfl, ?_⟩
  have b1 := below_alloc (Below.refl w.heap.size w) (.cells #[.int .i64 b, .slice p n c, .int .i64 u] 24)
  have h1 := TBox.new w b u n c p 24
  have e1 : (w.alloc (.cells #[.int .i64 b, .slice p n c, .int .i64 u] 24)).heap.size = w.heap.size + 1 := by simp
  generalize w.alloc (.cells #[.int .i64 b, .slice p n c, .int .i64 u] 24) = W1 at *
  have b2 := below_alloc (Below.refl W1.heap.size W1) (.cells #[.int .i64 o, .slice pz q cz] 38)
  have h2 := ZBox.new W1 o q cz pz 38
  have e2 : (W1.alloc (.cells #[.int .i64 o, .slice pz q cz] 38)).heap.size = w.heap.size + 1 + 1 := by simp [e1]
  rw [e1] at h2
  have h1' := h1.below b2
  have b2' := bt b1 b2
  generalize W1.alloc (.cells #[.int .i64 o, .slice pz q cz] 38) = W2 at *
  have b3 := below_alloc (Below.refl W2.heap.size W2) (.cells #[.int .i64 0, .int .i64 0, .int .i64 0, .int .i64 0, .int .i64 0, .int .i64 0] 26)
  have h3 := Res6.new W2 (.int .i64 0) (.int .i64 0) (.int .i64 0) (.int .i64 0) (.int .i64 0) (.int .i64 0) 26
  rw [e2] at h3
  exact ⟨h1'.below b3, h2.below b3, h3, bt b2' b3⟩
set_option maxRecDepth 100000 in
set_option maxHeartbeats 4000000 in
theorem Local_no {b u : Int} {n : Nat} {f : Nat → Int × Int} {o : Int} {q : Nat} {g : Nat → Int × Int} (s : Int) (he : (if tabE b u n f = 0 then zoneE o q g else tabE b u n f) ≠ 0) (c : Nat) (p : Option Addr) (cz : Nat) (pz : Option Addr) (w : World) (hw : Mon w) (hs : LpIn w f n p) (hs2 : LpIn w g q pz) (hn : n ≤ 1000000000000) (hq : q ≤ 1000000000000) (_hc : n ≤ c) (_hcm : c ≤ maxLen) :
    Calls Tryz.prog 62 #[.agg #[.int .i64 b, .slice p n c, .int .i64 u], .agg #[.int .i64 o, .slice pz q cz], .int .i64 s] w fun e w' => e = .returned (.tuple #[.agg #[.int .i64 0, .int .i64 0, .int .i64 0, .int .i64 0, .int .i64 0, .int .i64 0], .int .i64 0, .int .i64 (if tabE b u n f = 0 then zoneE o q g else tabE b u n f)]) ∧ Below w.heap.size w w' := by
  obtain ⟨W1, hW1, hx, hy, hr, A0⟩ := loc_start w b u n c p o q cz pz
  have HX := Lib.hid hx
  have HY := Lib.hid hy
  have HR := Lib.hid hr
  have A0 := Lib.hid A0
  have HW := Lib.hid (hw.below A0.out)
  have HS := Lib.hid (hs.below A0.out)
  have HS2 := Lib.hid (hs2.below A0.out)
  have HCK := Lib.hid (show ∀ Z, Below W1.heap.size W1 Z → _ from fun Z hZ => Calls.bel hZ (Check_any b u n c p f Z (HW.out.below hZ) (HS.out.below hZ) hn))
  have HCZ := Lib.hid (show ∀ Z, Below W1.heap.size W1 Z → _ from fun Z hZ => Calls.bel hZ (CheckZone_any o q cz pz g Z (HS2.out.below hZ) hq))
  obtain ⟨tE, htE⟩ : ∃ tE, tabE b u n f = tE := ⟨_, rfl⟩
  obtain ⟨zE, hzE⟩ : ∃ zE, zoneE o q g = zE := ⟨_, rfl⟩
  rw [htE] at HCK
  rw [hzE] at HCZ
  rw [htE, hzE] at he ⊢
  obtain ⟨ee, hee⟩ : ∃ ee, (if tE = 0 then zE else tE) = ee := ⟨_, rfl⟩
  rw [hee] at he ⊢
  have HEE := Lib.hid hee
  clear hee htE hzE hn hq
  clear hx hy hr hw hs hs2
  go_enter Tryz.func62, Tryz.ntmps62
  go_upto_region 1 with fail
  clear hW1
  have HRT := Lib.hid (show ∀ Z, Below W1.heap.size W1 Z → TBox Z w.heap.size b u n c p from fun Z hZ => HX.out.below hZ)
  have HRZ := Lib.hid (show ∀ Z, Below W1.heap.size W1 Z → ZBox Z (w.heap.size + 1) o q cz pz from fun Z hZ => HY.out.below hZ)
  refine (wpIn_wide (n := 9)).1 ?_
  refine wpIn_region_cls (fun Z => Below W1.heap.size W1 Z) 4 3 (Below.drew (Below.refl _ _)) (by kernel_rfl) (by kernel_rfl) (by kernel_rfl) (by kernel_rfl) (by kernel_rfl) rfl ?_
  simp only [List.take_succ_cons, List.take_zero]
  refine wpQuietIn_step (fun _ _ _ _ => trivial) (fun KQ hKQ => ?_)
  rw [if_pos (by rfl)]
  refine ⟨.agg #[.int .i64 b, .slice p n c, .int .i64 u], fun Z hZ => ?_, hKQ _ ?_⟩
  · obtain ⟨q0, q1, q2⟩ := HRT.out Z hZ; have qz := cell_lt q0; unfold Oper.quietAtIn; go_simp
  clear hKQ KQ
  simp only [Act.put, List.setIfInBounds_toArray, List.set_cons_zero, List.set_cons_succ]
  refine wpQuietIn_step (fun _ _ _ _ => trivial) (fun KQ hKQ => ?_)
  rw [if_pos (by rfl)]
  refine ⟨.int .i64 tE, fun Z hZ => ?_, hKQ _ ?_⟩
  · unfold Oper.quietAtIn; go_simp; exact callsIn_wide.2 (HCK.out Z hZ)
  clear hKQ KQ
  simp only [Act.put, List.setIfInBounds_toArray, List.set_cons_zero, List.set_cons_succ]
  refine wpQuietIn_step (fun _ _ _ _ => trivial) (fun KQ hKQ => ?_)
  rw [if_pos (by rfl)]
  refine ⟨.agg #[.int .i64 o, .slice pz q cz], fun Z hZ => ?_, hKQ _ ?_⟩
  · obtain ⟨q0, q1⟩ := HRZ.out Z hZ; have qz := cell_lt q0; unfold Oper.quietAtIn; go_simp
  clear hKQ KQ
  simp only [Act.put, List.setIfInBounds_toArray, List.set_cons_zero, List.set_cons_succ]
  refine wpQuietIn_step (fun _ _ _ _ => trivial) (fun KQ hKQ => ?_)
  rw [if_pos (by rfl)]
  refine ⟨.int .i64 zE, fun Z hZ => ?_, hKQ _ ?_⟩
  · unfold Oper.quietAtIn; go_simp; exact callsIn_wide.2 (HCZ.out Z hZ)
  clear hKQ KQ
  simp only [Act.put, List.setIfInBounds_toArray, List.set_cons_zero, List.set_cons_succ]
  refine wpQuietIn_nil ?_
  intro Z hZ
  simp only [List.replicate_succ, List.replicate_zero, List.cons_append, List.nil_append]
  have hbe := below_alloc (Below.refl Z.heap.size Z) (.cells #[.int .i64 tE, .int .i64 zE] 50)
  have hor := or_any _ 2 2 _ _ (by decide) (two_f Z tE zE 50)
  rw [or_two, HEE.out] at hor
  have HOR := Lib.hid hor
  have HBE := Lib.hid (bt hZ hbe)
  clear hor hbe
  refine wpAnyIn_ready (rs := [4]) (by kernel_rfl) (by simp) (AllReadyIn.cons rfl (fun K' hKK => ?_) AllReadyIn.nil)
  go_simp
  refine hKK _ _ ?_
  clear hKK
  refine wpAnyIn_ready (rs := [5]) (by kernel_rfl) (by simp) (AllReadyIn.cons rfl (fun K' hKK => ?_) AllReadyIn.nil)
  go_simp
  refine ⟨trivial, (callsIn_wide.2 HOR.out).mono ?_⟩
  rintro e Z5 ⟨rfl, hb5⟩
  go_simp
  refine hKK _ _ ?_
  clear hKK
  refine wpAnyIn_ready (rs := [6]) (by kernel_rfl) (by simp) (AllReadyIn.cons rfl (fun K' hKK => ?_) AllReadyIn.nil)
  go_simp
  refine hKK _ _ ?_
  clear hKK
  refine wpAnyIn_done (by kernel_rfl) ?_ _
  have HB5 := Lib.hid (bt HBE.out hb5)
  clear hb5 hZ HOR HBE HCK HCZ HRT HRZ
  obtain ⟨⟨q0, r0⟩, ⟨q1, r1⟩, ⟨q2, r2⟩, ⟨q3, r3⟩, ⟨q4, r4⟩, ⟨q5, r5⟩, rz⟩ := HR.out.below (HB5.out)
  have z0 := rz 0
  have z1 := rz 1
  have z2 := rz 2
  have z3 := rz 3
  have z4 := rz 4
  have z5 := rz 5
  have zr := cell_lt r0
  clear rz
  go_wp2
  refine bodyPost_ret (v := .tuple #[.agg #[.int .i64 0, .int .i64 0, .int .i64 0, .int .i64 0, .int .i64 0, .int .i64 0], .int .i64 0, .int .i64 ee]) (by simp [results, Tryz.results62, go_sem, r0, r1, r2, r3, r4, r5]) rfl ⟨rfl, ?_⟩
  exact (((((((bt A0.out (HB5.out)).setCell (p := ⟨w.heap.size + 1 + 1, _, none⟩) (show w.heap.size ≤ w.heap.size + 1 + 1 by omega) _).setCell (p := ⟨w.heap.size + 1 + 1, _, none⟩) (show w.heap.size ≤ w.heap.size + 1 + 1 by omega) _).setCell (p := ⟨w.heap.size + 1 + 1, _, none⟩) (show w.heap.size ≤ w.heap.size + 1 + 1 by omega) _).setCell (p := ⟨w.heap.size + 1 + 1, _, none⟩) (show w.heap.size ≤ w.heap.size + 1 + 1 by omega) _).setCell (p := ⟨w.heap.size + 1 + 1, _, none⟩) (show w.heap.size ≤ w.heap.size + 1 + 1 by omega) _).setCell (p := ⟨w.heap.size + 1 + 1, _, none⟩) (show w.heap.size ≤ w.heap.size + 1 + 1 by omega) _)
set_option maxRecDepth 100000 in
set_option maxHeartbeats 4000000 in
theorem Local_rng {b u : Int} {n : Nat} {f : Nat → Int × Int} {o : Int} {q : Nat} {g : Nat → Int × Int} (s : Int) (ht : tabE b u n f = 0) (hze : zoneE o q g = 0) (_hgt : ∀ i, i < q → (g i).1 ≤ 9223372036854775807) (hd : inB s (beginS f n u) = false) (c : Nat) (p : Option Addr) (cz : Nat) (pz : Option Addr) (w : World) (hw : Mon w) (hs : LpIn w f n p) (hs2 : LpIn w g q pz) (hn : n ≤ 1000000000000) (hq : q ≤ 1000000000000) (hc : n ≤ c) (hcm : c ≤ maxLen) :
    Calls Tryz.prog 62 #[.agg #[.int .i64 b, .slice p n c, .int .i64 u], .agg #[.int .i64 o, .slice pz q cz], .int .i64 s] w fun e w' => e = .returned (.tuple #[.agg #[.int .i64 0, .int .i64 0, .int .i64 0, .int .i64 0, .int .i64 0, .int .i64 0], .int .i64 0, .int .i64 6]) ∧ Below w.heap.size w w' := by
  obtain ⟨W1, hW1, hx, hy, hr, A0⟩ := loc_start w b u n c p o q cz pz
  have HX := Lib.hid hx
  have HY := Lib.hid hy
  have HR := Lib.hid hr
  have A0 := Lib.hid A0
  have HW := Lib.hid (hw.below A0.out)
  have HS := Lib.hid (hs.below A0.out)
  have HS2 := Lib.hid (hs2.below A0.out)
  have HCK := Lib.hid (show ∀ Z, Below W1.heap.size W1 Z → _ from fun Z hZ => Calls.bel hZ (Check_any b u n c p f Z (HW.out.below hZ) (HS.out.below hZ) hn))
  have HCZ := Lib.hid (show ∀ Z, Below W1.heap.size W1 Z → _ from fun Z hZ => Calls.bel hZ (CheckZone_any o q cz pz g Z (HS2.out.below hZ) hq))
  obtain ⟨tE, htE⟩ : ∃ tE, tabE b u n f = tE := ⟨_, rfl⟩
  obtain ⟨zE, hzE⟩ : ∃ zE, zoneE o q g = zE := ⟨_, rfl⟩
  rw [htE] at HCK
  rw [hzE] at HCZ
  have HEE := Lib.hid (show (if tE = 0 then zE else tE) = 0 by rw [← htE, ← hzE, ht, hze]; rfl)
  have HT := Lib.hid ht
  have HTO := Lib.hid (tab_ok ht)
  have HZO := Lib.hid (zone_ok hze)
  clear htE hzE ht hze hn hq
  clear hx hy hr hw hs hs2
  go_enter Tryz.func62, Tryz.ntmps62
  go_upto_region 1 with fail
  clear hW1
  have HRT := Lib.hid (show ∀ Z, Below W1.heap.size W1 Z → TBox Z w.heap.size b u n c p from fun Z hZ => HX.out.below hZ)
  have HRZ := Lib.hid (show ∀ Z, Below W1.heap.size W1 Z → ZBox Z (w.heap.size + 1) o q cz pz from fun Z hZ => HY.out.below hZ)
  refine (wpIn_wide (n := 9)).1 ?_
  refine wpIn_region_cls (fun Z => Below W1.heap.size W1 Z) 4 3 (Below.drew (Below.refl _ _)) (by kernel_rfl) (by kernel_rfl) (by kernel_rfl) (by kernel_rfl) (by kernel_rfl) rfl ?_
  simp only [List.take_succ_cons, List.take_zero]
  refine wpQuietIn_step (fun _ _ _ _ => trivial) (fun KQ hKQ => ?_)
  rw [if_pos (by rfl)]
  refine ⟨.agg #[.int .i64 b, .slice p n c, .int .i64 u], fun Z hZ => ?_, hKQ _ ?_⟩
  · obtain ⟨q0, q1, q2⟩ := HRT.out Z hZ; have qz := cell_lt q0; unfold Oper.quietAtIn; go_simp
  clear hKQ KQ
  simp only [Act.put, List.setIfInBounds_toArray, List.set_cons_zero, List.set_cons_succ]
  refine wpQuietIn_step (fun _ _ _ _ => trivial) (fun KQ hKQ => ?_)
  rw [if_pos (by rfl)]
  refine ⟨.int .i64 tE, fun Z hZ => ?_, hKQ _ ?_⟩
  · unfold Oper.quietAtIn; go_simp; exact callsIn_wide.2 (HCK.out Z hZ)
  clear hKQ KQ
  simp only [Act.put, List.setIfInBounds_toArray, List.set_cons_zero, List.set_cons_succ]
  refine wpQuietIn_step (fun _ _ _ _ => trivial) (fun KQ hKQ => ?_)
  rw [if_pos (by rfl)]
  refine ⟨.agg #[.int .i64 o, .slice pz q cz], fun Z hZ => ?_, hKQ _ ?_⟩
  · obtain ⟨q0, q1⟩ := HRZ.out Z hZ; have qz := cell_lt q0; unfold Oper.quietAtIn; go_simp
  clear hKQ KQ
  simp only [Act.put, List.setIfInBounds_toArray, List.set_cons_zero, List.set_cons_succ]
  refine wpQuietIn_step (fun _ _ _ _ => trivial) (fun KQ hKQ => ?_)
  rw [if_pos (by rfl)]
  refine ⟨.int .i64 zE, fun Z hZ => ?_, hKQ _ ?_⟩
  · unfold Oper.quietAtIn; go_simp; exact callsIn_wide.2 (HCZ.out Z hZ)
  clear hKQ KQ
  simp only [Act.put, List.setIfInBounds_toArray, List.set_cons_zero, List.set_cons_succ]
  refine wpQuietIn_nil ?_
  intro Z hZ
  simp only [List.replicate_succ, List.replicate_zero, List.cons_append, List.nil_append]
  have hbe := below_alloc (Below.refl Z.heap.size Z) (.cells #[.int .i64 tE, .int .i64 zE] 50)
  have hor := or_any _ 2 2 _ _ (by decide) (two_f Z tE zE 50)
  rw [or_two, HEE.out] at hor
  have HOR := Lib.hid hor
  have HBE := Lib.hid (bt hZ hbe)
  clear hor hbe
  refine wpAnyIn_ready (rs := [4]) (by kernel_rfl) (by simp) (AllReadyIn.cons rfl (fun K' hKK => ?_) AllReadyIn.nil)
  go_simp
  refine hKK _ _ ?_
  clear hKK
  refine wpAnyIn_ready (rs := [5]) (by kernel_rfl) (by simp) (AllReadyIn.cons rfl (fun K' hKK => ?_) AllReadyIn.nil)
  go_simp
  refine ⟨trivial, (callsIn_wide.2 HOR.out).mono ?_⟩
  rintro e Z5 ⟨rfl, hb5⟩
  go_simp
  refine hKK _ _ ?_
  clear hKK
  refine wpAnyIn_ready (rs := [6]) (by kernel_rfl) (by simp) (AllReadyIn.cons rfl (fun K' hKK => ?_) AllReadyIn.nil)
  go_simp
  refine hKK _ _ ?_
  clear hKK
  refine wpAnyIn_done (by kernel_rfl) ?_ _
  have HB5 := Lib.hid (bt HBE.out hb5)
  clear hb5 hZ HOR HBE HCK HCZ HRT HRZ
  obtain ⟨x0, x1, x2⟩ := HX.out.below HB5.out
  have zx := cell_lt x0
  have HMO := Lib.hid (fun fv => ofMom_rng fv b u s n c p f Z5 (HW.out.below HB5.out) (HS.out.below HB5.out) hc hcm HT.out hd)
  go_upto_region 6 with (go_at_call 118; refine (HMO.out _).mono ?_; rintro e w6 ⟨rfl, hb6⟩; have HB6 := Lib.hid hb6)
  clear x0 x1 x2 zx
  have hba := below_alloc (Below.refl w6.heap.size w6) (.cells #[.int .i64 0, .int .i64 0] 136)
  have HB7 := Lib.hid (bt (bt HB5.out HB6.out) hba)
  clear hba hb6
  generalize w6.alloc (.cells #[.int .i64 0, .int .i64 0] 136) = W7 at *
  obtain ⟨⟨q0, r0⟩, ⟨q1, r1⟩, ⟨q2, r2⟩, ⟨q3, r3⟩, ⟨q4, r4⟩, ⟨q5, r5⟩, rz⟩ := HR.out.below (HB7.out)
  have z0 := rz 0
  have z1 := rz 1
  have z2 := rz 2
  have z3 := rz 3
  have z4 := rz 4
  have z5 := rz 5
  have zr := cell_lt r0
  clear rz
  go_wp2
  refine bodyPost_ret (v := .tuple #[.agg #[.int .i64 0, .int .i64 0, .int .i64 0, .int .i64 0, .int .i64 0, .int .i64 0], .int .i64 0, .int .i64 6]) (by simp [results, Tryz.results62, go_sem, r0, r1, r2, r3, r4, r5]) rfl ⟨rfl, ?_⟩
  exact (((((((bt A0.out (HB7.out)).setCell (p := ⟨w.heap.size + 1 + 1, _, none⟩) (show w.heap.size ≤ w.heap.size + 1 + 1 by omega) _).setCell (p := ⟨w.heap.size + 1 + 1, _, none⟩) (show w.heap.size ≤ w.heap.size + 1 + 1 by omega) _).setCell (p := ⟨w.heap.size + 1 + 1, _, none⟩) (show w.heap.size ≤ w.heap.size + 1 + 1 by omega) _).setCell (p := ⟨w.heap.size + 1 + 1, _, none⟩) (show w.heap.size ≤ w.heap.size + 1 + 1 by omega) _).setCell (p := ⟨w.heap.size + 1 + 1, _, none⟩) (show w.heap.size ≤ w.heap.size + 1 + 1 by omega) _).setCell (p := ⟨w.heap.size + 1 + 1, _, none⟩) (show w.heap.size ≤ w.heap.size + 1 + 1 by omega) _)
set_option maxRecDepth 100000 in
set_option maxHeartbeats 4000000 in
theorem Local_date {b u : Int} {n : Nat} {f : Nat → Int × Int} {o : Int} {q : Nat} {g : Nat → Int × Int} (s : Int) (ht : tabE b u n f = 0) (hze : zoneE o q g = 0) (hgt : ∀ i, i < q → (g i).1 ≤ 9223372036854775807) {D : Int} (hD : IsDayOf u n f s D) (hg : ¬ (41317 ≤ (momM f n D s + offAt o g s (q + 1)) / 1440 ∧ (momM f n D s + offAt o g s (q + 1)) / 1440 ≤ 88068)) (c : Nat) (p : Option Addr) (cz : Nat) (pz : Option Addr) (w : World) (hw : Mon w) (hs : LpIn w f n p) (hs2 : LpIn w g q pz) (hn : n ≤ 1000000000000) (hq : q ≤ 1000000000000) (hc : n ≤ c) (hcm : c ≤ maxLen) :
    Calls Tryz.prog 62 #[.agg #[.int .i64 b, .slice p n c, .int .i64 u], .agg #[.int .i64 o, .slice pz q cz], .int .i64 s] w fun e w' => e = .returned (.tuple #[.agg #[.int .i64 0, .int .i64 0, .int .i64 0, .int .i64 0, .int .i64 0, .int .i64 0], .int .i64 0, .int .i64 90]) ∧ Below w.heap.size w w' := by
  obtain ⟨W1, hW1, hx, hy, hr, A0⟩ := loc_start w b u n c p o q cz pz
  have HX := Lib.hid hx
  have HY := Lib.hid hy
  have HR := Lib.hid hr
  have A0 := Lib.hid A0
  have HW := Lib.hid (hw.below A0.out)
  have HS := Lib.hid (hs.below A0.out)
  have HS2 := Lib.hid (hs2.below A0.out)
  have HCK := Lib.hid (show ∀ Z, Below W1.heap.size W1 Z → _ from fun Z hZ => Calls.bel hZ (Check_any b u n c p f Z (HW.out.below hZ) (HS.out.below hZ) hn))
  have HCZ := Lib.hid (show ∀ Z, Below W1.heap.size W1 Z → _ from fun Z hZ => Calls.bel hZ (CheckZone_any o q cz pz g Z (HS2.out.below hZ) hq))
  obtain ⟨tE, htE⟩ : ∃ tE, tabE b u n f = tE := ⟨_, rfl⟩
  obtain ⟨zE, hzE⟩ : ∃ zE, zoneE o q g = zE := ⟨_, rfl⟩
  rw [htE] at HCK
  rw [hzE] at HCZ
  have HEE := Lib.hid (show (if tE = 0 then zE else tE) = 0 by rw [← htE, ← hzE, ht, hze]; rfl)
  have HT := Lib.hid ht
  have HTO := Lib.hid (tab_ok ht)
  have HZO := Lib.hid (zone_ok hze)
  clear htE hzE ht hze hn hq
  have HGO := Lib.hid hg
  clear hg
  clear hx hy hr hw hs hs2
  go_enter Tryz.func62, Tryz.ntmps62
  go_upto_region 1 with fail
  clear hW1
  have HRT := Lib.hid (show ∀ Z, Below W1.heap.size W1 Z → TBox Z w.heap.size b u n c p from fun Z hZ => HX.out.below hZ)
  have HRZ := Lib.hid (show ∀ Z, Below W1.heap.size W1 Z → ZBox Z (w.heap.size + 1) o q cz pz from fun Z hZ => HY.out.below hZ)
  refine (wpIn_wide (n := 9)).1 ?_
  refine wpIn_region_cls (fun Z => Below W1.heap.size W1 Z) 4 3 (Below.drew (Below.refl _ _)) (by kernel_rfl) (by kernel_rfl) (by kernel_rfl) (by kernel_rfl) (by kernel_rfl) rfl ?_
  simp only [List.take_succ_cons, List.take_zero]
  refine wpQuietIn_step (fun _ _ _ _ => trivial) (fun KQ hKQ => ?_)
  rw [if_pos (by rfl)]
  refine ⟨.agg #[.int .i64 b, .slice p n c, .int .i64 u], fun Z hZ => ?_, hKQ _ ?_⟩
  · obtain ⟨q0, q1, q2⟩ := HRT.out Z hZ; have qz := cell_lt q0; unfold Oper.quietAtIn; go_simp
  clear hKQ KQ
  simp only [Act.put, List.setIfInBounds_toArray, List.set_cons_zero, List.set_cons_succ]
  refine wpQuietIn_step (fun _ _ _ _ => trivial) (fun KQ hKQ => ?_)
  rw [if_pos (by rfl)]
  refine ⟨.int .i64 tE, fun Z hZ => ?_, hKQ _ ?_⟩
  · unfold Oper.quietAtIn; go_simp; exact callsIn_wide.2 (HCK.out Z hZ)
  clear hKQ KQ
  simp only [Act.put, List.setIfInBounds_toArray, List.set_cons_zero, List.set_cons_succ]
  refine wpQuietIn_step (fun _ _ _ _ => trivial) (fun KQ hKQ => ?_)
  rw [if_pos (by rfl)]
  refine ⟨.agg #[.int .i64 o, .slice pz q cz], fun Z hZ => ?_, hKQ _ ?_⟩
  · obtain ⟨q0, q1⟩ := HRZ.out Z hZ; have qz := cell_lt q0; unfold Oper.quietAtIn; go_simp
  clear hKQ KQ
  simp only [Act.put, List.setIfInBounds_toArray, List.set_cons_zero, List.set_cons_succ]
  refine wpQuietIn_step (fun _ _ _ _ => trivial) (fun KQ hKQ => ?_)
  rw [if_pos (by rfl)]
  refine ⟨.int .i64 zE, fun Z hZ => ?_, hKQ _ ?_⟩
  · unfold Oper.quietAtIn; go_simp; exact callsIn_wide.2 (HCZ.out Z hZ)
  clear hKQ KQ
  simp only [Act.put, List.setIfInBounds_toArray, List.set_cons_zero, List.set_cons_succ]
  refine wpQuietIn_nil ?_
  intro Z hZ
  simp only [List.replicate_succ, List.replicate_zero, List.cons_append, List.nil_append]
  have hbe := below_alloc (Below.refl Z.heap.size Z) (.cells #[.int .i64 tE, .int .i64 zE] 50)
  have hor := or_any _ 2 2 _ _ (by decide) (two_f Z tE zE 50)
  rw [or_two, HEE.out] at hor
  have HOR := Lib.hid hor
  have HBE := Lib.hid (bt hZ hbe)
  clear hor hbe
  refine wpAnyIn_ready (rs := [4]) (by kernel_rfl) (by simp) (AllReadyIn.cons rfl (fun K' hKK => ?_) AllReadyIn.nil)
  go_simp
  refine hKK _ _ ?_
  clear hKK
  refine wpAnyIn_ready (rs := [5]) (by kernel_rfl) (by simp) (AllReadyIn.cons rfl (fun K' hKK => ?_) AllReadyIn.nil)
  go_simp
  refine ⟨trivial, (callsIn_wide.2 HOR.out).mono ?_⟩
  rintro e Z5 ⟨rfl, hb5⟩
  go_simp
  refine hKK _ _ ?_
  clear hKK
  refine wpAnyIn_ready (rs := [6]) (by kernel_rfl) (by simp) (AllReadyIn.cons rfl (fun K' hKK => ?_) AllReadyIn.nil)
  go_simp
  refine hKK _ _ ?_
  clear hKK
  refine wpAnyIn_done (by kernel_rfl) ?_ _
  have HB5 := Lib.hid (bt HBE.out hb5)
  clear hb5 hZ HOR HBE HCK HCZ HRT HRZ
  obtain ⟨x0, x1, x2⟩ := HX.out.below HB5.out
  have zx := cell_lt x0
  have hin : inB s (beginS f n u) = true := by
    have h1 := HTO.out.begin_mono (show D + 1 ≤ u by have := hD.d2; omega)
    have h2 := HTO.out.begin_mono hD.d1
    rw [HTO.out.begin_first] at h2
    have hlo := hD.lo; have hhi := hD.hi
    unfold inB
    simp only [Bool.and_eq_true, decide_eq_true_eq]
    omega
  have hmo := mom_of HTO.out hD
  have hmd := hmo.day
  have hd1 := hD.d1
  have hd2 := hD.d2
  have hu2 := HTO.out.u2
  have hof := HZO.out.offAt_bd s (q + 1) (Nat.le_refl _)
  have HMO := Lib.hid (ofMom_mt b u s n c p f (momM f n D s) (momS f n D s) Z5 (HW.out.below HB5.out) (HS.out.below HB5.out) hc hcm HT.out hin (fun mb X hX hl hm => wmoment_any HTO.out hD c p mb X hl hc hcm))
  have HZF := Lib.hid (fun X (hX : Below W1.heap.size W1 X) => zoffset_any o q cz pz g HZO.out hgt s X (HS2.out.below hX))
  obtain ⟨mm, hmm⟩ : ∃ mm, momM f n D s = mm := ⟨_, rfl⟩
  obtain ⟨ms, hms⟩ : ∃ ms, momS f n D s = ms := ⟨_, rfl⟩
  obtain ⟨of, hoff⟩ : ∃ of, offAt o g s (q + 1) = of := ⟨_, rfl⟩
  rw [hmm] at hmd
  rw [hmm, hms] at HMO
  rw [hoff] at HZF hof
  rw [hoff] at HGO
  rw [hmm] at HGO
  have hmb : -1000000000000 ≤ mm ∧ mm ≤ 1000000000000 := by omega
  have HLA := Lib.hid (fun X => later_any mm ms of hmb (by omega) X)
  have hlb : -9000000000000000000 ≤ mm + of ∧ mm + of ≤ 9000000000000000000 := by omega
  have HDA := Lib.hid (fun X => mday_any (mm + of) ms X hlb)
  have HID := Lib.hid (fun X => isDay_any ((mm + of) / 1440) X)
  clear hin hmo hmd hd1 hd2 hof hmm hms hoff hmb hlb
  go_upto_region 7 with (go_at_call 118; refine HMO.out.mono ?_; rintro e w6 ⟨rfl, hb6⟩; have HB6 := Lib.hid hb6)
  clear x0 x1 x2 zx
  have hba := below_alloc (Below.refl w6.heap.size w6) (.cells #[.int .i64 mm, .int .i64 ms] 136)
  have HMB := Lib.hid (MBox.new w6 mm ms)
  have HB7 := Lib.hid (bt (bt HB5.out HB6.out) hba)
  clear hba hb6
  generalize w6.alloc (.cells #[.int .i64 mm, .int .i64 ms] 136) = W7 at *
  generalize w6.heap.size = am at *
  obtain ⟨y0, y1⟩ := HY.out.below HB7.out
  have zy := cell_lt y0
  go_upto_region 8 with (go_at_call 120; refine (HZF.out _ HB7.out).mono ?_; rintro e w8 ⟨rfl, hb8⟩; have HB8 := Lib.hid hb8)
  clear y0 y1 zy
  obtain ⟨y0, y1⟩ := HMB.out.below HB8.out
  have zy := cell_lt y0
  go_upto_region 9 with (go_at_call 121; refine (HLA.out _).mono ?_; rintro e w9 ⟨rfl, hb9⟩; have HB9 := Lib.hid (bt HB8.out hb9))
  clear y0 y1 zy
  have hba := below_alloc (Below.refl w9.heap.size w9) (.cells #[.int .i64 (mm + of), .int .i64 ms] 136)
  have HLB := Lib.hid (MBox.new w9 (mm + of) ms)
  have HB10 := Lib.hid (bt HB9.out hba)
  clear hba
  generalize w9.alloc (.cells #[.int .i64 (mm + of), .int .i64 ms] 136) = W10 at *
  generalize w9.heap.size = al at *
  obtain ⟨y0, y1⟩ := HLB.out
  have zy := cell_lt y0
  have hdk : (decide (41317 ≤ (mm + of) / 1440) && decide ((mm + of) / 1440 ≤ 88068)) = false := by
    have := HGO.out
    rw [Bool.eq_false_iff]
    intro e
    simp only [Bool.and_eq_true, decide_eq_true_eq] at e
    exact this e
  have HID := Lib.hid (fun X => by have := HID.out X; rw [hdk] at this; exact this)
  clear hdk
  go_upto_region 10 with (first | (go_at_call 122; refine (HDA.out _).mono ?_; rintro e w11 ⟨rfl, hb11⟩; have HB11 := Lib.hid (bt (bt HB7.out HB10.out) hb11)) | (go_at_call 79; refine (HID.out _).mono ?_; rintro e w12 ⟨rfl, rfl⟩))
  clear y0 y1 zy
  obtain ⟨⟨q0, r0⟩, ⟨q1, r1⟩, ⟨q2, r2⟩, ⟨q3, r3⟩, ⟨q4, r4⟩, ⟨q5, r5⟩, rz⟩ := HR.out.below (HB11.out)
  have z0 := rz 0
  have z1 := rz 1
  have z2 := rz 2
  have z3 := rz 3
  have z4 := rz 4
  have z5 := rz 5
  have zr := cell_lt r0
  clear rz
  go_wp2
  refine bodyPost_ret (v := .tuple #[.agg #[.int .i64 0, .int .i64 0, .int .i64 0, .int .i64 0, .int .i64 0, .int .i64 0], .int .i64 0, .int .i64 90]) (by simp [results, Tryz.results62, go_sem, r0, r1, r2, r3, r4, r5]) rfl ⟨rfl, ?_⟩
  exact (((((((bt A0.out (HB11.out)).setCell (p := ⟨w.heap.size + 1 + 1, _, none⟩) (show w.heap.size ≤ w.heap.size + 1 + 1 by omega) _).setCell (p := ⟨w.heap.size + 1 + 1, _, none⟩) (show w.heap.size ≤ w.heap.size + 1 + 1 by omega) _).setCell (p := ⟨w.heap.size + 1 + 1, _, none⟩) (show w.heap.size ≤ w.heap.size + 1 + 1 by omega) _).setCell (p := ⟨w.heap.size + 1 + 1, _, none⟩) (show w.heap.size ≤ w.heap.size + 1 + 1 by omega) _).setCell (p := ⟨w.heap.size + 1 + 1, _, none⟩) (show w.heap.size ≤ w.heap.size + 1 + 1 by omega) _).setCell (p := ⟨w.heap.size + 1 + 1, _, none⟩) (show w.heap.size ≤ w.heap.size + 1 + 1 by omega) _)
set_option maxRecDepth 100000 in
set_option maxHeartbeats 4000000 in
theorem Local_ok {b u : Int} {n : Nat} {f : Nat → Int × Int} {o : Int} {q : Nat} {g : Nat → Int × Int} (s : Int) (ht : tabE b u n f = 0) (hze : zoneE o q g = 0) (hgt : ∀ i, i < q → (g i).1 ≤ 9223372036854775807) {D : Int} (hD : IsDayOf u n f s D) {y : Int} {k : Nat} {d : Int} (hci : IsCiv ((momM f n D s + offAt o g s (q + 1)) / 1440) y k d) {mm ms of hh mi : Int} (hmm : momM f n D s = mm) (hms : momS f n D s = ms) (hoff : offAt o g s (q + 1) = of) (hhh : (mm + of) % 1440 / 60 = hh) (hmi : (mm + of) % 1440 % 60 = mi) (c : Nat) (p : Option Addr) (cz : Nat) (pz : Option Addr) (w : World) (hw : Mon w) (hs : LpIn w f n p) (hs2 : LpIn w g q pz) (hn : n ≤ 1000000000000) (hq : q ≤ 1000000000000) (hc : n ≤ c) (hcm : c ≤ maxLen) :
    Calls Tryz.prog 62 #[.agg #[.int .i64 b, .slice p n c, .int .i64 u], .agg #[.int .i64 o, .slice pz q cz], .int .i64 s] w fun e w' => e = .returned (.tuple #[.agg #[.int .i64 y, .int .i64 (k : Int), .int .i64 d, .int .i64 hh, .int .i64 mi, .int .i64 ms], .int .i64 of, .int .i64 0]) ∧ Below w.heap.size w w' := by
  obtain ⟨W1, hW1, hx, hy, hr, A0⟩ := loc_start w b u n c p o q cz pz
  have HX := Lib.hid hx
  have HY := Lib.hid hy
  have HR := Lib.hid hr
  have A0 := Lib.hid A0
  have HW := Lib.hid (hw.below A0.out)
  have HS := Lib.hid (hs.below A0.out)
  have HS2 := Lib.hid (hs2.below A0.out)
  have HCK := Lib.hid (show ∀ Z, Below W1.heap.size W1 Z → _ from fun Z hZ => Calls.bel hZ (Check_any b u n c p f Z (HW.out.below hZ) (HS.out.below hZ) hn))
  have HCZ := Lib.hid (show ∀ Z, Below W1.heap.size W1 Z → _ from fun Z hZ => Calls.bel hZ (CheckZone_any o q cz pz g Z (HS2.out.below hZ) hq))
  obtain ⟨tE, htE⟩ : ∃ tE, tabE b u n f = tE := ⟨_, rfl⟩
  obtain ⟨zE, hzE⟩ : ∃ zE, zoneE o q g = zE := ⟨_, rfl⟩
  rw [htE] at HCK
  rw [hzE] at HCZ
  have HEE := Lib.hid (show (if tE = 0 then zE else tE) = 0 by rw [← htE, ← hzE, ht, hze]; rfl)
  have HT := Lib.hid ht
  have HTO := Lib.hid (tab_ok ht)
  have HZO := Lib.hid (zone_ok hze)
  clear htE hzE ht hze hn hq
  have HGO := Lib.hid hci
  clear hci
  clear hx hy hr hw hs hs2
  go_enter Tryz.func62, Tryz.ntmps62
  go_upto_region 1 with fail
  clear hW1
  have HRT := Lib.hid (show ∀ Z, Below W1.heap.size W1 Z → TBox Z w.heap.size b u n c p from fun Z hZ => HX.out.below hZ)
  have HRZ := Lib.hid (show ∀ Z, Below W1.heap.size W1 Z → ZBox Z (w.heap.size + 1) o q cz pz from fun Z hZ => HY.out.below hZ)
  refine (wpIn_wide (n := 9)).1 ?_
  refine wpIn_region_cls (fun Z => Below W1.heap.size W1 Z) 4 3 (Below.drew (Below.refl _ _)) (by kernel_rfl) (by kernel_rfl) (by kernel_rfl) (by kernel_rfl) (by kernel_rfl) rfl ?_
  simp only [List.take_succ_cons, List.take_zero]
  refine wpQuietIn_step (fun _ _ _ _ => trivial) (fun KQ hKQ => ?_)
  rw [if_pos (by rfl)]
  refine ⟨.agg #[.int .i64 b, .slice p n c, .int .i64 u], fun Z hZ => ?_, hKQ _ ?_⟩
  · obtain ⟨q0, q1, q2⟩ := HRT.out Z hZ; have qz := cell_lt q0; unfold Oper.quietAtIn; go_simp
  clear hKQ KQ
  simp only [Act.put, List.setIfInBounds_toArray, List.set_cons_zero, List.set_cons_succ]
  refine wpQuietIn_step (fun _ _ _ _ => trivial) (fun KQ hKQ => ?_)
  rw [if_pos (by rfl)]
  refine ⟨.int .i64 tE, fun Z hZ => ?_, hKQ _ ?_⟩
  · unfold Oper.quietAtIn; go_simp; exact callsIn_wide.2 (HCK.out Z hZ)
  clear hKQ KQ
  simp only [Act.put, List.setIfInBounds_toArray, List.set_cons_zero, List.set_cons_succ]
  refine wpQuietIn_step (fun _ _ _ _ => trivial) (fun KQ hKQ => ?_)
  rw [if_pos (by rfl)]
  refine ⟨.agg #[.int .i64 o, .slice pz q cz], fun Z hZ => ?_, hKQ _ ?_⟩
  · obtain ⟨q0, q1⟩ := HRZ.out Z hZ; have qz := cell_lt q0; unfold Oper.quietAtIn; go_simp
  clear hKQ KQ
  simp only [Act.put, List.setIfInBounds_toArray, List.set_cons_zero, List.set_cons_succ]
  refine wpQuietIn_step (fun _ _ _ _ => trivial) (fun KQ hKQ => ?_)
  rw [if_pos (by rfl)]
  refine ⟨.int .i64 zE, fun Z hZ => ?_, hKQ _ ?_⟩
  · unfold Oper.quietAtIn; go_simp; exact callsIn_wide.2 (HCZ.out Z hZ)
  clear hKQ KQ
  simp only [Act.put, List.setIfInBounds_toArray, List.set_cons_zero, List.set_cons_succ]
  refine wpQuietIn_nil ?_
  intro Z hZ
  simp only [List.replicate_succ, List.replicate_zero, List.cons_append, List.nil_append]
  have hbe := below_alloc (Below.refl Z.heap.size Z) (.cells #[.int .i64 tE, .int .i64 zE] 50)
  have hor := or_any _ 2 2 _ _ (by decide) (two_f Z tE zE 50)
  rw [or_two, HEE.out] at hor
  have HOR := Lib.hid hor
  have HBE := Lib.hid (bt hZ hbe)
  clear hor hbe
  refine wpAnyIn_ready (rs := [4]) (by kernel_rfl) (by simp) (AllReadyIn.cons rfl (fun K' hKK => ?_) AllReadyIn.nil)
  go_simp
  refine hKK _ _ ?_
  clear hKK
  refine wpAnyIn_ready (rs := [5]) (by kernel_rfl) (by simp) (AllReadyIn.cons rfl (fun K' hKK => ?_) AllReadyIn.nil)
  go_simp
  refine ⟨trivial, (callsIn_wide.2 HOR.out).mono ?_⟩
  rintro e Z5 ⟨rfl, hb5⟩
  go_simp
  refine hKK _ _ ?_
  clear hKK
  refine wpAnyIn_ready (rs := [6]) (by kernel_rfl) (by simp) (AllReadyIn.cons rfl (fun K' hKK => ?_) AllReadyIn.nil)
  go_simp
  refine hKK _ _ ?_
  clear hKK
  refine wpAnyIn_done (by kernel_rfl) ?_ _
  have HB5 := Lib.hid (bt HBE.out hb5)
  clear hb5 hZ HOR HBE HCK HCZ HRT HRZ
  obtain ⟨x0, x1, x2⟩ := HX.out.below HB5.out
  have zx := cell_lt x0
  have hin : inB s (beginS f n u) = true := by
    have h1 := HTO.out.begin_mono (show D + 1 ≤ u by have := hD.d2; omega)
    have h2 := HTO.out.begin_mono hD.d1
    rw [HTO.out.begin_first] at h2
    have hlo := hD.lo; have hhi := hD.hi
    unfold inB
    simp only [Bool.and_eq_true, decide_eq_true_eq]
    omega
  have hmo := mom_of HTO.out hD
  have hmd := hmo.day
  have hd1 := hD.d1
  have hd2 := hD.d2
  have hu2 := HTO.out.u2
  have hof := HZO.out.offAt_bd s (q + 1) (Nat.le_refl _)
  have HMO := Lib.hid (ofMom_mt b u s n c p f (momM f n D s) (momS f n D s) Z5 (HW.out.below HB5.out) (HS.out.below HB5.out) hc hcm HT.out hin (fun mb X hX hl hm => wmoment_any HTO.out hD c p mb X hl hc hcm))
  have HZF := Lib.hid (fun X (hX : Below W1.heap.size W1 X) => zoffset_any o q cz pz g HZO.out hgt s X (HS2.out.below hX))
  rw [hmm] at hmd
  rw [hmm, hms] at HMO
  rw [hoff] at HZF hof
  rw [hoff] at HGO
  rw [hmm] at HGO
  have hmb : -1000000000000 ≤ mm ∧ mm ≤ 1000000000000 := by omega
  have HLA := Lib.hid (fun X => later_any mm ms of hmb (by omega) X)
  have hlb : -9000000000000000000 ≤ mm + of ∧ mm + of ≤ 9000000000000000000 := by omega
  have HDA := Lib.hid (fun X => mday_any (mm + of) ms X hlb)
  have HID := Lib.hid (fun X => isDay_any ((mm + of) / 1440) X)
  clear hin hmo hmd hd1 hd2 hof hmm hms hoff hmb hlb
  go_upto_region 7 with (go_at_call 118; refine HMO.out.mono ?_; rintro e w6 ⟨rfl, hb6⟩; have HB6 := Lib.hid hb6)
  clear x0 x1 x2 zx
  have hba := below_alloc (Below.refl w6.heap.size w6) (.cells #[.int .i64 mm, .int .i64 ms] 136)
  have HMB := Lib.hid (MBox.new w6 mm ms)
  have HB7 := Lib.hid (bt (bt HB5.out HB6.out) hba)
  clear hba hb6
  generalize w6.alloc (.cells #[.int .i64 mm, .int .i64 ms] 136) = W7 at *
  generalize w6.heap.size = am at *
  obtain ⟨y0, y1⟩ := HY.out.below HB7.out
  have zy := cell_lt y0
  go_upto_region 8 with (go_at_call 120; refine (HZF.out _ HB7.out).mono ?_; rintro e w8 ⟨rfl, hb8⟩; have HB8 := Lib.hid hb8)
  clear y0 y1 zy
  obtain ⟨y0, y1⟩ := HMB.out.below HB8.out
  have zy := cell_lt y0
  go_upto_region 9 with (go_at_call 121; refine (HLA.out _).mono ?_; rintro e w9 ⟨rfl, hb9⟩; have HB9 := Lib.hid (bt HB8.out hb9))
  clear y0 y1 zy
  have hba := below_alloc (Below.refl w9.heap.size w9) (.cells #[.int .i64 (mm + of), .int .i64 ms] 136)
  have HLB := Lib.hid (MBox.new w9 (mm + of) ms)
  have HB10 := Lib.hid (bt HB9.out hba)
  clear hba
  generalize w9.alloc (.cells #[.int .i64 (mm + of), .int .i64 ms] 136) = W10 at *
  generalize w9.heap.size = al at *
  obtain ⟨y0, y1⟩ := HLB.out
  have zy := cell_lt y0
  have hnb := HGO.out.n_bd
  have hdk : (decide (41317 ≤ (mm + of) / 1440) && decide ((mm + of) / 1440 ≤ 88068)) = true := by
    simp only [Bool.and_eq_true, decide_eq_true_eq]
    exact hnb
  have HID := Lib.hid (fun X => by have := HID.out X; rw [hdk] at this; exact this)
  have HDT := Lib.hid (fun X (hX : Mon X) => mdate_any (m := mm + of) (s := ms) rfl (od := (mm + of) % 1440) rfl HGO.out X hX)
  clear hdk hnb
  rw [hhh, hmi] at HDT
  clear hhh hmi
  go_upto_region 11 with (first | (go_at_call 122; refine (HDA.out _).mono ?_; rintro e w11 ⟨rfl, hb11⟩; have HB11 := Lib.hid (bt (bt HB7.out HB10.out) hb11); have HLB11 := Lib.hid (HLB.out.below hb11)) | (go_at_call 79; refine (HID.out _).mono ?_; rintro e w12 ⟨rfl, rfl⟩))
  clear y0 y1 zy
  obtain ⟨y0, y1⟩ := HLB11.out
  have zy := cell_lt y0
  have HDX := Lib.hid (HDT.out w11 (HW.out.below HB11.out))
  go_wp2_with fail
  refine HDX.out.mono ?_
  rintro e w13 ⟨rfl, hb13⟩
  have HB13 := Lib.hid (bt HB11.out hb13)
  clear y0 y1 zy hb13
  obtain ⟨⟨q0, r0⟩, ⟨q1, r1⟩, ⟨q2, r2⟩, ⟨q3, r3⟩, ⟨q4, r4⟩, ⟨q5, r5⟩, rz⟩ := HR.out.below (HB13.out)
  have z0 := rz 0
  have z1 := rz 1
  have z2 := rz 2
  have z3 := rz 3
  have z4 := rz 4
  have z5 := rz 5
  have zr := cell_lt r0
  clear rz
  go_wp2
  refine bodyPost_ret (v := .tuple #[.agg #[.int .i64 y, .int .i64 (k : Int), .int .i64 d, .int .i64 hh, .int .i64 mi, .int .i64 ms], .int .i64 of, .int .i64 0]) (by simp [results, Tryz.results62, go_sem, r0, r1, r2, r3, r4, r5]) rfl ⟨rfl, ?_⟩
  exact (((((((bt A0.out (HB13.out)).setCell (p := ⟨w.heap.size + 1 + 1, _, none⟩) (show w.heap.size ≤ w.heap.size + 1 + 1 by omega) _).setCell (p := ⟨w.heap.size + 1 + 1, _, none⟩) (show w.heap.size ≤ w.heap.size + 1 + 1 by omega) _).setCell (p := ⟨w.heap.size + 1 + 1, _, none⟩) (show w.heap.size ≤ w.heap.size + 1 + 1 by omega) _).setCell (p := ⟨w.heap.size + 1 + 1, _, none⟩) (show w.heap.size ≤ w.heap.size + 1 + 1 by omega) _).setCell (p := ⟨w.heap.size + 1 + 1, _, none⟩) (show w.heap.size ≤ w.heap.size + 1 + 1 by omega) _).setCell (p := ⟨w.heap.size + 1 + 1, _, none⟩) (show w.heap.size ≤ w.heap.size + 1 + 1 by omega) _)
end Go.Proofs.YtgnfaemnehmgcaaGreatDoor.Cal
