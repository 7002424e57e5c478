/-  -/
import Derived.Test.YtgnfaemnehmgcaaGreatDoorQ40
import Derived.Test.YtgnfaemnehmgcaaGreatDoorQ43
import Derived.Test.YtgnfaemnehmgcaaGreatDoorQ09
import Derived.Test.YtgnfaemnehmgcaaGreatDoorQ13
namespace Go.Proofs.YtgnfaemnehmgcaaGreatDoor.Cal
open Go Go.RowKit
attribute [local go_sem] Oper.semAt_some
theorem rloc_start (w : World) (b u : Int) (n c : Nat) (p : Option Addr) (o : Int) (q cz : Nat) (pz : Option Addr) :
    ∃ W1, ((w.alloc (.cells #[.int .i64 b, .slice p n c, .int .i64 u] 55)).alloc (.cells #[.int .i64 o, .slice pz q cz] 109)).alloc (.cells #[.int .i64 0, .int .i64 0, .int .i64 0, .int .i64 0, .int .i64 0, .int .i64 0] 67) = W1 ∧
      TBox W1 w.heap.size b u n c p ∧ ZBox W1 (w.heap.size + 1) o q cz pz ∧ Res6 W1 (w.heap.size + 1 + 1) ∧ Below w.heap.size w W1 := by
  refine ⟨_, rfl, ?_⟩
  have b1 := below_alloc (Below.refl w.heap.size w) (.cells #[.int .i64 b, .slice p n c, .int .i64 u] 55)
  have h1 := TBox.new w b u n c p 55
  have e1 : (w.alloc (.cells #[.int .i64 b, .slice p n c, .int .i64 u] 55)).heap.size = w.heap.size + 1 := by simp
  generalize w.alloc (.cells #[.int .i64 b, .slice p n c, .int .i64 u] 55) = W1 at *
  have b2 := below_alloc (Below.refl W1.heap.size W1) (.cells #[.int .i64 o, .slice pz q cz] 109)
  have h2 := ZBox.new W1 o q cz pz 109
  have e2 : (W1.alloc (.cells #[.int .i64 o, .slice pz q cz] 109)).heap.size = w.heap.size + 1 + 1 := by simp [e1]
  rw [e1] at h2
  have h1' := h1.below b2
  have b2' := bt b1 b2
  generalize W1.alloc (.cells #[.int .i64 o, .slice pz q cz] 109) = W2 at *
  have b3 := below_alloc (Below.refl W2.heap.size W2) (.cells #[.int .i64 0, .int .i64 0, .int .i64 0, .int .i64 0, .int .i64 0, .int .i64 0] 67)
  have h3 := Res6.new W2 (.int .i64 0) (.int .i64 0) (.int .i64 0) (.int .i64 0) (.int .i64 0) (.int .i64 0) 67
  rw [e2] at h3
  exact ⟨h1'.below b3, h2.below b3, h3, bt b2' b3⟩
set_option maxRecDepth 100000 in
set_option maxHeartbeats 4000000 in
theorem rLocal_tab {b u : Int} {n : Nat} {f : Nat → Int × Int} {o : Int} {q : Nat} {g : Nat → Int × Int} (s : Int) (ht : tabE b u n f ≠ 0) (c : Nat) (p : Option Addr) (cz : Nat) (pz : Option Addr) (w : World) (hs : LpIn w f n p) (hs2 : LpIn w g q pz) (hn : n ≤ 1000000000000) (hq : q ≤ 1000000000000) :
    Calls Tryz.prog 63 #[.agg #[.int .i64 b, .slice p n c, .int .i64 u], .agg #[.int .i64 o, .slice pz q cz], .int .i64 s] w fun e w' => e = .returned (.tuple #[.agg #[.int .i64 0, .int .i64 0, .int .i64 0, .int .i64 0, .int .i64 0, .int .i64 0], .int .i64 0, .int .i64 (tabE b u n f)]) ∧ Below w.heap.size w w' := by
  obtain ⟨W1, hW1, hx, hy, hr, A0⟩ := rloc_start w b u n c p o q cz pz
  have HX := Lib.hid hx
  have HY := Lib.hid hy
  have HR := Lib.hid hr
  have A0 := Lib.hid A0
  have HS := Lib.hid (hs.below A0.out)
  have HS2 := Lib.hid (hs2.below A0.out)
  have HCK := Lib.hid (rCheck_any b u n c p f W1 HS.out hn)
  have HCZ := Lib.hid (fun X hX => rCheckZone_any o q cz pz g X (HS2.out.below hX) hq)
  obtain ⟨tE, htE⟩ : ∃ tE, tabE b u n f = tE := ⟨_, rfl⟩
  rw [htE] at HCK ht ⊢
  clear htE hq hn HCZ
  clear hx hy hr hs hs2
  go_enter Tryz.func63, Tryz.ntmps63
  go_upto_region 1 with fail
  clear hW1
  obtain ⟨x0, x1, x2⟩ := HX.out
  have zx := cell_lt x0
  go_upto_region 2 with (go_at_call 34; refine HCK.out.mono ?_; rintro e w2 ⟨rfl, hb2⟩; have HB2 := Lib.hid hb2)
  clear x0 x1 x2 zx hb2
  obtain ⟨⟨q0, r0⟩, ⟨q1, r1⟩, ⟨q2, r2⟩, ⟨q3, r3⟩, ⟨q4, r4⟩, ⟨q5, r5⟩, rz⟩ := HR.out.below (HB2.out)
  have z0 := rz 0
  have z1 := rz 1
  have z2 := rz 2
  have z3 := rz 3
  have z4 := rz 4
  have z5 := rz 5
  have zr := cell_lt r0
  clear rz
  go_wp2
  refine bodyPost_ret (v := .tuple #[.agg #[.int .i64 0, .int .i64 0, .int .i64 0, .int .i64 0, .int .i64 0, .int .i64 0], .int .i64 0, .int .i64 tE]) (by simp [results, Tryz.results63, go_sem, r0, r1, r2, r3, r4, r5]) rfl ⟨rfl, ?_⟩
  exact (((((((bt A0.out (HB2.out)).setCell (p := ⟨w.heap.size + 1 + 1, _, none⟩) (show w.heap.size ≤ w.heap.size + 1 + 1 by omega) _).setCell (p := ⟨w.heap.size + 1 + 1, _, none⟩) (show w.heap.size ≤ w.heap.size + 1 + 1 by omega) _).setCell (p := ⟨w.heap.size + 1 + 1, _, none⟩) (show w.heap.size ≤ w.heap.size + 1 + 1 by omega) _).setCell (p := ⟨w.heap.size + 1 + 1, _, none⟩) (show w.heap.size ≤ w.heap.size + 1 + 1 by omega) _).setCell (p := ⟨w.heap.size + 1 + 1, _, none⟩) (show w.heap.size ≤ w.heap.size + 1 + 1 by omega) _).setCell (p := ⟨w.heap.size + 1 + 1, _, none⟩) (show w.heap.size ≤ w.heap.size + 1 + 1 by omega) _)
set_option maxRecDepth 100000 in
set_option maxHeartbeats 4000000 in
theorem rLocal_zone {b u : Int} {n : Nat} {f : Nat → Int × Int} {o : Int} {q : Nat} {g : Nat → Int × Int} (s : Int) (ht : tabE b u n f = 0) (hz : zoneE o q g ≠ 0) (c : Nat) (p : Option Addr) (cz : Nat) (pz : Option Addr) (w : World) (hs : LpIn w f n p) (hs2 : LpIn w g q pz) (hn : n ≤ 1000000000000) (hq : q ≤ 1000000000000) :
    Calls Tryz.prog 63 #[.agg #[.int .i64 b, .slice p n c, .int .i64 u], .agg #[.int .i64 o, .slice pz q cz], .int .i64 s] w fun e w' => e = .returned (.tuple #[.agg #[.int .i64 0, .int .i64 0, .int .i64 0, .int .i64 0, .int .i64 0, .int .i64 0], .int .i64 0, .int .i64 (zoneE o q g)]) ∧ Below w.heap.size w w' := by
  obtain ⟨W1, hW1, hx, hy, hr, A0⟩ := rloc_start w b u n c p o q cz pz
  have HX := Lib.hid hx
  have HY := Lib.hid hy
  have HR := Lib.hid hr
  have A0 := Lib.hid A0
  have HS := Lib.hid (hs.below A0.out)
  have HS2 := Lib.hid (hs2.below A0.out)
  have HCK := Lib.hid (rCheck_any b u n c p f W1 HS.out hn)
  have HCZ := Lib.hid (fun X hX => rCheckZone_any o q cz pz g X (HS2.out.below hX) hq)
  rw [ht] at HCK
  obtain ⟨zE, hzE⟩ : ∃ zE, zoneE o q g = zE := ⟨_, rfl⟩
  rw [hzE] at HCZ hz ⊢
  clear hzE hn hq
  clear hx hy hr hs hs2
  go_enter Tryz.func63, Tryz.ntmps63
  go_upto_region 1 with fail
  clear hW1
  obtain ⟨x0, x1, x2⟩ := HX.out
  have zx := cell_lt x0
  go_upto_region 4 with (go_at_call 34; refine HCK.out.mono ?_; rintro e w2 ⟨rfl, hb2⟩; have HB2 := Lib.hid hb2)
  clear x0 x1 x2 zx hb2
  obtain ⟨y0, y1⟩ := HY.out.below HB2.out
  have zy := cell_lt y0
  go_upto_region 5 with (go_at_call 61; refine (HCZ.out _ HB2.out).mono ?_; rintro e w3 ⟨rfl, hb3⟩; have HB3 := Lib.hid (bt HB2.out hb3))
  clear y0 y1 zy hb3
  obtain ⟨⟨q0, r0⟩, ⟨q1, r1⟩, ⟨q2, r2⟩, ⟨q3, r3⟩, ⟨q4, r4⟩, ⟨q5, r5⟩, rz⟩ := HR.out.below (HB3.out)
  have z0 := rz 0
  have z1 := rz 1
  have z2 := rz 2
  have z3 := rz 3
  have z4 := rz 4
  have z5 := rz 5
  have zr := cell_lt r0
  clear rz
  go_wp2
  refine bodyPost_ret (v := .tuple #[.agg #[.int .i64 0, .int .i64 0, .int .i64 0, .int .i64 0, .int .i64 0, .int .i64 0], .int .i64 0, .int .i64 zE]) (by simp [results, Tryz.results63, go_sem, r0, r1, r2, r3, r4, r5]) rfl ⟨rfl, ?_⟩
  exact (((((((bt A0.out (HB3.out)).setCell (p := ⟨w.heap.size + 1 + 1, _, none⟩) (show w.heap.size ≤ w.heap.size + 1 + 1 by omega) _).setCell (p := ⟨w.heap.size + 1 + 1, _, none⟩) (show w.heap.size ≤ w.heap.size + 1 + 1 by omega) _).setCell (p := ⟨w.heap.size + 1 + 1, _, none⟩) (show w.heap.size ≤ w.heap.size + 1 + 1 by omega) _).setCell (p := ⟨w.heap.size + 1 + 1, _, none⟩) (show w.heap.size ≤ w.heap.size + 1 + 1 by omega) _).setCell (p := ⟨w.heap.size + 1 + 1, _, none⟩) (show w.heap.size ≤ w.heap.size + 1 + 1 by omega) _).setCell (p := ⟨w.heap.size + 1 + 1, _, none⟩) (show w.heap.size ≤ w.heap.size + 1 + 1 by omega) _)
set_option maxRecDepth 100000 in
set_option maxHeartbeats 4000000 in
theorem rLocal_rng {b u : Int} {n : Nat} {f : Nat → Int × Int} {o : Int} {q : Nat} {g : Nat → Int × Int} (s : Int) (ht : tabE b u n f = 0) (hz : zoneE o q g = 0) (hk : knownE b u n f s ≠ 0) (c : Nat) (p : Option Addr) (cz : Nat) (pz : Option Addr) (w : World) (hs : LpIn w f n p) (hs2 : LpIn w g q pz) (hn : n ≤ 1000000000000) (hq : q ≤ 1000000000000) :
    Calls Tryz.prog 63 #[.agg #[.int .i64 b, .slice p n c, .int .i64 u], .agg #[.int .i64 o, .slice pz q cz], .int .i64 s] w fun e w' => e = .returned (.tuple #[.agg #[.int .i64 0, .int .i64 0, .int .i64 0, .int .i64 0, .int .i64 0, .int .i64 0], .int .i64 0, .int .i64 (knownE b u n f s)]) ∧ Below w.heap.size w w' := by
  obtain ⟨W1, hW1, hx, hy, hr, A0⟩ := rloc_start w b u n c p o q cz pz
  have HX := Lib.hid hx
  have HY := Lib.hid hy
  have HR := Lib.hid hr
  have A0 := Lib.hid A0
  have HS := Lib.hid (hs.below A0.out)
  have HS2 := Lib.hid (hs2.below A0.out)
  have HCK := Lib.hid (rCheck_any b u n c p f W1 HS.out hn)
  have HCZ := Lib.hid (fun X hX => rCheckZone_any o q cz pz g X (HS2.out.below hX) hq)
  rw [ht] at HCK
  rw [hz] at HCZ
  have HDT := Lib.hid (fun X hX => rDates_no hk c p X (HS.out.below hX) hn)
  obtain ⟨kE, hkE⟩ : ∃ kE, knownE b u n f s = kE := ⟨_, rfl⟩
  rw [hkE] at HDT hk ⊢
  clear hkE hn hq
  clear hx hy hr hs hs2
  go_enter Tryz.func63, Tryz.ntmps63
  go_upto_region 1 with fail
  clear hW1
  obtain ⟨x0, x1, x2⟩ := HX.out
  have zx := cell_lt x0
  go_upto_region 4 with (go_at_call 34; refine HCK.out.mono ?_; rintro e w2 ⟨rfl, hb2⟩; have HB2 := Lib.hid hb2)
  clear x0 x1 x2 zx hb2
  obtain ⟨y0, y1⟩ := HY.out.below HB2.out
  have zy := cell_lt y0
  go_upto_region 7 with (go_at_call 61; refine (HCZ.out _ HB2.out).mono ?_; rintro e w3 ⟨rfl, hb3⟩; have HB3 := Lib.hid (bt HB2.out hb3))
  clear y0 y1 zy hb3
  obtain ⟨x0, x1, x2⟩ := HX.out.below HB3.out
  have zx := cell_lt x0
  go_upto_region 8 with (go_at_call 43; refine (HDT.out _ HB3.out).mono ?_; rintro e w4 ⟨rfl, hb4⟩; have HB4 := Lib.hid (bt HB3.out hb4))
  clear x0 x1 x2 zx hb4
  have hba := below_alloc (Below.refl w4.heap.size w4) (.cells #[.int .i64 0, .int .i64 0, .int .i64 0, .int .i64 0, .int .i64 0, .int .i64 0] 67)
  have HB5 := Lib.hid (bt HB4.out hba)
  clear hba
  generalize w4.alloc (.cells #[.int .i64 0, .int .i64 0, .int .i64 0, .int .i64 0, .int .i64 0, .int .i64 0] 67) = W5 at *
  obtain ⟨⟨q0, r0⟩, ⟨q1, r1⟩, ⟨q2, r2⟩, ⟨q3, r3⟩, ⟨q4, r4⟩, ⟨q5, r5⟩, rz⟩ := HR.out.below (HB5.out)
  have z0 := rz 0
  have z1 := rz 1
  have z2 := rz 2
  have z3 := rz 3
  have z4 := rz 4
  have z5 := rz 5
  have zr := cell_lt r0
  clear rz
  go_wp2
  refine bodyPost_ret (v := .tuple #[.agg #[.int .i64 0, .int .i64 0, .int .i64 0, .int .i64 0, .int .i64 0, .int .i64 0], .int .i64 0, .int .i64 kE]) (by simp [results, Tryz.results63, go_sem, r0, r1, r2, r3, r4, r5]) rfl ⟨rfl, ?_⟩
  exact (((((((bt A0.out (HB5.out)).setCell (p := ⟨w.heap.size + 1 + 1, _, none⟩) (show w.heap.size ≤ w.heap.size + 1 + 1 by omega) _).setCell (p := ⟨w.heap.size + 1 + 1, _, none⟩) (show w.heap.size ≤ w.heap.size + 1 + 1 by omega) _).setCell (p := ⟨w.heap.size + 1 + 1, _, none⟩) (show w.heap.size ≤ w.heap.size + 1 + 1 by omega) _).setCell (p := ⟨w.heap.size + 1 + 1, _, none⟩) (show w.heap.size ≤ w.heap.size + 1 + 1 by omega) _).setCell (p := ⟨w.heap.size + 1 + 1, _, none⟩) (show w.heap.size ≤ w.heap.size + 1 + 1 by omega) _).setCell (p := ⟨w.heap.size + 1 + 1, _, none⟩) (show w.heap.size ≤ w.heap.size + 1 + 1 by omega) _)
set_option maxRecDepth 100000 in
set_option maxHeartbeats 4000000 in
theorem rLocal_date {b u : Int} {n : Nat} {f : Nat → Int × Int} {o : Int} {q : Nat} {g : Nat → Int × Int} (s : Int) (ht : tabE b u n f = 0) (hz : zoneE o q g = 0) {D : Int} (hD : IsDayOf u n f s D) (hg : ¬ (41317 ≤ (momM f n D s + offAt o g s (q + 1)) / 1440 ∧ (momM f n D s + offAt o g s (q + 1)) / 1440 ≤ 88068)) (c : Nat) (p : Option Addr) (cz : Nat) (pz : Option Addr) (w : World) (hs : LpIn w f n p) (hs2 : LpIn w g q pz) (hn : n ≤ 1000000000000) (hq : q ≤ 1000000000000) :
    Calls Tryz.prog 63 #[.agg #[.int .i64 b, .slice p n c, .int .i64 u], .agg #[.int .i64 o, .slice pz q cz], .int .i64 s] w fun e w' => e = .returned (.tuple #[.agg #[.int .i64 0, .int .i64 0, .int .i64 0, .int .i64 0, .int .i64 0, .int .i64 0], .int .i64 0, .int .i64 90]) ∧ Below w.heap.size w w' := by
  obtain ⟨W1, hW1, hx, hy, hr, A0⟩ := rloc_start w b u n c p o q cz pz
  have HX := Lib.hid hx
  have HY := Lib.hid hy
  have HR := Lib.hid hr
  have A0 := Lib.hid A0
  have HS := Lib.hid (hs.below A0.out)
  have HS2 := Lib.hid (hs2.below A0.out)
  have HCK := Lib.hid (rCheck_any b u n c p f W1 HS.out hn)
  have HCZ := Lib.hid (fun X hX => rCheckZone_any o q cz pz g X (HS2.out.below hX) hq)
  rw [ht] at HCK
  rw [hz] at HCZ
  have HT := tab_ok ht
  have hk : knownE b u n f s = 0 := by
    have h1 := HT.begin_mono (show D + 1 ≤ u by have := hD.d2; omega)
    have h2 := HT.begin_mono hD.d1
    rw [HT.begin_first] at h2
    have hlo := hD.lo; have hhi := hD.hi
    exact known_mk ht (by unfold inB; simp only [Bool.and_eq_true, decide_eq_true_eq]; omega)
  have hmo := mom_of HT hD
  have hd1 := hD.d1; have hd2 := hD.d2; have hu2 := HT.u2
  obtain ⟨ya, ka, ea, hca⟩ := civ_exists D (by omega)
  have HDT := Lib.hid (fun X hX => rDates_ok hk hD hca c p X (HS.out.below hX))
  have HHO := Lib.hid (fun X hX => holds_any o q cz pz g s X (HS2.out.below hX) hq)
  have hof := (zone_ok hz).offAt_bd s (q + 1) (Nat.le_refl _)
  have hpa : 1440 * dayN ya ka ea + (60 * hrS (s - beginS f n D) + mnS (s - beginS f n D) + offAt o g s (q + 1)) = momM f n D s + offAt o g s (q + 1) := by
    rw [← hca.n_]; unfold momM hrS mnS; omega
  have hr1 : 0 ≤ hrS (s - beginS f n D) ∧ hrS (s - beginS f n D) ≤ 23 := by have := hmo.m0; unfold hrS; omega
  have hr2 : 0 ≤ mnS (s - beginS f n D) ∧ mnS (s - beginS f n D) ≤ 59 := by unfold mnS; omega
  have HMV := Lib.hid (fun X => moved_no hca.toIsDate (hrS (s - beginS f n D)) (mnS (s - beginS f n D)) (scS (s - beginS f n D)) (offAt o g s (q + 1)) hr1 hr2 hof (by rw [hpa]; exact hg) X)
  generalize offAt o g s (q + 1) = of at *
  generalize scS (s - beginS f n D) = sc0 at *
  clear hg
  generalize hrS (s - beginS f n D) = hr0 at *
  generalize mnS (s - beginS f n D) = mn0 at *
  generalize (ka : Int) = kai at *
  clear hk hmo hd1 hd2 hpa hca hr1 hr2 hn hq HT ht hz hD hof hu2
  clear hx hy hr hs hs2
  go_enter Tryz.func63, Tryz.ntmps63
  go_upto_region 1 with fail
  clear hW1
  obtain ⟨x0, x1, x2⟩ := HX.out
  have zx := cell_lt x0
  go_upto_region 4 with (go_at_call 34; refine HCK.out.mono ?_; rintro e w2 ⟨rfl, hb2⟩; have HB2 := Lib.hid hb2)
  clear x0 x1 x2 zx hb2
  obtain ⟨y0, y1⟩ := HY.out.below HB2.out
  have zy := cell_lt y0
  go_upto_region 7 with (go_at_call 61; refine (HCZ.out _ HB2.out).mono ?_; rintro e w3 ⟨rfl, hb3⟩; have HB3 := Lib.hid (bt HB2.out hb3))
  clear y0 y1 zy hb3
  obtain ⟨x0, x1, x2⟩ := HX.out.below HB3.out
  have zx := cell_lt x0
  go_upto_region 8 with (go_at_call 43; refine (HDT.out _ HB3.out).mono ?_; rintro e w4 ⟨rfl, hb4⟩; have HB4 := Lib.hid (bt HB3.out hb4))
  clear x0 x1 x2 zx hb4
  have hba := below_alloc (Below.refl w4.heap.size w4) (.cells #[.int .i64 ya, .int .i64 kai, .int .i64 ea, .int .i64 hr0, .int .i64 mn0, .int .i64 sc0] 67)
  have HB5 := Lib.hid (bt HB4.out hba)
  have HD5 : Hid (DBox (w4.alloc (.cells #[.int .i64 ya, .int .i64 kai, .int .i64 ea, .int .i64 hr0, .int .i64 mn0, .int .i64 sc0] 67)) w4.heap.size ya kai ea hr0 mn0 sc0) := Lib.hid ⟨by simp, by simp, by simp, by simp, by simp, by simp⟩
  clear hba
  generalize w4.alloc (.cells #[.int .i64 ya, .int .i64 kai, .int .i64 ea, .int .i64 hr0, .int .i64 mn0, .int .i64 sc0] 67) = W5 at *
  generalize w4.heap.size = ad at *
  obtain ⟨y0, y1⟩ := HY.out.below HB5.out
  have zy := cell_lt y0
  go_upto_region 11 with (go_at_call 124; refine (HHO.out _ HB5.out).mono ?_; rintro e w6 ⟨rfl, hb6⟩; have HB6 := Lib.hid (bt HB5.out hb6); have HD6 := Lib.hid (HD5.out.below hb6))
  clear y0 y1 zy hb6
  obtain ⟨d0, d1, d2, d3, d4, d5⟩ := HD6.out
  have zd := cell_lt d0
  go_upto_region 12 with (go_at_call 125; refine (HMV.out _).mono ?_; rintro e w7 ⟨rfl, hb7⟩; have HB7 := Lib.hid (bt HB6.out hb7))
  clear d0 d1 d2 d3 d4 d5 zd hb7
  have hbm := below_alloc (Below.refl w7.heap.size w7) (.cells #[.int .i64 0, .int .i64 0, .int .i64 0, .int .i64 0, .int .i64 0, .int .i64 0] 67)
  have HB8 := Lib.hid (bt HB7.out hbm)
  have HD8 : Hid (DBox (w7.alloc (.cells #[.int .i64 0, .int .i64 0, .int .i64 0, .int .i64 0, .int .i64 0, .int .i64 0] 67)) w7.heap.size 0 0 0 0 0 0) := Lib.hid ⟨by simp, by simp, by simp, by simp, by simp, by simp⟩
  clear hbm
  generalize w7.alloc (.cells #[.int .i64 0, .int .i64 0, .int .i64 0, .int .i64 0, .int .i64 0, .int .i64 0] 67) = W8 at *
  generalize w7.heap.size = am at *
  obtain ⟨⟨q0, r0⟩, ⟨q1, r1⟩, ⟨q2, r2⟩, ⟨q3, r3⟩, ⟨q4, r4⟩, ⟨q5, r5⟩, rz⟩ := HR.out.below (HB8.out)
  have z0 := rz 0
  have z1 := rz 1
  have z2 := rz 2
  have z3 := rz 3
  have z4 := rz 4
  have z5 := rz 5
  have zr := cell_lt r0
  clear rz
  go_wp2
  refine bodyPost_ret (v := .tuple #[.agg #[.int .i64 0, .int .i64 0, .int .i64 0, .int .i64 0, .int .i64 0, .int .i64 0], .int .i64 0, .int .i64 90]) (by simp [results, Tryz.results63, go_sem, r0, r1, r2, r3, r4, r5]) rfl ⟨rfl, ?_⟩
  exact (((((((bt A0.out (HB8.out)).setCell (p := ⟨w.heap.size + 1 + 1, _, none⟩) (show w.heap.size ≤ w.heap.size + 1 + 1 by omega) _).setCell (p := ⟨w.heap.size + 1 + 1, _, none⟩) (show w.heap.size ≤ w.heap.size + 1 + 1 by omega) _).setCell (p := ⟨w.heap.size + 1 + 1, _, none⟩) (show w.heap.size ≤ w.heap.size + 1 + 1 by omega) _).setCell (p := ⟨w.heap.size + 1 + 1, _, none⟩) (show w.heap.size ≤ w.heap.size + 1 + 1 by omega) _).setCell (p := ⟨w.heap.size + 1 + 1, _, none⟩) (show w.heap.size ≤ w.heap.size + 1 + 1 by omega) _).setCell (p := ⟨w.heap.size + 1 + 1, _, none⟩) (show w.heap.size ≤ w.heap.size + 1 + 1 by omega) _)
set_option maxRecDepth 100000 in
set_option maxHeartbeats 4000000 in
theorem rLocal_ok {b u : Int} {n : Nat} {f : Nat → Int × Int} {o : Int} {q : Nat} {g : Nat → Int × Int} (s : Int) (ht : tabE b u n f = 0) (hz : zoneE o q g = 0) {D : Int} (hD : IsDayOf u n f s D) {y : Int} {k : Nat} {d : Int} (hci : IsCiv ((momM f n D s + offAt o g s (q + 1)) / 1440) y k d) {mm of hh mi sc0 : Int} (hmm : momM f n D s = mm) (hsc : momS f n D s = sc0) (hoff : offAt o g s (q + 1) = of) (hhh : (mm + of) % 1440 / 60 = hh) (hmi : (mm + of) % 1440 % 60 = mi) (c : Nat) (p : Option Addr) (cz : Nat) (pz : Option Addr) (w : World) (hs : LpIn w f n p) (hs2 : LpIn w g q pz) (hn : n ≤ 1000000000000) (hq : q ≤ 1000000000000) :
    Calls Tryz.prog 63 #[.agg #[.int .i64 b, .slice p n c, .int .i64 u], .agg #[.int .i64 o, .slice pz q cz], .int .i64 s] w fun e w' => e = .returned (.tuple #[.agg #[.int .i64 y, .int .i64 (k : Int), .int .i64 d, .int .i64 hh, .int .i64 mi, .int .i64 sc0], .int .i64 of, .int .i64 0]) ∧ Below w.heap.size w w' := by
  obtain ⟨W1, hW1, hx, hy, hr, A0⟩ := rloc_start w b u n c p o q cz pz
  have HX := Lib.hid hx
  have HY := Lib.hid hy
  have HR := Lib.hid hr
  have A0 := Lib.hid A0
  have HS := Lib.hid (hs.below A0.out)
  have HS2 := Lib.hid (hs2.below A0.out)
  have HCK := Lib.hid (rCheck_any b u n c p f W1 HS.out hn)
  have HCZ := Lib.hid (fun X hX => rCheckZone_any o q cz pz g X (HS2.out.below hX) hq)
  rw [ht] at HCK
  rw [hz] at HCZ
  have HT := tab_ok ht
  have hk : knownE b u n f s = 0 := by
    have h1 := HT.begin_mono (show D + 1 ≤ u by have := hD.d2; omega)
    have h2 := HT.begin_mono hD.d1
    rw [HT.begin_first] at h2
    have hlo := hD.lo; have hhi := hD.hi
    exact known_mk ht (by unfold inB; simp only [Bool.and_eq_true, decide_eq_true_eq]; omega)
  have hmo := mom_of HT hD
  have hd1 := hD.d1; have hd2 := hD.d2; have hu2 := HT.u2
  obtain ⟨ya, ka, ea, hca⟩ := civ_exists D (by omega)
  have HDT := Lib.hid (fun X hX => rDates_ok hk hD hca c p X (HS.out.below hX))
  have HHO := Lib.hid (fun X hX => holds_any o q cz pz g s X (HS2.out.below hX) hq)
  have hof := (zone_ok hz).offAt_bd s (q + 1) (Nat.le_refl _)
  have hpa : 1440 * dayN ya ka ea + (60 * hrS (s - beginS f n D) + mnS (s - beginS f n D) + offAt o g s (q + 1)) = momM f n D s + offAt o g s (q + 1) := by
    rw [← hca.n_]; unfold momM hrS mnS; omega
  have hr1 : 0 ≤ hrS (s - beginS f n D) ∧ hrS (s - beginS f n D) ≤ 23 := by have := hmo.m0; unfold hrS; omega
  have hr2 : 0 ≤ mnS (s - beginS f n D) ∧ mnS (s - beginS f n D) ≤ 59 := by unfold mnS; omega
  have hsc2 : scS (s - beginS f n D) = sc0 := hsc
  rw [hsc2] at HDT
  rw [hoff] at HHO hof hpa hci
  rw [hmm] at hpa hci
  have HMV := Lib.hid (fun X => moved_ok (h2 := hh) (mi2 := mi) hca.toIsDate (hrS (s - beginS f n D)) (mnS (s - beginS f n D)) sc0 of hr1 hr2 hof (by rw [hpa]; exact hci) (by rw [hpa]; exact hhh) (by rw [hpa]; exact hmi) X)
  clear hsc hsc2 hoff hmm hhh hmi hci
  generalize hrS (s - beginS f n D) = hr0 at *
  generalize mnS (s - beginS f n D) = mn0 at *
  generalize (ka : Int) = kai at *
  clear hk hmo hd1 hd2 hpa hca hr1 hr2 hn hq HT ht hz hD hof hu2
  clear hx hy hr hs hs2
  go_enter Tryz.func63, Tryz.ntmps63
  go_upto_region 1 with fail
  clear hW1
  obtain ⟨x0, x1, x2⟩ := HX.out
  have zx := cell_lt x0
  go_upto_region 4 with (go_at_call 34; refine HCK.out.mono ?_; rintro e w2 ⟨rfl, hb2⟩; have HB2 := Lib.hid hb2)
  clear x0 x1 x2 zx hb2
  obtain ⟨y0, y1⟩ := HY.out.below HB2.out
  have zy := cell_lt y0
  go_upto_region 7 with (go_at_call 61; refine (HCZ.out _ HB2.out).mono ?_; rintro e w3 ⟨rfl, hb3⟩; have HB3 := Lib.hid (bt HB2.out hb3))
  clear y0 y1 zy hb3
  obtain ⟨x0, x1, x2⟩ := HX.out.below HB3.out
  have zx := cell_lt x0
  go_upto_region 8 with (go_at_call 43; refine (HDT.out _ HB3.out).mono ?_; rintro e w4 ⟨rfl, hb4⟩; have HB4 := Lib.hid (bt HB3.out hb4))
  clear x0 x1 x2 zx hb4
  have hba := below_alloc (Below.refl w4.heap.size w4) (.cells #[.int .i64 ya, .int .i64 kai, .int .i64 ea, .int .i64 hr0, .int .i64 mn0, .int .i64 sc0] 67)
  have HB5 := Lib.hid (bt HB4.out hba)
  have HD5 : Hid (DBox (w4.alloc (.cells #[.int .i64 ya, .int .i64 kai, .int .i64 ea, .int .i64 hr0, .int .i64 mn0, .int .i64 sc0] 67)) w4.heap.size ya kai ea hr0 mn0 sc0) := Lib.hid ⟨by simp, by simp, by simp, by simp, by simp, by simp⟩
  clear hba
  generalize w4.alloc (.cells #[.int .i64 ya, .int .i64 kai, .int .i64 ea, .int .i64 hr0, .int .i64 mn0, .int .i64 sc0] 67) = W5 at *
  generalize w4.heap.size = ad at *
  obtain ⟨y0, y1⟩ := HY.out.below HB5.out
  have zy := cell_lt y0
  go_upto_region 11 with (go_at_call 124; refine (HHO.out _ HB5.out).mono ?_; rintro e w6 ⟨rfl, hb6⟩; have HB6 := Lib.hid (bt HB5.out hb6); have HD6 := Lib.hid (HD5.out.below hb6))
  clear y0 y1 zy hb6
  obtain ⟨d0, d1, d2, d3, d4, d5⟩ := HD6.out
  have zd := cell_lt d0
  go_upto_region 12 with (go_at_call 125; refine (HMV.out _).mono ?_; rintro e w7 ⟨rfl, hb7⟩; have HB7 := Lib.hid (bt HB6.out hb7))
  clear d0 d1 d2 d3 d4 d5 zd hb7
  have hbm := below_alloc (Below.refl w7.heap.size w7) (.cells #[.int .i64 y, .int .i64 (k : Int), .int .i64 d, .int .i64 hh, .int .i64 mi, .int .i64 sc0] 67)
  have HB8 := Lib.hid (bt HB7.out hbm)
  have HD8 : Hid (DBox (w7.alloc (.cells #[.int .i64 y, .int .i64 (k : Int), .int .i64 d, .int .i64 hh, .int .i64 mi, .int .i64 sc0] 67)) w7.heap.size y (k : Int) d hh mi sc0) := Lib.hid ⟨by simp, by simp, by simp, by simp, by simp, by simp⟩
  clear hbm
  generalize w7.alloc (.cells #[.int .i64 y, .int .i64 (k : Int), .int .i64 d, .int .i64 hh, .int .i64 mi, .int .i64 sc0] 67) = W8 at *
  generalize w7.heap.size = am at *
  obtain ⟨⟨q0, r0⟩, ⟨q1, r1⟩, ⟨q2, r2⟩, ⟨q3, r3⟩, ⟨q4, r4⟩, ⟨q5, r5⟩, rz⟩ := HR.out.below (HB8.out)
  have z0 := rz 0
  have z1 := rz 1
  have z2 := rz 2
  have z3 := rz 3
  have z4 := rz 4
  have z5 := rz 5
  have zr := cell_lt r0
  clear rz
  obtain ⟨d0, d1, d2, d3, d4, d5⟩ := HD8.out
  have zd := cell_lt d0
  go_wp2
  refine bodyPost_ret (v := .tuple #[.agg #[.int .i64 y, .int .i64 (k : Int), .int .i64 d, .int .i64 hh, .int .i64 mi, .int .i64 sc0], .int .i64 of, .int .i64 0]) (by simp [results, Tryz.results63, go_sem, r0, r1, r2, r3, r4, r5]) rfl ⟨rfl, ?_⟩
  exact (((((((bt A0.out (HB8.out)).setCell (p := ⟨w.heap.size + 1 + 1, _, none⟩) (show w.heap.size ≤ w.heap.size + 1 + 1 by omega) _).setCell (p := ⟨w.heap.size + 1 + 1, _, none⟩) (show w.heap.size ≤ w.heap.size + 1 + 1 by omega) _).setCell (p := ⟨w.heap.size + 1 + 1, _, none⟩) (show w.heap.size ≤ w.heap.size + 1 + 1 by omega) _).setCell (p := ⟨w.heap.size + 1 + 1, _, none⟩) (show w.heap.size ≤ w.heap.size + 1 + 1 by omega) _).setCell (p := ⟨w.heap.size + 1 + 1, _, none⟩) (show w.heap.size ≤ w.heap.size + 1 + 1 by omega) _).setCell (p := ⟨w.heap.size + 1 + 1, _, none⟩) (show w.heap.size ≤ w.heap.size + 1 + 1 by omega) _)
end Go.Proofs.YtgnfaemnehmgcaaGreatDoor.Cal
