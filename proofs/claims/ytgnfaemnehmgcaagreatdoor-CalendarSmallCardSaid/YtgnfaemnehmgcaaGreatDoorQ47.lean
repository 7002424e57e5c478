/-  ·  -/
import Derived.Test.YtgnfaemnehmgcaaGreatDoorQ46
import Derived.Test.YtgnfaemnehmgcaaGreatDoorQ43
import Derived.Test.YtgnfaemnehmgcaaGreatDoorQ44
import Derived.Test.YtgnfaemnehmgcaaGreatDoorQ42
import Derived.Test.YtgnfaemnehmgcaaGreatDoorQ17
namespace Go.Proofs.YtgnfaemnehmgcaaGreatDoor.Cal
open Go Go.RowKit
attribute [local go_sem] Oper.semAt_some
theorem or_two_q (x y : Int) : orF (fun i => if i = 0 then x else y) 2 = if x = 0 then y else x := by
  simp [orF]
set_option maxRecDepth 100000 in
set_option maxHeartbeats 4000000 in
theorem FromLocal_tab {b u : Int} {n : Nat} {f : Nat → Int × Int} {o : Int} {q : Nat} {g : Nat → Int × Int} (ht : tabE b u n f ≠ 0) (y m d h mi s : Int) (c : Nat) (p : Option Addr) (cz : Nat) (pz : Option Addr) (w : World) (hw : Mon w) (hs : LpIn w f n p) (hs2 : LpIn w g q pz) (hn : n ≤ 1000000000000) (hq : q ≤ 1000000000000) :
    Calls Tryz.prog 64 #[.agg #[.int .i64 b, .slice p n c, .int .i64 u], .agg #[.int .i64 o, .slice pz q cz], .agg #[.int .i64 y, .int .i64 m, .int .i64 d, .int .i64 h, .int .i64 mi, .int .i64 s]] w fun e w' => e = .returned (.tuple #[.slice none 0 0, .int .i64 (tabE b u n f)]) ∧ Below w.heap.size w w' := by
  obtain ⟨W1, hW1, hx, hy, hdb, A0, -⟩ := fl_start w b u n c p o q cz pz y m d h mi s
  have HX := Lib.hid hx
  have HY := Lib.hid hy
  have HDB := Lib.hid hdb
  have A0 := Lib.hid A0
  have HW := Lib.hid (hw.below A0.out)
  have HS := Lib.hid (hs.below A0.out)
  have HS2 := Lib.hid (hs2.below A0.out)
  have HCZ := Lib.hid (fun X (hX : Below W1.heap.size W1 X) => CheckZone_any o q cz pz g X (HS2.out.below hX) hq)
  obtain ⟨tE, htE⟩ : ∃ tE, tabE b u n f = tE := ⟨_, rfl⟩
  obtain ⟨zE, hzE⟩ : ∃ zE, zoneE o q g = zE := ⟨_, rfl⟩
  rw [hzE] at HCZ
  have HOP := Lib.hid (open_no b u n c p f W1 HW.out HS.out hn ht)
  rw [htE] at HOP ht ⊢
  have HEE := Lib.hid (show (if tE = 0 then zE else tE) = tE from if_neg ht)
  clear htE hzE hn hq
  clear hx hy hdb hw hs hs2
  go_enter Tryz.func64, Tryz.ntmps64
  go_upto_region 1 with fail
  clear hW1
  obtain ⟨x0, x1, x2⟩ := HX.out
  have zx := cell_lt x0
  go_upto_region 2 with (go_at_call 82; refine HOP.out.mono ?_; rintro e w2 ⟨rfl, hb2⟩; have HB2 := Lib.hid hb2; clear hb2)
  clear x0 x1 x2 zx
  have hb3 := below_alloc (Below.refl w2.heap.size w2) (.cells #[.int .i64 0, .slice none 0 0, .int .i64 0, .map none] 132)
  have HB3 := Lib.hid (bt HB2.out hb3)
  clear hb3
  generalize w2.alloc (.cells #[.int .i64 0, .slice none 0 0, .int .i64 0, .map none] 132) = W3 at *
  generalize w2.heap.size = aw at *
  obtain ⟨y0, y1⟩ := HY.out.below HB3.out
  have zy := cell_lt y0
  have HCZ3 := Lib.hid (HCZ.out W3 HB3.out)
  have HOR := Lib.hid (fun X (hX : Below W3.heap.size W3 X) => by
    have := Calls.bel (bt hX (below_alloc (Below.refl X.heap.size X) (.cells #[.int .i64 tE, .int .i64 zE] 50))) (or_any _ 2 2 _ _ (by decide) (two_e X tE zE 50))
    rw [or_two_q, HEE.out] at this
    exact this)
  clear HCZ
  go_wp2_with (first | (go_at_call 60; refine HCZ3.out.mono ?_; rintro e w4 ⟨rfl, hb4⟩; have HB4 := Lib.hid hb4) | (go_at_call 71; refine (HOR.out _ HB4.out).mono ?_; rintro e w5 ⟨rfl, hb5⟩; have HB5 := Lib.hid (bt HB3.out hb5)))
  go_ret2
  exact ⟨rfl, bt A0.out HB5.out⟩
set_option maxRecDepth 100000 in
set_option maxHeartbeats 4000000 in
theorem FromLocal_zone {b u : Int} {n : Nat} {f : Nat → Int × Int} {o : Int} {q : Nat} {g : Nat → Int × Int} (ht : tabE b u n f = 0) (hz : zoneE o q g ≠ 0) (y m d h mi s : Int) (c : Nat) (p : Option Addr) (cz : Nat) (pz : Option Addr) (w : World) (hw : Mon w) (hs : LpIn w f n p) (hs2 : LpIn w g q pz) (hn : n ≤ 1000000000000) (hq : q ≤ 1000000000000) :
    Calls Tryz.prog 64 #[.agg #[.int .i64 b, .slice p n c, .int .i64 u], .agg #[.int .i64 o, .slice pz q cz], .agg #[.int .i64 y, .int .i64 m, .int .i64 d, .int .i64 h, .int .i64 mi, .int .i64 s]] w fun e w' => e = .returned (.tuple #[.slice none 0 0, .int .i64 (zoneE o q g)]) ∧ Below w.heap.size w w' := by
  obtain ⟨W1, hW1, hx, hy, hdb, A0, -⟩ := fl_start w b u n c p o q cz pz y m d h mi s
  have HX := Lib.hid hx
  have HY := Lib.hid hy
  have HDB := Lib.hid hdb
  have A0 := Lib.hid A0
  have HW := Lib.hid (hw.below A0.out)
  have HS := Lib.hid (hs.below A0.out)
  have HS2 := Lib.hid (hs2.below A0.out)
  have HCZ := Lib.hid (fun X (hX : Below W1.heap.size W1 X) => CheckZone_any o q cz pz g X (HS2.out.below hX) hq)
  obtain ⟨tE, htE⟩ : ∃ tE, tabE b u n f = tE := ⟨_, rfl⟩
  obtain ⟨zE, hzE⟩ : ∃ zE, zoneE o q g = zE := ⟨_, rfl⟩
  rw [hzE] at HCZ
  have HOP := Lib.hid (open_ok b u n c p f W1 HW.out HS.out hn ht)
  rw [hzE] at hz ⊢
  clear htE hzE hn hq ht
  clear hx hy hdb hw hs hs2
  go_enter Tryz.func64, Tryz.ntmps64
  go_upto_region 1 with fail
  clear hW1
  obtain ⟨x0, x1, x2⟩ := HX.out
  have zx := cell_lt x0
  go_upto_region 2 with (go_at_call 82; refine HOP.out.mono ?_; rintro e w2 ⟨mb, rfl, hM, hb2⟩; have HB2 := Lib.hid hb2; clear hM hb2)
  clear x0 x1 x2 zx
  have hb3 := below_alloc (Below.refl w2.heap.size w2) (.cells #[.int .i64 b, .slice p n c, .int .i64 u, .map (some mb)] 132)
  have HB3 := Lib.hid (bt HB2.out hb3)
  clear hb3
  generalize w2.alloc (.cells #[.int .i64 b, .slice p n c, .int .i64 u, .map (some mb)] 132) = W3 at *
  generalize w2.heap.size = aw at *
  obtain ⟨y0, y1⟩ := HY.out.below HB3.out
  have zy := cell_lt y0
  have HCZ3 := Lib.hid (HCZ.out W3 HB3.out)
  have HOR := Lib.hid (fun X (hX : Below W3.heap.size W3 X) => by
    have := Calls.bel (bt hX (below_alloc (Below.refl X.heap.size X) (.cells #[.int .i64 0, .int .i64 zE] 50))) (or_any _ 2 2 _ _ (by decide) (two_e X 0 zE 50))
    rw [or_two_q, if_pos rfl] at this
    exact this)
  clear HCZ
  go_wp2_with (first | (go_at_call 60; refine HCZ3.out.mono ?_; rintro e w4 ⟨rfl, hb4⟩; have HB4 := Lib.hid hb4) | (go_at_call 71; refine (HOR.out _ HB4.out).mono ?_; rintro e w5 ⟨rfl, hb5⟩; have HB5 := Lib.hid (bt HB3.out hb5)))
  go_ret2
  exact ⟨rfl, bt A0.out HB5.out⟩
set_option maxRecDepth 100000 in
set_option maxHeartbeats 4000000 in
theorem FromLocal_mom {b u : Int} {n : Nat} {f : Nat → Int × Int} {o : Int} {q : Nat} {g : Nat → Int × Int} (ht : tabE b u n f = 0) (hz : zoneE o q g = 0) (y m d h mi s : Int) (hm : momB y m d h mi s = false) (c : Nat) (p : Option Addr) (cz : Nat) (pz : Option Addr) (w : World) (hw : Mon w) (hs : LpIn w f n p) (hs2 : LpIn w g q pz) (hn : n ≤ 1000000000000) (hq : q ≤ 1000000000000) :
    Calls Tryz.prog 64 #[.agg #[.int .i64 b, .slice p n c, .int .i64 u], .agg #[.int .i64 o, .slice pz q cz], .agg #[.int .i64 y, .int .i64 m, .int .i64 d, .int .i64 h, .int .i64 mi, .int .i64 s]] w fun e w' => e = .returned (.tuple #[.slice none 0 0, .int .i64 90]) ∧ Below w.heap.size w w' := by
  obtain ⟨W1, hW1, hx, hy, hdb, A0, -⟩ := fl_start w b u n c p o q cz pz y m d h mi s
  have HX := Lib.hid hx
  have HY := Lib.hid hy
  have HDB := Lib.hid hdb
  have A0 := Lib.hid A0
  have HW := Lib.hid (hw.below A0.out)
  have HS := Lib.hid (hs.below A0.out)
  have HS2 := Lib.hid (hs2.below A0.out)
  have HCZ := Lib.hid (fun X (hX : Below W1.heap.size W1 X) => CheckZone_any o q cz pz g X (HS2.out.below hX) hq)
  obtain ⟨tE, htE⟩ : ∃ tE, tabE b u n f = tE := ⟨_, rfl⟩
  obtain ⟨zE, hzE⟩ : ∃ zE, zoneE o q g = zE := ⟨_, rfl⟩
  rw [hzE] at HCZ
  have HOP := Lib.hid (open_ok b u n c p f W1 HW.out HS.out hn ht)
  rw [show zE = 0 by rw [← hzE]; exact hz] at HCZ
  have HMO := Lib.hid (fun X (hX : Mon X) => dmoment_no y m d h mi s X hX hm)
  clear htE hzE hn hq ht hz hm
  clear hx hy hdb hw hs hs2
  go_enter Tryz.func64, Tryz.ntmps64
  go_upto_region 1 with fail
  clear hW1
  obtain ⟨x0, x1, x2⟩ := HX.out
  have zx := cell_lt x0
  go_upto_region 2 with (go_at_call 82; refine HOP.out.mono ?_; rintro e w2 ⟨mb, rfl, hM, hb2⟩; have HB2 := Lib.hid hb2; clear hM hb2)
  clear x0 x1 x2 zx
  have hb3 := below_alloc (Below.refl w2.heap.size w2) (.cells #[.int .i64 b, .slice p n c, .int .i64 u, .map (some mb)] 132)
  have HB3 := Lib.hid (bt HB2.out hb3)
  clear hb3
  generalize w2.alloc (.cells #[.int .i64 b, .slice p n c, .int .i64 u, .map (some mb)] 132) = W3 at *
  generalize w2.heap.size = aw at *
  obtain ⟨y0, y1⟩ := HY.out.below HB3.out
  have zy := cell_lt y0
  have HCZ3 := Lib.hid (HCZ.out W3 HB3.out)
  have HOR := Lib.hid (fun X (hX : Below W3.heap.size W3 X) => by
    have := Calls.bel (bt hX (below_alloc (Below.refl X.heap.size X) (.cells #[.int .i64 0, .int .i64 0] 50))) (or_any _ 2 2 _ _ (by decide) (two_e X 0 0 50))
    rw [or_two_q, if_pos rfl] at this
    exact this)
  clear HCZ
  go_upto_region 5 with (first | (go_at_call 60; refine HCZ3.out.mono ?_; rintro e w4 ⟨rfl, hb4⟩; have HB4 := Lib.hid hb4) | (go_at_call 71; refine (HOR.out _ HB4.out).mono ?_; rintro e w5 ⟨rfl, hb5⟩; have HB5 := Lib.hid (bt HB3.out hb5)))
  clear y0 y1 zy
  obtain ⟨d0, d1, d2, d3, d4, d5⟩ := HDB.out.below HB5.out
  have zd := cell_lt d0
  have HMO5 := Lib.hid (HMO.out _ (HW.out.below HB5.out))
  go_wp2_with (go_at_call 83; refine HMO5.out.mono ?_; rintro e w6 ⟨rfl, hb6⟩; have HB6 := Lib.hid (bt HB5.out (bt hb6 (below_alloc (Below.refl w6.heap.size w6) (.cells #[.int .i64 0, .int .i64 0] 136)))))
  go_ret2
  exact ⟨rfl, bt A0.out HB6.out⟩
set_option maxRecDepth 100000 in
set_option maxHeartbeats 4000000 in
theorem rFromLocal_tab {b u : Int} {n : Nat} {f : Nat → Int × Int} {o : Int} {q : Nat} {g : Nat → Int × Int} (ht : tabE b u n f ≠ 0) (y m d h mi s : Int) (c : Nat) (p : Option Addr) (cz : Nat) (pz : Option Addr) (w : World) (hs : LpIn w f n p) (hs2 : LpIn w g q pz) (hn : n ≤ 1000000000000) (hq : q ≤ 1000000000000) :
    Calls Tryz.prog 65 #[.agg #[.int .i64 b, .slice p n c, .int .i64 u], .agg #[.int .i64 o, .slice pz q cz], .agg #[.int .i64 y, .int .i64 m, .int .i64 d, .int .i64 h, .int .i64 mi, .int .i64 s]] w fun e w' => e = .returned (.tuple #[.slice none 0 0, .int .i64 (tabE b u n f)]) ∧ Below w.heap.size w w' := by
  obtain ⟨W1, hW1, hx, hy, hdb, A0⟩ := rfl_start w b u n c p o q cz pz y m d h mi s
  have HX := Lib.hid hx
  have HY := Lib.hid hy
  have HDB := Lib.hid hdb
  have A0 := Lib.hid A0
  have HCK := Lib.hid (rCheck_any b u n c p f W1 (hs.below A0.out) hn)
  have HCZ := Lib.hid (fun X (hX : Below W1.heap.size W1 X) => rCheckZone_any o q cz pz g X ((hs2.below A0.out).below hX) hq)
  obtain ⟨tE, htE⟩ : ∃ tE, tabE b u n f = tE := ⟨_, rfl⟩
  rw [htE] at HCK ht ⊢
  clear htE HCZ hn hq
  clear hx hy hdb hs hs2
  go_enter Tryz.func65, Tryz.ntmps65
  go_upto_region 1 with fail
  clear hW1
  obtain ⟨x0, x1, x2⟩ := HX.out
  have zx := cell_lt x0
  go_wp2_with (go_at_call 34; refine HCK.out.mono ?_; rintro e w2 ⟨rfl, hb2⟩; have HB2 := Lib.hid hb2)
  go_ret2
  exact ⟨rfl, bt A0.out HB2.out⟩
set_option maxRecDepth 100000 in
set_option maxHeartbeats 4000000 in
theorem rFromLocal_zone {b u : Int} {n : Nat} {f : Nat → Int × Int} {o : Int} {q : Nat} {g : Nat → Int × Int} (ht : tabE b u n f = 0) (hz : zoneE o q g ≠ 0) (y m d h mi s : Int) (c : Nat) (p : Option Addr) (cz : Nat) (pz : Option Addr) (w : World) (hs : LpIn w f n p) (hs2 : LpIn w g q pz) (hn : n ≤ 1000000000000) (hq : q ≤ 1000000000000) :
    Calls Tryz.prog 65 #[.agg #[.int .i64 b, .slice p n c, .int .i64 u], .agg #[.int .i64 o, .slice pz q cz], .agg #[.int .i64 y, .int .i64 m, .int .i64 d, .int .i64 h, .int .i64 mi, .int .i64 s]] w fun e w' => e = .returned (.tuple #[.slice none 0 0, .int .i64 (zoneE o q g)]) ∧ Below w.heap.size w w' := by
  obtain ⟨W1, hW1, hx, hy, hdb, A0⟩ := rfl_start w b u n c p o q cz pz y m d h mi s
  have HX := Lib.hid hx
  have HY := Lib.hid hy
  have HDB := Lib.hid hdb
  have A0 := Lib.hid A0
  have HCK := Lib.hid (rCheck_any b u n c p f W1 (hs.below A0.out) hn)
  have HCZ := Lib.hid (fun X (hX : Below W1.heap.size W1 X) => rCheckZone_any o q cz pz g X ((hs2.below A0.out).below hX) hq)
  rw [ht] at HCK
  obtain ⟨zE, hzE⟩ : ∃ zE, zoneE o q g = zE := ⟨_, rfl⟩
  rw [hzE] at HCZ hz ⊢
  clear hzE hn hq ht
  clear hx hy hdb hs hs2
  go_enter Tryz.func65, Tryz.ntmps65
  go_upto_region 1 with fail
  clear hW1
  obtain ⟨x0, x1, x2⟩ := HX.out
  have zx := cell_lt x0
  go_upto_region 4 with (go_at_call 34; refine HCK.out.mono ?_; rintro e w2 ⟨rfl, hb2⟩; have HB2 := Lib.hid hb2)
  clear x0 x1 x2 zx hb2
  obtain ⟨y0, y1⟩ := HY.out.below HB2.out
  have zy := cell_lt y0
  go_wp2_with (go_at_call 61; refine (HCZ.out _ HB2.out).mono ?_; rintro e w3 ⟨rfl, hb3⟩; have HB3 := Lib.hid (bt HB2.out hb3))
  go_ret2
  exact ⟨rfl, bt A0.out HB3.out⟩
set_option maxRecDepth 100000 in
set_option maxHeartbeats 4000000 in
theorem rFromLocal_day {b u : Int} {n : Nat} {f : Nat → Int × Int} {o : Int} {q : Nat} {g : Nat → Int × Int} (ht : tabE b u n f = 0) (hz : zoneE o q g = 0) (y m d h mi s : Int) (hm : okDate y m d = false) (c : Nat) (p : Option Addr) (cz : Nat) (pz : Option Addr) (w : World) (hs : LpIn w f n p) (hs2 : LpIn w g q pz) (hn : n ≤ 1000000000000) (hq : q ≤ 1000000000000) :
    Calls Tryz.prog 65 #[.agg #[.int .i64 b, .slice p n c, .int .i64 u], .agg #[.int .i64 o, .slice pz q cz], .agg #[.int .i64 y, .int .i64 m, .int .i64 d, .int .i64 h, .int .i64 mi, .int .i64 s]] w fun e w' => e = .returned (.tuple #[.slice none 0 0, .int .i64 90]) ∧ Below w.heap.size w w' := by
  obtain ⟨W1, hW1, hx, hy, hdb, A0⟩ := rfl_start w b u n c p o q cz pz y m d h mi s
  have HX := Lib.hid hx
  have HY := Lib.hid hy
  have HDB := Lib.hid hdb
  have A0 := Lib.hid A0
  have HCK := Lib.hid (rCheck_any b u n c p f W1 (hs.below A0.out) hn)
  have HCZ := Lib.hid (fun X (hX : Below W1.heap.size W1 X) => rCheckZone_any o q cz pz g X ((hs2.below A0.out).below hX) hq)
  rw [ht] at HCK
  rw [hz] at HCZ
  have HDY := Lib.hid (fun X => rDay_no y m d X hm)
  clear hm
  clear hn hq ht hz
  clear hx hy hdb hs hs2
  go_enter Tryz.func65, Tryz.ntmps65
  go_upto_region 1 with fail
  clear hW1
  obtain ⟨x0, x1, x2⟩ := HX.out
  have zx := cell_lt x0
  go_upto_region 4 with (go_at_call 34; refine HCK.out.mono ?_; rintro e w2 ⟨rfl, hb2⟩; have HB2 := Lib.hid hb2)
  clear x0 x1 x2 zx hb2
  obtain ⟨y0, y1⟩ := HY.out.below HB2.out
  have zy := cell_lt y0
  go_upto_region 7 with (go_at_call 61; refine (HCZ.out _ HB2.out).mono ?_; rintro e w3 ⟨rfl, hb3⟩; have HB3 := Lib.hid (bt HB2.out hb3))
  clear y0 y1 zy hb3
  obtain ⟨d0, d1, d2, d3, d4, d5⟩ := HDB.out.below HB3.out
  have zd := cell_lt d0
  go_wp2_with (go_at_call 32; refine (HDY.out _).mono ?_; rintro e w' ⟨rfl, rfl⟩)
  go_ret2
  exact ⟨rfl, bt A0.out HB3.out⟩
set_option maxRecDepth 100000 in
set_option maxHeartbeats 4000000 in
theorem rFromLocal_h {b u : Int} {n : Nat} {f : Nat → Int × Int} {o : Int} {q : Nat} {g : Nat → Int × Int} (ht : tabE b u n f = 0) (hz : zoneE o q g = 0) (y m d h mi s : Int) (hm : okDate y m d = true) (hA : (decide (0 ≤ h) && decide (h ≤ 23)) = false) (c : Nat) (p : Option Addr) (cz : Nat) (pz : Option Addr) (w : World) (hs : LpIn w f n p) (hs2 : LpIn w g q pz) (hn : n ≤ 1000000000000) (hq : q ≤ 1000000000000) :
    Calls Tryz.prog 65 #[.agg #[.int .i64 b, .slice p n c, .int .i64 u], .agg #[.int .i64 o, .slice pz q cz], .agg #[.int .i64 y, .int .i64 m, .int .i64 d, .int .i64 h, .int .i64 mi, .int .i64 s]] w fun e w' => e = .returned (.tuple #[.slice none 0 0, .int .i64 90]) ∧ Below w.heap.size w w' := by
  obtain ⟨W1, hW1, hx, hy, hdb, A0⟩ := rfl_start w b u n c p o q cz pz y m d h mi s
  have HX := Lib.hid hx
  have HY := Lib.hid hy
  have HDB := Lib.hid hdb
  have A0 := Lib.hid A0
  have HCK := Lib.hid (rCheck_any b u n c p f W1 (hs.below A0.out) hn)
  have HCZ := Lib.hid (fun X (hX : Below W1.heap.size W1 X) => rCheckZone_any o q cz pz g X ((hs2.below A0.out).below hX) hq)
  rw [ht] at HCK
  rw [hz] at HCZ
  obtain ⟨km, rfl, hdt⟩ := okDate_yes hm
  have HDY := Lib.hid (fun X => rDay_ok (m := km) X hdt)
  clear hdt hm
  have A := Lib.hid (fun X => show Calls Tryz.prog 90 #[.int .i64 h, .int .i64 0, .int .i64 23] X fun e w' => e = .returned (.bool false) ∧ X = w' from by have := in_any h 0 23 X; rw [hA] at this; exact this)
  clear hA
  clear hn hq ht hz
  clear hx hy hdb hs hs2
  go_enter Tryz.func65, Tryz.ntmps65
  go_upto_region 1 with fail
  clear hW1
  obtain ⟨x0, x1, x2⟩ := HX.out
  have zx := cell_lt x0
  go_upto_region 4 with (go_at_call 34; refine HCK.out.mono ?_; rintro e w2 ⟨rfl, hb2⟩; have HB2 := Lib.hid hb2)
  clear x0 x1 x2 zx hb2
  obtain ⟨y0, y1⟩ := HY.out.below HB2.out
  have zy := cell_lt y0
  go_upto_region 7 with (go_at_call 61; refine (HCZ.out _ HB2.out).mono ?_; rintro e w3 ⟨rfl, hb3⟩; have HB3 := Lib.hid (bt HB2.out hb3))
  clear y0 y1 zy hb3
  obtain ⟨d0, d1, d2, d3, d4, d5⟩ := HDB.out.below HB3.out
  have zd := cell_lt d0
  go_wp2_with (first | (go_at_call 32; refine (HDY.out _).mono ?_; rintro e w' ⟨rfl, rfl⟩) | (go_at_call 90; refine (A.out _).mono ?_; rintro e w' ⟨rfl, rfl⟩; clear A))
  go_ret2
  exact ⟨rfl, bt A0.out HB3.out⟩
set_option maxRecDepth 100000 in
set_option maxHeartbeats 4000000 in
theorem rFromLocal_mi {b u : Int} {n : Nat} {f : Nat → Int × Int} {o : Int} {q : Nat} {g : Nat → Int × Int} (ht : tabE b u n f = 0) (hz : zoneE o q g = 0) (y m d h mi s : Int) (hm : okDate y m d = true) (hA : (decide (0 ≤ h) && decide (h ≤ 23)) = true) (hB : (decide (0 ≤ mi) && decide (mi ≤ 59)) = false) (c : Nat) (p : Option Addr) (cz : Nat) (pz : Option Addr) (w : World) (hs : LpIn w f n p) (hs2 : LpIn w g q pz) (hn : n ≤ 1000000000000) (hq : q ≤ 1000000000000) :
    Calls Tryz.prog 65 #[.agg #[.int .i64 b, .slice p n c, .int .i64 u], .agg #[.int .i64 o, .slice pz q cz], .agg #[.int .i64 y, .int .i64 m, .int .i64 d, .int .i64 h, .int .i64 mi, .int .i64 s]] w fun e w' => e = .returned (.tuple #[.slice none 0 0, .int .i64 90]) ∧ Below w.heap.size w w' := by
  obtain ⟨W1, hW1, hx, hy, hdb, A0⟩ := rfl_start w b u n c p o q cz pz y m d h mi s
  have HX := Lib.hid hx
  have HY := Lib.hid hy
  have HDB := Lib.hid hdb
  have A0 := Lib.hid A0
  have HCK := Lib.hid (rCheck_any b u n c p f W1 (hs.below A0.out) hn)
  have HCZ := Lib.hid (fun X (hX : Below W1.heap.size W1 X) => rCheckZone_any o q cz pz g X ((hs2.below A0.out).below hX) hq)
  rw [ht] at HCK
  rw [hz] at HCZ
  obtain ⟨km, rfl, hdt⟩ := okDate_yes hm
  have HDY := Lib.hid (fun X => rDay_ok (m := km) X hdt)
  clear hdt hm
  have A := Lib.hid (fun X => show Calls Tryz.prog 90 #[.int .i64 h, .int .i64 0, .int .i64 23] X fun e w' => e = .returned (.bool true) ∧ X = w' from by have := in_any h 0 23 X; rw [hA] at this; exact this)
  have B := Lib.hid (fun X => show Calls Tryz.prog 90 #[.int .i64 mi, .int .i64 0, .int .i64 59] X fun e w' => e = .returned (.bool false) ∧ X = w' from by have := in_any mi 0 59 X; rw [hB] at this; exact this)
  clear hA hB
  clear hn hq ht hz
  clear hx hy hdb hs hs2
  go_enter Tryz.func65, Tryz.ntmps65
  go_upto_region 1 with fail
  clear hW1
  obtain ⟨x0, x1, x2⟩ := HX.out
  have zx := cell_lt x0
  go_upto_region 4 with (go_at_call 34; refine HCK.out.mono ?_; rintro e w2 ⟨rfl, hb2⟩; have HB2 := Lib.hid hb2)
  clear x0 x1 x2 zx hb2
  obtain ⟨y0, y1⟩ := HY.out.below HB2.out
  have zy := cell_lt y0
  go_upto_region 7 with (go_at_call 61; refine (HCZ.out _ HB2.out).mono ?_; rintro e w3 ⟨rfl, hb3⟩; have HB3 := Lib.hid (bt HB2.out hb3))
  clear y0 y1 zy hb3
  obtain ⟨d0, d1, d2, d3, d4, d5⟩ := HDB.out.below HB3.out
  have zd := cell_lt d0
  go_wp2_with (first | (go_at_call 32; refine (HDY.out _).mono ?_; rintro e w' ⟨rfl, rfl⟩) | (go_at_call 90; refine (A.out _).mono ?_; rintro e w' ⟨rfl, rfl⟩; clear A) | (go_at_call 90; refine (B.out _).mono ?_; rintro e w' ⟨rfl, rfl⟩; clear B))
  go_ret2
  exact ⟨rfl, bt A0.out HB3.out⟩
set_option maxRecDepth 100000 in
set_option maxHeartbeats 4000000 in
theorem rFromLocal_s {b u : Int} {n : Nat} {f : Nat → Int × Int} {o : Int} {q : Nat} {g : Nat → Int × Int} (ht : tabE b u n f = 0) (hz : zoneE o q g = 0) (y m d h mi s : Int) (hm : okDate y m d = true) (hA : (decide (0 ≤ h) && decide (h ≤ 23)) = true) (hB : (decide (0 ≤ mi) && decide (mi ≤ 59)) = true) (hC : (decide (0 ≤ s) && decide (s ≤ 60)) = false) (c : Nat) (p : Option Addr) (cz : Nat) (pz : Option Addr) (w : World) (hs : LpIn w f n p) (hs2 : LpIn w g q pz) (hn : n ≤ 1000000000000) (hq : q ≤ 1000000000000) :
    Calls Tryz.prog 65 #[.agg #[.int .i64 b, .slice p n c, .int .i64 u], .agg #[.int .i64 o, .slice pz q cz], .agg #[.int .i64 y, .int .i64 m, .int .i64 d, .int .i64 h, .int .i64 mi, .int .i64 s]] w fun e w' => e = .returned (.tuple #[.slice none 0 0, .int .i64 90]) ∧ Below w.heap.size w w' := by
  obtain ⟨W1, hW1, hx, hy, hdb, A0⟩ := rfl_start w b u n c p o q cz pz y m d h mi s
  have HX := Lib.hid hx
  have HY := Lib.hid hy
  have HDB := Lib.hid hdb
  have A0 := Lib.hid A0
  have HCK := Lib.hid (rCheck_any b u n c p f W1 (hs.below A0.out) hn)
  have HCZ := Lib.hid (fun X (hX : Below W1.heap.size W1 X) => rCheckZone_any o q cz pz g X ((hs2.below A0.out).below hX) hq)
  rw [ht] at HCK
  rw [hz] at HCZ
  obtain ⟨km, rfl, hdt⟩ := okDate_yes hm
  have HDY := Lib.hid (fun X => rDay_ok (m := km) X hdt)
  clear hdt hm
  have A := Lib.hid (fun X => show Calls Tryz.prog 90 #[.int .i64 h, .int .i64 0, .int .i64 23] X fun e w' => e = .returned (.bool true) ∧ X = w' from by have := in_any h 0 23 X; rw [hA] at this; exact this)
  have B := Lib.hid (fun X => show Calls Tryz.prog 90 #[.int .i64 mi, .int .i64 0, .int .i64 59] X fun e w' => e = .returned (.bool true) ∧ X = w' from by have := in_any mi 0 59 X; rw [hB] at this; exact this)
  have C := Lib.hid (fun X => show Calls Tryz.prog 90 #[.int .i64 s, .int .i64 0, .int .i64 60] X fun e w' => e = .returned (.bool false) ∧ X = w' from by have := in_any s 0 60 X; rw [hC] at this; exact this)
  clear hA hB hC
  clear hn hq ht hz
  clear hx hy hdb hs hs2
  go_enter Tryz.func65, Tryz.ntmps65
  go_upto_region 1 with fail
  clear hW1
  obtain ⟨x0, x1, x2⟩ := HX.out
  have zx := cell_lt x0
  go_upto_region 4 with (go_at_call 34; refine HCK.out.mono ?_; rintro e w2 ⟨rfl, hb2⟩; have HB2 := Lib.hid hb2)
  clear x0 x1 x2 zx hb2
  obtain ⟨y0, y1⟩ := HY.out.below HB2.out
  have zy := cell_lt y0
  go_upto_region 7 with (go_at_call 61; refine (HCZ.out _ HB2.out).mono ?_; rintro e w3 ⟨rfl, hb3⟩; have HB3 := Lib.hid (bt HB2.out hb3))
  clear y0 y1 zy hb3
  obtain ⟨d0, d1, d2, d3, d4, d5⟩ := HDB.out.below HB3.out
  have zd := cell_lt d0
  go_wp2_with (first | (go_at_call 32; refine (HDY.out _).mono ?_; rintro e w' ⟨rfl, rfl⟩) | (go_at_call 90; refine (A.out _).mono ?_; rintro e w' ⟨rfl, rfl⟩; clear A) | (go_at_call 90; refine (B.out _).mono ?_; rintro e w' ⟨rfl, rfl⟩; clear B) | (go_at_call 90; refine (C.out _).mono ?_; rintro e w' ⟨rfl, rfl⟩; clear C))
  go_ret2
  exact ⟨rfl, bt A0.out HB3.out⟩
end Go.Proofs.YtgnfaemnehmgcaaGreatDoor.Cal
namespace Go.Proofs.YtgnfaemnehmgcaaGreatDoor.Cal
open Go Go.RowKit
theorem loc_pair (b u : Int) (n : Nat) (f : Nat → Int × Int) (hn : n ≤ 1000) (o : Int) (q : Nat) (g : Nat → Int × Int) (hq : q ≤ 1000) (hgt : ∀ i, i < q → (g i).1 ≤ 9223372036854775807) (x : Int) : ∃ y m d h mi sc of e : Int,
    (∀ X c p cz pz, Mon X → LpIn X f n p → LpIn X g q pz → n ≤ c → c ≤ maxLen → Calls Tryz.prog 62 #[.agg #[.int .i64 b, .slice p n c, .int .i64 u], .agg #[.int .i64 o, .slice pz q cz], .int .i64 x] X fun e' w' => e' = .returned (.tuple #[.agg #[.int .i64 y, .int .i64 m, .int .i64 d, .int .i64 h, .int .i64 mi, .int .i64 sc], .int .i64 of, .int .i64 e]) ∧ Below X.heap.size X w') ∧
    (∀ X c p cz pz, LpIn X f n p → LpIn X g q pz → Calls Tryz.prog 63 #[.agg #[.int .i64 b, .slice p n c, .int .i64 u], .agg #[.int .i64 o, .slice pz q cz], .int .i64 x] X fun e' w' => e' = .returned (.tuple #[.agg #[.int .i64 y, .int .i64 m, .int .i64 d, .int .i64 h, .int .i64 mi, .int .i64 sc], .int .i64 of, .int .i64 e]) ∧ Below X.heap.size X w') := by
  by_cases ht : tabE b u n f = 0
  · by_cases hz : zoneE o q g = 0
    · by_cases hin : inB x (beginS f n u) = true
      · obtain ⟨D, hD⟩ := known_day (known_mk ht hin)
        by_cases hc : 41317 ≤ (momM f n D x + offAt o g x (q + 1)) / 1440 ∧ (momM f n D x + offAt o g x (q + 1)) / 1440 ≤ 88068
        · obtain ⟨y, k, d, hci⟩ := civ_exists _ hc
          exact ⟨y, (k : Int), d, _, _, _, _, 0, fun X c p cz pz h1 h2 h3 h4 h5 => Local_ok x ht hz hgt hD hci rfl rfl rfl rfl rfl c p cz pz X h1 h2 h3 (by omega) (by omega) h4 h5,
            fun X c p cz pz h2 h3 => rLocal_ok x ht hz hD hci rfl rfl rfl rfl rfl c p cz pz X h2 h3 (by omega) (by omega)⟩
        · exact ⟨0, 0, 0, 0, 0, 0, 0, 90, fun X c p cz pz h1 h2 h3 h4 h5 => Local_date x ht hz hgt hD hc c p cz pz X h1 h2 h3 (by omega) (by omega) h4 h5,
            fun X c p cz pz h2 h3 => rLocal_date x ht hz hD hc c p cz pz X h2 h3 (by omega) (by omega)⟩
      · have hk : knownE b u n f x = 6 := by unfold knownE; rw [if_pos ht, if_neg hin]
        refine ⟨0, 0, 0, 0, 0, 0, 0, 6, fun X c p cz pz h1 h2 h3 h4 h5 => Local_rng x ht hz hgt (by simpa using hin) c p cz pz X h1 h2 h3 (by omega) (by omega) h4 h5, fun X c p cz pz h2 h3 => ?_⟩
        have := rLocal_rng x ht hz (by rw [hk]; decide) c p cz pz X h2 h3 (by omega) (by omega)
        rw [hk] at this
        exact this
    · have he : (if tabE b u n f = 0 then zoneE o q g else tabE b u n f) = zoneE o q g := if_pos ht
      refine ⟨0, 0, 0, 0, 0, 0, 0, zoneE o q g, fun X c p cz pz h1 h2 h3 h4 h5 => ?_, fun X c p cz pz h2 h3 => rLocal_zone x ht hz c p cz pz X h2 h3 (by omega) (by omega)⟩
      have := Local_no x (by rw [he]; exact hz) c p cz pz X h1 h2 h3 (by omega) (by omega) h4 h5
      rw [he] at this
      exact this
  · have he : (if tabE b u n f = 0 then zoneE o q g else tabE b u n f) = tabE b u n f := if_neg ht
    refine ⟨0, 0, 0, 0, 0, 0, 0, tabE b u n f, fun X c p cz pz h1 h2 h3 h4 h5 => ?_, fun X c p cz pz h2 h3 => rLocal_tab x ht c p cz pz X h2 h3 (by omega) (by omega)⟩
    have := Local_no x (by rw [he]; exact ht) c p cz pz X h1 h2 h3 (by omega) (by omega) h4 h5
    rw [he] at this
    exact this
def ListR (fn : FuncId) (args : Array Value) (X : World) (L : List Int) (er : Int) : Prop :=
  Calls Tryz.prog fn args X fun e w' => (∃ r cr, e = .returned (.tuple #[.slice r L.length cr, .int .i64 er]) ∧ FnIn w' (atL L) L.length r) ∧ Below X.heap.size X w'
theorem ListR.none {fn : FuncId} {args : Array Value} {X : World} {er : Int} (h : Calls Tryz.prog fn args X fun e w' => e = .returned (.tuple #[.slice none 0 0, .int .i64 er]) ∧ Below X.heap.size X w') : ListR fn args X [] er :=
  h.mono fun _ _ ⟨h1, h2⟩ => ⟨⟨_, _, h1, .inl rfl⟩, h2⟩
theorem fl_pair (b u : Int) (n : Nat) (f : Nat → Int × Int) (hn : n ≤ 1000) (o : Int) (q : Nat) (g : Nat → Int × Int) (hq : q ≤ 1000) (hgt : ∀ i, i < q → (g i).1 ≤ 9223372036854775807) (y m d h mi s : Int) : ∃ (L : List Int) (er : Int), L.length ≤ 1000000 ∧
    (∀ X c p cz pz, Mon X → LpIn X f n p → LpIn X g q pz → n ≤ c → c ≤ maxLen → ListR 64 #[.agg #[.int .i64 b, .slice p n c, .int .i64 u], .agg #[.int .i64 o, .slice pz q cz], .agg #[.int .i64 y, .int .i64 m, .int .i64 d, .int .i64 h, .int .i64 mi, .int .i64 s]] X L er) ∧
    (∀ X c p cz pz, LpIn X f n p → LpIn X g q pz → ListR 65 #[.agg #[.int .i64 b, .slice p n c, .int .i64 u], .agg #[.int .i64 o, .slice pz q cz], .agg #[.int .i64 y, .int .i64 m, .int .i64 d, .int .i64 h, .int .i64 mi, .int .i64 s]] X L er) := by
  by_cases ht : tabE b u n f = 0
  · by_cases hz : zoneE o q g = 0
    · have bad : momB y m d h mi s = false → (∀ X c p cz pz, LpIn X f n p → LpIn X g q pz → Calls Tryz.prog 65 #[.agg #[.int .i64 b, .slice p n c, .int .i64 u], .agg #[.int .i64 o, .slice pz q cz], .agg #[.int .i64 y, .int .i64 m, .int .i64 d, .int .i64 h, .int .i64 mi, .int .i64 s]] X fun e w' => e = .returned (.tuple #[.slice none 0 0, .int .i64 90]) ∧ Below X.heap.size X w') → ∃ (L : List Int) (er : Int), L.length ≤ 1000000 ∧
          (∀ X c p cz pz, Mon X → LpIn X f n p → LpIn X g q pz → n ≤ c → c ≤ maxLen → ListR 64 #[.agg #[.int .i64 b, .slice p n c, .int .i64 u], .agg #[.int .i64 o, .slice pz q cz], .agg #[.int .i64 y, .int .i64 m, .int .i64 d, .int .i64 h, .int .i64 mi, .int .i64 s]] X L er) ∧
          (∀ X c p cz pz, LpIn X f n p → LpIn X g q pz → ListR 65 #[.agg #[.int .i64 b, .slice p n c, .int .i64 u], .agg #[.int .i64 o, .slice pz q cz], .agg #[.int .i64 y, .int .i64 m, .int .i64 d, .int .i64 h, .int .i64 mi, .int .i64 s]] X L er) := fun hm hr =>
        ⟨[], 90, Nat.zero_le _, fun X c p cz pz h1 h2 h3 _ _ => ListR.none (FromLocal_mom ht hz y m d h mi s hm c p cz pz X h1 h2 h3 (by omega) (by omega)), fun X c p cz pz h2 h3 => ListR.none (hr X c p cz pz h2 h3)⟩
      cases hd : okDate y m d
      · exact bad (by unfold momB; rw [hd]; rfl) (fun X c p cz pz h2 h3 => rFromLocal_day ht hz y m d h mi s hd c p cz pz X h2 h3 (by omega) (by omega))
      cases hA : (decide (0 ≤ h) && decide (h ≤ 23))
      · refine bad ?_ (fun X c p cz pz h2 h3 => rFromLocal_h ht hz y m d h mi s hd hA c p cz pz X h2 h3 (by omega) (by omega))
        unfold momB tB
        rw [show (decide (h ≤ 24 - 1)) = decide (h ≤ 23) from rfl, hA]; simp
      cases hB : (decide (0 ≤ mi) && decide (mi ≤ 59))
      · refine bad ?_ (fun X c p cz pz h2 h3 => rFromLocal_mi ht hz y m d h mi s hd hA hB c p cz pz X h2 h3 (by omega) (by omega))
        unfold momB miB
        rw [show (decide (mi ≤ 60 - 1)) = decide (mi ≤ 59) from rfl, hB]; simp
      cases hC : (decide (0 ≤ s) && decide (s ≤ 60))
      · refine bad ?_ (fun X c p cz pz h2 h3 => rFromLocal_s ht hz y m d h mi s hd hA hB hC c p cz pz X h2 h3 (by omega) (by omega))
        unfold momB sB
        rw [hC]; simp
      obtain ⟨k, rfl, hdt⟩ := okDate_yes hd
      have hT := tab_ok ht
      have hZ := zone_ok hz
      have hsame := rfound_same hT hZ (1440 * dayN y k d + 60 * h + mi) s
      have hA' := hA
      have hB' := hB
      have hC' := hC
      simp only [Bool.and_eq_true, decide_eq_true_eq] at hA' hB' hC'
      refine ⟨zfound u f n (1440 * dayN y k d + 60 * h + mi) s o q g (q + 1), (if zfound u f n (1440 * dayN y k d + 60 * h + mi) s o q g (q + 1) = [] then 4 else 0), by have := zfound_len u f n (1440 * dayN y k d + 60 * h + mi) s o q g (q + 1); omega,
        fun X c p cz pz h1 h2 h3 h4 h5 => FromLocal_ok ht hz hgt hdt h mi s hA hB hC c p cz pz X h1 h2 h3 h4 h5, fun X c p cz pz h2 h3 => ?_⟩
      have := rFromLocal_ok ht hz hdt h mi s hA' hB' hC' c p cz pz X h2 h3
      rw [hsame] at this
      exact this
    · exact ⟨[], zoneE o q g, Nat.zero_le _, fun X c p cz pz h1 h2 h3 _ _ => ListR.none (FromLocal_zone ht hz y m d h mi s c p cz pz X h1 h2 h3 (by omega) (by omega)),
        fun X c p cz pz h2 h3 => ListR.none (rFromLocal_zone ht hz y m d h mi s c p cz pz X h2 h3 (by omega) (by omega))⟩
  · exact ⟨[], tabE b u n f, Nat.zero_le _, fun X c p cz pz h1 h2 h3 _ _ => ListR.none (FromLocal_tab ht y m d h mi s c p cz pz X h1 h2 h3 (by omega) (by omega)),
      fun X c p cz pz h2 h3 => ListR.none (rFromLocal_tab ht y m d h mi s c p cz pz X h2 h3 (by omega) (by omega))⟩
end Go.Proofs.YtgnfaemnehmgcaaGreatDoor.Cal
