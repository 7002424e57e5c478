/- Layer 9 (calendar): FromLocal where something is wrong, of the program and of the reference. (by gen_qg.py) -/
import Derived.Test.YtklhepgpepfgjaaDoorQ45
import Derived.Test.YtklhepgpepfgjaaDoorQ48
namespace Go.Proofs.YtklhepgpepfgjaaDoor.Cal
open Go Go.RowKit
attribute [local go_sem] Oper.semAt_some
theorem or_two_q (x y : Int) : orF (fun i => if i = 0 then x else y) 2 = if x = 0 then y else x := by
  simp [orF]
set_option maxRecDepth 100000 in
set_option maxHeartbeats 4000000 in
theorem FromLocal_tab {b u : Int} {n : Nat} {f : Nat → Int × Int} {o : Int} {q : Nat} {g : Nat → Int × Int} (ht : tabE b u n f ≠ 0) (y m d h mi s : Int) (c : Nat) (p : Option Addr) (cz : Nat) (pz : Option Addr) (w : World) (hw : Mon w) (hs : LpIn w f n p) (hs2 : LpIn w g q pz) (hn : n ≤ 1000000000000) (hq : q ≤ 1000000000000) :
    Calls Tryd.prog 13 #[.agg #[.int .i64 b, .slice p n c, .int .i64 u], .agg #[.int .i64 o, .slice pz q cz], .agg #[.int .i64 y, .int .i64 m, .int .i64 d, .int .i64 h, .int .i64 mi, .int .i64 s]] w fun e w' => e = .returned (.tuple #[.slice none 0 0, .int .i64 (tabE b u n f)]) ∧ Below w.heap.size w w' := by
  obtain ⟨W1, hW1, hx, hy, hdb, A0, -⟩ := fl_start w b u n c p o q cz pz y m d h mi s
  have HX := Lib.hid hx
  have HY := Lib.hid hy
  have HDB := Lib.hid hdb
  have A0 := Lib.hid A0
  have HW := Lib.hid (hw.below A0.out)
  have HS := Lib.hid (hs.below A0.out)
  have HS2 := Lib.hid (hs2.below A0.out)
  have HCZ := Lib.hid (fun X (hX : Below W1.heap.size W1 X) => CheckZone_any o q cz pz g X (HS2.out.below hX) hq)
  obtain ⟨tE, htE⟩ : ∃ tE, tabE b u n f = tE := ⟨_, rfl⟩
  obtain ⟨zE, hzE⟩ : ∃ zE, zoneE o q g = zE := ⟨_, rfl⟩
  rw [hzE] at HCZ
  have HOP := Lib.hid (open_no b u n c p f W1 HW.out HS.out hn ht)
  rw [htE] at HOP ht ⊢
  have HEE := Lib.hid (show (if tE = 0 then zE else tE) = tE from if_neg ht)
  clear htE hzE hn hq
  clear hx hy hdb hw hs hs2
  go_enter Tryd.func13, Tryd.ntmps13
  go_upto_region 1 with fail
  clear hW1
  obtain ⟨x0, x1, x2⟩ := HX.out
  have zx := cell_lt x0
  go_upto_region 2 with (go_at_call 45; refine HOP.out.mono ?_; rintro e w2 ⟨rfl, hb2⟩; have HB2 := Lib.hid hb2; clear hb2)
  clear x0 x1 x2 zx
  have hb3 := below_alloc (Below.refl w2.heap.size w2) (.cells #[.int .i64 0, .slice none 0 0, .int .i64 0, .map none] 95)
  have HB3 := Lib.hid (bt HB2.out hb3)
  clear hb3
  generalize w2.alloc (.cells #[.int .i64 0, .slice none 0 0, .int .i64 0, .map none] 95) = W3 at *
  generalize w2.heap.size = aw at *
  obtain ⟨y0, y1⟩ := HY.out.below HB3.out
  have zy := cell_lt y0
  have HCZ3 := Lib.hid (HCZ.out W3 HB3.out)
  have HOR := Lib.hid (fun X (hX : Below W3.heap.size W3 X) => by
    have := Calls.bel (bt hX (below_alloc (Below.refl X.heap.size X) (.cells #[.int .i64 tE, .int .i64 zE] 35))) (or_any _ 2 2 _ _ (by decide) (two_e X tE zE 35))
    rw [or_two_q, HEE.out] at this
    exact this)
  clear HCZ
  go_wp2_with (first | (go_at_call 19; refine HCZ3.out.mono ?_; rintro e w4 ⟨rfl, hb4⟩; have HB4 := Lib.hid hb4) | (go_at_call 35; refine (HOR.out _ HB4.out).mono ?_; rintro e w5 ⟨rfl, hb5⟩; have HB5 := Lib.hid (bt HB3.out hb5)))
  go_ret2
  exact ⟨rfl, bt A0.out HB5.out⟩
set_option maxRecDepth 100000 in
set_option maxHeartbeats 4000000 in
theorem FromLocal_zone {b u : Int} {n : Nat} {f : Nat → Int × Int} {o : Int} {q : Nat} {g : Nat → Int × Int} (ht : tabE b u n f = 0) (hz : zoneE o q g ≠ 0) (y m d h mi s : Int) (c : Nat) (p : Option Addr) (cz : Nat) (pz : Option Addr) (w : World) (hw : Mon w) (hs : LpIn w f n p) (hs2 : LpIn w g q pz) (hn : n ≤ 1000000000000) (hq : q ≤ 1000000000000) :
    Calls Tryd.prog 13 #[.agg #[.int .i64 b, .slice p n c, .int .i64 u], .agg #[.int .i64 o, .slice pz q cz], .agg #[.int .i64 y, .int .i64 m, .int .i64 d, .int .i64 h, .int .i64 mi, .int .i64 s]] w fun e w' => e = .returned (.tuple #[.slice none 0 0, .int .i64 (zoneE o q g)]) ∧ Below w.heap.size w w' := by
  obtain ⟨W1, hW1, hx, hy, hdb, A0, -⟩ := fl_start w b u n c p o q cz pz y m d h mi s
  have HX := Lib.hid hx
  have HY := Lib.hid hy
  have HDB := Lib.hid hdb
  have A0 := Lib.hid A0
  have HW := Lib.hid (hw.below A0.out)
  have HS := Lib.hid (hs.below A0.out)
  have HS2 := Lib.hid (hs2.below A0.out)
  have HCZ := Lib.hid (fun X (hX : Below W1.heap.size W1 X) => CheckZone_any o q cz pz g X (HS2.out.below hX) hq)
  obtain ⟨tE, htE⟩ : ∃ tE, tabE b u n f = tE := ⟨_, rfl⟩
  obtain ⟨zE, hzE⟩ : ∃ zE, zoneE o q g = zE := ⟨_, rfl⟩
  rw [hzE] at HCZ
  have HOP := Lib.hid (open_ok b u n c p f W1 HW.out HS.out hn ht)
  rw [hzE] at hz ⊢
  clear htE hzE hn hq ht
  clear hx hy hdb hw hs hs2
  go_enter Tryd.func13, Tryd.ntmps13
  go_upto_region 1 with fail
  clear hW1
  obtain ⟨x0, x1, x2⟩ := HX.out
  have zx := cell_lt x0
  go_upto_region 2 with (go_at_call 45; refine HOP.out.mono ?_; rintro e w2 ⟨mb, rfl, hM, hb2⟩; have HB2 := Lib.hid hb2; clear hM hb2)
  clear x0 x1 x2 zx
  have hb3 := below_alloc (Below.refl w2.heap.size w2) (.cells #[.int .i64 b, .slice p n c, .int .i64 u, .map (some mb)] 95)
  have HB3 := Lib.hid (bt HB2.out hb3)
  clear hb3
  generalize w2.alloc (.cells #[.int .i64 b, .slice p n c, .int .i64 u, .map (some mb)] 95) = W3 at *
  generalize w2.heap.size = aw at *
  obtain ⟨y0, y1⟩ := HY.out.below HB3.out
  have zy := cell_lt y0
  have HCZ3 := Lib.hid (HCZ.out W3 HB3.out)
  have HOR := Lib.hid (fun X (hX : Below W3.heap.size W3 X) => by
    have := Calls.bel (bt hX (below_alloc (Below.refl X.heap.size X) (.cells #[.int .i64 0, .int .i64 zE] 35))) (or_any _ 2 2 _ _ (by decide) (two_e X 0 zE 35))
    rw [or_two_q, if_pos rfl] at this
    exact this)
  clear HCZ
  go_wp2_with (first | (go_at_call 19; refine HCZ3.out.mono ?_; rintro e w4 ⟨rfl, hb4⟩; have HB4 := Lib.hid hb4) | (go_at_call 35; refine (HOR.out _ HB4.out).mono ?_; rintro e w5 ⟨rfl, hb5⟩; have HB5 := Lib.hid (bt HB3.out hb5)))
  go_ret2
  exact ⟨rfl, bt A0.out HB5.out⟩
set_option maxRecDepth 100000 in
set_option maxHeartbeats 4000000 in
theorem FromLocal_mom {b u : Int} {n : Nat} {f : Nat → Int × Int} {o : Int} {q : Nat} {g : Nat → Int × Int} (ht : tabE b u n f = 0) (hz : zoneE o q g = 0) (y m d h mi s : Int) (hm : momB y m d h mi s = false) (c : Nat) (p : Option Addr) (cz : Nat) (pz : Option Addr) (w : World) (hw : Mon w) (hs : LpIn w f n p) (hs2 : LpIn w g q pz) (hn : n ≤ 1000000000000) (hq : q ≤ 1000000000000) :
    Calls Tryd.prog 13 #[.agg #[.int .i64 b, .slice p n c, .int .i64 u], .agg #[.int .i64 o, .slice pz q cz], .agg #[.int .i64 y, .int .i64 m, .int .i64 d, .int .i64 h, .int .i64 mi, .int .i64 s]] w fun e w' => e = .returned (.tuple #[.slice none 0 0, .int .i64 90]) ∧ Below w.heap.size w w' := by
  obtain ⟨W1, hW1, hx, hy, hdb, A0, -⟩ := fl_start w b u n c p o q cz pz y m d h mi s
  have HX := Lib.hid hx
  have HY := Lib.hid hy
  have HDB := Lib.hid hdb
  have A0 := Lib.hid A0
  have HW := Lib.hid (hw.below A0.out)
  have HS := Lib.hid (hs.below A0.out)
  have HS2 := Lib.hid (hs2.below A0.out)
  have HCZ := Lib.hid (fun X (hX : Below W1.heap.size W1 X) => CheckZone_any o q cz pz g X (HS2.out.below hX) hq)
  obtain ⟨tE, htE⟩ : ∃ tE, tabE b u n f = tE := ⟨_, rfl⟩
  obtain ⟨zE, hzE⟩ : ∃ zE, zoneE o q g = zE := ⟨_, rfl⟩
  rw [hzE] at HCZ
  have HOP := Lib.hid (open_ok b u n c p f W1 HW.out HS.out hn ht)
  rw [show zE = 0 by rw [← hzE]; exact hz] at HCZ
  have HMO := Lib.hid (fun X (hX : Mon X) => dmoment_no y m d h mi s X hX hm)
  clear htE hzE hn hq ht hz hm
  clear hx hy hdb hw hs hs2
  go_enter Tryd.func13, Tryd.ntmps13
  go_upto_region 1 with fail
  clear hW1
  obtain ⟨x0, x1, x2⟩ := HX.out
  have zx := cell_lt x0
  go_upto_region 2 with (go_at_call 45; refine HOP.out.mono ?_; rintro e w2 ⟨mb, rfl, hM, hb2⟩; have HB2 := Lib.hid hb2; clear hM hb2)
  clear x0 x1 x2 zx
  have hb3 := below_alloc (Below.refl w2.heap.size w2) (.cells #[.int .i64 b, .slice p n c, .int .i64 u, .map (some mb)] 95)
  have HB3 := Lib.hid (bt HB2.out hb3)
  clear hb3
  generalize w2.alloc (.cells #[.int .i64 b, .slice p n c, .int .i64 u, .map (some mb)] 95) = W3 at *
  generalize w2.heap.size = aw at *
  obtain ⟨y0, y1⟩ := HY.out.below HB3.out
  have zy := cell_lt y0
  have HCZ3 := Lib.hid (HCZ.out W3 HB3.out)
  have HOR := Lib.hid (fun X (hX : Below W3.heap.size W3 X) => by
    have := Calls.bel (bt hX (below_alloc (Below.refl X.heap.size X) (.cells #[.int .i64 0, .int .i64 0] 35))) (or_any _ 2 2 _ _ (by decide) (two_e X 0 0 35))
    rw [or_two_q, if_pos rfl] at this
    exact this)
  clear HCZ
  go_upto_region 5 with (first | (go_at_call 19; refine HCZ3.out.mono ?_; rintro e w4 ⟨rfl, hb4⟩; have HB4 := Lib.hid hb4) | (go_at_call 35; refine (HOR.out _ HB4.out).mono ?_; rintro e w5 ⟨rfl, hb5⟩; have HB5 := Lib.hid (bt HB3.out hb5)))
  clear y0 y1 zy
  obtain ⟨d0, d1, d2, d3, d4, d5⟩ := HDB.out.below HB5.out
  have zd := cell_lt d0
  have HMO5 := Lib.hid (HMO.out _ (HW.out.below HB5.out))
  go_wp2_with (go_at_call 46; refine HMO5.out.mono ?_; rintro e w6 ⟨rfl, hb6⟩; have HB6 := Lib.hid (bt HB5.out (bt hb6 (below_alloc (Below.refl w6.heap.size w6) (.cells #[.int .i64 0, .int .i64 0] 88)))))
  go_ret2
  exact ⟨rfl, bt A0.out HB6.out⟩
set_option maxRecDepth 100000 in
set_option maxHeartbeats 4000000 in
theorem rFromLocal_tab {b u : Int} {n : Nat} {f : Nat → Int × Int} {o : Int} {q : Nat} {g : Nat → Int × Int} (ht : tabE b u n f ≠ 0) (y m d h mi s : Int) (c : Nat) (p : Option Addr) (cz : Nat) (pz : Option Addr) (w : World) (hs : LpIn w f n p) (hs2 : LpIn w g q pz) (hn : n ≤ 1000000000000) (hq : q ≤ 1000000000000) :
    Calls Tryd.prog 22 #[.agg #[.int .i64 b, .slice p n c, .int .i64 u], .agg #[.int .i64 o, .slice pz q cz], .agg #[.int .i64 y, .int .i64 m, .int .i64 d, .int .i64 h, .int .i64 mi, .int .i64 s]] w fun e w' => e = .returned (.tuple #[.slice none 0 0, .int .i64 (tabE b u n f)]) ∧ Below w.heap.size w w' := by
  obtain ⟨W1, hW1, hx, hy, hdb, A0⟩ := rfl_start w b u n c p o q cz pz y m d h mi s
  have HX := Lib.hid hx
  have HY := Lib.hid hy
  have HDB := Lib.hid hdb
  have A0 := Lib.hid A0
  have HCK := Lib.hid (rCheck_any b u n c p f W1 (hs.below A0.out) hn)
  have HCZ := Lib.hid (fun X (hX : Below W1.heap.size W1 X) => rCheckZone_any o q cz pz g X ((hs2.below A0.out).below hX) hq)
  obtain ⟨tE, htE⟩ : ∃ tE, tabE b u n f = tE := ⟨_, rfl⟩
  rw [htE] at HCK ht ⊢
  clear htE HCZ hn hq
  clear hx hy hdb hs hs2
  go_enter Tryd.func22, Tryd.ntmps22
  go_upto_region 1 with fail
  clear hW1
  obtain ⟨x0, x1, x2⟩ := HX.out
  have zx := cell_lt x0
  go_wp2_with (go_at_call 57; refine HCK.out.mono ?_; rintro e w2 ⟨rfl, hb2⟩; have HB2 := Lib.hid hb2)
  go_ret2
  exact ⟨rfl, bt A0.out HB2.out⟩
set_option maxRecDepth 100000 in
set_option maxHeartbeats 4000000 in
theorem rFromLocal_zone {b u : Int} {n : Nat} {f : Nat → Int × Int} {o : Int} {q : Nat} {g : Nat → Int × Int} (ht : tabE b u n f = 0) (hz : zoneE o q g ≠ 0) (y m d h mi s : Int) (c : Nat) (p : Option Addr) (cz : Nat) (pz : Option Addr) (w : World) (hs : LpIn w f n p) (hs2 : LpIn w g q pz) (hn : n ≤ 1000000000000) (hq : q ≤ 1000000000000) :
    Calls Tryd.prog 22 #[.agg #[.int .i64 b, .slice p n c, .int .i64 u], .agg #[.int .i64 o, .slice pz q cz], .agg #[.int .i64 y, .int .i64 m, .int .i64 d, .int .i64 h, .int .i64 mi, .int .i64 s]] w fun e w' => e = .returned (.tuple #[.slice none 0 0, .int .i64 (zoneE o q g)]) ∧ Below w.heap.size w w' := by
  obtain ⟨W1, hW1, hx, hy, hdb, A0⟩ := rfl_start w b u n c p o q cz pz y m d h mi s
  have HX := Lib.hid hx
  have HY := Lib.hid hy
  have HDB := Lib.hid hdb
  have A0 := Lib.hid A0
  have HCK := Lib.hid (rCheck_any b u n c p f W1 (hs.below A0.out) hn)
  have HCZ := Lib.hid (fun X (hX : Below W1.heap.size W1 X) => rCheckZone_any o q cz pz g X ((hs2.below A0.out).below hX) hq)
  rw [ht] at HCK
  obtain ⟨zE, hzE⟩ : ∃ zE, zoneE o q g = zE := ⟨_, rfl⟩
  rw [hzE] at HCZ hz ⊢
  clear hzE hn hq ht
  clear hx hy hdb hs hs2
  go_enter Tryd.func22, Tryd.ntmps22
  go_upto_region 1 with fail
  clear hW1
  obtain ⟨x0, x1, x2⟩ := HX.out
  have zx := cell_lt x0
  go_upto_region 4 with (go_at_call 57; refine HCK.out.mono ?_; rintro e w2 ⟨rfl, hb2⟩; have HB2 := Lib.hid hb2)
  clear x0 x1 x2 zx hb2
  obtain ⟨y0, y1⟩ := HY.out.below HB2.out
  have zy := cell_lt y0
  go_wp2_with (go_at_call 20; refine (HCZ.out _ HB2.out).mono ?_; rintro e w3 ⟨rfl, hb3⟩; have HB3 := Lib.hid (bt HB2.out hb3))
  go_ret2
  exact ⟨rfl, bt A0.out HB3.out⟩
set_option maxRecDepth 100000 in
set_option maxHeartbeats 4000000 in
theorem rFromLocal_day {b u : Int} {n : Nat} {f : Nat → Int × Int} {o : Int} {q : Nat} {g : Nat → Int × Int} (ht : tabE b u n f = 0) (hz : zoneE o q g = 0) (y m d h mi s : Int) (hm : okDate y m d = false) (c : Nat) (p : Option Addr) (cz : Nat) (pz : Option Addr) (w : World) (hs : LpIn w f n p) (hs2 : LpIn w g q pz) (hn : n ≤ 1000000000000) (hq : q ≤ 1000000000000) :
    Calls Tryd.prog 22 #[.agg #[.int .i64 b, .slice p n c, .int .i64 u], .agg #[.int .i64 o, .slice pz q cz], .agg #[.int .i64 y, .int .i64 m, .int .i64 d, .int .i64 h, .int .i64 mi, .int .i64 s]] w fun e w' => e = .returned (.tuple #[.slice none 0 0, .int .i64 90]) ∧ Below w.heap.size w w' := by
  obtain ⟨W1, hW1, hx, hy, hdb, A0⟩ := rfl_start w b u n c p o q cz pz y m d h mi s
  have HX := Lib.hid hx
  have HY := Lib.hid hy
  have HDB := Lib.hid hdb
  have A0 := Lib.hid A0
  have HCK := Lib.hid (rCheck_any b u n c p f W1 (hs.below A0.out) hn)
  have HCZ := Lib.hid (fun X (hX : Below W1.heap.size W1 X) => rCheckZone_any o q cz pz g X ((hs2.below A0.out).below hX) hq)
  rw [ht] at HCK
  rw [hz] at HCZ
  have HDY := Lib.hid (fun X => rDay_no y m d X hm)
  clear hm
  clear hn hq ht hz
  clear hx hy hdb hs hs2
  go_enter Tryd.func22, Tryd.ntmps22
  go_upto_region 1 with fail
  clear hW1
  obtain ⟨x0, x1, x2⟩ := HX.out
  have zx := cell_lt x0
  go_upto_region 4 with (go_at_call 57; refine HCK.out.mono ?_; rintro e w2 ⟨rfl, hb2⟩; have HB2 := Lib.hid hb2)
  clear x0 x1 x2 zx hb2
  obtain ⟨y0, y1⟩ := HY.out.below HB2.out
  have zy := cell_lt y0
  go_upto_region 7 with (go_at_call 20; refine (HCZ.out _ HB2.out).mono ?_; rintro e w3 ⟨rfl, hb3⟩; have HB3 := Lib.hid (bt HB2.out hb3))
  clear y0 y1 zy hb3
  obtain ⟨d0, d1, d2, d3, d4, d5⟩ := HDB.out.below HB3.out
  have zd := cell_lt d0
  go_wp2_with (go_at_call 61; refine (HDY.out _).mono ?_; rintro e w' ⟨rfl, rfl⟩)
  go_ret2
  exact ⟨rfl, bt A0.out HB3.out⟩
set_option maxRecDepth 100000 in
set_option maxHeartbeats 4000000 in
theorem rFromLocal_h {b u : Int} {n : Nat} {f : Nat → Int × Int} {o : Int} {q : Nat} {g : Nat → Int × Int} (ht : tabE b u n f = 0) (hz : zoneE o q g = 0) (y m d h mi s : Int) (hm : okDate y m d = true) (hA : (decide (0 ≤ h) && decide (h ≤ 23)) = false) (c : Nat) (p : Option Addr) (cz : Nat) (pz : Option Addr) (w : World) (hs : LpIn w f n p) (hs2 : LpIn w g q pz) (hn : n ≤ 1000000000000) (hq : q ≤ 1000000000000) :
    Calls Tryd.prog 22 #[.agg #[.int .i64 b, .slice p n c, .int .i64 u], .agg #[.int .i64 o, .slice pz q cz], .agg #[.int .i64 y, .int .i64 m, .int .i64 d, .int .i64 h, .int .i64 mi, .int .i64 s]] w fun e w' => e = .returned (.tuple #[.slice none 0 0, .int .i64 90]) ∧ Below w.heap.size w w' := by
  obtain ⟨W1, hW1, hx, hy, hdb, A0⟩ := rfl_start w b u n c p o q cz pz y m d h mi s
  have HX := Lib.hid hx
  have HY := Lib.hid hy
  have HDB := Lib.hid hdb
  have A0 := Lib.hid A0
  have HCK := Lib.hid (rCheck_any b u n c p f W1 (hs.below A0.out) hn)
  have HCZ := Lib.hid (fun X (hX : Below W1.heap.size W1 X) => rCheckZone_any o q cz pz g X ((hs2.below A0.out).below hX) hq)
  rw [ht] at HCK
  rw [hz] at HCZ
  obtain ⟨km, rfl, hdt⟩ := okDate_yes hm
  have HDY := Lib.hid (fun X => rDay_ok (m := km) X hdt)
  clear hdt hm
  have A := Lib.hid (fun X => show Calls Tryd.prog 56 #[.int .i64 h, .int .i64 0, .int .i64 23] X fun e w' => e = .returned (.bool false) ∧ X = w' from by have := in_any h 0 23 X; rw [hA] at this; exact this)
  clear hA
  clear hn hq ht hz
  clear hx hy hdb hs hs2
  go_enter Tryd.func22, Tryd.ntmps22
  go_upto_region 1 with fail
  clear hW1
  obtain ⟨x0, x1, x2⟩ := HX.out
  have zx := cell_lt x0
  go_upto_region 4 with (go_at_call 57; refine HCK.out.mono ?_; rintro e w2 ⟨rfl, hb2⟩; have HB2 := Lib.hid hb2)
  clear x0 x1 x2 zx hb2
  obtain ⟨y0, y1⟩ := HY.out.below HB2.out
  have zy := cell_lt y0
  go_upto_region 7 with (go_at_call 20; refine (HCZ.out _ HB2.out).mono ?_; rintro e w3 ⟨rfl, hb3⟩; have HB3 := Lib.hid (bt HB2.out hb3))
  clear y0 y1 zy hb3
  obtain ⟨d0, d1, d2, d3, d4, d5⟩ := HDB.out.below HB3.out
  have zd := cell_lt d0
  go_wp2_with (first | (go_at_call 61; refine (HDY.out _).mono ?_; rintro e w' ⟨rfl, rfl⟩) | (go_at_call 56; refine (A.out _).mono ?_; rintro e w' ⟨rfl, rfl⟩; clear A))
  go_ret2
  exact ⟨rfl, bt A0.out HB3.out⟩
set_option maxRecDepth 100000 in
set_option maxHeartbeats 4000000 in
theorem rFromLocal_mi {b u : Int} {n : Nat} {f : Nat → Int × Int} {o : Int} {q : Nat} {g : Nat → Int × Int} (ht : tabE b u n f = 0) (hz : zoneE o q g = 0) (y m d h mi s : Int) (hm : okDate y m d = true) (hA : (decide (0 ≤ h) && decide (h ≤ 23)) = true) (hB : (decide (0 ≤ mi) && decide (mi ≤ 59)) = false) (c : Nat) (p : Option Addr) (cz : Nat) (pz : Option Addr) (w : World) (hs : LpIn w f n p) (hs2 : LpIn w g q pz) (hn : n ≤ 1000000000000) (hq : q ≤ 1000000000000) :
    Calls Tryd.prog 22 #[.agg #[.int .i64 b, .slice p n c, .int .i64 u], .agg #[.int .i64 o, .slice pz q cz], .agg #[.int .i64 y, .int .i64 m, .int .i64 d, .int .i64 h, .int .i64 mi, .int .i64 s]] w fun e w' => e = .returned (.tuple #[.slice none 0 0, .int .i64 90]) ∧ Below w.heap.size w w' := by
  obtain ⟨W1, hW1, hx, hy, hdb, A0⟩ := rfl_start w b u n c p o q cz pz y m d h mi s
  have HX := Lib.hid hx
  have HY := Lib.hid hy
  have HDB := Lib.hid hdb
  have A0 := Lib.hid A0
  have HCK := Lib.hid (rCheck_any b u n c p f W1 (hs.below A0.out) hn)
  have HCZ := Lib.hid (fun X (hX : Below W1.heap.size W1 X) => rCheckZone_any o q cz pz g X ((hs2.below A0.out).below hX) hq)
  rw [ht] at HCK
  rw [hz] at HCZ
  obtain ⟨km, rfl, hdt⟩ := okDate_yes hm
  have HDY := Lib.hid (fun X => rDay_ok (m := km) X hdt)
  clear hdt hm
  have A := Lib.hid (fun X => show Calls Tryd.prog 56 #[.int .i64 h, .int .i64 0, .int .i64 23] X fun e w' => e = .returned (.bool true) ∧ X = w' from by have := in_any h 0 23 X; rw [hA] at this; exact this)
  have B := Lib.hid (fun X => show Calls Tryd.prog 56 #[.int .i64 mi, .int .i64 0, .int .i64 59] X fun e w' => e = .returned (.bool false) ∧ X = w' from by have := in_any mi 0 59 X; rw [hB] at this; exact this)
  clear hA hB
  clear hn hq ht hz
  clear hx hy hdb hs hs2
  go_enter Tryd.func22, Tryd.ntmps22
  go_upto_region 1 with fail
  clear hW1
  obtain ⟨x0, x1, x2⟩ := HX.out
  have zx := cell_lt x0
  go_upto_region 4 with (go_at_call 57; refine HCK.out.mono ?_; rintro e w2 ⟨rfl, hb2⟩; have HB2 := Lib.hid hb2)
  clear x0 x1 x2 zx hb2
  obtain ⟨y0, y1⟩ := HY.out.below HB2.out
  have zy := cell_lt y0
  go_upto_region 7 with (go_at_call 20; refine (HCZ.out _ HB2.out).mono ?_; rintro e w3 ⟨rfl, hb3⟩; have HB3 := Lib.hid (bt HB2.out hb3))
  clear y0 y1 zy hb3
  obtain ⟨d0, d1, d2, d3, d4, d5⟩ := HDB.out.below HB3.out
  have zd := cell_lt d0
  go_wp2_with (first | (go_at_call 61; refine (HDY.out _).mono ?_; rintro e w' ⟨rfl, rfl⟩) | (go_at_call 56; refine (A.out _).mono ?_; rintro e w' ⟨rfl, rfl⟩; clear A) | (go_at_call 56; refine (B.out _).mono ?_; rintro e w' ⟨rfl, rfl⟩; clear B))
  go_ret2
  exact ⟨rfl, bt A0.out HB3.out⟩
set_option maxRecDepth 100000 in
set_option maxHeartbeats 4000000 in
theorem rFromLocal_s {b u : Int} {n : Nat} {f : Nat → Int × Int} {o : Int} {q : Nat} {g : Nat → Int × Int} (ht : tabE b u n f = 0) (hz : zoneE o q g = 0) (y m d h mi s : Int) (hm : okDate y m d = true) (hA : (decide (0 ≤ h) && decide (h ≤ 23)) = true) (hB : (decide (0 ≤ mi) && decide (mi ≤ 59)) = true) (hC : (decide (0 ≤ s) && decide (s ≤ 60)) = false) (c : Nat) (p : Option Addr) (cz : Nat) (pz : Option Addr) (w : World) (hs : LpIn w f n p) (hs2 : LpIn w g q pz) (hn : n ≤ 1000000000000) (hq : q ≤ 1000000000000) :
    Calls Tryd.prog 22 #[.agg #[.int .i64 b, .slice p n c, .int .i64 u], .agg #[.int .i64 o, .slice pz q cz], .agg #[.int .i64 y, .int .i64 m, .int .i64 d, .int .i64 h, .int .i64 mi, .int .i64 s]] w fun e w' => e = .returned (.tuple #[.slice none 0 0, .int .i64 90]) ∧ Below w.heap.size w w' := by
  obtain ⟨W1, hW1, hx, hy, hdb, A0⟩ := rfl_start w b u n c p o q cz pz y m d h mi s
  have HX := Lib.hid hx
  have HY := Lib.hid hy
  have HDB := Lib.hid hdb
  have A0 := Lib.hid A0
  have HCK := Lib.hid (rCheck_any b u n c p f W1 (hs.below A0.out) hn)
  have HCZ := Lib.hid (fun X (hX : Below W1.heap.size W1 X) => rCheckZone_any o q cz pz g X ((hs2.below A0.out).below hX) hq)
  rw [ht] at HCK
  rw [hz] at HCZ
  obtain ⟨km, rfl, hdt⟩ := okDate_yes hm
  have HDY := Lib.hid (fun X => rDay_ok (m := km) X hdt)
  clear hdt hm
  have A := Lib.hid (fun X => show Calls Tryd.prog 56 #[.int .i64 h, .int .i64 0, .int .i64 23] X fun e w' => e = .returned (.bool true) ∧ X = w' from by have := in_any h 0 23 X; rw [hA] at this; exact this)
  have B := Lib.hid (fun X => show Calls Tryd.prog 56 #[.int .i64 mi, .int .i64 0, .int .i64 59] X fun e w' => e = .returned (.bool true) ∧ X = w' from by have := in_any mi 0 59 X; rw [hB] at this; exact this)
  have C := Lib.hid (fun X => show Calls Tryd.prog 56 #[.int .i64 s, .int .i64 0, .int .i64 60] X fun e w' => e = .returned (.bool false) ∧ X = w' from by have := in_any s 0 60 X; rw [hC] at this; exact this)
  clear hA hB hC
  clear hn hq ht hz
  clear hx hy hdb hs hs2
  go_enter Tryd.func22, Tryd.ntmps22
  go_upto_region 1 with fail
  clear hW1
  obtain ⟨x0, x1, x2⟩ := HX.out
  have zx := cell_lt x0
  go_upto_region 4 with (go_at_call 57; refine HCK.out.mono ?_; rintro e w2 ⟨rfl, hb2⟩; have HB2 := Lib.hid hb2)
  clear x0 x1 x2 zx hb2
  obtain ⟨y0, y1⟩ := HY.out.below HB2.out
  have zy := cell_lt y0
  go_upto_region 7 with (go_at_call 20; refine (HCZ.out _ HB2.out).mono ?_; rintro e w3 ⟨rfl, hb3⟩; have HB3 := Lib.hid (bt HB2.out hb3))
  clear y0 y1 zy hb3
  obtain ⟨d0, d1, d2, d3, d4, d5⟩ := HDB.out.below HB3.out
  have zd := cell_lt d0
  go_wp2_with (first | (go_at_call 61; refine (HDY.out _).mono ?_; rintro e w' ⟨rfl, rfl⟩) | (go_at_call 56; refine (A.out _).mono ?_; rintro e w' ⟨rfl, rfl⟩; clear A) | (go_at_call 56; refine (B.out _).mono ?_; rintro e w' ⟨rfl, rfl⟩; clear B) | (go_at_call 56; refine (C.out _).mono ?_; rintro e w' ⟨rfl, rfl⟩; clear C))
  go_ret2
  exact ⟨rfl, bt A0.out HB3.out⟩
end Go.Proofs.YtklhepgpepfgjaaDoor.Cal
