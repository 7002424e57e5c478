/- Layer 9 (calendar): the law CalendarInverse. (by gen_fi.py) -/
import Derived.Test.YtkepedfmebpbcaaDoorFh
import Derived.Test.YtkepedfmebpbcaaDoorFe
import Derived.Test.YtkepedfmebpbcaaDoorFc
import Derived.Test.YtkepedfmebpbcaaDoorDo
namespace Go.Proofs.YtkepedfmebpbcaaDoor.Cal
open Go Go.RowKit
attribute [local go_sem] Oper.semAt_some
structure NearV (b u T x : Int) (n : Nat) (f : Nat → Int × Int) (z sv : Int) : Prop where
  out : ∀ X c p, Mon X → LpIn X f n p → n ≤ c → c ≤ maxLen → Calls Tryd.prog 12 #[.agg #[.int .i64 b, .slice p n c, .int .i64 u], .int .i64 T, .int .u8 x, .int .i64 z] X fun e w' => e = .returned (.int .i64 sv) ∧ Below X.heap.size X w'
structure LawI (w X : World) (a9 : Nat) (b u : Int) (n c : Nat) (p : Option Addr) (f : Nat → Int × Int) : Prop where
  t : TBox X a9 b u n c p
  lp : LpIn X f n p
  mon : Mon X
  bel : Below w.heap.size w X
theorem LawI.below {w X Y : World} {a9 : Nat} {b u : Int} {n c : Nat} {p : Option Addr} {f : Nat → Int × Int} (k : LawI w X a9 b u n c p f) (hb : Below X.heap.size X Y) : LawI w Y a9 b u n c p f :=
  ⟨k.t.below hb, k.lp.below hb, k.mon.below hb, bt k.bel hb⟩
theorem LawI.new {w w2 : World} {b u : Int} {n c : Nat} {p : Option Addr} {f : Nat → Int × Int} (lp : LpIn w2 f n p) (mon : Mon w2) (bel : Below w.heap.size w w2) : LawI w (w2.alloc (.cells #[.int .i64 b, .slice p n c, .int .i64 u] 28)) w2.heap.size b u n c p f := by
  have b1 := below_alloc (Below.refl w2.heap.size w2) (.cells #[.int .i64 b, .slice p n c, .int .i64 u] 28)
  exact ⟨TBox.new w2 b u n c p 28, lp.below b1, mon.below b1, bt bel b1⟩
set_option maxRecDepth 100000 in
set_option maxHeartbeats 8000000 in
theorem calendarInverse_any (g : Nat → Int) (nl cl : Nat) (pl : Option Addr) (x z1 z2 : Int) (hx : 0 ≤ x ∧ x ≤ 255) (w : World) (hw : Mon w) (hl : ByIn w g nl pl) (hm : nl ≤ maxLen) :
    Calls Tryd.prog 5 #[.slice pl nl cl, .int .u8 x, .int .i64 z1, .int .i64 z2] w fun e w' => e = .returned (.bool true) ∧ Below w.heap.size w w' := by
  have HMD := Lib.hid (Made_any g nl cl pl w hw hl hm)
  have HW := Lib.hid hw
  have HX := Lib.hid hx
  clear hw hl hm hx
  go_enter Tryd.func5, Tryd.ntmps5
  go_upto_region 2 with (go_at_call 10; refine HMD.out.mono ?_; rintro e w2 ⟨b, u, n, c, p, f, rfl, ht, hn, hc, hcm, hlp, hb⟩; have HLW := Lib.hid (LawI.new (b := b) (u := u) (c := c) hlp (HW.out.below hb) hb); have HT := Lib.hid ht; have HC := Lib.hid (And.intro hc hcm); clear ht hn hc hcm hlp hb)
  generalize w2.alloc (.cells #[.int .i64 b, .slice p n c, .int .i64 u] 28) = X0 at *
  generalize w2.heap.size = a9 at *
  have HE := Lib.hid HT.out.tabE
  obtain ⟨sa, hsa, hna⟩ := near_ex HE.out x z1 HX.out
  obtain ⟨sb, hsb, hnb⟩ := near_ex HE.out x z2 HX.out
  have KA := Lib.hid (known_in HE.out hsa)
  have KB := Lib.hid (known_in HE.out hsb)
  have KT := Lib.hid (known_out HE.out)
  have htp := HT.out.total_pos
  have htb := HT.out.total_bd
  have KL := Lib.hid (known_in HE.out (s := beginS f n u - 1) (by omega))
  obtain ⟨da, hda⟩ := known_day KA.out
  obtain ⟨db, hdb⟩ := known_day KB.out
  obtain ⟨dl, hdl⟩ := known_day KL.out
  obtain ⟨ya, ka, ea, hca⟩ := civ_exists da (by have := hda.d1; have := hda.d2; have := HT.out.u2; omega)
  obtain ⟨yb, kb, eb, hcb⟩ := civ_exists db (by have := hdb.d1; have := hdb.d2; have := HT.out.u2; omega)
  obtain ⟨yl, kl, el, hcl⟩ := civ_exists dl (by have := hdl.d1; have := hdl.d2; have := HT.out.u2; omega)
  have HDA := Lib.hid (fun X (hX : Mon X) (hL : LpIn X f n p) => Dates_ok KA.out hda hca c p X hX hL HC.out.1 HC.out.2)
  have HDB := Lib.hid (fun X (hX : Mon X) (hL : LpIn X f n p) => Dates_ok KB.out hdb hcb c p X hX hL HC.out.1 HC.out.2)
  have HDL := Lib.hid (fun X (hX : Mon X) (hL : LpIn X f n p) => Dates_ok KL.out hdl hcl c p X hX hL HC.out.1 HC.out.2)
  have HDT := Lib.hid (fun X (hX : Mon X) (hL : LpIn X f n p) => Dates_no (f := f) (by rw [KT.out]; decide) c p X hX hL (by have := HT.out.n1; omega) HC.out.1 HC.out.2)
  rw [KT.out] at HDT
  obtain ⟨q1, q2, q3, q4, q5⟩ := back_has HT.out hda hca
  have HSA := Lib.hid (fun X (hX : Mon X) (hL : LpIn X f n p) => Seconds_ok HE.out hca.toIsDate _ _ _ q1 q2 q3 q4 c p X hX hL HC.out.1 HC.out.2)
  rw [q5] at HSA
  have HLX := Lib.hid (lex_same HT.out hda hdb hca hcb)
  obtain ⟨m1, m2⟩ := last_min HT.out hdl
  rw [m1, m2] at HDL
  have HTOT := Lib.hid (fun X (hX : Mon X) (hL : LpIn X f n p) => Total_any b u n c p f X hX hL (by have := HT.out.n1; omega) HC.out.1 HC.out.2)
  rw [HE.out, if_pos rfl] at HTOT
  have NA := Lib.hid (NearV.mk hna)
  have NB := Lib.hid (NearV.mk hnb)
  clear hna hnb q1 q2 q3 q4 q5 m1 m2 hda hdb hdl hca hcb hcl KA KB KT KL
  generalize scS (sa - beginS f n da) = sca at *
  generalize mnS (sa - beginS f n da) = mna at *
  generalize hrS (sa - beginS f n da) = hra at *
  generalize scS (sb - beginS f n db) = scb at *
  generalize mnS (sb - beginS f n db) = mnb at *
  generalize hrS (sb - beginS f n db) = hrb at *
  generalize scS (beginS f n u - 1 - beginS f n dl) = scl at *
  generalize (ka : Int) = kai at *
  generalize (kb : Int) = kbi at *
  generalize (kl : Int) = kli at *
  generalize beginS f n u = T at *
  have HLB := Lib.hid (fun X => lbefore_any ya kai ea hra mna sca yb kbi eb hrb mnb scb X)
  rw [HLX.out] at HLB
  have w1 : IntKind.i64.wrap (T - 1) = T - 1 := IntWalk.i64_in _ (by omega)
  have ht1 : ¬ T < 1 := by omega
  obtain ⟨x0, x1, x2⟩ := HLW.out.t
  have zx := cell_lt x0
  go_upto_region 5 with (go_at_call 11; refine (HTOT.out _ HLW.out.mon HLW.out.lp).mono ?_; rintro e v1 ⟨rfl, hb⟩; have HL := Lib.hid (HLW.out.below hb); clear hb HLW)
  clear x0 x1 x2 zx
  obtain ⟨x0, x1, x2⟩ := HL.out.t
  have zx := cell_lt x0
  have HK := Lib.hid (show ∀ X, Below v1.heap.size v1 X → (fun w' => Below v1.heap.size v1 w' ∧ w'.cell? ⟨a9, 0, none⟩ = some (.int .i64 b) ∧ w'.cell? ⟨a9, 1, none⟩ = some (.slice p n c) ∧ w'.cell? ⟨a9, 2, none⟩ = some (.int .i64 u)) X from fun X h => ⟨h, cell_below h x0, cell_below h x1, cell_below h x2⟩)
  have HB0 := Lib.hid (Below.refl v1.heap.size v1)
  have HN := Lib.hid (fun X (hX : Below v1.heap.size v1 X) z sv (hv : NearV b u T x n f z sv) => Calls.bel hX (hv.out X c p (HL.out.mon.below hX) (HL.out.lp.below hX) HC.out.1 HC.out.2))
  go_region_held3 (fun w' => Below v1.heap.size v1 w' ∧ w'.cell? ⟨a9, 0, none⟩ = some (.int .i64 b) ∧ w'.cell? ⟨a9, 1, none⟩ = some (.slice p n c) ∧ w'.cell? ⟨a9, 2, none⟩ = some (.int .i64 u))
    (exact HK.out _ (by first | assumption | exact HB0.out | exact Below.drew HB0.out | exact Below.drew (by assumption)))
    (first | (go_at_call 12; refine (HN.out _ (by first | assumption | exact HB0.out | exact Below.drew HB0.out) _ _ (by first | exact NA.out | exact NB.out)).mono ?_; rintro e w3 ⟨rfl, hb3⟩))
  have HL2 := Lib.hid (HL.out.below hb3)
  clear x0 x1 x2 zx hb3 HK HB0 HN HL
  obtain ⟨x0, x1, x2⟩ := HL2.out.t
  have zx := cell_lt x0
  go_upto_region 7 with (go_at_call 13; refine (HDA.out _ HL2.out.mon HL2.out.lp).mono ?_; rintro e v3 ⟨rfl, hb⟩; have HL9 := Lib.hid (HL2.out.below hb); clear hb HL2)
  clear x0 x1 x2 zx
  have hbx := below_alloc (Below.refl v3.heap.size v3) (.cells #[.int .i64 ya, .int .i64 kai, .int .i64 ea, .int .i64 hra, .int .i64 mna, .int .i64 sca] 30)
  have BA := Lib.hid (DBox.new v3 ya kai ea hra mna sca)
  have HL3 := Lib.hid (HL9.out.below hbx)
  clear hbx HL9
  generalize v3.alloc (.cells #[.int .i64 ya, .int .i64 kai, .int .i64 ea, .int .i64 hra, .int .i64 mna, .int .i64 sca] 30) = v3a at *
  obtain ⟨av3, hav3⟩ : ∃ q, v3.heap.size = q := ⟨_, rfl⟩
  rw [hav3] at BA ⊢
  clear hav3
  obtain ⟨x0, x1, x2⟩ := HL3.out.t
  have zx := cell_lt x0
  go_upto_region 8 with (go_at_call 13; refine (HDB.out _ HL3.out.mon HL3.out.lp).mono ?_; rintro e v4 ⟨rfl, hb⟩; have HL9 := Lib.hid (HL3.out.below hb); have BA := Lib.hid (BA.out.below hb); clear hb HL3)
  clear x0 x1 x2 zx
  have hbx := below_alloc (Below.refl v4.heap.size v4) (.cells #[.int .i64 yb, .int .i64 kbi, .int .i64 eb, .int .i64 hrb, .int .i64 mnb, .int .i64 scb] 30)
  have BB := Lib.hid (DBox.new v4 yb kbi eb hrb mnb scb)
  have HL4 := Lib.hid (HL9.out.below hbx)
  have BA := Lib.hid (BA.out.below hbx)
  clear hbx HL9
  generalize v4.alloc (.cells #[.int .i64 yb, .int .i64 kbi, .int .i64 eb, .int .i64 hrb, .int .i64 mnb, .int .i64 scb] 30) = v4a at *
  obtain ⟨av4, hav4⟩ : ∃ q, v4.heap.size = q := ⟨_, rfl⟩
  rw [hav4] at BB ⊢
  clear hav4
  obtain ⟨x0, x1, x2⟩ := HL4.out.t
  have zx := cell_lt x0
  obtain ⟨d0, d1, d2, d3, d4, d5⟩ := BA.out
  have zd := cell_lt d0
  go_upto_region 9 with (go_at_call 14; refine (HSA.out _ HL4.out.mon HL4.out.lp).mono ?_; rintro e v5 ⟨rfl, hb⟩; have HL5 := Lib.hid (HL4.out.below hb); have BA := Lib.hid (BA.out.below hb); have BB := Lib.hid (BB.out.below hb); clear hb HL4)
  clear x0 x1 x2 zx d0 d1 d2 d3 d4 d5 zd
  obtain ⟨d0, d1, d2, d3, d4, d5⟩ := BA.out
  obtain ⟨e0, e1, e2, e3, e4, e5⟩ := BB.out
  have zd := cell_lt d0
  have ze := cell_lt e0
  have HLBC := Lib.hid (HLB.out v5)
  have HL6x : Hid (∀ X, Below v5.heap.size v5 X → LawI w X a9 b u n c p f) := Lib.hid (fun X h => HL5.out.below h)
  obtain ⟨lb, hlb⟩ : ∃ lb, decide (sa < sb) = lb := ⟨_, rfl⟩
  rw [hlb] at HLBC
  have hlb2 : lb = true ∧ sa < sb ∨ lb = false ∧ ¬ sa < sb := by
    by_cases h : sa < sb
    · left; exact ⟨by rw [← hlb]; simpa using h, h⟩
    · right; exact ⟨by rw [← hlb]; simpa using h, h⟩
  clear hlb HLX HLB
  rcases hlb2 with ⟨rfl, hab⟩ | ⟨rfl, hab⟩
  · go_upto_region 11 with (go_at_call 15; refine HLBC.out.mono ?_; rintro e v6 ⟨rfl, hb⟩; have HL6 := Lib.hid (HL6x.out _ hb); clear hb HL5)
    clear d0 d1 d2 d3 d4 d5 e0 e1 e2 e3 e4 e5 zd ze
    obtain ⟨x0, x1, x2⟩ := HL6.out.t
    have zx := cell_lt x0
    go_upto_region 12 with (go_at_call 13; refine (HDT.out _ HL6.out.mon HL6.out.lp).mono ?_; rintro e v7 ⟨rfl, hb⟩; have HL9 := Lib.hid (HL6.out.below hb); clear hb HL6)
    clear x0 x1 x2 zx
    have HL7 := Lib.hid HL9.out
    clear HL9
    obtain ⟨x0, x1, x2⟩ := HL7.out.t
    have zx := cell_lt x0
    go_upto_region 13 with (go_at_call 13; refine (HDL.out _ HL7.out.mon HL7.out.lp).mono ?_; rintro e v8 ⟨rfl, hb⟩; have HL9 := Lib.hid (HL7.out.below hb); clear hb HL7)
    clear x0 x1 x2 zx
    have hbx := below_alloc (Below.refl v8.heap.size v8) (.cells #[.int .i64 yl, .int .i64 kli, .int .i64 el, .int .i64 23, .int .i64 59, .int .i64 scl] 30)
    have BL := Lib.hid (DBox.new v8 yl kli el 23 59 scl)
    have HL8 := Lib.hid (HL9.out.below hbx)
    clear hbx HL9
    generalize v8.alloc (.cells #[.int .i64 yl, .int .i64 kli, .int .i64 el, .int .i64 23, .int .i64 59, .int .i64 scl] 30) = v8a at *
    obtain ⟨av8, hav8⟩ : ∃ q, v8.heap.size = q := ⟨_, rfl⟩
    rw [hav8] at BL ⊢
    clear hav8
    obtain ⟨d0, d1, d2, d3, d4, d5⟩ := BL.out
    have zd := cell_lt d0
    go_wp2_with (go_at_call 8; refine (awake_any _ HL8.out.mon).mono ?_; rintro e v9 ⟨rfl, hb⟩; have HB9 := Lib.hid hb; clear hb)
    go_ret
    exact ⟨rfl, bt HL8.out.bel HB9.out⟩
  · go_upto_region 11 with (go_at_call 15; refine HLBC.out.mono ?_; rintro e v6 ⟨rfl, hb⟩; have HL6 := Lib.hid (HL6x.out _ hb); clear hb HL5)
    clear d0 d1 d2 d3 d4 d5 e0 e1 e2 e3 e4 e5 zd ze
    obtain ⟨x0, x1, x2⟩ := HL6.out.t
    have zx := cell_lt x0
    go_upto_region 12 with (go_at_call 13; refine (HDT.out _ HL6.out.mon HL6.out.lp).mono ?_; rintro e v7 ⟨rfl, hb⟩; have HL9 := Lib.hid (HL6.out.below hb); clear hb HL6)
    clear x0 x1 x2 zx
    have HL7 := Lib.hid HL9.out
    clear HL9
    obtain ⟨x0, x1, x2⟩ := HL7.out.t
    have zx := cell_lt x0
    go_upto_region 13 with (go_at_call 13; refine (HDL.out _ HL7.out.mon HL7.out.lp).mono ?_; rintro e v8 ⟨rfl, hb⟩; have HL9 := Lib.hid (HL7.out.below hb); clear hb HL7)
    clear x0 x1 x2 zx
    have hbx := below_alloc (Below.refl v8.heap.size v8) (.cells #[.int .i64 yl, .int .i64 kli, .int .i64 el, .int .i64 23, .int .i64 59, .int .i64 scl] 30)
    have BL := Lib.hid (DBox.new v8 yl kli el 23 59 scl)
    have HL8 := Lib.hid (HL9.out.below hbx)
    clear hbx HL9
    generalize v8.alloc (.cells #[.int .i64 yl, .int .i64 kli, .int .i64 el, .int .i64 23, .int .i64 59, .int .i64 scl] 30) = v8a at *
    obtain ⟨av8, hav8⟩ : ∃ q, v8.heap.size = q := ⟨_, rfl⟩
    rw [hav8] at BL ⊢
    clear hav8
    obtain ⟨d0, d1, d2, d3, d4, d5⟩ := BL.out
    have zd := cell_lt d0
    go_wp2_with (go_at_call 8; refine (awake_any _ HL8.out.mon).mono ?_; rintro e v9 ⟨rfl, hb⟩; have HB9 := Lib.hid hb; clear hb)
    go_ret
    exact ⟨rfl, bt HL8.out.bel HB9.out⟩
end Go.Proofs.YtkepedfmebpbcaaDoor.Cal
