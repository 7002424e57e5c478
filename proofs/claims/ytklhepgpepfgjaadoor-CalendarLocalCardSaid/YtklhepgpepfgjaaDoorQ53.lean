/- Layer 9 (calendar): the law CalendarLocal. (by gen_kp.py) -/
import Derived.Test.YtklhepgpepfgjaaDoorQ42
import Derived.Test.YtklhepgpepfgjaaDoorQ52
import Derived.Test.YtklhepgpepfgjaaDoorQ51
import Derived.Test.YtklhepgpepfgjaaDoorQ47
import Derived.Test.YtklhepgpepfgjaaDoorQ45
import Derived.Test.YtklhepgpepfgjaaDoorQ44
import Derived.Test.YtklhepgpepfgjaaDoorQ21
import Derived.Test.YtklhepgpepfgjaaDoorQ14
namespace Go.Proofs.YtklhepgpepfgjaaDoor.Cal
open Go Go.RowKit
attribute [local go_sem] Oper.semAt_some
structure LawL (w X : World) (a9 : Nat) (b u : Int) (n c : Nat) (p : Option Addr) (f : Nat → Int × Int) : Prop where
  t : TBox X a9 b u n c p
  lp : LpIn X f n p
  mon : Mon X
  bel : Below w.heap.size w X
theorem LawL.below {w X Y : World} {a9 : Nat} {b u : Int} {n c : Nat} {p : Option Addr} {f : Nat → Int × Int} (k : LawL w X a9 b u n c p f) (hb : Below X.heap.size X Y) : LawL w Y a9 b u n c p f :=
  ⟨k.t.below hb, k.lp.below hb, k.mon.below hb, bt k.bel hb⟩
theorem LawL.new {w w2 : World} {b u : Int} {n c : Nat} {p : Option Addr} {f : Nat → Int × Int} (lp : LpIn w2 f n p) (mon : Mon w2) (bel : Below w.heap.size w w2) : LawL w (w2.alloc (.cells #[.int .i64 b, .slice p n c, .int .i64 u] 24)) w2.heap.size b u n c p f := by
  have b1 := below_alloc (Below.refl w2.heap.size w2) (.cells #[.int .i64 b, .slice p n c, .int .i64 u] 24)
  exact ⟨TBox.new w2 b u n c p 24, lp.below b1, mon.below b1, bt bel b1⟩
/-- the zone in its box -/
structure LawZ (X : World) (az : Nat) (o : Int) (q c : Nat) (p : Option Addr) (g : Nat → Int × Int) : Prop where
  z : ZBox X az o q c p
  lz : LpIn X g q p
theorem LawZ.below {X Y : World} {az : Nat} {o : Int} {q c : Nat} {p : Option Addr} {g : Nat → Int × Int} (k : LawZ X az o q c p g) (hb : Below X.heap.size X Y) : LawZ Y az o q c p g := ⟨k.z.below hb, k.lz.below hb⟩
theorem day_parts {L hh mi k1 : Int} (h1 : L % 1440 / 60 = hh) (h2 : L % 1440 % 60 = mi) (h3 : L / 1440 = k1) : 1440 * k1 + 60 * hh + mi = L ∧ (0 ≤ hh ∧ hh ≤ 23) ∧ (0 ≤ mi ∧ mi ≤ 59) := by omega
theorem wf_u16l {n : Int} (h : (Lit.int .u16 n).wf = true) : 0 ≤ n ∧ n ≤ 65535 := by
  simp only [Lit.wf, Bool.and_eq_true, decide_eq_true_eq] at h
  have h1 : IntKind.u16.min = 0 := by decide
  have h2 : IntKind.u16.max = 65535 := by decide
  omega
theorem ite_six {α : Type} {a b c d e f : Prop} [Decidable a] [Decidable b] [Decidable c] [Decidable d] [Decidable e] [Decidable f] (h : a ∧ b ∧ c ∧ d ∧ e ∧ f → False) {x y : α} :
    (if a then if b then if c then if d then if e then if f then x else y else y else y else y else y else y) = y := by
  by_cases ha : a
  · by_cases hb : b
    · by_cases hc : c
      · by_cases hd : d
        · by_cases he : e
          · by_cases hf : f
            · exact (h ⟨ha, hb, hc, hd, he, hf⟩).elim
            · simp [hf]
          · simp [he]
        · simp [hd]
      · simp [hc]
    · simp [hb]
  · simp [ha]
set_option maxRecDepth 100000 in
set_option maxHeartbeats 16000000 in
theorem calendarLocal_any (g : Nat → Int) (nl cl : Nat) (pl : Option Addr) (g2 : Nat → Int) (nl2 cl2 : Nat) (pl2 : Option Addr) (x z1 xo : Int) (hx : 0 ≤ x ∧ x ≤ 255) (hxo : 0 ≤ xo ∧ xo ≤ 65535) (w : World) (hw : Mon w) (hl : ByIn w g nl pl) (hm : nl ≤ maxLen) (hl2 : ByIn w g2 nl2 pl2) (hm2 : nl2 ≤ maxLen) :
    Calls Tryd.prog 4 #[.slice pl nl cl, .slice pl2 nl2 cl2, .int .u8 x, .int .i64 z1, .int .u16 xo] w fun e w' => e = .returned (.bool true) ∧ Below w.heap.size w w' := by
  have HMD := Lib.hid (Made_any g nl cl pl w hw hl hm)
  have HW := Lib.hid hw
  have HX := Lib.hid hx
  have HXO := Lib.hid hxo
  have HL2 := Lib.hid hl2
  have HM2 := Lib.hid hm2
  clear hw hl hm hx hl2 hm2 hxo
  go_enter Tryd.func4, Tryd.ntmps4
  go_upto_region 2 with (go_at_call 7; refine HMD.out.mono ?_; rintro e w2 ⟨b, u, n, c, p, f, rfl, ht, hn, hc, hcm, hlp, hb⟩; have HLW := Lib.hid (LawL.new (b := b) (u := u) (c := c) hlp (HW.out.below hb) hb); have HT := Lib.hid ht; have HC := Lib.hid (And.intro hc hcm); have HN12 := Lib.hid hn; clear ht hn hc hcm hlp hb)
  generalize w2.alloc (.cells #[.int .i64 b, .slice p n c, .int .i64 u] 24) = X0 at *
  generalize w2.heap.size = a9 at *
  have HE := Lib.hid HT.out.tabE
  have hn0 : n ≤ 100 := HT.out.n1
  obtain ⟨sa, hsa, hna⟩ := near_ex HE.out x z1 HX.out
  have KA := Lib.hid (known_in HE.out hsa)
  have htp := HT.out.total_pos
  have htb := HT.out.total_bd
  obtain ⟨da, hda⟩ := known_day KA.out
  have hd1 := hda.d1; have hd2 := hda.d2; have hu2 := HT.out.u2
  obtain ⟨ya, ka, ea, hca⟩ := civ_exists da (by omega)
  have HCA := Lib.hid hca
  have HDD := Lib.hid hda
  have HDA := Lib.hid (fun X (hX : Mon X) (hL : LpIn X f n p) => Dates_ok KA.out hda hca c p X hX hL HC.out.1 HC.out.2)
  have HDY := Lib.hid (fun X (hX : Mon X) => Day_ok X hX hca.toIsDate)
  rw [← hca.n_] at HDY
  have HTOT := Lib.hid (fun X (hX : Mon X) (hL : LpIn X f n p) => Total_any b u n c p f X hX hL (by omega) HC.out.1 HC.out.2)
  rw [HE.out, if_pos rfl] at HTOT
  have HMO := Lib.hid (mom_of HT.out hda)
  have HMB := Lib.hid (show momM f n da sa / 1440 = da ∧ hrS (sa - beginS f n da) = momM f n da sa % 1440 / 60 ∧ mnS (sa - beginS f n da) = momM f n da sa % 1440 % 60 ∧ scS (sa - beginS f n da) = momS f n da sa ∧ (0 ≤ momS f n da sa ∧ momS f n da sa ≤ 60) from ⟨HMO.out.day, by unfold hrS; rw [HMO.out.ofd], by unfold mnS; rw [HMO.out.ofd], rfl, HMO.out.s0⟩)
  clear KA hca hda HMO
  generalize hka : (ka : Int) = kai at *
  have HKA := Lib.hid hka
  clear hka
  generalize scS (sa - beginS f n da) = sca at *
  generalize mnS (sa - beginS f n da) = mna at *
  generalize hrS (sa - beginS f n da) = hra at *
  obtain ⟨T, hT⟩ : ∃ T, beginS f n u = T := ⟨_, rfl⟩
  rw [hT] at hna HTOT htb htp hsa
  clear hT
  have HNA := Lib.hid hna
  have HSB := Lib.hid (show 0 ≤ sa ∧ sa ≤ 100000000000 by omega)
  clear hna
  have ht1 : ¬ T < 1 := by omega
  have HL := HLW
  clear HLW
  obtain ⟨x0, x1, x2⟩ := HL.out.t
  have zx := cell_lt x0
  go_upto_region 5 with (go_at_call 8; refine (HTOT.out _ HL.out.mon HL.out.lp).mono ?_; rintro e v1 ⟨rfl, hb⟩; have HL9 := Lib.hid (HL.out.below hb); clear hb HL)
  have HL := HL9
  clear x0 x1 x2 zx HL9
  obtain ⟨x0, x1, x2⟩ := HL.out.t
  have zx := cell_lt x0
  go_upto_region 6 with (go_at_call 9; refine (HNA.out _ _ _ HL.out.mon HL.out.lp HC.out.1 HC.out.2).mono ?_; rintro e v2 ⟨rfl, hb⟩; have HL9 := Lib.hid (HL.out.below hb); clear hb HL)
  have HL := HL9
  clear x0 x1 x2 zx HL9
  have HZM := Lib.hid (zoned_any g2 nl2 cl2 pl2 sa HSB.out v2 (HL2.out.below HL.out.bel) HM2.out)
  go_upto_region 7 with (go_at_call 10; refine HZM.out.mono ?_; rintro e v3 ⟨o, q, cz, pz, gz, rfl, hzo, hgt, hlz, hb⟩; have HZO := Lib.hid hzo; have HGT := Lib.hid hgt; have HLZ := Lib.hid hlz; have HB3 := Lib.hid hb; clear hzo hgt hlz hb)
  clear HZM
  have hbz := below_alloc (Below.refl v3.heap.size v3) (.cells #[.int .i64 o, .slice pz q cz] 27)
  have HL3 := Lib.hid ((HL.out.below HB3.out).below hbz)
  have HZ := Lib.hid (LawZ.mk (ZBox.new v3 o q cz pz 27) (HLZ.out.below hbz))
  clear hbz HL HB3 HLZ
  have HL := HL3
  clear HL3
  generalize v3.alloc (.cells #[.int .i64 o, .slice pz q cz] 27) = V3 at *
  obtain ⟨az, haz⟩ : ∃ a, v3.heap.size = a := ⟨_, rfl⟩
  rw [haz] at HZ ⊢
  clear haz
  have hzq := HZO.out.q1
  have HZE := Lib.hid HZO.out.zoneE
  obtain ⟨mm, hmm⟩ : ∃ mm, momM f n da sa = mm := ⟨_, rfl⟩
  obtain ⟨ms, hms⟩ : ∃ ms, momS f n da sa = ms := ⟨_, rfl⟩
  obtain ⟨of, hof⟩ : ∃ of, offAt o gz sa (q + 1) = of := ⟨_, rfl⟩
  have HOF := Lib.hid (show -1440 ≤ of ∧ of ≤ 1440 by have := HZO.out.offAt_bd sa (q + 1) (Nat.le_refl _); rw [hof] at this; exact this)
  rw [hmm, hms] at HMB
  by_cases hcal : 41317 ≤ (mm + of) / 1440 ∧ (mm + of) / 1440 ≤ 88068
  · obtain ⟨Y, K, E, hciL⟩ := civ_exists _ hcal
    have HCL := Lib.hid hciL
    obtain ⟨hh, hhe⟩ : ∃ hh, (mm + of) % 1440 / 60 = hh := ⟨_, rfl⟩
    obtain ⟨mi, hmi⟩ : ∃ mi, (mm + of) % 1440 % 60 = mi := ⟨_, rfl⟩
    obtain ⟨ld, hld⟩ : ∃ ld, (mm + of) / 1440 = ld := ⟨_, rfl⟩
    have HPT := Lib.hid (day_parts hhe hmi hld)
    have HLD := Lib.hid (show 41317 ≤ ld ∧ ld ≤ 88068 by rw [← hld]; exact hcal)
    have HEX := Lib.hid (loc_ex HE.out HZE.out HGT.out (sa + xo - 32768) ms hciL)
    rw [hhe, hmi] at HEX
    have HLO := Lib.hid (fun X hX hL hZ => Local_ok sa HE.out HZE.out HGT.out HDD.out (by rw [hmm, hof]; exact hciL) hmm hms hof hhe hmi c p cz pz X hX hL hZ (by omega) (by omega) HC.out.1 HC.out.2)
    obtain ⟨L, hLe⟩ : ∃ L, zfound u f n (mm + of) ms o q gz (q + 1) = L := ⟨_, rfl⟩
    have hmem : sa ∈ L := by rw [← hLe]; exact (zfound_iff HT.out HZO.out (mm + of) ms HDD.out).2 ⟨by rw [hmm, hof], hms⟩
    have HSO := Lib.hid (atL_sorted (l := L) (by rw [← hLe]; exact zfound_lt HZO.out u f n (mm + of) ms (q + 1) (Nat.le_refl _)))
    have HLL := Lib.hid (show L.length ≤ 201 by rw [← hLe]; have := zfound_len u f n (mm + of) ms o q gz (q + 1); omega)
    rw [hLe] at HEX
    have hne : ¬ L = [] := fun e => by rw [e] at hmem; cases hmem
    have HFR : Hid (∀ X, Mon X → LpIn X f n p → LpIn X gz q pz → Calls Tryd.prog 13 #[.agg #[.int .i64 b, .slice p n c, .int .i64 u], .agg #[.int .i64 o, .slice pz q cz], .agg #[.int .i64 Y, .int .i64 (K : Int), .int .i64 E, .int .i64 hh, .int .i64 mi, .int .i64 ms]] X fun e w' => (∃ r cr, e = .returned (.tuple #[.slice r L.length cr, .int .i64 0]) ∧ FnIn w' (atL L) L.length r) ∧ Below X.heap.size X w') := Lib.hid (fun X hX hL hZ => by
      have h1 := HPT.out
      have h2 := HMB.out.2.2.2.2
      have := FromLocal_ok HE.out HZE.out HGT.out hciL.toIsDate hh mi ms (by unfold tB; simp only [Bool.and_eq_true, decide_eq_true_eq]; omega) (by unfold miB; simp only [Bool.and_eq_true, decide_eq_true_eq]; omega) (by unfold sB; simp only [Bool.and_eq_true, decide_eq_true_eq]; omega) c p cz pz X hX hL hZ HC.out.1 HC.out.2
      rw [← hciL.n_, hld, h1.1, hLe, if_neg hne] at this
      exact this)
    have HMEM := Lib.hid (has_at L)
    have HCS := Lib.hid (fun (r : Option Addr) (cr : Nat) X (h : FnIn X (atL L) L.length r) => contains_any (atL L) sa L.length cr r X (by have := HLL.out; omega) h true (by rw [has_at]; simp [hmem]))
    have HIS := Lib.hid (fun (r : Option Addr) (cr : Nat) X (h : FnIn X (atL L) L.length r) => isSorted_yes (atL L) L.length cr r X (by have := HLL.out; omega) h HSO.out)
    have HDY2 := Lib.hid (fun X (hX : Mon X) => Day_ok X hX hciL.toIsDate)
    rw [← hciL.n_, hld] at HDY2
    clear hcal hmm hms hof hciL hhe hmi hmem hne hLe
    generalize hK : (K : Int) = ki at *
    obtain ⟨x0, x1, x2⟩ := HL.out.t
    have zx := cell_lt x0
    obtain ⟨y0, y1⟩ := HZ.out.z
    have zy := cell_lt y0
    go_upto_region 8 with (go_at_call 11; refine (HLO.out _ HL.out.mon HL.out.lp HZ.out.lz).mono ?_; rintro e v4 ⟨rfl, hb⟩; have HL4 := Lib.hid (HL.out.below hb); have HZ4 := Lib.hid (HZ.out.below hb); clear hb HL HZ)
    clear x0 x1 x2 zx y0 y1 zy
    have hbd := below_alloc (Below.refl v4.heap.size v4) (.cells #[.int .i64 Y, .int .i64 ki, .int .i64 E, .int .i64 hh, .int .i64 mi, .int .i64 ms] 29)
    have HL := Lib.hid (HL4.out.below hbd)
    have HZ := Lib.hid (HZ4.out.below hbd)
    have HD1 := Lib.hid (DBox.new v4 Y ki E hh mi ms)
    clear hbd HL4 HZ4
    generalize v4.alloc (.cells #[.int .i64 Y, .int .i64 ki, .int .i64 E, .int .i64 hh, .int .i64 mi, .int .i64 ms] 29) = V4 at *
    obtain ⟨a16, ha16⟩ : ∃ a, v4.heap.size = a := ⟨_, rfl⟩
    rw [ha16] at HD1 ⊢
    clear ha16
    obtain ⟨x0, x1, x2⟩ := HL.out.t
    have zx := cell_lt x0
    go_upto_region 11 with (go_at_call 12; refine (HDA.out _ HL.out.mon HL.out.lp).mono ?_; rintro e v5 ⟨rfl, hb⟩; have HL5 := Lib.hid (HL.out.below hb); have HZ5 := Lib.hid (HZ.out.below hb); have HD5 := Lib.hid (HD1.out.below hb); clear hb HL HZ HD1)
    clear x0 x1 x2 zx
    have hbd := below_alloc (Below.refl v5.heap.size v5) (.cells #[.int .i64 ya, .int .i64 kai, .int .i64 ea, .int .i64 hra, .int .i64 mna, .int .i64 sca] 29)
    have HL := Lib.hid (HL5.out.below hbd)
    have HZ := Lib.hid (HZ5.out.below hbd)
    have HD1 := Lib.hid (HD5.out.below hbd)
    have HD2 := Lib.hid (DBox.new v5 ya kai ea hra mna sca)
    clear hbd HL5 HZ5 HD5
    generalize v5.alloc (.cells #[.int .i64 ya, .int .i64 kai, .int .i64 ea, .int .i64 hra, .int .i64 mna, .int .i64 sca] 29) = V5 at *
    obtain ⟨a18, ha18⟩ : ∃ a, v5.heap.size = a := ⟨_, rfl⟩
    rw [ha18] at HD2 ⊢
    clear ha18
    obtain ⟨x0, x1, x2⟩ := HL.out.t
    have zx := cell_lt x0
    obtain ⟨y0, y1⟩ := HZ.out.z
    have zy := cell_lt y0
    obtain ⟨d0, d1, d2, d3, d4, d5⟩ := HD1.out
    have zd := cell_lt d0
    go_upto_region 12 with (go_at_call 13; refine (HFR.out _ HL.out.mon HL.out.lp HZ.out.lz).mono ?_; rintro e v6 ⟨⟨r, cr, rfl, hfn⟩, hb⟩; have HFN := Lib.hid hfn; have HL6 := Lib.hid (HL.out.below hb); have HZ6 := Lib.hid (HZ.out.below hb); have HD6 := Lib.hid (HD1.out.below hb); have HE6 := Lib.hid (HD2.out.below hb); clear hb HL HZ HD1 HD2 hfn)
    clear x0 x1 x2 zx y0 y1 zy d0 d1 d2 d3 d4 d5 zd
    obtain ⟨d0, d1, d2, d3, d4, d5⟩ := HD6.out
    have zd := cell_lt d0
    obtain ⟨e0, e1, e2, e3, e4, e5⟩ := HE6.out
    have ze := cell_lt e0
    have hss := HMB.out.2.2.2.1
    subst hss
    go_upto_region 14 with (first | (go_at_call 14; refine (HCS.out r cr v6 HFN.out).mono ?_; rintro e v7 ⟨rfl, hb7⟩; have HB7 := Lib.hid hb7) | (go_at_call 15; refine (HIS.out r cr v7 (HFN.out.below HB7.out)).mono ?_; rintro e v8 ⟨rfl, hb8⟩; have HB8 := Lib.hid (bt HB7.out hb8); have d58 := (HD6.out.below HB8.out).c5; have e58 := (HE6.out.below HB8.out).c5; have zd8 := cell_lt d58; have ze8 := cell_lt e58))
    clear d0 d1 d2 d3 d4 d5 zd e0 e1 e2 e3 e4 e5 ze hb7 hb8 d58 e58 zd8 ze8
    have HL := Lib.hid (HL6.out.below HB8.out)
    have HZ := Lib.hid (HZ6.out.below HB8.out)
    have HFN8 := Lib.hid (HFN.out.below HB8.out)
    have HD8 := Lib.hid (HD6.out.below HB8.out)
    obtain ⟨d0, d1, d2, d3, d4, d5⟩ := HD8.out
    have zd := cell_lt d0
    obtain ⟨e0, e1, e2, e3, e4, e5⟩ := HE6.out.below HB8.out
    have ze := cell_lt e0
    clear HL6 HZ6 HFN HD6 HE6 HB7 HB8 HCS HIS
    have hm1 := HMB.out.1
    have hm2 := HMB.out.2.1
    have hm3 := HMB.out.2.2.1
    have hpt := HPT.out
    have hldb := HLD.out
    have hofb := HOF.out
    have hsb := HSB.out
    have hxo := HXO.out
    have k1 : IntKind.i64.wrap (ld - da) = ld - da := IntWalk.i64_in _ (by omega)
    have k2 : IntKind.i64.wrap (1440 * (ld - da)) = 1440 * (ld - da) := IntWalk.i64_in _ (by omega)
    have k3 : IntKind.i64.wrap (hh - hra) = hh - hra := IntWalk.i64_in _ (by omega)
    have k4 : IntKind.i64.wrap (60 * (hh - hra)) = 60 * (hh - hra) := IntWalk.i64_in _ (by omega)
    have k5 : IntKind.i64.wrap (1440 * (ld - da) + 60 * (hh - hra)) = 1440 * (ld - da) + 60 * (hh - hra) := IntWalk.i64_in _ (by omega)
    have k6 : IntKind.i64.wrap (1440 * (ld - da) + 60 * (hh - hra) + mi) = 1440 * (ld - da) + 60 * (hh - hra) + mi := IntWalk.i64_in _ (by omega)
    have k7 : IntKind.i64.wrap (1440 * (ld - da) + 60 * (hh - hra) + mi - mna) = of := by
      rw [show 1440 * (ld - da) + 60 * (hh - hra) + mi - mna = of by omega]; exact IntWalk.i64_in _ (by omega)
    obtain ⟨s1, hs1⟩ : ∃ s1, sa + xo = s1 := ⟨_, rfl⟩
    have k8 : IntKind.i64.wrap xo = xo := IntWalk.i64_in _ (by omega)
    have k9 : IntKind.i64.wrap (sa + xo) = s1 := by rw [hs1]; exact IntWalk.i64_in _ (by omega)
    obtain ⟨kk, hkk⟩ : ∃ kk, s1 - 32768 = kk := ⟨_, rfl⟩
    have k10 : IntKind.i64.wrap (s1 - 32768) = kk := by rw [hkk]; exact IntWalk.i64_in _ (by omega)
    rw [hs1, hkk] at HEX
    clear hs1 hkk hm1 hm2 hm3 hpt hldb hofb hsb hxo
    go_upto_region 15 with (go_at_call 16; refine (HDY.out _ HL.out.mon).mono ?_; rintro e w' ⟨rfl, rfl⟩)
    go_upto_region 16 with (go_at_call 16; refine (HDY2.out _ HL.out.mon).mono ?_; rintro e w' ⟨rfl, rfl⟩)
    go_upto_region 19 with fail
    obtain ⟨x0, x1, x2⟩ := HL.out.t
    have zx := cell_lt x0
    obtain ⟨y0, y1⟩ := HZ.out.z
    have zy := cell_lt y0
    obtain ⟨y9, m9, d9, h9, mi9, sc9, of9, e9, hca2, hno, hyes⟩ := HEX.out
    have HCA2 := Lib.hid hca2
    clear hca2 HEX
    by_cases he : e9 = 0
    · subst he
      have HYE := Lib.hid (hyes rfl)
      clear hno hyes
      go_upto_region 22 with (go_at_call 11; refine (HCA2.out c p cz pz _ HL.out.mon HL.out.lp HZ.out.lz HC.out.1 HC.out.2).mono ?_; rintro e v9 ⟨rfl, hb⟩; have HL9 := Lib.hid (HL.out.below hb); have HD9 := Lib.hid (HD8.out.below hb); have HF9 := Lib.hid (HFN8.out.below hb); clear hb)
      clear x0 x1 x2 zx y0 y1 zy d0 d1 d2 d3 d4 d5 zd e0 e1 e2 e3 e4 e5 ze k1 k2 k3 k4 k5 k6 k7 k8 k9 k10
      have hbd := below_alloc (Below.refl v9.heap.size v9) (.cells #[.int .i64 y9, .int .i64 m9, .int .i64 d9, .int .i64 h9, .int .i64 mi9, .int .i64 sc9] 29)
      have HL10 := Lib.hid (HL9.out.below hbd)
      have HD10 := Lib.hid (HD9.out.below hbd)
      have HF10 := Lib.hid (HF9.out.below hbd)
      have HD24 := Lib.hid (DBox.new v9 y9 m9 d9 h9 mi9 sc9)
      clear hbd HL9 HD9 HF9 HL HZ HD8 HFN8
      generalize v9.alloc (.cells #[.int .i64 y9, .int .i64 m9, .int .i64 d9, .int .i64 h9, .int .i64 mi9, .int .i64 sc9] 29) = V9 at *
      obtain ⟨a24, ha24⟩ : ∃ a, v9.heap.size = a := ⟨_, rfl⟩
      rw [ha24] at HD24 ⊢
      clear ha24
      by_cases hmk : kk ∈ L
      · obtain ⟨rfl, rfl, rfl, rfl, rfl, rfl⟩ := HYE.out.2 hmk
        have HCN := Lib.hid (show ∀ Z, Below V9.heap.size V9 Z → _ from fun Z hZ => Calls.bel hZ (contains_any (atL L) kk L.length cr r Z (by have := HLL.out; omega) (HF10.out.below hZ) true (by rw [has_at]; simp [hmk])))
        clear HYE hmk
        have HRC := Lib.hid (show ∀ Z, Below V9.heap.size V9 Z → DBox Z a24 y9 m9 d9 h9 mi9 sc9 from fun Z hZ => HD24.out.below hZ)
        have HRD := Lib.hid (show ∀ Z, Below V9.heap.size V9 Z → DBox Z a16 y9 m9 d9 h9 mi9 sc9 from fun Z hZ => HD10.out.below hZ)
        have HAWK := Lib.hid (show ∀ Z, Below V9.heap.size V9 Z → _ from fun Z hZ => Calls.bel hZ (awake_any Z (HL10.out.mon.below hZ)))
        refine (wpIn_wide (n := 9)).1 ?_
        refine wpIn_region_cls (fun Z => Below V9.heap.size V9 Z) 10 1 (Below.drew (Below.refl _ _)) (by kernel_rfl) (by kernel_rfl) (by kernel_rfl) (by kernel_rfl) (by kernel_rfl) rfl ?_
        simp only [List.take_succ_cons, List.take_zero]
        refine wpQuietIn_step (fun _ _ _ _ => trivial) (fun KQ hKQ => ?_)
        rw [if_pos (by rfl)]
        refine ⟨.agg #[.int .i64 y9, .int .i64 m9, .int .i64 d9, .int .i64 h9, .int .i64 mi9, .int .i64 sc9], fun Z hZ => ?_, hKQ _ ?_⟩
        · obtain ⟨q0, q1, q2, q3, q4, q5⟩ := HRC.out Z hZ; have qz := cell_lt q0; unfold Oper.quietAtIn; go_simp
        clear hKQ KQ
        simp only [Act.put, List.setIfInBounds_toArray, List.set_cons_zero, List.set_cons_succ]
        refine wpQuietIn_step (fun _ _ _ _ => trivial) (fun KQ hKQ => ?_)
        rw [if_pos (by rfl)]
        refine ⟨.agg #[.int .i64 y9, .int .i64 m9, .int .i64 d9, .int .i64 h9, .int .i64 mi9, .int .i64 sc9], fun Z hZ => ?_, hKQ _ ?_⟩
        · obtain ⟨q0, q1, q2, q3, q4, q5⟩ := HRD.out Z hZ; have qz := cell_lt q0; unfold Oper.quietAtIn; go_simp
        clear hKQ KQ
        simp only [Act.put, List.setIfInBounds_toArray, List.set_cons_zero, List.set_cons_succ]
        refine wpQuietIn_step (fun _ _ _ _ => trivial) (fun KQ hKQ => ?_)
        rw [if_pos (by rfl)]
        refine ⟨.bool true, fun Z hZ => ?_, hKQ _ ?_⟩
        · unfold Oper.quietAtIn; go_simp
        clear hKQ KQ
        simp only [Act.put, List.setIfInBounds_toArray, List.set_cons_zero, List.set_cons_succ]
        refine wpQuietIn_step (fun _ _ _ _ => trivial) (fun KQ hKQ => ?_)
        rw [if_pos (by rfl)]
        refine ⟨.slice r L.length cr, fun Z hZ => ?_, hKQ _ ?_⟩
        · unfold Oper.quietAtIn; go_simp
        clear hKQ KQ
        simp only [Act.put, List.setIfInBounds_toArray, List.set_cons_zero, List.set_cons_succ]
        refine wpQuietIn_step (fun _ _ _ _ => trivial) (fun KQ hKQ => ?_)
        rw [if_pos (by rfl)]
        refine ⟨.int .i64 kk, fun Z hZ => ?_, hKQ _ ?_⟩
        · unfold Oper.quietAtIn; go_simp
        clear hKQ KQ
        simp only [Act.put, List.setIfInBounds_toArray, List.set_cons_zero, List.set_cons_succ]
        refine wpQuietIn_step (fun _ _ _ _ => trivial) (fun KQ hKQ => ?_)
        rw [if_pos (by rfl)]
        refine ⟨.bool true, fun Z hZ => ?_, hKQ _ ?_⟩
        · unfold Oper.quietAtIn; go_simp; exact callsIn_wide.2 (HCN.out Z hZ)
        clear hKQ KQ
        simp only [Act.put, List.setIfInBounds_toArray, List.set_cons_zero, List.set_cons_succ]
        refine wpQuietIn_step (fun _ _ _ _ => trivial) (fun KQ hKQ => ?_)
        rw [if_pos (by rfl)]
        refine ⟨.bool true, fun Z hZ => ?_, hKQ _ ?_⟩
        · unfold Oper.quietAtIn; go_simp
        clear hKQ KQ
        simp only [Act.put, List.setIfInBounds_toArray, List.set_cons_zero, List.set_cons_succ]
        refine wpQuietIn_step (fun _ _ _ _ => trivial) (fun KQ hKQ => ?_)
        rw [if_pos (by rfl)]
        refine ⟨.bool true, fun Z hZ => ?_, hKQ _ ?_⟩
        · unfold Oper.quietAtIn; go_simp
        clear hKQ KQ
        simp only [Act.put, List.setIfInBounds_toArray, List.set_cons_zero, List.set_cons_succ]
        refine wpQuietIn_step (fun _ _ _ _ => trivial) (fun KQ hKQ => ?_)
        rw [if_pos (by rfl)]
        refine ⟨.bool true, fun Z hZ => ?_, hKQ _ ?_⟩
        · unfold Oper.quietAtIn; go_simp; exact callsIn_wide.2 (HAWK.out Z hZ)
        clear hKQ KQ
        simp only [Act.put, List.setIfInBounds_toArray, List.set_cons_zero, List.set_cons_succ]
        refine wpQuietIn_step (fun _ _ _ _ => trivial) (fun KQ hKQ => ?_)
        rw [if_pos (by rfl)]
        refine ⟨.bool true, fun Z hZ => ?_, hKQ _ ?_⟩
        · unfold Oper.quietAtIn; go_simp
        clear hKQ KQ
        simp only [Act.put, List.setIfInBounds_toArray, List.set_cons_zero, List.set_cons_succ]
        refine wpQuietIn_nil ?_
        intro Z hZ
        simp only [List.replicate_succ, List.replicate_zero, List.cons_append, List.nil_append]
        have HB := Lib.hid (bt HL10.out.bel hZ)
        clear hZ
        refine wpAnyIn_ready (rs := [10]) (by kernel_rfl) (by simp) (AllReadyIn.cons rfl (fun K' hKK => ?_) AllReadyIn.nil)
        go_simp
        refine hKK _ _ ?_
        clear hKK
        refine wpAnyIn_done (by kernel_rfl) ?_ _
        go_wp2_with fail
        go_ret
        exact ⟨rfl, HB.out⟩
      · have hne := fun h => hmk (HYE.out.1 h)
        have HCN := Lib.hid (show ∀ Z, Below V9.heap.size V9 Z → _ from fun Z hZ => Calls.bel hZ (contains_any (atL L) kk L.length cr r Z (by have := HLL.out; omega) (HF10.out.below hZ) false (by rw [has_at]; simp [hmk])))
        have HNE := Lib.hid hne
        clear HYE hmk hne
        have HRC := Lib.hid (show ∀ Z, Below V9.heap.size V9 Z → DBox Z a24 y9 m9 d9 h9 mi9 sc9 from fun Z hZ => HD24.out.below hZ)
        have HRD := Lib.hid (show ∀ Z, Below V9.heap.size V9 Z → DBox Z a16 Y ki E hh mi sca from fun Z hZ => HD10.out.below hZ)
        have HAWK := Lib.hid (show ∀ Z, Below V9.heap.size V9 Z → _ from fun Z hZ => Calls.bel hZ (awake_any Z (HL10.out.mon.below hZ)))
        refine (wpIn_wide (n := 9)).1 ?_
        refine wpIn_region_cls (fun Z => Below V9.heap.size V9 Z) 10 1 (Below.drew (Below.refl _ _)) (by kernel_rfl) (by kernel_rfl) (by kernel_rfl) (by kernel_rfl) (by kernel_rfl) rfl ?_
        simp only [List.take_succ_cons, List.take_zero]
        refine wpQuietIn_step (fun _ _ _ _ => trivial) (fun KQ hKQ => ?_)
        rw [if_pos (by rfl)]
        refine ⟨.agg #[.int .i64 y9, .int .i64 m9, .int .i64 d9, .int .i64 h9, .int .i64 mi9, .int .i64 sc9], fun Z hZ => ?_, hKQ _ ?_⟩
        · obtain ⟨q0, q1, q2, q3, q4, q5⟩ := HRC.out Z hZ; have qz := cell_lt q0; unfold Oper.quietAtIn; go_simp
        clear hKQ KQ
        simp only [Act.put, List.setIfInBounds_toArray, List.set_cons_zero, List.set_cons_succ]
        refine wpQuietIn_step (fun _ _ _ _ => trivial) (fun KQ hKQ => ?_)
        rw [if_pos (by rfl)]
        refine ⟨.agg #[.int .i64 Y, .int .i64 ki, .int .i64 E, .int .i64 hh, .int .i64 mi, .int .i64 sca], fun Z hZ => ?_, hKQ _ ?_⟩
        · obtain ⟨q0, q1, q2, q3, q4, q5⟩ := HRD.out Z hZ; have qz := cell_lt q0; unfold Oper.quietAtIn; go_simp
        clear hKQ KQ
        simp only [Act.put, List.setIfInBounds_toArray, List.set_cons_zero, List.set_cons_succ]
        refine wpQuietIn_step (fun _ _ _ _ => trivial) (fun KQ hKQ => ?_)
        rw [if_pos (by rfl)]
        refine ⟨.bool false, fun Z hZ => ?_, hKQ _ ?_⟩
        · unfold Oper.quietAtIn; go_simp; rw [ite_six HNE.out]; exact ⟨rfl, rfl⟩
        clear hKQ KQ
        simp only [Act.put, List.setIfInBounds_toArray, List.set_cons_zero, List.set_cons_succ]
        refine wpQuietIn_step (fun _ _ _ _ => trivial) (fun KQ hKQ => ?_)
        rw [if_pos (by rfl)]
        refine ⟨.slice r L.length cr, fun Z hZ => ?_, hKQ _ ?_⟩
        · unfold Oper.quietAtIn; go_simp
        clear hKQ KQ
        simp only [Act.put, List.setIfInBounds_toArray, List.set_cons_zero, List.set_cons_succ]
        refine wpQuietIn_step (fun _ _ _ _ => trivial) (fun KQ hKQ => ?_)
        rw [if_pos (by rfl)]
        refine ⟨.int .i64 kk, fun Z hZ => ?_, hKQ _ ?_⟩
        · unfold Oper.quietAtIn; go_simp
        clear hKQ KQ
        simp only [Act.put, List.setIfInBounds_toArray, List.set_cons_zero, List.set_cons_succ]
        refine wpQuietIn_step (fun _ _ _ _ => trivial) (fun KQ hKQ => ?_)
        rw [if_pos (by rfl)]
        refine ⟨.bool false, fun Z hZ => ?_, hKQ _ ?_⟩
        · unfold Oper.quietAtIn; go_simp; exact callsIn_wide.2 (HCN.out Z hZ)
        clear hKQ KQ
        simp only [Act.put, List.setIfInBounds_toArray, List.set_cons_zero, List.set_cons_succ]
        refine wpQuietIn_step (fun _ _ _ _ => trivial) (fun KQ hKQ => ?_)
        rw [if_pos (by rfl)]
        refine ⟨.bool true, fun Z hZ => ?_, hKQ _ ?_⟩
        · unfold Oper.quietAtIn; go_simp
        clear hKQ KQ
        simp only [Act.put, List.setIfInBounds_toArray, List.set_cons_zero, List.set_cons_succ]
        refine wpQuietIn_step (fun _ _ _ _ => trivial) (fun KQ hKQ => ?_)
        rw [if_pos (by rfl)]
        refine ⟨.bool true, fun Z hZ => ?_, hKQ _ ?_⟩
        · unfold Oper.quietAtIn; go_simp
        clear hKQ KQ
        simp only [Act.put, List.setIfInBounds_toArray, List.set_cons_zero, List.set_cons_succ]
        refine wpQuietIn_step (fun _ _ _ _ => trivial) (fun KQ hKQ => ?_)
        rw [if_pos (by rfl)]
        refine ⟨.bool true, fun Z hZ => ?_, hKQ _ ?_⟩
        · unfold Oper.quietAtIn; go_simp; exact callsIn_wide.2 (HAWK.out Z hZ)
        clear hKQ KQ
        simp only [Act.put, List.setIfInBounds_toArray, List.set_cons_zero, List.set_cons_succ]
        refine wpQuietIn_step (fun _ _ _ _ => trivial) (fun KQ hKQ => ?_)
        rw [if_pos (by rfl)]
        refine ⟨.bool true, fun Z hZ => ?_, hKQ _ ?_⟩
        · unfold Oper.quietAtIn; go_simp
        clear hKQ KQ
        simp only [Act.put, List.setIfInBounds_toArray, List.set_cons_zero, List.set_cons_succ]
        refine wpQuietIn_nil ?_
        intro Z hZ
        simp only [List.replicate_succ, List.replicate_zero, List.cons_append, List.nil_append]
        have HB := Lib.hid (bt HL10.out.bel hZ)
        clear hZ
        refine wpAnyIn_ready (rs := [10]) (by kernel_rfl) (by simp) (AllReadyIn.cons rfl (fun K' hKK => ?_) AllReadyIn.nil)
        go_simp
        refine hKK _ _ ?_
        clear hKK
        refine wpAnyIn_done (by kernel_rfl) ?_ _
        go_wp2_with fail
        go_ret
        exact ⟨rfl, HB.out⟩
    · have hnm := hno he
      have HCN := Lib.hid (fun X (h : FnIn X (atL L) L.length r) => contains_any (atL L) kk L.length cr r X (by have := HLL.out; omega) h false (by rw [has_at]; simp [hnm]))
      have he2 : (e9 == 0) = false := by simpa using he
      clear hno hyes hnm
      go_upto_region 20 with (go_at_call 11; refine (HCA2.out c p cz pz _ HL.out.mon HL.out.lp HZ.out.lz HC.out.1 HC.out.2).mono ?_; rintro e v9 ⟨rfl, hb⟩; have HL9 := Lib.hid (HL.out.below hb); have HD9 := Lib.hid (HD8.out.below hb); have HF9 := Lib.hid (HFN8.out.below hb); clear hb)
      clear x0 x1 x2 zx y0 y1 zy d0 d1 d2 d3 d4 d5 zd e0 e1 e2 e3 e4 e5 ze k1 k2 k3 k4 k5 k6 k7 k8 k9 k10
      have hbd := below_alloc (Below.refl v9.heap.size v9) (.cells #[.int .i64 y9, .int .i64 m9, .int .i64 d9, .int .i64 h9, .int .i64 mi9, .int .i64 sc9] 29)
      have HL10 := Lib.hid (HL9.out.below hbd)
      have HD10 := Lib.hid (HD9.out.below hbd)
      have HF10 := Lib.hid (HF9.out.below hbd)
      have HD24 := Lib.hid (DBox.new v9 y9 m9 d9 h9 mi9 sc9)
      clear hbd HL9 HD9 HF9 HL HZ HD8 HFN8
      generalize v9.alloc (.cells #[.int .i64 y9, .int .i64 m9, .int .i64 d9, .int .i64 h9, .int .i64 mi9, .int .i64 sc9] 29) = V9 at *
      obtain ⟨a24, ha24⟩ : ∃ a, v9.heap.size = a := ⟨_, rfl⟩
      rw [ha24] at HD24 ⊢
      clear ha24
      go_wp2_with (first | (go_at_call 14; refine (HCN.out _ HF10.out).mono ?_; rintro e v11 ⟨rfl, hb11⟩; have HL11 := Lib.hid (HL10.out.below hb11)) | (go_at_call 6; refine (awake_any _ HL11.out.mon).mono ?_; rintro e w' ⟨rfl, hb⟩; have HB := Lib.hid (bt HL11.out.bel hb)))
      go_ret
      exact ⟨rfl, HB.out⟩
  · have HLO := Lib.hid (fun X hX hL hZ => Local_date sa HE.out HZE.out HGT.out HDD.out (by rw [hmm, hof]; exact hcal) c p cz pz X hX hL hZ (by omega) (by omega) HC.out.1 HC.out.2)
    obtain ⟨x0, x1, x2⟩ := HL.out.t
    have zx := cell_lt x0
    obtain ⟨y0, y1⟩ := HZ.out.z
    have zy := cell_lt y0
    clear hcal hmm hms hof
    go_upto_region 9 with (go_at_call 11; refine (HLO.out _ HL.out.mon HL.out.lp HZ.out.lz).mono ?_; rintro e v4 ⟨rfl, hb⟩; have HL4 := Lib.hid (HL.out.below hb); clear hb)
    have hbd := below_alloc (Below.refl v4.heap.size v4) (.cells #[.int .i64 0, .int .i64 0, .int .i64 0, .int .i64 0, .int .i64 0, .int .i64 0] 29)
    have HL5 := Lib.hid (HL4.out.below hbd)
    clear hbd x0 x1 x2 zx y0 y1 zy
    generalize v4.alloc (.cells #[.int .i64 0, .int .i64 0, .int .i64 0, .int .i64 0, .int .i64 0, .int .i64 0] 29) = V4 at *
    go_wp2_with (go_at_call 6; refine (awake_any _ HL5.out.mon).mono ?_; rintro e w' ⟨rfl, hb⟩; have HB := Lib.hid (bt HL5.out.bel hb); clear hb)
    go_ret
    exact ⟨rfl, HB.out⟩
end Go.Proofs.YtklhepgpepfgjaaDoor.Cal
