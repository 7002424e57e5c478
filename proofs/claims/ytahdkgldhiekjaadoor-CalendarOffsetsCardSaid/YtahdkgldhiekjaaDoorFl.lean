/- Layer 9 (calendar): the law CalendarOffsets. (by gen_fl.py) -/
import Derived.Test.YtahdkgldhiekjaaDoorFk
import Derived.Test.YtahdkgldhiekjaaDoorFj
import Derived.Test.YtahdkgldhiekjaaDoorFe
import Derived.Test.YtahdkgldhiekjaaDoorFc
import Derived.Test.YtahdkgldhiekjaaDoorDo
namespace Go.Proofs.YtahdkgldhiekjaaDoor.Cal
open Go Go.RowKit
attribute [local go_sem] Oper.semAt_some
structure LawO (w X : World) (a9 : Nat) (b u : Int) (n c : Nat) (p : Option Addr) (f : Nat → Int × Int) : Prop where
  t : TBox X a9 b u n c p
  lp : LpIn X f n p
  mon : Mon X
  bel : Below w.heap.size w X
theorem LawO.below {w X Y : World} {a9 : Nat} {b u : Int} {n c : Nat} {p : Option Addr} {f : Nat → Int × Int} (k : LawO w X a9 b u n c p f) (hb : Below X.heap.size X Y) : LawO w Y a9 b u n c p f :=
  ⟨k.t.below hb, k.lp.below hb, k.mon.below hb, bt k.bel hb⟩
theorem LawO.new {w w2 : World} {b u : Int} {n c : Nat} {p : Option Addr} {f : Nat → Int × Int} (lp : LpIn w2 f n p) (mon : Mon w2) (bel : Below w.heap.size w w2) : LawO w (w2.alloc (.cells #[.int .i64 b, .slice p n c, .int .i64 u] 25)) w2.heap.size b u n c p f := by
  have b1 := below_alloc (Below.refl w2.heap.size w2) (.cells #[.int .i64 b, .slice p n c, .int .i64 u] 25)
  exact ⟨TBox.new w2 b u n c p 25, lp.below b1, mon.below b1, bt bel b1⟩
set_option maxRecDepth 100000 in
set_option maxHeartbeats 8000000 in
theorem calendarOffsets_any (g : Nat → Int) (nl cl : Nat) (pl : Option Addr) (x z1 : Int) (hx : 0 ≤ x ∧ x ≤ 255) (w : World) (hw : Mon w) (hl : ByIn w g nl pl) (hm : nl ≤ maxLen) :
    Calls Tryd.prog 3 #[.slice pl nl cl, .int .u8 x, .int .i64 z1] w fun e w' => e = .returned (.bool true) ∧ Below w.heap.size w w' := by
  have HMD := Lib.hid (Made_any g nl cl pl w hw hl hm)
  have HW := Lib.hid hw
  have HX := Lib.hid hx
  clear hw hl hm hx
  go_enter Tryd.func3, Tryd.ntmps3
  go_upto_region 2 with (go_at_call 6; refine HMD.out.mono ?_; rintro e w2 ⟨b, u, n, c, p, f, rfl, ht, hn, hc, hcm, hlp, hb⟩; have HLW := Lib.hid (LawO.new (b := b) (u := u) (c := c) hlp (HW.out.below hb) hb); have HT := Lib.hid ht; have HC := Lib.hid (And.intro hc hcm); have HN12 := Lib.hid hn; clear ht hn hc hcm hlp hb)
  generalize w2.alloc (.cells #[.int .i64 b, .slice p n c, .int .i64 u] 25) = X0 at *
  generalize w2.heap.size = a9 at *
  have HE := Lib.hid HT.out.tabE
  have hn0 : n ≤ 100 := HT.out.n1
  obtain ⟨sa, hsa, hna⟩ := near_ex HE.out x z1 HX.out
  have KA := Lib.hid (known_in HE.out hsa)
  have htp := HT.out.total_pos
  have htb := HT.out.total_bd
  obtain ⟨da, hda⟩ := known_day KA.out
  have hd1 := hda.d1; have hd2 := hda.d2; have hu2 := HT.out.u2
  obtain ⟨ya, ka, ea, hca⟩ := civ_exists da (by omega)
  have HCA := Lib.hid hca
  have hrb := hda.rest_bd HT.out
  have HDK : Hid (dayK u da = true) := Lib.hid (by unfold dayK; simp only [Bool.and_eq_true, decide_eq_true_eq]; omega)
  have HDA := Lib.hid (fun X (hX : Mon X) (hL : LpIn X f n p) => Dates_ok KA.out hda hca c p X hX hL HC.out.1 HC.out.2)
  have HDY := Lib.hid (fun X (hX : Mon X) => Day_ok X hX hca.toIsDate)
  rw [← hca.n_] at HDY
  have HOF := Lib.hid (fun X (hX : Mon X) (hL : LpIn X f n p) => Offset_any b u da n c p f X hX hL (by omega) HC.out.1 HC.out.2)
  rw [HE.out, HDK.out, if_pos rfl, if_pos rfl] at HOF
  have HAT := Lib.hid (fun X (hX : Mon X) (hL : LpIn X f n p) => Atomic_ok KA.out c p X hX hL HC.out.1 HC.out.2)
  have HUN := Lib.hid (fun X (hX : Mon X) (hL : LpIn X f n p) => Unix_ok KA.out hda c p X hX hL HC.out.1 HC.out.2)
  have HAN := Lib.hid (fun X (hX : Mon X) (hL : LpIn X f n p) => Announced_ok KA.out hda c p X hX hL HC.out.1 HC.out.2)
  have HLE := Lib.hid (fun X (hX : Mon X) (hL : LpIn X f n p) => Length_any b u da n c p f X hX hL (by omega))
  rw [HE.out, HDK.out, if_pos rfl, if_pos rfl] at HLE
  have HTOT := Lib.hid (fun X (hX : Mon X) (hL : LpIn X f n p) => Total_any b u n c p f X hX hL (by omega) HC.out.1 HC.out.2)
  rw [HE.out, if_pos rfl] at HTOT
  have HNX := Lib.hid (fun X (hX : Mon X) (hL : LpIn X f n p) => Offset_any b u (da + 1) n c p f X hX hL (by omega) HC.out.1 HC.out.2)
  have HNK : Hid (dayK u (da + 1) = true ∧ da + 1 ≠ u ∨ dayK u (da + 1) = false ∧ da + 1 = u) := Lib.hid (by
    by_cases h : da + 1 = u
    · right; refine ⟨?_, h⟩; unfold dayK; rw [Bool.eq_false_iff]; intro hc; simp only [Bool.and_eq_true, decide_eq_true_eq] at hc; omega
    · left; refine ⟨?_, h⟩; unfold dayK; simp only [Bool.and_eq_true, decide_eq_true_eq]; omega)
  have HGS := Lib.hid (grow_succ HT.out.o da n (Nat.le_refl _))
  have hgb := HT.out.grow_bd da
  have hgb2 := HT.out.grow_bd (da + 1)
  have hb1 := HT.out.b1
  have hb2 := HT.out.b2
  have hst := stepAt_bd (f := f) da n HT.out.s
  have HAH := Lib.hid (ahead sa b da n f)
  have HMO := Lib.hid (fun i (hi : i < n) => same_month (L := (f i).1) (by have := HT.out.d1 i hi; omega) (HT.out.e i hi) hca)
  have HCV := Lib.hid (fun i (hi : i < n) => civ_is (f i).1 (by have := HT.out.d1 i hi; omega))
  have HLD := Lib.hid (fun i (hi : i < n) => HT.out.d1 i hi)
  clear KA hca
  generalize (ka : Int) = kai at *
  generalize scS (sa - beginS f n da) = sca at *
  generalize mnS (sa - beginS f n da) = mna at *
  generalize hrS (sa - beginS f n da) = hra at *
  have hub : -10000000000 ≤ 86400 * (da - 40587) + (sa - beginS f n da) ∧ 86400 * (da - 40587) + (sa - beginS f n da) ≤ 10000000000 := by omega
  obtain ⟨un, hun⟩ : ∃ un, 86400 * (da - 40587) + (sa - beginS f n da) = un := ⟨_, rfl⟩
  rw [hun] at HUN HAH hub
  clear hun
  obtain ⟨T, hT⟩ : ∃ T, beginS f n u = T := ⟨_, rfl⟩
  rw [hT] at hna HTOT htb htp hsa
  clear hT
  obtain ⟨og, hog⟩ : ∃ og, b + growS f n da = og := ⟨_, rfl⟩
  have HN2 := Lib.hid (show b + growS f n (da + 1) = og + stepAt f n da by rw [HGS.out, ← hog]; omega)
  have hogb : -1000 ≤ og ∧ og ≤ 1000 := by omega
  rw [hog] at HOF HAH
  clear hog HGS hgb hgb2
  have HNA := Lib.hid hna
  clear hna
  have ht1 : ¬ T < 1 := by omega
  have k1 : IntKind.i64.wrap (un - 63072000) = un - 63072000 := IntWalk.i64_in _ (by omega)
  have k2 : IntKind.i64.wrap (sa + b - (un - 63072000)) = og := by rw [HAH.out]; exact IntWalk.i64_in _ (by omega)
  have k3 : IntKind.i64.wrap (da + 1) = da + 1 := IntWalk.i64_in _ (by omega)
  obtain ⟨at1, hat1⟩ : ∃ at1, sa + b = at1 := ⟨_, rfl⟩
  rw [hat1] at k2 HAT
  clear hat1 HAH hrb
  have HL := HLW
  clear HLW
  obtain ⟨an, han⟩ : ∃ an, stepAt f n (eom da) = an := ⟨_, rfl⟩
  rw [han] at HAN
  have HANV := Lib.hid han
  clear han
  obtain ⟨st, hstv⟩ : ∃ st, stepAt f n da = st := ⟨_, rfl⟩
  rw [hstv] at HLE hst HN2
  have HSTV := Lib.hid hstv
  clear hstv
  have k4 : IntKind.i64.wrap (86400 + st) = 86400 + st := IntWalk.i64_in _ (by omega)
  have k5 : IntKind.i64.wrap (og + st) = og + st := IntWalk.i64_in _ (by omega)
  obtain ⟨x0, x1, x2⟩ := HL.out.t
  have zx := cell_lt x0
  go_upto_region 5 with (go_at_call 7; refine (HTOT.out _ HL.out.mon HL.out.lp).mono ?_; rintro e v1 ⟨rfl, hb⟩; have HL9 := Lib.hid (HL.out.below hb); clear hb HL)
  have HL := HL9
  clear x0 x1 x2 zx HL9
  obtain ⟨x0, x1, x2⟩ := HL.out.t
  have zx := cell_lt x0
  go_upto_region 6 with (go_at_call 8; refine (HNA.out _ _ _ HL.out.mon HL.out.lp HC.out.1 HC.out.2).mono ?_; rintro e v2 ⟨rfl, hb⟩; have HL9 := Lib.hid (HL.out.below hb); clear hb HL)
  have HL := HL9
  clear x0 x1 x2 zx HL9
  obtain ⟨x0, x1, x2⟩ := HL.out.t
  have zx := cell_lt x0
  go_upto_region 7 with (go_at_call 9; refine (HDA.out _ HL.out.mon HL.out.lp).mono ?_; rintro e v3 ⟨rfl, hb⟩; have HL9 := Lib.hid (HL.out.below hb); clear hb HL)
  have HL := HL9
  clear x0 x1 x2 zx HL9
  have hbx := below_alloc (Below.refl v3.heap.size v3) (.cells #[.int .i64 ya, .int .i64 kai, .int .i64 ea, .int .i64 hra, .int .i64 mna, .int .i64 sca] 32)
  have BD := Lib.hid (DBox.new v3 ya kai ea hra mna sca)
  have HL9 := Lib.hid (HL.out.below hbx)
  clear hbx HL
  have HL := HL9
  clear HL9
  generalize v3.alloc (.cells #[.int .i64 ya, .int .i64 kai, .int .i64 ea, .int .i64 hra, .int .i64 mna, .int .i64 sca] 32) = v3a at *
  obtain ⟨aD, haD⟩ : ∃ q, v3.heap.size = q := ⟨_, rfl⟩
  rw [haD] at BD ⊢
  clear haD
  obtain ⟨d0, d1, d2, d3, d4, d5⟩ := BD.out
  have zd := cell_lt d0
  go_upto_region 8 with (go_at_call 10; refine (HDY.out _ HL.out.mon).mono ?_; rintro e w' ⟨rfl, rfl⟩)
  clear d0 d1 d2 d3 d4 d5 zd
  obtain ⟨x0, x1, x2⟩ := HL.out.t
  have zx := cell_lt x0
  go_upto_region 9 with (go_at_call 11; refine (HOF.out _ HL.out.mon HL.out.lp).mono ?_; rintro e v4 ⟨rfl, hb⟩; have HL9 := Lib.hid (HL.out.below hb); have BD9 := Lib.hid (BD.out.below hb); clear hb HL)
  have HL := HL9
  clear x0 x1 x2 zx HL9
  clear BD
  have BD := BD9
  clear BD9
  obtain ⟨x0, x1, x2⟩ := HL.out.t
  have zx := cell_lt x0
  go_upto_region 10 with (go_at_call 12; refine (HAT.out _ HL.out.mon HL.out.lp).mono ?_; rintro e v5 ⟨rfl, hb⟩; have HL9 := Lib.hid (HL.out.below hb); have BD9 := Lib.hid (BD.out.below hb); clear hb HL)
  have HL := HL9
  clear x0 x1 x2 zx HL9
  clear BD
  have BD := BD9
  clear BD9
  obtain ⟨x0, x1, x2⟩ := HL.out.t
  have zx := cell_lt x0
  go_upto_region 11 with (go_at_call 13; refine (HUN.out _ HL.out.mon HL.out.lp).mono ?_; rintro e v6 ⟨rfl, hb⟩; have HL9 := Lib.hid (HL.out.below hb); have BD9 := Lib.hid (BD.out.below hb); clear hb HL)
  have HL := HL9
  clear x0 x1 x2 zx HL9
  clear BD
  have BD := BD9
  clear BD9
  obtain ⟨x0, x1, x2⟩ := HL.out.t
  have zx := cell_lt x0
  go_upto_region 12 with (go_at_call 14; refine (HAN.out _ HL.out.mon HL.out.lp).mono ?_; rintro e v7 ⟨rfl, hb⟩; have HL9 := Lib.hid (HL.out.below hb); have BD9 := Lib.hid (BD.out.below hb); clear hb HL)
  have HL := HL9
  clear x0 x1 x2 zx HL9
  clear BD
  have BD := BD9
  clear BD9
  obtain ⟨x0, x1, x2⟩ := HL.out.t
  have zx := cell_lt x0
  go_wp2_with fail
  clear x0 x1 x2 zx
  go_loopw [22, 24, 25, 26, 27, 28, 125] (fun s22 s24 s25 s26 s27 s28 s125 wr => ∃ (k : Nat) (a24 a25 a26 a27 a28 : Value), k ≤ n ∧ s22 = .int .i64 (stepAt f k (eom da)) ∧ s24 = a24 ∧ s25 = a25 ∧ s26 = a26 ∧ s27 = a27 ∧ s28 = a28 ∧ s125 = .int .i64 (k : Int) ∧ Hid (LawO w wr a9 b u n c p f) ∧ Hid (DBox wr aD ya kai ea hra mna sca)) (fun _ _ _ _ _ _ s _ => n - (intOf s).toNat)
  case atStart => exact ⟨0, _, _, _, _, _, Nat.zero_le _, rfl, rfl, rfl, rfl, rfl, rfl, rfl, HL, BD⟩
  case round =>
    clear HL BD
    obtain ⟨k, a24, a25, a26, a27, a28, hk, rfl, rfl, rfl, rfl, rfl, rfl, rfl, HL, BD⟩ := hrel
    by_cases hlt : k < n
    · have hki : (k : Int) < n := by omega
      have vk : IntKind.i64.wrap ((k : Int) + 1) = (k : Int) + 1 := IntWalk.i64_in _ (by omega)
      obtain ⟨bb, oo, rfl, hsi⟩ := HL.out.lp.resolve_left (by omega)
      obtain ⟨y0, y1⟩ := hsi k hlt
      have zy := cell_lt y0
      have hsm := HMO.out k hlt
      have hcv := HCV.out k hlt
      have HSU := Lib.hid (show stepAt f (k + 1) (eom da) = if (f k).1 = eom da then (f k).2 else stepAt f k (eom da) from rfl)
      have hb1 := below_alloc (Below.refl wr.heap.size wr) (.cells #[.int .i64 (f k).1, .int .i64 (f k).2] 38)
      have q0 : (wr.alloc (.cells #[.int .i64 (f k).1, .int .i64 (f k).2] 38)).cell? ⟨wr.heap.size, 0, none⟩ = some (.int .i64 (f k).1) := by simp
      have q1 : (wr.alloc (.cells #[.int .i64 (f k).1, .int .i64 (f k).2] 38)).cell? ⟨wr.heap.size, 1, none⟩ = some (.int .i64 (f k).2) := by simp
      have HL1 := Lib.hid (HL.out.below hb1)
      have BD1 := Lib.hid (BD.out.below hb1)
      have HCI := Lib.hid (Civil_ok _ HL1.out.mon hcv)
      have HK := Lib.hid hlt
      clear hlt hsi hb1 hcv
      generalize Cal.da (f k).1 = dL at *
      generalize (mo (f k).1 : Int) = mL at *
      generalize yr (f k).1 = yL at *
      generalize (f k).1 = dk at *
      generalize (f k).2 = sk at *
      go_upto_region 18 with fail
      generalize wr.alloc (.cells #[.int .i64 dk, .int .i64 sk] 38) = W1 at *
      clear y0 y1 zy
      have zq := cell_lt q0
      obtain ⟨d0, d1, d2, d3, d4, d5⟩ := BD1.out
      have zd := cell_lt d0
      by_cases hm : dk = eom da
      · obtain ⟨rfl, rfl⟩ := hsm.2 hm
        rw [if_pos hm] at HSU
        clear hsm hm
        generalize stepAt f k (eom da) = ss at *
        go_wp2_with (go_at_call 15; refine HCI.out.mono ?_; rintro e w' ⟨rfl, rfl⟩)
        go_roundw
        case rel => exact ⟨k + 1, _, _, _, _, _, HK.out, by rw [HSU.out], rfl, rfl, rfl, rfl, rfl, by simp, HL1, BD1⟩
        case measure => have := HK.out; simp [intOf]; omega
      · rw [if_neg hm] at HSU
        by_cases hy : yL = ya
        · have hmm : ¬ mL = kai := fun h => hm (hsm.1 ⟨hy, h⟩)
          subst hy
          clear hsm hm
          generalize stepAt f k (eom da) = ss at *
          go_wp2_with (go_at_call 15; refine HCI.out.mono ?_; rintro e w' ⟨rfl, rfl⟩)
          go_roundw
          case rel => exact ⟨k + 1, _, _, _, _, _, HK.out, by rw [HSU.out], rfl, rfl, rfl, rfl, rfl, by simp, HL1, BD1⟩
          case measure => have := HK.out; simp [intOf]; omega
        · clear hsm hm
          generalize stepAt f k (eom da) = ss at *
          go_wp2_with (go_at_call 15; refine HCI.out.mono ?_; rintro e w' ⟨rfl, rfl⟩)
          go_roundw
          case rel => exact ⟨k + 1, _, _, _, _, _, HK.out, by rw [HSU.out], rfl, rfl, rfl, rfl, rfl, by simp, HL1, BD1⟩
          case measure => have := HK.out; simp [intOf]; omega
    · obtain rfl : k = n := by omega
      have hki : ¬ ((k : Int) < k) := by omega
      clear hlt
      rw [HANV.out]
      obtain ⟨x0, x1, x2⟩ := HL.out.t
      have zx := cell_lt x0
      go_upto_region 25 with (go_at_call 16; refine (HLE.out _ HL.out.mon HL.out.lp).mono ?_; rintro e v8 ⟨rfl, hb⟩; have HL9 := Lib.hid (HL.out.below hb); clear hb HL)
      have HL := HL9
      clear x0 x1 x2 zx HL9
      obtain ⟨x0, x1, x2⟩ := HL.out.t
      have zx := cell_lt x0
      go_wp2_with fail
      clear x0 x1 x2 zx
      go_loopw [30, 32, 168] (fun s30 s32 s168 wr => ∃ (j : Nat) (a32 : Value), j ≤ k ∧ s30 = .int .i64 (stepAt f j da) ∧ s32 = a32 ∧ s168 = .int .i64 (j : Int) ∧ Hid (LawO w wr a9 b u k c p f)) (fun _ _ s _ => k - (intOf s).toNat)
      case atStart => exact ⟨0, _, Nat.zero_le _, rfl, rfl, rfl, HL⟩
      case round =>
        clear HL
        obtain ⟨j, a32, hj, rfl, rfl, rfl, HL⟩ := hrel
        by_cases hlt : j < k
        · have hki : (j : Int) < k := by omega
          have vk : IntKind.i64.wrap ((j : Int) + 1) = (j : Int) + 1 := IntWalk.i64_in _ (by omega)
          obtain ⟨bb, oo, rfl, hsi⟩ := HL.out.lp.resolve_left (by omega)
          obtain ⟨y0, y1⟩ := hsi j hlt
          have zy := cell_lt y0
          have HSU := Lib.hid (show stepAt f (j + 1) da = if (f j).1 = da then (f j).2 else stepAt f j da from rfl)
          have hb1 := below_alloc (Below.refl wr.heap.size wr) (.cells #[.int .i64 (f j).1, .int .i64 (f j).2] 38)
          have q0 : (wr.alloc (.cells #[.int .i64 (f j).1, .int .i64 (f j).2] 38)).cell? ⟨wr.heap.size, 0, none⟩ = some (.int .i64 (f j).1) := by simp
          have q1 : (wr.alloc (.cells #[.int .i64 (f j).1, .int .i64 (f j).2] 38)).cell? ⟨wr.heap.size, 1, none⟩ = some (.int .i64 (f j).2) := by simp
          have HL1 := Lib.hid (HL.out.below hb1)
          have HK := Lib.hid hlt
          clear hlt hsi hb1
          generalize (f j).1 = dk at *
          generalize (f j).2 = sk at *
          go_upto_region 31 with fail
          generalize wr.alloc (.cells #[.int .i64 dk, .int .i64 sk] 38) = W1 at *
          clear y0 y1 zy
          have zq := cell_lt q0
          by_cases hm : dk = da
          · rw [if_pos hm] at HSU
            generalize stepAt f j da = ss at *
            go_wp2_with fail
            go_roundw
            case rel => exact ⟨j + 1, _, HK.out, by rw [HSU.out], rfl, by simp, HL1⟩
            case measure => have := HK.out; simp [intOf]; omega
          · rw [if_neg hm] at HSU
            generalize stepAt f j da = ss at *
            go_wp2_with fail
            go_roundw
            case rel => exact ⟨j + 1, _, HK.out, by rw [HSU.out], rfl, by simp, HL1⟩
            case measure => have := HK.out; simp [intOf]; omega
        · obtain rfl : j = k := by omega
          have hki2 : ¬ ((j : Int) < j) := by omega
          clear hlt
          rw [HSTV.out]
          obtain ⟨x0, x1, x2⟩ := HL.out.t
          have zx := cell_lt x0
          rcases HNK.out with ⟨hdk, hne⟩ | ⟨hdk, heq⟩
          · rw [HE.out, hdk, if_pos rfl, if_pos rfl, if_pos rfl, if_pos rfl, HN2.out] at HNX
            go_upto_region 34 with fail
            go_upto_region 35 with (go_at_call 11; refine (HNX.out _ HL.out.mon HL.out.lp).mono ?_; rintro e v9 ⟨rfl, hb⟩; have HL9 := Lib.hid (HL.out.below hb); clear hb HL)
            clear x0 x1 x2 zx
            obtain ⟨x0, x1, x2⟩ := HL9.out.t
            have zx := cell_lt x0
            have hq : (da + 1 == u) = false := by simpa using hne
            have hq2 : decide (da + 1 = u) = false := by simpa using hne
            clear hsa htb htp hda hd1 hd2 hu2 hub hst hb1 hb2 ht1 hn0 k1 k2 hj hk hki
            go_upto_region 37 with fail
            clear hq hq2 hne
            go_wp2_with fail
            refine (awake_any _ HL9.out.mon).mono ?_
            rintro e va ⟨rfl, hb⟩
            have HBA := Lib.hid hb
            clear hb
            go_wp2
            go_ret
            exact ⟨rfl, bt HL9.out.bel HBA.out⟩
          · simp only [HE.out, hdk, Bool.false_eq_true, ↓reduceIte] at HNX
            subst heq
            go_upto_region 34 with fail
            go_upto_region 35 with (go_at_call 11; refine (HNX.out _ HL.out.mon HL.out.lp).mono ?_; rintro e v9 ⟨rfl, hb⟩; have HL9 := Lib.hid (HL.out.below hb); clear hb HL)
            clear x0 x1 x2 zx
            obtain ⟨x0, x1, x2⟩ := HL9.out.t
            have zx := cell_lt x0
            clear hsa htb htp hda hd1 hd2 hu2 hub hst hb1 hb2 ht1 hn0 k1 k2 hj hk hki
            go_upto_region 36 with fail
            go_wp2_with fail
            refine (awake_any _ HL9.out.mon).mono ?_
            rintro e va ⟨rfl, hb⟩
            have HBA := Lib.hid hb
            clear hb
            go_wp2
            go_ret
            exact ⟨rfl, bt HL9.out.bel HBA.out⟩
end Go.Proofs.YtahdkgldhiekjaaDoor.Cal
