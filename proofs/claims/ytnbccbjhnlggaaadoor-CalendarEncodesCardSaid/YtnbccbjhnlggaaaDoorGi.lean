/- Layer 9 (calendar): the law CalendarEncodes. (by gen_gi.py) -/
import Derived.Test.YtnbccbjhnlggaaaDoorGh
import Derived.Test.YtnbccbjhnlggaaaDoorFe
import Derived.Test.YtnbccbjhnlggaaaDoorFc
import Derived.Test.YtnbccbjhnlggaaaDoorDo
namespace Go.Proofs.YtnbccbjhnlggaaaDoor.Cal
open Go Go.RowKit
attribute [local go_sem] Oper.semAt_some
theorem wf_u32 {n : Int} (h : (Lit.int .u32 n).wf = true) : 0 ≤ n ∧ n ≤ 4294967295 := by
  simp only [Lit.wf, Bool.and_eq_true, decide_eq_true_eq] at h
  have h1 : IntKind.u32.min = 0 := by decide
  have h2 : IntKind.u32.max = 4294967295 := by decide
  omega
structure LawN (w X : World) (a9 : Nat) (b u : Int) (n c : Nat) (p : Option Addr) (f : Nat → Int × Int) : Prop where
  t : TBox X a9 b u n c p
  lp : LpIn X f n p
  mon : Mon X
  bel : Below w.heap.size w X
theorem LawN.below {w X Y : World} {a9 : Nat} {b u : Int} {n c : Nat} {p : Option Addr} {f : Nat → Int × Int} (k : LawN w X a9 b u n c p f) (hb : Below X.heap.size X Y) : LawN w Y a9 b u n c p f :=
  ⟨k.t.below hb, k.lp.below hb, k.mon.below hb, bt k.bel hb⟩
theorem LawN.new {w w2 : World} {b u : Int} {n c : Nat} {p : Option Addr} {f : Nat → Int × Int} (lp : LpIn w2 f n p) (mon : Mon w2) (bel : Below w.heap.size w w2) : LawN w (w2.alloc (.cells #[.int .i64 b, .slice p n c, .int .i64 u] 43)) w2.heap.size b u n c p f := by
  have b1 := below_alloc (Below.refl w2.heap.size w2) (.cells #[.int .i64 b, .slice p n c, .int .i64 u] 43)
  exact ⟨TBox.new w2 b u n c p 43, lp.below b1, mon.below b1, bt bel b1⟩
set_option maxRecDepth 100000 in
set_option maxHeartbeats 8000000 in
theorem calendarEncodes_any (g : Nat → Int) (nl cl : Nat) (pl : Option Addr) (x z aw : Int) (hx : 0 ≤ x ∧ x ≤ 255) (haw : 0 ≤ aw ∧ aw ≤ 4294967295) (w : World) (hw : Mon w) (hl : ByIn w g nl pl) (hm : nl ≤ maxLen) :
    Calls Tryd.prog 5 #[.slice pl nl cl, .int .u8 x, .int .i64 z, .int .u32 aw] w fun e w' => e = .returned (.bool true) ∧ Below w.heap.size w w' := by
  have HMD := Lib.hid (Made_any g nl cl pl w hw hl hm)
  have HW := Lib.hid hw
  have HX := Lib.hid hx
  have HAW := Lib.hid haw
  clear hw hl hm hx haw
  go_enter Tryd.func5, Tryd.ntmps5
  go_upto_region 2 with (go_at_call 15; refine HMD.out.mono ?_; rintro e w2 ⟨b, u, n, c, p, f, rfl, ht, hn, hc, hcm, hlp, hb⟩; have HLW := Lib.hid (LawN.new (b := b) (u := u) (c := c) hlp (HW.out.below hb) hb); have HT := Lib.hid ht; have HC := Lib.hid (And.intro hc hcm); have HN12 := Lib.hid hn; clear ht hn hc hcm hlp hb)
  generalize w2.alloc (.cells #[.int .i64 b, .slice p n c, .int .i64 u] 43) = X0 at *
  generalize w2.heap.size = a9 at *
  have HE := Lib.hid HT.out.tabE
  have hn0 : n ≤ 100 := HT.out.n1
  obtain ⟨sa, hsa, hna⟩ := near_ex HE.out x z HX.out
  have KA := Lib.hid (known_in HE.out hsa)
  have htp := HT.out.total_pos
  have htb := HT.out.total_bd
  obtain ⟨da, hda⟩ := known_day KA.out
  have hub := HT.out.unix_bd hda
  have HSF : Hid (hasF (atL (foundL u f n (58445280 + unixS f n da sa / 60) (unixS f n da sa % 60) 2)) (foundL u f n (58445280 + unixS f n da sa / 60) (unixS f n da sa % 60) 2).length sa) := Lib.hid ((found_iff HT.out _ sa).2 ⟨da, hda, rfl⟩)
  have HUN := Lib.hid (show ∀ X, Mon X → LpIn X f n p → Calls Tryd.prog 22 #[.agg #[.int .i64 b, .slice p n c, .int .i64 u], .int .i64 sa] X (fun e w' => e = .returned (.tuple #[.int .i64 (unixS f n da sa), .int .i64 0]) ∧ Below X.heap.size X w') from fun X (hX : Mon X) (hL : LpIn X f n p) => Unix_ok KA.out hda c p X hX hL HC.out.1 HC.out.2)
  have HTN := Lib.hid (fun X (hX : Mon X) (hL : LpIn X f n p) => ToNtp_ok KA.out hda c p X hX hL HC.out.1 HC.out.2)
  have HUX := Lib.hid (fun k => unix_ex HT.out (unixS f n da sa) k)
  have hfl := foundL_len u f n (58445280 + unixS f n da sa / 60) (unixS f n da sa % 60) 2
  have hf1 : 1 ≤ (foundL u f n (58445280 + unixS f n da sa / 60) (unixS f n da sa % 60) 2).length := by
    obtain ⟨i, hi, _⟩ := HSF.out
    omega
  have HFU := Lib.hid (fun X (hX : Mon X) (hL : LpIn X f n p) => FromUnix_ok HE.out (unixS f n da sa) (by omega) c p X hX hL HC.out.1 HC.out.2 hf1)
  have HFN := Lib.hid (fun X (hX : Mon X) (hL : LpIn X f n p) => FromNtp_ok HE.out ((unixS f n da sa + 2208988800) / 4294967296) ((unixS f n da sa + 2208988800) % 4294967296) (unixS f n da sa) (by omega) (by omega) (by omega) c p X hX hL HC.out.1 HC.out.2 hf1)
  have HTOT := Lib.hid (fun X (hX : Mon X) (hL : LpIn X f n p) => Total_any b u n c p f X hX hL (by omega) HC.out.1 HC.out.2)
  rw [HE.out, if_pos rfl] at HTOT
  have hgb := HT.out.grow_bd 44244
  have hgv : beginS f n 44244 ≤ 252892900 ∧ 0 ≤ beginS f n 44244 := by unfold beginS; omega
  have HGO := Lib.hid (fun (h : sa - beginS f n 44244 < 0) X (hX : Mon X) (hL : LpIn X f n p) => ToGps_old KA.out h c p X hX hL HC.out.1 HC.out.2)
  have HGY := Lib.hid (fun (h : 0 ≤ sa - beginS f n 44244) X (hX : Mon X) (hL : LpIn X f n p) => ToGps_ok KA.out h c p X hX hL HC.out.1 HC.out.2)
  have HFG := Lib.hid (fun (h : 0 ≤ sa - beginS f n 44244) near (h1 : -1000000000000 ≤ near ∧ near ≤ 1000000000000) (h2 : -300000000 ≤ near - sa ∧ near - sa ≤ 300000000) X (hX : Mon X) (hL : LpIn X f n p) => FromGps_ok HE.out ((sa - beginS f n 44244) / 604800 % 1024) ((sa - beginS f n 44244) % 604800) near sa ((sa - beginS f n 44244) / 604800 / 1024).toNat (by omega) (by omega) h1 (by omega) (by omega) h2 c p X hX hL HC.out.1 HC.out.2)
  clear KA hda
  generalize beginS f n 44244 = BG at *
  generalize unixS f n da sa = U at *
  generalize foundL u f n (58445280 + U / 60) (U % 60) 2 = FL at *
  obtain ⟨NE, hNE⟩ : ∃ q, (U + 2208988800) / 4294967296 = q := ⟨_, rfl⟩
  obtain ⟨NS, hNS⟩ : ∃ q, (U + 2208988800) % 4294967296 = q := ⟨_, rfl⟩
  rw [hNE, hNS] at HTN HFN
  have hNb : 0 ≤ NE ∧ NE ≤ 3 := by omega
  have hSb : 0 ≤ NS ∧ NS ≤ 4294967295 := by omega
  have HEU := Lib.hid (show NE * 4294967296 + NS - 2208988800 = U by omega)
  obtain ⟨N, hN⟩ : ∃ N, FL.length = N := ⟨_, rfl⟩
  rw [hN] at HSF HUX hfl hf1 HFU HFN
  have HEQ := Lib.hid (fun X c1 c2 p1 p2 (h1 : FnIn X (atL FL) N p1) (h2 : FnIn X (atL FL) N p2) => equal_yes (atL FL) N c1 c2 p1 p2 X (by omega) h1 h2)
  have HCO := Lib.hid (fun X c1 p1 k B (h1 : FnIn X (atL FL) N p1) (hB : B = true ↔ hasF (atL FL) N k) => contains_any (atL FL) k N c1 p1 X (by omega) h1 B hB)
  generalize atL FL = ff at *
  clear hNE hNS hN
  obtain ⟨T, hT⟩ : ∃ T, beginS f n u = T := ⟨_, rfl⟩
  rw [hT] at hna HTOT htb htp hsa
  clear hT
  have HNA := Lib.hid hna
  clear hna
  have ht1 : ¬ T < 1 := by omega
  have HL := HLW
  clear HLW hgb
  obtain ⟨x0, x1, x2⟩ := HL.out.t
  have zx := cell_lt x0
  go_upto_region 3 with (go_at_call 17; refine (HTOT.out _ HL.out.mon HL.out.lp).mono ?_; rintro e v1 ⟨rfl, hb⟩; have HL9 := Lib.hid (HL.out.below hb); clear hb HL)
  have HL := HL9
  clear x0 x1 x2 zx HL9
  obtain ⟨x0, x1, x2⟩ := HL.out.t
  have zx := cell_lt x0
  go_upto_region 6 with (go_at_call 19; refine (HNA.out _ _ _ HL.out.mon HL.out.lp HC.out.1 HC.out.2).mono ?_; rintro e v2 ⟨rfl, hb⟩; have HL9 := Lib.hid (HL.out.below hb); clear hb HL)
  have HL := HL9
  clear x0 x1 x2 zx HL9
  obtain ⟨x0, x1, x2⟩ := HL.out.t
  have zx := cell_lt x0
  go_upto_region 7 with (go_at_call 22; refine (HUN.out _ HL.out.mon HL.out.lp).mono ?_; rintro e v3 ⟨rfl, hb⟩; have HL9 := Lib.hid (HL.out.below hb); clear hb HL)
  have HL := HL9
  clear x0 x1 x2 zx HL9
  obtain ⟨x0, x1, x2⟩ := HL.out.t
  have zx := cell_lt x0
  go_upto_region 8 with (go_at_call 23; refine (HFU.out _ HL.out.mon HL.out.lp).mono ?_; rintro e v4 ⟨q, cq, rfl, hf, hb⟩; have HL9 := Lib.hid (HL.out.below hb); have HQ := Lib.hid hf; clear hf; clear hb HL)
  have HL := HL9
  clear x0 x1 x2 zx HL9
  obtain ⟨x0, x1, x2⟩ := HL.out.t
  have zx := cell_lt x0
  go_upto_region 9 with (go_at_call 24; refine (HTN.out _ HL.out.mon HL.out.lp).mono ?_; rintro e v5 ⟨rfl, hb⟩; have HL9 := Lib.hid (HL.out.below hb); have HQ9 := Lib.hid (HQ.out.below hb); clear hb HL)
  have HL := HL9
  clear x0 x1 x2 zx HL9
  clear HQ
  have hbx := below_alloc (Below.refl v5.heap.size v5) (.cells #[.int .i64 NE, .int .i64 NS] 60)
  have hNX := two_cells v5 (.int .i64 NE) (.int .i64 NS) 60
  have HL9 := Lib.hid (HL.out.below hbx)
  have HQ := Lib.hid (HQ9.out.below hbx)
  clear hbx HL HQ9
  have HL := HL9
  clear HL9
  generalize v5.alloc (.cells #[.int .i64 NE, .int .i64 NS] 60) = v5a at *
  obtain ⟨aN, haN⟩ : ∃ q, v5.heap.size = q := ⟨_, rfl⟩
  rw [haN] at hNX ⊢
  clear haN
  have HNX := Lib.hid hNX
  clear hNX
  obtain ⟨n0, n1⟩ := HNX.out
  have zn := cell_lt n0
  obtain ⟨x0, x1, x2⟩ := HL.out.t
  have zx := cell_lt x0
  go_upto_region 10 with (go_at_call 25; refine (HFN.out _ HL.out.mon HL.out.lp).mono ?_; rintro e v6 ⟨q2, cq2, rfl, hf, hb⟩; have HL9 := Lib.hid (HL.out.below hb); have HQ2 := Lib.hid hf; have HQ9 := Lib.hid (HQ.out.below hb); have m0 := cell_below hb n0; have m1 := cell_below hb n1; clear hf n0 n1 zn; clear hb HL)
  have HL := HL9
  clear x0 x1 x2 zx HL9
  clear HQ
  have HQ := HQ9
  clear HQ9
  have zm := cell_lt m0
  have HC1 := Lib.hid (fun X h => HCO.out X cq q sa true h ⟨fun _ => HSF.out, fun _ => rfl⟩)
  have s1 : IntKind.i64.wrap (NE * 4294967296) = NE * 4294967296 := IntWalk.i64_in _ (by omega)
  have s2 : IntKind.i64.wrap (NE * 4294967296 + NS) = NE * 4294967296 + NS := IntWalk.i64_in _ (by omega)
  have s3 : IntKind.i64.wrap (NE * 4294967296 + NS - 2208988800) = U := by rw [HEU.out]; exact IntWalk.i64_in _ (by omega)
  have s4 : IntKind.i64.wrap (sa - 3) = sa - 3 := IntWalk.i64_in _ (by omega)
  have s5 : IntKind.i64.wrap (sa + 3) = sa + 3 := IntWalk.i64_in _ (by omega)
  go_upto_region 11 with (first | (go_at_call 26; refine (HEQ.out _ _ _ _ _ HQ.out HQ2.out).mono ?_; rintro e v7 ⟨rfl, hb⟩; have HL7 := Lib.hid (HL.out.below hb); have HQ7 := Lib.hid (HQ.out.below hb); have m0 := cell_below hb m0; have m1 := cell_below hb m1; have zm := cell_lt m0; clear hb) | (go_at_call 27; refine (HC1.out _ HQ7.out).mono ?_; rintro e v8 ⟨rfl, hb⟩; have HL8 := Lib.hid (HL7.out.below hb); have HQ8 := Lib.hid (HQ7.out.below hb); have m0 := cell_below hb m0; have m1 := cell_below hb m1; have zm := cell_lt m0; clear hb))
  clear HL HQ HL7 HQ7 HQ2 m0 m1 zm s1 s2 s3 s4
  have HL := HL8
  have HQ := HQ8
  clear HL8 HQ8
  go_loopw [8, 20, 21, 22, 23] (fun s8 s20 s21 s22 s23 wr => ∃ (k : Nat) (a21 a22 a23 : Value), k ≤ 7 ∧ s8 = .bool false ∧ s20 = .int .i64 (sa - 3 + (k : Int)) ∧ s21 = a21 ∧ s22 = a22 ∧ s23 = a23 ∧ Hid (LawN w wr a9 b u n c p f) ∧ Hid (FnIn wr ff N q)) (fun _ s _ _ _ _ => (sa + 4 - intOf s).toNat)
  case atStart => exact ⟨0, _, _, _, by omega, rfl, by simp, rfl, rfl, rfl, HL, HQ⟩
  case round =>
    clear HL HQ
    obtain ⟨k, a21, a22, a23, hk, rfl, rfl, rfl, rfl, rfl, HL, HQ⟩ := hrel
    obtain ⟨x0, x1, x2⟩ := HL.out.t
    have zx := cell_lt x0
    by_cases hlt : k < 7
    · obtain ⟨kk, hkk⟩ : ∃ kk, sa - 3 + (k : Int) = kk := ⟨_, rfl⟩
      have HKN := Lib.hid (show kk + 1 = sa - 3 + ((k + 1 : Nat) : Int) by omega)
      rw [hkk]
      have hle : kk ≤ sa + 3 := by omega
      have v1 : IntKind.i64.wrap (kk + 1) = kk + 1 := IntWalk.i64_in _ (by omega)
      have HK := Lib.hid hlt
      obtain ⟨v, e', hiff, hcall⟩ := HUX.out kk
      have HUK := Lib.hid (fun X (hX : Mon X) (hL : LpIn X f n p) => hcall X c p hX hL HC.out.1 HC.out.2)
      clear hkk hlt hk hcall
      by_cases h0 : e' = 0
      · subst h0
        by_cases hv : v = U
        · subst hv
          have HCK := Lib.hid (fun X h => HCO.out X cq q kk true h ⟨fun _ => hiff.1 ⟨rfl, rfl⟩, fun _ => rfl⟩)
          clear hiff
          go_wp2_with (first | (go_at_call 22; refine (HUK.out _ HL.out.mon HL.out.lp).mono ?_; rintro e v9 ⟨rfl, hb⟩; have HL9 := Lib.hid (HL.out.below hb); have HQ9 := Lib.hid (HQ.out.below hb); clear hb) | (go_at_call 27; refine (HCK.out _ HQ9.out).mono ?_; rintro e v10 ⟨rfl, hb⟩; have HL10 := Lib.hid (HL9.out.below hb); have HQ10 := Lib.hid (HQ9.out.below hb); clear hb))
          go_roundw
          case rel => exact ⟨k + 1, _, _, _, HK.out, rfl, by rw [HKN.out], rfl, rfl, rfl, HL10, HQ10⟩
          case measure => have := HK.out; simp [intOf]; omega
        · have HCK := Lib.hid (fun X h => HCO.out X cq q kk false h ⟨fun h => (by cases h), fun h => absurd (hiff.2 h).2 hv⟩)
          have hvb : (v == U) = false := by simpa using hv
          clear hiff
          go_wp2_with (first | (go_at_call 22; refine (HUK.out _ HL.out.mon HL.out.lp).mono ?_; rintro e v9 ⟨rfl, hb⟩; have HL9 := Lib.hid (HL.out.below hb); have HQ9 := Lib.hid (HQ.out.below hb); clear hb) | (go_at_call 27; refine (HCK.out _ HQ9.out).mono ?_; rintro e v10 ⟨rfl, hb⟩; have HL10 := Lib.hid (HL9.out.below hb); have HQ10 := Lib.hid (HQ9.out.below hb); clear hb))
          go_roundw
          case rel => exact ⟨k + 1, _, _, _, HK.out, rfl, by rw [HKN.out], rfl, rfl, rfl, HL10, HQ10⟩
          case measure => have := HK.out; simp [intOf]; omega
      · have HCK := Lib.hid (fun X h => HCO.out X cq q kk false h ⟨fun h => (by cases h), fun h => absurd (hiff.2 h).1 h0⟩)
        have h0b : (e' == 0) = false := by simpa using h0
        clear hiff
        go_wp2_with (first | (go_at_call 22; refine (HUK.out _ HL.out.mon HL.out.lp).mono ?_; rintro e v9 ⟨rfl, hb⟩; have HL9 := Lib.hid (HL.out.below hb); have HQ9 := Lib.hid (HQ.out.below hb); clear hb) | (go_at_call 27; refine (HCK.out _ HQ9.out).mono ?_; rintro e v10 ⟨rfl, hb⟩; have HL10 := Lib.hid (HL9.out.below hb); have HQ10 := Lib.hid (HQ9.out.below hb); clear hb))
        go_roundw
        case rel => exact ⟨k + 1, _, _, _, HK.out, rfl, by rw [HKN.out], rfl, rfl, rfl, HL10, HQ10⟩
        case measure => have := HK.out; simp [intOf]; omega
    · obtain rfl : k = 7 := by omega
      obtain ⟨kk, hkk⟩ : ∃ kk, sa - 3 + ((7 : Nat) : Int) = kk := ⟨_, rfl⟩
      rw [hkk]
      have hle : ¬ kk ≤ sa + 3 := by omega
      have hN2 : ¬ (2 : Int) < N := by omega
      clear hkk hlt hk HUX HCO
      by_cases hq : sa - BG < 0
      · have hG := Lib.hid (HGO.out hq)
        have hlt : sa < 252892900 := by omega
        go_upto_region 22 with (go_at_call 28; refine (hG.out _ HL.out.mon HL.out.lp).mono ?_; rintro e v9 ⟨rfl, hb⟩; have HL9 := Lib.hid ((HL.out.below hb).below (below_alloc (Below.refl v9.heap.size v9) (.cells #[.int .i64 0, .int .i64 0] 68))); clear hb)
        generalize v9.alloc (.cells #[.int .i64 0, .int .i64 0] 68) = v9a at *
        clear x0 x1 x2 zx hsa htp htb hub hgv ht1 hfl hf1 hN2 hle s5 hq
        go_wp2_with fail
        refine (awake_any _ HL9.out.mon).mono ?_
        rintro e va ⟨rfl, hb⟩
        have HBA := Lib.hid hb
        clear hb
        go_wp2
        go_ret
        exact ⟨rfl, bt HL9.out.bel HBA.out⟩
      · have hq0 : 0 ≤ sa - BG := by omega
        have hG := Lib.hid (HGY.out hq0)
        have haw := HAW.out
        obtain ⟨r, hr⟩ : ∃ r, aw % 600000000 = r := ⟨_, rfl⟩
        have hrb : 0 ≤ r ∧ r ≤ 599999999 := by omega
        have c1 : aw.tmod 600000000 = r := by rw [Int.tmod_eq_emod_of_nonneg (by omega), hr]
        have c2 : IntKind.i64.wrap r = r := IntWalk.i64_in _ (by omega)
        have c3 : IntKind.u32.wrap r = r := by rw [IntKind.wrap_u32]; omega
        have c4 : IntKind.i64.wrap (sa + r) = sa + r := IntWalk.i64_in _ (by omega)
        have c5 : IntKind.i64.wrap (sa + r - 300000000) = sa + r - 300000000 := IntWalk.i64_in _ (by omega)
        have HF := Lib.hid (HFG.out hq0 (sa + r - 300000000) (by omega) (by omega))
        generalize (sa - BG) / 604800 % 1024 = GW at *
        generalize (sa - BG) % 604800 = GS at *
        clear HFG HGY HGO
        go_upto_region 22 with (go_at_call 28; refine (hG.out _ HL.out.mon HL.out.lp).mono ?_; rintro e v9 ⟨rfl, hb⟩; have HL9 := Lib.hid ((HL.out.below hb).below (below_alloc (Below.refl v9.heap.size v9) (.cells #[.int .i64 GW, .int .i64 GS] 68))); have hgx := two_cells v9 (.int .i64 GW) (.int .i64 GS) 68; clear hb)
        generalize v9.alloc (.cells #[.int .i64 GW, .int .i64 GS] 68) = v9a at *
        clear x0 x1 x2 zx hsa htp htb hub hgv ht1 hfl hf1 hN2 hle s5 hq hq0
        obtain ⟨aG, haG⟩ : ∃ q, v9.heap.size = q := ⟨_, rfl⟩
        rw [haG] at hgx ⊢
        clear haG
        obtain ⟨g0, g1⟩ := hgx
        have zg := cell_lt g0
        obtain ⟨x0, x1, x2⟩ := HL9.out.t
        have zx := cell_lt x0
        go_upto_region 25 with (go_at_call 29; refine (HF.out _ HL9.out.mon HL9.out.lp).mono ?_; rintro e v10 ⟨rfl, hb⟩; have HL10 := Lib.hid (HL9.out.below hb); clear hb)
        clear x0 x1 x2 zx g0 g1 zg c1 c2 c3 c4 c5 hr hrb haw
        go_wp2_with fail
        refine (awake_any _ HL10.out.mon).mono ?_
        rintro e va ⟨rfl, hb⟩
        have HBA := Lib.hid hb
        clear hb
        go_wp2
        go_ret
        exact ⟨rfl, bt HL10.out.bel HBA.out⟩
end Go.Proofs.YtnbccbjhnlggaaaDoor.Cal
