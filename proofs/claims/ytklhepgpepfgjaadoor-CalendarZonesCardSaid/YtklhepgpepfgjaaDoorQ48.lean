/- Layer 9 (calendar): the reference: FromLocal where all is right. -/
import Derived.Test.YtklhepgpepfgjaaDoorQ39
import Derived.Test.YtklhepgpepfgjaaDoorQ47
import Derived.Test.YtklhepgpepfgjaaDoorQ36
namespace Go.Proofs.YtklhepgpepfgjaaDoor.Cal
open Go Go.RowKit
attribute [local go_sem] Oper.semAt_some
theorem rfl_start (w : World) (b u : Int) (n c : Nat) (p : Option Addr) (o : Int) (q cz : Nat) (pz : Option Addr) (y m d h mi s : Int) :
    ∃ W1, ((w.alloc (.cells #[.int .i64 b, .slice p n c, .int .i64 u] 53)).alloc (.cells #[.int .i64 o, .slice pz q cz] 61)).alloc (.cells #[.int .i64 y, .int .i64 m, .int .i64 d, .int .i64 h, .int .i64 mi, .int .i64 s] 65) = W1 ∧
      TBox W1 w.heap.size b u n c p ∧ ZBox W1 (w.heap.size + 1) o q cz pz ∧ DBox W1 (w.heap.size + 1 + 1) y m d h mi s ∧ Below w.heap.size w W1 := by
  refine ⟨_, rfl, ?_⟩
  have b1 := below_alloc (Below.refl w.heap.size w) (.cells #[.int .i64 b, .slice p n c, .int .i64 u] 53)
  have h1 := TBox.new w b u n c p 53
  have e1 : (w.alloc (.cells #[.int .i64 b, .slice p n c, .int .i64 u] 53)).heap.size = w.heap.size + 1 := by simp
  generalize w.alloc (.cells #[.int .i64 b, .slice p n c, .int .i64 u] 53) = W1 at *
  have b2 := below_alloc (Below.refl W1.heap.size W1) (.cells #[.int .i64 o, .slice pz q cz] 61)
  have h2 := ZBox.new W1 o q cz pz 61
  have e2 : (W1.alloc (.cells #[.int .i64 o, .slice pz q cz] 61)).heap.size = w.heap.size + 1 + 1 := by simp [e1]
  rw [e1] at h2
  have h1' := h1.below b2
  have b2' := bt b1 b2
  generalize W1.alloc (.cells #[.int .i64 o, .slice pz q cz] 61) = W2 at *
  have b3 := below_alloc (Below.refl W2.heap.size W2) (.cells #[.int .i64 y, .int .i64 m, .int .i64 d, .int .i64 h, .int .i64 mi, .int .i64 s] 65)
  have h3 : DBox (W2.alloc (.cells #[.int .i64 y, .int .i64 m, .int .i64 d, .int .i64 h, .int .i64 mi, .int .i64 s] 65)) W2.heap.size y m d h mi s := ⟨by simp, by simp, by simp, by simp, by simp, by simp⟩
  rw [e2] at h3
  exact ⟨h1'.below b3, h2.below b3, h3, bt b2' b3⟩
set_option maxRecDepth 100000 in
set_option maxHeartbeats 8000000 in
theorem rFromLocal_ok {b u : Int} {n : Nat} {f : Nat → Int × Int} (ht : tabE b u n f = 0) {o : Int} {q : Nat} {g : Nat → Int × Int} (hze : zoneE o q g = 0) {y : Int} {m : Nat} {d : Int} (hd : IsDate y m d) (h mi s : Int) (hh : 0 ≤ h ∧ h ≤ 23) (hmi : 0 ≤ mi ∧ mi ≤ 59) (hsb : 0 ≤ s ∧ s ≤ 60)
    (c : Nat) (p : Option Addr) (cz : Nat) (pz : Option Addr) (w : World) (hs : LpIn w f n p) (hs2 : LpIn w g q pz) :
    Calls Tryd.prog 22 #[.agg #[.int .i64 b, .slice p n c, .int .i64 u], .agg #[.int .i64 o, .slice pz q cz], .agg #[.int .i64 y, .int .i64 (m : Int), .int .i64 d, .int .i64 h, .int .i64 mi, .int .i64 s]] w fun e w' =>
      (∃ r cr, e = .returned (.tuple #[.slice r (rfound u f n (1440 * dayN y m d + 60 * h + mi) s o q g 2881).length cr, .int .i64 (if rfound u f n (1440 * dayN y m d + 60 * h + mi) s o q g 2881 = [] then 4 else 0)]) ∧
        FnIn w' (atL (rfound u f n (1440 * dayN y m d + 60 * h + mi) s o q g 2881)) (rfound u f n (1440 * dayN y m d + 60 * h + mi) s o q g 2881).length r) ∧ Below w.heap.size w w' := by
  obtain ⟨i0, hi0, hz0, hz1, hz2⟩ := info_parts infoInt
  obtain ⟨W1, hW1, hx, hy, hdb, A0⟩ := rfl_start w b u n c p o q cz pz y m d h mi s
  have HX := Lib.hid hx
  have HY := Lib.hid hy
  have HDB := Lib.hid hdb
  have A0 := Lib.hid A0
  have HZO := Lib.hid (zone_ok hze)
  have HS := Lib.hid (hs.below A0.out)
  have HS2 := Lib.hid (hs2.below A0.out)
  have HCK := Lib.hid (rCheck_any b u n c p f W1 HS.out (by have := (tab_ok ht).n1; omega))
  rw [ht] at HCK
  have HCZ := Lib.hid (fun X hX => rCheckZone_any o q cz pz g X (HS2.out.below hX) (by have := HZO.out.q1; omega))
  rw [hze] at HCZ
  have HDY := Lib.hid (fun X => rDay_ok (m := m) X hd)
  have HIN := Lib.hid (fun v a b' X (hv : a ≤ v ∧ v ≤ b') => show Calls Tryd.prog 56 #[.int .i64 v, .int .i64 a, .int .i64 b'] X fun e w' => e = .returned (.bool true) ∧ X = w' from by
    have := in_any v a b' X
    rw [show (decide (a ≤ v) && decide (v ≤ b')) = true by simp only [Bool.and_eq_true, decide_eq_true_eq]; exact hv] at this
    exact this)
  obtain ⟨lm, hlm⟩ : ∃ lm, 1440 * dayN y m d + 60 * h + mi = lm := ⟨_, rfl⟩
  have HTR := Lib.hid (fun nn hn => try_ex ht hd h mi s nn hh hmi hsb hn hlm)
  have HHO := Lib.hid (fun x X hX => holds_any o q cz pz g x X (HS2.out.below hX) (by have := HZO.out.q1; omega))
  rw [hlm]
  obtain ⟨L, hL⟩ : ∃ L, rfound u f n lm s o q g 2881 = L := ⟨_, rfl⟩
  rw [hL]
  have HL := Lib.hid hL
  clear hL
  obtain ⟨er, her⟩ : ∃ er, (if L = [] then (4 : Int) else 0) = er := ⟨_, rfl⟩
  rw [her]
  have HER := Lib.hid her
  have HHB := Lib.hid (And.intro hh (And.intro hmi hsb))
  have hq2 := HZO.out.q1
  obtain ⟨dn, hdn⟩ : ∃ dn, dayN y m d = dn := ⟨_, rfl⟩
  rw [hdn] at HDY
  clear hx hy hdb ht hze hs hs2 hd her hlm hh hmi hsb hdn
  generalize (m : Int) = mm at *
  go_enter Tryd.func22, Tryd.ntmps22
  go_upto_region 1 with fail
  clear hW1
  obtain ⟨x0, x1, x2⟩ := HX.out
  have zx := cell_lt x0
  go_upto_region 4 with (go_at_call 57; refine HCK.out.mono ?_; rintro e w2 ⟨rfl, hb2⟩; have HB2 := Lib.hid hb2)
  clear x0 x1 x2 zx hb2
  obtain ⟨y0, y1⟩ := HY.out.below HB2.out
  have zy := cell_lt y0
  go_upto_region 7 with (go_at_call 20; refine (HCZ.out _ HB2.out).mono ?_; rintro e w3 ⟨rfl, hb3⟩; have HB3 := Lib.hid (bt HB2.out hb3))
  clear y0 y1 zy hb3
  obtain ⟨d0, d1, d2, d3, d4, d5⟩ := HDB.out.below HB3.out
  have zd := cell_lt d0
  go_upto_region 8 with (go_at_call 61; refine (HDY.out _).mono ?_; rintro e w' ⟨rfl, rfl⟩)
  go_upto_region 10 with (go_at_call 56; refine (HIN.out _ _ _ _ (by have := HHB.out; omega)).mono ?_; rintro e w' ⟨rfl, rfl⟩)
  clear d0 d1 d2 d3 d4 d5 zd
  go_wp2_with fail
  have HBV := Lib.hid (bt A0.out HB3.out)
  have HXV := Lib.hid (HX.out.below HB3.out)
  have HYV := Lib.hid (HY.out.below HB3.out)
  have HDV := Lib.hid (HDB.out.below HB3.out)
  have HSV := Lib.hid (HS.out.below HB3.out)
  have HS2V := Lib.hid (HS2.out.below HB3.out)
  have HHOV := Lib.hid (fun x X (hX : Below w3.heap.size w3 X) => HHO.out x X (bt HB3.out hX))
  clear HB2 HCK HCZ HDY HIN HX HY HDB HS HS2 HHO HB3 A0 HHB
  generalize w3 = V at *
  go_loopw [12, 13, 14, 15, 16, 17, 18, 19] (fun s12 s13 s14 s15 s16 s17 s18 s19 wr => ∃ (k : Nat) (v a14 a15 a16 a17 a18 a19 : Value), k ≤ 2881 ∧ s12 = v ∧ s13 = .int .i64 (1440 - (k : Int)) ∧ s14 = a14 ∧ s15 = a15 ∧ s16 = a16 ∧ s17 = a17 ∧ s18 = a18 ∧ s19 = a19 ∧ Hid (OL V wr v (rfound u f n lm s o q g k))) (fun _ s13 _ _ _ _ _ _ _ => (intOf s13 + 1441).toNat)
  case atStart => exact ⟨0, _, _, _, _, _, _, _, Nat.zero_le _, rfl, rfl, rfl, rfl, rfl, rfl, rfl, rfl, Lib.hid (OL.nil (Below.refl _ _))⟩
  case round =>
    obtain ⟨k, v, a14, a15, a16, a17, a18, a19, hk, rfl, rfl, rfl, rfl, rfl, rfl, rfl, rfl, HO⟩ := hrel
    by_cases hlt : k < 2881
    · have hst : rfound u f n lm s o q g (k + 1) = rfound u f n lm s o q g k ++ (if rB u f n lm s o q g (1440 - (k : Int)) = true then [numS f n (lm - (1440 - (k : Int))) s] else []) := rfl
      have hfl := rfound_len u f n lm s o q g k
      have vk : IntKind.i64.wrap (1440 - (k : Int) - 1) = 1440 - ((k + 1 : Nat) : Int) := by rw [IntWalk.i64_in _ (by omega)]; omega
      obtain ⟨nn, hnn⟩ : ∃ nn, 1440 - (k : Int) = nn := ⟨_, rfl⟩
      rw [hnn] at hst vk ⊢
      have hnb : -1440 ≤ nn ∧ nn ≤ 1440 := by omega
      have HNK := Lib.hid hnn
      have HK := Lib.hid hlt
      have HST := Lib.hid hst
      obtain ⟨fl, hfle⟩ : ∃ fl, rfound u f n lm s o q g k = fl := ⟨_, rfl⟩
      rw [hfle] at HO HST hfl
      clear hst hnn hlt hfle
      have hge : -1440 ≤ nn := hnb.1
      obtain ⟨y0, y1⟩ := HYV.out.below HO.out.bel
      have zy := cell_lt y0
      go_wp2_with fail
      go_loopw [14, 15] (fun s14 s15 wx => ∃ (i : Nat), i ≤ q ∧ s14 = .bool (isOffF o g nn i) ∧ s15 = .int .i64 (i : Int) ∧ wr = wx) (fun _ s _ => q - (intOf s).toNat)
      case atStart => exact ⟨0, Nat.zero_le _, rfl, rfl, rfl⟩
      case round =>
        obtain ⟨i, hi, rfl, rfl, rfl⟩ := hrel
        by_cases hlt : i < q
        · have hii : (i : Int) < q := by omega
          have vi : IntKind.i64.wrap ((i : Int) + 1) = (i : Int) + 1 := IntWalk.i64_in _ (by omega)
          obtain ⟨bb, oo, rfl, hgi⟩ := (HS2V.out.below HO.out.bel).resolve_left (by omega)
          obtain ⟨c0, c1⟩ := hgi i hlt
          have zc := cell_lt c0
          have hse : isOffF o g nn (i + 1) = (isOffF o g nn i || (g i).2 == nn) := rfl
          have HI := Lib.hid hlt
          clear hgi
          generalize (g i).1 = gi1 at *
          generalize (g i).2 = gi2 at *
          cases hio : isOffF o g nn i
          · rw [hio] at hse
            have HSE := Lib.hid hse
            clear hse hio
            go_wp2_with fail
            go_roundw
            case rel => exact ⟨i + 1, HI.out, by rw [HSE.out]; simp, by simp, trivial⟩
            case measure => have := HI.out; simp [intOf]; omega
          · rw [hio] at hse
            have HSE := Lib.hid hse
            clear hse hio
            go_wp2_with fail
            go_roundw
            case rel => exact ⟨i + 1, HI.out, by rw [HSE.out]; simp, by simp, trivial⟩
            case measure => have := HI.out; simp [intOf]; omega
        · obtain rfl : i = q := by omega
          have hii : ¬ ((i : Int) < i) := by omega
          clear hlt
          cases hio : isOffF o g nn i
          · have HEQ := Lib.hid (show rfound u f n lm s o i g (k + 1) = fl by rw [HST.out, if_neg (by unfold rB; rw [hio]; simp), List.append_nil])
            clear hio
            go_wp2_with fail
            go_roundw
            case rel => exact ⟨k + 1, _, _, _, _, _, _, _, by have := HK.out; omega, rfl, by simp, rfl, rfl, rfl, rfl, rfl, rfl, Lib.hid (by rw [HEQ.out]; exact HO.out)⟩
            case measure => have := HK.out; have := HNK.out; simp [intOf]; omega
          · obtain ⟨Y, M, D, H, MI, S, tv, te, ok, hmv, hsec, h1, h2, h3⟩ := HTR.out nn hnb
            have HMV := Lib.hid hmv
            have vn : IntKind.i64.wrap (-nn) = -nn := IntWalk.i64_in _ (by omega)
            obtain ⟨d0, d1, d2, d3, d4, d5⟩ := HDV.out.below HO.out.bel
            have zd := cell_lt d0
            clear hmv
            cases ok
            · have hb := h3 rfl
              have HEQ := Lib.hid (show rfound u f n lm s o i g (k + 1) = fl by rw [HST.out, if_neg (by unfold rB; rw [hio, hb]; simp), List.append_nil])
              clear h1 h2 h3 hsec hb hio
              go_upto_region 21 with (go_at_call 60; refine (HMV.out _).mono ?_; rintro e w4 ⟨rfl, hb4⟩; have HO4 := Lib.hid ((HO.out.below hb4).below (below_alloc (Below.refl w4.heap.size w4) (.cells #[.int .i64 Y, .int .i64 M, .int .i64 D, .int .i64 H, .int .i64 MI, .int .i64 S] 65))))
              generalize w4.alloc (.cells #[.int .i64 Y, .int .i64 M, .int .i64 D, .int .i64 H, .int .i64 MI, .int .i64 S] 65) = W5 at *
              go_wp2_with fail
              go_roundw
              case rel => exact ⟨k + 1, _, _, _, _, _, _, _, by have := HK.out; omega, rfl, by simp, rfl, rfl, rfl, rfl, rfl, rfl, Lib.hid (by rw [HEQ.out]; exact HO4.out)⟩
              case measure => have := HK.out; have := HNK.out; simp [intOf]; omega
            · have HSEC := Lib.hid (hsec rfl)
              have H1 := Lib.hid (h1 rfl)
              have H2 := Lib.hid (h2 rfl)
              clear h1 h2 h3 hsec
              go_upto_region 21 with (go_at_call 60; refine (HMV.out _).mono ?_; rintro e w4 ⟨rfl, hb4⟩; have HO4 := Lib.hid ((HO.out.below hb4).below (below_alloc (Below.refl w4.heap.size w4) (.cells #[.int .i64 Y, .int .i64 M, .int .i64 D, .int .i64 H, .int .i64 MI, .int .i64 S] 65))))
              have HD4 : Hid (DBox (w4.alloc (.cells #[.int .i64 Y, .int .i64 M, .int .i64 D, .int .i64 H, .int .i64 MI, .int .i64 S] 65)) w4.heap.size Y M D H MI S) := Lib.hid ⟨by simp, by simp, by simp, by simp, by simp, by simp⟩
              clear hb4 d0 d1 d2 d3 d4 d5 zd y0 y1 zy vn
              generalize w4.alloc (.cells #[.int .i64 Y, .int .i64 M, .int .i64 D, .int .i64 H, .int .i64 MI, .int .i64 S] 65) = W5 at *
              generalize w4.heap.size = ad at *
              obtain ⟨x0, x1, x2⟩ := HXV.out.below HO4.out.bel
              have zx := cell_lt x0
              obtain ⟨d0, d1, d2, d3, d4, d5⟩ := HD4.out
              have zd := cell_lt d0
              by_cases he : te = 0
              · obtain ⟨h4, rfl⟩ := H1.out he
                subst he
                clear H1 H2
                go_upto_region 23 with (go_at_call 62; refine (HSEC.out W5 c p (HSV.out.below HO4.out.bel)).mono ?_; rintro e w6 ⟨rfl, hb6⟩; have HO6 := Lib.hid (HO4.out.below hb6))
                clear x0 x1 x2 zx d0 d1 d2 d3 d4 d5 zd
                obtain ⟨y0, y1⟩ := HYV.out.below HO6.out.bel
                have zy := cell_lt y0
                have HHC := Lib.hid (HHOV.out (numS f n (lm - nn) s) w6 HO6.out.bel)
                obtain ⟨tv, htv⟩ : ∃ tv, numS f n (lm - nn) s = tv := ⟨_, rfl⟩
                rw [htv] at HHC ⊢
                by_cases hof : offAt o g tv (i + 1) = nn
                · have HEQ := Lib.hid (show rfound u f n lm s o i g (k + 1) = fl ++ [tv] by rw [HST.out, if_pos (by unfold rB; rw [hio, h4, htv]; simp [hof]), htv])
                  rw [hof] at HHC
                  clear hof hio h4 htv
                  go_upto_region 24 with (go_at_call 59; refine HHC.out.mono ?_; rintro e w7 ⟨rfl, hb7⟩; have HO7 := Lib.hid (HO6.out.below hb7))
                  have hsz7 := HO7.out.bel.size
                  have h2881 := HK.out
                  go_wp2_with (at_builtin; refine wpList_append_own_at _ rfl _ _ _ rfl V.heap.size 3 i0 (.int .i64 0) 1 8 Tryd.underlying44 hi0 hz0 hz1 hz2 rfl (by decide) _ fl.length _ rfl (HO7.out.own.alloc _) ⟨w7.heap.size, 0, none⟩ 1 1 [.int .i64 tv] rfl rfl (cell_one_new _ _ _) (by simp [Value.oneCell']) (by unfold maxLen; omega) (by omega) (by simp; omega) ?_; intro v' w8 hown hg _ _; have HO8 := Lib.hid (HO7.out.more (x := tv) hown hg); clear hown hg)
                  go_roundw
                  case rel => exact ⟨k + 1, _, _, _, _, _, _, _, by have := HK.out; omega, rfl, by simp, rfl, rfl, rfl, rfl, rfl, rfl, Lib.hid (by rw [HEQ.out]; exact HO8.out)⟩
                  case measure => have := HK.out; have := HNK.out; simp [intOf]; omega
                · have HEQ := Lib.hid (show rfound u f n lm s o i g (k + 1) = fl by rw [HST.out, if_neg (by unfold rB; rw [hio, h4, htv]; simp [hof]), List.append_nil])
                  have hof2 : (offAt o g tv (i + 1) == nn) = false := by simpa using hof
                  clear hio h4 htv
                  generalize offAt o g tv (i + 1) = oa at *
                  go_wp2_with (go_at_call 59; refine HHC.out.mono ?_; rintro e w7 ⟨rfl, hb7⟩; have HO7 := Lib.hid (HO6.out.below hb7))
                  go_roundw
                  case rel => exact ⟨k + 1, _, _, _, _, _, _, _, by have := HK.out; omega, rfl, by simp, rfl, rfl, rfl, rfl, rfl, rfl, Lib.hid (by rw [HEQ.out]; exact HO7.out)⟩
                  case measure => have := HK.out; have := HNK.out; simp [intOf]; omega
              · have hb := H2.out he
                have HEQ := Lib.hid (show rfound u f n lm s o i g (k + 1) = fl by rw [HST.out, if_neg (by unfold rB; rw [hio, hb]; simp), List.append_nil])
                have he2 : (te == 0) = false := by simpa using he
                clear H1 H2 hb hio
                go_wp2_with (go_at_call 62; refine (HSEC.out W5 c p (HSV.out.below HO4.out.bel)).mono ?_; rintro e w6 ⟨rfl, hb6⟩; have HO6 := Lib.hid (HO4.out.below hb6))
                go_roundw
                case rel => exact ⟨k + 1, _, _, _, _, _, _, _, by have := HK.out; omega, rfl, by simp, rfl, rfl, rfl, rfl, rfl, rfl, Lib.hid (by rw [HEQ.out]; exact HO6.out)⟩
                case measure => have := HK.out; have := HNK.out; simp [intOf]; omega
    · obtain rfl : k = 2881 := by omega
      have hll := rfound_len u f n lm s o q g 2881
      rw [HL.out] at HO hll
      obtain ⟨r, cr, rfl, -, hfn⟩ := HO.out.fn
      have HFN := Lib.hid hfn
      have hno : ¬ (-1440 : Int) ≤ 1440 - ((2881 : Nat) : Int) := by decide
      clear hfn
      by_cases h0 : L = []
      · subst h0
        have her := HER.out
        rw [if_pos rfl] at her
        have HER2 := Lib.hid her
        clear her
        go_wp2_with fail
        go_ret2
        exact ⟨⟨none, ⟨0, by rw [← HER2.out]; rfl⟩, .inl rfl⟩, bt HBV.out HO.out.bel⟩
      · have h1 : ¬ L.length = 0 := by
          cases L with
          | nil => exact absurd rfl h0
          | cons _ _ => simp
        have h1i : ¬ (L.length : Int) = 0 := by omega
        have h1b : ((L.length : Int) == 0) = false := by simpa using h1i
        have her := HER.out
        rw [if_neg h0] at her
        have HER2 := Lib.hid her
        clear her h0
        go_wp2_with fail
        go_ret2
        exact ⟨⟨r, ⟨cr, by rw [← HER2.out]; rfl⟩, HFN.out⟩, bt HBV.out HO.out.bel⟩
end Go.Proofs.YtklhepgpepfgjaaDoor.Cal
