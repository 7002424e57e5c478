/- The law CounterTurns. -/
import Derived.Test.YtildlfcbgiaopaaHl
import Derived.Test.YtildlfcbgiaopaaTp
import Derived.Test.YtildlfcbgiaopaaTq
namespace Go.Proofs.Ytildlfcbgiaopaa.Ct
open Go Go.RowKit Go.Shelf
attribute [local go_sem] Oper.semAt_some
theorem CBox.keepT {Y W : World} {b b' : Nat} {c : Cnt} (h : CBox Y b c) (k : CBox Y b' c) (hb : Below Y.heap.size Y W) : Below Y.heap.size Y W ∧ W.cell? ⟨b, 0, none⟩ = some (.int .i64 c.f) ∧ W.cell? ⟨b, 1, none⟩ = some (.int .i64 c.o) ∧ W.cell? ⟨b, 2, none⟩ = some (.int .i64 c.j) ∧ W.cell? ⟨b, 3, none⟩ = some (.int .i64 c.g) ∧ W.cell? ⟨b, 4, none⟩ = some (.int .i64 c.r) ∧ W.cell? ⟨b, 5, none⟩ = some (.int .i64 c.d) ∧ W.cell? ⟨b, 6, none⟩ = some (.int .i64 c.i) ∧ W.cell? ⟨b', 5, none⟩ = some (.int .i64 c.d) :=
  ⟨hb, cell_below hb h.c0, cell_below hb h.c1, cell_below hb h.c2, cell_below hb h.c3, cell_below hb h.c4, cell_below hb h.c5, cell_below hb h.c6, cell_below hb k.c5⟩
/-- what the law compares -/
structure TurIn (w X : World) (c : Cnt) (u d m : Nat → Int) (n g bu ou bv ov : Nat) : Prop where
  u : FnAt X u n g 0
  d : FnAt X d n bu ou
  m : FnAt X m n bv ov
  a : CBox X w.heap.size c
  bel : Below w.heap.size w X
theorem TurIn.below {w X Y : World} {c : Cnt} {u d m : Nat → Int} {n g bu ou bv ov : Nat} (h : TurIn w X c u d m n g bu ou bv ov) (hb : Below X.heap.size X Y) : TurIn w Y c u d m n g bu ou bv ov := ⟨h.u.bel hb, h.d.bel hb, h.m.bel hb, h.a.below hb, bt h.bel hb⟩
theorem infoInt2 : (Try.prog.info? 3).map (fun i => (i.zero, i.size, i.bytes)) = some (some (.int .i64 0), 1, 8) := by kernel_rfl
set_option maxRecDepth 100000 in
set_option maxHeartbeats 8000000 in
theorem turns_law (c : Cnt) (seed start : Int) (l : List Int) (p : Option Addr) (cap : Nat) (w : World) (hl : l.length ≤ maxLen) (hs : FnIn w (lAt l) l.length p) :
    Calls Try.prog 4 #[cntVal c, .int .u64 seed, .int .i64 start, .slice p l.length cap] w fun e w' => e = .returned (.bool true) ∧ Below w.heap.size w w' := by
  obtain ⟨h2, hb⟩ := two_box w c
  have HT := Lib.hid h2
  have HL := Lib.hid (hs.below hb)
  have HB := Lib.hid hb
  have HCK := Lib.hid (fun W => check_any c W)
  unfold twoW at HT HB HL
  unfold cntVal at *
  clear h2 hb hs
  unfold maxLen at hl
  by_cases hc : cntB c = true
  · have HCI := Lib.hid (cntB_in hc)
    rw [show checkC c = 0 from if_pos hc] at HCK
    have HC0 := Lib.hid hc
    clear hc
    have hcd := HCI.out.d
    have hcr := r_even HCI.out
    have hcr2 := HCI.out.r
    have hcg := HCI.out.g
    have hcf := HCI.out.f
    have hcj := HCI.out.j
    have hd1 : ¬ c.d < 1 := by omega
    have hf1 : ¬ c.f < 1 := by omega
    by_cases h40 : l.length ≤ 40
    · have hi40 : ¬ 40 < (l.length : Int) := by omega
      have H40 := Lib.hid h40
      clear hl h40
      go_enter Try.func4, Try.ntmps4
      go_upto_region 2 with fail
      generalize (w.alloc (.cells #[.int .i64 c.f, .int .i64 c.o, .int .i64 c.j, .int .i64 c.g, .int .i64 c.r, .int .i64 c.d, .int .i64 c.i] 23)).alloc (.cells #[.int .i64 c.f, .int .i64 c.o, .int .i64 c.j, .int .i64 c.g, .int .i64 c.r, .int .i64 c.d, .int .i64 c.i] 25) = W0 at *
      obtain ⟨x0, x1, x2, x3, x4, x5, x6⟩ := HT.out.z
      have zx := cell_lt x0
      go_upto_region 4 with (go_at_call 6; refine (HCK.out _).mono ?_; rintro e w1 ⟨rfl, hb1⟩; have HT1 := Lib.hid (HT.out.below hb1); have HB1 := Lib.hid (bt HB.out hb1); have HL1 := Lib.hid (HL.out.below hb1); clear hb1; obtain ⟨y0, y1, y2, y3, y4, y5, y6⟩ := HT1.out.a; have zy := cell_lt y0)
      clear x0 x1 x2 x3 x4 x5 x6 zx HT HB HL HCK hd1 hf1 hi40
      have k1 : IntKind.i64.wrap (c.g.tdiv 2) = c.g / 2 := IntWalk.i64_quo c.g 2 (by omega)
      have k1b : IntKind.i64.wrap (c.g / 2) = c.g / 2 := IntWalk.i64_in _ (by omega)
      have k2 : IntKind.i64.wrap (c.j + c.g / 2) = faultS c := IntWalk.i64_in _ (by omega)
      have hfb := fault_bd HCI.out
      go_upto_region 5 with fail
      clear k1 k1b k2
      obtain ⟨fa, hfa⟩ : ∃ fa, fa = faultS c := ⟨_, rfl⟩
      rw [← hfa] at hfb ⊢
      have HFA := Lib.hid hfa
      clear hfa
      obtain ⟨rh, hrh⟩ : ∃ rh, rh = c.r / 2 := ⟨_, rfl⟩
      have HRH := Lib.hid hrh
      obtain ⟨top, htop⟩ : ∃ top, rh - 2 * fa - 1 = top := ⟨_, rfl⟩
      have hfne : (c.f == 0) = false := by simp; omega
      have hfnz : ¬ c.f = 0 := by omega
      have k3 : IntKind.i64.wrap (c.r.tdiv 2) = rh := by rw [hrh]; exact IntWalk.i64_quo c.r 2 (by omega)
      have k3b : IntKind.i64.wrap (c.r / 2) = rh := by rw [hrh]; exact IntWalk.i64_in _ (by omega)
      have k4 : IntKind.i64.wrap (2 * fa) = 2 * fa := IntWalk.i64_in _ (by omega)
      have k5 : IntKind.i64.wrap (rh - 2 * fa) = rh - 2 * fa := IntWalk.i64_in _ (by omega)
      have k6 : IntKind.i64.wrap (rh - 2 * fa - 1) = top := by rw [htop]; exact IntWalk.i64_in _ (by omega)
      have htb : -4000000000000000 ≤ top ∧ top ≤ 1000000000000000 := by omega
      have htd := tdiv_bd top c.f hcf.1 (by omega) (by omega)
      obtain ⟨far0, hfar0⟩ : ∃ far0, top.tdiv c.f = far0 := ⟨_, rfl⟩
      have k7 : IntKind.i64.wrap (top.tdiv c.f) = far0 := by rw [hfar0]; rw [hfar0] at htd; exact IntWalk.i64_in _ (by omega)
      have k7b : 0 ≤ top → IntKind.i64.wrap (top / c.f) = far0 := fun h => by rw [← Int.tdiv_eq_ediv_of_nonneg h]; exact k7
      clear htd
      by_cases htn : top < 0
      · have hU0 := Lib.hid (fun W => Unwrap_no c (lAt l) 0 none 0 0 W HCI.out (by decide) (fun i hi => absurd hi (Nat.not_lt_zero i)) (by decide) (by rw [← HFA.out, ← HRH.out]; omega) (.inl rfl))
        unfold cntVal at hU0
        have h0 : ¬ 0 ≤ top := by omega
        clear k7b htop hrh hfar0
        go_upto_region 6 with fail
        obtain ⟨x0, x1, x2, x3, x4, x5, x6⟩ := HT1.out.z
        have zx := cell_lt x0
        clear k7
        by_cases hf0 : far0 < 0
        · go_wp2_with (first | (go_at_call 11; refine (hU0.out _).mono ?_; rintro e w2 ⟨rfl, hb2⟩; have HB2 := Lib.hid (bt HB1.out hb2); clear hb2) | (go_at_call 7; refine (awake2_any _).mono ?_; rintro e w3 ⟨rfl, hb3⟩; have HB3 := Lib.hid (bt HB2.out hb3); clear hb3))
          go_ret
          exact ⟨rfl, HB3.out⟩
        · go_wp2_with (first | (go_at_call 11; refine (hU0.out _).mono ?_; rintro e w2 ⟨rfl, hb2⟩; have HB2 := Lib.hid (bt HB1.out hb2); clear hb2) | (go_at_call 7; refine (awake2_any _).mono ?_; rintro e w3 ⟨rfl, hb3⟩; have HB3 := Lib.hid (bt HB2.out hb3); clear hb3))
          go_ret
          exact ⟨rfl, HB3.out⟩
      · have htp : 0 ≤ top := by omega
        have k7c := k7b htp
        have hfd : top / c.f = far0 := by rw [← hfar0, Int.tdiv_eq_ediv_of_nonneg htp]
        have hf0 : 0 ≤ far0 := by rw [← hfd]; exact Int.ediv_nonneg htp (by omega)
        have hfm : far0 * c.f ≤ top := by rw [← hfd]; exact Int.ediv_mul_le _ (by omega)
        have hfn : ¬ far0 < 0 := by omega
        obtain ⟨far, hfar⟩ : ∃ far, (if 1000000000000 < far0 then 1000000000000 else far0) = far := ⟨_, rfl⟩
        have hfb3 : (0 ≤ far ∧ far ≤ 1000000000000) ∧ far ≤ far0 := by rw [← hfar]; split <;> omega
        have hff : c.f * far ≤ far0 * c.f := by rw [Int.mul_comm far0]; exact Int.mul_le_mul_of_nonneg_left hfb3.2 (by omega)
        have HTI : Hid (TurnIs c far) := Lib.hid ⟨HCI.out, hfb3.1, by rw [← HFA.out, ← HRH.out]; omega⟩
        have HFB := Lib.hid hfb3.1
        have htm := tmod_bd start 100000000000000 (by decide)
        obtain ⟨b0, hb0⟩ : ∃ b0, start.tmod 100000000000000 = b0 := ⟨_, rfl⟩
        rw [hb0] at htm
        have k8 : IntKind.i64.wrap b0 = b0 := IntWalk.i64_in _ (by omega)
        have HBB := Lib.hid (show -100000000000000 < b0 ∧ b0 < 100000000000000 by omega)
        clear k7b htb hfar0 htop hrh hfd hf0 hfm hff hfb3 htm htp hcd hcr hcr2 hcg hcf hcj hfb
        go_wp2_with fail
        clear k3 k3b k4 k5 k6 k7 k7c k8 htn hfn hfne hfnz y0 y1 y2 y3 y4 y5 y6 zy hb0 hfar
        have HTZ := Lib.hid HT1.out.z
        have HTA := Lib.hid HT1.out.a
        have hdd := HCI.out.d
        obtain ⟨q, hq⟩ : ∃ q, q = 1000000 / c.d := ⟨_, rfl⟩
        have hq0 : 0 ≤ q := by rw [hq]; exact Int.ediv_nonneg (by decide) (by omega)
        have hq1 : q * c.d ≤ 1000000 := by rw [hq]; exact Int.ediv_mul_le _ (by omega)
        have hq2 : 0 ≤ q * c.d := Int.mul_nonneg hq0 (by omega)
        have hq3 : q ≤ 1000000 := by rw [hq]; exact Int.ediv_le_self _ (by decide)
        have HQ := Lib.hid (And.intro hq0 (And.intro hq1 (And.intro hq2 hq3)))
        have HQE := Lib.hid hq
        have HSH : Hid (∀ i : Nat, i ≤ 40 → ∀ W, Calls Try.prog 9 #[.agg #[.int .i64 c.f, .int .i64 c.o, .int .i64 c.j, .int .i64 c.g, .int .i64 c.r, .int .i64 c.d, .int .i64 c.i], .int .u64 seed, .int .i64 (secT c i), .int .i64 (trT far b0 l i)] W fun e w' => e = .returned (.tuple #[.int .i64 (wrapS c (rouT c seed far b0 l i)), .int .i64 0]) ∧ Below W.heap.size W w') := Lib.hid fun i hi W => by
          have h := show_any c seed (secT c i) (trT far b0 l i) W
          have hbd := (HTI.out.bd seed b0 l HBB.out i hi).1
          have hE : showErr c (secT c i) (trT far b0 l i) = 0 := by
            unfold showErr
            rw [if_pos HC0.out, if_pos (secT_meet HCI.out i), if_pos (by omega)]
          rw [hE, if_pos rfl] at h
          exact h
        have HUN : Hid (∀ (p : Option Addr) (cap : Nat) W, FnIn W (fun j => wrapS c (rouT c seed far b0 l j)) (l.length + 1) p → Calls Try.prog 11 #[.agg #[.int .i64 c.f, .int .i64 c.o, .int .i64 c.j, .int .i64 c.g, .int .i64 c.r, .int .i64 c.d, .int .i64 c.i], .slice p (l.length + 1) cap, .int .i64 far] W (UnwRet2 c (fun j => wrapS c (rouT c seed far b0 l j)) (l.length + 1) W)) := Lib.hid fun p cap W hs =>
          Unwrap_ok c _ (l.length + 1) p cap far W HCI.out (by have := H40.out; omega) (fun i _ => by have h := shown_show HCI.out seed (secT c i) (trT far b0 l i); rw [rouT_shown] at h; exact h) (by have := HFB.out; omega) HTI.out.t hs
        have HTU : Hid (TurAt w1 w1 (.slice none 0 0) (.slice none 0 0) (trT far b0 l) (fun j => wrapS c (rouT c seed far b0 l j)) 0 0) := Lib.hid ⟨OwnF.nil _ _ _, OwnF.nil _ _ _, .inl rfl, Below.refl _ _⟩
        obtain ⟨N, hN⟩ : ∃ N, N = l.length := ⟨_, rfl⟩
        rw [← hN] at HUN HL1 H40
        have HD0 : Hid (trT far b0 l 0 = b0) := Lib.hid rfl
        have HNE := Lib.hid hN
        obtain ⟨i0, hi0, hz0, hz1, hz2⟩ := info_parts infoInt2
        clear hq hq0 hq1 hq2 hq3 HT1 hN hdd
        generalize w1 = W3 at *
        go_loopw [8, 14, 15, 16, 17, 18, 19] (fun s8 s14 s15 s16 s17 s18 s19 wx => ∃ (k : Nat) (u v v18 v19 : Value), k ≤ l.length + 1 ∧ s8 = .bool false ∧ s14 = .int .i64 (trT far b0 l (k - 1)) ∧ s15 = u ∧ s16 = v ∧ s17 = .int .i64 (k : Int) ∧ s18 = v18 ∧ s19 = v19 ∧ Hid (TurAt W3 wx u v (trT far b0 l) (fun j => wrapS c (rouT c seed far b0 l j)) k k)) (fun _ _ _ _ s17 _ _ _ => l.length + 1 - (intOf s17).toNat)
        case atStart => exact ⟨0, _, _, _, _, Nat.zero_le _, rfl, rfl, rfl, rfl, rfl, rfl, rfl, HTU⟩
        case round =>
          obtain ⟨k, u, v, v18, v19, hk, rfl, rfl, rfl, rfl, rfl, rfl, rfl, HTR⟩ := hrel
          by_cases hlt : k ≤ l.length
          · have hki : (k : Int) ≤ l.length := by omega
            have HK := Lib.hid hlt
            go_upto_if 94 with fail
            go_cut [14] from 94 to 107 (fun sd wx => sd = .int .i64 (trT far b0 l k) ∧ Hid (TurAt W3 wx u15 u16 (trT far b0 l) (fun j => wrapS c (rouT c seed far b0 l j)) k k))
            case first =>
              cases k with
              | zero =>
                go_wp2_with fail
                go_meet
                exact ⟨rfl, HTR⟩
              | succ k =>
                have hk0 : (0 : Int) < ((k + 1 : Nat) : Int) := by omega
                have hk0b : (0 : Int) < (k : Int) + 1 := by omega
                obtain ⟨b, o, rfl, hcell⟩ := (HL1.out.below HTR.out.bel).resolve_left (by have := HNE.out; omega)
                have x0 := hcell k (by have := HNE.out; omega)
                have zx := cell_lt x0
                have hkl : (k : Int) < l.length := by omega
                have hfar := HFB.out
                have hbd := (HTI.out.bd seed b0 l HBB.out k (by have := H40.out; have := HNE.out; omega)).1
                obtain ⟨r, hr⟩ : ∃ r, lAt l k % (2 * far + 1) = r := ⟨_, rfl⟩
                have hr1 := Int.emod_nonneg (lAt l k) (show 2 * far + 1 ≠ 0 by omega)
                have hr2 := Int.emod_lt_of_pos (lAt l k) (show 0 < 2 * far + 1 by omega)
                rw [hr] at hr1 hr2
                have hst : trT far b0 l (k + 1) = trT far b0 l k + (r - far) := by rw [← hr]; rfl
                have k1 : IntKind.i64.wrap (((k + 1 : Nat) : Int) - 1) = (k : Int) := by rw [IntWalk.i64_in _ (by omega)]; omega
                have k1b : IntKind.i64.wrap ((k : Int) + 1 - 1) = (k : Int) := by rw [IntWalk.i64_in _ (by omega)]; omega
                have k2 : IntKind.i64.wrap (2 * far) = 2 * far := IntWalk.i64_in _ (by omega)
                have k3 : IntKind.i64.wrap (2 * far + 1) = 2 * far + 1 := IntWalk.i64_in _ (by omega)
                have k4 : IntKind.i64.wrap (r - far) = r - far := IntWalk.i64_in _ (by omega)
                have k5 : IntKind.i64.wrap (trT far b0 l k + (r - far)) = trT far b0 l (k + 1) := by rw [hst]; exact IntWalk.i64_in _ (by omega)
                have HPK := Lib.hid (pick_any (lAt l k) (2 * far + 1) wr (by omega))
                rw [hr] at HPK
                clear hcell hfar hbd hr hr1 hr2 hst
                go_wp2_with (go_at_call 8; refine HPK.out.mono ?_; rintro e w5 ⟨rfl, hw⟩; obtain rfl := hw.symm)
                go_meet
                exact ⟨rfl, HTR⟩
            case rest =>
              obtain ⟨rfl, HTR2⟩ := hcut
              have hza := HTA.out.below HTR2.out.bel
              have hzz := HTZ.out.below HTR2.out.bel
              have HZA := Lib.hid hza
              have HZZ := Lib.hid hzz
              obtain ⟨x0, x1, x2, x3, x4, x5, x6⟩ := hzz
              have y5 := hza.c5
              have zx := cell_lt x0
              have zy := cell_lt y5
              have hd := HCI.out.d
              obtain ⟨g0, g1, g2, g3⟩ := HQ.out
              have hqe := HQE.out
              have hk40 : k ≤ 40 := by have := H40.out; have := HNE.out; omega
              have hkd0 : 0 ≤ (k : Int) * c.d := Int.mul_nonneg (by omega) (by omega)
              have hkd1 : (k : Int) * c.d ≤ 40 * c.d := Int.mul_le_mul_of_nonneg_right (by omega) (by omega)
              have HS1 := Lib.hid (HSH.out k hk40)
              obtain ⟨sk, hsk⟩ : ∃ sk, sk = secT c k := ⟨_, rfl⟩
              rw [← hsk] at HS1
              unfold secT at hsk
              rw [← hqe] at hsk
              obtain ⟨kd, hkd⟩ : ∃ kd, kd = (k : Int) * c.d := ⟨_, rfl⟩
              obtain ⟨qd, hqd⟩ : ∃ qd, qd = q * c.d := ⟨_, rfl⟩
              rw [← hkd, ← hqd] at hsk
              have hne : (c.d == 0) = false := by simp; omega
              have hnz : ¬ c.d = 0 := by omega
              have hMe : (qd + c.d == 0) = false := by simp; omega
              have hMz : ¬ qd + c.d = 0 := by omega
              have hm1 := Int.emod_nonneg kd (show qd + c.d ≠ 0 by omega)
              have hm2 := Int.emod_lt_of_pos kd (show 0 < qd + c.d by omega)
              have k1 : IntKind.i64.wrap ((k : Int) * c.d) = kd := by rw [← hkd]; exact IntWalk.i64_in _ (by omega)
              have k2 : IntKind.i64.wrap (Int.tdiv 1000000 c.d) = q := by rw [Int.tdiv_eq_ediv_of_nonneg (by decide), ← hqe]; exact IntWalk.i64_in _ (by omega)
              have k2b : IntKind.i64.wrap (1000000 / c.d) = q := by rw [← hqe]; exact IntWalk.i64_in _ (by omega)
              have k3 : IntKind.i64.wrap (q * c.d) = qd := by rw [← hqd]; exact IntWalk.i64_in _ (by omega)
              have k4 : IntKind.i64.wrap (qd + c.d) = qd + c.d := IntWalk.i64_in _ (by omega)
              have k5 : kd.tmod (qd + c.d) = sk := by rw [Int.tmod_eq_emod_of_nonneg (by omega), ← hsk]
              have k5c : IntKind.i64.wrap sk = sk := IntWalk.i64_in _ (by omega)
              have k5b : IntKind.i64.wrap (kd % (qd + c.d)) = sk := by rw [← hsk]; exact IntWalk.i64_in _ (by omega)
              obtain ⟨dk, hdk⟩ : ∃ dk, dk = trT far b0 l k := ⟨_, rfl⟩
              obtain ⟨mk, hmk⟩ : ∃ mk, mk = wrapS c (rouT c seed far b0 l k) := ⟨_, rfl⟩
              rw [← hdk] at HS1 ⊢
              rw [← hmk] at HS1
              have HDK := Lib.hid hdk
              have HMK := Lib.hid hmk
              clear hd g0 g1 g2 g3 hqe hkd0 hkd1 hsk hkd hqd hm1 hm2 hdk hmk hza hk40
              go_upto_region 17 with fail
              go_cut [18, 19] from 109 to 128 (fun s18 s19 wy => s18 = .int .i64 mk ∧ s19 = .int .i64 0 ∧ Hid (TurAt W3 wy u15 u16 (trT far b0 l) (fun j => wrapS c (rouT c seed far b0 l j)) k k))
              case first =>
                refine (wpIn_wide (n := 9)).1 ?_
                refine wpIn_region_pre_lit 17 6 rfl (by kernel_rfl) (by kernel_rfl) (by kernel_rfl) (by kernel_rfl) rfl ?_
                simp only [List.take_succ_cons, List.take_zero]
                repeat (refine wpQuietIn_step (by first | exact fun _ _ _ _ => trivial | quiet_asked_in) (fun KQ hKQ => ?_); go_simp; first | (refine hKQ _ ?_; clear hKQ KQ) | (apply Exists.intro; refine ⟨fun _ => ?_, hKQ _ ?_⟩; (fail); clear hKQ KQ))
                refine wpQuietIn_nil ?_
                intro _ hwq1
                obtain ⟨nq, hwq2⟩ := hwq1
                subst hwq2
                simp only [List.replicate_succ, List.replicate_zero, List.cons_append, List.nil_append]
                refine wpAnyIn_ready (rs := [17]) (by kernel_rfl) (by simp) (AllReadyIn.cons rfl (fun K' hKK => ?_) AllReadyIn.nil)
                go_simp
                refine ⟨trivial, (callsIn_wide.2 (HS1.out _)).mono ?_⟩
                rintro e w2 ⟨rfl, hb2⟩
                have HTR3 := Lib.hid (HTR2.out.below ((below_drewN (Below.refl wc.heap.size wc) nq).trans hb2))
                go_simp
                refine hKK _ _ ?_
                clear hKK hb2 x0 x1 x2 x3 x4 x5 x6 y5 zx zy hne hnz hMe hMz k1 k2 k2b k3 k4 k5 k5b k5c
                refine wpAnyIn_ready (rs := [18]) (by kernel_rfl) (by simp) (AllReadyIn.cons rfl (fun K' hKK => ?_) AllReadyIn.nil)
                go_simp
                refine hKK _ _ ?_
                clear hKK
                refine wpAnyIn_ready (rs := [19, 20]) (by kernel_rfl) (by simp) (AllReadyIn.cons rfl (fun K' hKK => ?_) (AllReadyIn.cons rfl (fun K' hKK => ?_) AllReadyIn.nil))
                · go_simp
                  refine hKK _ _ ?_
                  clear hKK
                  refine wpAnyIn_ready (rs := [20, 21]) (by kernel_rfl) (by simp) (AllReadyIn.cons rfl (fun K' hKK => ?_) (AllReadyIn.cons rfl (fun K' hKK => ?_) AllReadyIn.nil))
                  · go_simp
                    refine hKK _ _ ?_
                    clear hKK
                    refine wpAnyIn_ready (rs := [21]) (by kernel_rfl) (by simp) (AllReadyIn.cons rfl (fun K' hKK => ?_) AllReadyIn.nil)
                    go_simp
                    refine hKK _ _ ?_
                    clear hKK
                    refine wpAnyIn_ready (rs := [22]) (by kernel_rfl) (by simp) (AllReadyIn.cons rfl (fun K' hKK => ?_) AllReadyIn.nil)
                    go_simp
                    refine hKK _ _ ?_
                    clear hKK
                    refine wpAnyIn_done (by kernel_rfl) ?_ _
                    go_wp2_with fail
                    go_meet
                    exact ⟨rfl, rfl, HTR3⟩
                  · go_simp
                    refine hKK _ _ ?_
                    clear hKK
                    refine wpAnyIn_ready (rs := [20]) (by kernel_rfl) (by simp) (AllReadyIn.cons rfl (fun K' hKK => ?_) AllReadyIn.nil)
                    go_simp
                    refine hKK _ _ ?_
                    clear hKK
                    refine wpAnyIn_ready (rs := [22]) (by kernel_rfl) (by simp) (AllReadyIn.cons rfl (fun K' hKK => ?_) AllReadyIn.nil)
                    go_simp
                    refine hKK _ _ ?_
                    clear hKK
                    refine wpAnyIn_done (by kernel_rfl) ?_ _
                    go_wp2_with fail
                    go_meet
                    exact ⟨rfl, rfl, HTR3⟩
                · go_simp
                  refine hKK _ _ ?_
                  clear hKK
                  refine wpAnyIn_ready (rs := [19]) (by kernel_rfl) (by simp) (AllReadyIn.cons rfl (fun K' hKK => ?_) AllReadyIn.nil)
                  go_simp
                  refine hKK _ _ ?_
                  clear hKK
                  refine wpAnyIn_ready (rs := [21]) (by kernel_rfl) (by simp) (AllReadyIn.cons rfl (fun K' hKK => ?_) AllReadyIn.nil)
                  go_simp
                  refine hKK _ _ ?_
                  clear hKK
                  refine wpAnyIn_ready (rs := [22]) (by kernel_rfl) (by simp) (AllReadyIn.cons rfl (fun K' hKK => ?_) AllReadyIn.nil)
                  go_simp
                  refine hKK _ _ ?_
                  clear hKK
                  refine wpAnyIn_done (by kernel_rfl) ?_ _
                  go_wp2_with fail
                  go_meet
                  exact ⟨rfl, rfl, HTR3⟩
              case rest =>
                obtain ⟨rfl, rfl, HTR4⟩ := hcut
                have hk40 : k ≤ 40 := by have := H40.out; have := HNE.out; have := HK.out; omega
                have w1 : IntKind.i64.wrap ((k : Int) + 1) = (k : Int) + 1 := IntWalk.i64_in _ (by omega)
                clear HTR HTR2
                go_wp2_with (first | (at_builtin; refine wpList_append_own_at _ rfl (.tmp 131) (.tmp 133) _ rfl W3.heap.size 3 i0 (.int .i64 0) 1 8 Try.underlying37 hi0 hz0 hz1 hz2 rfl (by decide) _ k _ rfl (World.ownsRow.alloc HTR4.out.o1 _) ⟨wc.heap.size, 0, none⟩ 1 1 [.int .i64 dk] rfl rfl (cell_one_new _ _ _) (by simp [Value.oneCell']) (by unfold maxLen; omega) (by omega) (by have := HTR4.out.bel.size; simp; omega) ?_; intro u' z1 hown hg _ hb; have HT5 := Lib.hid (HTR4.out.first HDK.out hown hg hb); clear hown hg hb) |
                  (at_builtin; refine wpList_append_own_at _ rfl (.tmp 135) (.tmp 137) _ rfl W3.heap.size 3 i0 (.int .i64 0) 1 8 Try.underlying37 hi0 hz0 hz1 hz2 rfl (by decide) _ k _ rfl (World.ownsRow.alloc HT5.out.o2 _) ⟨z1.heap.size, 0, none⟩ 1 1 [.int .i64 mk] rfl rfl (cell_one_new _ _ _) (by simp [Value.oneCell']) (by unfold maxLen; omega) (by omega) (by have := HT5.out.bel.size; simp; omega) ?_; intro v' z2 hown hg _ hb; have HT6 := Lib.hid (HT5.out.second HMK.out hown hg hb); clear hown hg hb))
                go_roundw
                case rel => exact ⟨k + 1, u', v', _, _, by omega, rfl, by rw [HDK.out]; rfl, rfl, rfl, by simp, rfl, rfl, HT6⟩
                case measure => have := HK.out; simp [intOf]; omega
          · obtain ⟨n1, hn1⟩ : ∃ n1 : Nat, n1 = l.length + 1 := ⟨_, rfl⟩
            obtain rfl : k = n1 := by omega
            have hki : ¬ (k : Int) ≤ (l.length : Int) := by omega
            rw [HNE.out, ← hn1] at HUN
            have hk41 : 1 ≤ k ∧ k ≤ 41 := by have := H40.out; have := HNE.out; omega
            have HK41 := Lib.hid hk41
            have hin1 := HTR.out.o1.in_
            have hin2 := HTR.out.o2.in_
            have HBW := Lib.hid (bt HB1.out HTR.out.bel)
            obtain ⟨x0, x1, x2, x3, x4, x5, x6⟩ := HTZ.out.below HTR.out.bel
            have zx := cell_lt x0
            have HZA := Lib.hid (HTA.out.below HTR.out.bel)
            obtain ⟨pu, cu, rfl, hu⟩ := hin1
            obtain ⟨pv, cv, rfl, hv⟩ := hin2
            have HUW := Lib.hid (HUN.out pv cv wr hv)
            have HU0 := Lib.hid hu
            have HV0 := Lib.hid hv
            clear hu hv HTR hlt hk hn1 HUN HTU HSH hi0 hz0 hz1 hz2 HL1
            go_wp2_with fail
            refine HUW.out.mono ?_
            rintro e wU ⟨g, rfl, hun, -, hbU⟩
            obtain ⟨bu, ou, rfl, hu⟩ := (HU0.out.below hbU).resolve_left (by omega)
            obtain ⟨bv, ov, rfl, hv⟩ := (HV0.out.below hbU).resolve_left (by omega)
            have HS0 : Hid (TurIn w wU c (uT c seed far b0 l) (trT far b0 l) (fun j => wrapS c (rouT c seed far b0 l j)) k g bu ou bv ov) := Lib.hid ⟨hun, hu, hv, HZA.out.below hbU, bt HBW.out hbU⟩
            clear hun hu hv hbU x0 x1 x2 x3 x4 x5 x6 zx HU0 HV0 HUW HZA HBW
            have hne : (k != k) = false := by simp
            go_wp2_with fail
            go_loopw [8, 22, 23, 24] (fun s8 s22 s23 s24 wx => ∃ (i : Nat) (v23 v24 : Value), i ≤ k ∧ s8 = .bool false ∧ s22 = .int .i64 (i : Int) ∧ s23 = v23 ∧ s24 = v24 ∧ Hid (TurIn w wx c (uT c seed far b0 l) (trT far b0 l) (fun j => wrapS c (rouT c seed far b0 l j)) k g bu ou bv ov)) (fun _ s22 _ _ _ => k - (intOf s22).toNat)
            case atStart => exact ⟨0, _, _, Nat.zero_le _, rfl, rfl, rfl, rfl, HS0⟩
            case round =>
              obtain ⟨i, v23, v24, hi, rfl, rfl, rfl, rfl, HS⟩ := hrel
              by_cases hlt : i < k
              · have hii : (i : Int) < k := by omega
                have HI := Lib.hid hlt
                go_wp2_with fail
                generalize wr = W5 at *
                go_loopw [8, 23, 24] (fun s8 s23 s24 wx => ∃ (j : Nat) (v24 : Value), j ≤ i ∧ s8 = .bool false ∧ s23 = .int .i64 (j : Int) ∧ s24 = v24 ∧ Hid (TurIn w wx c (uT c seed far b0 l) (trT far b0 l) (fun j => wrapS c (rouT c seed far b0 l j)) k g bu ou bv ov)) (fun _ s23 _ _ => i - (intOf s23).toNat)
                case atStart => exact ⟨0, _, Nat.zero_le _, rfl, rfl, rfl, HS⟩
                case round =>
                  obtain ⟨j, v24, hj, rfl, rfl, rfl, HS2⟩ := hrel
                  by_cases hlt2 : j < i
                  · have hji : (j : Int) < i := by omega
                    have hjk : (j : Int) < k := by omega
                    have HJ := Lib.hid hlt2
                    have x0 := HS2.out.u i hlt
                    have x1 := HS2.out.u j (by omega)
                    have y0 := HS2.out.d i hlt
                    have y1 := HS2.out.d j (by omega)
                    have z0 := HS2.out.a.c0
                    rw [Nat.zero_add] at x0 x1
                    have zx := cell_lt x0
                    have zy := cell_lt y0
                    have zz := cell_lt z0
                    have h40 := HK41.out
                    obtain ⟨d0, u0⟩ := HTI.out.bd seed b0 l HBB.out i (by omega)
                    obtain ⟨d1, u1⟩ := HTI.out.bd seed b0 l HBB.out j (by omega)
                    have hap := HTI.out.apart seed b0 l i j
                    rw [← HFA.out] at hap
                    have hf := HCI.out.f
                    have hfb := fault_bd HCI.out
                    rw [← HFA.out] at hfb
                    generalize uT c seed far b0 l i = ui at *
                    generalize uT c seed far b0 l j = uj at *
                    generalize trT far b0 l i = di at *
                    generalize trT far b0 l j = dj at *
                    have hm := mul_bd c.f (di - dj) 1000 280000000000000 (by omega) (by omega)
                    have k1 : IntKind.i64.wrap (ui - uj) = ui - uj := IntWalk.i64_in _ (by omega)
                    have k2 : IntKind.i64.wrap (di - dj) = di - dj := IntWalk.i64_in _ (by omega)
                    obtain ⟨pp, hpp⟩ : ∃ pp, pp = c.f * (di - dj) := ⟨_, rfl⟩
                    rw [← hpp] at hm hap
                    have k3 : IntKind.i64.wrap (c.f * (di - dj)) = pp := by rw [← hpp]; exact IntWalk.i64_in _ (by omega)
                    obtain ⟨nn, hnn⟩ : ∃ nn, nn = ui - uj - pp := ⟨_, rfl⟩
                    rw [← hnn] at hap
                    have k4 : IntKind.i64.wrap (ui - uj - pp) = nn := by rw [← hnn]; exact IntWalk.i64_in _ (by omega)
                    have k5 : IntKind.i64.wrap (-2 * fa) = -2 * fa := IntWalk.i64_in _ (by omega)
                    have k6 : IntKind.i64.wrap (2 * fa) = 2 * fa := IntWalk.i64_in _ (by omega)
                    have j1 : ¬ nn < -2 * fa := by omega
                    have j2 : ¬ 2 * fa < nn := by omega
                    have w1 : IntKind.i64.wrap ((j : Int) + 1) = (j : Int) + 1 := IntWalk.i64_in _ (by omega)
                    clear d0 u0 d1 u1 hap hf hfb hm hpp hnn h40 hlt2
                    go_upto_region 31 with fail
                    go_quiet (fail)
                    go_wp2_with fail
                    go_roundw
                    case rel => exact ⟨j + 1, _, HJ.out, rfl, by simp, rfl, Lib.hid (HS2.out.below (below_drewN (Below.refl _ _) _))⟩
                    case measure => have := HJ.out; simp [intOf]; omega
                  · obtain rfl : j = i := by omega
                    have hji : ¬ (j : Int) < j := by omega
                    have x0 := HS2.out.u j HI.out
                    have y0 := HS2.out.m j HI.out
                    have z0 := HS2.out.a.c4
                    rw [Nat.zero_add] at x0
                    have zx := cell_lt x0
                    have zy := cell_lt y0
                    have zz := cell_lt z0
                    have h40 := HK41.out
                    obtain ⟨-, u0⟩ := HTI.out.bd seed b0 l HBB.out j (by have := HI.out; omega)
                    have hmd := HTI.out.turn seed b0 l j
                    have hwb := wrapS_bd HCI.out (rouT c seed far b0 l j)
                    have hr := HCI.out.r
                    generalize uT c seed far b0 l j = uj at *
                    generalize wrapS c (rouT c seed far b0 l j) = mj at *
                    have k1 : IntKind.i64.wrap (uj - mj) = uj - mj := IntWalk.i64_in _ (by omega)
                    have hre : (c.r == 0) = false := by simp; omega
                    have hrz : ¬ c.r = 0 := by omega
                    have w1 : IntKind.i64.wrap ((j : Int) + 1) = (j : Int) + 1 := IntWalk.i64_in _ (by omega)
                    clear u0 hwb hr h40 hlt2 hj hi
                    go_upto_region 34 with fail
                    go_quiet (fail)
                    go_wp2_with fail
                    go_roundw
                    case rel => exact ⟨j + 1, _, _, HI.out, rfl, by simp, rfl, rfl, Lib.hid (HS2.out.below (below_drewN (Below.refl _ _) _))⟩
                    case measure => have := HI.out; simp [intOf]; omega
              · obtain rfl : i = k := by omega
                have hii : ¬ (i : Int) < i := by omega
                go_wp2_with (go_at_call 7; refine (awake2_any _).mono ?_; rintro e w8 ⟨rfl, hb8⟩; have HB8 := Lib.hid (bt HS.out.bel hb8); clear hb8)
                go_ret
                exact ⟨rfl, HB8.out⟩
    · have hi40 : 40 < (l.length : Int) := by omega
      clear h40
      go_enter Try.func4, Try.ntmps4
      go_upto_region 2 with fail
      generalize (w.alloc (.cells #[.int .i64 c.f, .int .i64 c.o, .int .i64 c.j, .int .i64 c.g, .int .i64 c.r, .int .i64 c.d, .int .i64 c.i] 23)).alloc (.cells #[.int .i64 c.f, .int .i64 c.o, .int .i64 c.j, .int .i64 c.g, .int .i64 c.r, .int .i64 c.d, .int .i64 c.i] 25) = W0 at *
      obtain ⟨x0, x1, x2, x3, x4, x5, x6⟩ := HT.out.z
      have zx := cell_lt x0
      go_wp2_with (first | (go_at_call 6; refine (HCK.out _).mono ?_; rintro e w1 ⟨rfl, hb1⟩; have HT1 := Lib.hid (HT.out.below hb1); have HB1 := Lib.hid (bt HB.out hb1); clear hb1; obtain ⟨y0, y1, y2, y3, y4, y5, y6⟩ := HT1.out.a; have zy := cell_lt y0) | (go_at_call 7; refine (awake2_any _).mono ?_; rintro e w2 ⟨rfl, hb2⟩; have HB2 := Lib.hid (bt HB1.out hb2); clear hb2))
      go_ret
      exact ⟨rfl, HB2.out⟩
  · rw [show checkC c = 30 from if_neg hc] at HCK
    clear hc
    go_enter Try.func4, Try.ntmps4
    go_upto_region 2 with fail
    generalize (w.alloc (.cells #[.int .i64 c.f, .int .i64 c.o, .int .i64 c.j, .int .i64 c.g, .int .i64 c.r, .int .i64 c.d, .int .i64 c.i] 23)).alloc (.cells #[.int .i64 c.f, .int .i64 c.o, .int .i64 c.j, .int .i64 c.g, .int .i64 c.r, .int .i64 c.d, .int .i64 c.i] 25) = W0 at *
    obtain ⟨x0, x1, x2, x3, x4, x5, x6⟩ := HT.out.z
    have zx := cell_lt x0
    go_wp2_with (first | (go_at_call 6; refine (HCK.out _).mono ?_; rintro e w1 ⟨rfl, hb1⟩; have HB1 := Lib.hid (bt HB.out hb1); clear hb1) | (go_at_call 7; refine (awake2_any _).mono ?_; rintro e w2 ⟨rfl, hb2⟩; have HB2 := Lib.hid (bt HB1.out hb2); clear hb2))
    go_ret
    exact ⟨rfl, HB2.out⟩
end Go.Proofs.Ytildlfcbgiaopaa.Ct
