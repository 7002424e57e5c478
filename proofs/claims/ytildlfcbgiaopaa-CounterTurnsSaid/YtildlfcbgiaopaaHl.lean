/- The law CounterHolds. -/
import Derived.Test.YtildlfcbgiaopaaHp
import Derived.Test.YtildlfcbgiaopaaAk
namespace Go.Proofs.Ytildlfcbgiaopaa.Ct
open Go Go.RowKit Go.Shelf
attribute [local go_sem] Oper.semAt_some
theorem pick_any (a b : Int) (w : World) (hb : 1 ≤ b ∧ b ≤ 9223372036854775807) :
    Calls Try.prog 8 #[.int .i64 a, .int .i64 b] w fun e w' => e = .returned (.int .i64 (a % b)) ∧ w = w' := by
  have hm := tmod_bd a b hb.1
  have hlt : ¬ b < 1 := by omega
  have hne : (b == 0) = false := by simp; omega
  have hnz : ¬ b = 0 := by omega
  have k2 : IntKind.i64.wrap (a.tmod b) = a.tmod b := IntWalk.i64_in _ (by omega)
  by_cases h : a.tmod b < 0
  · have H := Lib.hid (modulo_neg a b hb.1 h)
    have k3 : IntKind.i64.wrap (a.tmod b + b) = a.tmod b + b := IntWalk.i64_in _ (by omega)
    clear hm
    go_enter Try.func8, Try.ntmps8
    go_wp2
    go_ret
    exact ⟨ret_i64 H.out, rfl⟩
  · have H := Lib.hid (modulo_pos a b hb.1 h)
    clear hm
    go_enter Try.func8, Try.ntmps8
    go_wp2
    go_ret
    exact ⟨ret_i64 H.out, rfl⟩
theorem pick_quiet (a b r : Int) (hb : 1 ≤ b ∧ b ≤ 9223372036854775807) (hr : a % b = r) (W : World) : Calls Try.prog 8 #[.int .i64 a, .int .i64 b] W fun e w' => e = .returned (.int .i64 r) ∧ w' = W :=
  (pick_any a b W hb).mono fun _ _ ⟨h1, h2⟩ => ⟨by rw [h1, hr], h2.symm⟩
/-- the reference's counter and the program's, each in its box -/
structure TwoC (X : World) (b : Nat) (c : Cnt) : Prop where
  a : CBox X b c
  z : CBox X (b + 1) c
theorem TwoC.below {X Y : World} {b : Nat} {c : Cnt} (h : TwoC X b c) (hb : Below X.heap.size X Y) : TwoC Y b c := ⟨h.a.below hb, h.z.below hb⟩
def twoW (w : World) (c : Cnt) : World := (w.alloc (.cells #[.int .i64 c.f, .int .i64 c.o, .int .i64 c.j, .int .i64 c.g, .int .i64 c.r, .int .i64 c.d, .int .i64 c.i] 23)).alloc (.cells #[.int .i64 c.f, .int .i64 c.o, .int .i64 c.j, .int .i64 c.g, .int .i64 c.r, .int .i64 c.d, .int .i64 c.i] 25)
theorem two_box (w : World) (c : Cnt) : TwoC (twoW w c) w.heap.size c ∧ Below w.heap.size w (twoW w c) := by
  have al : ∀ (Y : World) (o : Obj), (Y.alloc o).heap.size = Y.heap.size + 1 := fun Y o => by simp
  have k1 : ∀ (X : World) (t : TypeId), CBox (X.alloc (.cells #[.int .i64 c.f, .int .i64 c.o, .int .i64 c.j, .int .i64 c.g, .int .i64 c.r, .int .i64 c.d, .int .i64 c.i] t)) X.heap.size c := fun X t => ⟨by simp, by simp, by simp, by simp, by simp, by simp, by simp⟩
  have h2 := k1 (w.alloc (.cells #[.int .i64 c.f, .int .i64 c.o, .int .i64 c.j, .int .i64 c.g, .int .i64 c.r, .int .i64 c.d, .int .i64 c.i] 23)) 25
  rw [al] at h2
  exact ⟨⟨(k1 w _).below (below_alloc (Below.refl _ _) _), h2⟩, below_alloc (below_alloc (Below.refl _ _) _) _⟩
set_option maxRecDepth 100000 in
set_option maxHeartbeats 8000000 in
theorem holds_any (c : Cnt) (seed s d below above : Int) (w : World) :
    Calls Try.prog 3 #[cntVal c, .int .u64 seed, .int .i64 s, .int .i64 d, .int .i64 below, .int .i64 above] w fun e w' => e = .returned (.bool true) ∧ Below w.heap.size w w' := by
  obtain ⟨h2, hb⟩ := two_box w c
  have HT := Lib.hid h2
  have HB := Lib.hid hb
  have HCK := Lib.hid (fun W => check_any c W)
  unfold twoW at HT HB
  unfold cntVal at *
  clear h2 hb
  by_cases hc : cntB c = true
  · have HCI := Lib.hid (cntB_in hc)
    rw [show checkC c = 0 from if_pos hc] at HCK
    have HC0 := Lib.hid hc
    clear hc
    go_enter Try.func3, Try.ntmps3
    go_upto_region 2 with fail
    generalize (w.alloc (.cells #[.int .i64 c.f, .int .i64 c.o, .int .i64 c.j, .int .i64 c.g, .int .i64 c.r, .int .i64 c.d, .int .i64 c.i] 23)).alloc (.cells #[.int .i64 c.f, .int .i64 c.o, .int .i64 c.j, .int .i64 c.g, .int .i64 c.r, .int .i64 c.d, .int .i64 c.i] 25) = W0 at *
    obtain ⟨x0, x1, x2, x3, x4, x5, x6⟩ := HT.out.z
    have zx := cell_lt x0
    have hcd := HCI.out.d
    have hcr := r_even HCI.out
    have hcg := HCI.out.g
    have hcf := HCI.out.f
    have hd1 : ¬ c.d < 1 := by omega
    have hr2 : ¬ c.r < 2 := by omega
    go_upto_region 4 with (go_at_call 6; refine (HCK.out _).mono ?_; rintro e w1 ⟨rfl, hb1⟩; have HT1 := Lib.hid (HT.out.below hb1); have HB1 := Lib.hid (bt HB.out hb1); clear hb1; obtain ⟨y0, y1, y2, y3, y4, y5, y6⟩ := HT1.out.a; have zy := cell_lt y0)
    clear x0 x1 x2 x3 x4 x5 x6 zx hd1 hr2
    obtain ⟨q, hq⟩ : ∃ q, 1000000 / c.d = q := ⟨_, rfl⟩
    have hq0 : 0 ≤ q := by rw [← hq]; exact Int.ediv_nonneg (by decide) (by omega)
    have hq1 : q * c.d ≤ 1000000 := by rw [← hq]; exact Int.ediv_mul_le _ (by omega)
    have hq2 : q ≤ 1000000 := by rw [← hq]; exact Int.ediv_le_self _ (by decide)
    have hne : (c.d == 0) = false := by simp; omega
    have hnz : ¬ c.d = 0 := by omega
    have k1 : IntKind.i64.wrap (Int.tdiv 1000000 c.d) = q := by rw [Int.tdiv_eq_ediv_of_nonneg (by decide), hq]; exact IntWalk.i64_in _ (by omega)
    have k1b : IntKind.i64.wrap (1000000 / c.d) = q := by rw [hq]; exact IntWalk.i64_in _ (by omega)
    have k2 : IntKind.i64.wrap (q + 1) = q + 1 := IntWalk.i64_in _ (by omega)
    obtain ⟨s1, hs1⟩ : ∃ s1, s % (q + 1) = s1 := ⟨_, rfl⟩
    have hsb1 := Int.emod_nonneg s (show q + 1 ≠ 0 by omega)
    have hsb2 := Int.emod_lt_of_pos s (show 0 < q + 1 by omega)
    rw [hs1] at hsb1 hsb2
    have hm1 : 0 ≤ s1 * c.d := Int.mul_nonneg hsb1 (by omega)
    have hm2 : s1 * c.d ≤ q * c.d := Int.mul_le_mul_of_nonneg_right (by omega) (by omega)
    obtain ⟨s2, hs2⟩ : ∃ s2, s1 * c.d = s2 := ⟨_, rfl⟩
    have k3 : IntKind.i64.wrap (s1 * c.d) = s2 := by rw [hs2]; exact IntWalk.i64_in _ (by omega)
    have hmeet : meetB c s2 = true := by
      have e : s2 % c.d = 0 := by rw [← hs2]; exact Int.mul_emod_left _ _
      unfold meetB
      simp only [Bool.and_eq_true, decide_eq_true_eq]
      omega
    have HP1 := Lib.hid (pick_quiet s (q + 1) s1 (by omega) hs1)
    have HMT := Lib.hid hmeet
    have htm := tmod_bd d 1000000000000001 (by decide)
    obtain ⟨dd, hdd⟩ : ∃ dd, d.tmod 1000000000000001 = dd := ⟨_, rfl⟩
    rw [hdd] at htm
    have k4 : IntKind.i64.wrap dd = dd := IntWalk.i64_in _ (by omega)
    obtain ⟨pb, hpb⟩ : ∃ pb, below % 1000000000000 = pb := ⟨_, rfl⟩
    obtain ⟨pa, hpa⟩ : ∃ pa, above % 1000000000000 = pa := ⟨_, rfl⟩
    have HP2 := Lib.hid (pick_quiet below 1000000000000 pb (by decide) hpb)
    have HP3 := Lib.hid (pick_quiet above 1000000000000 pa (by decide) hpa)
    have hpb1 : 0 ≤ pb ∧ pb < 1000000000000 := by omega
    have hpa1 : 0 ≤ pa ∧ pa < 1000000000000 := by omega
    have k5 : IntKind.i64.wrap (dd - pb) = dd - pb := IntWalk.i64_in _ (by omega)
    have k6 : IntKind.i64.wrap (dd + pa) = dd + pa := IntWalk.i64_in _ (by omega)
    obtain ⟨lo, hlo⟩ : ∃ lo, (if dd - pb < -1000000000000000 then -1000000000000000 else dd - pb) = lo := ⟨_, rfl⟩
    obtain ⟨hi, hhi⟩ : ∃ hi, (if 1000000000000000 < dd + pa then 1000000000000000 else dd + pa) = hi := ⟨_, rfl⟩
    have HLH := Lib.hid (show (lo ≤ dd ∧ dd ≤ hi) ∧ -1000000000000000 ≤ lo ∧ hi ≤ 1000000000000000 ∧ -1000000000000000 ≤ dd ∧ dd ≤ 1000000000000000 by
      rw [← hlo, ← hhi]
      constructor
      · constructor <;> split <;> omega
      · refine ⟨?_, ?_, by omega, by omega⟩ <;> split <;> omega)
    clear hq hs1 hs2 hsb1 hsb2 hm1 hm2 hq0 hq1 hq2 hmeet hpb hpa hpb1 hpa1 htm hcd
    go_quiet ((go_at_call 8; exact Calls.quiet_of_same (HP1.out _)))
    clear k1 k1b k2 k3 HP1 hne hnz y0 y1 y2 y3 y4 y5 y6 zy HT HB
    have hbq := below_drewN (Below.refl w1.heap.size w1) nq
    have HT2 := Lib.hid (HT1.out.below hbq)
    have HB2 := Lib.hid (bt HB1.out hbq)
    clear hbq HT1 HB1
    generalize w1.drewN nq = W2 at *
    go_wp2_with fail
    refine (HP2.out _).mono ?_
    rintro e w2 ⟨rfl, hw⟩
    obtain rfl := hw.symm
    go_wp2_with fail
    refine (HP3.out _).mono ?_
    rintro e w3 ⟨rfl, hw⟩
    obtain rfl := hw.symm
    go_upto_region 7 with fail
    clear HP2 HP3 k4 k5 k6 hdd hlo hhi
    have hbx := below_alloc (Below.refl W2.heap.size W2) (.cells #[.int .i64 lo, .int .i64 hi] 31)
    have HS := Lib.hid (SpBox.new W2 lo hi 31)
    have HT3 := Lib.hid (HT2.out.below hbx)
    have HB3 := Lib.hid (bt HB2.out hbx)
    have HWL := Lib.hid (show w.heap.size + 1 < W2.heap.size from cell_lt HT2.out.z.c0)
    clear hbx HT2 HB2
    generalize W2.alloc (.cells #[.int .i64 lo, .int .i64 hi] 31) = W3 at *
    generalize W2.heap.size = bs at *
    have HSH := Lib.hid (show_any c seed s2 dd)
    rw [show showErr c s2 dd = 0 by unfold showErr; rw [if_pos HC0.out, if_pos HMT.out, if_pos HLH.out.2.2.2], if_pos rfl] at HSH
    unfold cntVal at HSH
    have HSB := Lib.hid (showB_bd HCI.out (shown_show HCI.out seed s2 dd))
    have hsb := shown_show HCI.out seed s2 dd
    have hgr := shown_grid HCI.out seed s2 dd
    have hfa := shown_far HCI.out seed s2 dd
    have hhp := holds_plain HCI.out seed s2 dd lo hi HLH.out.1 HLH.out.2.1 HLH.out.2.2.1
    have hrs : resolveS c (shownS c seed s2 dd) lo hi = resS c (shownS c seed s2 dd) lo hi := if_pos HC0.out
    rw [← hrs] at hhp
    unfold showB at hsb
    simp only [Bool.and_eq_true, decide_eq_true_eq] at hsb
    generalize shownS c seed s2 dd = m at *
    have HRS := Lib.hid (fun W => Resolve_any c m lo hi W)
    unfold cntVal at HRS
    obtain ⟨x0, x1, x2, x3, x4, x5, x6⟩ := HT3.out.z
    have zx := cell_lt x0
    go_wp2_with fail
    refine (HSH.out _).mono ?_
    rintro e w4 ⟨rfl, hb⟩
    have HT4 := Lib.hid (HT3.out.below hb)
    have HB4 := Lib.hid (bt HB3.out hb)
    have HS4 := Lib.hid (HS.out.below hb)
    clear hb
    go_upto_region 8 with fail
    clear x0 x1 x2 x3 x4 x5 x6 zx HT3 HB3 HS HSH
    obtain ⟨y0, y1, y2, y3, y4, y5, y6⟩ := HT4.out.a
    have zy := cell_lt y0
    have hsm := HSB.out
    have hro := HCI.out.r
    have hoo := HCI.out.o
    have hjj := HCI.out.j
    have hfd := mul_bd c.f dd 1000 1000000000000000 (by omega) HLH.out.2.2.2
    have hfb := fault_bd HCI.out
    have k1 : IntKind.i64.wrap (-c.r) = -c.r := IntWalk.i64_in _ (by omega)
    have k2 : wrap64 (-c.r.tdiv 2) = -(c.r / 2) := by rw [Int.tdiv_eq_ediv_of_nonneg (by omega)]; exact IntWalk.wrap64_in _ (by omega)
    have k3 : IntKind.i64.wrap (c.r.tdiv 2) = c.r / 2 := IntWalk.i64_quo c.r 2 (by omega)
    have k3b : IntKind.i64.wrap (c.r / 2) = c.r / 2 := IntWalk.i64_in _ (by omega)
    have j1 : ¬ m < -(c.r / 2) := by omega
    have j2 : ¬ c.r / 2 ≤ m := by omega
    have hgne : (c.g == 0) = false := by simp; omega
    have hgnz : ¬ c.g = 0 := by omega
    have k4 : IntKind.i64.wrap (m.tmod c.g) = 0 := by rw [hgr]; rfl
    go_upto_region 10 with fail
    clear k1 k2 k3 k3b k4 j1 j2 hgne hgnz hsb hgr
    have k1 : IntKind.i64.wrap (c.f * dd) = c.f * dd := IntWalk.i64_in _ (by omega)
    have k2 : IntKind.i64.wrap (c.f * dd + c.o) = c.f * dd + c.o := IntWalk.i64_in _ (by omega)
    have k3 : IntKind.i64.wrap (c.f * dd + c.o - m) = c.f * dd + c.o - m := IntWalk.i64_in _ (by omega)
    have hf1 := Int.emod_nonneg (c.f * dd + c.o - m) (show c.r ≠ 0 by omega)
    have hf2 := Int.emod_lt_of_pos (c.f * dd + c.o - m) (show 0 < c.r by omega)
    obtain ⟨far, hfar⟩ : ∃ far, (c.f * dd + c.o - m) % c.r = far := ⟨_, rfl⟩
    rw [hfar] at hfa hf1 hf2
    have HPF := Lib.hid (pick_any (c.f * dd + c.o - m) c.r w4 (by omega))
    rw [hfar] at HPF
    clear hfar
    go_upto_region 11 with (go_at_call 8; refine HPF.out.mono ?_; rintro e w5 ⟨rfl, rfl⟩)
    clear k1 k2 k3
    have k5 : IntKind.i64.wrap (c.g.tdiv 2) = c.g / 2 := IntWalk.i64_quo c.g 2 (by omega)
    have k5b : IntKind.i64.wrap (c.g / 2) = c.g / 2 := IntWalk.i64_in _ (by omega)
    have k6 : IntKind.i64.wrap (c.j + c.g / 2) = faultS c := IntWalk.i64_in _ (by omega)
    have k7 : IntKind.i64.wrap (c.r - far) = c.r - far := IntWalk.i64_in _ (by omega)
    have HFF : Hid (¬ (faultS c < far ∧ faultS c < c.r - far)) := Lib.hid hfa
    clear hfa
    go_upto_region 12 with fail
    generalize faultS c = fa at *
    clear k5 k5b k6
    go_cut [117] from 107 to 117 (fun sb wx => sb = .bool false ∧ Hid (TwoC wx w.heap.size c) ∧ Hid (Below w.heap.size w wx) ∧ Hid (SpBox wx bs lo hi))
    case first =>
      by_cases h1 : fa < far
      · have h2 : ¬ fa < c.r - far := fun h => HFF.out ⟨h1, h⟩
        go_wp2_with fail
        go_meet
        exact ⟨rfl, HT4, HB4, HS4⟩
      · go_wp2_with fail
        go_meet
        exact ⟨rfl, HT4, HB4, HS4⟩
    case rest =>
      obtain ⟨rfl, HT5, HB5, HS5⟩ := hcut
      clear y0 y1 y2 y3 y4 y5 y6 zy k7 HT4 HB4 HS4 HFF
      obtain ⟨x0, x1, x2, x3, x4, x5, x6⟩ := HT5.out.z
      have zx := cell_lt x0
      obtain ⟨z0, z1⟩ := HS5.out
      have zz := cell_lt z0
      obtain ⟨⟨⟨x, y⟩, e0⟩, hres⟩ : ∃ r, r = resolveS c m lo hi := ⟨_, rfl⟩
      rw [← hres] at HRS hhp
      unfold resVal spVal at HRS
      dsimp only at HRS
      have HHP := Lib.hid hhp
      clear hhp hres hrs
      go_wp2_with fail
      refine (HRS.out _).mono ?_
      rintro e w6 ⟨rfl, hb⟩
      clear x0 x1 x2 x3 x4 x5 x6 zx z0 z1 zz
      have hbx := below_alloc (Below.refl w6.heap.size w6) (.cells #[.int .i64 x, .int .i64 y] 31)
      have HB6 := Lib.hid (bt (bt HB5.out hb) hbx)
      have HS6 := Lib.hid ((HS5.out.below hb).below hbx)
      have HX6 := Lib.hid (SpBox.new w6 x y 31)
      clear hb hbx HT5 HB5 HS5
      go_upto_region 15 with fail
      generalize w6.alloc (.cells #[.int .i64 x, .int .i64 y] 31) = W7 at *
      generalize w6.heap.size = bx at *
      rcases HHP.out with h8 | ⟨x', y', he, q1, q2, q3, q4⟩
      · subst h8
        go_wp2_with (go_at_call 7; refine (awake2_any _).mono ?_; rintro e w8 ⟨rfl, hb8⟩; have HB8 := Lib.hid (bt HB6.out hb8); clear hb8)
        go_ret
        exact ⟨rfl, HB8.out⟩
      · cases he
        obtain ⟨z0, z1⟩ := HS6.out
        have zz := cell_lt z0
        obtain ⟨g0, g1⟩ := HX6.out
        have zg := cell_lt g0
        go_wp2_with (go_at_call 7; refine (awake2_any _).mono ?_; rintro e w8 ⟨rfl, hb8⟩; have HB8 := Lib.hid (bt HB6.out hb8); clear hb8)
        go_ret
        exact ⟨rfl, HB8.out⟩
  · rw [show checkC c = 30 from if_neg hc] at HCK
    clear hc
    go_enter Try.func3, Try.ntmps3
    go_upto_region 2 with fail
    generalize (w.alloc (.cells #[.int .i64 c.f, .int .i64 c.o, .int .i64 c.j, .int .i64 c.g, .int .i64 c.r, .int .i64 c.d, .int .i64 c.i] 23)).alloc (.cells #[.int .i64 c.f, .int .i64 c.o, .int .i64 c.j, .int .i64 c.g, .int .i64 c.r, .int .i64 c.d, .int .i64 c.i] 25) = W0 at *
    obtain ⟨x0, x1, x2, x3, x4, x5, x6⟩ := HT.out.z
    have zx := cell_lt x0
    go_wp2_with (first | (go_at_call 6; refine (HCK.out _).mono ?_; rintro e w1 ⟨rfl, hb1⟩; have HB1 := Lib.hid (bt HB.out hb1); clear hb1) | (go_at_call 7; refine (awake2_any _).mono ?_; rintro e w2 ⟨rfl, hb2⟩; have HB2 := Lib.hid (bt HB1.out hb2); clear hb2))
    go_ret
    exact ⟨rfl, HB2.out⟩
end Go.Proofs.Ytildlfcbgiaopaa.Ct
