/- Layer 9 (calendar): Check of a table, and its parts. -/
import Derived.Test.YtgnfaemnehmgcaaGreatDoorQ02
import Derived.Test.YtgnfaemnehmgcaaGreatDoorQ01
namespace Go.Proofs.YtgnfaemnehmgcaaGreatDoor.Cal
open Go Go.RowKit
attribute [local go_sem] Oper.semAt_some
theorem qs {P : Program} {f : FuncId} {args : Array Value} {w : World} {r : Ending} (h : Calls P f args w fun e w' => e = r ∧ w = w') : Calls P f args w fun e w' => e = r ∧ w' = w := h.mono fun _ _ ⟨a, b⟩ => ⟨a, b.symm⟩
/-- leaps that may be read -/
def LpAt (w : World) (f : Nat → Int × Int) (n b o : Nat) : Prop := ∀ i, i < n → w.cell? ⟨b, o + i * 2, none⟩ = some (.int .i64 (f i).1) ∧ w.cell? ⟨b, o + i * 2 + 1, none⟩ = some (.int .i64 (f i).2)
theorem LpAt.below {w w' : World} {f : Nat → Int × Int} {n b o : Nat} (h : LpAt w f n b o) (hb : Below w.heap.size w w') : LpAt w' f n b o := fun i hi => ⟨cell_below hb (h i hi).1, cell_below hb (h i hi).2⟩
def LpIn (w : World) (f : Nat → Int × Int) (n : Nat) (p : Option Addr) : Prop := n = 0 ∨ ∃ b o, p = some ⟨b, o, none⟩ ∧ LpAt w f n b o
theorem LpIn.below {w w' : World} {f : Nat → Int × Int} {n : Nat} {p : Option Addr} (h : LpIn w f n p) (hb : Below w.heap.size w w') : LpIn w' f n p := h.imp id fun ⟨b, o, e, hi⟩ => ⟨b, o, e, hi.below hb⟩
/-- a table in a box -/
structure TBox (w : World) (a : Nat) (b u : Int) (n c : Nat) (p : Option Addr) : Prop where
  c0 : w.cell? ⟨a, 0, none⟩ = some (.int .i64 b)
  c1 : w.cell? ⟨a, 1, none⟩ = some (.slice p n c)
  c2 : w.cell? ⟨a, 2, none⟩ = some (.int .i64 u)
theorem TBox.below {w w' : World} {a : Nat} {b u : Int} {n c : Nat} {p : Option Addr} (h : TBox w a b u n c p) (hb : Below w.heap.size w w') : TBox w' a b u n c p := ⟨cell_below hb h.c0, cell_below hb h.c1, cell_below hb h.c2⟩
theorem TBox.new (w : World) (b u : Int) (n c : Nat) (p : Option Addr) (t : TypeId) : TBox (w.alloc (.cells #[.int .i64 b, .slice p n c, .int .i64 u] t)) w.heap.size b u n c p := ⟨by simp, by simp, by simp⟩
theorem endOfMonth_any (n : Int) (w : World) (hw : Mon w) (h : 41317 ≤ n ∧ n ≤ 88068) :
    Calls Tryz.prog 135 #[.int .i64 n] w fun e w' => e = .returned (.int .i64 (eom n)) ∧ w = w' := by
  have c := civ_is n h
  have h1 := c.d1
  have h2 := c.d2
  have h3 := dm_bd (yr n) (mo n)
  have h4 := c.y1
  have HC := Lib.hid (civil_any w hw c)
  have HM := Lib.hid (monthDays_any (yr n) (mo n) w hw (by omega) c.m1 c.m2)
  have HE := Lib.hid (show n - da n + dm (yr n) (mo n) = eom n from rfl)
  have k1 : IntKind.i64.wrap (n - da n) = n - da n := IntWalk.i64_in _ (by omega)
  have k2 : IntKind.i64.wrap (n - da n + dm (yr n) (mo n)) = n - da n + dm (yr n) (mo n) := IntWalk.i64_in _ (by omega)
  clear c h1 h2 h3 h4 h hw
  generalize dm (yr n) (mo n) = dd at *
  generalize da n = dn at *
  generalize yr n = yn at *
  go_enter Tryz.func135, Tryz.ntmps135
  go_wp2_with (first | (go_at_call 89; refine HC.out.mono ?_; rintro e w' ⟨rfl, rfl⟩) | (go_at_call 68; refine HM.out.mono ?_; rintro e w' ⟨rfl, rfl⟩))
  go_ret
  exact ⟨ret_i64 HE.out, rfl⟩
theorem isAllowed_any (d s : Int) (w : World) (hw : Mon w) :
    Calls Tryz.prog 92 #[.agg #[.int .i64 d, .int .i64 s]] w fun e w' => e = .returned (.bool (leapB d s)) ∧ Below w.heap.size w w' := by
  have A0 := below_alloc (Below.refl w.heap.size w) (.cells #[.int .i64 d, .int .i64 s] 33)
  have HW := Lib.hid (hw.below A0)
  have x0 : (w.alloc (.cells #[.int .i64 d, .int .i64 s] 33)).cell? ⟨w.heap.size, 0, none⟩ = some (.int .i64 d) := by simp
  have x1 : (w.alloc (.cells #[.int .i64 d, .int .i64 s] 33)).cell? ⟨w.heap.size, 1, none⟩ = some (.int .i64 s) := by simp
  have A0 := Lib.hid A0
  clear hw
  by_cases h1 : s = 1
  · subst h1
    cases hd : (decide (41317 ≤ d) && decide (d ≤ 88068))
    · have HV := Lib.hid (show leapB d 1 = true by unfold leapB; simp [hd])
      have HD := Lib.hid hd
      clear hd
      go_enter Tryz.func92, Tryz.ntmps92
      go_wp2_with fail
      generalize w.alloc (.cells #[.int .i64 d, .int .i64 1] 33) = W0 at *
      have z0 := cell_lt x0
      have HDC := Lib.hid (fun X => isDay_any d X)
      rw [HD.out] at HDC
      go_quiet ((go_at_call 79; exact Calls.quiet_of_same (qs (HDC.out _))))
      go_wp2
      go_ret
      exact ⟨ret_bool HV.out.symm, below_drewN A0.out _⟩
    · have hr : 41317 ≤ d ∧ d ≤ 88068 := by simpa using hd
      have HV := Lib.hid (show (d == eom d) = leapB d 1 by unfold leapB; simp [hr]; rw [Bool.eq_iff_iff]; simp)
      have HD := Lib.hid hd
      have HR := Lib.hid hr
      clear hd hr
      go_enter Tryz.func92, Tryz.ntmps92
      go_wp2_with fail
      generalize w.alloc (.cells #[.int .i64 d, .int .i64 1] 33) = W0 at *
      have z0 := cell_lt x0
      have HDC := Lib.hid (fun X => isDay_any d X)
      rw [HD.out] at HDC
      have HEC := Lib.hid (fun nq => endOfMonth_any d (W0.drewN nq) (HW.out.below (below_drewN (Below.refl _ _) _)) HR.out)
      generalize eom d = ed at *
      go_quiet (first | (go_at_call 79; exact Calls.quiet_of_same (qs (HDC.out _))) | (go_at_call 135; exact Calls.quiet_of_same (qs (HEC.out _))))
      go_wp2
      go_ret
      exact ⟨ret_bool HV.out, below_drewN A0.out _⟩
  · have n1 : (s == 1) = false := by simpa using h1
    by_cases h2 : s = -1
    · subst h2
      clear h1
      cases hd : (decide (41317 ≤ d) && decide (d ≤ 88068))
      · have HV := Lib.hid (show leapB d (-1) = true by unfold leapB; simp [hd])
        have HD := Lib.hid hd
        clear hd
        go_enter Tryz.func92, Tryz.ntmps92
        go_wp2_with fail
        generalize w.alloc (.cells #[.int .i64 d, .int .i64 (-1)] 33) = W0 at *
        have z0 := cell_lt x0
        have HDC := Lib.hid (fun X => isDay_any d X)
        rw [HD.out] at HDC
        go_quiet ((go_at_call 79; exact Calls.quiet_of_same (qs (HDC.out _))))
        go_wp2
        go_ret
        exact ⟨ret_bool HV.out.symm, below_drewN A0.out _⟩
      · have hr : 41317 ≤ d ∧ d ≤ 88068 := by simpa using hd
        have HV := Lib.hid (show (d == eom d) = leapB d (-1) by unfold leapB; simp [hr]; rw [Bool.eq_iff_iff]; simp)
        have HD := Lib.hid hd
        have HR := Lib.hid hr
        clear hd hr
        go_enter Tryz.func92, Tryz.ntmps92
        go_wp2_with fail
        generalize w.alloc (.cells #[.int .i64 d, .int .i64 (-1)] 33) = W0 at *
        have z0 := cell_lt x0
        have HDC := Lib.hid (fun X => isDay_any d X)
        rw [HD.out] at HDC
        have HEC := Lib.hid (fun nq => endOfMonth_any d (W0.drewN nq) (HW.out.below (below_drewN (Below.refl _ _) _)) HR.out)
        generalize eom d = ed at *
        go_quiet (first | (go_at_call 79; exact Calls.quiet_of_same (qs (HDC.out _))) | (go_at_call 135; exact Calls.quiet_of_same (qs (HEC.out _))))
        go_wp2
        go_ret
        exact ⟨ret_bool HV.out, below_drewN A0.out _⟩
    · have n2 : (s == -1) = false := by simpa using h2
      have HV := Lib.hid (show leapB d s = false by unfold leapB; simp [h1, h2])
      clear h1 h2
      go_enter Tryz.func92, Tryz.ntmps92
      go_wp2_with fail
      generalize w.alloc (.cells #[.int .i64 d, .int .i64 s] 33) = W0 at *
      have z0 := cell_lt x0
      go_quiet (fail)
      go_wp2
      go_ret
      exact ⟨ret_bool HV.out.symm, below_drewN A0.out _⟩
theorem knowsDay_any (b u d : Int) (n c : Nat) (p : Option Addr) (w : World) (hu : -9000000000000000000 ≤ u ∧ u ≤ 9000000000000000000) :
    Calls Tryz.prog 93 #[.agg #[.int .i64 b, .slice p n c, .int .i64 u], .int .i64 d] w fun e w' => e = .returned (.bool (dayK u d)) ∧ Below w.heap.size w w' := by
  have A0 := Lib.hid (below_alloc (Below.refl w.heap.size w) (.cells #[.int .i64 b, .slice p n c, .int .i64 u] 24))
  have k1 : IntKind.i64.wrap (u - 1) = u - 1 := IntWalk.i64_in _ (by omega)
  have HV := Lib.hid (show (decide (41317 ≤ d) && decide (d ≤ u - 1)) = dayK u d from rfl)
  go_enter Tryz.func93, Tryz.ntmps93
  go_wp2_with (go_at_call 67; refine (within_any _ _ _ _).mono ?_; rintro e w' ⟨rfl, rfl⟩)
  go_ret
  exact ⟨ret_bool HV.out, A0.out⟩
set_option maxHeartbeats 1000000 in
theorem Check_any (b u : Int) (n c : Nat) (p : Option Addr) (f : Nat → Int × Int) (w : World) (hw : Mon w) (hs : LpIn w f n p) (hn : n ≤ 1000000000000) :
    Calls Tryz.prog 33 #[.agg #[.int .i64 b, .slice p n c, .int .i64 u]] w fun e w' => e = .returned (.int .i64 (tabE b u n f)) ∧ Below w.heap.size w w' := by
  have A0 := below_alloc (Below.refl w.heap.size w) (.cells #[.int .i64 b, .slice p n c, .int .i64 u] 24)
  have HB := TBox.new w b u n c p 24
  obtain ⟨x0, x1, x2⟩ := HB
  have HBX := Lib.hid (TBox.new w b u n c p 24)
  have HW := Lib.hid (hw.below A0)
  have HS := Lib.hid (hs.below A0)
  have A0 := Lib.hid A0
  clear hw hs
  cases h1 : (decide (0 ≤ b) && decide (b ≤ 100))
  · have HV := Lib.hid (show tabE b u n f = 6 by unfold tabE tabB; simp [h1])
    have H1 := Lib.hid h1
    clear h1
    rw [HV.out]
    go_enter Tryz.func33, Tryz.ntmps33
    go_wp2_with (go_at_call 67; refine (within_any _ _ _ _).mono ?_; rintro e w' ⟨rfl, rfl⟩; rw [H1.out])
    go_ret
    exact ⟨rfl, A0.out⟩
  · cases h2 : (decide (41318 ≤ u) && decide (u ≤ 88069))
    · have HV := Lib.hid (show tabE b u n f = 6 by unfold tabE tabB; simp [h2])
      have H1 := Lib.hid h1
      have H2 := Lib.hid h2
      clear h1 h2
      rw [HV.out]
      go_enter Tryz.func33, Tryz.ntmps33
      go_wp2_with (go_at_call 67; refine (within_any _ _ _ _).mono ?_; rintro e w' ⟨rfl, rfl⟩; first | rw [H1.out] | rw [H2.out])
      go_ret
      exact ⟨rfl, A0.out⟩
    · have hub : 41318 ≤ u ∧ u ≤ 88069 := by simpa using h2
      have HTB := Lib.hid (show tabB b u = true by unfold tabB; rw [h1, h2]; rfl)
      have H1 := Lib.hid h1
      have H2 := Lib.hid h2
      clear h1 h2
      by_cases h3 : n ≤ 100
      · have h3i : ¬ (100 : Int) < n := by omega
        have HV := Lib.hid (show tabE b u n f = lErr u f n by unfold tabE; rw [if_pos HTB.out, if_pos h3])
        have H3 := Lib.hid h3
        clear h3
        rw [HV.out]
        go_enter Tryz.func33, Tryz.ntmps33
        go_wp2_with (go_at_call 67; refine (within_any _ _ _ _).mono ?_; rintro e w' ⟨rfl, rfl⟩; first | rw [H1.out] | rw [H2.out])
        generalize w.alloc (.cells #[.int .i64 b, .slice p n c, .int .i64 u] 24) = W0 at *
        go_loopw [2, 3, 5, 23, 27, 31, 37] (fun s2 s3 s5 s23 s27 s31 s37 wr => ∃ (k : Nat) (a5 a27 a31 a37 : Value), k ≤ n ∧ s2 = .int .i64 0 ∧ s3 = .int .i64 (if k = 0 then 0 else (f (k - 1)).1) ∧ s5 = a5 ∧ s23 = .int .i64 (k : Int) ∧ s27 = a27 ∧ s31 = a31 ∧ s37 = a37 ∧ Hid (lErr u f k = 0) ∧ Hid (Below W0.heap.size W0 wr)) (fun _ _ _ s _ _ _ _ => n - (intOf s).toNat)
        case atStart => exact ⟨0, _, _, _, _, Nat.zero_le _, rfl, rfl, rfl, rfl, rfl, rfl, rfl, Lib.hid rfl, Lib.hid (Below.refl _ _)⟩
        case round =>
          obtain ⟨k, a5, a27, a31, a37, hk, rfl, rfl, rfl, rfl, rfl, rfl, rfl, HL, HBW⟩ := hrel
          have hn3 := H3.out
          by_cases hlt : k < n
          · have hki : (k : Int) < n := by omega
            have vk : IntKind.i64.wrap ((k : Int) + 1) = (k : Int) + 1 := IntWalk.i64_in _ (by omega)
            obtain ⟨bb, oo, rfl, hsi⟩ := HS.out.resolve_left (by omega)
            obtain ⟨y0, y1⟩ := (hsi.below HBW.out) k hlt
            obtain ⟨x0, x1, x2⟩ := HBX.out.below HBW.out
            have zx := cell_lt x0
            have zy := cell_lt y0
            have HEF : Hid (lE u f k = if leapB (f k).1 (f k).2 = true then if dayK u (f k).1 = true then if (if k = 0 then 0 else (f (k - 1)).1) < (f k).1 then 0 else 11 else 6 else 91) := Lib.hid rfl
            have HAT := Lib.hid (fun h => lErr_at (u := u) (f := f) hlt HL.out h)
            have HSU := Lib.hid (show lE u f k = 0 → lErr u f (k + 1) = 0 from fun h => by rw [lErr, if_pos HL.out]; exact h)
            have HNX := Lib.hid (show (f k).1 = if k + 1 = 0 then 0 else (f (k + 1 - 1)).1 by rw [if_neg (by omega), Nat.add_sub_cancel])
            have HWX := Lib.hid (HW.out.below HBW.out)
            have hb1 := below_alloc (Below.refl wr.heap.size wr) (.cells #[.int .i64 (f k).1, .int .i64 (f k).2] 33)
            have q0 : (wr.alloc (.cells #[.int .i64 (f k).1, .int .i64 (f k).2] 33)).cell? ⟨wr.heap.size, 0, none⟩ = some (.int .i64 (f k).1) := by simp
            have q1 : (wr.alloc (.cells #[.int .i64 (f k).1, .int .i64 (f k).2] 33)).cell? ⟨wr.heap.size, 1, none⟩ = some (.int .i64 (f k).2) := by simp
            have HB1 := Lib.hid hb1
            have HK := Lib.hid hlt
            clear hlt hsi hb1
            generalize (f k).1 = dk at *
            generalize (f k).2 = sk at *
            generalize (if k = 0 then 0 else (f (k - 1)).1) = bk at *
            go_upto_region 9 with fail
            generalize wr.alloc (.cells #[.int .i64 dk, .int .i64 sk] 33) = W1 at *
            have zq := cell_lt q0
            have HAL := Lib.hid (isAllowed_any dk sk W1 (HWX.out.below HB1.out))
            have HBB := Lib.hid ((HBX.out.below HBW.out).below HB1.out)
            clear x0 x1 x2 zx y0 y1 zy
            cases cl : leapB dk sk
            · rw [cl] at HAL
              have HE := Lib.hid (show (91 : Int) = lErr u f n by
                have e : lE u f k = 91 := by rw [HEF.out, cl]; rfl
                rw [HAT.out (by rw [e]; decide), e])
              clear cl
              go_wp2_with (go_at_call 92; refine HAL.out.mono ?_; rintro e w2 ⟨rfl, hb2⟩; have HB2 := Lib.hid hb2; clear hb2)
              go_ret
              exact ⟨ret_i64 HE.out, bt (bt A0.out HBW.out) (bt HB1.out HB2.out)⟩
            · rw [cl] at HAL
              have HCL := Lib.hid cl
              clear cl
              go_upto_region 11 with (go_at_call 92; refine HAL.out.mono ?_; rintro e w2 ⟨rfl, hb2⟩; have HB2 := Lib.hid hb2; clear hb2)
              obtain ⟨x0, x1, x2⟩ := HBB.out.below HB2.out
              have zx := cell_lt x0
              have r0 := cell_below HB2.out q0
              have zr := cell_lt r0
              clear q0 q1 zq
              have HKD := Lib.hid (knowsDay_any b u dk n c (some ⟨bb, oo, none⟩) w2 (by omega))
              cases cd : dayK u dk
              · rw [cd] at HKD
                have HE := Lib.hid (show (6 : Int) = lErr u f n by
                  have e : lE u f k = 6 := by rw [HEF.out, HCL.out, cd]; rfl
                  rw [HAT.out (by rw [e]; decide), e])
                clear cd
                go_wp2_with (go_at_call 93; refine HKD.out.mono ?_; rintro e w3 ⟨rfl, hb3⟩; have HB3 := Lib.hid hb3; clear hb3)
                go_ret
                exact ⟨ret_i64 HE.out, bt (bt (bt A0.out HBW.out) (bt HB1.out HB2.out)) HB3.out⟩
              · rw [cd] at HKD
                have HCD := Lib.hid cd
                clear cd
                go_upto_region 13 with (go_at_call 93; refine HKD.out.mono ?_; rintro e w3 ⟨rfl, hb3⟩; have HB3 := Lib.hid hb3; clear hb3)
                have t0 := cell_below HB3.out r0
                have zt := cell_lt t0
                clear x0 x1 x2 zx r0 zr
                by_cases ch : bk < dk
                · have HE := Lib.hid (show lE u f k = 0 by rw [HEF.out, HCL.out, HCD.out, if_pos rfl, if_pos rfl, if_pos ch])
                  have hni : ¬ dk ≤ bk := by omega
                  go_wp2_with fail
                  go_roundw
                  case rel => exact ⟨k + 1, _, _, _, _, HK.out, rfl, by rw [← HNX.out], rfl, by simp, rfl, rfl, rfl, Lib.hid (HSU.out HE.out), Lib.hid (bt (bt HBW.out (bt HB1.out HB2.out)) HB3.out)⟩
                  case measure => have := HK.out; simp [intOf]; omega
                · have HE := Lib.hid (show (11 : Int) = lErr u f n by
                    have e : lE u f k = 11 := by rw [HEF.out, HCL.out, HCD.out, if_pos rfl, if_pos rfl, if_neg ch]
                    rw [HAT.out (by rw [e]; decide), e])
                  have hni : dk ≤ bk := by omega
                  go_wp2_with fail
                  go_ret
                  exact ⟨ret_i64 HE.out, bt (bt (bt A0.out HBW.out) (bt HB1.out HB2.out)) HB3.out⟩
          · obtain rfl : k = n := by omega
            have hki : ¬ ((k : Int) < k) := by omega
            have HE := Lib.hid HL.out.symm
            generalize (if k = 0 then 0 else (f (k - 1)).1) = bk at *
            go_wp2_with fail
            go_ret
            exact ⟨ret_i64 HE.out, bt A0.out HBW.out⟩
      · have h3i : (100 : Int) < n := by omega
        have HV := Lib.hid (show tabE b u n f = 2 by unfold tabE; rw [if_pos HTB.out, if_neg h3])
        clear h3
        rw [HV.out]
        go_enter Tryz.func33, Tryz.ntmps33
        go_wp2_with (go_at_call 67; refine (within_any _ _ _ _).mono ?_; rintro e w' ⟨rfl, rfl⟩; first | rw [H1.out] | rw [H2.out])
        go_ret
        exact ⟨rfl, A0.out⟩
end Go.Proofs.YtgnfaemnehmgcaaGreatDoor.Cal
