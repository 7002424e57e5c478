/-  ·  -/
import Derived.Test.YtgnfaemnehmgcaaGreatDoorQ02
import Derived.Test.YtgnfaemnehmgcaaGreatDoorQ01
import Derived.Maps.OwnOps
import Derived.Maps.Views
namespace Go.Proofs.YtgnfaemnehmgcaaGreatDoor.Cal
open Go Go.RowKit
attribute [local go_sem] Oper.semAt_some
theorem qs {P : Program} {f : FuncId} {args : Array Value} {w : World} {r : Ending} (h : Calls P f args w fun e w' => e = r ∧ w = w') : Calls P f args w fun e w' => e = r ∧ w' = w := h.mono fun _ _ ⟨a, b⟩ => ⟨a, b.symm⟩
def LpAt (w : World) (f : Nat → Int × Int) (n b o : Nat) : Prop := ∀ i, i < n → w.cell? ⟨b, o + i * 2, none⟩ = some (.int .i64 (f i).1) ∧ w.cell? ⟨b, o + i * 2 + 1, none⟩ = some (.int .i64 (f i).2)
theorem LpAt.below {w w' : World} {f : Nat → Int × Int} {n b o : Nat} (h : LpAt w f n b o) (hb : Below w.heap.size w w') : LpAt w' f n b o := fun i hi => ⟨cell_below hb (h i hi).1, cell_below hb (h i hi).2⟩
def LpIn (w : World) (f : Nat → Int × Int) (n : Nat) (p : Option Addr) : Prop := n = 0 ∨ ∃ b o, p = some ⟨b, o, none⟩ ∧ LpAt w f n b o
theorem LpIn.below {w w' : World} {f : Nat → Int × Int} {n : Nat} {p : Option Addr} (h : LpIn w f n p) (hb : Below w.heap.size w w') : LpIn w' f n p := h.imp id fun ⟨b, o, e, hi⟩ => ⟨b, o, e, hi.below hb⟩
structure TBox (w : World) (a : Nat) (b u : Int) (n c : Nat) (p : Option Addr) : Prop where
  c0 : w.cell? ⟨a, 0, none⟩ = some (.int .i64 b)
  c1 : w.cell? ⟨a, 1, none⟩ = some (.slice p n c)
  c2 : w.cell? ⟨a, 2, none⟩ = some (.int .i64 u)
theorem TBox.below {w w' : World} {a : Nat} {b u : Int} {n c : Nat} {p : Option Addr} (h : TBox w a b u n c p) (hb : Below w.heap.size w w') : TBox w' a b u n c p := ⟨cell_below hb h.c0, cell_below hb h.c1, cell_below hb h.c2⟩
theorem TBox.new (w : World) (b u : Int) (n c : Nat) (p : Option Addr) (t : TypeId) : TBox (w.alloc (.cells #[.int .i64 b, .slice p n c, .int .i64 u] t)) w.heap.size b u n c p := ⟨by simp, by simp, by simp⟩
theorem endOfMonth_any (n : Int) (w : World) (hw : Mon w) (h : 41317 ≤ n ∧ n ≤ 88068) :
    Calls Tryz.prog 135 #[.int .i64 n] w fun e w' => e = .returned (.int .i64 (eom n)) ∧ w = w' := by
  have c := civ_is n h
  have h1 := c.d1
  have h2 := c.d2
  have h3 := dm_bd (yr n) (mo n)
  have h4 := c.y1
  have HC := Lib.hid (civil_any w hw c)
  have HM := Lib.hid (monthDays_any (yr n) (mo n) w hw (by omega) c.m1 c.m2)
  have HE := Lib.hid (show n - da n + dm (yr n) (mo n) = eom n from rfl)
  have k1 : IntKind.i64.wrap (n - da n) = n - da n := IntWalk.i64_in _ (by omega)
  have k2 : IntKind.i64.wrap (n - da n + dm (yr n) (mo n)) = n - da n + dm (yr n) (mo n) := IntWalk.i64_in _ (by omega)
  clear c h1 h2 h3 h4 h hw
  generalize dm (yr n) (mo n) = dd at *
  generalize da n = dn at *
  generalize yr n = yn at *
  go_enter Tryz.func135, Tryz.ntmps135
  go_wp2_with (first | (go_at_call 89; refine HC.out.mono ?_; rintro e w' ⟨rfl, rfl⟩) | (go_at_call 68; refine HM.out.mono ?_; rintro e w' ⟨rfl, rfl⟩))
  go_ret
  exact ⟨ret_i64 HE.out, rfl⟩
theorem isAllowed_any (d s : Int) (w : World) (hw : Mon w) :
    Calls Tryz.prog 92 #[.agg #[.int .i64 d, .int .i64 s]] w fun e w' => e = .returned (.bool (leapB d s)) ∧ Below w.heap.size w w' := by
  have A0 := below_alloc (Below.refl w.heap.size w) (.cells #[.int .i64 d, .int .i64 s] 33)
  have HW := Lib.hid (hw.below A0)
  have x0 : (w.alloc (.cells #[.int .i64 d, .int .i64 s] 33)).cell? ⟨w.heap.size, 0, none⟩ = some (.int .i64 d) := by simp
  have x1 : (w.alloc (.cells #[.int .i64 d, .int .i64 s] 33)).cell? ⟨w.heap.size, 1, none⟩ = some (.int .i64 s) := by simp
  have A0 := Lib.hid A0
  clear hw
  by_cases h1 : s = 1
  · subst h1
    cases hd : (decide (41317 ≤ d) && decide (d ≤ 88068))
    · have HV := Lib.hid (show leapB d 1 = true by unfold leapB; simp [hd])
      have HD := Lib.hid hd
      clear hd
      go_enter Tryz.func92, Tryz.ntmps92
      go_wp2_with fail
      generalize w.alloc (.cells #[.int .i64 d, .int .i64 1] 33) = W0 at *
      have z0 := cell_lt x0
      have HDC := Lib.hid (fun X => isDay_any d X)
      rw [HD.out] at HDC
      go_quiet ((go_at_call 79; exact Calls.quiet_of_same (qs (HDC.out _))))
      go_wp2
      go_ret
      exact ⟨ret_bool HV.out.symm, below_drewN A0.out _⟩
    · have hr : 41317 ≤ d ∧ d ≤ 88068 := by simpa using hd
      have HV := Lib.hid (show (d == eom d) = leapB d 1 by unfold leapB; simp [hr]; rw [Bool.eq_iff_iff]; simp)
      have HD := Lib.hid hd
      have HR := Lib.hid hr
      clear hd hr
      go_enter Tryz.func92, Tryz.ntmps92
      go_wp2_with fail
      generalize w.alloc (.cells #[.int .i64 d, .int .i64 1] 33) = W0 at *
      have z0 := cell_lt x0
      have HDC := Lib.hid (fun X => isDay_any d X)
      rw [HD.out] at HDC
      have HEC := Lib.hid (fun nq => endOfMonth_any d (W0.drewN nq) (HW.out.below (below_drewN (Below.refl _ _) _)) HR.out)
      generalize eom d = ed at *
      go_quiet (first | (go_at_call 79; exact Calls.quiet_of_same (qs (HDC.out _))) | (go_at_call 135; exact Calls.quiet_of_same (qs (HEC.out _))))
      go_wp2
      go_ret
      exact ⟨ret_bool HV.out, below_drewN A0.out _⟩
  · have n1 : (s == 1) = false := by simpa using h1
    by_cases h2 : s = -1
    · subst h2
      clear h1
      cases hd : (decide (41317 ≤ d) && decide (d ≤ 88068))
      · have HV := Lib.hid (show leapB d (-1) = true by unfold leapB; simp [hd])
        have HD := Lib.hid hd
        clear hd
        go_enter Tryz.func92, Tryz.ntmps92
        go_wp2_with fail
        generalize w.alloc (.cells #[.int .i64 d, .int .i64 (-1)] 33) = W0 at *
        have z0 := cell_lt x0
        have HDC := Lib.hid (fun X => isDay_any d X)
        rw [HD.out] at HDC
        go_quiet ((go_at_call 79; exact Calls.quiet_of_same (qs (HDC.out _))))
        go_wp2
        go_ret
        exact ⟨ret_bool HV.out.symm, below_drewN A0.out _⟩
      · have hr : 41317 ≤ d ∧ d ≤ 88068 := by simpa using hd
        have HV := Lib.hid (show (d == eom d) = leapB d (-1) by unfold leapB; simp [hr]; rw [Bool.eq_iff_iff]; simp)
        have HD := Lib.hid hd
        have HR := Lib.hid hr
        clear hd hr
        go_enter Tryz.func92, Tryz.ntmps92
        go_wp2_with fail
        generalize w.alloc (.cells #[.int .i64 d, .int .i64 (-1)] 33) = W0 at *
        have z0 := cell_lt x0
        have HDC := Lib.hid (fun X => isDay_any d X)
        rw [HD.out] at HDC
        have HEC := Lib.hid (fun nq => endOfMonth_any d (W0.drewN nq) (HW.out.below (below_drewN (Below.refl _ _) _)) HR.out)
        generalize eom d = ed at *
        go_quiet (first | (go_at_call 79; exact Calls.quiet_of_same (qs (HDC.out _))) | (go_at_call 135; exact Calls.quiet_of_same (qs (HEC.out _))))
        go_wp2
        go_ret
        exact ⟨ret_bool HV.out, below_drewN A0.out _⟩
    · have n2 : (s == -1) = false := by simpa using h2
      have HV := Lib.hid (show leapB d s = false by unfold leapB; simp [h1, h2])
      clear h1 h2
      go_enter Tryz.func92, Tryz.ntmps92
      go_wp2_with fail
      generalize w.alloc (.cells #[.int .i64 d, .int .i64 s] 33) = W0 at *
      have z0 := cell_lt x0
      go_quiet (fail)
      go_wp2
      go_ret
      exact ⟨ret_bool HV.out.symm, below_drewN A0.out _⟩
theorem knowsDay_any (b u d : Int) (n c : Nat) (p : Option Addr) (w : World) (hu : -9000000000000000000 ≤ u ∧ u ≤ 9000000000000000000) :
    Calls Tryz.prog 93 #[.agg #[.int .i64 b, .slice p n c, .int .i64 u], .int .i64 d] w fun e w' => e = .returned (.bool (dayK u d)) ∧ Below w.heap.size w w' := by
  have A0 := Lib.hid (below_alloc (Below.refl w.heap.size w) (.cells #[.int .i64 b, .slice p n c, .int .i64 u] 24))
  have k1 : IntKind.i64.wrap (u - 1) = u - 1 := IntWalk.i64_in _ (by omega)
  have HV := Lib.hid (show (decide (41317 ≤ d) && decide (d ≤ u - 1)) = dayK u d from rfl)
  go_enter Tryz.func93, Tryz.ntmps93
  go_wp2_with (go_at_call 67; refine (within_any _ _ _ _).mono ?_; rintro e w' ⟨rfl, rfl⟩)
  go_ret
  exact ⟨ret_bool HV.out, A0.out⟩
set_option maxHeartbeats 1000000 in
theorem Check_any (b u : Int) (n c : Nat) (p : Option Addr) (f : Nat → Int × Int) (w : World) (hw : Mon w) (hs : LpIn w f n p) (hn : n ≤ 1000000000000) :
    Calls Tryz.prog 33 #[.agg #[.int .i64 b, .slice p n c, .int .i64 u]] w fun e w' => e = .returned (.int .i64 (tabE b u n f)) ∧ Below w.heap.size w w' := by
  have A0 := below_alloc (Below.refl w.heap.size w) (.cells #[.int .i64 b, .slice p n c, .int .i64 u] 24)
  have HB := TBox.new w b u n c p 24
  obtain ⟨x0, x1, x2⟩ := HB
  have HBX := Lib.hid (TBox.new w b u n c p 24)
  have HW := Lib.hid (hw.below A0)
  have HS := Lib.hid (hs.below A0)
  have A0 := Lib.hid A0
  clear hw hs
  cases h1 : (decide (0 ≤ b) && decide (b ≤ 100))
  · have HV := Lib.hid (show tabE b u n f = 6 by unfold tabE tabB; simp [h1])
    have H1 := Lib.hid h1
    clear h1
    rw [HV.out]
    go_enter Tryz.func33, Tryz.ntmps33
    go_wp2_with (go_at_call 67; refine (within_any _ _ _ _).mono ?_; rintro e w' ⟨rfl, rfl⟩; rw [H1.out])
    go_ret
    exact ⟨rfl, A0.out⟩
  · cases h2 : (decide (41318 ≤ u) && decide (u ≤ 88069))
    · have HV := Lib.hid (show tabE b u n f = 6 by unfold tabE tabB; simp [h2])
      have H1 := Lib.hid h1
      have H2 := Lib.hid h2
      clear h1 h2
      rw [HV.out]
      go_enter Tryz.func33, Tryz.ntmps33
      go_wp2_with (go_at_call 67; refine (within_any _ _ _ _).mono ?_; rintro e w' ⟨rfl, rfl⟩; first | rw [H1.out] | rw [H2.out])
      go_ret
      exact ⟨rfl, A0.out⟩
    · have hub : 41318 ≤ u ∧ u ≤ 88069 := by simpa using h2
      have HTB := Lib.hid (show tabB b u = true by unfold tabB; rw [h1, h2]; rfl)
      have H1 := Lib.hid h1
      have H2 := Lib.hid h2
      clear h1 h2
      by_cases h3 : n ≤ 100
      · have h3i : ¬ (100 : Int) < n := by omega
        have HV := Lib.hid (show tabE b u n f = lErr u f n by unfold tabE; rw [if_pos HTB.out, if_pos h3])
        have H3 := Lib.hid h3
        clear h3
        rw [HV.out]
        go_enter Tryz.func33, Tryz.ntmps33
        go_wp2_with (go_at_call 67; refine (within_any _ _ _ _).mono ?_; rintro e w' ⟨rfl, rfl⟩; first | rw [H1.out] | rw [H2.out])
        generalize w.alloc (.cells #[.int .i64 b, .slice p n c, .int .i64 u] 24) = W0 at *
        go_loopw [2, 3, 5, 23, 27, 31, 37] (fun s2 s3 s5 s23 s27 s31 s37 wr => ∃ (k : Nat) (a5 a27 a31 a37 : Value), k ≤ n ∧ s2 = .int .i64 0 ∧ s3 = .int .i64 (if k = 0 then 0 else (f (k - 1)).1) ∧ s5 = a5 ∧ s23 = .int .i64 (k : Int) ∧ s27 = a27 ∧ s31 = a31 ∧ s37 = a37 ∧ Hid (lErr u f k = 0) ∧ Hid (Below W0.heap.size W0 wr)) (fun _ _ _ s _ _ _ _ => n - (intOf s).toNat)
        case atStart => exact ⟨0, _, _, _, _, Nat.zero_le _, rfl, rfl, rfl, rfl, rfl, rfl, rfl, Lib.hid rfl, Lib.hid (Below.refl _ _)⟩
        case round =>
          obtain ⟨k, a5, a27, a31, a37, hk, rfl, rfl, rfl, rfl, rfl, rfl, rfl, HL, HBW⟩ := hrel
          have hn3 := H3.out
          by_cases hlt : k < n
          · have hki : (k : Int) < n := by omega
            have vk : IntKind.i64.wrap ((k : Int) + 1) = (k : Int) + 1 := IntWalk.i64_in _ (by omega)
            obtain ⟨bb, oo, rfl, hsi⟩ := HS.out.resolve_left (by omega)
            obtain ⟨y0, y1⟩ := (hsi.below HBW.out) k hlt
            obtain ⟨x0, x1, x2⟩ := HBX.out.below HBW.out
            have zx := cell_lt x0
            have zy := cell_lt y0
            have HEF : Hid (lE u f k = if leapB (f k).1 (f k).2 = true then if dayK u (f k).1 = true then if (if k = 0 then 0 else (f (k - 1)).1) < (f k).1 then 0 else 11 else 6 else 91) := Lib.hid rfl
            have HAT := Lib.hid (fun h => lErr_at (u := u) (f := f) hlt HL.out h)
            have HSU := Lib.hid (show lE u f k = 0 → lErr u f (k + 1) = 0 from fun h => by rw [lErr, if_pos HL.out]; exact h)
            have HNX := Lib.hid (show (f k).1 = if k + 1 = 0 then 0 else (f (k + 1 - 1)).1 by rw [if_neg (by omega), Nat.add_sub_cancel])
            have HWX := Lib.hid (HW.out.below HBW.out)
            have hb1 := below_alloc (Below.refl wr.heap.size wr) (.cells #[.int .i64 (f k).1, .int .i64 (f k).2] 33)
            have q0 : (wr.alloc (.cells #[.int .i64 (f k).1, .int .i64 (f k).2] 33)).cell? ⟨wr.heap.size, 0, none⟩ = some (.int .i64 (f k).1) := by simp
            have q1 : (wr.alloc (.cells #[.int .i64 (f k).1, .int .i64 (f k).2] 33)).cell? ⟨wr.heap.size, 1, none⟩ = some (.int .i64 (f k).2) := by simp
            have HB1 := Lib.hid hb1
            have HK := Lib.hid hlt
            clear hlt hsi hb1
            generalize (f k).1 = dk at *
            generalize (f k).2 = sk at *
            generalize (if k = 0 then 0 else (f (k - 1)).1) = bk at *
            go_upto_region 9 with fail
            generalize wr.alloc (.cells #[.int .i64 dk, .int .i64 sk] 33) = W1 at *
            have zq := cell_lt q0
            have HAL := Lib.hid (isAllowed_any dk sk W1 (HWX.out.below HB1.out))
            have HBB := Lib.hid ((HBX.out.below HBW.out).below HB1.out)
            clear x0 x1 x2 zx y0 y1 zy
            cases cl : leapB dk sk
            · rw [cl] at HAL
              have HE := Lib.hid (show (91 : Int) = lErr u f n by
                have e : lE u f k = 91 := by rw [HEF.out, cl]; rfl
                rw [HAT.out (by rw [e]; decide), e])
              clear cl
              go_wp2_with (go_at_call 92; refine HAL.out.mono ?_; rintro e w2 ⟨rfl, hb2⟩; have HB2 := Lib.hid hb2; clear hb2)
              go_ret
              exact ⟨ret_i64 HE.out, bt (bt A0.out HBW.out) (bt HB1.out HB2.out)⟩
            · rw [cl] at HAL
              have HCL := Lib.hid cl
              clear cl
              go_upto_region 11 with (go_at_call 92; refine HAL.out.mono ?_; rintro e w2 ⟨rfl, hb2⟩; have HB2 := Lib.hid hb2; clear hb2)
              obtain ⟨x0, x1, x2⟩ := HBB.out.below HB2.out
              have zx := cell_lt x0
              have r0 := cell_below HB2.out q0
              have zr := cell_lt r0
              clear q0 q1 zq
              have HKD := Lib.hid (knowsDay_any b u dk n c (some ⟨bb, oo, none⟩) w2 (by omega))
              cases cd : dayK u dk
              · rw [cd] at HKD
                have HE := Lib.hid (show (6 : Int) = lErr u f n by
                  have e : lE u f k = 6 := by rw [HEF.out, HCL.out, cd]; rfl
                  rw [HAT.out (by rw [e]; decide), e])
                clear cd
                go_wp2_with (go_at_call 93; refine HKD.out.mono ?_; rintro e w3 ⟨rfl, hb3⟩; have HB3 := Lib.hid hb3; clear hb3)
                go_ret
                exact ⟨ret_i64 HE.out, bt (bt (bt A0.out HBW.out) (bt HB1.out HB2.out)) HB3.out⟩
              · rw [cd] at HKD
                have HCD := Lib.hid cd
                clear cd
                go_upto_region 13 with (go_at_call 93; refine HKD.out.mono ?_; rintro e w3 ⟨rfl, hb3⟩; have HB3 := Lib.hid hb3; clear hb3)
                have t0 := cell_below HB3.out r0
                have zt := cell_lt t0
                clear x0 x1 x2 zx r0 zr
                by_cases ch : bk < dk
                · have HE := Lib.hid (show lE u f k = 0 by rw [HEF.out, HCL.out, HCD.out, if_pos rfl, if_pos rfl, if_pos ch])
                  have hni : ¬ dk ≤ bk := by omega
                  go_wp2_with fail
                  go_roundw
                  case rel => exact ⟨k + 1, _, _, _, _, HK.out, rfl, by rw [← HNX.out], rfl, by simp, rfl, rfl, rfl, Lib.hid (HSU.out HE.out), Lib.hid (bt (bt HBW.out (bt HB1.out HB2.out)) HB3.out)⟩
                  case measure => have := HK.out; simp [intOf]; omega
                · have HE := Lib.hid (show (11 : Int) = lErr u f n by
                    have e : lE u f k = 11 := by rw [HEF.out, HCL.out, HCD.out, if_pos rfl, if_pos rfl, if_neg ch]
                    rw [HAT.out (by rw [e]; decide), e])
                  have hni : dk ≤ bk := by omega
                  go_wp2_with fail
                  go_ret
                  exact ⟨ret_i64 HE.out, bt (bt (bt A0.out HBW.out) (bt HB1.out HB2.out)) HB3.out⟩
          · obtain rfl : k = n := by omega
            have hki : ¬ ((k : Int) < k) := by omega
            have HE := Lib.hid HL.out.symm
            generalize (if k = 0 then 0 else (f (k - 1)).1) = bk at *
            go_wp2_with fail
            go_ret
            exact ⟨ret_i64 HE.out, bt A0.out HBW.out⟩
      · have h3i : (100 : Int) < n := by omega
        have HV := Lib.hid (show tabE b u n f = 2 by unfold tabE; rw [if_pos HTB.out, if_neg h3])
        clear h3
        rw [HV.out]
        go_enter Tryz.func33, Tryz.ntmps33
        go_wp2_with (go_at_call 67; refine (within_any _ _ _ _).mono ?_; rintro e w' ⟨rfl, rfl⟩; first | rw [H1.out] | rw [H2.out])
        go_ret
        exact ⟨rfl, A0.out⟩
end Go.Proofs.YtgnfaemnehmgcaaGreatDoor.Cal
namespace Go.Proofs.YtgnfaemnehmgcaaGreatDoor.Cal
open Go Go.RowKit
attribute [local go_sem] Oper.semAt_some
theorem lawI : Maps.Keyed Tryz.prog 3 := Maps.int_keyed Tryz.underlying3
theorem zeroI (_w : World) : (zeroValue 3).run Tryz.prog _w = .ok (.int .i64 0) _w := by kernel_rfl
def StM (w : World) (b : Nat) (f : Nat → Int × Int) (n : Nat) : Prop :=
  ∃ D : DataW Unit, w.ownsMap Tryz.prog 3 (plainElem Tryz.prog 3) b n D ∧ Maps.IsMap D ∧ ∀ d : Int, D.atKey (.int .i64 d) (.lit (.int .i64 0)) = .lit (.int .i64 (stepAt f n d))
theorem StM.kept {w w' : World} {b n : Nat} {f : Nat → Int × Int} {row : Option Nat} (h : StM w b f n) (hg : w.grownBy w' row) (hne : some b ≠ row) : StM w' b f n := by
  obtain ⟨D, h1, h2, h3⟩ := h
  exact ⟨D, h1.kept hg hne, h2, h3⟩
theorem Below.grownN {w w' : World} (h : Below w.heap.size w w') : w.grownBy w' none := ⟨h.os, h.tape, h.output, h.size, fun k hk _ => h.block k hk⟩
theorem StM.below {w w' : World} {b n : Nat} {f : Nat → Int × Int} (h : StM w b f n) (hb : Below w.heap.size w w') : StM w' b f n := h.kept (Below.grownN hb) (by simp)
theorem StM.put {w' : World} {b k : Nat} {f : Nat → Int × Int} {D : DataW Unit} (hm : Maps.IsMap D) (h : ∀ d : Int, D.atKey (.int .i64 d) (.lit (.int .i64 0)) = .lit (.int .i64 (stepAt f k d)))
    (ho : w'.ownsMap Tryz.prog 3 (plainElem Tryz.prog 3) b (k + 1) (D.put (.int .i64 (f k).1) (.lit (.int .i64 (f k).2)))) : StM w' b f (k + 1) := by
  refine ⟨_, ho, ?_, fun d => ?_⟩
  · obtain ⟨es, rfl⟩ := hm
    exact ⟨_, rfl⟩
  · by_cases e : (f k).1 = d
    · subst e
      rw [Maps.atKey_put_same hm (by simp [WideAt.IsKeyLit]), stepAt, if_pos rfl]
    · rw [Maps.atKey_put_other (fun q => e (by cases q; rfl)), h, stepAt, if_neg e]
theorem StM.look {w : World} {b n : Nat} {f : Nat → Int × Int} (h : StM w b f n) (d : Int) (hd : (Lit.int .i64 d).wf = true) :
    (Instr.lookup 130 (.map (some b)) (.int .i64 d) false).run Tryz.prog w = .ok (.int .i64 (stepAt f n d)) w := by
  obtain ⟨D, h1, h2, h3⟩ := h
  obtain ⟨c, hrun, hat, _⟩ := h1.lookup_int lawI Tryz.underlying130 Tryz.underlying3 (zeroI _) (Maps.keyOf_int_mk Tryz.underlying3 hd)
  rw [h3] at hat
  have e : stepAt f n d = c := by
    generalize stepAt f n d = s at hat
    cases hat; rfl
  rw [e]; exact hrun
structure WBox (w : World) (a : Nat) (b u : Int) (n c : Nat) (p : Option Addr) (mb : Nat) : Prop extends TBox w a b u n c p where
  c3 : w.cell? ⟨a, 3, none⟩ = some (.map (some mb))
theorem WBox.below {w w' : World} {a : Nat} {b u : Int} {n c : Nat} {p : Option Addr} {mb : Nat} (h : WBox w a b u n c p mb) (hb : Below w.heap.size w w') : WBox w' a b u n c p mb := ⟨h.toTBox.below hb, cell_below hb h.c3⟩
theorem grown_cell {w w' : World} {b o : Nat} {v : Value} {r : Nat} (hg : w.grownBy w' (some r)) (hc : w.cell? ⟨b, o, none⟩ = some v) (hne : b ≠ r) : w'.cell? ⟨b, o, none⟩ = some v :=
  (World.cell?_of_block (w := w) (a := ⟨b, o, none⟩) (hg.block b (cell_lt hc) (fun e => hne (Option.some.inj e)))).trans hc
theorem grown_refl (w : World) (r : Option Nat) : w.grownBy w r := ⟨rfl, rfl, rfl, Nat.le_refl _, fun _ _ _ => rfl⟩
theorem grown_trans {a b c : World} {r : Option Nat} (h : a.grownBy b r) (k : b.grownBy c r) : a.grownBy c r :=
  ⟨k.os.trans h.os, k.tape.trans h.tape, k.output.trans h.output, Nat.le_trans h.size k.size, fun i hi hr => (k.block i (Nat.lt_of_lt_of_le hi h.size) hr).trans (h.block i hi hr)⟩
theorem grown_below {a b c : World} {r : Option Nat} (h : a.grownBy b r) (k : Below b.heap.size b c) : a.grownBy c r :=
  grown_trans h ⟨k.os, k.tape, k.output, k.size, fun i hi _ => k.block i hi⟩
theorem wf_big {z : Int} (h : -9000000000000000000 ≤ z ∧ z ≤ 9000000000000000000) : (Lit.int .i64 z).wf = true := WalkArith.wf_i64 (by omega)
theorem grown_frozen {w w' : World} {b o r : Nat} (hg : w.grownBy w' (some r)) (hb : b < w.heap.size) (hne : b ≠ r) (hf : w.frozen? ⟨b, o, none⟩ = false) : w'.frozen? ⟨b, o, none⟩ = false := by
  have := hg.block b hb (fun e => hne (Option.some.inj e))
  unfold World.frozen? at *
  simp only [this] at *
  exact hf
theorem grown_set (W : World) (b o : Nat) (v : Value) : W.grownBy (W.setCell ⟨b, o, none⟩ v) (some b) :=
  ⟨rfl, rfl, rfl, by simp, fun k _ hk => Below.heap_setCell _ _ _ k (fun e => hk (by rw [e]))⟩
structure Res4 (w : World) (a : Nat) : Prop where
  r0 : ∃ v, w.cell? ⟨a, 0, none⟩ = some v
  r1 : ∃ v, w.cell? ⟨a, 1, none⟩ = some v
  r2 : ∃ v, w.cell? ⟨a, 2, none⟩ = some v
  r3 : ∃ v, w.cell? ⟨a, 3, none⟩ = some v
  z : ∀ i, w.frozen? ⟨a, i, none⟩ = false
theorem Res4.lt {w : World} {a : Nat} (h : Res4 w a) : a < w.heap.size := let ⟨_, e⟩ := h.r0; cell_lt e
theorem Res4.new (w : World) (v0 v1 v2 v3 : Value) (t : TypeId) : Res4 (w.alloc (.cells #[v0, v1, v2, v3] t)) w.heap.size := ⟨⟨v0, by simp⟩, ⟨v1, by simp⟩, ⟨v2, by simp⟩, ⟨v3, by simp⟩, fun i => by simp⟩
theorem Res4.below {w w' : World} {a : Nat} (h : Res4 w a) (hb : Below w.heap.size w w') : Res4 w' a :=
  ⟨h.r0.imp fun _ e => cell_below hb e, h.r1.imp fun _ e => cell_below hb e, h.r2.imp fun _ e => cell_below hb e, h.r3.imp fun _ e => cell_below hb e, fun i => (hb.frozen (p := ⟨a, i, none⟩) h.lt).trans (h.z i)⟩
theorem Res4.grown {w w' : World} {a r : Nat} (h : Res4 w a) (hg : w.grownBy w' (some r)) (hne : a ≠ r) : Res4 w' a :=
  ⟨h.r0.imp fun _ e => grown_cell hg e hne, h.r1.imp fun _ e => grown_cell hg e hne, h.r2.imp fun _ e => grown_cell hg e hne, h.r3.imp fun _ e => grown_cell hg e hne, fun i => grown_frozen hg h.lt hne (h.z i)⟩
set_option maxHeartbeats 1000000 in
theorem open_ok (b u : Int) (n c : Nat) (p : Option Addr) (f : Nat → Int × Int) (w : World) (hw : Mon w) (hs : LpIn w f n p) (hn : n ≤ 1000000000000) (ht : tabE b u n f = 0) :
    Calls Tryz.prog 82 #[.agg #[.int .i64 b, .slice p n c, .int .i64 u]] w fun e w' => ∃ mb, e = .returned (.tuple #[.agg #[.int .i64 b, .slice p n c, .int .i64 u, .map (some mb)], .int .i64 0]) ∧ StM w' mb f n ∧ Below w.heap.size w w' := by
  have A1 := below_alloc (Below.refl w.heap.size w) (.cells #[.int .i64 b, .slice p n c, .int .i64 u] 24)
  have A2 := below_alloc A1 (.cells #[.int .i64 0, .slice none 0 0, .int .i64 0, .map none] 132)
  have HT1 := Lib.hid ((TBox.new w b u n c p 24).below (below_alloc (Below.refl _ _) (.cells #[.int .i64 0, .slice none 0 0, .int .i64 0, .map none] 132)))
  have hr0 := Res4.new (w.alloc (.cells #[.int .i64 b, .slice p n c, .int .i64 u] 24)) (.int .i64 0) (.slice none 0 0) (.int .i64 0) (.map none) 132
  rw [show (w.alloc (.cells #[.int .i64 b, .slice p n c, .int .i64 u] 24)).heap.size = w.heap.size + 1 by simp] at hr0
  have A2 := Lib.hid A2
  have HW1 := Lib.hid (hw.below A2.out)
  have HS1 := Lib.hid (hs.below A2.out)
  have HR := Lib.hid hr0
  have HT := Lib.hid ht
  have HSW := Lib.hid hs
  clear A1 hr0 hw hs ht
  have hmm := @run_makeMap Tryz.prog
  go_enter Tryz.func82, Tryz.ntmps82
  go_upto_region 1 with fail
  generalize (w.alloc (.cells #[.int .i64 b, .slice p n c, .int .i64 u] 24)).alloc (.cells #[.int .i64 0, .slice none 0 0, .int .i64 0, .map none] 132) = W1 at *
  obtain ⟨x0, x1, x2⟩ := HT1.out
  have zx := cell_lt x0
  have HCK := Lib.hid (Check_any b u n c p f W1 HW1.out HS1.out hn)
  rw [HT.out] at HCK
  go_upto_region 4 with (go_at_call 33; refine HCK.out.mono ?_; rintro e w2 ⟨rfl, hb2⟩; have HB2 := Lib.hid hb2; clear hb2)
  clear x0 x1 x2 zx
  obtain ⟨x0, x1, x2⟩ := HT1.out.below HB2.out
  have zx := cell_lt x0
  go_upto_region 5 with fail
  clear x0 x1 x2 zx
  have b5 := below_alloc (below_alloc (Below.refl w2.heap.size w2) (.map #[] 0)) (.cells #[.int .i64 b, .slice p n c, .int .i64 u, .map (some w2.heap.size)] 132)
  have HM5 := Lib.hid (show StM ((w2.alloc (.map #[] 0)).alloc (.cells #[.int .i64 b, .slice p n c, .int .i64 u, .map (some w2.heap.size)] 132)) w2.heap.size f 0 from ⟨_, (World.ownsMap_made w2 Tryz.prog 3 (plainElem Tryz.prog 3)).alloc _, Maps.isMap_empty, fun d => rfl⟩)
  have HWB := Lib.hid (show WBox ((w2.alloc (.map #[] 0)).alloc (.cells #[.int .i64 b, .slice p n c, .int .i64 u, .map (some w2.heap.size)] 132)) (w2.heap.size + 1) b u n c p w2.heap.size from ⟨⟨by simp, by simp, by simp⟩, by simp⟩)
  have hz5 : ((w2.alloc (.map #[] 0)).alloc (.cells #[.int .i64 b, .slice p n c, .int .i64 u, .map (some w2.heap.size)] 132)).heap.size = w2.heap.size + 1 + 1 := by simp
  have HB5 := Lib.hid (And.intro b5 hz5)
  have HT5 := Lib.hid ((HT1.out.below HB2.out).below b5)
  have HS5 := Lib.hid ((HS1.out.below HB2.out).below b5)
  have HR5 := Lib.hid ((HR.out.below HB2.out).below b5)
  clear b5 hz5
  generalize (w2.alloc (.map #[] 0)).alloc (.cells #[.int .i64 b, .slice p n c, .int .i64 u, .map (some w2.heap.size)] 132) = W5 at *
  obtain ⟨x0, x1, x2⟩ := HT5.out
  have zx := cell_lt x0
  go_wp2_with fail
  clear x0 x1 x2 zx
  have HOK := Lib.hid (tab_ok HT.out)
  have HSZ := Lib.hid (show w.heap.size + 1 < w2.heap.size from Nat.lt_of_lt_of_le HR.out.lt HB2.out.size)
  have HA5 := Lib.hid (bt (bt A2.out HB2.out) HB5.out.1)
  generalize hmb : w2.heap.size = mb at *
  have HMB := Lib.hid hmb
  clear hmb
  go_loopw [7, 20] (fun s7 s20 wr => ∃ (k : Nat) (v : Value), k ≤ n ∧ s7 = v ∧ s20 = .int .i64 (k : Int) ∧ Hid (W5.grownBy wr (some mb)) ∧ Hid (StM wr mb f k)) (fun _ s _ => n - (intOf s).toNat)
  case atStart => exact ⟨0, _, Nat.zero_le _, rfl, rfl, Lib.hid (grown_refl _ _), HM5⟩
  case round =>
    obtain ⟨k, v, hk, rfl, rfl, HG, HM⟩ := hrel
    by_cases hlt : k < n
    · have hki : (k : Int) < n := by omega
      have hnn := HOK.out.n1
      have vk : IntKind.i64.wrap ((k : Int) + 1) = (k : Int) + 1 := IntWalk.i64_in _ (by omega)
      obtain ⟨bb, oo, rfl, hsi⟩ := HS5.out.resolve_left (by omega)
      obtain ⟨b0, o0, e0, hs0⟩ := HSW.out.resolve_left (by omega)
      cases e0
      have hbb : bb < w.heap.size := cell_lt (hs0 k hlt).1
      have hsz := HSZ.out
      have y0 := grown_cell HG.out (hsi k hlt).1 (by omega)
      have y1 := grown_cell HG.out (hsi k hlt).2 (by omega)
      have zy := cell_lt y0
      have w3 := grown_cell HG.out HWB.out.c3 (by omega)
      have zw := cell_lt w3
      have hb1 := below_alloc (Below.refl wr.heap.size wr) (.cells #[.int .i64 (f k).1, .int .i64 (f k).2] 33)
      have q0 : (wr.alloc (.cells #[.int .i64 (f k).1, .int .i64 (f k).2] 33)).cell? ⟨wr.heap.size, 0, none⟩ = some (.int .i64 (f k).1) := by simp
      have q1 : (wr.alloc (.cells #[.int .i64 (f k).1, .int .i64 (f k).2] 33)).cell? ⟨wr.heap.size, 1, none⟩ = some (.int .i64 (f k).2) := by simp
      have u3 := cell_below hb1 w3
      have HB1 := Lib.hid hb1
      have HK := Lib.hid hlt
      obtain ⟨D, hown, hmap, hat⟩ := HM.out
      have HOWN := Lib.hid (hown.alloc (.cells #[.int .i64 (f k).1, .int .i64 (f k).2] 33))
      have HSTEP := Lib.hid (fun (w' : World) (h : w'.ownsMap Tryz.prog 3 (plainElem Tryz.prog 3) mb (k + 1) (D.put (.int .i64 (f k).1) (.lit (.int .i64 (f k).2)))) => StM.put hmap hat h)
      have hd := HOK.out.d1 k hlt
      have hst := HOK.out.s k hlt
      have hu2 := HOK.out.u2
      have WF1 := Lib.hid (wf_big (z := (f k).1) (by omega))
      have WF2 := Lib.hid (wf_big (z := (f k).2) (by omega))
      clear hlt hsi hs0 hb1 hown hat hd hst hu2 hnn hbb hsz w3 zw
      generalize (f k).1 = dk at *
      generalize (f k).2 = sk at *
      go_upto_region 8 with fail
      generalize wr.alloc (.cells #[.int .i64 dk, .int .i64 sk] 33) = W6 at *
      have zq := cell_lt q0
      have zu := cell_lt u3
      go_wp2_with (at_mapUpdate; refine wpList_mapUpdate_own _ rfl _ _ _ 130 rfl 3 3 lawI Tryz.underlying130 _ mb k D rfl HOWN.out (by unfold maxLen; omega) _ _ _ rfl rfl (Maps.keyOf_int_mk Tryz.underlying3 WF1.out) _ [] (plainElem_int Tryz.underlying3 WF2.out) ?_; intro w7 hown7 hgrow7; have HOWN7 := Lib.hid hown7; have HG7 := Lib.hid hgrow7; clear hown7 hgrow7)
      go_roundw
      case rel => exact ⟨k + 1, _, HK.out, rfl, by simp, Lib.hid (grown_trans (grown_below HG.out HB1.out) HG7.out), Lib.hid (HSTEP.out _ HOWN7.out)⟩
      case measure => have := HK.out; simp [intOf]; omega
    · obtain rfl : k = n := by omega
      have hki : ¬ ((k : Int) < k) := by omega
      have hsz := HSZ.out
      have w0 := grown_cell HG.out HWB.out.c0 (by omega)
      have w1 := grown_cell HG.out HWB.out.c1 (by omega)
      have w2' := grown_cell HG.out HWB.out.c2 (by omega)
      have w3 := grown_cell HG.out HWB.out.c3 (by omega)
      have zw := cell_lt w0
      obtain ⟨⟨v0, r0⟩, ⟨v1, r1⟩, ⟨v2, r2⟩, ⟨v3, r3⟩, rz⟩ := HR5.out.grown HG.out (by omega)
      have z0 := rz 0
      have z1 := rz 1
      have z2 := rz 2
      have z3 := rz 3
      have zr := cell_lt r0
      have HAL := Lib.hid (Below.grown HA5.out HG.out HA5.out.size (fun j hj => by cases hj; omega))
      have HNE := Lib.hid (show w.heap.size + 1 ≠ mb by omega)
      clear rz hsz hlt hk
      go_wp2
      refine bodyPost_ret (v := .tuple #[.agg #[.int .i64 b, .slice p k c, .int .i64 u, .map (some mb)], .int .i64 0]) (by simp [results, Tryz.results82, go_sem, r0, r1, r2, r3]) rfl ⟨mb, rfl, ?_, ?_⟩
      · have st : ∀ (X : World) (o : Nat) (v : Value), StM X mb f k → StM (X.setCell ⟨w.heap.size + 1, o, none⟩ v) mb f k := fun X o v h => h.kept (grown_set X _ o v) (by simpa using HNE.out.symm)
        exact st _ _ _ (st _ _ _ (st _ _ _ (st _ _ _ HM.out)))
      · exact (((HAL.out.setCell (p := ⟨w.heap.size + 1, _, none⟩) (Nat.le_succ _) _).setCell (p := ⟨w.heap.size + 1, _, none⟩) (Nat.le_succ _) _).setCell (p := ⟨w.heap.size + 1, _, none⟩) (Nat.le_succ _) _).setCell (p := ⟨w.heap.size + 1, _, none⟩) (Nat.le_succ _) _
theorem open_no (b u : Int) (n c : Nat) (p : Option Addr) (f : Nat → Int × Int) (w : World) (hw : Mon w) (hs : LpIn w f n p) (hn : n ≤ 1000000000000) (ht : tabE b u n f ≠ 0) :
    Calls Tryz.prog 82 #[.agg #[.int .i64 b, .slice p n c, .int .i64 u]] w fun e w' => e = .returned (.tuple #[.agg #[.int .i64 0, .slice none 0 0, .int .i64 0, .map none], .int .i64 (tabE b u n f)]) ∧ Below w.heap.size w w' := by
  have A1 := below_alloc (Below.refl w.heap.size w) (.cells #[.int .i64 b, .slice p n c, .int .i64 u] 24)
  have A2 := below_alloc A1 (.cells #[.int .i64 0, .slice none 0 0, .int .i64 0, .map none] 132)
  have HT1 := Lib.hid ((TBox.new w b u n c p 24).below (below_alloc (Below.refl _ _) (.cells #[.int .i64 0, .slice none 0 0, .int .i64 0, .map none] 132)))
  have hr0 := Res4.new (w.alloc (.cells #[.int .i64 b, .slice p n c, .int .i64 u] 24)) (.int .i64 0) (.slice none 0 0) (.int .i64 0) (.map none) 132
  rw [show (w.alloc (.cells #[.int .i64 b, .slice p n c, .int .i64 u] 24)).heap.size = w.heap.size + 1 by simp] at hr0
  have A2 := Lib.hid A2
  have HW1 := Lib.hid (hw.below A2.out)
  have HS1 := Lib.hid (hs.below A2.out)
  have HR := Lib.hid hr0
  obtain ⟨er, her⟩ : ∃ er, tabE b u n f = er := ⟨_, rfl⟩
  rw [her] at ht ⊢
  have HT := Lib.hid her
  have hne : (er == 0) = false := by simpa using ht
  clear A1 hr0 hw hs her
  go_enter Tryz.func82, Tryz.ntmps82
  go_upto_region 1 with fail
  generalize (w.alloc (.cells #[.int .i64 b, .slice p n c, .int .i64 u] 24)).alloc (.cells #[.int .i64 0, .slice none 0 0, .int .i64 0, .map none] 132) = W1 at *
  obtain ⟨x0, x1, x2⟩ := HT1.out
  have zx := cell_lt x0
  have HCK := Lib.hid (Check_any b u n c p f W1 HW1.out HS1.out hn)
  rw [HT.out] at HCK
  go_upto_region 3 with (go_at_call 33; refine HCK.out.mono ?_; rintro e w2 ⟨rfl, hb2⟩; have HB2 := Lib.hid hb2; clear hb2)
  clear x0 x1 x2 zx
  obtain ⟨⟨v0, r0⟩, ⟨v1, r1⟩, ⟨v2, r2⟩, ⟨v3, r3⟩, rz⟩ := HR.out.below HB2.out
  have z0 := rz 0
  have z1 := rz 1
  have z2 := rz 2
  have z3 := rz 3
  have zr := cell_lt r0
  clear rz
  go_wp2
  refine bodyPost_ret (v := .tuple #[.agg #[.int .i64 0, .slice none 0 0, .int .i64 0, .map none], .int .i64 er]) (by simp [results, Tryz.results82, go_sem, r0, r1, r2, r3]) rfl ⟨rfl, ?_⟩
  exact ((((bt A2.out HB2.out).setCell (p := ⟨w.heap.size + 1, _, none⟩) (Nat.le_succ _) _).setCell (p := ⟨w.heap.size + 1, _, none⟩) (Nat.le_succ _) _).setCell (p := ⟨w.heap.size + 1, _, none⟩) (Nat.le_succ _) _).setCell (p := ⟨w.heap.size + 1, _, none⟩) (Nat.le_succ _) _
end Go.Proofs.YtgnfaemnehmgcaaGreatDoor.Cal
