/- Layer 9 (calendar), the reference: Check, step, grown, begin. (by gen_dx.py) -/
import Derived.Test.YtgnfaemnehmgcaaGreatDoorQ32
import Derived.Test.YtgnfaemnehmgcaaGreatDoorQ47
namespace Go.Proofs.YtgnfaemnehmgcaaGreatDoor.Cal
open Go Go.RowKit
attribute [local go_sem] Oper.semAt_some
theorem stepAt_hit {f : Nat → Int × Int} {d : Int} {k : Nat} : ∀ n : Nat, (∀ i j, i < j → j < n → (f i).1 < (f j).1) → k < n → (f k).1 = d → stepAt f n d = (f k).2
  | 0, _, hk, _ => by omega
  | n + 1, ho, hk, h => by
    rw [stepAt]
    by_cases e : k = n
    · subst e; rw [if_pos h]
    · have := ho k n (by omega) (by omega)
      rw [if_neg (by omega)]
      exact stepAt_hit n (fun i j h1 h2 => ho i j h1 (by omega)) (by omega) h

set_option maxHeartbeats 1000000 in
theorem rgrown_any {b u : Int} {n : Nat} {f : Nat → Int × Int} (ht : TabOk b u n f) (d : Int) (c : Nat) (p : Option Addr) (w : World) (hs : LpIn w f n p) :
    Calls Tryz.prog 98 #[.agg #[.int .i64 b, .slice p n c, .int .i64 u], .int .i64 d] w fun e w' => e = .returned (.int .i64 (growS f n d)) ∧ Below w.heap.size w w' := by
  have A0 := below_alloc (Below.refl w.heap.size w) (.cells #[.int .i64 b, .slice p n c, .int .i64 u] 55)
  obtain ⟨x0, x1, x2⟩ := TBox.new w b u n c p 55
  have HS := Lib.hid (hs.below A0)
  have A0 := Lib.hid A0
  have HT := Lib.hid ht
  clear hs ht
  go_enter Tryz.func98, Tryz.ntmps98
  go_upto_region 1 with fail
  generalize w.alloc (.cells #[.int .i64 b, .slice p n c, .int .i64 u] 55) = W1 at *
  have zx := cell_lt x0
  go_wp2_with fail
  go_loop [5, 6] (fun s5 s6 => ∃ k : Nat, k ≤ n ∧ s5 = .int .i64 (growS f k d) ∧ s6 = .int .i64 (k : Int)) (fun _ s => n - (intOf s).toNat)
  case atStart => exact ⟨0, Nat.zero_le _, rfl, rfl⟩
  case round =>
    obtain ⟨k, hk, rfl, rfl⟩ := hrel
    have hn1 := HT.out.n1
    by_cases hlt : k < n
    · have hki : (k : Int) < n := by omega
      have vk : IntKind.i64.wrap ((k : Int) + 1) = (k : Int) + 1 := IntWalk.i64_in _ (by omega)
      obtain ⟨bb, oo, rfl, hsi⟩ := HS.out.resolve_left (by omega)
      obtain ⟨y0, y1⟩ := hsi k hlt
      have zy := cell_lt y0
      have hgb : -(k : Int) ≤ growS f k d ∧ growS f k d ≤ k := by
        have hs := HT.out.s
        have : ∀ j : Nat, j ≤ n → -(j : Int) ≤ growS f j d ∧ growS f j d ≤ j := by
          intro j
          induction j with
          | zero => intro _; simp [growS]
          | succ j ih => intro hj; have := ih (by omega); have := hs j (by omega); rw [growS]; split <;> omega
        exact this k hk
      have hst := HT.out.s k hlt
      have va : IntKind.i64.wrap (growS f k d + (f k).2) = growS f k d + (f k).2 := IntWalk.i64_in _ (by omega)
      have HST : Hid (growS f (k + 1) d = growS f k d + if (f k).1 < d then (f k).2 else 0) := Lib.hid rfl
      have HK := Lib.hid hlt
      clear hlt hsi hgb hst hn1
      generalize (f k).1 = dk at *
      generalize (f k).2 = sk at *
      generalize growS f k d = gk at *
      by_cases hd : dk < d
      · have HE := Lib.hid (show gk + sk = growS f (k + 1) d by rw [HST.out, if_pos hd])
        go_wp2_with fail
        go_round
        case rel => exact ⟨k + 1, HK.out, by rw [HE.out], by simp⟩
        case measure => have := HK.out; simp [intOf]; omega
      · have HE := Lib.hid (show gk = growS f (k + 1) d by rw [HST.out, if_neg hd]; omega)
        go_wp2_with fail
        go_round
        case rel => exact ⟨k + 1, HK.out, by rw [← HE.out], by simp⟩
        case measure => have := HK.out; simp [intOf]; omega
    · obtain rfl : k = n := by omega
      have hki : ¬ ((k : Int) < k) := by omega
      clear hlt
      go_wp2_with fail
      go_ret
      exact ⟨rfl, A0.out⟩
set_option maxHeartbeats 1000000 in
theorem rstep_any {b u : Int} {n : Nat} {f : Nat → Int × Int} (ht : TabOk b u n f) (d : Int) (c : Nat) (p : Option Addr) (w : World) (hs : LpIn w f n p) :
    Calls Tryz.prog 100 #[.agg #[.int .i64 b, .slice p n c, .int .i64 u], .int .i64 d] w fun e w' => e = .returned (.int .i64 (stepAt f n d)) ∧ Below w.heap.size w w' := by
  have A0 := below_alloc (Below.refl w.heap.size w) (.cells #[.int .i64 b, .slice p n c, .int .i64 u] 55)
  obtain ⟨x0, x1, x2⟩ := TBox.new w b u n c p 55
  have HS := Lib.hid (hs.below A0)
  have A0 := Lib.hid A0
  have HT := Lib.hid ht
  clear hs ht
  go_enter Tryz.func100, Tryz.ntmps100
  go_upto_region 1 with fail
  generalize w.alloc (.cells #[.int .i64 b, .slice p n c, .int .i64 u] 55) = W1 at *
  have zx := cell_lt x0
  go_wp2_with fail
  go_loop [4, 5] (fun s4 s5 => ∃ k : Nat, k ≤ n ∧ s4 = .int .i64 0 ∧ s5 = .int .i64 (k : Int) ∧ Hid (∀ i, i < k → (f i).1 ≠ d)) (fun _ s => n - (intOf s).toNat)
  case atStart => exact ⟨0, Nat.zero_le _, rfl, rfl, Lib.hid (fun i hi => absurd hi (Nat.not_lt_zero _))⟩
  case round =>
    obtain ⟨k, hk, rfl, rfl, HN⟩ := hrel
    have hn1 := HT.out.n1
    by_cases hlt : k < n
    · have hki : (k : Int) < n := by omega
      have vk : IntKind.i64.wrap ((k : Int) + 1) = (k : Int) + 1 := IntWalk.i64_in _ (by omega)
      obtain ⟨bb, oo, rfl, hsi⟩ := HS.out.resolve_left (by omega)
      obtain ⟨y0, y1⟩ := hsi k hlt
      have zy := cell_lt y0
      have HK := Lib.hid hlt
      by_cases hd : (f k).1 = d
      · have HE := Lib.hid (show (f k).2 = stepAt f n d from (stepAt_hit n HT.out.o hlt hd).symm)
        have he : ((f k).1 == d) = true := by simpa using hd
        clear hlt hsi hn1 hd
        generalize (f k).1 = dk at *
        generalize (f k).2 = sk at *
        go_wp2_with fail
        go_ret
        exact ⟨ret_i64 HE.out, A0.out⟩
      · have he : ((f k).1 == d) = false := by simpa using hd
        have HND := Lib.hid hd
        clear hlt hsi hn1 hd
        generalize hdk : (f k).1 = dk at *
        have HDK := Lib.hid hdk
        clear hdk
        go_wp2_with fail
        go_round
        case rel => exact ⟨k + 1, HK.out, rfl, by simp, Lib.hid (fun i hi => by
          by_cases e : i = k
          · subst e; rw [HDK.out]; exact HND.out
          · exact HN.out i (by omega))⟩
        case measure => have := HK.out; simp [intOf]; omega
    · obtain rfl : k = n := by omega
      have hki : ¬ ((k : Int) < k) := by omega
      have HE := Lib.hid (show 0 = stepAt f k d from (stepAt_none k HN.out).symm)
      clear hlt
      go_wp2_with fail
      go_ret
      exact ⟨ret_i64 HE.out, A0.out⟩
theorem rbegin_any {b u : Int} {n : Nat} {f : Nat → Int × Int} (ht : TabOk b u n f) (d : Int) (c : Nat) (p : Option Addr) (w : World) (hs : LpIn w f n p) (hd : -1000000000000 ≤ d ∧ d ≤ 1000000000000) :
    Calls Tryz.prog 96 #[.agg #[.int .i64 b, .slice p n c, .int .i64 u], .int .i64 d] w fun e w' => e = .returned (.int .i64 (beginS f n d)) ∧ Below w.heap.size w w' := by
  have A0 := below_alloc (Below.refl w.heap.size w) (.cells #[.int .i64 b, .slice p n c, .int .i64 u] 55)
  obtain ⟨x0, x1, x2⟩ := TBox.new w b u n c p 55
  have HG := Lib.hid (rgrown_any ht d c p _ (hs.below A0))
  have A0 := Lib.hid A0
  have hgb := ht.grow_bd d
  have v1 : IntKind.i64.wrap (d - 41317) = d - 41317 := IntWalk.i64_in _ (by omega)
  have v2 : IntKind.i64.wrap (86400 * (d - 41317)) = 86400 * (d - 41317) := IntWalk.i64_in _ (by omega)
  have v3 : IntKind.i64.wrap (86400 * (d - 41317) + growS f n d) = 86400 * (d - 41317) + growS f n d := IntWalk.i64_in _ (by omega)
  have HE := Lib.hid (show 86400 * (d - 41317) + growS f n d = beginS f n d from rfl)
  clear hs ht hgb hd
  generalize growS f n d = gg at *
  go_enter Tryz.func96, Tryz.ntmps96
  go_upto_region 1 with fail
  generalize w.alloc (.cells #[.int .i64 b, .slice p n c, .int .i64 u] 55) = W1 at *
  have zx := cell_lt x0
  go_wp2_with (go_at_call 98; refine HG.out.mono ?_; rintro e w2 ⟨rfl, hb2⟩; have HB2 := Lib.hid hb2; clear hb2)
  go_ret
  exact ⟨ret_i64 HE.out, bt A0.out HB2.out⟩

set_option maxHeartbeats 2000000 in
theorem rCheck_any (b u : Int) (n c : Nat) (p : Option Addr) (f : Nat → Int × Int) (w : World) (hs : LpIn w f n p) (hn : n ≤ 1000000000000) :
    Calls Tryz.prog 34 #[.agg #[.int .i64 b, .slice p n c, .int .i64 u]] w fun e w' => e = .returned (.int .i64 (tabE b u n f)) ∧ Below w.heap.size w w' := by
  have A0 := below_alloc (Below.refl w.heap.size w) (.cells #[.int .i64 b, .slice p n c, .int .i64 u] 55)
  have HBX := Lib.hid (TBox.new w b u n c p 55)
  obtain ⟨x0, x1, x2⟩ := HBX.out
  have HS := Lib.hid (hs.below A0)
  have A0 := Lib.hid A0
  clear hs
  cases h1 : (decide (0 ≤ b) && decide (b ≤ 100))
  · have HV := Lib.hid (show tabE b u n f = 6 by unfold tabE tabB; simp [h1])
    have H1 := Lib.hid h1
    clear h1
    rw [HV.out]
    go_enter Tryz.func34, Tryz.ntmps34
    go_wp2_with (go_at_call 90; refine (in_any _ _ _ _).mono ?_; rintro e w' ⟨rfl, rfl⟩; first | rw [H1.out])
    go_ret
    exact ⟨rfl, A0.out⟩
  · cases h2 : (decide (41318 ≤ u) && decide (u ≤ 88069))
    · have HV := Lib.hid (show tabE b u n f = 6 by unfold tabE tabB; simp [h2])
      have H1 := Lib.hid h1
      have H2 := Lib.hid h2
      clear h1 h2
      rw [HV.out]
      go_enter Tryz.func34, Tryz.ntmps34
      go_wp2_with (go_at_call 90; refine (in_any _ _ _ _).mono ?_; rintro e w' ⟨rfl, rfl⟩; first | rw [H1.out] | rw [H2.out])
      go_ret
      exact ⟨rfl, A0.out⟩
    · have hub : 41318 ≤ u ∧ u ≤ 88069 := by simpa using h2
      have HTB := Lib.hid (show tabB b u = true by unfold tabB; rw [h1, h2]; rfl)
      have H1 := Lib.hid h1
      have H2 := Lib.hid h2
      clear h1 h2
      by_cases h3 : n ≤ 100
      · have h3i : ¬ (100 : Int) < n := by omega
        have HV := Lib.hid (show tabE b u n f = lErr u f n by unfold tabE; rw [if_pos HTB.out, if_pos h3])
        have H3 := Lib.hid h3
        clear h3
        rw [HV.out]
        go_enter Tryz.func34, Tryz.ntmps34
        go_wp2_with (go_at_call 90; refine (in_any _ _ _ _).mono ?_; rintro e w' ⟨rfl, rfl⟩; first | rw [H1.out] | rw [H2.out])
        generalize w.alloc (.cells #[.int .i64 b, .slice p n c, .int .i64 u] 55) = W0 at *
        go_loopw [2, 3, 4, 5, 6, 7, 8] (fun s2 s3 s4 s5 s6 s7 s8 wr => ∃ (k : Nat) (a4 a5 a6 a7 a8 : Value), k ≤ n ∧ s2 = .int .i64 0 ∧ s3 = .int .i64 (k : Int) ∧ s4 = a4 ∧ s5 = a5 ∧ s6 = a6 ∧ s7 = a7 ∧ s8 = a8 ∧ Hid (lErr u f k = 0) ∧ Hid (Below W0.heap.size W0 wr)) (fun _ s _ _ _ _ _ _ => n - (intOf s).toNat)
        case atStart => exact ⟨0, _, _, _, _, _, Nat.zero_le _, rfl, rfl, rfl, rfl, rfl, rfl, rfl, Lib.hid rfl, Lib.hid (Below.refl _ _)⟩
        case round =>
          obtain ⟨k, a4, a5, a6, a7, a8, hk, rfl, rfl, rfl, rfl, rfl, rfl, rfl, HL, HBW⟩ := hrel
          have hn3 := H3.out
          by_cases hlt : k < n
          · have hki : (k : Int) < n := by omega
            have vk : IntKind.i64.wrap ((k : Int) + 1) = (k : Int) + 1 := IntWalk.i64_in _ (by omega)
            have vu : IntKind.i64.wrap (u - 1) = u - 1 := IntWalk.i64_in _ (by omega)
            obtain ⟨bb, oo, rfl, hsi⟩ := HS.out.resolve_left (by omega)
            have HSI := Lib.hid (hsi.below HBW.out)
            obtain ⟨y0, y1⟩ := HSI.out k hlt
            obtain ⟨x0, x1, x2⟩ := HBX.out.below HBW.out
            have zx := cell_lt x0
            have zy := cell_lt y0
            have HEF : Hid (lE u f k = if leapB (f k).1 (f k).2 = true then if dayK u (f k).1 = true then if (if k = 0 then 0 else (f (k - 1)).1) < (f k).1 then 0 else 11 else 6 else 91) := Lib.hid rfl
            have HAT := Lib.hid (fun h => lErr_at (u := u) (f := f) hlt HL.out h)
            have HSU := Lib.hid (show lE u f k = 0 → lErr u f (k + 1) = 0 from fun h => by rw [lErr, if_pos HL.out]; exact h)
            have hb1 := below_alloc (Below.refl wr.heap.size wr) (.cells #[.int .i64 (f k).1, .int .i64 (f k).2] 63)
            have q0 : (wr.alloc (.cells #[.int .i64 (f k).1, .int .i64 (f k).2] 63)).cell? ⟨wr.heap.size, 0, none⟩ = some (.int .i64 (f k).1) := by simp
            have q1 : (wr.alloc (.cells #[.int .i64 (f k).1, .int .i64 (f k).2] 63)).cell? ⟨wr.heap.size, 1, none⟩ = some (.int .i64 (f k).2) := by simp
            have HPR := Lib.hid (show 0 < k → (wr.alloc (.cells #[.int .i64 (f k).1, .int .i64 (f k).2] 63)).cell? ⟨bb, oo + (k - 1) * 2, none⟩ = some (.int .i64 (f (k - 1)).1) from fun h0 => cell_below hb1 (HSI.out (k - 1) (by omega)).1)
            have HBB := Lib.hid ((HBX.out.below HBW.out).below hb1)
            have HB1 := Lib.hid (bt (bt A0.out HBW.out) hb1)
            have HBR := Lib.hid (bt HBW.out hb1)
            have HK := Lib.hid hlt
            clear hlt hsi hb1
            generalize (f k).1 = dk at *
            generalize (f k).2 = sk at *
            go_upto_region 9 with fail
            generalize wr.alloc (.cells #[.int .i64 dk, .int .i64 sk] 63) = W1 at *
            have zq := cell_lt q0
            clear x0 x1 x2 zx y0 y1 zy
            obtain ⟨x0, x1, x2⟩ := HBB.out
            have zx := cell_lt x0
            by_cases hs1 : sk = 1
            · subst hs1
              cases hr : (decide (41317 ≤ dk) && decide (dk ≤ 88068))
              · have HLB := Lib.hid (show leapB dk (1) = true by unfold leapB; simp [hr])
                have HDK := Lib.hid (show dayK u dk = false by unfold dayK; rw [Bool.eq_false_iff]; intro hc; rw [Bool.eq_false_iff] at hr; apply hr; simp at hc ⊢; omega)
                have HCV := Lib.hid (rCivil_no dk W1 hr)
                have HKD := Lib.hid (show (decide (41317 ≤ dk) && decide (dk ≤ u - 1)) = false from HDK.out)
                clear hr
                have HE := Lib.hid (show (6 : Int) = lErr u f n by
                  have e : lE u f k = 6 := by rw [HEF.out]; rw [if_pos HLB.out, if_neg (by rw [HDK.out]; decide)]
                  rw [HAT.out (by rw [e]; decide), e])
                go_wp2_with (first | (go_at_call 29; refine HCV.out.mono ?_; rintro e w' ⟨rfl, rfl⟩) | (go_at_call 90; refine (in_any _ _ _ _).mono ?_; rintro e w' ⟨rfl, rfl⟩; first | rw [HKD.out]))
                go_ret
                exact ⟨ret_i64 HE.out, HB1.out⟩
              · have hrr : 41317 ≤ dk ∧ dk ≤ 88068 := by simpa using hr
                have hci := civ_is dk hrr
                have HCV := Lib.hid (rCivil_ok W1 hci)
                have HMO := Lib.hid (month_any (yr dk) (mo dk) W1 (by have := hci.y1; omega))
                have HEM : Hid (eom dk = dk - da dk + dm (yr dk) (mo dk)) := Lib.hid rfl
                clear hr hci
                generalize yr dk = yy at *
                generalize mo dk = mm at *
                generalize da dk = dd at *
                generalize dm yy (mm : Int) = dmm at *
                by_cases hdd : dd = dmm
                · have HLB := Lib.hid (show leapB dk (1) = true by
                    have : dk = eom dk := by rw [HEM.out]; omega
                    unfold leapB; rw [← this]; simp)
                  have hdne : (dd == dmm) = true := by simpa using hdd
                  clear hrr hdd
                  cases hkd : dayK u dk
                  · have HDK := Lib.hid hkd
                    have HKD := Lib.hid (show (decide (41317 ≤ dk) && decide (dk ≤ u - 1)) = false from hkd)
                    clear hkd
                    have HE := Lib.hid (show (6 : Int) = lErr u f n by
                      have e : lE u f k = 6 := by rw [HEF.out]; rw [if_pos HLB.out, if_neg (by rw [HDK.out]; decide)]
                      rw [HAT.out (by rw [e]; decide), e])
                    go_wp2_with (first | (go_at_call 29; refine HCV.out.mono ?_; rintro e w' ⟨rfl, rfl⟩) | (go_at_call 91; refine HMO.out.mono ?_; rintro e w' ⟨rfl, rfl⟩) | (go_at_call 90; refine (in_any _ _ _ _).mono ?_; rintro e w' ⟨rfl, rfl⟩; first | rw [HKD.out]))
                    go_ret
                    exact ⟨ret_i64 HE.out, HB1.out⟩
                  · have HDK := Lib.hid hkd
                    have HKD := Lib.hid (show (decide (41317 ≤ dk) && decide (dk ≤ u - 1)) = true from hkd)
                    have hd0 : 0 < dk := by unfold dayK at hkd; simp at hkd; omega
                    clear hkd
                    go_upto_region 16 with (first | (go_at_call 29; refine HCV.out.mono ?_; rintro e w' ⟨rfl, rfl⟩) | (go_at_call 91; refine HMO.out.mono ?_; rintro e w' ⟨rfl, rfl⟩) | (go_at_call 90; refine (in_any _ _ _ _).mono ?_; rintro e w' ⟨rfl, rfl⟩; first | rw [HKD.out]))
                    clear HCV HMO HKD hdne
                    by_cases hk0 : k = 0
                    · subst hk0
                      have HE := Lib.hid (show lE u f 0 = 0 by rw [HEF.out, if_pos HLB.out, if_pos HDK.out, if_pos rfl, if_pos hd0])
                      clear hd0
                      go_quiet (fail)
                      go_wp2_with fail
                      go_roundw
                      case rel => exact ⟨1, _, _, _, _, _, HK.out, rfl, by simp, rfl, rfl, rfl, rfl, rfl, Lib.hid (HSU.out HE.out), Lib.hid (below_drewN HBR.out _)⟩
                      case measure => have := HK.out; simp [intOf]; omega
                    · have hpr := HPR.out (by omega)
                      have zp := cell_lt hpr
                      have hk0i : (0 : Int) < (k : Int) := by omega
                      have hk0d : decide ((0 : Int) < (k : Int)) = true := by simpa using hk0i
                      have hk0e : decide (0 < k) = true := by simp; omega
                      have vm : IntKind.i64.wrap ((k : Int) - 1) = (k : Int) - 1 := IntWalk.i64_in _ (by omega)
                      have hm0 : 0 ≤ (k : Int) - 1 := by omega
                      have hm1 : (k : Int) - 1 < n := by omega
                      have hmn : ((k : Int) - 1).toNat = k - 1 := by omega
                      have HK0 := Lib.hid hk0
                      have HPI := Lib.hid (show (if k = 0 then 0 else (f (k - 1)).1) = (f (k - 1)).1 from if_neg hk0)
                      clear hk0 hd0
                      generalize (f (k - 1)).1 = pk at *
                      by_cases hlt : pk < dk
                      · have HE := Lib.hid (show lE u f k = 0 by rw [HEF.out, if_pos HLB.out, if_pos HDK.out, HPI.out, if_pos hlt])
                        have hle : ¬ dk ≤ pk := by omega
                        clear hlt
                        go_quiet (fail)
                        go_wp2_with fail
                        go_roundw
                        case rel => exact ⟨k + 1, _, _, _, _, _, HK.out, rfl, by simp, rfl, rfl, rfl, rfl, rfl, Lib.hid (HSU.out HE.out), Lib.hid (below_drewN HBR.out _)⟩
                        case measure => have := HK.out; simp [intOf]; omega
                      · have HE := Lib.hid (show (11 : Int) = lErr u f n by
                          have e : lE u f k = 11 := by rw [HEF.out, if_pos HLB.out, if_pos HDK.out, HPI.out, if_neg hlt]
                          rw [HAT.out (by rw [e]; decide), e])
                        have hle : dk ≤ pk := by omega
                        clear hlt
                        go_quiet (fail)
                        go_wp2_with fail
                        go_ret
                        exact ⟨ret_i64 HE.out, below_drewN HB1.out _⟩
                · have HLB := Lib.hid (show leapB dk (1) = false by
                    have h1 : ¬ dk = eom dk := by rw [HEM.out]; omega
                    unfold leapB; rw [decide_eq_false h1]; simp [hrr])
                  have hdne : (dd == dmm) = false := by simpa using hdd
                  clear hrr hdd
                  have HE := Lib.hid (show (91 : Int) = lErr u f n by
                    have e : lE u f k = 91 := by rw [HEF.out]; rw [if_neg (by rw [HLB.out]; decide)]
                    rw [HAT.out (by rw [e]; decide), e])
                  go_wp2_with (first | (go_at_call 29; refine HCV.out.mono ?_; rintro e w' ⟨rfl, rfl⟩) | (go_at_call 91; refine HMO.out.mono ?_; rintro e w' ⟨rfl, rfl⟩))
                  go_ret
                  exact ⟨ret_i64 HE.out, HB1.out⟩
            · have n1 : (sk == 1) = false := by simpa using hs1
              by_cases hs2 : sk = -1
              · subst hs2
                clear hs1
                cases hr : (decide (41317 ≤ dk) && decide (dk ≤ 88068))
                · have HLB := Lib.hid (show leapB dk (-1) = true by unfold leapB; simp [hr])
                  have HDK := Lib.hid (show dayK u dk = false by unfold dayK; rw [Bool.eq_false_iff]; intro hc; rw [Bool.eq_false_iff] at hr; apply hr; simp at hc ⊢; omega)
                  have HCV := Lib.hid (rCivil_no dk W1 hr)
                  have HKD := Lib.hid (show (decide (41317 ≤ dk) && decide (dk ≤ u - 1)) = false from HDK.out)
                  clear hr
                  have HE := Lib.hid (show (6 : Int) = lErr u f n by
                    have e : lE u f k = 6 := by rw [HEF.out]; rw [if_pos HLB.out, if_neg (by rw [HDK.out]; decide)]
                    rw [HAT.out (by rw [e]; decide), e])
                  go_wp2_with (first | (go_at_call 29; refine HCV.out.mono ?_; rintro e w' ⟨rfl, rfl⟩) | (go_at_call 90; refine (in_any _ _ _ _).mono ?_; rintro e w' ⟨rfl, rfl⟩; first | rw [HKD.out]))
                  go_ret
                  exact ⟨ret_i64 HE.out, HB1.out⟩
                · have hrr : 41317 ≤ dk ∧ dk ≤ 88068 := by simpa using hr
                  have hci := civ_is dk hrr
                  have HCV := Lib.hid (rCivil_ok W1 hci)
                  have HMO := Lib.hid (month_any (yr dk) (mo dk) W1 (by have := hci.y1; omega))
                  have HEM : Hid (eom dk = dk - da dk + dm (yr dk) (mo dk)) := Lib.hid rfl
                  clear hr hci
                  generalize yr dk = yy at *
                  generalize mo dk = mm at *
                  generalize da dk = dd at *
                  generalize dm yy (mm : Int) = dmm at *
                  by_cases hdd : dd = dmm
                  · have HLB := Lib.hid (show leapB dk (-1) = true by
                      have : dk = eom dk := by rw [HEM.out]; omega
                      unfold leapB; rw [← this]; simp)
                    have hdne : (dd == dmm) = true := by simpa using hdd
                    clear hrr hdd
                    cases hkd : dayK u dk
                    · have HDK := Lib.hid hkd
                      have HKD := Lib.hid (show (decide (41317 ≤ dk) && decide (dk ≤ u - 1)) = false from hkd)
                      clear hkd
                      have HE := Lib.hid (show (6 : Int) = lErr u f n by
                        have e : lE u f k = 6 := by rw [HEF.out]; rw [if_pos HLB.out, if_neg (by rw [HDK.out]; decide)]
                        rw [HAT.out (by rw [e]; decide), e])
                      go_wp2_with (first | (go_at_call 29; refine HCV.out.mono ?_; rintro e w' ⟨rfl, rfl⟩) | (go_at_call 91; refine HMO.out.mono ?_; rintro e w' ⟨rfl, rfl⟩) | (go_at_call 90; refine (in_any _ _ _ _).mono ?_; rintro e w' ⟨rfl, rfl⟩; first | rw [HKD.out]))
                      go_ret
                      exact ⟨ret_i64 HE.out, HB1.out⟩
                    · have HDK := Lib.hid hkd
                      have HKD := Lib.hid (show (decide (41317 ≤ dk) && decide (dk ≤ u - 1)) = true from hkd)
                      have hd0 : 0 < dk := by unfold dayK at hkd; simp at hkd; omega
                      clear hkd
                      go_upto_region 16 with (first | (go_at_call 29; refine HCV.out.mono ?_; rintro e w' ⟨rfl, rfl⟩) | (go_at_call 91; refine HMO.out.mono ?_; rintro e w' ⟨rfl, rfl⟩) | (go_at_call 90; refine (in_any _ _ _ _).mono ?_; rintro e w' ⟨rfl, rfl⟩; first | rw [HKD.out]))
                      clear HCV HMO HKD hdne
                      by_cases hk0 : k = 0
                      · subst hk0
                        have HE := Lib.hid (show lE u f 0 = 0 by rw [HEF.out, if_pos HLB.out, if_pos HDK.out, if_pos rfl, if_pos hd0])
                        clear hd0
                        go_quiet (fail)
                        go_wp2_with fail
                        go_roundw
                        case rel => exact ⟨1, _, _, _, _, _, HK.out, rfl, by simp, rfl, rfl, rfl, rfl, rfl, Lib.hid (HSU.out HE.out), Lib.hid (below_drewN HBR.out _)⟩
                        case measure => have := HK.out; simp [intOf]; omega
                      · have hpr := HPR.out (by omega)
                        have zp := cell_lt hpr
                        have hk0i : (0 : Int) < (k : Int) := by omega
                        have hk0d : decide ((0 : Int) < (k : Int)) = true := by simpa using hk0i
                        have hk0e : decide (0 < k) = true := by simp; omega
                        have vm : IntKind.i64.wrap ((k : Int) - 1) = (k : Int) - 1 := IntWalk.i64_in _ (by omega)
                        have hm0 : 0 ≤ (k : Int) - 1 := by omega
                        have hm1 : (k : Int) - 1 < n := by omega
                        have hmn : ((k : Int) - 1).toNat = k - 1 := by omega
                        have HK0 := Lib.hid hk0
                        have HPI := Lib.hid (show (if k = 0 then 0 else (f (k - 1)).1) = (f (k - 1)).1 from if_neg hk0)
                        clear hk0 hd0
                        generalize (f (k - 1)).1 = pk at *
                        by_cases hlt : pk < dk
                        · have HE := Lib.hid (show lE u f k = 0 by rw [HEF.out, if_pos HLB.out, if_pos HDK.out, HPI.out, if_pos hlt])
                          have hle : ¬ dk ≤ pk := by omega
                          clear hlt
                          go_quiet (fail)
                          go_wp2_with fail
                          go_roundw
                          case rel => exact ⟨k + 1, _, _, _, _, _, HK.out, rfl, by simp, rfl, rfl, rfl, rfl, rfl, Lib.hid (HSU.out HE.out), Lib.hid (below_drewN HBR.out _)⟩
                          case measure => have := HK.out; simp [intOf]; omega
                        · have HE := Lib.hid (show (11 : Int) = lErr u f n by
                            have e : lE u f k = 11 := by rw [HEF.out, if_pos HLB.out, if_pos HDK.out, HPI.out, if_neg hlt]
                            rw [HAT.out (by rw [e]; decide), e])
                          have hle : dk ≤ pk := by omega
                          clear hlt
                          go_quiet (fail)
                          go_wp2_with fail
                          go_ret
                          exact ⟨ret_i64 HE.out, below_drewN HB1.out _⟩
                  · have HLB := Lib.hid (show leapB dk (-1) = false by
                      have h1 : ¬ dk = eom dk := by rw [HEM.out]; omega
                      unfold leapB; rw [decide_eq_false h1]; simp [hrr])
                    have hdne : (dd == dmm) = false := by simpa using hdd
                    clear hrr hdd
                    have HE := Lib.hid (show (91 : Int) = lErr u f n by
                      have e : lE u f k = 91 := by rw [HEF.out]; rw [if_neg (by rw [HLB.out]; decide)]
                      rw [HAT.out (by rw [e]; decide), e])
                    go_wp2_with (first | (go_at_call 29; refine HCV.out.mono ?_; rintro e w' ⟨rfl, rfl⟩) | (go_at_call 91; refine HMO.out.mono ?_; rintro e w' ⟨rfl, rfl⟩))
                    go_ret
                    exact ⟨ret_i64 HE.out, HB1.out⟩
              · have n2 : (sk == -1) = false := by simpa using hs2
                have HLB := Lib.hid (show leapB dk sk = false by unfold leapB; simp [hs1, hs2])
                have m1 : (sk != 1) = true := by simpa using hs1
                have m2 : (sk != -1) = true := by simpa using hs2
                have HE := Lib.hid (show (91 : Int) = lErr u f n by
                  have e : lE u f k = 91 := by rw [HEF.out]; rw [if_neg (by rw [HLB.out]; decide)]
                  rw [HAT.out (by rw [e]; decide), e])
                go_wp2_with fail
                go_ret
                exact ⟨ret_i64 HE.out, HB1.out⟩
          · obtain rfl : k = n := by omega
            have hki : ¬ ((k : Int) < k) := by omega
            obtain ⟨x0, x1, x2⟩ := HBX.out.below HBW.out
            have zx := cell_lt x0
            have HE := Lib.hid HL.out.symm
            go_wp2_with fail
            go_ret
            exact ⟨ret_i64 HE.out, bt A0.out HBW.out⟩
      · have h3i : (100 : Int) < n := by omega
        have HV := Lib.hid (show tabE b u n f = 2 by unfold tabE; rw [if_pos HTB.out, if_neg h3])
        clear h3
        rw [HV.out]
        go_enter Tryz.func34, Tryz.ntmps34
        go_wp2_with (go_at_call 90; refine (in_any _ _ _ _).mono ?_; rintro e w' ⟨rfl, rfl⟩; first | rw [H1.out] | rw [H2.out])
        go_ret
        exact ⟨rfl, A0.out⟩
end Go.Proofs.YtgnfaemnehmgcaaGreatDoor.Cal
