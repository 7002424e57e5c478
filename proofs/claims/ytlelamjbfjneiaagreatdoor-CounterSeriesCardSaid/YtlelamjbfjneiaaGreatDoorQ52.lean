/- The reference's Unwrap, whatever it is asked. -/
import Derived.Test.YtlelamjbfjneiaaGreatDoorQ19
import Derived.Test.YtlelamjbfjneiaaGreatDoorQ35
import Derived.Test.YtlelamjbfjneiaaGreatDoorQ33
namespace Go.Proofs.YtlelamjbfjneiaaGreatDoor.Ct
open Go Go.RowKit Go.Shelf
attribute [local go_sem] Oper.semAt_some
theorem OwnF.add1 {B k : Nat} {Y : World} {v' : Value} {f : Nat → Int} {x : Int} (hx : f k = x) (hown : Y.ownsRow B 3 1 v' (k + 1) (seqV f k ++ [.int .i64 x])) : OwnF B Y v' f (k + 1) := by
  unfold OwnF; rw [seqV_succ, hx]; exact hown
theorem OwnF.bel1 {k : Nat} {W X Y : World} {v : Value} {f : Nat → Int} {o : Obj} (h : OwnF W.heap.size X v f k) (hb : Below W.heap.size W X) (hg : (X.alloc o).grownBy Y v.ownBlock) : Below W.heap.size W Y :=
  (hb.alloc hb.size o).grown hg (by have := hb.size; simp; omega) (fun k hk => (World.ownsRow.lt h k hk).1)
set_option maxRecDepth 100000 in
set_option maxHeartbeats 8000000 in
theorem rUnwrap_any (c : Cnt) (m : Nat → Int) (n : Nat) (p : Option Addr) (cap : Nat) (most : Int) (w : World) (hs : FnIn w m n p) :
    Calls Tryz.prog 14 #[cntVal c, .slice p n cap, .int .i64 most] w (UnwAny c m n most w) := by
  obtain ⟨i0, hi0, hz0, hz1, hz2⟩ := info_parts infoInt
  have a0 := below_alloc (Below.refl w.heap.size w) (rcObj c)
  have A0 := Lib.hid a0
  have HB := Lib.hid (RBox.new w c)
  have HS := Lib.hid (hs.below a0)
  have HCK := Lib.hid (fun W => rcheck_any c W)
  unfold UnwAny
  obtain ⟨r, hr⟩ : ∃ r, r = unwErr c m n most := ⟨_, rfl⟩
  rw [← hr]
  have HR := Lib.hid hr
  clear hs a0 hr
  unfold rcObj at A0 HB HS
  unfold cntVal at HCK
  by_cases hc : cntB c = true
  · rw [show checkC c = 0 from if_pos hc] at HCK
    have HCI := Lib.hid (cntB_in hc)
    have HC := Lib.hid hc
    have HFA := Lib.hid (fun W => rfault_any c W HCI.out)
    have HWR := Lib.hid (fun x (hx : -4000000000000000000 ≤ x ∧ x ≤ 4000000000000000000) W => rwrap_any c x W HCI.out hx)
    unfold cntVal at HFA HWR
    unfold cntVal
    clear hc
    by_cases hn : n ≤ 2000
    · have hn' : ¬ (2000 : Int) < (n : Int) := by omega
      have HN := Lib.hid hn
      have hrb := HCI.out.r
      have q1 : IntKind.i64.wrap (c.r.tdiv 2) = c.r / 2 := IntWalk.i64_quo c.r 2 (by omega)
      have q2 : IntKind.i64.wrap (-(c.r / 2)) = -(c.r / 2) := IntWalk.i64_in _ (by omega)
      clear hrb hn
      go_enter Tryz.func14, Tryz.ntmps14
      obtain ⟨x0, x1, x2, x3, x4, x5, x6⟩ := HB.out
      have hz := cell_lt x0
      go_wp2_with fail
      refine (HCK.out _).mono ?_
      rintro e w1 ⟨rfl, hb⟩
      have HB1 := Lib.hid (HB.out.below hb)
      have A1 := Lib.hid (A0.out.trans (hb.mono A0.out.size))
      have HS1 := Lib.hid (HS.out.below hb)
      clear hb x0 x1 x2 x3 x4 x5 x6 hz HB A0 HS HCK
      go_wp2_with fail
      go_loopw [8] (fun i wr => ∃ k : Nat, k ≤ n ∧ i = .int .i64 (k : Int) ∧ Hid (∀ i, i < k → showB c (m i) = true) ∧ Hid (CBox wr w.heap.size c) ∧ Hid (FnIn wr m n p) ∧ Hid (Below w.heap.size w wr)) (fun i _ => n - (intOf i).toNat)
      case atStart => exact ⟨0, Nat.zero_le _, rfl, Lib.hid fun i hi => absurd hi (Nat.not_lt_zero i), HB1, HS1, A1⟩
      case round =>
        obtain ⟨k, hk, rfl, HA, HE, HSr, HBr⟩ := hrel
        by_cases hlt : k < n
        · have hki : (k : Int) < (n : Int) := by omega
          have HL := Lib.hid hlt
          obtain ⟨bs, os, rfl, hsrc⟩ := HSr.out.resolve_left (by omega)
          have hmk := hsrc k hlt
          have v1 : IntKind.i64.wrap ((k : Int) + 1) = (k : Int) + 1 := IntWalk.i64_in _ (by have := HN.out; omega)
          have HNO : Hid (showB c (m k) = false → r = 6) := Lib.hid fun h => by
            rw [HR.out]; unfold unwErr
            rw [if_pos HC.out, if_pos HN.out, if_neg fun h' => by have := all_shown.1 h' k hlt; rw [h] at this; cases this]
          have HYE : Hid (showB c (m k) = (decide (-(c.r / 2) ≤ m k) && decide (m k ≤ c.r / 2 - 1))) := Lib.hid rfl
          clear hsrc hlt hk
          obtain ⟨mk, hmkk⟩ : ∃ x, x = m k := ⟨_, rfl⟩
          rw [← hmkk] at hmk HNO HYE
          have HMK := Lib.hid hmkk
          clear hmkk
          obtain ⟨x0, x1, x2, x3, x4, x5, x6⟩ := HE.out
          have hz := cell_lt x0
          have hz2 := cell_lt hmk
          by_cases g1 : mk < -(c.r / 2)
          · have HRR := Lib.hid (HNO.out (by rw [HYE.out]; simp; omega))
            have g1d : decide (mk < -(c.r / 2)) = true := by simpa using g1
            go_upto_region 8 with fail
            go_quiet (fail)
            go_wp2_with fail
            go_ret2
            exact ⟨.inl ⟨by rw [HRR.out]; decide, by rw [HRR.out]; rfl⟩, below_drewN HBr.out _⟩
          · have g1d : decide (mk < -(c.r / 2)) = false := by simpa using g1
            by_cases g2 : c.r / 2 ≤ mk
            · have HRR := Lib.hid (HNO.out (by rw [HYE.out]; simp; omega))
              go_upto_region 8 with fail
              go_quiet (fail)
              go_wp2_with fail
              go_ret2
              exact ⟨.inl ⟨by rw [HRR.out]; decide, by rw [HRR.out]; rfl⟩, below_drewN HBr.out _⟩
            · have HSQ : Hid (showB c (m k) = true) := Lib.hid (by rw [← HMK.out, HYE.out]; simp; omega)
              go_upto_region 8 with fail
              go_quiet (fail)
              go_wp2_with fail
              go_roundw
              case rel => exact ⟨k + 1, HL.out, by simp, Lib.hid fun i hi => (by
                by_cases e : i = k
                · rw [e]; exact HSQ.out
                · exact HA.out i (by omega)), Lib.hid (HE.out.below (below_drewN (Below.refl _ _) _)), Lib.hid (HSr.out.below (below_drewN (Below.refl _ _) _)), Lib.hid (below_drewN HBr.out _)⟩
              case measure => have := HL.out; simp [intOf]; omega
        · obtain rfl : k = n := by omega
          have hki : ¬ (k : Int) < k := by omega
          have HU : Hid (r = if 1000000000000000 < most then 6 else if most < 0 ∨ c.r / 2 ≤ c.f * most + 2 * faultS c then 31 else 0) := Lib.hid (by
            rw [HR.out]; unfold unwErr; rw [if_pos HC.out, if_pos HN.out, if_pos (all_shown.2 HA.out)])
          have HBD : Hid (∀ i, i < k → -1000000000000000 ≤ m i ∧ m i ≤ 1000000000000000) := Lib.hid fun i hi => by
            have h1 := HA.out i hi
            have h2 := HCI.out.r
            simp only [showB, Bool.and_eq_true, decide_eq_true_eq] at h1
            omega
          clear HR hlt hk
          by_cases hm : 1000000000000000 < most
          · have HRR := Lib.hid (show r = 6 by rw [HU.out, if_pos hm])
            go_wp2_with fail
            go_ret2
            exact ⟨.inl ⟨by rw [HRR.out]; decide, by rw [HRR.out]; rfl⟩, HBr.out⟩
          · by_cases h0 : most < 0
            · have HRR := Lib.hid (show r = 31 by rw [HU.out, if_neg hm, if_pos (.inl h0)])
              have hd : decide (most < 0) = true := by simpa using h0
              go_upto_region 12 with fail
              go_quiet (fail)
              go_wp2_with fail
              go_ret2
              exact ⟨.inl ⟨by rw [HRR.out]; decide, by rw [HRR.out]; rfl⟩, below_drewN HBr.out _⟩
            · have hd : decide (most < 0) = false := by simpa using h0
              have hfb := mul_bd c.f most 1000 1000000000000000 (by have := HCI.out.f; omega) (by omega)
              have hj := HCI.out.j
              have hg := HCI.out.g
              have k1 : IntKind.i64.wrap (c.f * most) = c.f * most := IntWalk.i64_in _ (by omega)
              have k2 : IntKind.i64.wrap (2 * faultS c) = 2 * faultS c := IntWalk.i64_in _ (by unfold faultS; omega)
              have k3 : IntKind.i64.wrap (c.f * most + 2 * faultS c) = c.f * most + 2 * faultS c := IntWalk.i64_in _ (by unfold faultS; omega)
              generalize faultS c = fa at *
              clear hfb hj hg
              by_cases h2 : c.r / 2 ≤ c.f * most + 2 * fa
              · have HRR := Lib.hid (show r = 31 by rw [HU.out, if_neg hm, if_pos (.inr h2)])
                have HER := Lib.hid (fun W => HFA.out W)
                obtain ⟨x0, x1, x2, x3, x4, x5, x6⟩ := HE.out
                have hz := cell_lt x0
                go_upto_region 12 with fail
                have HK := Lib.hid (fun (W : World) (hb : Below wr.heap.size wr W) => box_keep wr w.heap.size c HE.out W hb)
                have hB0 : Below wr.heap.size wr wr.drew := Below.drew (Below.refl _ _)
                have HEK := Lib.hid (fun (W : World) (hb : Below wr.heap.size wr W) => (HER.out W).mono fun _ _ h => And.intro h.1 (hb.trans (h.2.mono hb.size)))
                clear x0 x1 x2 x3 x4 x5 x6 hz
                go_region_held3 (fun w' => w'.cell? ⟨w.heap.size, 0, none⟩ = some (.int .i64 c.f) ∧ w'.cell? ⟨w.heap.size, 1, none⟩ = some (.int .i64 c.o) ∧ w'.cell? ⟨w.heap.size, 2, none⟩ = some (.int .i64 c.j) ∧ w'.cell? ⟨w.heap.size, 3, none⟩ = some (.int .i64 c.g) ∧ w'.cell? ⟨w.heap.size, 4, none⟩ = some (.int .i64 c.r) ∧ w'.cell? ⟨w.heap.size, 5, none⟩ = some (.int .i64 c.d) ∧ w'.cell? ⟨w.heap.size, 6, none⟩ = some (.int .i64 c.i))
                  (first | exact HK.out _ hbA | exact HK.out _ hB0 | exact HK.out _ (Below.refl _ _))
                  (first | (go_at_call 34; refine (HEK.out _ hB0).mono ?_; rintro e wA ⟨rfl, hbA⟩))
                have HBA := Lib.hid (HBr.out.trans (hbA.mono HBr.out.size))
                have HEA := Lib.hid (HE.out.below hbA)
                have HSA := Lib.hid (HSr.out.below hbA)
                clear hbA hB0 HEK HK HE HSr HBr
                go_wp2_with fail
                go_ret2
                exact ⟨.inl ⟨by rw [HRR.out]; decide, by rw [HRR.out]; rfl⟩, HBA.out⟩
              · have HRR := Lib.hid (show r = 0 by rw [HU.out, if_neg hm, if_neg (by omega)])
                have HER := Lib.hid (fun W => HFA.out W)
                obtain ⟨x0, x1, x2, x3, x4, x5, x6⟩ := HE.out
                have hz := cell_lt x0
                go_upto_region 12 with fail
                have HK := Lib.hid (fun (W : World) (hb : Below wr.heap.size wr W) => box_keep wr w.heap.size c HE.out W hb)
                have hB0 : Below wr.heap.size wr wr.drew := Below.drew (Below.refl _ _)
                have HEK := Lib.hid (fun (W : World) (hb : Below wr.heap.size wr W) => (HER.out W).mono fun _ _ h => And.intro h.1 (hb.trans (h.2.mono hb.size)))
                clear x0 x1 x2 x3 x4 x5 x6 hz
                go_region_held3 (fun w' => w'.cell? ⟨w.heap.size, 0, none⟩ = some (.int .i64 c.f) ∧ w'.cell? ⟨w.heap.size, 1, none⟩ = some (.int .i64 c.o) ∧ w'.cell? ⟨w.heap.size, 2, none⟩ = some (.int .i64 c.j) ∧ w'.cell? ⟨w.heap.size, 3, none⟩ = some (.int .i64 c.g) ∧ w'.cell? ⟨w.heap.size, 4, none⟩ = some (.int .i64 c.r) ∧ w'.cell? ⟨w.heap.size, 5, none⟩ = some (.int .i64 c.d) ∧ w'.cell? ⟨w.heap.size, 6, none⟩ = some (.int .i64 c.i))
                  (first | exact HK.out _ hbA | exact HK.out _ hB0 | exact HK.out _ (Below.refl _ _))
                  (first | (go_at_call 34; refine (HEK.out _ hB0).mono ?_; rintro e wA ⟨rfl, hbA⟩))
                have HBA := Lib.hid (HBr.out.trans (hbA.mono HBr.out.size))
                have HEA := Lib.hid (HE.out.below hbA)
                have HSA := Lib.hid (HSr.out.below hbA)
                clear hbA hB0 HEK HK HE HSr HBr
                go_wp2_with fail
                clear k1 k2 k3 h2 hd h0 hm HU HFA q1 q2 HER
                generalize wA = W4 at *
                go_loopw [9, 10, 11, 12] (fun s9 s10 s11 s12 wr => ∃ (i : Nat) (v v11 v12 : Value), i ≤ k ∧ s9 = v ∧ s10 = .int .i64 (i : Int) ∧ s11 = v11 ∧ s12 = v12 ∧ Hid (OwnF W4.heap.size wr v (unwS c m) i) ∧ Hid (Below W4.heap.size W4 wr)) (fun _ s10 _ _ _ => k - (intOf s10).toNat)
                case atStart => exact ⟨0, _, _, _, Nat.zero_le _, rfl, rfl, rfl, rfl, Lib.hid (OwnF.nil _ _ _), Lib.hid (Below.refl _ _)⟩
                case round =>
                  obtain ⟨i, v, v11, v12, hi, rfl, rfl, rfl, rfl, HO, HB4⟩ := hrel
                  have HE := Lib.hid (HEA.out.below HB4.out)
                  have HS := Lib.hid (HSA.out.below HB4.out)
                  by_cases hlt : i < k
                  · have hii : (i : Int) < (k : Int) := by omega
                    have HI := Lib.hid hlt
                    obtain ⟨bs, os, rfl, hsrc⟩ := HS.out.resolve_left (by omega)
                    have hm0 := hsrc 0 (by omega)
                    have hz := cell_lt hm0
                    have hk0 : (0 : Int) < (k : Int) := by omega
                    have v1 : IntKind.i64.wrap ((i : Int) + 1) = (i : Int) + 1 := IntWalk.i64_in _ (by have := HN.out; omega)
                    have HU0 : Hid (unwS c m 0 = m 0) := Lib.hid rfl
                    rw [Nat.add_zero] at hm0
                    obtain ⟨m0, hm00⟩ : ∃ x, x = m 0 := ⟨_, rfl⟩
                    rw [← hm00] at hm0 HU0
                    clear hsrc hlt hi hm00
                    go_wp2_with fail
                    clear hm0 hz
                    generalize hwr : wr = W5 at *
                    clear hwr
                    go_loopw [11, 12] (fun s11 s12 wr => ∃ j : Nat, j ≤ i ∧ s11 = .int .i64 (unwS c m j) ∧ s12 = .int .i64 ((j : Int) + 1) ∧ Hid (Below W5.heap.size W5 wr)) (fun _ s12 _ => i + 1 - (intOf s12).toNat)
                    case atStart => exact ⟨0, Nat.zero_le _, by rw [HU0.out], rfl, Lib.hid (Below.refl _ _)⟩
                    case round =>
                      obtain ⟨j, hj, rfl, rfl, HB5⟩ := hrel
                      by_cases hjl : j < i
                      · have HJ := Lib.hid hjl
                        have hji : (j : Int) + 1 ≤ (i : Int) := by omega
                        have hib := HI.out
                        obtain ⟨bs', os', he, hsrc⟩ := HS.out.resolve_left (by omega)
                        cases he
                        have ha := cell_below HB5.out (hsrc (j + 1) (by omega))
                        have hb' := cell_below HB5.out (hsrc j (by omega))
                        have hza := cell_lt ha
                        have hzb := cell_lt hb'
                        have bd1 := HBD.out (j + 1) (by omega)
                        have bd2 := HBD.out j (by omega)
                        have bd3 := unwS_bd HCI.out m (HBD.out 0 (by omega)) j
                        have hnn := HN.out
                        have bd4 := wrapS_bd HCI.out (m (j + 1) - m j)
                        have bd5 := HCI.out.r
                        have v2 : IntKind.i64.wrap ((j : Int) + 1 + 1) = (j : Int) + 1 + 1 := IntWalk.i64_in _ (by omega)
                        have v3 : IntKind.i64.wrap ((j : Int) + 1 - 1) = (j : Int) := by rw [IntWalk.i64_in _ (by omega)]; omega
                        have v3c : IntKind.i64.wrap (j : Int) = (j : Int) := IntWalk.i64_in _ (by omega)
                        have hj00 : (0 : Int) ≤ (j : Int) := by omega
                        have v4 : IntKind.i64.wrap (m (j + 1) - m j) = m (j + 1) - m j := IntWalk.i64_in _ (by omega)
                        have hjk1 : (j : Int) + 1 < (k : Int) := by omega
                        have hjk2 : (j : Int) < (k : Int) := by omega
                        have hj0 : (0 : Int) ≤ (j : Int) + 1 := by omega
                        have HW5 := Lib.hid (fun W => HWR.out (m (j + 1) - m j) (by omega) W)
                        have v5 : IntKind.i64.wrap (unwS c m j + wrapS c (m (j + 1) - m j)) = unwS c m j + wrapS c (m (j + 1) - m j) := IntWalk.i64_in _ (by omega)
                        have HNX : Hid (unwS c m (j + 1) = unwS c m j + wrapS c (m (j + 1) - m j)) := Lib.hid rfl
                        generalize wrapS c (m (j + 1) - m j) = wv at *
                        generalize unwS c m j = uj at *
                        generalize m (j + 1) = mj at *
                        generalize m j = mi at *
                        clear bd1 bd2 bd3 bd4 bd5 hnn hib hsrc hjl hj
                        have HE5 := Lib.hid (HE.out.below HB5.out)
                        obtain ⟨x0, x1, x2, x3, x4, x5, x6⟩ := HE5.out
                        have hz := cell_lt x0
                        go_upto_region 22 with fail
                        have HK := Lib.hid (fun (W : World) (hb : Below wr.heap.size wr W) => (show W.cell? ⟨w.heap.size, 0, none⟩ = some (.int .i64 c.f) ∧ W.cell? ⟨w.heap.size, 1, none⟩ = some (.int .i64 c.o) ∧ W.cell? ⟨w.heap.size, 2, none⟩ = some (.int .i64 c.j) ∧ W.cell? ⟨w.heap.size, 3, none⟩ = some (.int .i64 c.g) ∧ W.cell? ⟨w.heap.size, 4, none⟩ = some (.int .i64 c.r) ∧ W.cell? ⟨w.heap.size, 5, none⟩ = some (.int .i64 c.d) ∧ W.cell? ⟨w.heap.size, 6, none⟩ = some (.int .i64 c.i) ∧ W.cell? ⟨bs, os + (j + 1), none⟩ = some (.int .i64 mj) ∧ W.cell? ⟨bs, os + j, none⟩ = some (.int .i64 mi) from by
                          have h := HE5.out.below hb
                          exact ⟨h.c0, h.c1, h.c2, h.c3, h.c4, h.c5, h.c6, cell_below hb ha, cell_below hb hb'⟩))
                        have hB0 : Below wr.heap.size wr wr.drew := Below.drew (Below.refl _ _)
                        have HWK := Lib.hid (fun (W : World) (hb : Below wr.heap.size wr W) => (HW5.out W).mono fun _ _ h => And.intro h.1 (hb.trans (h.2.mono hb.size)))
                        clear x0 x1 x2 x3 x4 x5 x6 hz ha hb' hza hzb
                        go_region_held3 (fun w' => w'.cell? ⟨w.heap.size, 0, none⟩ = some (.int .i64 c.f) ∧ w'.cell? ⟨w.heap.size, 1, none⟩ = some (.int .i64 c.o) ∧ w'.cell? ⟨w.heap.size, 2, none⟩ = some (.int .i64 c.j) ∧ w'.cell? ⟨w.heap.size, 3, none⟩ = some (.int .i64 c.g) ∧ w'.cell? ⟨w.heap.size, 4, none⟩ = some (.int .i64 c.r) ∧ w'.cell? ⟨w.heap.size, 5, none⟩ = some (.int .i64 c.d) ∧ w'.cell? ⟨w.heap.size, 6, none⟩ = some (.int .i64 c.i) ∧ w'.cell? ⟨bs, os + (j + 1), none⟩ = some (.int .i64 mj) ∧ w'.cell? ⟨bs, os + j, none⟩ = some (.int .i64 mi))
                          (first | exact HK.out _ hbA | exact HK.out _ hB0 | exact HK.out _ (Below.refl _ _))
                          (first | (go_at_call 35; refine (HWK.out _ hB0).mono ?_; rintro e wA ⟨rfl, hbA⟩))
                        have HB6 := Lib.hid (Below.trans HB5.out (hbA.mono HB5.out.size))
                        clear hbA hB0 HK HWK HW5
                        go_wp2_with fail
                        go_roundw
                        case rel => exact ⟨j + 1, HJ.out, by rw [HNX.out], by simp, HB6⟩
                        case measure => have := HJ.out; simp [intOf]; omega
                      · obtain rfl : j = i := by omega
                        have hji : ¬ (j : Int) + 1 ≤ (j : Int) := by omega
                        have HO6 := Lib.hid (HO.out.below HB5.out)
                        have HB6 := Lib.hid (Below.trans HB4.out (HB5.out.mono HB4.out.size))
                        have HX : Hid (unwS c m j = unwS c m j) := Lib.hid rfl
                        clear hjl hj HE HS HO HB4 HU0
                        go_wp2_with (at_builtin; refine wpList_append_own_at _ rfl (.tmp 90) (.tmp 92) _ rfl W4.heap.size 3 i0 (.int .i64 0) 1 8 Tryz.underlying29 hi0 hz0 hz1 hz2 rfl (by decide) _ j _ rfl (World.ownsRow.alloc HO6.out _) ⟨wr.heap.size, 0, none⟩ 1 1 [.int .i64 (unwS c m j)] rfl rfl (cell_one_new _ _ _) (by simp [Value.oneCell']) (by have := HI.out; have := HN.out; unfold maxLen; omega) (by have := HI.out; have := HN.out; omega) (by have := HB6.out.size; simp; omega) ?_; intro v' z1 hown hg _ _; have HO7 := Lib.hid (OwnF.add1 rfl hown); have HB7 := Lib.hid (HO6.out.bel1 HB6.out hg); clear hown hg)
                        go_roundw
                        case rel => exact ⟨j + 1, v', _, _, HI.out, rfl, by simp, rfl, rfl, HO7, HB7⟩
                        case measure => have := HI.out; simp [intOf]; omega
                  · obtain rfl : i = k := by omega
                    have hii : ¬ (i : Int) < (i : Int) := by omega
                    clear hlt hi
                    obtain ⟨q, d, rfl, hfn⟩ := HO.out.in_
                    have HF := Lib.hid hfn
                    have HBZ := Lib.hid (HBA.out.trans (HB4.out.mono HBA.out.size))
                    clear hfn HO
                    go_wp2_with fail
                    go_ret2
                    exact ⟨.inr ⟨HRR.out, q, ⟨d, rfl⟩, HF.out⟩, HBZ.out⟩
    · have hn' : (2000 : Int) < (n : Int) := by omega
      have HRR := Lib.hid (show r = 2 by rw [HR.out]; unfold unwErr; rw [if_pos HC.out, if_neg hn])
      clear hn
      go_enter Tryz.func14, Tryz.ntmps14
      obtain ⟨x0, x1, x2, x3, x4, x5, x6⟩ := HB.out
      have hz := cell_lt x0
      go_wp2_with fail
      refine (HCK.out _).mono ?_
      rintro e w1 ⟨rfl, hb⟩
      have A1 := Lib.hid (A0.out.trans (hb.mono A0.out.size))
      clear hb x0 x1 x2 x3 x4 x5 x6 hz HB A0 HS HCK
      go_wp2_with fail
      go_ret2
      exact ⟨.inl ⟨by rw [HRR.out]; decide, by rw [HRR.out]; rfl⟩, A1.out⟩
  · rw [show checkC c = 30 from if_neg hc] at HCK
    have HRR := Lib.hid (show r = 30 by rw [HR.out]; unfold unwErr; rw [if_neg hc])
    unfold cntVal
    clear hc
    go_enter Tryz.func14, Tryz.ntmps14
    obtain ⟨x0, x1, x2, x3, x4, x5, x6⟩ := HB.out
    have hz := cell_lt x0
    go_wp2_with fail
    refine (HCK.out _).mono ?_
    rintro e w1 ⟨rfl, hb⟩
    have A1 := Lib.hid (A0.out.trans (hb.mono A0.out.size))
    clear hb x0 x1 x2 x3 x4 x5 x6 hz HB A0 HS HCK
    go_wp2_with fail
    go_ret2
    exact ⟨.inl ⟨by rw [HRR.out]; decide, by rw [HRR.out]; rfl⟩, A1.out⟩
end Go.Proofs.YtlelamjbfjneiaaGreatDoor.Ct
