/- The walk over the law StabilityScales. -/
import Derived.Test.YtpmhphdpomiacaaSh
import Derived.Deep.CutRange
import Derived.BigQuiet
namespace Go.Proofs.Ytpmhphdpomiacaa
open Go Go.RowKit Go.Shelf
theorem keepB {X W : World} {b o b' o' : Nat} {u u' : Value} (hb : Below X.heap.size X W) (c0 : X.cell? ⟨b, o, none⟩ = some u) (c1 : X.cell? ⟨b', o', none⟩ = some u') : Below X.heap.size X W ∧ W.cell? ⟨b, o, none⟩ = some u ∧ W.cell? ⟨b', o', none⟩ = some u' := ⟨hb, cell_below hb c0, cell_below hb c1⟩
theorem allan_at (tau : Int) (l : List Int) (p : Option Addr) (cap : Nat) (m : Int) (w : World) (hs : SerIn w l p) (V : VarE) (hV : allanE tau l m = V) :
    Calls Try.prog 24 #[.agg #[.int .i64 tau, .slice p l.length cap], .int .i64 m] w fun e w' => e = .returned (.tuple #[.agg #[.int .i64 V.n, .int .i64 V.d], .int .i64 V.e]) ∧ Below w.heap.size w w' := by
  subst hV
  exact allan_any tau l p cap m w hs
theorem time_at (tau : Int) (l : List Int) (p : Option Addr) (cap : Nat) (m : Int) (w : World) (hs : SerIn w l p) (V : VarE) (hV : timeE tau l m = V) :
    Calls Try.prog 25 #[.agg #[.int .i64 tau, .slice p l.length cap], .int .i64 m] w fun e w' => e = .returned (.tuple #[.agg #[.int .i64 V.n, .int .i64 V.d], .int .i64 V.e]) ∧ Below w.heap.size w w' := by
  subst hV
  exact time_any tau l p cap m w hs
attribute [local go_sem] eql_ratios eql_errs
set_option maxRecDepth 100000 in
set_option maxHeartbeats 8000000 in
theorem scales_any (l : List Int) (p : Option Addr) (cap : Nat) (tau m c : Int) (w : World) (ha : I16In w l p cap) (hT : 0 ≤ tau ∧ tau ≤ 255) (hM : 0 ≤ m ∧ m ≤ 255) (hC : -128 ≤ c ∧ c ≤ 127) :
    Calls Try.prog 8 #[.slice p l.length cap, .int .u8 tau, .int .u8 m, .int .i8 c] w fun e w' => e = .returned (.bool true) ∧ Below w.heap.size w w' := by
  have HPC := Lib.hid (phased_cap l p cap tau w ha hT)
  obtain ⟨L, hL⟩ : ∃ L, L = l.take (min l.length 100) := ⟨_, rfl⟩
  rw [← hL] at HPC
  have hLl : L.length ≤ 100 := by rw [hL]; simp; omega
  obtain ⟨T, hTT⟩ : ∃ T : Int, T = 1 + tau := ⟨_, rfl⟩
  rw [← hTT] at HPC
  have hT1 : 1 ≤ T ∧ T ≤ 256 := by omega
  have HBX := Lib.hid (show ∀ i, -32768 ≤ atL L i ∧ atL L i ≤ 32767 by rw [hL]; exact (ha.take _ (Nat.min_le_left _ _)).bd)
  obtain ⟨M, hMN⟩ : ∃ M : Nat, 1 + m % 32 = (M : Int) := ⟨(1 + m % 32).toNat, by omega⟩
  have hM1 : 1 ≤ M ∧ M ≤ 32 := by omega
  have hm32 : 0 ≤ m % 32 ∧ m % 32 ≤ 31 := by omega
  have hc1 := tmod_lt c 26 (by decide)
  obtain ⟨K, hK⟩ : ∃ K : Int, c.tmod 26 = K := ⟨_, rfl⟩
  have hK1 : -25 ≤ K ∧ K ≤ 25 := by simp at hc1; omega
  have w1 : IntKind.i64.wrap m = m := IntWalk.i64_in _ (by omega)
  have w2 : IntKind.i64.wrap (m % 32) = m % 32 := IntWalk.i64_in _ (by omega)
  have w3 : IntKind.i64.wrap (1 + m % 32) = (M : Int) := by rw [IntWalk.i64_in _ (by omega)]; exact hMN
  have w4 : IntKind.i64.wrap (M : Int) = M := IntWalk.i64_in _ (by omega)
  have w5 : IntKind.i64.wrap c = c := IntWalk.i64_in _ (by omega)
  have w6 : IntKind.i64.wrap (c.tmod 26) = K := by rw [hK]; exact IntWalk.i64_in _ (by omega)
  have w7 : IntKind.i64.wrap K = K := IntWalk.i64_in _ (by omega)
  have HKX : Hid (∀ i, IntKind.i64.wrap (atL L i * K) = atL L i * K) := Lib.hid (fun i => IntWalk.i64_in _ (by have := mul_k_bd (HBX.out i) hK1; omega))
  have HP : Hid (stepErr T L M = 0 ∧ stepErr T (mixL L K L.length) M = 0 ∧ stepErr T L.reverse M = 0) := Lib.hid ⟨stepErr_ok (by omega) (by omega) (phases_small HBX.out) (by omega), stepErr_ok (by omega) (by rw [mixL_len]; omega) (phases_mix HBX.out hK1 _) (by omega), stepErr_ok (by omega) (by rw [List.length_reverse]; omega) (phases_rev (phases_small HBX.out)) (by omega)⟩
  clear ha hL hTT hc1
  go_enter Try.func8, Try.ntmps8
  go_wp2_with fail
  refine HPC.out.mono ?_
  rintro e y1 ⟨q, qc, rfl, hs, hqc, hqp, hb⟩
  have hbx : Below y1.heap.size y1 (y1.alloc (.cells #[.int .i64 T, .slice q L.length qc] 24)) := below_alloc (Below.refl _ _) _
  have B1 := Lib.hid (hb.trans (hbx.mono hb.size))
  have HS1 := Lib.hid (hs.below hbx)
  have HQP := Lib.hid hqp
  have HQC := Lib.hid hqc
  have HR1 : Hid (SAt (y1.alloc (.cells #[.int .i64 T, .slice q L.length qc] 24)) y1.heap.size T (.slice q L.length qc)) := Lib.hid ⟨by simp, by simp⟩
  clear hb hs HPC hbx hqc hqp
  go_upto_region 3 with fail
  generalize y1.alloc (.cells #[.int .i64 T, .slice q L.length qc] 24) = X1 at *
  clear w1 w2 w3 w5 w6 hMN hK hm32 hM hC hT
  obtain ⟨c0, c1⟩ := HR1.out
  have hz := cell_lt c0
  go_cut [12] from 40 to 45 (fun sb wx => ∃ b p' c', sb = .pointer (some ⟨b, 0, none⟩) ∧ Hid (ClBox X1 wx b T (.slice p' L.length c') L))
  case first =>
    have hB0 : Below X1.heap.size X1 X1.drew := Below.drew (Below.refl _ _)
    go_region_held3 (fun w' => Below X1.heap.size X1 w' ∧ w'.cell? ⟨y1.heap.size, 0, none⟩ = some (.int .i64 T) ∧ w'.cell? ⟨y1.heap.size, 1, none⟩ = some (.slice q L.length qc))
      (first | exact keepB hB0 c0 c1 | exact keepB (below_alloc hB0 _) c0 c1 | exact keepB hb2 c0 c1 | exact keepB (below_alloc hb2 _) c0 c1 | exact keepB ((hb2.setCell (Nat.le_refl _) _).setCell (Nat.le_refl _) _) c0 c1 | exact keepB (((below_alloc hb2 _).setCell hb2.size _).setCell hb2.size _) c0 c1)
      (first | (go_at_call 21; refine (clone_bare X1 L q qc HS1.out HQP.out (by omega)).mono ?_; rintro e w2 ⟨p', c', rfl, hown, hb2⟩) |
        (go_at_call 21; refine (clone_box X1 L q qc 24 HS1.out HQP.out (by omega)).mono ?_; rintro e w2 ⟨p', c', rfl, hcl, hb2, ⟨k0, k1⟩, ⟨f0, f1⟩, hz2⟩))
    all_goals
      go_wp2_with fail
      go_meet
    · exact ⟨_, _, _, rfl, Lib.hid (ClBox.of_bare hown hb2)⟩
    · exact ⟨_, _, _, rfl, Lib.hid (ClBox.of_box hcl.1 hcl.2 hb2 k0 k1)⟩
  case rest =>
  obtain ⟨b12, p2, c2, rfl, HCB⟩ := hcut
  clear c0 c1 hz
  obtain ⟨g, hMo, hpg⟩ := HCB.out.more
  have HMo := Lib.hid hMo
  have HPG := Lib.hid hpg
  obtain ⟨c0, c1⟩ := hMo.s
  have hz := cell_lt c0
  clear hMo hpg HCB
  go_wp2
  clear c0 c1 hz
  go_loopw [49] (fun i wr => ∃ k : Nat, k ≤ L.length ∧ i = .int .i64 (k : Int) ∧ Hid (MoreAt X1 wr b12 g T (.slice p2 L.length c2) (mixL L K k))) (fun i _ => L.length - (intOf i).toNat)
  case atStart => exact ⟨0, Nat.zero_le _, rfl, Lib.hid (by rw [mixL_zero]; exact HMo.out)⟩
  case round =>
    obtain ⟨k, hk, rfl, HT⟩ := hrel
    by_cases hlt : k < L.length
    · have hkl : (k : Int) < (L.length : Int) := by omega
      obtain rfl := HPG.out (by omega)
      obtain ⟨s0, s1⟩ := HT.out.s
      obtain ⟨x0, f0⟩ := HT.out.i k (by rw [mixL_len]; omega)
      rw [mixL_get, if_neg (by omega)] at x0
      have hz := cell_lt s0
      have hz2 := cell_lt x0
      have kx := HKX.out k
      have HSt := HT.out.step k (by rw [mixL_len]; omega) (atL L k * K)
      rw [mixL_set] at HSt
      have HST := Lib.hid HSt
      clear HSt
      go_wp2_with fail
      go_roundw
      case rel => exact ⟨k + 1, by omega, by go_num, HST⟩
      case measure => simp [intOf]; omega
    · obtain rfl : k = L.length := by omega
      have HS2 := Lib.hid (HS1.out.below HT.out.bel)
      have HR2 := Lib.hid (HR1.out.below HT.out.bel)
      have HSM : Hid (SerIn wr (mixL L K L.length) p2) := Lib.hid (HT.out.ser (by rw [mixL_len]; omega) (by rw [mixL_len]; exact HPG.out))
      have HRM := Lib.hid HT.out.s
      have BW := Lib.hid (B1.out.trans (HT.out.bel.mono B1.out.size))
      clear HT HMo HPG HS1 HR1 B1 HKX
      go_upto_region 9 with fail
      obtain ⟨c0, c1⟩ := HR2.out
      have hz := cell_lt c0
      go_cut [14] from 61 to 66 (fun sb wx => ∃ b p' c', sb = .pointer (some ⟨b, 0, none⟩) ∧ Hid (ClBox wr wx b T (.slice p' L.length c') L))
      case first =>
        have hB0 : Below wr.heap.size wr wr.drew := Below.drew (Below.refl _ _)
        go_region_held3 (fun w' => Below wr.heap.size wr w' ∧ w'.cell? ⟨y1.heap.size, 0, none⟩ = some (.int .i64 T) ∧ w'.cell? ⟨y1.heap.size, 1, none⟩ = some (.slice q L.length qc))
          (first | exact keepB hB0 c0 c1 | exact keepB (below_alloc hB0 _) c0 c1 | exact keepB hb2 c0 c1 | exact keepB (below_alloc hb2 _) c0 c1 | exact keepB ((hb2.setCell (Nat.le_refl _) _).setCell (Nat.le_refl _) _) c0 c1 | exact keepB (((below_alloc hb2 _).setCell hb2.size _).setCell hb2.size _) c0 c1)
          (first | (go_at_call 21; refine (clone_bare wr L q qc HS2.out HQP.out (by omega)).mono ?_; rintro e w2 ⟨p', c', rfl, hown, hb2⟩) |
            (go_at_call 21; refine (clone_box wr L q qc 24 HS2.out HQP.out (by omega)).mono ?_; rintro e w2 ⟨p', c', rfl, hcl, hb2, ⟨k0, k1⟩, ⟨f0, f1⟩, hz2⟩))
        all_goals
          go_wp2_with fail
          go_meet
        · exact ⟨_, _, _, rfl, Lib.hid (ClBox.of_bare hown hb2)⟩
        · exact ⟨_, _, _, rfl, Lib.hid (ClBox.of_box hcl.1 hcl.2 hb2 k0 k1)⟩
      case rest =>
      obtain ⟨b14, p3, c3, rfl, HCB⟩ := hcut
      clear c0 c1 hz
      obtain ⟨c0, c1⟩ := HCB.out.s
      have hz := cell_lt c0
      go_wp2_with fail
      refine (rev_grow L (.slice p3 L.length c3) wr.heap.size _ HCB.out.own (by omega) HCB.out.bel.size).mono ?_
      rintro e y3 ⟨rfl, hown, hb3, hg3⟩
      have hcb3 : ClBox wr y3 b14 T (.slice p3 L.length c3) L.reverse := HCB.out.turned (by unfold OwnI; rw [List.length_reverse]; exact hown) hb3 hg3
      have HSs := Lib.hid (HS2.out.below hcb3.bel)
      have HRs := Lib.hid (HR2.out.below hcb3.bel)
      have HSM3 := Lib.hid (HSM.out.below hcb3.bel)
      have HRM3 := Lib.hid (HRM.out.below hcb3.bel)
      have HSB : Hid (SerIn y3 L.reverse p3) := Lib.hid (by
        obtain ⟨p4, c4, e, h, -⟩ := hcb3.own.ser
        injection e with e1 e2 e3
        subst e1
        exact ⟨by rw [List.length_reverse]; unfold maxLen; omega, h⟩)
      have HRB := Lib.hid hcb3.s
      have BW3 := Lib.hid (BW.out.trans (hcb3.bel.mono BW.out.size))
      clear hown hb3 hg3 hcb3 HCB HS2 HR2 HSM HRM BW c0 c1 hz
      obtain ⟨n0, d0, e0, n1, d1, e1, n2, d2, e2, n3, d3, e3, p0, q0, p1, q1, p2', q2, p3', q3, r0, s0, xa, xb, xc, xf, xg, xh, hv1, hv2, hv3, hv4, hq0, hq1, hq2, hq3⟩ := scales_plain HP.out.1 HP.out.2.1 HP.out.2.2 (mixL_times L K) (rev_turned L)
      have HV1 := Lib.hid hv1
      have HV2 := Lib.hid hv2
      have HV3 := Lib.hid hv3
      have HV4 := Lib.hid hv4
      have HQ0 := Lib.hid hq0
      have HQ1 := Lib.hid hq1
      have HQ2 := Lib.hid hq2
      have HQ3 := Lib.hid hq3
      clear hv1 hv2 hv3 hv4 hq0 hq1 hq2 hq3
      obtain ⟨c0, c1⟩ := HRs.out
      have hz := cell_lt c0
      go_wp2_with fail
      refine (all_at T L L.length rfl _ _ (M : Int) _ HSs.out _ HV1.out).mono ?_
      unfold fourVal
      dsimp only
      rintro e y4 ⟨rfl, hb⟩
      have hbx : Below y4.heap.size y4 ((y4.alloc (.cells #[.int .i64 n0, .int .i64 d0, .int .i64 n1, .int .i64 d1, .int .i64 n2, .int .i64 d2, .int .i64 n3, .int .i64 d3] 39)).alloc (.cells #[.int .i64 e0, .int .i64 e1, .int .i64 e2, .int .i64 e3] 41)) := below_alloc (below_alloc (Below.refl _ _) _) _
      have hby := hb.trans (hbx.mono hb.size)
      have HSs_1 := Lib.hid (HSs.out.below hby)
      have HRs_1 := Lib.hid (HRs.out.below hby)
      have HSM_1 := Lib.hid (HSM3.out.below hby)
      have HRM_1 := Lib.hid (HRM3.out.below hby)
      have HSB_1 := Lib.hid (HSB.out.below hby)
      have HRB_1 := Lib.hid (HRB.out.below hby)
      have BW_1 := Lib.hid (BW3.out.trans (hby.mono BW3.out.size))
      have JR1 : Hid (IntBox ((y4.alloc (.cells #[.int .i64 n0, .int .i64 d0, .int .i64 n1, .int .i64 d1, .int .i64 n2, .int .i64 d2, .int .i64 n3, .int .i64 d3] 39)).alloc (.cells #[.int .i64 e0, .int .i64 e1, .int .i64 e2, .int .i64 e3] 41)) y4.heap.size [n0, d0, n1, d1, n2, d2, n3, d3]) := Lib.hid ((IntBox.new y4 [n0, d0, n1, d1, n2, d2, n3, d3] 39).below (below_alloc (Below.refl _ _) _))
      have JE1 : Hid (IntBox ((y4.alloc (.cells #[.int .i64 n0, .int .i64 d0, .int .i64 n1, .int .i64 d1, .int .i64 n2, .int .i64 d2, .int .i64 n3, .int .i64 d3] 39)).alloc (.cells #[.int .i64 e0, .int .i64 e1, .int .i64 e2, .int .i64 e3] 41)) (y4.heap.size + 1) [e0, e1, e2, e3]) := Lib.hid (by
        have h := IntBox.new (y4.alloc (.cells #[.int .i64 n0, .int .i64 d0, .int .i64 n1, .int .i64 d1, .int .i64 n2, .int .i64 d2, .int .i64 n3, .int .i64 d3] 39)) [e0, e1, e2, e3] 41
        rwa [show (y4.alloc (.cells #[.int .i64 n0, .int .i64 d0, .int .i64 n1, .int .i64 d1, .int .i64 n2, .int .i64 d2, .int .i64 n3, .int .i64 d3] 39)).heap.size = y4.heap.size + 1 by simp] at h)
      clear hb hbx hby c0 c1 hz HSs HRs HSM3 HRM3 HSB HRB BW3 
      go_upto_region 12 with fail
      generalize ((y4.alloc (.cells #[.int .i64 n0, .int .i64 d0, .int .i64 n1, .int .i64 d1, .int .i64 n2, .int .i64 d2, .int .i64 n3, .int .i64 d3] 39)).alloc (.cells #[.int .i64 e0, .int .i64 e1, .int .i64 e2, .int .i64 e3] 41)) = X11 at *
      obtain ⟨c0, c1⟩ := HRM_1.out
      have hz := cell_lt c0
      go_wp2_with fail
      refine (all_at T (mixL L K L.length) L.length (mixL_len _ _ _) _ _ (M : Int) _ HSM_1.out _ HV2.out).mono ?_
      unfold fourVal
      dsimp only
      rintro e y5 ⟨rfl, hb⟩
      have hbx : Below y5.heap.size y5 ((y5.alloc (.cells #[.int .i64 p0, .int .i64 q0, .int .i64 p1, .int .i64 q1, .int .i64 p2', .int .i64 q2, .int .i64 p3', .int .i64 q3] 39)).alloc (.cells #[.int .i64 e0, .int .i64 e1, .int .i64 e2, .int .i64 e3] 41)) := below_alloc (below_alloc (Below.refl _ _) _) _
      have hby := hb.trans (hbx.mono hb.size)
      have HSs_2 := Lib.hid (HSs_1.out.below hby)
      have HRs_2 := Lib.hid (HRs_1.out.below hby)
      have HSM_2 := Lib.hid (HSM_1.out.below hby)
      have HRM_2 := Lib.hid (HRM_1.out.below hby)
      have HSB_2 := Lib.hid (HSB_1.out.below hby)
      have HRB_2 := Lib.hid (HRB_1.out.below hby)
      have BW_2 := Lib.hid (BW_1.out.trans (hby.mono BW_1.out.size))
      have JR1_2 := Lib.hid (JR1.out.below hby)
      have JE1_2 := Lib.hid (JE1.out.below hby)
      have JR2 : Hid (IntBox ((y5.alloc (.cells #[.int .i64 p0, .int .i64 q0, .int .i64 p1, .int .i64 q1, .int .i64 p2', .int .i64 q2, .int .i64 p3', .int .i64 q3] 39)).alloc (.cells #[.int .i64 e0, .int .i64 e1, .int .i64 e2, .int .i64 e3] 41)) y5.heap.size [p0, q0, p1, q1, p2', q2, p3', q3]) := Lib.hid ((IntBox.new y5 [p0, q0, p1, q1, p2', q2, p3', q3] 39).below (below_alloc (Below.refl _ _) _))
      have JE2 : Hid (IntBox ((y5.alloc (.cells #[.int .i64 p0, .int .i64 q0, .int .i64 p1, .int .i64 q1, .int .i64 p2', .int .i64 q2, .int .i64 p3', .int .i64 q3] 39)).alloc (.cells #[.int .i64 e0, .int .i64 e1, .int .i64 e2, .int .i64 e3] 41)) (y5.heap.size + 1) [e0, e1, e2, e3]) := Lib.hid (by
        have h := IntBox.new (y5.alloc (.cells #[.int .i64 p0, .int .i64 q0, .int .i64 p1, .int .i64 q1, .int .i64 p2', .int .i64 q2, .int .i64 p3', .int .i64 q3] 39)) [e0, e1, e2, e3] 41
        rwa [show (y5.alloc (.cells #[.int .i64 p0, .int .i64 q0, .int .i64 p1, .int .i64 q1, .int .i64 p2', .int .i64 q2, .int .i64 p3', .int .i64 q3] 39)).heap.size = y5.heap.size + 1 by simp] at h)
      clear hb hbx hby c0 c1 hz HSs_1 HRs_1 HSM_1 HRM_1 HSB_1 HRB_1 BW_1 JR1 JE1
      go_upto_region 13 with fail
      generalize ((y5.alloc (.cells #[.int .i64 p0, .int .i64 q0, .int .i64 p1, .int .i64 q1, .int .i64 p2', .int .i64 q2, .int .i64 p3', .int .i64 q3] 39)).alloc (.cells #[.int .i64 e0, .int .i64 e1, .int .i64 e2, .int .i64 e3] 41)) = X12 at *
      obtain ⟨c0, c1⟩ := HRB_2.out
      have hz := cell_lt c0
      go_wp2_with fail
      refine (all_at T L.reverse L.length List.length_reverse _ _ (M : Int) _ HSB_2.out _ HV3.out).mono ?_
      unfold fourVal
      dsimp only
      rintro e y6 ⟨rfl, hb⟩
      have hbx : Below y6.heap.size y6 ((y6.alloc (.cells #[.int .i64 r0, .int .i64 s0, .int .i64 n1, .int .i64 d1, .int .i64 n2, .int .i64 d2, .int .i64 n3, .int .i64 d3] 39)).alloc (.cells #[.int .i64 e0, .int .i64 e1, .int .i64 e2, .int .i64 e3] 41)) := below_alloc (below_alloc (Below.refl _ _) _) _
      have hby := hb.trans (hbx.mono hb.size)
      have HSs_3 := Lib.hid (HSs_2.out.below hby)
      have HRs_3 := Lib.hid (HRs_2.out.below hby)
      have HSB_3 := Lib.hid (HSB_2.out.below hby)
      have HRB_3 := Lib.hid (HRB_2.out.below hby)
      have BW_3 := Lib.hid (BW_2.out.trans (hby.mono BW_2.out.size))
      have JR1_2_3 := Lib.hid (JR1_2.out.below hby)
      have JE1_2_3 := Lib.hid (JE1_2.out.below hby)
      have JR2_3 := Lib.hid (JR2.out.below hby)
      have JE2_3 := Lib.hid (JE2.out.below hby)
      have JR3 : Hid (IntBox ((y6.alloc (.cells #[.int .i64 r0, .int .i64 s0, .int .i64 n1, .int .i64 d1, .int .i64 n2, .int .i64 d2, .int .i64 n3, .int .i64 d3] 39)).alloc (.cells #[.int .i64 e0, .int .i64 e1, .int .i64 e2, .int .i64 e3] 41)) y6.heap.size [r0, s0, n1, d1, n2, d2, n3, d3]) := Lib.hid ((IntBox.new y6 [r0, s0, n1, d1, n2, d2, n3, d3] 39).below (below_alloc (Below.refl _ _) _))
      have JE3 : Hid (IntBox ((y6.alloc (.cells #[.int .i64 r0, .int .i64 s0, .int .i64 n1, .int .i64 d1, .int .i64 n2, .int .i64 d2, .int .i64 n3, .int .i64 d3] 39)).alloc (.cells #[.int .i64 e0, .int .i64 e1, .int .i64 e2, .int .i64 e3] 41)) (y6.heap.size + 1) [e0, e1, e2, e3]) := Lib.hid (by
        have h := IntBox.new (y6.alloc (.cells #[.int .i64 r0, .int .i64 s0, .int .i64 n1, .int .i64 d1, .int .i64 n2, .int .i64 d2, .int .i64 n3, .int .i64 d3] 39)) [e0, e1, e2, e3] 41
        rwa [show (y6.alloc (.cells #[.int .i64 r0, .int .i64 s0, .int .i64 n1, .int .i64 d1, .int .i64 n2, .int .i64 d2, .int .i64 n3, .int .i64 d3] 39)).heap.size = y6.heap.size + 1 by simp] at h)
      clear hb hbx hby c0 c1 hz HSs_2 HRs_2 HSM_2 HRM_2 HSB_2 HRB_2 BW_2 JR1_2 JE1_2 JR2 JE2
      go_upto_region 14 with fail
      generalize ((y6.alloc (.cells #[.int .i64 r0, .int .i64 s0, .int .i64 n1, .int .i64 d1, .int .i64 n2, .int .i64 d2, .int .i64 n3, .int .i64 d3] 39)).alloc (.cells #[.int .i64 e0, .int .i64 e1, .int .i64 e2, .int .i64 e3] 41)) = X13 at *
      obtain ⟨c0, c1⟩ := HRs_3.out
      have hz := cell_lt c0
      go_wp2_with fail
      refine (all_at T L L.length rfl _ _ 1 _ HSs_3.out _ HV4.out).mono ?_
      unfold fourVal
      dsimp only
      rintro e y7 ⟨rfl, hb⟩
      have hbx : Below y7.heap.size y7 ((y7.alloc (.cells #[.int .i64 xa, .int .i64 xb, .int .i64 xa, .int .i64 xb, .int .i64 xa, .int .i64 xb, .int .i64 xf, .int .i64 xg] 39)).alloc (.cells #[.int .i64 xc, .int .i64 xc, .int .i64 xc, .int .i64 xh] 41)) := below_alloc (below_alloc (Below.refl _ _) _) _
      have hby := hb.trans (hbx.mono hb.size)
      have HSs_4 := Lib.hid (HSs_3.out.below hby)
      have HRs_4 := Lib.hid (HRs_3.out.below hby)
      have BW_4 := Lib.hid (BW_3.out.trans (hby.mono BW_3.out.size))
      have JR1_2_3_4 := Lib.hid (JR1_2_3.out.below hby)
      have JE1_2_3_4 := Lib.hid (JE1_2_3.out.below hby)
      have JR2_3_4 := Lib.hid (JR2_3.out.below hby)
      have JE2_3_4 := Lib.hid (JE2_3.out.below hby)
      have JR3_4 := Lib.hid (JR3.out.below hby)
      have JE3_4 := Lib.hid (JE3.out.below hby)
      have JR4 : Hid (IntBox ((y7.alloc (.cells #[.int .i64 xa, .int .i64 xb, .int .i64 xa, .int .i64 xb, .int .i64 xa, .int .i64 xb, .int .i64 xf, .int .i64 xg] 39)).alloc (.cells #[.int .i64 xc, .int .i64 xc, .int .i64 xc, .int .i64 xh] 41)) y7.heap.size [xa, xb, xa, xb, xa, xb, xf, xg]) := Lib.hid ((IntBox.new y7 [xa, xb, xa, xb, xa, xb, xf, xg] 39).below (below_alloc (Below.refl _ _) _))
      have JE4 : Hid (IntBox ((y7.alloc (.cells #[.int .i64 xa, .int .i64 xb, .int .i64 xa, .int .i64 xb, .int .i64 xa, .int .i64 xb, .int .i64 xf, .int .i64 xg] 39)).alloc (.cells #[.int .i64 xc, .int .i64 xc, .int .i64 xc, .int .i64 xh] 41)) (y7.heap.size + 1) [xc, xc, xc, xh]) := Lib.hid (by
        have h := IntBox.new (y7.alloc (.cells #[.int .i64 xa, .int .i64 xb, .int .i64 xa, .int .i64 xb, .int .i64 xa, .int .i64 xb, .int .i64 xf, .int .i64 xg] 39)) [xc, xc, xc, xh] 41
        rwa [show (y7.alloc (.cells #[.int .i64 xa, .int .i64 xb, .int .i64 xa, .int .i64 xb, .int .i64 xa, .int .i64 xb, .int .i64 xf, .int .i64 xg] 39)).heap.size = y7.heap.size + 1 by simp] at h)
      clear hb hbx hby c0 c1 hz HSs_3 HRs_3 HSB_3 HRB_3 BW_3 JR1_2_3 JE1_2_3 JR2_3 JE2_3 JR3 JE3
      go_upto_region 15 with fail
      generalize ((y7.alloc (.cells #[.int .i64 xa, .int .i64 xb, .int .i64 xa, .int .i64 xb, .int .i64 xa, .int .i64 xb, .int .i64 xf, .int .i64 xg] 39)).alloc (.cells #[.int .i64 xc, .int .i64 xc, .int .i64 xc, .int .i64 xh] 41)) = X14 at *
      have HA1 := Lib.hid JR1_2_3_4.out
      have HA2 := Lib.hid JE1_2_3_4.out
      have HA3 := Lib.hid JR2_3_4.out
      have HA4 := Lib.hid JE2_3_4.out
      have HA5 := Lib.hid JR3_4.out
      have HA6 := Lib.hid JE3_4.out
      have HA7 := Lib.hid JR4.out
      have HA8 := Lib.hid JE4.out
      have HSS := Lib.hid HSs_4.out
      have HRR := Lib.hid HRs_4.out
      have HBW := Lib.hid BW_4.out
      clear HSs_4 HRs_4 BW_4 JR1_2_3_4 JR2_3_4 JR3_4 JR4 JE1_2_3_4 JE2_3_4 JE3_4 JE4
      have ra2 := (HA1.out 2 (by simp)).1
      have ra3 := (HA1.out 3 (by simp)).1
      have ra4 := (HA1.out 4 (by simp)).1
      have ra5 := (HA1.out 5 (by simp)).1
      have ra6 := (HA1.out 6 (by simp)).1
      have ra7 := (HA1.out 7 (by simp)).1
      simp only [List.getElem_cons_zero, List.getElem_cons_succ] at ra2 ra3 ra4 ra5 ra6 ra7
      have zra := cell_lt ra2
      have ea0 := (HA2.out 0 (by simp)).1
      have ea1 := (HA2.out 1 (by simp)).1
      have ea2 := (HA2.out 2 (by simp)).1
      have ea3 := (HA2.out 3 (by simp)).1
      simp only [List.getElem_cons_zero, List.getElem_cons_succ] at ea0 ea1 ea2 ea3
      have zea := cell_lt ea0
      have eb0 := (HA4.out 0 (by simp)).1
      have eb1 := (HA4.out 1 (by simp)).1
      have eb2 := (HA4.out 2 (by simp)).1
      have eb3 := (HA4.out 3 (by simp)).1
      simp only [List.getElem_cons_zero, List.getElem_cons_succ] at eb0 eb1 eb2 eb3
      have zeb := cell_lt eb0
      have rc2 := (HA5.out 2 (by simp)).1
      have rc3 := (HA5.out 3 (by simp)).1
      have rc4 := (HA5.out 4 (by simp)).1
      have rc5 := (HA5.out 5 (by simp)).1
      have rc6 := (HA5.out 6 (by simp)).1
      have rc7 := (HA5.out 7 (by simp)).1
      simp only [List.getElem_cons_zero, List.getElem_cons_succ] at rc2 rc3 rc4 rc5 rc6 rc7
      have zrc := cell_lt rc2
      have ec0 := (HA6.out 0 (by simp)).1
      have ec1 := (HA6.out 1 (by simp)).1
      have ec2 := (HA6.out 2 (by simp)).1
      have ec3 := (HA6.out 3 (by simp)).1
      simp only [List.getElem_cons_zero, List.getElem_cons_succ] at ec0 ec1 ec2 ec3
      have zec := cell_lt ec0
      have rd0 := (HA7.out 0 (by simp)).1
      have rd1 := (HA7.out 1 (by simp)).1
      have rd2 := (HA7.out 2 (by simp)).1
      have rd3 := (HA7.out 3 (by simp)).1
      have rd4 := (HA7.out 4 (by simp)).1
      have rd5 := (HA7.out 5 (by simp)).1
      simp only [List.getElem_cons_zero, List.getElem_cons_succ] at rd0 rd1 rd2 rd3 rd4 rd5
      have zrd := cell_lt rd0
      have ed0 := (HA8.out 0 (by simp)).1
      have ed1 := (HA8.out 1 (by simp)).1
      have ed2 := (HA8.out 2 (by simp)).1
      simp only [List.getElem_cons_zero, List.getElem_cons_succ] at ed0 ed1 ed2
      have zed := cell_lt ed0
      go_upto_region 17 with fail
      clear ra2 ra3 ra4 ra5 ra6 ra7 zra ea0 ea1 ea2 ea3 zea eb0 eb1 eb2 eb3 zeb rc2 rc3 rc4 rc5 rc6 rc7 zrc ec0 ec1 ec2 ec3 zec rd0 rd1 rd2 rd3 rd4 rd5 zrd ed0 ed1 ed2 zed
      go_wp2
      go_loopw [150] (fun i wr => ∃ k : Nat, k ≤ 4 ∧ i = .int .i64 (k : Int) ∧ Hid (Below X14.heap.size X14 wr)) (fun i _ => 4 - (intOf i).toNat)
      case atStart => exact ⟨0, by omega, rfl, Lib.hid (Below.refl _ _)⟩
      case round =>
        obtain ⟨k, hk, rfl, HB⟩ := hrel
        have hk' : k = 0 ∨ k = 1 ∨ k = 2 ∨ k = 3 ∨ k = 4 := by omega
        clear hk
        rcases hk' with rfl | rfl | rfl | rfl | rfl
        · have f1 := cell_below HB.out (HA1.out 0 (by simp)).1
          have f2 := cell_below HB.out (HA1.out 1 (by simp)).1
          have f3 := cell_below HB.out (HA3.out 0 (by simp)).1
          have f4 := cell_below HB.out (HA3.out 1 (by simp)).1
          have f5 := cell_below HB.out (HA2.out 0 (by simp)).1
          simp only [List.getElem_cons_zero, List.getElem_cons_succ] at f1 f2 f3 f4 f5
          have z1 := cell_lt f1
          have z3 := cell_lt f3
          have z5 := cell_lt f5
          by_cases he : e0 = 0
          · have heq := HQ0.out he
            subst he
            obtain ⟨u1, g1⟩ : ∃ u, IntKind.i64.wrap (n0 * K) = u := ⟨_, rfl⟩
            obtain ⟨u2, g2⟩ : ∃ u, IntKind.i64.wrap (u1 * K) = u := ⟨_, rfl⟩
            obtain ⟨u3, g3⟩ : ∃ u, IntKind.i64.wrap (u2 * q0) = u := ⟨_, rfl⟩
            have g4 : IntKind.i64.wrap (p0 * d0) = u3 := by rw [heq, ← g3, ← g2, ← g1, wrap3]
            clear heq
            go_upto_region 20 with fail
            go_quiet (fail)
            go_wp2_with fail
            go_roundw
            case rel => exact ⟨1, by omega, by go_num, Lib.hid (below_drewN HB.out _)⟩
            case measure => simp [intOf]
          · have hd : decide (e0 = 0) = false := by simpa using he
            have hd2 : (e0 == 0) = false := by simpa using he
            clear he
            go_upto_region 20 with fail
            go_quiet (fail)
            go_wp2_with fail
            go_roundw
            case rel => exact ⟨1, by omega, by go_num, Lib.hid (below_drewN HB.out _)⟩
            case measure => simp [intOf]
        · have f1 := cell_below HB.out (HA1.out 2 (by simp)).1
          have f2 := cell_below HB.out (HA1.out 3 (by simp)).1
          have f3 := cell_below HB.out (HA3.out 2 (by simp)).1
          have f4 := cell_below HB.out (HA3.out 3 (by simp)).1
          have f5 := cell_below HB.out (HA2.out 1 (by simp)).1
          simp only [List.getElem_cons_zero, List.getElem_cons_succ] at f1 f2 f3 f4 f5
          have z1 := cell_lt f1
          have z3 := cell_lt f3
          have z5 := cell_lt f5
          by_cases he : e1 = 0
          · have heq := HQ1.out he
            subst he
            obtain ⟨u1, g1⟩ : ∃ u, IntKind.i64.wrap (n1 * K) = u := ⟨_, rfl⟩
            obtain ⟨u2, g2⟩ : ∃ u, IntKind.i64.wrap (u1 * K) = u := ⟨_, rfl⟩
            obtain ⟨u3, g3⟩ : ∃ u, IntKind.i64.wrap (u2 * q1) = u := ⟨_, rfl⟩
            have g4 : IntKind.i64.wrap (p1 * d1) = u3 := by rw [heq, ← g3, ← g2, ← g1, wrap3]
            clear heq
            go_upto_region 20 with fail
            go_quiet (fail)
            go_wp2_with fail
            go_roundw
            case rel => exact ⟨2, by omega, by go_num, Lib.hid (below_drewN HB.out _)⟩
            case measure => simp [intOf]
          · have hd : decide (e1 = 0) = false := by simpa using he
            have hd2 : (e1 == 0) = false := by simpa using he
            clear he
            go_upto_region 20 with fail
            go_quiet (fail)
            go_wp2_with fail
            go_roundw
            case rel => exact ⟨2, by omega, by go_num, Lib.hid (below_drewN HB.out _)⟩
            case measure => simp [intOf]
        · have f1 := cell_below HB.out (HA1.out 4 (by simp)).1
          have f2 := cell_below HB.out (HA1.out 5 (by simp)).1
          have f3 := cell_below HB.out (HA3.out 4 (by simp)).1
          have f4 := cell_below HB.out (HA3.out 5 (by simp)).1
          have f5 := cell_below HB.out (HA2.out 2 (by simp)).1
          simp only [List.getElem_cons_zero, List.getElem_cons_succ] at f1 f2 f3 f4 f5
          have z1 := cell_lt f1
          have z3 := cell_lt f3
          have z5 := cell_lt f5
          by_cases he : e2 = 0
          · have heq := HQ2.out he
            subst he
            obtain ⟨u1, g1⟩ : ∃ u, IntKind.i64.wrap (n2 * K) = u := ⟨_, rfl⟩
            obtain ⟨u2, g2⟩ : ∃ u, IntKind.i64.wrap (u1 * K) = u := ⟨_, rfl⟩
            obtain ⟨u3, g3⟩ : ∃ u, IntKind.i64.wrap (u2 * q2) = u := ⟨_, rfl⟩
            have g4 : IntKind.i64.wrap (p2' * d2) = u3 := by rw [heq, ← g3, ← g2, ← g1, wrap3]
            clear heq
            go_upto_region 20 with fail
            go_quiet (fail)
            go_wp2_with fail
            go_roundw
            case rel => exact ⟨3, by omega, by go_num, Lib.hid (below_drewN HB.out _)⟩
            case measure => simp [intOf]
          · have hd : decide (e2 = 0) = false := by simpa using he
            have hd2 : (e2 == 0) = false := by simpa using he
            clear he
            go_upto_region 20 with fail
            go_quiet (fail)
            go_wp2_with fail
            go_roundw
            case rel => exact ⟨3, by omega, by go_num, Lib.hid (below_drewN HB.out _)⟩
            case measure => simp [intOf]
        · have f1 := cell_below HB.out (HA1.out 6 (by simp)).1
          have f2 := cell_below HB.out (HA1.out 7 (by simp)).1
          have f3 := cell_below HB.out (HA3.out 6 (by simp)).1
          have f4 := cell_below HB.out (HA3.out 7 (by simp)).1
          have f5 := cell_below HB.out (HA2.out 3 (by simp)).1
          simp only [List.getElem_cons_zero, List.getElem_cons_succ] at f1 f2 f3 f4 f5
          have z1 := cell_lt f1
          have z3 := cell_lt f3
          have z5 := cell_lt f5
          by_cases he : e3 = 0
          · have heq := HQ3.out he
            subst he
            obtain ⟨u1, g1⟩ : ∃ u, IntKind.i64.wrap (n3 * K) = u := ⟨_, rfl⟩
            obtain ⟨u2, g2⟩ : ∃ u, IntKind.i64.wrap (u1 * K) = u := ⟨_, rfl⟩
            obtain ⟨u3, g3⟩ : ∃ u, IntKind.i64.wrap (u2 * q3) = u := ⟨_, rfl⟩
            have g4 : IntKind.i64.wrap (p3' * d3) = u3 := by rw [heq, ← g3, ← g2, ← g1, wrap3]
            clear heq
            go_upto_region 20 with fail
            go_quiet (fail)
            go_wp2_with fail
            go_roundw
            case rel => exact ⟨4, by omega, by go_num, Lib.hid (below_drewN HB.out _)⟩
            case measure => simp [intOf]
          · have hd : decide (e3 = 0) = false := by simpa using he
            have hd2 : (e3 == 0) = false := by simpa using he
            clear he
            go_upto_region 20 with fail
            go_quiet (fail)
            go_wp2_with fail
            go_roundw
            case rel => exact ⟨4, by omega, by go_num, Lib.hid (below_drewN HB.out _)⟩
            case measure => simp [intOf]
        · have hmod : modifiedE T L M = ⟨n2, d2, e2⟩ := congrArg FourV.c HV1.out
          have hall : allanE T L M = ⟨n0, d0, e0⟩ := congrArg FourV.a HV1.out
          obtain ⟨tx, ty, htm, hte⟩ := scales_time (tau := T) (m := M) (L := L)
          rw [hmod] at htm hte
          have HTM := Lib.hid htm
          have HTE := Lib.hid hte
          have HAL := Lib.hid hall
          have kMT : IntKind.i64.wrap ((M : Int) * T) = M * T := IntWalk.i64_in _ (by have := mul_bd2 (x := (M : Int)) (y := T) (a := 32) (b := 256) (by omega) (by omega); omega)
          clear hmod hall htm hte HQ0 HQ1 HQ2 HQ3 HV1 HV2 HV3 HV4 HA3 HA4 HA5 HA6 HA7 HA8
          have HSSa := Lib.hid (HSS.out.below HB.out)
          have HRRa := Lib.hid (HRR.out.below HB.out)
          have HA1a := Lib.hid (HA1.out.below HB.out)
          have HA2a := Lib.hid (HA2.out.below HB.out)
          have HBWa := Lib.hid (HBW.out.trans (HB.out.mono HBW.out.size))
          clear HSS HRR HA1 HA2 HBW
          obtain ⟨c0, c1⟩ := HRRa.out
          have hz := cell_lt c0
          by_cases hmt : (M : Int) * T ≤ 1000
          · go_wp2_with fail
            refine (thin_any T L q qc M _ HSSa.out HQC.out hM1 HP.out.1 hmt).mono ?_
            rintro e y8 ⟨l', qt, ct, rfl, hth, hst, hse, hb⟩
            have hbx : Below y8.heap.size y8 (y8.alloc (.cells #[.int .i64 ((M : Int) * T), .slice qt l'.length ct] 24)) := below_alloc (Below.refl _ _) _
            have hby := hb.trans (hbx.mono hb.size)
            have HSSb := Lib.hid (HSSa.out.below hby)
            have HRRb := Lib.hid (HRRa.out.below hby)
            have HA1b := Lib.hid (HA1a.out.below hby)
            have HA2b := Lib.hid (HA2a.out.below hby)
            have HBWb := Lib.hid (HBWa.out.trans (hby.mono HBWa.out.size))
            have HST := Lib.hid (hst.below hbx)
            have HRT : Hid (SAt (y8.alloc (.cells #[.int .i64 ((M : Int) * T), .slice qt l'.length ct] 24)) y8.heap.size ((M : Int) * T) (.slice qt l'.length ct)) := Lib.hid ⟨by simp, by simp⟩
            have HAT : Hid (allanE ((M : Int) * T) l' 1 = ⟨n0, d0, e0⟩) := Lib.hid ((thin_allan hth hM1.1 HP.out.1 hse).trans HAL.out)
            clear hb hbx hby hth hst hse c0 c1 hz HSSa HRRa HA1a HA2a HBWa
            go_upto_region 25 with fail
            generalize y8.alloc (.cells #[.int .i64 ((M : Int) * T), .slice qt l'.length ct] 24) = X8 at *
            obtain ⟨c0, c1⟩ := HRT.out
            have hz := cell_lt c0
            go_wp2_with fail
            refine (allan_at ((M : Int) * T) l' qt ct 1 _ HST.out _ HAT.out).mono ?_
            rintro e y9 ⟨rfl, hb⟩
            have hby := hb.trans ((below_alloc (Below.refl y9.heap.size y9) (.cells #[.int .i64 n0, .int .i64 d0] 28)).mono hb.size)
            have HSSc := Lib.hid (HSSb.out.below hby)
            have HRRc := Lib.hid (HRRb.out.below hby)
            have HA1c := Lib.hid (HA1b.out.below hby)
            have HA2c := Lib.hid (HA2b.out.below hby)
            have HBWc := Lib.hid (HBWb.out.trans (hby.mono HBWb.out.size))
            have HBA : Hid (RBox (y9.alloc (.cells #[.int .i64 n0, .int .i64 d0] 28)) y9.heap.size n0 d0) := Lib.hid (RBox.new _ _ _ _)
            clear hb hby c0 c1 hz HSSb HRRb HA1b HA2b HBWb HST HRT HAT
            go_upto_region 26 with fail
            generalize y9.alloc (.cells #[.int .i64 n0, .int .i64 d0] 28) = X9 at *
            obtain ⟨b0, b1, -, -⟩ := HBA.out
            have f0 := (HA1c.out 0 (by simp)).1
            have f1 := (HA1c.out 1 (by simp)).1
            have f2 := (HA2c.out 0 (by simp)).1
            simp only [List.getElem_cons_zero, List.getElem_cons_succ] at f0 f1 f2
            have z1 := cell_lt b0
            have z2 := cell_lt f0
            have z3 := cell_lt f2
            go_upto_region 30 with fail
            clear b0 b1 f0 f1 f2 z1 z2 z3 HBA
            obtain ⟨c0, c1⟩ := HRRc.out
            have hz := cell_lt c0
            go_wp2_with fail
            refine (time_at T L q qc M _ HSSc.out _ HTM.out).mono ?_
            rintro e y10 ⟨rfl, hb⟩
            have hby := hb.trans ((below_alloc (Below.refl y10.heap.size y10) (.cells #[.int .i64 tx, .int .i64 ty] 28)).mono hb.size)
            have HSSct := Lib.hid (HSSc.out.below hby)
            have HRRct := Lib.hid (HRRc.out.below hby)
            have HA1ct := Lib.hid (HA1c.out.below hby)
            have HA2ct := Lib.hid (HA2c.out.below hby)
            have HBWct := Lib.hid (HBWc.out.trans (hby.mono HBWc.out.size))
            have HBT : Hid (RBox (y10.alloc (.cells #[.int .i64 tx, .int .i64 ty] 28)) y10.heap.size tx ty) := Lib.hid (RBox.new _ _ _ _)
            clear hb hby c0 c1 hz HSSc HRRc HA1c HA2c HBWc
            go_upto_region 31 with fail
            generalize y10.alloc (.cells #[.int .i64 tx, .int .i64 ty] 28) = X10 at *
            obtain ⟨c0, c1⟩ := HRRct.out
            obtain ⟨b0, b1, -, -⟩ := HBT.out
            have f4 := (HA1ct.out 4 (by simp)).1
            have f5 := (HA1ct.out 5 (by simp)).1
            have f2 := (HA2ct.out 2 (by simp)).1
            simp only [List.getElem_cons_zero, List.getElem_cons_succ] at f4 f5 f2
            have z0 := cell_lt c0
            have z1 := cell_lt b0
            have z2 := cell_lt f4
            have z3 := cell_lt f2
            by_cases he : e2 = 0
            · have heq := HTE.out he
              subst he
              obtain ⟨v1, g1⟩ : ∃ u, IntKind.i64.wrap (3 * tx) = u := ⟨_, rfl⟩
              obtain ⟨v3, g3⟩ : ∃ u, IntKind.i64.wrap (n2 * M) = u := ⟨_, rfl⟩
              obtain ⟨v4, g4⟩ : ∃ u, IntKind.i64.wrap (v3 * M) = u := ⟨_, rfl⟩
              obtain ⟨v5, g5⟩ : ∃ u, IntKind.i64.wrap (v4 * T) = u := ⟨_, rfl⟩
              obtain ⟨v6, g6⟩ : ∃ u, IntKind.i64.wrap (v5 * T) = u := ⟨_, rfl⟩
              obtain ⟨v2, g2⟩ : ∃ u, IntKind.i64.wrap (v1 * d2) = u := ⟨_, rfl⟩
              have g7 : IntKind.i64.wrap (v6 * ty) = v2 := by rw [← g2, ← g1, ← g6, ← g5, ← g4, ← g3, wrap5, wrap_mul_l, heq]
              clear heq HTE
              go_wp2_with fail
              refine (awake_any _).mono ?_
              rintro e y11 ⟨rfl, hb⟩
              have HF := Lib.hid (HBWct.out.trans (hb.mono HBWct.out.size))
              clear hb
              go_wp2
              go_ret
              exact ⟨rfl, HF.out⟩
            · have hd : decide (e2 = 0) = false := by simpa using he
              have hd2 : (e2 == 0) = false := by simpa using he
              have hd3 : (e2 != 0) = true := by simpa using he
              clear HTE
              go_wp2_with fail
              refine (awake_any _).mono ?_
              rintro e y11 ⟨rfl, hb⟩
              have HF := Lib.hid (HBWct.out.trans (hb.mono HBWct.out.size))
              clear hb
              go_wp2
              go_ret
              exact ⟨rfl, HF.out⟩
          · go_wp2_with fail
            refine (thin_far T L q qc M _ HSSa.out hM1 (by omega) HP.out.1 (by omega)).mono ?_
            rintro e y8 ⟨rfl, hb⟩
            have hby := hb.trans ((below_alloc (Below.refl y8.heap.size y8) (.cells #[.int .i64 0, .slice none 0 0] 24)).mono hb.size)
            have HSSb := Lib.hid (HSSa.out.below hby)
            have HRRb := Lib.hid (HRRa.out.below hby)
            have HA1b := Lib.hid (HA1a.out.below hby)
            have HA2b := Lib.hid (HA2a.out.below hby)
            have HBWb := Lib.hid (HBWa.out.trans (hby.mono HBWa.out.size))
            clear hb hby c0 c1 hz HSSa HRRa HA1a HA2a HBWa
            go_upto_region 28 with fail
            generalize y8.alloc (.cells #[.int .i64 0, .slice none 0 0] 24) = X8 at *
            obtain ⟨c0, c1⟩ := HRRb.out
            have hz := cell_lt c0
            go_upto_region 30 with fail
            clear c0 c1 hz
            obtain ⟨c0, c1⟩ := HRRb.out
            have hz := cell_lt c0
            go_wp2_with fail
            refine (time_at T L q qc M _ HSSb.out _ HTM.out).mono ?_
            rintro e y10 ⟨rfl, hb⟩
            have hby := hb.trans ((below_alloc (Below.refl y10.heap.size y10) (.cells #[.int .i64 tx, .int .i64 ty] 28)).mono hb.size)
            have HSSbt := Lib.hid (HSSb.out.below hby)
            have HRRbt := Lib.hid (HRRb.out.below hby)
            have HA1bt := Lib.hid (HA1b.out.below hby)
            have HA2bt := Lib.hid (HA2b.out.below hby)
            have HBWbt := Lib.hid (HBWb.out.trans (hby.mono HBWb.out.size))
            have HBT : Hid (RBox (y10.alloc (.cells #[.int .i64 tx, .int .i64 ty] 28)) y10.heap.size tx ty) := Lib.hid (RBox.new _ _ _ _)
            clear hb hby c0 c1 hz HSSb HRRb HA1b HA2b HBWb
            go_upto_region 31 with fail
            generalize y10.alloc (.cells #[.int .i64 tx, .int .i64 ty] 28) = X10 at *
            obtain ⟨c0, c1⟩ := HRRbt.out
            obtain ⟨b0, b1, -, -⟩ := HBT.out
            have f4 := (HA1bt.out 4 (by simp)).1
            have f5 := (HA1bt.out 5 (by simp)).1
            have f2 := (HA2bt.out 2 (by simp)).1
            simp only [List.getElem_cons_zero, List.getElem_cons_succ] at f4 f5 f2
            have z0 := cell_lt c0
            have z1 := cell_lt b0
            have z2 := cell_lt f4
            have z3 := cell_lt f2
            by_cases he : e2 = 0
            · have heq := HTE.out he
              subst he
              obtain ⟨v1, g1⟩ : ∃ u, IntKind.i64.wrap (3 * tx) = u := ⟨_, rfl⟩
              obtain ⟨v3, g3⟩ : ∃ u, IntKind.i64.wrap (n2 * M) = u := ⟨_, rfl⟩
              obtain ⟨v4, g4⟩ : ∃ u, IntKind.i64.wrap (v3 * M) = u := ⟨_, rfl⟩
              obtain ⟨v5, g5⟩ : ∃ u, IntKind.i64.wrap (v4 * T) = u := ⟨_, rfl⟩
              obtain ⟨v6, g6⟩ : ∃ u, IntKind.i64.wrap (v5 * T) = u := ⟨_, rfl⟩
              obtain ⟨v2, g2⟩ : ∃ u, IntKind.i64.wrap (v1 * d2) = u := ⟨_, rfl⟩
              have g7 : IntKind.i64.wrap (v6 * ty) = v2 := by rw [← g2, ← g1, ← g6, ← g5, ← g4, ← g3, wrap5, wrap_mul_l, heq]
              clear heq HTE
              go_wp2_with fail
              refine (awake_any _).mono ?_
              rintro e y11 ⟨rfl, hb⟩
              have HF := Lib.hid (HBWbt.out.trans (hb.mono HBWbt.out.size))
              clear hb
              go_wp2
              go_ret
              exact ⟨rfl, HF.out⟩
            · have hd : decide (e2 = 0) = false := by simpa using he
              have hd2 : (e2 == 0) = false := by simpa using he
              have hd3 : (e2 != 0) = true := by simpa using he
              clear HTE
              go_wp2_with fail
              refine (awake_any _).mono ?_
              rintro e y11 ⟨rfl, hb⟩
              have HF := Lib.hid (HBWbt.out.trans (hb.mono HBWbt.out.size))
              clear hb
              go_wp2
              go_ret
              exact ⟨rfl, HF.out⟩
end Go.Proofs.Ytpmhphdpomiacaa
