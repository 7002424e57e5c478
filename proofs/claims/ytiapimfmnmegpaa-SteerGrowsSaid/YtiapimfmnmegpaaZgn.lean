/- Stage 6 (steer): SteerGrows: its loops where the greater plan is none. (by gen_zgl.py) -/
import Derived.Test.YtiapimfmnmegpaaZga
namespace Go.Proofs.Ytiapimfmnmegpaa.St
open Go Go.RowKit Go.Shelf
attribute [local go_sem] Oper.semAt_some
set_option maxRecDepth 100000 in
set_option maxHeartbeats 1000000000 in
theorem grows_no {a0 a1 a3 a4 a8 a9 b0 b1 b2 b3 b4 b5 b6 b7 b8 b9 c0 c1x c2x c3x c4 c5 c6 c7 c8 c9 d0 d1 d2 d3 d4 d5 d6 d7 d8 d9 e0 e1 e2 e3 e4 e5 e6 e7 e8 e9 f0 f1 f2 f3 f4 f5 f6 f7 f8 f9 g0 g1 g2 g3 g4 g5 g6 g7 g8 g9 h0 h1 h2 h3 h4 h5 h6 h7 h8 h9 i0 i1 i2 i3 i4 i5 i6 i7 i8 i9 j0 j1x j2x j3x j4x j5 j6 j7 j8 j9 k0 k1x k2x k3x k4 k5 k6 k7 k8 k9 l0 l1 l2 l3 l4 l5 l6 l7 l8 l9 m0x m1x m2x m3x m4 m5 m6 m7 m8 m9 n0 n1x n2x n3x n4x n5x n6x n7x n8x n9 o0 o1x o2x o3x o4x o5x o6 o7 o8 o9 p0x p1x p2x p3x p4 p5 p6 p7 p8 p9 q0x q1x q2x q3x q4 q5 q6 q7 q8 q9 r0 r1 r2 r3 r4 r5 r6 r7 r8 r9 s0 s1 s2 s3 s4 s5 s6 s7 s8 s9 t0 t1 t2 t3 t4 t5 t6 t7 t8 t9 u0 u1 u2 u3 u4 u5 u6 u7 u8 : Value} {K : Act → World → Prop} {w W0 w3 : World} {l r s z l' r' s' z' : Int} {Bm ba : Nat} (hK : ∀ a w', (tailN 8 (bodyC Try.f7.body)).wp Try.prog (bodyPost Try.prog Try.f7 fun e w' => e = .returned (.bool true) ∧ Below w.heap.size w w') a w' → K a w')
    (HPB : Hid (planB l r s z = true)) (HX : Hid (∀ X, Below W0.heap.size W0 X → PlC X w.heap.size l r s z ∧ PlC X (w.heap.size + 1) l r s z)) (HB0 : Hid (Below w.heap.size w W0)) (HM2 : Hid (PlAt w3 Bm l' r' s' z')) (_HW : Hid (Wider l r s z l' r' s' z')) (HB2 : Hid (Below W0.heap.size W0 w3)) (HNA2 : Hid (NumW w3 (chartF l r s z) (sizP l r).toNat ba 0)) (hp' : planB l' r' s' z' = false) :
    (headC (tailN 7 (bodyC Try.f7.body))).wp Try.prog (Exit.then K (bodyPost Try.prog Try.f7 fun e w' => e = .returned (.bool true) ∧ Below w.heap.size w w')) { tmps := #[a0, a1, .pointer (some ⟨w.heap.size, 0, none⟩), a3, a4, .pointer (some ⟨w.heap.size + 1, 0, none⟩), .pointer (some ⟨Bm, 0, none⟩), .slice (some ⟨ba, 0, none⟩) (sizP l r).toNat (sizP l r).toNat, a8, a9, b0, b1, b2, b3, b4, b5, b6, b7, b8, b9, c0, c1x, c2x, c3x, c4, c5, c6, c7, c8, c9, d0, d1, d2, d3, d4, d5, d6, d7, d8, d9, e0, e1, e2, e3, e4, e5, e6, e7, e8, e9, f0, f1, f2, f3, f4, f5, f6, f7, f8, f9, g0, g1, g2, g3, g4, g5, g6, g7, g8, g9, h0, h1, h2, h3, h4, h5, h6, h7, h8, h9, i0, i1, i2, i3, i4, i5, i6, i7, i8, i9, j0, j1x, j2x, j3x, j4x, j5, j6, j7, j8, j9, k0, k1x, k2x, k3x, k4, k5, k6, k7, k8, k9, l0, l1, l2, l3, l4, l5, l6, l7, l8, l9, m0x, m1x, m2x, m3x, m4, m5, m6, m7, m8, m9, n0, n1x, n2x, n3x, n4x, n5x, n6x, n7x, n8x, n9, o0, o1x, o2x, o3x, o4x, o5x, o6, o7, o8, o9, p0x, p1x, p2x, p3x, p4, p5, p6, p7, p8, p9, q0x, q1x, q2x, q3x, q4, q5, q6, q7, q8, q9, r0, r1, r2, r3, r4, r5, r6, r7, r8, r9, s0, s1, s2, s3, s4, s5, s6, s7, s8, s9, t0, t1, t2, t3, t4, t5, t6, t7, t8, t9, u0, u1, u2, u3, u4, u5, u6, u7, u8], defers := [] } w3 := by
  generalize hQ : (bodyPost Try.prog Try.f7 fun e w' => e = .returned (.bool true) ∧ Below w.heap.size w w') = Q at hK ⊢
  simp only [Try.f7, bodyC, tailN, headC] at hK ⊢
  subst hQ
  have HPL := Lib.hid (plan_ok HPB.out)
  have HAW := Lib.hid (fun W => awake_any W)
  obtain ⟨_, _, _, _, _, _, _, _⟩ := HPL.out
  obtain ⟨m0, m1, m2, m3⟩ := HM2.out.c
  have zm := cell_lt m0
  have HCN := Lib.hid (fun W => Chart_no hp' W)
  go_upto_region 18 with (go_at_call 12; refine (HCN.out _).mono ?_; rintro e W3 ⟨rfl, hb4⟩)
  have HB3 := Lib.hid (bt HB2.out hb4)
  have HNA := Lib.hid (HNA2.out.below hb4)
  clear m0 m1 m2 m3 zm hb4 HCN HB2 HNA2
  obtain ⟨⟨p0, p1, p2, p3⟩, ⟨q0, q1, q2, q3⟩⟩ := HX.out _ HB3.out
  have zp := cell_lt p0
  have zq := cell_lt q0
  go_wp2_with fail
  go_loopw [11, 12, 13, 14, 15, 16, 17] (fun s11 s12 s13 s14 s15 s16 s17 wr => ∃ (a : Nat) (v12 v13 v14 v15 v16 v17 : Value), s11 = .int .i64 ((a : Int) - l) ∧ s12 = v12 ∧ s13 = v13 ∧ s14 = v14 ∧ s15 = v15 ∧ s16 = v16 ∧ s17 = v17 ∧ (a : Int) ≤ 2 * l + 1 ∧ Hid (Below W3.heap.size W3 wr)) (fun s11 _ _ _ _ _ _ _ => 200 - (intOf s11 + l).toNat)
  case atStart => exact ⟨0, _, _, _, _, _, _, by simp, rfl, rfl, rfl, rfl, rfl, rfl, by omega, Lib.hid (Below.refl _ _)⟩
  case round =>
    obtain ⟨a, v12, v13, v14, v15, v16, v17, rfl, rfl, rfl, rfl, rfl, rfl, rfl, ha, HR⟩ := hrel
    obtain ⟨⟨p0, p1, p2, p3⟩, ⟨q0, q1, q2, q3⟩⟩ := HX.out _ (bt HB3.out HR.out)
    have zp := cell_lt p0
    have zq := cell_lt q0
    by_cases hla : (a : Int) ≤ 2 * l
    · have hle : (a : Int) - l ≤ l := by omega
      go_wp2_with fail
      clear p0 p1 p2 p3 q0 q1 q2 q3 zp zq
      go_loopw [12, 13, 14, 15, 16, 17] (fun s12 s13 s14 s15 s16 s17 wr => ∃ (c : Nat) (v13 v14 v15 v16 v17 : Value), s12 = .int .i64 ((c : Int) - r) ∧ s13 = v13 ∧ s14 = v14 ∧ s15 = v15 ∧ s16 = v16 ∧ s17 = v17 ∧ (c : Int) ≤ 2 * r + 1 ∧ Hid (Below W3.heap.size W3 wr)) (fun s12 _ _ _ _ _ _ => 200 - (intOf s12 + r).toNat)
      case atStart => exact ⟨0, _, _, _, _, _, by simp, rfl, rfl, rfl, rfl, rfl, by omega, HR⟩
      case round =>
        clear HR
        obtain ⟨c, v13, v14, v15, v16, v17, rfl, rfl, rfl, rfl, rfl, rfl, hc, HR⟩ := hrel
        obtain ⟨⟨p0, p1, p2, p3⟩, ⟨q0, q1, q2, q3⟩⟩ := HX.out _ (bt HB3.out HR.out)
        have zp := cell_lt p0
        have zq := cell_lt q0
        by_cases hlc : (c : Int) ≤ 2 * r
        · have HLA := Lib.hid hla
          have HLC := Lib.hid hlc
          obtain ⟨ee, hee⟩ : ∃ ee, (a : Int) - l = ee := ⟨_, rfl⟩
          obtain ⟨qq, hqq⟩ : ∃ qq, (c : Int) - r = qq := ⟨_, rfl⟩
          have hh : hasP l r ee qq = true := has_iff.2 (by omega)
          have hh' : hasP l r (-ee) (-qq) = true := by rw [has_neg]; exact hh
          have HI1 := Lib.hid (fun W => Index_ok HPB.out hh W)
          have HI2 := Lib.hid (fun W => Index_ok HPB.out hh' W)
          have w1' : IntKind.i64.wrap (-ee) = -ee := IntWalk.i64_in _ (by omega)
          have w2' : IntKind.i64.wrap (-qq) = -qq := IntWalk.i64_in _ (by omega)
          have hb1 := idx_bd HPL.out hh
          have hb2 := idx_bd HPL.out hh'
          have hcn := chart_neg HPL.out hh
          skip
          have hNN := HPL.out.siz.n
          obtain ⟨k1, hk1⟩ : ∃ k1 : Nat, idxP l r ee qq = (k1 : Int) := ⟨(idxP l r ee qq).toNat, by omega⟩
          obtain ⟨k2, hk2⟩ : ∃ k2 : Nat, idxP l r (-ee) (-qq) = (k2 : Int) := ⟨(idxP l r (-ee) (-qq)).toNat, by omega⟩
          rw [hk1] at HI1 hb1 hcn
          rw [hk2] at HI2 hb2 hcn
          simp only [Int.toNat_natCast] at hcn
          rw [hee, hqq]
          have hle2 : qq ≤ r := by omega
          have vc : IntKind.i64.wrap (qq + 1) = ((c + 1 : Nat) : Int) - r := by rw [IntWalk.i64_in _ (by omega)]; omega
          have hN1 : k1 < (sizP l r).toNat := by omega
          have hN2 : k2 < (sizP l r).toNat := by omega
          have n1 : ¬ (k1 : Int) < 0 := by omega
          have n2 : ¬ (k2 : Int) < 0 := by omega
          generalize (sizP l r).toNat = N at *
          have n3 : ¬ (N : Int) ≤ (k1 : Int) := by omega
          have n33 : ¬ N ≤ k1 := by omega
          have n44 : ¬ N ≤ k2 := by omega
          have n4 : ¬ (N : Int) ≤ (k2 : Int) := by omega
          have n5 : (k1 : Int) < (N : Int) := by omega
          have n6 : (k2 : Int) < (N : Int) := by omega
          have n7 : (0 : Int) ≤ (k1 : Int) := by omega
          have n8 : (0 : Int) ≤ (k2 : Int) := by omega
          have HQQ := Lib.hid hqq
          skip
          clear hh hh' hb1 hb2 hNN hk1 hk2 hla hlc hee hqq hle
          go_upto_region 25 with (go_at_call 10; refine (HI1.out _).mono ?_; rintro e w5 ⟨rfl, hb5⟩)
          have HR5 := Lib.hid (bt HR.out hb5)
          clear p0 p1 p2 p3 q0 q1 q2 q3 zp zq hb5
          obtain ⟨⟨p0, p1, p2, p3⟩, ⟨q0, q1, q2, q3⟩⟩ := HX.out _ (bt HB3.out HR5.out)
          have zp := cell_lt p0
          have zq := cell_lt q0
          go_upto_region 26 with (go_at_call 10; refine (HI2.out _).mono ?_; rintro e w6 ⟨rfl, hb6⟩)
          have HR6 := Lib.hid (bt HR5.out hb6)
          clear p0 p1 p2 p3 q0 q1 q2 q3 zp zq hb6
          have c1 := ((HNA.out.below HR6.out).c k1 hN1).1
          have c2 := ((HNA.out.below HR6.out).c k2 hN2).1
          rw [Nat.zero_add] at c1 c2
          have zc := cell_lt c1
          rcases hcn with ⟨o1, o2⟩ | ⟨o1, o2⟩
          · have o3 : ¬ (1000 ≤ chartF l r s z k1) := by omega
            have o4 : ¬ (1000 ≤ chartF l r s z k2) := by omega
            obtain ⟨x1, hx1⟩ : ∃ x1, chartF l r s z k1 = x1 := ⟨_, rfl⟩
            obtain ⟨x2, hx2⟩ : ∃ x2, chartF l r s z k2 = x2 := ⟨_, rfl⟩
            rw [hx1] at c1 o1 o3
            rw [hx2] at c2 o2 o4
            have HX1 := Lib.hid hx1
            have HO1 := Lib.hid o1
            clear hx1 hx2
            refine (wpIn_wide (n := 9)).1 ?_
            refine wpIn_region_cls (fun Z => Below w6.heap.size w6 Z) 50 1 (Below.drew (Below.refl _ _)) (by kernel_rfl) (by kernel_rfl) (by kernel_rfl) (by kernel_rfl) (by kernel_rfl) rfl ?_
            simp only [List.take_succ_cons, List.take_zero]
            refine wpQuietIn_step (fun _ _ _ _ => trivial) (fun KQ hKQ => ?_)
            rw [if_pos (by kernel_rfl)]
            refine ⟨.int .i64 0, fun Z hZ => ?_, hKQ _ ?_⟩
            · unfold Oper.quietAtIn; go_simp
            clear hKQ KQ
            simp only [Act.put, List.setIfInBounds_toArray, List.set_cons_zero, List.set_cons_succ]
            refine wpQuietIn_step (fun _ _ _ _ => trivial) (fun KQ hKQ => ?_)
            rw [if_pos (by kernel_rfl)]
            refine ⟨.bool false, fun Z hZ => ?_, hKQ _ ?_⟩
            · unfold Oper.quietAtIn; go_simp
            clear hKQ KQ
            simp only [Act.put, List.setIfInBounds_toArray, List.set_cons_zero, List.set_cons_succ]
            refine wpQuietIn_step (fun _ _ _ _ => trivial) (fun KQ hKQ => ?_)
            rw [if_pos (by kernel_rfl)]
            refine ⟨.bool false, fun Z hZ => ?_, hKQ _ ?_⟩
            · unfold Oper.quietAtIn; go_simp
            clear hKQ KQ
            simp only [Act.put, List.setIfInBounds_toArray, List.set_cons_zero, List.set_cons_succ]
            refine wpQuietIn_step (fun _ _ _ _ => trivial) (fun KQ hKQ => ?_)
            rw [if_pos (by kernel_rfl)]
            refine ⟨.int .i64 0, fun Z hZ => ?_, hKQ _ ?_⟩
            · unfold Oper.quietAtIn; go_simp
            clear hKQ KQ
            simp only [Act.put, List.setIfInBounds_toArray, List.set_cons_zero, List.set_cons_succ]
            refine wpQuietIn_step (fun _ _ _ _ => trivial) (fun KQ hKQ => ?_)
            rw [if_pos (by kernel_rfl)]
            refine ⟨.bool false, fun Z hZ => ?_, hKQ _ ?_⟩
            · unfold Oper.quietAtIn; go_simp
            clear hKQ KQ
            simp only [Act.put, List.setIfInBounds_toArray, List.set_cons_zero, List.set_cons_succ]
            refine wpQuietIn_step (fun _ _ _ _ => trivial) (fun KQ hKQ => ?_)
            rw [if_pos (by kernel_rfl)]
            refine ⟨.bool false, fun Z hZ => ?_, hKQ _ ?_⟩
            · unfold Oper.quietAtIn; go_simp
            clear hKQ KQ
            simp only [Act.put, List.setIfInBounds_toArray, List.set_cons_zero, List.set_cons_succ]
            refine wpQuietIn_step (fun _ _ _ _ => trivial) (fun KQ hKQ => ?_)
            rw [if_pos (by kernel_rfl)]
            refine ⟨.bool false, fun Z hZ => ?_, hKQ _ ?_⟩
            · unfold Oper.quietAtIn; go_simp
            clear hKQ KQ
            simp only [Act.put, List.setIfInBounds_toArray, List.set_cons_zero, List.set_cons_succ]
            refine wpQuietIn_step (fun _ _ _ _ => trivial) (fun KQ hKQ => ?_)
            rw [if_pos (by kernel_rfl)]
            refine ⟨.int .i64 (k1 : Int), fun Z hZ => ?_, hKQ _ ?_⟩
            · unfold Oper.quietAtIn; go_simp
            clear hKQ KQ
            simp only [Act.put, List.setIfInBounds_toArray, List.set_cons_zero, List.set_cons_succ]
            refine wpQuietIn_step (fun _ _ _ _ => trivial) (fun KQ hKQ => ?_)
            rw [if_pos (by kernel_rfl)]
            refine ⟨.bool false, fun Z hZ => ?_, hKQ _ ?_⟩
            · unfold Oper.quietAtIn; go_simp
            clear hKQ KQ
            simp only [Act.put, List.setIfInBounds_toArray, List.set_cons_zero, List.set_cons_succ]
            refine wpQuietIn_step (fun _ _ _ _ => trivial) (fun KQ hKQ => ?_)
            rw [if_pos (by kernel_rfl)]
            refine ⟨.bool false, fun Z hZ => ?_, hKQ _ ?_⟩
            · unfold Oper.quietAtIn; go_simp
            clear hKQ KQ
            simp only [Act.put, List.setIfInBounds_toArray, List.set_cons_zero, List.set_cons_succ]
            refine wpQuietIn_step (fun _ _ _ _ => trivial) (fun KQ hKQ => ?_)
            rw [if_pos (by kernel_rfl)]
            refine ⟨.bool false, fun Z hZ => ?_, hKQ _ ?_⟩
            · unfold Oper.quietAtIn; go_simp
            clear hKQ KQ
            simp only [Act.put, List.setIfInBounds_toArray, List.set_cons_zero, List.set_cons_succ]
            refine wpQuietIn_step (fun _ _ _ _ => trivial) (fun KQ hKQ => ?_)
            rw [if_pos (by kernel_rfl)]
            refine ⟨.int .i64 (k2 : Int), fun Z hZ => ?_, hKQ _ ?_⟩
            · unfold Oper.quietAtIn; go_simp
            clear hKQ KQ
            simp only [Act.put, List.setIfInBounds_toArray, List.set_cons_zero, List.set_cons_succ]
            refine wpQuietIn_step (fun _ _ _ _ => trivial) (fun KQ hKQ => ?_)
            rw [if_pos (by kernel_rfl)]
            refine ⟨.bool false, fun Z hZ => ?_, hKQ _ ?_⟩
            · unfold Oper.quietAtIn; go_simp
            clear hKQ KQ
            simp only [Act.put, List.setIfInBounds_toArray, List.set_cons_zero, List.set_cons_succ]
            refine wpQuietIn_step (fun _ _ _ _ => trivial) (fun KQ hKQ => ?_)
            rw [if_pos (by kernel_rfl)]
            refine ⟨.bool false, fun Z hZ => ?_, hKQ _ ?_⟩
            · unfold Oper.quietAtIn; go_simp
            clear hKQ KQ
            simp only [Act.put, List.setIfInBounds_toArray, List.set_cons_zero, List.set_cons_succ]
            refine wpQuietIn_step (fun _ _ _ _ => trivial) (fun KQ hKQ => ?_)
            rw [if_pos (by kernel_rfl)]
            refine ⟨.bool false, fun Z hZ => ?_, hKQ _ ?_⟩
            · unfold Oper.quietAtIn; go_simp
            clear hKQ KQ
            simp only [Act.put, List.setIfInBounds_toArray, List.set_cons_zero, List.set_cons_succ]
            refine wpQuietIn_step (fun _ _ _ _ => trivial) (fun KQ hKQ => ?_)
            rw [if_pos (by kernel_rfl)]
            refine ⟨.int .i64 (k1 : Int), fun Z hZ => ?_, hKQ _ ?_⟩
            · unfold Oper.quietAtIn; go_simp
            clear hKQ KQ
            simp only [Act.put, List.setIfInBounds_toArray, List.set_cons_zero, List.set_cons_succ]
            refine wpQuietIn_step (fun _ _ _ _ => trivial) (fun KQ hKQ => ?_)
            rw [if_pos (by kernel_rfl)]
            refine ⟨.slice (some ⟨ba, 0, none⟩) N N, fun Z hZ => ?_, hKQ _ ?_⟩
            · unfold Oper.quietAtIn; go_simp
            clear hKQ KQ
            simp only [Act.put, List.setIfInBounds_toArray, List.set_cons_zero, List.set_cons_succ]
            refine wpQuietIn_step (fun _ _ _ _ => trivial) (fun KQ hKQ => ?_)
            rw [if_pos (by kernel_rfl)]
            refine ⟨.int .i64 (N : Int), fun Z hZ => ?_, hKQ _ ?_⟩
            · unfold Oper.quietAtIn; go_simp
            clear hKQ KQ
            simp only [Act.put, List.setIfInBounds_toArray, List.set_cons_zero, List.set_cons_succ]
            refine wpQuietIn_step (fun _ _ _ _ => trivial) (fun KQ hKQ => ?_)
            rw [if_pos (by kernel_rfl)]
            refine ⟨.bool false, fun Z hZ => ?_, hKQ _ ?_⟩
            · unfold Oper.quietAtIn; go_simp
            clear hKQ KQ
            simp only [Act.put, List.setIfInBounds_toArray, List.set_cons_zero, List.set_cons_succ]
            refine wpQuietIn_step (fun _ _ _ _ => trivial) (fun KQ hKQ => ?_)
            rw [if_pos (by kernel_rfl)]
            refine ⟨.bool false, fun Z hZ => ?_, hKQ _ ?_⟩
            · unfold Oper.quietAtIn; go_simp
            clear hKQ KQ
            simp only [Act.put, List.setIfInBounds_toArray, List.set_cons_zero, List.set_cons_succ]
            refine wpQuietIn_step (fun _ _ _ _ => trivial) (fun KQ hKQ => ?_)
            rw [if_pos (by kernel_rfl)]
            refine ⟨.bool false, fun Z hZ => ?_, hKQ _ ?_⟩
            · unfold Oper.quietAtIn; go_simp
            clear hKQ KQ
            simp only [Act.put, List.setIfInBounds_toArray, List.set_cons_zero, List.set_cons_succ]
            refine wpQuietIn_step (fun _ _ _ _ => trivial) (fun KQ hKQ => ?_)
            rw [if_pos (by kernel_rfl)]
            refine ⟨.int .i64 (k2 : Int), fun Z hZ => ?_, hKQ _ ?_⟩
            · unfold Oper.quietAtIn; go_simp
            clear hKQ KQ
            simp only [Act.put, List.setIfInBounds_toArray, List.set_cons_zero, List.set_cons_succ]
            refine wpQuietIn_step (fun _ _ _ _ => trivial) (fun KQ hKQ => ?_)
            rw [if_pos (by kernel_rfl)]
            refine ⟨.slice (some ⟨ba, 0, none⟩) N N, fun Z hZ => ?_, hKQ _ ?_⟩
            · unfold Oper.quietAtIn; go_simp
            clear hKQ KQ
            simp only [Act.put, List.setIfInBounds_toArray, List.set_cons_zero, List.set_cons_succ]
            refine wpQuietIn_step (fun _ _ _ _ => trivial) (fun KQ hKQ => ?_)
            rw [if_pos (by kernel_rfl)]
            refine ⟨.int .i64 (N : Int), fun Z hZ => ?_, hKQ _ ?_⟩
            · unfold Oper.quietAtIn; go_simp
            clear hKQ KQ
            simp only [Act.put, List.setIfInBounds_toArray, List.set_cons_zero, List.set_cons_succ]
            refine wpQuietIn_step (fun _ _ _ _ => trivial) (fun KQ hKQ => ?_)
            rw [if_pos (by kernel_rfl)]
            refine ⟨.bool false, fun Z hZ => ?_, hKQ _ ?_⟩
            · unfold Oper.quietAtIn; go_simp
            clear hKQ KQ
            simp only [Act.put, List.setIfInBounds_toArray, List.set_cons_zero, List.set_cons_succ]
            refine wpQuietIn_step (fun _ _ _ _ => trivial) (fun KQ hKQ => ?_)
            rw [if_pos (by kernel_rfl)]
            refine ⟨.bool false, fun Z hZ => ?_, hKQ _ ?_⟩
            · unfold Oper.quietAtIn; go_simp
            clear hKQ KQ
            simp only [Act.put, List.setIfInBounds_toArray, List.set_cons_zero, List.set_cons_succ]
            refine wpQuietIn_step (fun _ _ _ _ => trivial) (fun KQ hKQ => ?_)
            rw [if_pos (by kernel_rfl)]
            refine ⟨.bool false, fun Z hZ => ?_, hKQ _ ?_⟩
            · unfold Oper.quietAtIn; go_simp
            clear hKQ KQ
            simp only [Act.put, List.setIfInBounds_toArray, List.set_cons_zero, List.set_cons_succ]
            refine wpQuietIn_step (fun _ _ _ _ => trivial) (fun KQ hKQ => ?_)
            rw [if_pos (by kernel_rfl)]
            refine ⟨.slice (some ⟨ba, 0, none⟩) N N, fun Z hZ => ?_, hKQ _ ?_⟩
            · unfold Oper.quietAtIn; go_simp
            clear hKQ KQ
            simp only [Act.put, List.setIfInBounds_toArray, List.set_cons_zero, List.set_cons_succ]
            refine wpQuietIn_step (fun _ _ _ _ => trivial) (fun KQ hKQ => ?_)
            rw [if_pos (by kernel_rfl)]
            refine ⟨.int .i64 (k1 : Int), fun Z hZ => ?_, hKQ _ ?_⟩
            · unfold Oper.quietAtIn; go_simp
            clear hKQ KQ
            simp only [Act.put, List.setIfInBounds_toArray, List.set_cons_zero, List.set_cons_succ]
            refine wpQuietIn_step (fun _ _ _ _ => trivial) (fun KQ hKQ => ?_)
            rw [if_pos (by kernel_rfl)]
            refine ⟨.pointer (some ⟨ba, k1, none⟩), fun Z hZ => ?_, hKQ _ ?_⟩
            · unfold Oper.quietAtIn; go_simp
            clear hKQ KQ
            simp only [Act.put, List.setIfInBounds_toArray, List.set_cons_zero, List.set_cons_succ]
            refine wpQuietIn_step (fun _ _ _ _ => trivial) (fun KQ hKQ => ?_)
            rw [if_pos (by kernel_rfl)]
            refine ⟨.int .i64 x1, fun Z hZ => ?_, hKQ _ ?_⟩
            · have q1 := cell_below hZ c1; have qz := cell_lt q1; unfold Oper.quietAtIn; go_simp
            clear hKQ KQ
            simp only [Act.put, List.setIfInBounds_toArray, List.set_cons_zero, List.set_cons_succ]
            refine wpQuietIn_step (fun _ _ _ _ => trivial) (fun KQ hKQ => ?_)
            rw [if_pos (by kernel_rfl)]
            refine ⟨.bool false, fun Z hZ => ?_, hKQ _ ?_⟩
            · unfold Oper.quietAtIn; go_simp
            clear hKQ KQ
            simp only [Act.put, List.setIfInBounds_toArray, List.set_cons_zero, List.set_cons_succ]
            refine wpQuietIn_step (fun _ _ _ _ => trivial) (fun KQ hKQ => ?_)
            rw [if_pos (by kernel_rfl)]
            refine ⟨.bool false, fun Z hZ => ?_, hKQ _ ?_⟩
            · unfold Oper.quietAtIn; go_simp
            clear hKQ KQ
            simp only [Act.put, List.setIfInBounds_toArray, List.set_cons_zero, List.set_cons_succ]
            refine wpQuietIn_step (fun _ _ _ _ => trivial) (fun KQ hKQ => ?_)
            rw [if_pos (by kernel_rfl)]
            refine ⟨.slice (some ⟨ba, 0, none⟩) N N, fun Z hZ => ?_, hKQ _ ?_⟩
            · unfold Oper.quietAtIn; go_simp
            clear hKQ KQ
            simp only [Act.put, List.setIfInBounds_toArray, List.set_cons_zero, List.set_cons_succ]
            refine wpQuietIn_step (fun _ _ _ _ => trivial) (fun KQ hKQ => ?_)
            rw [if_pos (by kernel_rfl)]
            refine ⟨.int .i64 (k2 : Int), fun Z hZ => ?_, hKQ _ ?_⟩
            · unfold Oper.quietAtIn; go_simp
            clear hKQ KQ
            simp only [Act.put, List.setIfInBounds_toArray, List.set_cons_zero, List.set_cons_succ]
            refine wpQuietIn_step (fun _ _ _ _ => trivial) (fun KQ hKQ => ?_)
            rw [if_pos (by kernel_rfl)]
            refine ⟨.pointer (some ⟨ba, k2, none⟩), fun Z hZ => ?_, hKQ _ ?_⟩
            · unfold Oper.quietAtIn; go_simp
            clear hKQ KQ
            simp only [Act.put, List.setIfInBounds_toArray, List.set_cons_zero, List.set_cons_succ]
            refine wpQuietIn_step (fun _ _ _ _ => trivial) (fun KQ hKQ => ?_)
            rw [if_pos (by kernel_rfl)]
            refine ⟨.int .i64 x2, fun Z hZ => ?_, hKQ _ ?_⟩
            · have q1 := cell_below hZ c2; have qz := cell_lt q1; unfold Oper.quietAtIn; go_simp
            clear hKQ KQ
            simp only [Act.put, List.setIfInBounds_toArray, List.set_cons_zero, List.set_cons_succ]
            refine wpQuietIn_step (fun _ _ _ _ => trivial) (fun KQ hKQ => ?_)
            rw [if_pos (by kernel_rfl)]
            refine ⟨.bool false, fun Z hZ => ?_, hKQ _ ?_⟩
            · unfold Oper.quietAtIn; go_simp
            clear hKQ KQ
            simp only [Act.put, List.setIfInBounds_toArray, List.set_cons_zero, List.set_cons_succ]
            refine wpQuietIn_step (fun _ _ _ _ => trivial) (fun KQ hKQ => ?_)
            rw [if_pos (by kernel_rfl)]
            refine ⟨.bool false, fun Z hZ => ?_, hKQ _ ?_⟩
            · unfold Oper.quietAtIn; go_simp
            clear hKQ KQ
            simp only [Act.put, List.setIfInBounds_toArray, List.set_cons_zero, List.set_cons_succ]
            refine wpQuietIn_step (fun _ _ _ _ => trivial) (fun KQ hKQ => ?_)
            rw [if_pos (by kernel_rfl)]
            refine ⟨.bool false, fun Z hZ => ?_, hKQ _ ?_⟩
            · unfold Oper.quietAtIn; go_simp
            clear hKQ KQ
            simp only [Act.put, List.setIfInBounds_toArray, List.set_cons_zero, List.set_cons_succ]
            refine wpQuietIn_step (fun _ _ _ _ => trivial) (fun KQ hKQ => ?_)
            rw [if_neg (ne_true_of_eq_false (by kernel_rfl))]
            refine hKQ _ ?_
            clear hKQ KQ
            refine wpQuietIn_step (fun _ _ _ _ => trivial) (fun KQ hKQ => ?_)
            rw [if_neg (ne_true_of_eq_false (by kernel_rfl))]
            refine hKQ _ ?_
            clear hKQ KQ
            refine wpQuietIn_step (fun _ _ _ _ => trivial) (fun KQ hKQ => ?_)
            rw [if_neg (ne_true_of_eq_false (by kernel_rfl))]
            refine hKQ _ ?_
            clear hKQ KQ
            refine wpQuietIn_step (fun _ _ _ _ => trivial) (fun KQ hKQ => ?_)
            rw [if_neg (ne_true_of_eq_false (by kernel_rfl))]
            refine hKQ _ ?_
            clear hKQ KQ
            refine wpQuietIn_step (fun _ _ _ _ => trivial) (fun KQ hKQ => ?_)
            rw [if_neg (ne_true_of_eq_false (by kernel_rfl))]
            refine hKQ _ ?_
            clear hKQ KQ
            refine wpQuietIn_step (fun _ _ _ _ => trivial) (fun KQ hKQ => ?_)
            rw [if_neg (ne_true_of_eq_false (by kernel_rfl))]
            refine hKQ _ ?_
            clear hKQ KQ
            refine wpQuietIn_step (fun _ _ _ _ => trivial) (fun KQ hKQ => ?_)
            rw [if_neg (ne_true_of_eq_false (by kernel_rfl))]
            refine hKQ _ ?_
            clear hKQ KQ
            refine wpQuietIn_step (fun _ _ _ _ => trivial) (fun KQ hKQ => ?_)
            rw [if_neg (ne_true_of_eq_false (by kernel_rfl))]
            refine hKQ _ ?_
            clear hKQ KQ
            refine wpQuietIn_step (fun _ _ _ _ => trivial) (fun KQ hKQ => ?_)
            rw [if_neg (ne_true_of_eq_false (by kernel_rfl))]
            refine hKQ _ ?_
            clear hKQ KQ
            refine wpQuietIn_step (fun _ _ _ _ => trivial) (fun KQ hKQ => ?_)
            rw [if_pos (by kernel_rfl)]
            refine ⟨.bool false, fun Z hZ => ?_, hKQ _ ?_⟩
            · unfold Oper.quietAtIn; go_simp
            clear hKQ KQ
            simp only [Act.put, List.setIfInBounds_toArray, List.set_cons_zero, List.set_cons_succ]
            refine wpQuietIn_nil ?_
            intro w7 hb7
            simp only [List.replicate_succ, List.replicate_zero, List.cons_append, List.nil_append]
            refine wpAnyIn_ready (rs := [50]) (by kernel_rfl) (by simp) (AllReadyIn.cons rfl (fun K' hKK => ?_) AllReadyIn.nil)
            go_simp
            refine hKK _ _ ?_
            clear hKK
            refine wpAnyIn_done (by kernel_rfl) ?_ _
            have HR7 := Lib.hid (bt HR6.out hb7)
            clear c1 c2 zc hb7 o1 o2 o3 o4
            go_wp2_with fail
            go_roundw
            case rel => exact ⟨c + 1, _, _, _, _, _, rfl, rfl, rfl, rfl, rfl, rfl, by have := HLC.out; omega, HR7⟩
            case measure => have := HLC.out; have := HQQ.out; simp [intOf]; omega
          · have o3 : 1000 ≤ chartF l r s z k1 := by omega
            rw [o2] at c2
            obtain ⟨x1, hx1⟩ : ∃ x1, chartF l r s z k1 = x1 := ⟨_, rfl⟩
            rw [hx1] at c1 c2 o1 o3
            have HX1 := Lib.hid hx1
            have HO1 := Lib.hid o1
            clear hx1
            refine (wpIn_wide (n := 9)).1 ?_
            refine wpIn_region_cls (fun Z => Below w6.heap.size w6 Z) 50 1 (Below.drew (Below.refl _ _)) (by kernel_rfl) (by kernel_rfl) (by kernel_rfl) (by kernel_rfl) (by kernel_rfl) rfl ?_
            simp only [List.take_succ_cons, List.take_zero]
            refine wpQuietIn_step (fun _ _ _ _ => trivial) (fun KQ hKQ => ?_)
            rw [if_pos (by kernel_rfl)]
            refine ⟨.int .i64 0, fun Z hZ => ?_, hKQ _ ?_⟩
            · unfold Oper.quietAtIn; go_simp
            clear hKQ KQ
            simp only [Act.put, List.setIfInBounds_toArray, List.set_cons_zero, List.set_cons_succ]
            refine wpQuietIn_step (fun _ _ _ _ => trivial) (fun KQ hKQ => ?_)
            rw [if_pos (by kernel_rfl)]
            refine ⟨.bool false, fun Z hZ => ?_, hKQ _ ?_⟩
            · unfold Oper.quietAtIn; go_simp
            clear hKQ KQ
            simp only [Act.put, List.setIfInBounds_toArray, List.set_cons_zero, List.set_cons_succ]
            refine wpQuietIn_step (fun _ _ _ _ => trivial) (fun KQ hKQ => ?_)
            rw [if_pos (by kernel_rfl)]
            refine ⟨.bool false, fun Z hZ => ?_, hKQ _ ?_⟩
            · unfold Oper.quietAtIn; go_simp
            clear hKQ KQ
            simp only [Act.put, List.setIfInBounds_toArray, List.set_cons_zero, List.set_cons_succ]
            refine wpQuietIn_step (fun _ _ _ _ => trivial) (fun KQ hKQ => ?_)
            rw [if_pos (by kernel_rfl)]
            refine ⟨.int .i64 0, fun Z hZ => ?_, hKQ _ ?_⟩
            · unfold Oper.quietAtIn; go_simp
            clear hKQ KQ
            simp only [Act.put, List.setIfInBounds_toArray, List.set_cons_zero, List.set_cons_succ]
            refine wpQuietIn_step (fun _ _ _ _ => trivial) (fun KQ hKQ => ?_)
            rw [if_pos (by kernel_rfl)]
            refine ⟨.bool false, fun Z hZ => ?_, hKQ _ ?_⟩
            · unfold Oper.quietAtIn; go_simp
            clear hKQ KQ
            simp only [Act.put, List.setIfInBounds_toArray, List.set_cons_zero, List.set_cons_succ]
            refine wpQuietIn_step (fun _ _ _ _ => trivial) (fun KQ hKQ => ?_)
            rw [if_pos (by kernel_rfl)]
            refine ⟨.bool false, fun Z hZ => ?_, hKQ _ ?_⟩
            · unfold Oper.quietAtIn; go_simp
            clear hKQ KQ
            simp only [Act.put, List.setIfInBounds_toArray, List.set_cons_zero, List.set_cons_succ]
            refine wpQuietIn_step (fun _ _ _ _ => trivial) (fun KQ hKQ => ?_)
            rw [if_pos (by kernel_rfl)]
            refine ⟨.bool false, fun Z hZ => ?_, hKQ _ ?_⟩
            · unfold Oper.quietAtIn; go_simp
            clear hKQ KQ
            simp only [Act.put, List.setIfInBounds_toArray, List.set_cons_zero, List.set_cons_succ]
            refine wpQuietIn_step (fun _ _ _ _ => trivial) (fun KQ hKQ => ?_)
            rw [if_pos (by kernel_rfl)]
            refine ⟨.int .i64 (k1 : Int), fun Z hZ => ?_, hKQ _ ?_⟩
            · unfold Oper.quietAtIn; go_simp
            clear hKQ KQ
            simp only [Act.put, List.setIfInBounds_toArray, List.set_cons_zero, List.set_cons_succ]
            refine wpQuietIn_step (fun _ _ _ _ => trivial) (fun KQ hKQ => ?_)
            rw [if_pos (by kernel_rfl)]
            refine ⟨.bool false, fun Z hZ => ?_, hKQ _ ?_⟩
            · unfold Oper.quietAtIn; go_simp
            clear hKQ KQ
            simp only [Act.put, List.setIfInBounds_toArray, List.set_cons_zero, List.set_cons_succ]
            refine wpQuietIn_step (fun _ _ _ _ => trivial) (fun KQ hKQ => ?_)
            rw [if_pos (by kernel_rfl)]
            refine ⟨.bool false, fun Z hZ => ?_, hKQ _ ?_⟩
            · unfold Oper.quietAtIn; go_simp
            clear hKQ KQ
            simp only [Act.put, List.setIfInBounds_toArray, List.set_cons_zero, List.set_cons_succ]
            refine wpQuietIn_step (fun _ _ _ _ => trivial) (fun KQ hKQ => ?_)
            rw [if_pos (by kernel_rfl)]
            refine ⟨.bool false, fun Z hZ => ?_, hKQ _ ?_⟩
            · unfold Oper.quietAtIn; go_simp
            clear hKQ KQ
            simp only [Act.put, List.setIfInBounds_toArray, List.set_cons_zero, List.set_cons_succ]
            refine wpQuietIn_step (fun _ _ _ _ => trivial) (fun KQ hKQ => ?_)
            rw [if_pos (by kernel_rfl)]
            refine ⟨.int .i64 (k2 : Int), fun Z hZ => ?_, hKQ _ ?_⟩
            · unfold Oper.quietAtIn; go_simp
            clear hKQ KQ
            simp only [Act.put, List.setIfInBounds_toArray, List.set_cons_zero, List.set_cons_succ]
            refine wpQuietIn_step (fun _ _ _ _ => trivial) (fun KQ hKQ => ?_)
            rw [if_pos (by kernel_rfl)]
            refine ⟨.bool false, fun Z hZ => ?_, hKQ _ ?_⟩
            · unfold Oper.quietAtIn; go_simp
            clear hKQ KQ
            simp only [Act.put, List.setIfInBounds_toArray, List.set_cons_zero, List.set_cons_succ]
            refine wpQuietIn_step (fun _ _ _ _ => trivial) (fun KQ hKQ => ?_)
            rw [if_pos (by kernel_rfl)]
            refine ⟨.bool false, fun Z hZ => ?_, hKQ _ ?_⟩
            · unfold Oper.quietAtIn; go_simp
            clear hKQ KQ
            simp only [Act.put, List.setIfInBounds_toArray, List.set_cons_zero, List.set_cons_succ]
            refine wpQuietIn_step (fun _ _ _ _ => trivial) (fun KQ hKQ => ?_)
            rw [if_pos (by kernel_rfl)]
            refine ⟨.bool false, fun Z hZ => ?_, hKQ _ ?_⟩
            · unfold Oper.quietAtIn; go_simp
            clear hKQ KQ
            simp only [Act.put, List.setIfInBounds_toArray, List.set_cons_zero, List.set_cons_succ]
            refine wpQuietIn_step (fun _ _ _ _ => trivial) (fun KQ hKQ => ?_)
            rw [if_pos (by kernel_rfl)]
            refine ⟨.int .i64 (k1 : Int), fun Z hZ => ?_, hKQ _ ?_⟩
            · unfold Oper.quietAtIn; go_simp
            clear hKQ KQ
            simp only [Act.put, List.setIfInBounds_toArray, List.set_cons_zero, List.set_cons_succ]
            refine wpQuietIn_step (fun _ _ _ _ => trivial) (fun KQ hKQ => ?_)
            rw [if_pos (by kernel_rfl)]
            refine ⟨.slice (some ⟨ba, 0, none⟩) N N, fun Z hZ => ?_, hKQ _ ?_⟩
            · unfold Oper.quietAtIn; go_simp
            clear hKQ KQ
            simp only [Act.put, List.setIfInBounds_toArray, List.set_cons_zero, List.set_cons_succ]
            refine wpQuietIn_step (fun _ _ _ _ => trivial) (fun KQ hKQ => ?_)
            rw [if_pos (by kernel_rfl)]
            refine ⟨.int .i64 (N : Int), fun Z hZ => ?_, hKQ _ ?_⟩
            · unfold Oper.quietAtIn; go_simp
            clear hKQ KQ
            simp only [Act.put, List.setIfInBounds_toArray, List.set_cons_zero, List.set_cons_succ]
            refine wpQuietIn_step (fun _ _ _ _ => trivial) (fun KQ hKQ => ?_)
            rw [if_pos (by kernel_rfl)]
            refine ⟨.bool false, fun Z hZ => ?_, hKQ _ ?_⟩
            · unfold Oper.quietAtIn; go_simp
            clear hKQ KQ
            simp only [Act.put, List.setIfInBounds_toArray, List.set_cons_zero, List.set_cons_succ]
            refine wpQuietIn_step (fun _ _ _ _ => trivial) (fun KQ hKQ => ?_)
            rw [if_pos (by kernel_rfl)]
            refine ⟨.bool false, fun Z hZ => ?_, hKQ _ ?_⟩
            · unfold Oper.quietAtIn; go_simp
            clear hKQ KQ
            simp only [Act.put, List.setIfInBounds_toArray, List.set_cons_zero, List.set_cons_succ]
            refine wpQuietIn_step (fun _ _ _ _ => trivial) (fun KQ hKQ => ?_)
            rw [if_pos (by kernel_rfl)]
            refine ⟨.bool false, fun Z hZ => ?_, hKQ _ ?_⟩
            · unfold Oper.quietAtIn; go_simp
            clear hKQ KQ
            simp only [Act.put, List.setIfInBounds_toArray, List.set_cons_zero, List.set_cons_succ]
            refine wpQuietIn_step (fun _ _ _ _ => trivial) (fun KQ hKQ => ?_)
            rw [if_pos (by kernel_rfl)]
            refine ⟨.int .i64 (k2 : Int), fun Z hZ => ?_, hKQ _ ?_⟩
            · unfold Oper.quietAtIn; go_simp
            clear hKQ KQ
            simp only [Act.put, List.setIfInBounds_toArray, List.set_cons_zero, List.set_cons_succ]
            refine wpQuietIn_step (fun _ _ _ _ => trivial) (fun KQ hKQ => ?_)
            rw [if_pos (by kernel_rfl)]
            refine ⟨.slice (some ⟨ba, 0, none⟩) N N, fun Z hZ => ?_, hKQ _ ?_⟩
            · unfold Oper.quietAtIn; go_simp
            clear hKQ KQ
            simp only [Act.put, List.setIfInBounds_toArray, List.set_cons_zero, List.set_cons_succ]
            refine wpQuietIn_step (fun _ _ _ _ => trivial) (fun KQ hKQ => ?_)
            rw [if_pos (by kernel_rfl)]
            refine ⟨.int .i64 (N : Int), fun Z hZ => ?_, hKQ _ ?_⟩
            · unfold Oper.quietAtIn; go_simp
            clear hKQ KQ
            simp only [Act.put, List.setIfInBounds_toArray, List.set_cons_zero, List.set_cons_succ]
            refine wpQuietIn_step (fun _ _ _ _ => trivial) (fun KQ hKQ => ?_)
            rw [if_pos (by kernel_rfl)]
            refine ⟨.bool false, fun Z hZ => ?_, hKQ _ ?_⟩
            · unfold Oper.quietAtIn; go_simp
            clear hKQ KQ
            simp only [Act.put, List.setIfInBounds_toArray, List.set_cons_zero, List.set_cons_succ]
            refine wpQuietIn_step (fun _ _ _ _ => trivial) (fun KQ hKQ => ?_)
            rw [if_pos (by kernel_rfl)]
            refine ⟨.bool false, fun Z hZ => ?_, hKQ _ ?_⟩
            · unfold Oper.quietAtIn; go_simp
            clear hKQ KQ
            simp only [Act.put, List.setIfInBounds_toArray, List.set_cons_zero, List.set_cons_succ]
            refine wpQuietIn_step (fun _ _ _ _ => trivial) (fun KQ hKQ => ?_)
            rw [if_pos (by kernel_rfl)]
            refine ⟨.bool false, fun Z hZ => ?_, hKQ _ ?_⟩
            · unfold Oper.quietAtIn; go_simp
            clear hKQ KQ
            simp only [Act.put, List.setIfInBounds_toArray, List.set_cons_zero, List.set_cons_succ]
            refine wpQuietIn_step (fun _ _ _ _ => trivial) (fun KQ hKQ => ?_)
            rw [if_pos (by kernel_rfl)]
            refine ⟨.slice (some ⟨ba, 0, none⟩) N N, fun Z hZ => ?_, hKQ _ ?_⟩
            · unfold Oper.quietAtIn; go_simp
            clear hKQ KQ
            simp only [Act.put, List.setIfInBounds_toArray, List.set_cons_zero, List.set_cons_succ]
            refine wpQuietIn_step (fun _ _ _ _ => trivial) (fun KQ hKQ => ?_)
            rw [if_pos (by kernel_rfl)]
            refine ⟨.int .i64 (k1 : Int), fun Z hZ => ?_, hKQ _ ?_⟩
            · unfold Oper.quietAtIn; go_simp
            clear hKQ KQ
            simp only [Act.put, List.setIfInBounds_toArray, List.set_cons_zero, List.set_cons_succ]
            refine wpQuietIn_step (fun _ _ _ _ => trivial) (fun KQ hKQ => ?_)
            rw [if_pos (by kernel_rfl)]
            refine ⟨.pointer (some ⟨ba, k1, none⟩), fun Z hZ => ?_, hKQ _ ?_⟩
            · unfold Oper.quietAtIn; go_simp
            clear hKQ KQ
            simp only [Act.put, List.setIfInBounds_toArray, List.set_cons_zero, List.set_cons_succ]
            refine wpQuietIn_step (fun _ _ _ _ => trivial) (fun KQ hKQ => ?_)
            rw [if_pos (by kernel_rfl)]
            refine ⟨.int .i64 x1, fun Z hZ => ?_, hKQ _ ?_⟩
            · have q1 := cell_below hZ c1; have qz := cell_lt q1; unfold Oper.quietAtIn; go_simp
            clear hKQ KQ
            simp only [Act.put, List.setIfInBounds_toArray, List.set_cons_zero, List.set_cons_succ]
            refine wpQuietIn_step (fun _ _ _ _ => trivial) (fun KQ hKQ => ?_)
            rw [if_pos (by kernel_rfl)]
            refine ⟨.bool true, fun Z hZ => ?_, hKQ _ ?_⟩
            · unfold Oper.quietAtIn; go_simp
            clear hKQ KQ
            simp only [Act.put, List.setIfInBounds_toArray, List.set_cons_zero, List.set_cons_succ]
            refine wpQuietIn_step (fun _ _ _ _ => trivial) (fun KQ hKQ => ?_)
            rw [if_pos (by kernel_rfl)]
            refine ⟨.bool true, fun Z hZ => ?_, hKQ _ ?_⟩
            · unfold Oper.quietAtIn; go_simp
            clear hKQ KQ
            simp only [Act.put, List.setIfInBounds_toArray, List.set_cons_zero, List.set_cons_succ]
            refine wpQuietIn_step (fun _ _ _ _ => trivial) (fun KQ hKQ => ?_)
            rw [if_neg (ne_true_of_eq_false (by kernel_rfl))]
            refine hKQ _ ?_
            clear hKQ KQ
            refine wpQuietIn_step (fun _ _ _ _ => trivial) (fun KQ hKQ => ?_)
            rw [if_neg (ne_true_of_eq_false (by kernel_rfl))]
            refine hKQ _ ?_
            clear hKQ KQ
            refine wpQuietIn_step (fun _ _ _ _ => trivial) (fun KQ hKQ => ?_)
            rw [if_neg (ne_true_of_eq_false (by kernel_rfl))]
            refine hKQ _ ?_
            clear hKQ KQ
            refine wpQuietIn_step (fun _ _ _ _ => trivial) (fun KQ hKQ => ?_)
            rw [if_neg (ne_true_of_eq_false (by kernel_rfl))]
            refine hKQ _ ?_
            clear hKQ KQ
            refine wpQuietIn_step (fun _ _ _ _ => trivial) (fun KQ hKQ => ?_)
            rw [if_neg (ne_true_of_eq_false (by kernel_rfl))]
            refine hKQ _ ?_
            clear hKQ KQ
            refine wpQuietIn_step (fun _ _ _ _ => trivial) (fun KQ hKQ => ?_)
            rw [if_pos (by kernel_rfl)]
            refine ⟨.bool true, fun Z hZ => ?_, hKQ _ ?_⟩
            · unfold Oper.quietAtIn; go_simp
            clear hKQ KQ
            simp only [Act.put, List.setIfInBounds_toArray, List.set_cons_zero, List.set_cons_succ]
            refine wpQuietIn_step (fun _ _ _ _ => trivial) (fun KQ hKQ => ?_)
            rw [if_pos (by kernel_rfl)]
            refine ⟨.bool true, fun Z hZ => ?_, hKQ _ ?_⟩
            · unfold Oper.quietAtIn; go_simp
            clear hKQ KQ
            simp only [Act.put, List.setIfInBounds_toArray, List.set_cons_zero, List.set_cons_succ]
            refine wpQuietIn_step (fun _ _ _ _ => trivial) (fun KQ hKQ => ?_)
            rw [if_pos (by kernel_rfl)]
            refine ⟨.slice (some ⟨ba, 0, none⟩) N N, fun Z hZ => ?_, hKQ _ ?_⟩
            · unfold Oper.quietAtIn; go_simp
            clear hKQ KQ
            simp only [Act.put, List.setIfInBounds_toArray, List.set_cons_zero, List.set_cons_succ]
            refine wpQuietIn_step (fun _ _ _ _ => trivial) (fun KQ hKQ => ?_)
            rw [if_pos (by kernel_rfl)]
            refine ⟨.int .i64 (k1 : Int), fun Z hZ => ?_, hKQ _ ?_⟩
            · unfold Oper.quietAtIn; go_simp
            clear hKQ KQ
            simp only [Act.put, List.setIfInBounds_toArray, List.set_cons_zero, List.set_cons_succ]
            refine wpQuietIn_step (fun _ _ _ _ => trivial) (fun KQ hKQ => ?_)
            rw [if_pos (by kernel_rfl)]
            refine ⟨.pointer (some ⟨ba, k1, none⟩), fun Z hZ => ?_, hKQ _ ?_⟩
            · unfold Oper.quietAtIn; go_simp
            clear hKQ KQ
            simp only [Act.put, List.setIfInBounds_toArray, List.set_cons_zero, List.set_cons_succ]
            refine wpQuietIn_step (fun _ _ _ _ => trivial) (fun KQ hKQ => ?_)
            rw [if_pos (by kernel_rfl)]
            refine ⟨.int .i64 x1, fun Z hZ => ?_, hKQ _ ?_⟩
            · have q1 := cell_below hZ c1; have qz := cell_lt q1; unfold Oper.quietAtIn; go_simp
            clear hKQ KQ
            simp only [Act.put, List.setIfInBounds_toArray, List.set_cons_zero, List.set_cons_succ]
            refine wpQuietIn_step (fun _ _ _ _ => trivial) (fun KQ hKQ => ?_)
            rw [if_pos (by kernel_rfl)]
            refine ⟨.slice (some ⟨ba, 0, none⟩) N N, fun Z hZ => ?_, hKQ _ ?_⟩
            · unfold Oper.quietAtIn; go_simp
            clear hKQ KQ
            simp only [Act.put, List.setIfInBounds_toArray, List.set_cons_zero, List.set_cons_succ]
            refine wpQuietIn_step (fun _ _ _ _ => trivial) (fun KQ hKQ => ?_)
            rw [if_pos (by kernel_rfl)]
            refine ⟨.int .i64 (k2 : Int), fun Z hZ => ?_, hKQ _ ?_⟩
            · unfold Oper.quietAtIn; go_simp
            clear hKQ KQ
            simp only [Act.put, List.setIfInBounds_toArray, List.set_cons_zero, List.set_cons_succ]
            refine wpQuietIn_step (fun _ _ _ _ => trivial) (fun KQ hKQ => ?_)
            rw [if_pos (by kernel_rfl)]
            refine ⟨.pointer (some ⟨ba, k2, none⟩), fun Z hZ => ?_, hKQ _ ?_⟩
            · unfold Oper.quietAtIn; go_simp
            clear hKQ KQ
            simp only [Act.put, List.setIfInBounds_toArray, List.set_cons_zero, List.set_cons_succ]
            refine wpQuietIn_step (fun _ _ _ _ => trivial) (fun KQ hKQ => ?_)
            rw [if_pos (by kernel_rfl)]
            refine ⟨.int .i64 x1, fun Z hZ => ?_, hKQ _ ?_⟩
            · have q1 := cell_below hZ c2; have qz := cell_lt q1; unfold Oper.quietAtIn; go_simp
            clear hKQ KQ
            simp only [Act.put, List.setIfInBounds_toArray, List.set_cons_zero, List.set_cons_succ]
            refine wpQuietIn_step (fun _ _ _ _ => trivial) (fun KQ hKQ => ?_)
            rw [if_pos (by kernel_rfl)]
            refine ⟨.bool false, fun Z hZ => ?_, hKQ _ ?_⟩
            · unfold Oper.quietAtIn; go_simp
            clear hKQ KQ
            simp only [Act.put, List.setIfInBounds_toArray, List.set_cons_zero, List.set_cons_succ]
            refine wpQuietIn_step (fun _ _ _ _ => trivial) (fun KQ hKQ => ?_)
            rw [if_pos (by kernel_rfl)]
            refine ⟨.bool false, fun Z hZ => ?_, hKQ _ ?_⟩
            · unfold Oper.quietAtIn; go_simp
            clear hKQ KQ
            simp only [Act.put, List.setIfInBounds_toArray, List.set_cons_zero, List.set_cons_succ]
            refine wpQuietIn_nil ?_
            intro w7 hb7
            simp only [List.replicate_succ, List.replicate_zero, List.cons_append, List.nil_append]
            refine wpAnyIn_ready (rs := [50]) (by kernel_rfl) (by simp) (AllReadyIn.cons rfl (fun K' hKK => ?_) AllReadyIn.nil)
            go_simp
            refine hKK _ _ ?_
            clear hKK
            refine wpAnyIn_done (by kernel_rfl) ?_ _
            have HR7 := Lib.hid (bt HR6.out hb7)
            clear c1 c2 zc hb7 o1 o2 o3
            go_wp2_with fail
            go_roundw
            case rel => exact ⟨c + 1, _, _, _, _, _, rfl, rfl, rfl, rfl, rfl, rfl, by have := HLC.out; omega, HR7⟩
            case measure => have := HLC.out; have := HQQ.out; simp [intOf]; omega
        · have hle2 : ¬ ((c : Int) - r ≤ r) := by omega
          have va : IntKind.i64.wrap ((a : Int) - l + 1) = ((a + 1 : Nat) : Int) - l := by rw [IntWalk.i64_in _ (by omega)]; omega
          have HLA := Lib.hid hla
          go_wp2_with fail
          go_roundw
          case rel => exact ⟨a + 1, _, _, _, _, _, _, rfl, rfl, rfl, rfl, rfl, rfl, rfl, by have := HLA.out; omega, HR⟩
          case measure => have := HLA.out; simp [intOf]; omega
    · have hle : ¬ ((a : Int) - l ≤ l) := by omega
      go_wp2_with (go_at_call 9; refine (HAW.out _).mono ?_; rintro e w9 ⟨rfl, hb9⟩; have HB9 := Lib.hid hb9; clear hb9)
      go_ret
      exact ⟨rfl, bt HB0.out (bt HB3.out (bt HR.out HB9.out))⟩
end Go.Proofs.Ytiapimfmnmegpaa.St
