/- -/
import Derived.Test.YtgnfaemnehmgcaaGreatDoorQ49
import Derived.Deep.RegionHeld3
import Derived.Laws.Concat
import Derived.Test.YtgnfaemnehmgcaaGreatDoorQ03
import Derived.Test.YtgnfaemnehmgcaaGreatDoorQ25
import Derived.Test.YtgnfaemnehmgcaaGreatDoorQ48
namespace Go.Proofs.YtgnfaemnehmgcaaGreatDoor.Cal
open Go Go.RowKit
attribute [local go_sem] Oper.semAt_some
def tailN : Nat → Code → Code
  | 0, c => c
  | n + 1, .seq _ b => tailN n b
  | _ + 1, c => c
def headC : Code → Code
  | .seq a _ => a
  | c => c
def bodyC : Option Code → Code
  | some c => c
  | none => .skip
set_option maxRecDepth 100000 in
set_option maxHeartbeats 1000000000 in
theorem small_tail {a0 a1 a2 a3 a4 a5 a6 a7 a8 a9 b0 b1 b2 b3 b4 b5 b6 b7 b8 b9 c0 c1 c2 c3 c4 c5 c6 c7 c8 c9 d0 d1 d2 d3 d4 d5 d6 d7 d8 d9 e0 e1 e2 e3 e4 e5 e6 e7 e8 e9 f0 f1 f2 f3 f4 f5 f6 f7 f8 f9 g0 g1 g2 g3 g4 g5 g6 g7 g8 g9 h0 h1 h2 h3 h4 h5 h6 h7 h8 h9 i0 i1 i2 i3 i4 i5 i6 i7 i8 i9 j0 j1 j2 j3 j4 j5 j6 j7 j8 j9 k0 k1 k2 k3 k4 k5 k6 k7 k8 k9 l0 l1 l2 l3 l4 l5 l6 l7 l8 l9 m0 m1 m2 m3 m4 m5 m6 m7 m8 m9 n0 n1 n2 n3 n4 n5 n6 n7 n8 n9 o0 o1 o2 o3 o4 o5 o6 o7 o8 o9 p0 p1 p2 p3 p4 p5 p6 p7 p8 p9 q0 q1 q2 q3 q4 q5 q6 q7 q8 q9 r0 r1 r2 r3 r4 r5 r6 r7 r8 r9 s0 s1 s2 s3 s4 s5 s6 s7 s8 s9 t0 t1 t2 t3 t4 t5 t6 t7 t8 t9 u0 u1 u2 u3 u4 u5 u6 u7 u8 u9 v0 v1 v2 v3 v4 v5 v6 v7 v8 v9 w0 w1 w2 w3 w4 w5 w6 w7 w8 w9 x0 x1 x2 x3 x4 x5 x6 x7 x8 x9 y0 y1 y2 y3 y4 y5 y6 y7 y8 y9 z0 z1 z2 z3 z4 z5 z6 z7 z8 z9 A0 A1 A2 A3 A4 A5 A6 A7 A8 A9 B0 B1 B2 B3 B4 B5 B6 B7 B8 B9 C0 C1 C2 C3 C4 C5 C6 C7 C8 C9 D0 D1 D2 D3 D4 D5 D6 D7 D8 D9 E0 E1 E2 E3 E4 E5 E6 E7 E8 E9 F0 F1 F2 F3 F4 F5 F6 F7 F8 F9 G0 G1 G2 G3 G4 G5 G6 G7 G8 G9 H0 H1 H2 H3 H4 H5 H6 H7 H8 H9 I0 I1 I2 I3 I4 I5 I6 I7 I8 I9 J0 J1 J2 J3 J4 J5 J6 J7 J8 J9 K0 K1 K2 K3 K4 K5 K6 K7 K8 K9 L0 L1 L2 L3 L4 L5 L6 L7 L8 L9 M0 M1 M2 M3 M4 M5 M6 M7 M8 M9 N0 N1 N2 N3 N4 N5 N6 N7 N8 N9 O0 O1 O2 O3 O4 O5 O6 O7 O8 O9 P0 P1 P2 P3 P4 P5 P6 P7 P8 P9 Q0 Q1 Q2 Q3 Q4 Q5 Q6 Q7 Q8 Q9 R0 R1 R2 R3 R4 R5 R6 R7 R8 R9 S0 S1 S2 S3 : Value} {K : Act → World → Prop} {w wr : World} (hK : ∀ a w', (tailN 11 (bodyC Tryz.f4.body)).wp Tryz.prog (bodyPost Tryz.prog Tryz.f4 fun e w' => e = .returned (.bool true) ∧ Below w.heap.size w w') a w' → K a w') (HA : Hid (SmA w wr)) :
    (headC (tailN 10 (bodyC Tryz.f4.body))).wp Tryz.prog (Exit.then K (bodyPost Tryz.prog Tryz.f4 fun e w' => e = .returned (.bool true) ∧ Below w.heap.size w w')) { tmps := #[a0,a1,a2,a3,a4,a5,a6,a7,a8,a9,b0,b1,b2,b3,b4,b5,b6,b7,b8,b9,c0,c1,c2,c3,c4,c5,c6,c7,c8,c9,d0,d1,d2,d3,d4,d5,d6,d7,d8,d9,e0,e1,e2,e3,e4,e5,e6,e7,e8,e9,f0,f1,f2,f3,f4,f5,f6,f7,f8,f9,g0,g1,g2,g3,g4,g5,g6,g7,g8,g9,h0,h1,h2,h3,h4,h5,h6,h7,h8,h9,i0,i1,i2,i3,i4,i5,i6,i7,i8,i9,j0,j1,j2,j3,j4,j5,j6,j7,j8,j9,k0,k1,k2,k3,k4,k5,k6,k7,k8,k9,l0,l1,l2,l3,l4,l5,l6,l7,l8,l9,m0,m1,m2,m3,m4,m5,m6,m7,m8,m9,n0,n1,n2,n3,n4,n5,n6,n7,n8,n9,o0,o1,o2,o3,o4,o5,o6,o7,o8,o9,p0,p1,p2,p3,p4,p5,p6,p7,p8,p9,q0,q1,q2,q3,q4,q5,q6,q7,q8,q9,r0,r1,r2,r3,r4,r5,r6,r7,r8,r9,s0,s1,s2,s3,s4,s5,s6,s7,s8,s9,t0,t1,t2,t3,t4,t5,t6,t7,t8,t9,u0,u1,u2,u3,u4,u5,u6,u7,u8,u9,v0,v1,v2,v3,v4,v5,v6,v7,v8,v9,w0,w1,w2,w3,w4,w5,w6,w7,w8,w9,x0,x1,x2,x3,x4,x5,x6,x7,x8,x9,y0,y1,y2,y3,y4,y5,y6,y7,y8,y9,z0,z1,z2,z3,z4,z5,z6,z7,z8,z9,A0,A1,A2,A3,A4,A5,A6,A7,A8,A9,B0,B1,B2,B3,B4,B5,B6,B7,B8,B9,C0,C1,C2,C3,C4,C5,C6,C7,C8,C9,D0,D1,D2,D3,D4,D5,D6,D7,D8,D9,E0,E1,E2,E3,E4,E5,E6,E7,E8,E9,F0,F1,F2,F3,F4,F5,F6,F7,F8,F9,G0,G1,G2,G3,G4,G5,G6,G7,G8,G9,H0,H1,H2,H3,H4,H5,H6,H7,H8,H9,I0,I1,I2,I3,I4,I5,I6,I7,I8,I9,J0,J1,J2,J3,J4,J5,J6,J7,J8,J9,K0,K1,K2,K3,K4,K5,K6,K7,K8,K9,L0,L1,L2,L3,L4,L5,L6,L7,L8,L9,M0,M1,M2,M3,M4,M5,M6,M7,M8,M9,N0,N1,N2,N3,N4,N5,N6,N7,N8,N9,O0,O1,O2,O3,O4,O5,O6,O7,O8,O9,P0,P1,P2,P3,P4,P5,P6,P7,P8,P9,Q0,Q1,Q2,Q3,Q4,Q5,Q6,Q7,Q8,Q9,R0,R1,R2,R3,R4,R5,R6,R7,R8,R9,S0,S1,S2,S3], defers := [] } wr := by
  generalize hQ : (bodyPost Tryz.prog Tryz.f4 fun e w' => e = .returned (.bool true) ∧ Below w.heap.size w w') = Q at hK ⊢
  simp only [Tryz.f4, bodyC, tailN, headC] at hK ⊢
  subst hQ
  go_upto_region 78 with fail
  have hTT : ∃ T : ByteArray, (⟨#[50, 48, 49, 54, 45, 49, 50, 45, 51, 49, 32, 50, 51, 58, 53, 57, 58, 54, 48]⟩ : ByteArray) = T ∧ T.size = 19 := ⟨_, rfl, rfl⟩
  obtain ⟨TT, hTe, hTs⟩ := hTT
  rw [hTe]
  have hTi : (TT.size : Int) = 19 := by omega
  clear hTe
  go_wp2_with fail
  go_loopw [32, 336] (fun s32 s336 wr => ∃ (j : Nat) (v : Value), j ≤ 19 ∧ s32 = v ∧ s336 = .int .i64 (j : Int) ∧ Hid (SmA w wr)) (fun _ s _ => 19 - (intOf s).toNat)
  case atStart => exact ⟨0, _, Nat.zero_le _, rfl, rfl, HA⟩
  clear HA
  obtain ⟨j, v, hj, rfl, rfl, HA⟩ := hrel
  by_cases hlt : j < 19
  · have hki : (j : Int) < 19 := by omega
    have vk : IntKind.i64.wrap ((j : Int) + 1) = (j : Int) + 1 := IntWalk.i64_in _ (by omega)
    have HJ0 := Lib.hid hlt
    clear hlt hj
    have hlb : (convert 49 49 (.slice (some ⟨wr.heap.size, 0, none⟩) 9 9)).run Tryz.prog (wr.alloc (.cells #[.int .u8 48, .int .u8 45, .int .u8 58, .int .u8 32, .int .u8 47, .int .u8 58, .int .u8 57, .int .u8 59, .int .u8 65] 5)) = .ok (.slice (some ⟨wr.heap.size, 0, none⟩) 9 9) (wr.alloc (.cells #[.int .u8 48, .int .u8 45, .int .u8 58, .int .u8 32, .int .u8 47, .int .u8 58, .int .u8 57, .int .u8 59, .int .u8 65] 5 (9, 10))) := lit_bytes wr _ 9 9
    go_wp2_with fail
    clear hlb
    have I9 := Lib.hid (show BytAt (wr.alloc (.cells #[.int .u8 48, .int .u8 45, .int .u8 58, .int .u8 32, .int .u8 47, .int .u8 58, .int .u8 57, .int .u8 59, .int .u8 65] 5 (9, 10))) wr.heap.size 9 from byt_new2 wr [48, 45, 58, 32, 47, 58, 57, 59, 65] 5 (9, 10))
    have HA := Lib.hid (HA.out.below (below_alloc (Below.refl wr.heap.size wr) (.cells #[.int .u8 48, .int .u8 45, .int .u8 58, .int .u8 32, .int .u8 47, .int .u8 58, .int .u8 57, .int .u8 59, .int .u8 65] 5 (9, 10))))
    generalize wr.alloc (.cells #[.int .u8 48, .int .u8 45, .int .u8 58, .int .u8 32, .int .u8 47, .int .u8 58, .int .u8 57, .int .u8 59, .int .u8 65] 5 (9, 10)) = W9 at *
    generalize wr.heap.size = blk9 at *
    go_loopw [34, 342] (fun s34 s342 wr => ∃ (q : Nat) (v : Value), q ≤ 9 ∧ s34 = v ∧ s342 = .int .i64 (q : Int) ∧ Hid (SmA w wr ∧ BytAt wr blk9 9)) (fun _ s _ => 9 - (intOf s).toNat)
    case atStart => exact ⟨0, _, Nat.zero_le _, rfl, rfl, Lib.hid ⟨HA.out, I9.out⟩⟩
    clear HA I9
    obtain ⟨q, v34, hq, rfl, rfl, HB⟩ := hrel
    have HA := Lib.hid HB.out.1
    have I9 := Lib.hid HB.out.2
    clear HB
    by_cases hql : q < 9
    · have hqi : (q : Int) < 9 := by omega
      have vq : IntKind.i64.wrap ((q : Int) + 1) = (q : Int) + 1 := IntWalk.i64_in _ (by omega)
      obtain ⟨bv, hbv⟩ := I9.out q hql
      have zbv := cell_lt hbv
      have HQ := Lib.hid hql
      have hji : (j : Int) < 19 := hki
      obtain ⟨cap, W1, hcv, hBB⟩ := bytes_new wr TT
      rw [hTs] at hcv hBB
      have HBB := Lib.hid hBB
      have HJ := Lib.hid HJ0.out
      clear hql hq hBB
      go_upto_region 85 with fail
      clear hcv hbv zbv
      have HA1 := Lib.hid (HA.out.below HBB.out.bel)
      have I91 := Lib.hid (I9.out.below HBB.out.bel)
      have HA0 := Lib.hid HA.out
      have I90 := Lib.hid I9.out
      clear HA I9
      obtain ⟨v0, hv0⟩ := HBB.out.c j HJ.out
      have zv0 := cell_lt hv0
      have hf0 := HBB.out.fz j HJ.out
      have kW := (Below.refl W1.heap.size W1)
      go_upto_region 86 with fail
      have HBP := Lib.hid (HBB.out.put (i := j) bv)
      have HA := Lib.hid (show SmA w (W1.setCell ⟨wr.heap.size, j, none⟩ (.int .u8 (bv.toNat : Int))) from (HA0.out.below HBP.out.bel))
      have I9 := Lib.hid (I90.out.below HBP.out.bel)
      generalize W1.setCell ⟨wr.heap.size, j, none⟩ (.int .u8 (bv.toNat : Int)) = Y at *
      clear hv0 zv0 hf0 kW HBB HA1 I91
      obtain ⟨vb, hvb⟩ := byt_vals HBP.out.c
      obtain ⟨SS, hSS⟩ := bytes_back wr.heap.size 19 cap vb
      generalize wr.heap.size = bb at *
      have HCV := Lib.hid hSS
      have HVB := Lib.hid hvb
      clear hSS hvb HBP
      have HK := Lib.hid (show ∀ X, Below Y.heap.size Y X → (fun w' => Below Y.heap.size Y w' ∧ ∀ k, k < 19 → w'.cell? ⟨bb, k, none⟩ = some (.int .u8 ((vb k).toNat : Int))) X from fun X hX => ⟨hX, fun k hk => cell_below hX (HVB.out k hk)⟩)
      refine wp_region_held_drew (S := (fun w' => Below Y.heap.size Y w' ∧ ∀ k, k < 19 → w'.cell? ⟨bb, k, none⟩ = some (.int .u8 ((vb k).toNat : Int)))) (by kernel_rfl) (HK.out _ (Below.drew (Below.refl _ _))) (fun hHeld => ?_)
      refine wpAnyH_take (i := 2) (v := ?_) rfl (by kernel_rfl) (by kernel_rfl) (by kernel_rfl) (fun _ _ _ h => h) (Or.inl ⟨by rfl, ?_⟩) (by assumption) ?_
      rotate_left
      · intro w hSw; (try dsimp only at hSw); go_simp; try with_reducible rfl
      simp only [Act.put, List.getElem_toArray, List.getElem_cons_succ, List.getElem_cons_zero, List.setIfInBounds_toArray, List.set_cons_zero, List.set_cons_succ]
      refine wpAnyH_take (i := 3) (v := ?_) rfl (by kernel_rfl) (by kernel_rfl) (by kernel_rfl) (fun _ _ _ h => h) (Or.inl ⟨by rfl, ?_⟩) (by assumption) ?_
      rotate_left
      · intro w hSw; (try dsimp only at hSw); go_simp; try with_reducible rfl
      simp only [Act.put, List.getElem_toArray, List.getElem_cons_succ, List.getElem_cons_zero, List.setIfInBounds_toArray, List.set_cons_zero, List.set_cons_succ]
      refine wpAnyH_take (i := 4) (v := ?_) rfl (by kernel_rfl) (by kernel_rfl) (by kernel_rfl) (fun _ _ _ h => h) (Or.inl ⟨by rfl, ?_⟩) (by assumption) ?_
      rotate_left
      · intro w hSw; (try dsimp only at hSw); have hcv := HCV.out w hSw.2; go_simp; try with_reducible rfl
      simp only [Act.put, List.getElem_toArray, List.getElem_cons_succ, List.getElem_cons_zero, List.setIfInBounds_toArray, List.set_cons_zero, List.set_cons_succ]
      refine wpAnyH_ready (rs := [0]) (by kernel_rfl) (by simp) ?_
      refine AllReadyH.cons rfl (fun K hK => ?_) AllReadyH.nil
      go_simp
      go_at_call 12
      refine (example_bel (Below.drew (Below.refl Y.heap.size Y))).mono ?_
      rintro e ya ⟨bla, rfl, hla, hsa, hbya⟩
      go_wp2_with fail
      refine hK.out _ _ (HK.out _ hbya) (fun hHeldya => ?_)
      clear hK K
      refine wpAnyH_ready (rs := [1]) (by kernel_rfl) (by simp) ?_
      refine AllReadyH.cons rfl (fun K hK => ?_) AllReadyH.nil
      go_simp
      go_at_call 12
      refine (example_bel hbya).mono ?_
      rintro e yb ⟨blb, rfl, hlb, hsb, hbyb⟩
      go_wp2_with fail
      refine hK.out _ _ (HK.out _ hbyb) (fun hHeldyb => ?_)
      clear hK K
      refine wpAnyH_ready (rs := [5]) (by kernel_rfl) (by simp) ?_
      refine AllReadyH.cons rfl (fun K hK => ?_) AllReadyH.nil
      go_simp
      go_at_call 5
      refine (bel_of hbyb (texts_any 10 42000 2 2 (some ⟨bla, 0, none⟩) exF 10 42000 2 2 (some ⟨blb, 0, none⟩) exF 0 0 0 0 0 0 (by decide) (by decide) (by decide) (by decide) (by decide) (by decide) SS yb (HA.out.mon.below hbyb) (HA.out.pow.below hbyb) (by decide) (by decide) (by simp) (by simp) (.inr ⟨bla, 0, rfl, hla.below hsb⟩) (.inr ⟨blb, 0, rfl, hlb⟩))).mono ?_
      rintro e yc ⟨rfl, hbyc⟩
      go_wp2_with fail
      refine hK.out _ _ (HK.out _ hbyc) (fun hHeldyc => ?_)
      clear hK K
      refine wpAnyH_take (i := 6) (v := ?_) rfl (by kernel_rfl) (by kernel_rfl) (by kernel_rfl) (fun _ _ _ h => h) (Or.inl ⟨by rfl, ?_⟩) (by assumption) ?_
      rotate_left
      · intro w hSw; (try dsimp only at hSw); go_simp; try with_reducible rfl
      simp only [Act.put, List.getElem_toArray, List.getElem_cons_succ, List.getElem_cons_zero, List.setIfInBounds_toArray, List.set_cons_zero, List.set_cons_succ]
      refine wpAnyH_done (by kernel_rfl) ?_ _
      clear hHeld hHeldya hHeldyb hHeldyc
      go_wp2_with fail
      exact ⟨⟨q + 1, _, HQ.out, rfl, by simp, Lib.hid ⟨HA.out.below hbyc, I9.out.below hbyc⟩⟩, by have := HQ.out; simp [intOf]; omega⟩
    obtain rfl : q = 9 := by omega
    have hqi : ¬ ((9 : Int) < 9) := by omega
    clear hql hq I9
    go_wp2_with fail
    have hji : (j : Int) ≤ 19 := by have := HJ0.out; omega
    have hj19 : ¬ (19 : Int) < (j : Int) := by omega
    have hjn : (j : Int).toNat = j := by omega
    have hj0 : ¬ (j : Int) < 0 := by omega
    have hxs : (TT.extract 0 j).size = j := by rw [ByteArray.size_extract]; have := HJ0.out; omega
    have hcs : ¬ maxLen < 19 + j := by unfold maxLen; have := HJ0.out; omega
    have ha9 : (TT.size : Int) ≤ 8388608 := by omega
    have hb9 : ((TT.extract 0 j).size : Int) ≤ 8388608 := by rw [hxs]; have := HJ0.out; omega
    have hcat : ∀ X : World, (Op.stringOp .add TT (TT.extract 0 j)).run Tryz.prog X = .ok (.string (TT ++ TT.extract 0 j)) X := fun X => run_string_add X TT (TT.extract 0 j) ha9 hb9
    clear ha9 hb9
    have HT1 := Lib.hid (fun X (hX : Below wr.heap.size wr X) (bl2 bl3 : Nat) (h2 : LpAt X exF 2 bl2 0) (h3 : LpAt X exF 2 bl3 0) => bel_of hX (texts_any 10 42000 2 2 (some ⟨bl2, 0, none⟩) exF 10 42000 2 2 (some ⟨bl3, 0, none⟩) exF 0 0 0 0 0 0 (by decide) (by decide) (by decide) (by decide) (by decide) (by decide) (TT.extract 0 j) X (HA.out.mon.below hX) (HA.out.pow.below hX) (by decide) (by decide) (by simp) (by simp) (.inr ⟨bl2, 0, rfl, h2⟩) (.inr ⟨bl3, 0, rfl, h3⟩)))
    have HT2 := Lib.hid (fun X (hX : Below wr.heap.size wr X) (bl2 bl3 : Nat) (h2 : LpAt X exF 2 bl2 0) (h3 : LpAt X exF 2 bl3 0) => bel_of hX (texts_any 10 42000 2 2 (some ⟨bl2, 0, none⟩) exF 10 42000 2 2 (some ⟨bl3, 0, none⟩) exF 0 0 0 0 0 0 (by decide) (by decide) (by decide) (by decide) (by decide) (by decide) (TT ++ TT.extract 0 j) X (HA.out.mon.below hX) (HA.out.pow.below hX) (by decide) (by decide) (by simp) (by simp) (.inr ⟨bl2, 0, rfl, h2⟩) (.inr ⟨bl3, 0, rfl, h3⟩)))
    have HXa := Lib.hid (fun X (hX : Below wr.heap.size wr X) => example_bel hX)
    have HXb := Lib.hid (fun X (hX : Below wr.heap.size wr X) => example_bel hX)
    have HXc := Lib.hid (fun X (hX : Below wr.heap.size wr X) => example_bel hX)
    have HXd := Lib.hid (fun X (hX : Below wr.heap.size wr X) => example_bel hX)
    go_region_held3 (fun w' => Below wr.heap.size wr w')
      (first | exact Below.drew (Below.refl _ _) | assumption)
      (first | (go_at_call 12; refine (HXa.out _ (by first | assumption | exact Below.drew (Below.refl _ _))).mono ?_; rintro e yea ⟨bla, rfl, hla, hsa, hba⟩; clear HXa) | (go_at_call 12; refine (HXb.out _ (by first | assumption | exact Below.drew (Below.refl _ _))).mono ?_; rintro e yeb ⟨blb, rfl, hlb, hsb, hbb⟩; clear HXb) | (go_at_call 5; refine (HT1.out _ (by first | assumption | exact Below.drew (Below.refl _ _)) bla blb (hla.below hsb) hlb).mono ?_; rintro e yc1 ⟨rfl, hc1⟩; clear HT1) | (go_at_call 12; refine (HXc.out _ (by first | assumption | exact Below.drew (Below.refl _ _))).mono ?_; rintro e yec ⟨blc, rfl, hlc, hsc, hbc⟩; clear HXc) | (go_at_call 12; refine (HXd.out _ (by first | assumption | exact Below.drew (Below.refl _ _))).mono ?_; rintro e yed ⟨bld, rfl, hld, hsd, hbd⟩; clear HXd) | (go_at_call 5; refine (HT2.out _ (by first | assumption | exact Below.drew (Below.refl _ _)) blc bld (hlc.below hsd) hld).mono ?_; rintro e yc2 ⟨rfl, hc2⟩; clear HT2))
    all_goals (try go_wp2_with fail)
    all_goals exact ⟨⟨j + 1, _, HJ0.out, rfl, by simp, Lib.hid (HA.out.below hc2)⟩, by have := HJ0.out; simp [intOf]; omega⟩
  obtain rfl : j = 19 := by omega
  have hki : ¬ ((19 : Int) < 19) := by omega
  clear hlt hj
  go_upto_region 93 with fail
  go_wp2_with fail
  have HL := Lib.hid (SmL.nil wr (fun _ => (0, 0)))
  have HA0 := Lib.hid HA.out
  clear HA
  obtain ⟨B0, hB0⟩ : ∃ B, wr = B := ⟨_, rfl⟩
  rw [hB0] at HL HA0 ⊢
  clear hB0
  obtain ⟨i0, hi0, hz0, hz1, hz2⟩ := info_parts infoLeap
  go_loopw [36, 37] (fun s36 s37 wr => ∃ (t K c : Nat) (p : Option Addr) (f : Nat → Int × Int), t ≤ 26 ∧ K = 4 * t ∧ s36 = .slice p K c ∧ s37 = .int .i64 (1972 + (t : Int)) ∧ Hid (SmL B0 wr (.slice p K c) K f)) (fun _ s _ => (1998 - intOf s).toNat)
  case atStart => exact ⟨0, 0, 0, none, _, Nat.zero_le _, rfl, rfl, rfl, HL⟩
  clear HL
  obtain ⟨t, K, c, p, f, ht, hK, rfl, rfl, HL⟩ := hrel
  by_cases hlt : t < 26
  · have hKi : (K : Int) ≤ 100 := by omega
    have vt : IntKind.i64.wrap (1972 + (t : Int) + 1) = 1972 + (t : Int) + 1 := IntWalk.i64_in _ (by omega)
    have HT := Lib.hid (And.intro hlt hK)
    clear hlt ht hK
    go_wp2_with fail
    clear hKi
    go_loopw [36, 38] (fun s36 s38 wr => ∃ (r K c : Nat) (p : Option Addr) (f : Nat → Int × Int) (M : Int), r ≤ 4 ∧ K = 4 * t + r ∧ M = 3 + 3 * (r : Int) ∧ s36 = .slice p K c ∧ s38 = .int .i64 M ∧ Hid (SmL B0 wr (.slice p K c) K f)) (fun _ s _ => (15 - intOf s).toNat)
    case atStart => exact ⟨0, K, c, p, f, _, Nat.zero_le _, HT.out.2, rfl, rfl, rfl, HL⟩
    clear HL
    obtain ⟨r, K, c, p, f, M, hr, hK, hM, rfl, rfl, HL⟩ := hrel
    by_cases hrl : r < 4
    · have hMi : M ≤ 12 := by omega
      have vM : IntKind.i64.wrap (M + 3) = M + 3 := IntWalk.i64_in _ (by omega)
      have hq : M.tdiv 3 = (r : Int) + 1 := by rw [hM, Int.tdiv_eq_ediv_of_nonneg (by omega)]; omega
      have hq1 : IntKind.i64.wrap ((r : Int) + 1) = (r : Int) + 1 := IntWalk.i64_in _ (by omega)
      have hq2 : (r : Int) + 1 - 1 = (r : Int) := by omega
      have hq3 : IntKind.i64.wrap (r : Int) = (r : Int) := IntWalk.i64_in _ (by omega)
      have hr4 : (r : Int) < 4 := by omega
      have HR := Lib.hid (And.intro hrl (And.intro hK hM))
      have hKb : K ≤ 103 := by have := HT.out.1; omega
      obtain ⟨dv, hdv, -, -⟩ := ints_new wr [31, 30, 30, 31] 3 (by intro x hx; simp at hx; omega) r hrl
      have hdv : (wr.alloc (.cells #[.int .i64 31, .int .i64 30, .int .i64 30, .int .i64 31] 3)).cell? ⟨wr.heap.size, r, none⟩ = some (.int .i64 dv) := hdv
      obtain ⟨dn, de, hday⟩ := Day_any (1972 + (t : Int)) M dv
      have HDAY := Lib.hid hday
      have HM0 := Lib.hid ((HA0.out.mon.below HL.out.bel).below (below_alloc (Below.refl wr.heap.size wr) (.cells #[.int .i64 31, .int .i64 30, .int .i64 30, .int .i64 31] 3)))
      clear hday hK hM hrl hr
      go_upto_region 100 with (go_at_call 13; refine (HDAY.out _ HM0.out).mono ?_; rintro e w1 ⟨rfl, rfl⟩)
      have HL1 := Lib.hid (HL.out.below (below_alloc (Below.refl wr.heap.size wr) (.cells #[.int .i64 31, .int .i64 30, .int .i64 30, .int .i64 31] 3)))
      clear hdv HDAY HM0 HL hq hq1 hq2 hq3 hr4
      generalize wr.alloc (.cells #[.int .i64 31, .int .i64 30, .int .i64 30, .int .i64 31] 3) = W1 at *
      obtain ⟨sv, hsv⟩ : ∃ s, 1 - 2 * ((K : Int) % 2) = s := ⟨_, rfl⟩
      go_upto_region 98 with (at_builtin; refine wpList_append_own_at _ rfl _ _ _ rfl B0.heap.size 33 i0 (.agg #[.int .i64 0, .int .i64 0]) 2 16 Tryz.underlying22 hi0 hz0 hz1 hz2 rfl (by decide) _ K _ rfl (HL1.out.own.alloc _) ⟨W1.heap.size, 0, none⟩ 1 1 [.int .i64 dn, .int .i64 sv] rfl rfl (two_new _ _ _ _) (by simp [Value.oneCell']) (by unfold maxLen; omega) (by omega) (by have := HL1.out.bel.size; simp; omega) ?_; intro v' w2 hown hg _ _; obtain ⟨g', cap', rfl⟩ := ownsRow_succ hown; have HL2 := Lib.hid ((HL1.out.below (below_alloc (Below.refl _ _) _)).more (dn, sv) hown hg); clear hown hg)
      go_wp2_with fail
      exact ⟨⟨r + 1, K + 1, cap', _, _, M + 3, by have := HR.out.1; omega, by have := HR.out.2.1; omega, by have := HR.out.2.2; omega, rfl, rfl, HL2⟩, by have := HR.out; simp [intOf]; omega⟩
    obtain rfl : r = 4 := by omega
    have hMi : ¬ M ≤ 12 := by omega
    have HR := Lib.hid hK
    have H26 := Lib.hid hM
    clear hrl hr hK hM
    go_wp2_with fail
    exact ⟨⟨t + 1, K, c, p, f, by have := HT.out.1; omega, by have := HR.out; omega, rfl, by simp; omega, HL⟩, by have := HT.out.1; simp [intOf]; omega⟩
  obtain rfl : t = 26 := by omega
  obtain rfl : K = 104 := by omega
  have hKi : ¬ ((104 : Int) ≤ 100) := by omega
  clear hlt ht hK
  obtain ⟨p', c', hpc, hc1, hc2, hlp, -⟩ := own_leaps HL.out.own
  cases hpc
  have HLP := Lib.hid hlp
  have HA := Lib.hid (HA0.out.below HL.out.bel)
  clear hlp HL
  go_wp2_with fail
  obtain ⟨pb, po, rfl, hat⟩ := HLP.out.resolve_left (by decide)
  have k8 := below_alloc (Below.refl wr.heap.size wr) (.cells #[.int .i64 100, .int .i64 101] 3)
  have HAT := Lib.hid (hat.below k8)
  have H8 := Lib.hid (show (wr.alloc (.cells #[.int .i64 100, .int .i64 101] 3)).cell? ⟨wr.heap.size, 0, none⟩ = some (.int .i64 100) ∧ (wr.alloc (.cells #[.int .i64 100, .int .i64 101] 3)).cell? ⟨wr.heap.size, 1, none⟩ = some (.int .i64 101) from by constructor <;> simp)
  have HA := Lib.hid (HA.out.below k8)
  clear hat k8 HLP
  generalize wr.alloc (.cells #[.int .i64 100, .int .i64 101] 3) = W8 at *
  generalize wr.heap.size = blk18 at *
  go_loopw [42, 414] (fun s42 s414 wr => ∃ (j : Nat) (v : Value), j ≤ 2 ∧ s42 = v ∧ s414 = .int .i64 (j : Int) ∧ Hid (SmA w wr ∧ LpAt wr f 104 pb po ∧ wr.cell? ⟨blk18, 0, none⟩ = some (.int .i64 100) ∧ wr.cell? ⟨blk18, 1, none⟩ = some (.int .i64 101))) (fun _ s _ => 2 - (intOf s).toNat)
  case atStart => exact ⟨0, _, Nat.zero_le _, rfl, rfl, Lib.hid ⟨HA.out, HAT.out, H8.out.1, H8.out.2⟩⟩
  clear HA HAT H8
  obtain ⟨j, v, hj, rfl, rfl, HB⟩ := hrel
  by_cases hlt : j < 2
  · have hki : (j : Int) < 2 := by omega
    have vk : IntKind.i64.wrap ((j : Int) + 1) = (j : Int) + 1 := IntWalk.i64_in _ (by omega)
    obtain ⟨nn, hn1, hn2, hy⟩ : ∃ nn : Nat, 100 ≤ nn ∧ nn ≤ 101 ∧ wr.cell? ⟨blk18, j, none⟩ = some (.int .i64 (nn : Int)) := by
      rcases (by omega : j = 0 ∨ j = 1) with rfl | rfl
      · exact ⟨100, by decide, by decide, HB.out.2.2.1⟩
      · exact ⟨101, by decide, by decide, HB.out.2.2.2⟩
    have zy := cell_lt hy
    have HK := Lib.hid hlt
    have g1 : (nn : Int) ≤ c := by omega
    have g2 : ¬ (c : Int) < nn := by omega
    have g3 : ¬ (nn : Int) < 0 := by omega
    have g4 : (nn : Int).toNat = nn := by omega
    have g5 : nn ≤ c := by omega
    have HLE := Lib.hid (LpIn.less (show nn ≤ 104 by omega) (.inr ⟨pb, po, rfl, HB.out.2.1⟩ : LpIn wr f 104 (some ⟨pb, po, none⟩)))
    have HN := Lib.hid (And.intro hn1 hn2)
    clear hlt hj hn1 hn2
    go_wp2_with (go_at_call 9; refine (tables_any 0 88069 f nn _ (some ⟨pb, po, none⟩) 50000 1980 6 30 0 0 0 500000000 _ HB.out.1.mon (by have := HN.out; omega) (by simp) HLE.out).mono ?_; rintro e y1 ⟨rfl, hb⟩; have HB1 := Lib.hid (show SmA w y1 ∧ LpAt y1 f 104 pb po ∧ y1.cell? ⟨blk18, 0, none⟩ = some (.int .i64 100) ∧ y1.cell? ⟨blk18, 1, none⟩ = some (.int .i64 101) from ⟨HB.out.1.below hb, HB.out.2.1.below hb, cell_below hb HB.out.2.2.1, cell_below hb HB.out.2.2.2⟩); clear hb hy zy)
    exact ⟨⟨j + 1, _, HK.out, rfl, by simp, HB1⟩, by have := HK.out; simp [intOf]; omega⟩
  obtain rfl : j = 2 := by omega
  have hki : ¬ ((2 : Int) < 2) := by omega
  clear hlt hj
  have HA := Lib.hid HB.out.1
  clear HB
  have hfd : ∀ (bl : Nat) (X : World), (Instr.field 24 (.agg #[.int .i64 10, .slice (some ⟨bl, 0, none⟩) 2 2, .int .i64 42000]) 1).run Tryz.prog X = .ok (.slice (some ⟨bl, 0, none⟩) 2 2) X := fun _ _ => by kernel_rfl
  have HX := Lib.hid (example_own wr)
  go_upto_region 108 with (go_at_call 12; refine HX.out.mono ?_; rintro e y0 ⟨bl, rfl, hl0, hge0, hf0, hb0⟩; have HE := Lib.hid hl0; have HB0 := Lib.hid hb0; clear hl0 hge0 hf0 hb0)
  clear HX
  have kY := below_alloc (Below.refl y0.heap.size y0) (.cells #[.int .i64 10, .slice (some ⟨bl, 0, none⟩) 1 2, .int .i64 41682] 24)
  have HT0 := Lib.hid (TBox.new y0 10 41682 1 2 (some ⟨bl, 0, none⟩) 24)
  have HE := Lib.hid (LpIn.less (show 1 ≤ 2 by decide) (.inr ⟨bl, 0, rfl, HE.out.below kY⟩ : LpIn _ exF 2 (some ⟨bl, 0, none⟩)))
  have HA := Lib.hid (HA.out.below (bt HB0.out kY))
  clear HB0 kY
  generalize y0.alloc (.cells #[.int .i64 10, .slice (some ⟨bl, 0, none⟩) 1 2, .int .i64 41682] 24) = Y at *
  generalize y0.heap.size = a43 at *
  obtain ⟨q0, q1, q2⟩ := HT0.out
  have zq := cell_lt q0
  have hmk := make201
  have HT1 := Lib.hid (fun X (hX : Below Y.heap.size Y X) (bl3 : Nat) (h3 : LpAt X exF 2 bl3 0) => bel_of hX (texts_any 10 41682 1 2 (some ⟨bl, 0, none⟩) exF 10 42000 2 2 (some ⟨bl3, 0, none⟩) exF 0 0 0 0 0 0 (by decide) (by decide) (by decide) (by decide) (by decide) (by decide) ⟨#[]⟩ X (HA.out.mon.below hX) (HA.out.pow.below hX) (by decide) (by decide) (by simp) (by simp) (HE.out.below hX) (.inr ⟨bl3, 0, rfl, h3⟩)))
  have HT2 := Lib.hid (fun X (hX : Below Y.heap.size Y X) (bl3 bn : Nat) (h3 : LpAt X exF 2 bl3 0) (h4 : LpAt X (fun _ => (0, 0)) 201 bn 0) => bel_of hX (zones_any 10 42000 2 2 (some ⟨bl3, 0, none⟩) exF 0 201 201 (some ⟨bn, 0, none⟩) (fun _ => (0, 0)) 0 0 0 0 0 0 0 X (HA.out.mon.below hX) (.inr ⟨bl3, 0, rfl, h3⟩) (.inr ⟨bn, 0, rfl, h4⟩) (by decide) (by decide) (by simp) (by simp) (fun _ _ => by decide)))
  have HT3 := Lib.hid (fun X (hX : Below Y.heap.size Y X) => bel_of hX (awake_any X (HA.out.mon.below hX)))
  have HXa := Lib.hid (fun X (hX : Below Y.heap.size Y X) => example_bel hX)
  have HXb := Lib.hid (fun X (hX : Below Y.heap.size Y X) => example_bel hX)
  go_region_held3 (fun w' => Below Y.heap.size Y w' ∧ w'.cell? ⟨a43, 0, none⟩ = some (.int .i64 10) ∧ w'.cell? ⟨a43, 1, none⟩ = some (.slice (some ⟨bl, 0, none⟩) 1 2) ∧ w'.cell? ⟨a43, 2, none⟩ = some (.int .i64 41682))
    (first | exact ⟨Below.drew (Below.refl _ _), q0, q1, q2⟩ | exact ⟨(by assumption), cell_below (by assumption) q0, cell_below (by assumption) q1, cell_below (by assumption) q2⟩ | exact ⟨bt (by assumption) (below_alloc (Below.refl _ _) _), cell_below (bt (by assumption) (below_alloc (Below.refl _ _) _)) q0, cell_below (bt (by assumption) (below_alloc (Below.refl _ _) _)) q1, cell_below (bt (by assumption) (below_alloc (Below.refl _ _) _)) q2⟩)
    (first | (go_at_call 12; refine (HXa.out _ (by first | assumption | exact Below.drew (Below.refl _ _) | exact (And.left (by assumption)))).mono ?_; rintro e yea ⟨bla, rfl, hla, hsa, hba⟩; clear HXa) | (go_at_call 5; refine (HT1.out _ (by first | assumption | exact Below.drew (Below.refl _ _) | exact (And.left (by assumption))) bla hla).mono ?_; rintro e yc1 ⟨rfl, hc1⟩; clear HT1) | (go_at_call 12; refine (HXb.out _ (by first | assumption | exact Below.drew (Below.refl _ _) | exact (And.left (by assumption)))).mono ?_; rintro e yeb ⟨blb, rfl, hlb, hsb, hbb⟩; clear HXb) | (go_at_call 11; refine (HT2.out _ (by first | assumption | exact bt (by assumption) (below_alloc (Below.refl _ _) _)) blb _ (by first | exact hlb | exact hlb.below (below_alloc (Below.refl _ _) _)) (by first | exact noCs_new _ _ | exact (noCs_new _ _).below (by assumption))).mono ?_; rintro e yc2 ⟨rfl, hc2⟩; clear HT2) | (go_at_call 6; refine (HT3.out _ (by first | assumption | exact Below.drew (Below.refl _ _) | exact (And.left (by assumption)))).mono ?_; rintro e yc3 ⟨rfl, hc3⟩; clear HT3))
  all_goals (try go_wp2_with fail)
  all_goals go_ret
  all_goals exact ⟨rfl, bt HA.out.bel hc3⟩
end Go.Proofs.YtgnfaemnehmgcaaGreatDoor.Cal
