/- -/
import Derived.Test.YtgnfaemnehmgcaaGreatDoorQ50
import Derived.Deep.RegionHeld3
import Derived.Laws.Concat
import Derived.Test.YtgnfaemnehmgcaaGreatDoorQ03
import Derived.Test.YtgnfaemnehmgcaaGreatDoorQ25
import Derived.Test.YtgnfaemnehmgcaaGreatDoorQ48
namespace Go.Proofs.YtgnfaemnehmgcaaGreatDoor.Cal
open Go Go.RowKit
attribute [local go_sem] Oper.semAt_some
set_option maxRecDepth 100000 in
set_option maxHeartbeats 1000000000 in
theorem small_mid {a0 a1 a2 a3 a4 a5 a6 a8 a9 b0 b1 b2 b3 b4 b5 b6 b7 b8 b9 c0 c1 c2 c3 c4 c5 c6 c7 c8 c9 d0 d1 d2 d3 d4 d5 d6 d7 d8 d9 e0 e1 e2 e3 e4 e5 e6 e7 e8 e9 f0 f1 f2 f3 f4 f5 f6 f7 f8 f9 g0 g1 g2 g3 g4 g5 g6 g7 g8 g9 h0 h1 h2 h3 h4 h5 h6 h7 h8 h9 i0 i1 i2 i3 i4 i5 i6 i7 i8 i9 j0 j1 j2 j3 j4 j5 j6 j7 j8 j9 k0 k1 k2 k3 k4 k5 k6 k7 k8 k9 l0 l1 l2 l3 l4 l5 l6 l7 l8 l9 m0 m1 m2 m3 m4 m5 m6 m7 m8 m9 n0 n1 n2 n3 n4 n5 n6 n7 n8 n9 o0 o1 o2 o3 o4 o5 o6 o7 o8 o9 p0 p1 p2 p3 p4 p5 p6 p7 p8 p9 q0 q1 q2 q3 q4 q5 q6 q7 q8 q9 r0 r1 r2 r3 r4 r5 r6 r7 r8 r9 s0 s1 s2 s3 s4 s5 s6 s7 s8 s9 t0 t1 t2 t3 t4 t5 t6 t7 t8 t9 u0 u1 u2 u3 u4 u5 u6 u7 u8 u9 v0 v1 v2 v3 v4 v5 v6 v7 v8 v9 w0 w1 w2 w3 w4 w5 w6 w7 w8 w9 x0 x1 x2 x3 x4 x5 x6 x7 x8 x9 y0 y1 y2 y3 y4 y5 y6 y7 y8 y9 z0 z1 z2 z3 z4 z5 z6 z7 z8 z9 A0 A1 A2 A3 A4 A5 A6 A7 A8 A9 B0 B1 B2 B3 B4 B5 B6 B7 B8 B9 C0 C1 C2 C3 C4 C5 C6 C7 C8 C9 D0 D1 D2 D3 D4 D5 D6 D7 D8 D9 E0 E1 E2 E3 E4 E5 E6 E7 E8 E9 F0 F1 F2 F3 F4 F5 F6 F7 F8 F9 G0 G1 G2 G3 G4 G5 G6 G7 G8 G9 H0 H1 H2 H3 H4 H5 H6 H7 H8 H9 I0 I1 I2 I3 I4 I5 I6 I7 I8 I9 J0 J1 J2 J3 J4 J5 J6 J7 J8 J9 K0 K1 K2 K3 K4 K5 K6 K7 K8 K9 L0 L1 L2 L3 L4 L5 L6 L7 L8 L9 M0 M1 M2 M3 M4 M5 M6 M7 M8 M9 N0 N1 N2 N3 N4 N5 N6 N7 N8 N9 O0 O1 O2 O3 O4 O5 O6 O7 O8 O9 P0 P1 P2 P3 P4 P5 P6 P7 P8 P9 Q0 Q1 Q2 Q3 Q4 Q5 Q6 Q7 Q8 Q9 R0 R1 R2 R3 R4 R5 R6 R7 R8 R9 S0 S1 S2 S3 : Value} {a7 bz : Nat} {gz : Nat → Int × Int} {K : Act → World → Prop} {w wr : World} (hK : ∀ a w', (tailN 9 (bodyC Tryz.f4.body)).wp Tryz.prog (bodyPost Tryz.prog Tryz.f4 fun e w' => e = .returned (.bool true) ∧ Below w.heap.size w w') a w' → K a w') (HZ : Hid (SmZ w wr a7 bz gz)) :
    (headC (tailN 8 (bodyC Tryz.f4.body))).wp Tryz.prog (Exit.then K (bodyPost Tryz.prog Tryz.f4 fun e w' => e = .returned (.bool true) ∧ Below w.heap.size w w')) { tmps := #[a0,a1,a2,a3,a4,a5,a6,.pointer (some ⟨a7, 0, none⟩),a8,a9,b0,b1,b2,b3,b4,b5,b6,b7,b8,b9,c0,c1,c2,c3,c4,c5,c6,c7,c8,c9,d0,d1,d2,d3,d4,d5,d6,d7,d8,d9,e0,e1,e2,e3,e4,e5,e6,e7,e8,e9,f0,f1,f2,f3,f4,f5,f6,f7,f8,f9,g0,g1,g2,g3,g4,g5,g6,g7,g8,g9,h0,h1,h2,h3,h4,h5,h6,h7,h8,h9,i0,i1,i2,i3,i4,i5,i6,i7,i8,i9,j0,j1,j2,j3,j4,j5,j6,j7,j8,j9,k0,k1,k2,k3,k4,k5,k6,k7,k8,k9,l0,l1,l2,l3,l4,l5,l6,l7,l8,l9,m0,m1,m2,m3,m4,m5,m6,m7,m8,m9,n0,n1,n2,n3,n4,n5,n6,n7,n8,n9,o0,o1,o2,o3,o4,o5,o6,o7,o8,o9,p0,p1,p2,p3,p4,p5,p6,p7,p8,p9,q0,q1,q2,q3,q4,q5,q6,q7,q8,q9,r0,r1,r2,r3,r4,r5,r6,r7,r8,r9,s0,s1,s2,s3,s4,s5,s6,s7,s8,s9,t0,t1,t2,t3,t4,t5,t6,t7,t8,t9,u0,u1,u2,u3,u4,u5,u6,u7,u8,u9,v0,v1,v2,v3,v4,v5,v6,v7,v8,v9,w0,w1,w2,w3,w4,w5,w6,w7,w8,w9,x0,x1,x2,x3,x4,x5,x6,x7,x8,x9,y0,y1,y2,y3,y4,y5,y6,y7,y8,y9,z0,z1,z2,z3,z4,z5,z6,z7,z8,z9,A0,A1,A2,A3,A4,A5,A6,A7,A8,A9,B0,B1,B2,B3,B4,B5,B6,B7,B8,B9,C0,C1,C2,C3,C4,C5,C6,C7,C8,C9,D0,D1,D2,D3,D4,D5,D6,D7,D8,D9,E0,E1,E2,E3,E4,E5,E6,E7,E8,E9,F0,F1,F2,F3,F4,F5,F6,F7,F8,F9,G0,G1,G2,G3,G4,G5,G6,G7,G8,G9,H0,H1,H2,H3,H4,H5,H6,H7,H8,H9,I0,I1,I2,I3,I4,I5,I6,I7,I8,I9,J0,J1,J2,J3,J4,J5,J6,J7,J8,J9,K0,K1,K2,K3,K4,K5,K6,K7,K8,K9,L0,L1,L2,L3,L4,L5,L6,L7,L8,L9,M0,M1,M2,M3,M4,M5,M6,M7,M8,M9,N0,N1,N2,N3,N4,N5,N6,N7,N8,N9,O0,O1,O2,O3,O4,O5,O6,O7,O8,O9,P0,P1,P2,P3,P4,P5,P6,P7,P8,P9,Q0,Q1,Q2,Q3,Q4,Q5,Q6,Q7,Q8,Q9,R0,R1,R2,R3,R4,R5,R6,R7,R8,R9,S0,S1,S2,S3], defers := [] } wr := by
  generalize hQ : (bodyPost Tryz.prog Tryz.f4 fun e w' => e = .returned (.bool true) ∧ Below w.heap.size w w') = Q at hK ⊢
  simp only [Tryz.f4, bodyC, tailN, headC] at hK ⊢
  subst hQ
  go_upto_region 49 with fail
  have I10 := Lib.hid (show IntsAt (wr.alloc (.cells #[.int .i64 (-1441), .int .i64 (-1440), .int .i64 (-1), .int .i64 0, .int .i64 1, .int .i64 2, .int .i64 59, .int .i64 60, .int .i64 61, .int .i64 100, .int .i64 101, .int .i64 1440, .int .i64 1441, .int .i64 41316, .int .i64 41317, .int .i64 41318, .int .i64 41497, .int .i64 41498, .int .i64 41499, .int .i64 42000, .int .i64 88068, .int .i64 88069, .int .i64 88070] 3)) wr.heap.size 23 from ints_new wr [-1441, -1440, -1, 0, 1, 2, 59, 60, 61, 100, 101, 1440, 1441, 41316, 41317, 41318, 41497, 41498, 41499, 42000, 88068, 88069, 88070] 3 (by intro x hx; simp at hx; omega))
  have HZ := Lib.hid (HZ.out.below (below_alloc (Below.refl wr.heap.size wr) (.cells #[.int .i64 (-1441), .int .i64 (-1440), .int .i64 (-1), .int .i64 0, .int .i64 1, .int .i64 2, .int .i64 59, .int .i64 60, .int .i64 61, .int .i64 100, .int .i64 101, .int .i64 1440, .int .i64 1441, .int .i64 41316, .int .i64 41317, .int .i64 41318, .int .i64 41497, .int .i64 41498, .int .i64 41499, .int .i64 42000, .int .i64 88068, .int .i64 88069, .int .i64 88070] 3)))
  generalize wr.alloc (.cells #[.int .i64 (-1441), .int .i64 (-1440), .int .i64 (-1), .int .i64 0, .int .i64 1, .int .i64 2, .int .i64 59, .int .i64 60, .int .i64 61, .int .i64 100, .int .i64 101, .int .i64 1440, .int .i64 1441, .int .i64 41316, .int .i64 41317, .int .i64 41318, .int .i64 41497, .int .i64 41498, .int .i64 41499, .int .i64 42000, .int .i64 88068, .int .i64 88069, .int .i64 88070] 3) = W10 at *
  generalize wr.heap.size = blk10 at *
  go_wp2_with fail
  go_loopw [24, 192] (fun s24 s192 wr => ∃ (j : Nat) (v : Value), j ≤ 23 ∧ s24 = v ∧ s192 = .int .i64 (j : Int) ∧ Hid (SmZ w wr a7 bz gz ∧ IntsAt wr blk10 23)) (fun _ s _ => 23 - (intOf s).toNat)
  case atStart => exact ⟨0, _, Nat.zero_le _, rfl, rfl, Lib.hid ⟨HZ.out, I10.out⟩⟩
  clear HZ I10
  obtain ⟨j, v, hj, rfl, rfl, HB⟩ := hrel
  by_cases hlt : j < 23
  · have hki : (j : Int) < 23 := by omega
    have vk : IntKind.i64.wrap ((j : Int) + 1) = (j : Int) + 1 := IntWalk.i64_in _ (by omega)
    obtain ⟨nv, hy, hn0, hn9⟩ := HB.out.2 j hlt
    have zy := cell_lt hy
    have HK := Lib.hid hlt
    have HNV := Lib.hid (And.intro hn0 hn9)
    clear hlt hj hn0 hn9
    go_wp2_with fail
    clear hy zy
    go_loopw [25, 196] (fun s25 s196 wr => ∃ (i : Nat) (v : Value), i ≤ 6 ∧ s25 = v ∧ s196 = .int .i64 (i : Int) ∧ Hid (SmZ w wr a7 bz gz ∧ IntsAt wr blk10 23)) (fun _ s _ => 6 - (intOf s).toNat)
    case atStart => exact ⟨0, _, Nat.zero_le _, rfl, rfl, HB⟩
    clear HB
    obtain ⟨i, v25, hi, rfl, rfl, HB⟩ := hrel
    by_cases hil : i < 6
    · have hii : (i : Int) < 6 := by omega
      have vi : IntKind.i64.wrap ((i : Int) + 1) = (i : Int) + 1 := IntWalk.i64_in _ (by omega)
      have HI := Lib.hid hil
      clear hil hi
      have HX := Lib.hid (example_own wr)
      go_upto_region 56 with (go_at_call 12; refine HX.out.mono ?_; rintro e y0 ⟨bl, rfl, hl0, hge0, hf0, hb0⟩; have HE := Lib.hid (ExB.new hl0 hge0 hf0 hb0 10 42000); clear hl0 hge0 hf0 hb0)
      clear HX
      have HB0 := Lib.hid HB.out
      clear HB
      generalize y0.alloc (.cells #[.int .i64 10, .slice (some ⟨bl, 0, none⟩) 2 2, .int .i64 42000] 24) = Y at *
      generalize y0.heap.size = at' at *
      have kP := below_alloc (Below.refl Y.heap.size Y) (.cells #[.pointer (some ⟨at', 0, none⟩), .pointer (some ⟨at', 2, none⟩), .pointer (some ⟨bl, 0, none⟩), .pointer (some ⟨bl, 2, none⟩), .pointer (some ⟨bl, 1, none⟩), .pointer (some ⟨bl, 3, none⟩)] 47)
      obtain ⟨⟨vx, hcx⟩, hfx, hput⟩ := HE.out.put HI.out
      obtain ⟨b', u', g', hE2⟩ := hput nv
      clear hput
      have HE2 := Lib.hid hE2
      have hiN := HI.out
      have zP := cell_lt hcx
      obtain ⟨x0, x1, x2⟩ := HE.out.t
      have zx := cell_lt x0
      have hne := HE.out.ne
      have hge : wr.heap.size ≤ exBlk at' bl i := by
        have := HE.out.ga
        have := HE.out.gb
        unfold exBlk
        split <;> omega
      have hfar : at' ≠ exBlk at' bl i ∨ exOff i ≠ 1 := by
        rcases (by omega : i = 0 ∨ i = 1 ∨ i = 2 ∨ i = 3 ∨ i = 4 ∨ i = 5) with rfl | rfl | rfl | rfl | rfl | rfl <;> simp [exBlk, exOff, hne]
      have PT : (Y.alloc (.cells #[.pointer (some ⟨at', 0, none⟩), .pointer (some ⟨at', 2, none⟩), .pointer (some ⟨bl, 0, none⟩), .pointer (some ⟨bl, 2, none⟩), .pointer (some ⟨bl, 1, none⟩), .pointer (some ⟨bl, 3, none⟩)] 47)).cell? ⟨Y.heap.size, i, none⟩ = some (.pointer (some ⟨exBlk at' bl i, exOff i, none⟩)) := by
        rcases (by omega : i = 0 ∨ i = 1 ∨ i = 2 ∨ i = 3 ∨ i = 4 ∨ i = 5) with rfl | rfl | rfl | rfl | rfl | rfl <;> simp [exBlk, exOff]
      have hPn : ¬ exBlk at' bl i = Y.heap.size := by omega
      have hE3 := hE2
      clear hne
      generalize exBlk at' bl i = pb at *
      generalize exOff i = po at *
      have kQ := below_alloc (Below.refl (Y.setCell ⟨pb, po, none⟩ (.int .i64 nv)).heap.size (Y.setCell ⟨pb, po, none⟩ (.int .i64 nv))) (.cells #[.pointer (some ⟨at', 0, none⟩), .pointer (some ⟨at', 2, none⟩), .pointer (some ⟨bl, 0, none⟩), .pointer (some ⟨bl, 2, none⟩), .pointer (some ⟨bl, 1, none⟩), .pointer (some ⟨bl, 3, none⟩)] 47)
      have KS := Lib.hid (show Below wr.heap.size wr Y.drew ∧ Below wr.heap.size wr (Y.alloc (.cells #[.pointer (some ⟨at', 0, none⟩), .pointer (some ⟨at', 2, none⟩), .pointer (some ⟨bl, 0, none⟩), .pointer (some ⟨bl, 2, none⟩), .pointer (some ⟨bl, 1, none⟩), .pointer (some ⟨bl, 3, none⟩)] 47)).drew ∧ Below wr.heap.size wr ((Y.setCell ⟨pb, po, none⟩ (.int .i64 nv)).alloc (.cells #[.pointer (some ⟨at', 0, none⟩), .pointer (some ⟨at', 2, none⟩), .pointer (some ⟨bl, 0, none⟩), .pointer (some ⟨bl, 2, none⟩), .pointer (some ⟨bl, 1, none⟩), .pointer (some ⟨bl, 3, none⟩)] 47)).drew from
        ⟨Below.drew HE.out.bel, Below.drew (bt HE.out.bel kP), Below.drew (bt (HE.out.bel.setCell (p := ⟨pb, po, none⟩) hge _) kQ)⟩)
      have KC := Lib.hid (show (Y.alloc (.cells #[.pointer (some ⟨at', 0, none⟩), .pointer (some ⟨at', 2, none⟩), .pointer (some ⟨bl, 0, none⟩), .pointer (some ⟨bl, 2, none⟩), .pointer (some ⟨bl, 1, none⟩), .pointer (some ⟨bl, 3, none⟩)] 47)).cell? ⟨at', 1, none⟩ = some (.slice (some ⟨bl, 0, none⟩) 2 2) ∧ ((Y.setCell ⟨pb, po, none⟩ (.int .i64 nv)).alloc (.cells #[.pointer (some ⟨at', 0, none⟩), .pointer (some ⟨at', 2, none⟩), .pointer (some ⟨bl, 0, none⟩), .pointer (some ⟨bl, 2, none⟩), .pointer (some ⟨bl, 1, none⟩), .pointer (some ⟨bl, 3, none⟩)] 47)).cell? ⟨at', 1, none⟩ = some (.slice (some ⟨bl, 0, none⟩) 2 2) from
        ⟨cell_below kP x1, cell_below kQ (set_far (hfar.imp (fun h e => h e.symm) (fun h e => h e)) x1)⟩)
      have HE2 := Lib.hid (HE2.out.below (Below.drew kQ))
      clear hfar hge kP kQ hE2 hE3
      refine wp_region_held_drew (S := (fun w' => Below wr.heap.size wr w' ∧ w'.cell? ⟨at', 1, none⟩ = some (.slice (some ⟨bl, 0, none⟩) 2 2))) (by kernel_rfl) ⟨KS.out.1, x1⟩ (fun hHeld => ?_)
      refine wpAnyH_take (i := 0) (v := ?_) rfl (by kernel_rfl) (by kernel_rfl) (by kernel_rfl) (fun _ _ _ h => h) (Or.inl ⟨by rfl, ?_⟩) (by assumption) ?_
      rotate_left
      · intro w hSw; (try dsimp only at hSw); go_simp; try with_reducible rfl
      simp only [Act.put, List.getElem_toArray, List.getElem_cons_zero, List.setIfInBounds_toArray, List.set_cons_zero, List.set_cons_succ]
      refine wpAnyH_take (i := 1) (v := ?_) rfl (by kernel_rfl) (by kernel_rfl) (by kernel_rfl) (fun _ _ _ h => h) (Or.inl ⟨by rfl, ?_⟩) (by assumption) ?_
      rotate_left
      · intro w hSw; (try dsimp only at hSw); go_simp; try with_reducible rfl
      simp only [Act.put, List.getElem_toArray, List.getElem_cons_succ, List.getElem_cons_zero, List.setIfInBounds_toArray, List.set_cons_zero, List.set_cons_succ]
      refine wpAnyH_take (i := 2) (v := ?_) rfl (by kernel_rfl) (by kernel_rfl) (by kernel_rfl) (fun _ _ _ h => h) (Or.inl ⟨by rfl, ?_⟩) (by assumption) ?_
      rotate_left
      · intro w hSw; (try dsimp only at hSw); go_simp; try with_reducible rfl
      simp only [Act.put, List.getElem_toArray, List.getElem_cons_succ, List.getElem_cons_zero, List.setIfInBounds_toArray, List.set_cons_zero, List.set_cons_succ]
      refine wpAnyH_take (i := 3) (v := ?_) rfl (by kernel_rfl) (by kernel_rfl) (by kernel_rfl) (fun _ _ _ h => h) (Or.inl ⟨by rfl, ?_⟩) (by assumption) ?_
      rotate_left
      · intro w hSw; (try dsimp only at hSw); go_simp; try with_reducible rfl
      simp only [Act.put, List.getElem_toArray, List.getElem_cons_succ, List.getElem_cons_zero, List.setIfInBounds_toArray, List.set_cons_zero, List.set_cons_succ]
      refine wpAnyH_take (i := 4) (v := ?_) rfl (by kernel_rfl) (by kernel_rfl) (by kernel_rfl) (fun _ _ _ h => h) (Or.inl ⟨by rfl, ?_⟩) (by assumption) ?_
      rotate_left
      · intro w hSw; (try dsimp only at hSw); go_simp; try with_reducible rfl
      simp only [Act.put, List.getElem_toArray, List.getElem_cons_succ, List.getElem_cons_zero, List.setIfInBounds_toArray, List.set_cons_zero, List.set_cons_succ]
      refine wpAnyH_take (i := 5) (v := ?_) rfl (by kernel_rfl) (by kernel_rfl) (by kernel_rfl) (fun _ _ _ h => h) (Or.inl ⟨by rfl, ?_⟩) (by assumption) ?_
      rotate_left
      · intro w hSw; (try dsimp only at hSw); go_simp; try with_reducible rfl
      simp only [Act.put, List.getElem_toArray, List.getElem_cons_succ, List.getElem_cons_zero, List.setIfInBounds_toArray, List.set_cons_zero, List.set_cons_succ]
      refine wpAnyH_take (i := 6) (v := ?_) rfl (by kernel_rfl) (by kernel_rfl) (by kernel_rfl) (fun _ _ _ h => h) (Or.inl ⟨by rfl, ?_⟩) (by assumption) ?_
      rotate_left
      · intro w hSw; (try dsimp only at hSw); go_simp; try with_reducible rfl
      simp only [Act.put, List.getElem_toArray, List.getElem_cons_succ, List.getElem_cons_zero, List.setIfInBounds_toArray, List.set_cons_zero, List.set_cons_succ]
      refine wpAnyH_take (i := 7) (v := ?_) rfl (by kernel_rfl) (by kernel_rfl) (by kernel_rfl) (fun _ _ _ h => h) (Or.inl ⟨by rfl, ?_⟩) (by assumption) ?_
      rotate_left
      · intro w hSw; (try dsimp only at hSw); go_simp; try with_reducible rfl
      simp only [Act.put, List.getElem_toArray, List.getElem_cons_succ, List.getElem_cons_zero, List.setIfInBounds_toArray, List.set_cons_zero, List.set_cons_succ]
      refine wpAnyH_take (i := 8) (v := ?_) rfl (by kernel_rfl) (by kernel_rfl) (by kernel_rfl) (fun _ _ _ h => h) (Or.inl ⟨by rfl, ?_⟩) (by assumption) ?_
      rotate_left
      · intro w hSw; (try dsimp only at hSw); go_simp; try with_reducible rfl
      simp only [Act.put, List.getElem_toArray, List.getElem_cons_succ, List.getElem_cons_zero, List.setIfInBounds_toArray, List.set_cons_zero, List.set_cons_succ]
      refine wpAnyH_take (i := 9) (v := ?_) rfl (by kernel_rfl) (by kernel_rfl) (by kernel_rfl) (fun _ _ _ h => h) (Or.inl ⟨by rfl, ?_⟩) (by assumption) ?_
      rotate_left
      · intro w hSw; (try dsimp only at hSw); go_simp; try with_reducible rfl
      simp only [Act.put, List.getElem_toArray, List.getElem_cons_succ, List.getElem_cons_zero, List.setIfInBounds_toArray, List.set_cons_zero, List.set_cons_succ]
      refine wpAnyH_take (i := 10) (v := ?_) rfl (by kernel_rfl) (by kernel_rfl) (by kernel_rfl) (fun _ _ _ h => h) (Or.inl ⟨by rfl, ?_⟩) (by assumption) ?_
      rotate_left
      · intro w hSw; (try dsimp only at hSw); go_simp; try with_reducible rfl
      simp only [Act.put, List.getElem_toArray, List.getElem_cons_succ, List.getElem_cons_zero, List.setIfInBounds_toArray, List.set_cons_zero, List.set_cons_succ]
      refine wpAnyH_take (i := 11) (v := ?_) rfl (by kernel_rfl) (by kernel_rfl) (by kernel_rfl) (fun _ _ _ h => h) (Or.inl ⟨by rfl, ?_⟩) (by assumption) ?_
      rotate_left
      · intro w hSw; (try dsimp only at hSw); go_simp; try with_reducible rfl
      simp only [Act.put, List.getElem_toArray, List.getElem_cons_succ, List.getElem_cons_zero, List.setIfInBounds_toArray, List.set_cons_zero, List.set_cons_succ]
      refine wpAnyH_take (i := 12) (v := ?_) rfl (by kernel_rfl) (by kernel_rfl) (by kernel_rfl) (fun _ _ _ h => h) (Or.inl ⟨by rfl, ?_⟩) (by assumption) ?_
      rotate_left
      · intro w hSw; (try dsimp only at hSw); go_simp; try with_reducible rfl
      simp only [Act.put, List.getElem_toArray, List.getElem_cons_succ, List.getElem_cons_zero, List.setIfInBounds_toArray, List.set_cons_zero, List.set_cons_succ]
      refine wpAnyH_take (i := 13) (v := ?_) rfl (by kernel_rfl) (by kernel_rfl) (by kernel_rfl) (fun _ _ _ h => h) (Or.inl ⟨by rfl, ?_⟩) (by assumption) ?_
      rotate_left
      · intro w hSw; (try dsimp only at hSw); go_simp; try with_reducible rfl
      simp only [Act.put, List.getElem_toArray, List.getElem_cons_succ, List.getElem_cons_zero, List.setIfInBounds_toArray, List.set_cons_zero, List.set_cons_succ]
      refine wpAnyH_take (i := 14) (v := ?_) rfl (by kernel_rfl) (by kernel_rfl) (by kernel_rfl) (fun _ _ _ h => h) (Or.inl ⟨by rfl, ?_⟩) (by assumption) ?_
      rotate_left
      · intro w hSw; (try dsimp only at hSw); go_simp; try with_reducible rfl
      simp only [Act.put, List.getElem_toArray, List.getElem_cons_succ, List.getElem_cons_zero, List.setIfInBounds_toArray, List.set_cons_zero, List.set_cons_succ]
      refine wpAnyH_take (i := 15) (v := ?_) rfl (by kernel_rfl) (by kernel_rfl) (by kernel_rfl) (fun _ _ _ h => h) (Or.inl ⟨by rfl, ?_⟩) (by assumption) ?_
      rotate_left
      · intro w hSw; (try dsimp only at hSw); go_simp; try with_reducible rfl
      simp only [Act.put, List.getElem_toArray, List.getElem_cons_succ, List.getElem_cons_zero, List.setIfInBounds_toArray, List.set_cons_zero, List.set_cons_succ]
      refine wpAnyH_take (i := 16) (v := ?_) rfl (by kernel_rfl) (by kernel_rfl) (by kernel_rfl) (fun _ _ _ h => h) (Or.inl ⟨by rfl, ?_⟩) (by assumption) ?_
      rotate_left
      · intro w hSw; (try dsimp only at hSw); go_simp; try with_reducible rfl
      simp only [Act.put, List.getElem_toArray, List.getElem_cons_succ, List.getElem_cons_zero, List.setIfInBounds_toArray, List.set_cons_zero, List.set_cons_succ]
      refine wpAnyH_take (i := 17) (v := ?_) rfl (by kernel_rfl) (by kernel_rfl) (by kernel_rfl) (fun _ _ _ h => h) (Or.inl ⟨by rfl, ?_⟩) (by assumption) ?_
      rotate_left
      · intro w hSw; (try dsimp only at hSw); go_simp; try with_reducible rfl
      simp only [Act.put, List.getElem_toArray, List.getElem_cons_succ, List.getElem_cons_zero, List.setIfInBounds_toArray, List.set_cons_zero, List.set_cons_succ]
      refine wpAnyH_take (i := 19) (v := ?_) rfl (by kernel_rfl) (by kernel_rfl) (by kernel_rfl) (fun _ _ _ h => h) (Or.inl ⟨by rfl, ?_⟩) (by assumption) ?_
      rotate_left
      · intro w hSw; (try dsimp only at hSw); go_simp; try with_reducible rfl
      simp only [Act.put, List.getElem_toArray, List.getElem_cons_succ, List.getElem_cons_zero, List.setIfInBounds_toArray, List.set_cons_zero, List.set_cons_succ]
      refine wpAnyH_take (i := 22) (v := ?_) rfl (by kernel_rfl) (by kernel_rfl) (by kernel_rfl) (fun _ _ _ h => h) (Or.inl ⟨by rfl, ?_⟩) (by assumption) ?_
      rotate_left
      · intro w hSw; (try dsimp only at hSw); go_simp; try with_reducible rfl
      simp only [Act.put, List.getElem_toArray, List.getElem_cons_succ, List.getElem_cons_zero, List.setIfInBounds_toArray, List.set_cons_zero, List.set_cons_succ]
      refine wpAnyH_ready (rs := [18]) (by kernel_rfl) (by simp) ?_
      refine AllReadyH.cons rfl (fun K hK => ?_) AllReadyH.nil
      go_simp
      refine hK.out _ _ ⟨KS.out.2.1, KC.out.1⟩ (fun hHelda => ?_)
      clear hK K
      refine wpAnyH_take (i := 20) (v := ?_) rfl (by kernel_rfl) (by kernel_rfl) (by kernel_rfl) (fun _ _ _ h => h) (Or.inl ⟨by rfl, ?_⟩) (by assumption) ?_
      rotate_left
      · intro w hSw; (try dsimp only at hSw); go_simp; try with_reducible rfl
      simp only [Act.put, List.getElem_toArray, List.getElem_cons_succ, List.getElem_cons_zero, List.setIfInBounds_toArray, List.set_cons_zero, List.set_cons_succ]
      refine wpAnyH_ready (rs := [21]) (by kernel_rfl) (by simp) ?_
      refine AllReadyH.cons rfl (fun K hK => ?_) AllReadyH.nil
      go_simp
      refine hK.out _ _ ⟨KS.out.2.1, KC.out.1⟩ (fun hHeldb => ?_)
      clear hK K
      refine wpAnyH_take (i := 23) (v := ?_) rfl (by kernel_rfl) (by kernel_rfl) (by kernel_rfl) (fun _ _ _ h => h) (Or.inl ⟨by rfl, ?_⟩) (by assumption) ?_
      rotate_left
      · intro w hSw; (try dsimp only at hSw); go_simp; try with_reducible rfl
      simp only [Act.put, List.getElem_toArray, List.getElem_cons_succ, List.getElem_cons_zero, List.setIfInBounds_toArray, List.set_cons_zero, List.set_cons_succ]
      refine wpAnyH_ready (rs := [24]) (by kernel_rfl) (by simp) ?_
      refine AllReadyH.cons rfl (fun K hK => ?_) AllReadyH.nil
      go_simp
      refine hK.out _ _ ⟨KS.out.2.2, KC.out.2⟩ (fun hHeldc => ?_)
      clear hK K
      refine wpAnyH_done (by kernel_rfl) ?_ _
      clear hHeld hHelda hHeldb hHeldc
      have HB := Lib.hid (And.intro (HB0.out.1.below HE2.out.bel) (HB0.out.2.below HE2.out.bel))
      generalize ((Y.setCell ⟨pb, po, none⟩ (.int .i64 nv)).alloc (.cells #[.pointer (some ⟨at', 0, none⟩), .pointer (some ⟨at', 2, none⟩), .pointer (some ⟨bl, 0, none⟩), .pointer (some ⟨bl, 2, none⟩), .pointer (some ⟨bl, 1, none⟩), .pointer (some ⟨bl, 3, none⟩)] 47)).drew = Y2 at *
      clear HE HB0 x0 x1 x2 zx hcx hfx PT hPn KS KC zP
      go_wp2_with fail
      obtain ⟨q0, q1, q2⟩ := HE2.out.t
      have zq := cell_lt q0
      have hU := HNV.out
      have v1 : IntKind.i64.wrap (94694400 + nv) = 94694400 + nv := IntWalk.i64_in _ (by omega)
      have HT1 := Lib.hid (fun X (hX : Below Y2.heap.size Y2 X) => bel_of hX (tables_any b' u' g' 2 2 (some ⟨bl, 0, none⟩) nv 1972 12 31 23 59 60 nv X (HB.out.1.a.mon.below hX) (by decide) (by simp) (.inr ⟨bl, 0, rfl, HE2.out.l.below hX⟩)))
      have HT2 := Lib.hid (fun X (hX : Below Y2.heap.size Y2 X) => bel_of hX (codes_any b' u' g' 2 2 (some ⟨bl, 0, none⟩) nv (94694400 + nv) nv 0 0 0 (by omega) X (HB.out.1.a.mon.below hX) (by decide) (by simp) (.inr ⟨bl, 0, rfl, HE2.out.l.below hX⟩)))
      have HXa := Lib.hid (fun X (hX : Below Y2.heap.size Y2 X) => example_bel hX)
      have HXb := Lib.hid (fun X (hX : Below Y2.heap.size Y2 X) => example_bel hX)
      have HT3 := Lib.hid (fun X (hX : Below Y2.heap.size Y2 X) (bl2 : Nat) (h2 : LpAt X exF 2 bl2 0) => bel_of hX (texts_any 10 42000 2 2 (some ⟨bl2, 0, none⟩) exF b' u' 2 2 (some ⟨bl, 0, none⟩) g' 0 0 0 0 0 0 (by decide) (by decide) (by decide) (by decide) (by decide) (by decide) ⟨#[]⟩ X (HB.out.1.a.mon.below hX) (HB.out.1.a.pow.below hX) (by decide) (by decide) (by simp) (by simp) (.inr ⟨bl2, 0, rfl, h2⟩) (.inr ⟨bl, 0, rfl, HE2.out.l.below hX⟩)))
      have HT4 := Lib.hid (fun X (hX : Below Y2.heap.size Y2 X) (bl2 : Nat) (h2 : LpAt X exF 2 bl2 0) => bel_of hX (texts_any b' u' 2 2 (some ⟨bl, 0, none⟩) g' 10 42000 2 2 (some ⟨bl2, 0, none⟩) exF 0 0 0 0 0 0 (by decide) (by decide) (by decide) (by decide) (by decide) (by decide) ⟨#[]⟩ X (HB.out.1.a.mon.below hX) (HB.out.1.a.pow.below hX) (by decide) (by decide) (by simp) (by simp) (.inr ⟨bl, 0, rfl, HE2.out.l.below hX⟩) (.inr ⟨bl2, 0, rfl, h2⟩)))
      clear hU
      go_region_held3 (fun w' => Below Y2.heap.size Y2 w' ∧ w'.cell? ⟨at', 0, none⟩ = some (.int .i64 b') ∧ w'.cell? ⟨at', 1, none⟩ = some (.slice (some ⟨bl, 0, none⟩) 2 2) ∧ w'.cell? ⟨at', 2, none⟩ = some (.int .i64 u'))
        (first | exact ⟨Below.drew (Below.refl _ _), q0, q1, q2⟩ | exact ⟨(by assumption), cell_below (by assumption) q0, cell_below (by assumption) q1, cell_below (by assumption) q2⟩)
        (first | (go_at_call 9; refine (HT1.out _ (by first | assumption | exact Below.drew (Below.refl _ _))).mono ?_; rintro e yc1 ⟨rfl, hc1⟩; clear HT1) | (go_at_call 10; refine (HT2.out _ (by first | assumption | exact Below.drew (Below.refl _ _))).mono ?_; rintro e yc2 ⟨rfl, hc2⟩; clear HT2) | (go_at_call 12; refine (HXa.out _ (by first | assumption | exact Below.drew (Below.refl _ _))).mono ?_; rintro e yea ⟨bla, rfl, hla, hsa, hba⟩; clear HXa) | (go_at_call 5; refine (HT3.out _ (by first | assumption | exact Below.drew (Below.refl _ _)) bla hla).mono ?_; rintro e yc3 ⟨rfl, hc3⟩; clear HT3) | (go_at_call 12; refine (HXb.out _ (by first | assumption | exact Below.drew (Below.refl _ _))).mono ?_; rintro e yeb ⟨blb, rfl, hlb, hsb, hbb⟩; clear HXb) | (go_at_call 5; refine (HT4.out _ (by first | assumption | exact Below.drew (Below.refl _ _)) blb hlb).mono ?_; rintro e yc4 ⟨rfl, hc4⟩; clear HT4))
      all_goals (try go_wp2_with fail)
      all_goals exact ⟨⟨i + 1, _, HI.out, rfl, by simp, Lib.hid ⟨HB.out.1.below hc4, HB.out.2.below hc4⟩⟩, by have := HI.out; simp [intOf]; omega⟩
    obtain rfl : i = 6 := by omega
    have hii : ¬ ((6 : Int) < 6) := by omega
    clear hil hi
    go_wp2_with fail
    go_loopw [27, 256] (fun s27 s256 wr => ∃ (i : Nat) (v : Value), i ≤ 6 ∧ s27 = v ∧ s256 = .int .i64 (i : Int) ∧ Hid (SmZ w wr a7 bz gz ∧ IntsAt wr blk10 23)) (fun _ s _ => 6 - (intOf s).toNat)
    case atStart => exact ⟨0, _, Nat.zero_le _, rfl, rfl, HB⟩
    clear HB
    obtain ⟨i, v27, hi, rfl, rfl, HB⟩ := hrel
    by_cases hil : i < 6
    · have hii : (i : Int) < 6 := by omega
      have vi : IntKind.i64.wrap ((i : Int) + 1) = (i : Int) + 1 := IntWalk.i64_in _ (by omega)
      have HI := Lib.hid hil
      clear hil hi
      have hiN := HI.out
      go_upto_region 64 with fail
      have HD := Lib.hid (DtB.new wr)
      have HB0 := Lib.hid HB.out
      clear HB
      generalize wr.alloc (.cells #[.int .i64 1972, .int .i64 6, .int .i64 30, .int .i64 23, .int .i64 59, .int .i64 59] 26) = D0 at *
      generalize wr.heap.size = ad at HD ⊢
      generalize (fun i : Nat => ([1972, 6, 30, 23, 59, 59] : List Int)[i]?.getD 0) = dz at *
      have kQ := below_alloc (Below.refl (D0.setCell ⟨ad, i, none⟩ (.int .i64 nv)).heap.size (D0.setCell ⟨ad, i, none⟩ (.int .i64 nv))) (.cells #[.pointer (some ⟨ad, 0, none⟩), .pointer (some ⟨ad, 1, none⟩), .pointer (some ⟨ad, 2, none⟩), .pointer (some ⟨ad, 3, none⟩), .pointer (some ⟨ad, 4, none⟩), .pointer (some ⟨ad, 5, none⟩)] 47)
      have hD2 := HD.out.put HI.out (v := nv) (by have := HNV.out; omega)
      generalize (fun j => if j = i then nv else dz j) = dd at *
      have HD2 := Lib.hid (hD2.below kQ)
      have hcx := HD.out.c i HI.out
      have hfx := HD.out.fa i
      have zP := cell_lt hcx
      generalize dz i = dzi at *
      have PT : (D0.alloc (.cells #[.pointer (some ⟨ad, 0, none⟩), .pointer (some ⟨ad, 1, none⟩), .pointer (some ⟨ad, 2, none⟩), .pointer (some ⟨ad, 3, none⟩), .pointer (some ⟨ad, 4, none⟩), .pointer (some ⟨ad, 5, none⟩)] 47)).cell? ⟨D0.heap.size, i, none⟩ = some (.pointer (some ⟨ad, i, none⟩)) := by
        rcases (by omega : i = 0 ∨ i = 1 ∨ i = 2 ∨ i = 3 ∨ i = 4 ∨ i = 5) with rfl | rfl | rfl | rfl | rfl | rfl <;> simp
      have hPn : ¬ ad = D0.heap.size := by omega
      clear kQ hD2
      go_upto_region 65 with fail
      have HB := Lib.hid (And.intro (HB0.out.1.below HD2.out.bel) (HB0.out.2.below HD2.out.bel))
      generalize ((D0.setCell ⟨ad, i, none⟩ (.int .i64 nv)).alloc (.cells #[.pointer (some ⟨ad, 0, none⟩), .pointer (some ⟨ad, 1, none⟩), .pointer (some ⟨ad, 2, none⟩), .pointer (some ⟨ad, 3, none⟩), .pointer (some ⟨ad, 4, none⟩), .pointer (some ⟨ad, 5, none⟩)] 47)) = Y2 at *
      clear hcx hfx zP PT hPn HB0 HD
      have q0 := HD2.out.c 0 (by decide)
      have q1 := HD2.out.c 1 (by decide)
      have q2 := HD2.out.c 2 (by decide)
      have q3 := HD2.out.c 3 (by decide)
      have q4 := HD2.out.c 4 (by decide)
      have q5 := HD2.out.c 5 (by decide)
      obtain ⟨q6, q7⟩ := HB.out.1.z
      have zq := cell_lt q0
      have zr := cell_lt q6
      have v1 : IntKind.i64.wrap (15724799 + (i : Int)) = 15724799 + (i : Int) := IntWalk.i64_in _ (by omega)
      have HT1 := Lib.hid (fun X (hX : Below Y2.heap.size Y2 X) (bl2 : Nat) (h2 : LpAt X exF 2 bl2 0) => bel_of hX (tables_any 10 42000 exF 2 2 (some ⟨bl2, 0, none⟩) 41498 (dd 0) (dd 1) (dd 2) (dd 3) (dd 4) (dd 5) (15724799 + (i : Int)) X (HB.out.1.a.mon.below hX) (by decide) (by simp) (.inr ⟨bl2, 0, rfl, h2⟩)))
      have HT2 := Lib.hid (fun X (hX : Below Y2.heap.size Y2 X) (bl2 : Nat) (h2 : LpAt X exF 2 bl2 0) => bel_of hX (zones_any 10 42000 2 2 (some ⟨bl2, 0, none⟩) exF 60 3 3 (some ⟨bz, 0, none⟩) gz (15724799 + (i : Int)) (dd 0) (dd 1) (dd 2) (dd 3) (dd 4) (dd 5) X (HB.out.1.a.mon.below hX) (.inr ⟨bl2, 0, rfl, h2⟩) (.inr ⟨bz, 0, rfl, HB.out.1.lz.below hX⟩) (by decide) (by decide) (by simp) (by simp) HB.out.1.gb))
      have HT3 := Lib.hid (fun X (hX : Below Y2.heap.size Y2 X) (bl2 bl3 : Nat) (h2 : LpAt X exF 2 bl2 0) (h3 : LpAt X exF 2 bl3 0) => bel_of hX (texts_any 10 42000 2 2 (some ⟨bl2, 0, none⟩) exF 10 42000 2 2 (some ⟨bl3, 0, none⟩) exF (dd 0) (dd 1) (dd 2) (dd 3) (dd 4) (dd 5) (HD2.out.bd 0 (by decide)) (HD2.out.bd 1 (by decide)) (HD2.out.bd 2 (by decide)) (HD2.out.bd 3 (by decide)) (HD2.out.bd 4 (by decide)) (HD2.out.bd 5 (by decide)) ⟨#[]⟩ X (HB.out.1.a.mon.below hX) (HB.out.1.a.pow.below hX) (by decide) (by decide) (by simp) (by simp) (.inr ⟨bl2, 0, rfl, h2⟩) (.inr ⟨bl3, 0, rfl, h3⟩)))
      have HXa := Lib.hid (fun X (hX : Below Y2.heap.size Y2 X) => example_bel hX)
      have HXb := Lib.hid (fun X (hX : Below Y2.heap.size Y2 X) => example_bel hX)
      have HXc := Lib.hid (fun X (hX : Below Y2.heap.size Y2 X) => example_bel hX)
      have HXd := Lib.hid (fun X (hX : Below Y2.heap.size Y2 X) => example_bel hX)
      go_region_held3 (fun w' => Below Y2.heap.size Y2 w' ∧ w'.cell? ⟨ad, 0, none⟩ = some (.int .i64 (dd 0)) ∧ w'.cell? ⟨ad, 1, none⟩ = some (.int .i64 (dd 1)) ∧ w'.cell? ⟨ad, 2, none⟩ = some (.int .i64 (dd 2)) ∧ w'.cell? ⟨ad, 3, none⟩ = some (.int .i64 (dd 3)) ∧ w'.cell? ⟨ad, 4, none⟩ = some (.int .i64 (dd 4)) ∧ w'.cell? ⟨ad, 5, none⟩ = some (.int .i64 (dd 5)) ∧ w'.cell? ⟨a7, 0, none⟩ = some (.int .i64 60) ∧ w'.cell? ⟨a7, 1, none⟩ = some (.slice (some ⟨bz, 0, none⟩) 3 3))
        (first | exact ⟨Below.drew (Below.refl _ _), q0, q1, q2, q3, q4, q5, q6, q7⟩ | exact ⟨(by assumption), cell_below (by assumption) q0, cell_below (by assumption) q1, cell_below (by assumption) q2, cell_below (by assumption) q3, cell_below (by assumption) q4, cell_below (by assumption) q5, cell_below (by assumption) q6, cell_below (by assumption) q7⟩)
        (first | (go_at_call 12; refine (HXa.out _ (by first | assumption | exact Below.drew (Below.refl _ _))).mono ?_; rintro e yea ⟨bla, rfl, hla, hsa, hba⟩; clear HXa) | (go_at_call 9; refine (HT1.out _ (by first | assumption | exact Below.drew (Below.refl _ _)) bla hla).mono ?_; rintro e yc1 ⟨rfl, hc1⟩; clear HT1) | (go_at_call 12; refine (HXb.out _ (by first | assumption | exact Below.drew (Below.refl _ _))).mono ?_; rintro e yeb ⟨blb, rfl, hlb, hsb, hbb⟩; clear HXb) | (go_at_call 11; refine (HT2.out _ (by first | assumption | exact Below.drew (Below.refl _ _)) blb hlb).mono ?_; rintro e yc2 ⟨rfl, hc2⟩; clear HT2) | (go_at_call 12; refine (HXc.out _ (by first | assumption | exact Below.drew (Below.refl _ _))).mono ?_; rintro e yec ⟨blc, rfl, hlc, hsc, hbc⟩; clear HXc) | (go_at_call 12; refine (HXd.out _ (by first | assumption | exact Below.drew (Below.refl _ _))).mono ?_; rintro e yed ⟨bld, rfl, hld, hsd, hbd⟩; clear HXd) | (go_at_call 5; refine (HT3.out _ (by first | assumption | exact Below.drew (Below.refl _ _)) blc bld (hlc.below hsd) hld).mono ?_; rintro e yc3 ⟨rfl, hc3⟩; clear HT3))
      all_goals (try go_wp2_with fail)
      all_goals exact ⟨⟨i + 1, _, HI.out, rfl, by simp, Lib.hid ⟨HB.out.1.below hc3, HB.out.2.below hc3⟩⟩, by have := HI.out; simp [intOf]; omega⟩
    obtain rfl : i = 6 := by omega
    have hii : ¬ ((6 : Int) < 6) := by omega
    clear hil hi
    go_wp2_with fail
    go_loopw [29, 295] (fun s29 s295 wr => ∃ (i : Nat) (v : Value), i ≤ 3 ∧ s29 = v ∧ s295 = .int .i64 (i : Int) ∧ Hid (SmZ w wr a7 bz gz ∧ IntsAt wr blk10 23)) (fun _ s _ => 3 - (intOf s).toNat)
    case atStart => exact ⟨0, _, Nat.zero_le _, rfl, rfl, HB⟩
    clear HB
    obtain ⟨i, v29, hi, rfl, rfl, HB⟩ := hrel
    by_cases hil : i < 3
    · have hii : (i : Int) < 3 := by omega
      have vi : IntKind.i64.wrap ((i : Int) + 1) = (i : Int) + 1 := IntWalk.i64_in _ (by omega)
      have HI := Lib.hid hil
      clear hil hi
      have hiN := HI.out
      go_upto_region 72 with fail
      have HN := Lib.hid (ZnB.new wr)
      have HB0 := Lib.hid HB.out
      clear HB
      generalize (wr.alloc (.cells #[.int .i64 100, .int .i64 60, .int .i64 41499, .int .i64 (-60)] 35)).alloc (.cells #[.int .i64 30, .slice (some ⟨wr.heap.size, 0, none⟩) 2 2] 38) = Y at *
      obtain ⟨az, haz⟩ : ∃ a, wr.heap.size + 1 = a := ⟨_, rfl⟩
      rw [haz] at HN ⊢
      obtain ⟨bzz, hbzz⟩ : ∃ a, wr.heap.size = a := ⟨_, rfl⟩
      have HN : Hid (ZnB wr Y az bzz 30 (fun i : Nat => ([(100, 60), (41499, -60)] : List (Int × Int))[i]?.getD (0, 0))) := by rw [← hbzz]; exact HN
      generalize (fun i : Nat => ([(100, 60), (41499, -60)] : List (Int × Int))[i]?.getD (0, 0)) = gn at *
      have GOALREW := hbzz
      rw [hbzz]
      have kP := below_alloc (Below.refl Y.heap.size Y) (.cells #[.pointer (some ⟨az, 0, none⟩), .pointer (some ⟨bzz, 1, none⟩), .pointer (some ⟨bzz, 2, none⟩)] 47)
      obtain ⟨⟨vx, hcx⟩, hfx, hput⟩ := HN.out.put HI.out
      obtain ⟨o', g', hN2⟩ := hput nv (by have := HNV.out; omega)
      clear hput
      have zP := cell_lt hcx
      obtain ⟨x0, x1⟩ := HN.out.t
      have zx := cell_lt x0
      have hne := HN.out.ne
      have hge : wr.heap.size ≤ znBlk az bzz i := by
        have := HN.out.ga
        have := HN.out.gb
        unfold znBlk
        split <;> omega
      have hfar : az ≠ znBlk az bzz i ∨ i ≠ 1 := by
        rcases (by omega : i = 0 ∨ i = 1 ∨ i = 2) with rfl | rfl | rfl <;> simp [znBlk, hne]
      have PT : (Y.alloc (.cells #[.pointer (some ⟨az, 0, none⟩), .pointer (some ⟨bzz, 1, none⟩), .pointer (some ⟨bzz, 2, none⟩)] 47)).cell? ⟨Y.heap.size, i, none⟩ = some (.pointer (some ⟨znBlk az bzz i, i, none⟩)) := by
        rcases (by omega : i = 0 ∨ i = 1 ∨ i = 2) with rfl | rfl | rfl <;> simp [znBlk]
      have hPn : ¬ znBlk az bzz i = Y.heap.size := by omega
      clear hne haz hbzz GOALREW
      generalize znBlk az bzz i = pb at *
      have kQ := below_alloc (Below.refl (Y.setCell ⟨pb, i, none⟩ (.int .i64 nv)).heap.size (Y.setCell ⟨pb, i, none⟩ (.int .i64 nv))) (.cells #[.pointer (some ⟨az, 0, none⟩), .pointer (some ⟨bzz, 1, none⟩), .pointer (some ⟨bzz, 2, none⟩)] 47)
      have KS := Lib.hid (show Below wr.heap.size wr Y.drew ∧ Below wr.heap.size wr (Y.alloc (.cells #[.pointer (some ⟨az, 0, none⟩), .pointer (some ⟨bzz, 1, none⟩), .pointer (some ⟨bzz, 2, none⟩)] 47)).drew ∧ Below wr.heap.size wr ((Y.setCell ⟨pb, i, none⟩ (.int .i64 nv)).alloc (.cells #[.pointer (some ⟨az, 0, none⟩), .pointer (some ⟨bzz, 1, none⟩), .pointer (some ⟨bzz, 2, none⟩)] 47)).drew from
        ⟨Below.drew HN.out.bel, Below.drew (bt HN.out.bel kP), Below.drew (bt (HN.out.bel.setCell (p := ⟨pb, i, none⟩) hge _) kQ)⟩)
      have KC := Lib.hid (show (Y.alloc (.cells #[.pointer (some ⟨az, 0, none⟩), .pointer (some ⟨bzz, 1, none⟩), .pointer (some ⟨bzz, 2, none⟩)] 47)).cell? ⟨az, 1, none⟩ = some (.slice (some ⟨bzz, 0, none⟩) 2 2) ∧ ((Y.setCell ⟨pb, i, none⟩ (.int .i64 nv)).alloc (.cells #[.pointer (some ⟨az, 0, none⟩), .pointer (some ⟨bzz, 1, none⟩), .pointer (some ⟨bzz, 2, none⟩)] 47)).cell? ⟨az, 1, none⟩ = some (.slice (some ⟨bzz, 0, none⟩) 2 2) from
        ⟨cell_below kP x1, cell_below kQ (set_far (hfar.imp (fun h e => h e.symm) (fun h e => h e)) x1)⟩)
      have HN2 := Lib.hid (hN2.below (Below.drew kQ))
      clear hfar hge kP kQ hN2
      refine wp_region_held_drew (S := (fun w' => Below wr.heap.size wr w' ∧ w'.cell? ⟨az, 1, none⟩ = some (.slice (some ⟨bzz, 0, none⟩) 2 2))) (by kernel_rfl) ⟨KS.out.1, x1⟩ (fun hHeld => ?_)
      refine wpAnyH_take (i := 0) (v := ?_) rfl (by kernel_rfl) (by kernel_rfl) (by kernel_rfl) (fun _ _ _ h => h) (Or.inl ⟨by rfl, ?_⟩) (by assumption) ?_
      rotate_left
      · intro w hSw; (try dsimp only at hSw); go_simp; try with_reducible rfl
      simp only [Act.put, List.getElem_toArray, List.getElem_cons_zero, List.setIfInBounds_toArray, List.set_cons_zero, List.set_cons_succ]
      refine wpAnyH_take (i := 1) (v := ?_) rfl (by kernel_rfl) (by kernel_rfl) (by kernel_rfl) (fun _ _ _ h => h) (Or.inl ⟨by rfl, ?_⟩) (by assumption) ?_
      rotate_left
      · intro w hSw; (try dsimp only at hSw); go_simp; try with_reducible rfl
      simp only [Act.put, List.getElem_toArray, List.getElem_cons_succ, List.getElem_cons_zero, List.setIfInBounds_toArray, List.set_cons_zero, List.set_cons_succ]
      refine wpAnyH_take (i := 2) (v := ?_) rfl (by kernel_rfl) (by kernel_rfl) (by kernel_rfl) (fun _ _ _ h => h) (Or.inl ⟨by rfl, ?_⟩) (by assumption) ?_
      rotate_left
      · intro w hSw; (try dsimp only at hSw); go_simp; try with_reducible rfl
      simp only [Act.put, List.getElem_toArray, List.getElem_cons_succ, List.getElem_cons_zero, List.setIfInBounds_toArray, List.set_cons_zero, List.set_cons_succ]
      refine wpAnyH_take (i := 3) (v := ?_) rfl (by kernel_rfl) (by kernel_rfl) (by kernel_rfl) (fun _ _ _ h => h) (Or.inl ⟨by rfl, ?_⟩) (by assumption) ?_
      rotate_left
      · intro w hSw; (try dsimp only at hSw); go_simp; try with_reducible rfl
      simp only [Act.put, List.getElem_toArray, List.getElem_cons_succ, List.getElem_cons_zero, List.setIfInBounds_toArray, List.set_cons_zero, List.set_cons_succ]
      refine wpAnyH_take (i := 4) (v := ?_) rfl (by kernel_rfl) (by kernel_rfl) (by kernel_rfl) (fun _ _ _ h => h) (Or.inl ⟨by rfl, ?_⟩) (by assumption) ?_
      rotate_left
      · intro w hSw; (try dsimp only at hSw); go_simp; try with_reducible rfl
      simp only [Act.put, List.getElem_toArray, List.getElem_cons_succ, List.getElem_cons_zero, List.setIfInBounds_toArray, List.set_cons_zero, List.set_cons_succ]
      refine wpAnyH_take (i := 5) (v := ?_) rfl (by kernel_rfl) (by kernel_rfl) (by kernel_rfl) (fun _ _ _ h => h) (Or.inl ⟨by rfl, ?_⟩) (by assumption) ?_
      rotate_left
      · intro w hSw; (try dsimp only at hSw); go_simp; try with_reducible rfl
      simp only [Act.put, List.getElem_toArray, List.getElem_cons_succ, List.getElem_cons_zero, List.setIfInBounds_toArray, List.set_cons_zero, List.set_cons_succ]
      refine wpAnyH_take (i := 6) (v := ?_) rfl (by kernel_rfl) (by kernel_rfl) (by kernel_rfl) (fun _ _ _ h => h) (Or.inl ⟨by rfl, ?_⟩) (by assumption) ?_
      rotate_left
      · intro w hSw; (try dsimp only at hSw); go_simp; try with_reducible rfl
      simp only [Act.put, List.getElem_toArray, List.getElem_cons_succ, List.getElem_cons_zero, List.setIfInBounds_toArray, List.set_cons_zero, List.set_cons_succ]
      refine wpAnyH_take (i := 7) (v := ?_) rfl (by kernel_rfl) (by kernel_rfl) (by kernel_rfl) (fun _ _ _ h => h) (Or.inl ⟨by rfl, ?_⟩) (by assumption) ?_
      rotate_left
      · intro w hSw; (try dsimp only at hSw); go_simp; try with_reducible rfl
      simp only [Act.put, List.getElem_toArray, List.getElem_cons_succ, List.getElem_cons_zero, List.setIfInBounds_toArray, List.set_cons_zero, List.set_cons_succ]
      refine wpAnyH_take (i := 8) (v := ?_) rfl (by kernel_rfl) (by kernel_rfl) (by kernel_rfl) (fun _ _ _ h => h) (Or.inl ⟨by rfl, ?_⟩) (by assumption) ?_
      rotate_left
      · intro w hSw; (try dsimp only at hSw); go_simp; try with_reducible rfl
      simp only [Act.put, List.getElem_toArray, List.getElem_cons_succ, List.getElem_cons_zero, List.setIfInBounds_toArray, List.set_cons_zero, List.set_cons_succ]
      refine wpAnyH_take (i := 10) (v := ?_) rfl (by kernel_rfl) (by kernel_rfl) (by kernel_rfl) (fun _ _ _ h => h) (Or.inl ⟨by rfl, ?_⟩) (by assumption) ?_
      rotate_left
      · intro w hSw; (try dsimp only at hSw); go_simp; try with_reducible rfl
      simp only [Act.put, List.getElem_toArray, List.getElem_cons_succ, List.getElem_cons_zero, List.setIfInBounds_toArray, List.set_cons_zero, List.set_cons_succ]
      refine wpAnyH_take (i := 13) (v := ?_) rfl (by kernel_rfl) (by kernel_rfl) (by kernel_rfl) (fun _ _ _ h => h) (Or.inl ⟨by rfl, ?_⟩) (by assumption) ?_
      rotate_left
      · intro w hSw; (try dsimp only at hSw); go_simp; try with_reducible rfl
      simp only [Act.put, List.getElem_toArray, List.getElem_cons_succ, List.getElem_cons_zero, List.setIfInBounds_toArray, List.set_cons_zero, List.set_cons_succ]
      refine wpAnyH_ready (rs := [9]) (by kernel_rfl) (by simp) ?_
      refine AllReadyH.cons rfl (fun K hK => ?_) AllReadyH.nil
      go_simp
      refine hK.out _ _ ⟨KS.out.2.1, KC.out.1⟩ (fun hHelda => ?_)
      clear hK K
      refine wpAnyH_take (i := 11) (v := ?_) rfl (by kernel_rfl) (by kernel_rfl) (by kernel_rfl) (fun _ _ _ h => h) (Or.inl ⟨by rfl, ?_⟩) (by assumption) ?_
      rotate_left
      · intro w hSw; (try dsimp only at hSw); go_simp; try with_reducible rfl
      simp only [Act.put, List.getElem_toArray, List.getElem_cons_succ, List.getElem_cons_zero, List.setIfInBounds_toArray, List.set_cons_zero, List.set_cons_succ]
      refine wpAnyH_ready (rs := [12]) (by kernel_rfl) (by simp) ?_
      refine AllReadyH.cons rfl (fun K hK => ?_) AllReadyH.nil
      go_simp
      refine hK.out _ _ ⟨KS.out.2.1, KC.out.1⟩ (fun hHeldb => ?_)
      clear hK K
      refine wpAnyH_take (i := 14) (v := ?_) rfl (by kernel_rfl) (by kernel_rfl) (by kernel_rfl) (fun _ _ _ h => h) (Or.inl ⟨by rfl, ?_⟩) (by assumption) ?_
      rotate_left
      · intro w hSw; (try dsimp only at hSw); go_simp; try with_reducible rfl
      simp only [Act.put, List.getElem_toArray, List.getElem_cons_succ, List.getElem_cons_zero, List.setIfInBounds_toArray, List.set_cons_zero, List.set_cons_succ]
      refine wpAnyH_ready (rs := [15]) (by kernel_rfl) (by simp) ?_
      refine AllReadyH.cons rfl (fun K hK => ?_) AllReadyH.nil
      go_simp
      refine hK.out _ _ ⟨KS.out.2.2, KC.out.2⟩ (fun hHeldc => ?_)
      clear hK K
      refine wpAnyH_done (by kernel_rfl) ?_ _
      clear hHeld hHelda hHeldb hHeldc
      have HB := Lib.hid (And.intro (HB0.out.1.below HN2.out.bel) (HB0.out.2.below HN2.out.bel))
      generalize ((Y.setCell ⟨pb, i, none⟩ (.int .i64 nv)).alloc (.cells #[.pointer (some ⟨az, 0, none⟩), .pointer (some ⟨bzz, 1, none⟩), .pointer (some ⟨bzz, 2, none⟩)] 47)).drew = Y2 at *
      clear HN HB0 x0 x1 zx hcx hfx PT hPn KS KC zP
      go_wp2_with fail
      obtain ⟨q0, q1⟩ := HN2.out.t
      have zq := cell_lt q0
      have hU := HNV.out
      have v1 : IntKind.i64.wrap (86400 + nv) = 86400 + nv := IntWalk.i64_in _ (by omega)
      clear hU
      have HT1 := Lib.hid (fun X (hX : Below Y2.heap.size Y2 X) (bl2 : Nat) (h2 : LpAt X exF 2 bl2 0) => bel_of hX (zones_any 10 42000 2 2 (some ⟨bl2, 0, none⟩) exF o' 2 2 (some ⟨bzz, 0, none⟩) g' nv 1972 1 1 0 31 0 X (HB.out.1.a.mon.below hX) (.inr ⟨bl2, 0, rfl, h2⟩) (.inr ⟨bzz, 0, rfl, HN2.out.l.below hX⟩) (by decide) (by decide) (by simp) (by simp) HN2.out.gb9))
      have HT2 := Lib.hid (fun X (hX : Below Y2.heap.size Y2 X) (bl2 : Nat) (h2 : LpAt X exF 2 bl2 0) => bel_of hX (zones_any 10 42000 2 2 (some ⟨bl2, 0, none⟩) exF o' 2 2 (some ⟨bzz, 0, none⟩) g' (86400 + nv) 1972 1 1 11 30 39 X (HB.out.1.a.mon.below hX) (.inr ⟨bl2, 0, rfl, h2⟩) (.inr ⟨bzz, 0, rfl, HN2.out.l.below hX⟩) (by decide) (by decide) (by simp) (by simp) HN2.out.gb9))
      have HXa := Lib.hid (fun X (hX : Below Y2.heap.size Y2 X) => example_bel hX)
      have HXb := Lib.hid (fun X (hX : Below Y2.heap.size Y2 X) => example_bel hX)
      go_region_held3 (fun w' => Below Y2.heap.size Y2 w' ∧ w'.cell? ⟨az, 0, none⟩ = some (.int .i64 o') ∧ w'.cell? ⟨az, 1, none⟩ = some (.slice (some ⟨bzz, 0, none⟩) 2 2))
        (first | exact ⟨Below.drew (Below.refl _ _), q0, q1⟩ | exact ⟨(by assumption), cell_below (by assumption) q0, cell_below (by assumption) q1⟩)
        (first | (go_at_call 12; refine (HXa.out _ (by first | assumption | exact Below.drew (Below.refl _ _))).mono ?_; rintro e yea ⟨bla, rfl, hla, hsa, hba⟩; clear HXa) | (go_at_call 11; refine (HT1.out _ (by first | assumption | exact Below.drew (Below.refl _ _)) bla hla).mono ?_; rintro e yc1 ⟨rfl, hc1⟩; clear HT1) | (go_at_call 12; refine (HXb.out _ (by first | assumption | exact Below.drew (Below.refl _ _))).mono ?_; rintro e yeb ⟨blb, rfl, hlb, hsb, hbb⟩; clear HXb) | (go_at_call 11; refine (HT2.out _ (by first | assumption | exact Below.drew (Below.refl _ _)) blb hlb).mono ?_; rintro e yc2 ⟨rfl, hc2⟩; clear HT2))
      all_goals (try go_wp2_with fail)
      all_goals exact ⟨⟨i + 1, _, HI.out, rfl, by simp, Lib.hid ⟨HB.out.1.below hc2, HB.out.2.below hc2⟩⟩, by have := HI.out; simp [intOf]; omega⟩
    obtain rfl : i = 3 := by omega
    have hii : ¬ ((3 : Int) < 3) := by omega
    clear hil hi
    go_wp2_with fail
    exact ⟨⟨j + 1, _, HK.out, rfl, by simp, HB⟩, by have := HK.out; simp [intOf]; omega⟩
  obtain rfl : j = 23 := by omega
  have hki : ¬ ((23 : Int) < 23) := by omega
  clear hlt hj
  have HA := Lib.hid HB.out.1.a
  clear HB
  go_upto_region 77 with fail
  exact small_tail (by assumption) HA
end Go.Proofs.YtgnfaemnehmgcaaGreatDoor.Cal
