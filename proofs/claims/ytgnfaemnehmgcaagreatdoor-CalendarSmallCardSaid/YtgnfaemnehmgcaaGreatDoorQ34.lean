/-  -/
import Derived.Test.YtgnfaemnehmgcaaGreatDoorQ33
import Derived.Deep.CutRange
namespace Go.Proofs.YtgnfaemnehmgcaaGreatDoor.Cal
open Go Go.RowKit
attribute [local go_sem] Oper.semAt_some
set_option maxRecDepth 100000 in
set_option maxHeartbeats 40000000 in
theorem rParse_part (S : ByteArray) (hz : S.size = 19) (h4 : bOf S 4 = 45) (h7 : bOf S 7 = 45) (h10 : bOf S 10 = 32) (h13 : bOf S 13 = 58) (h16 : bOf S 16 = 58) {x0 x1 x2 x3 x4 x5 : Int} (k0 : ∀ w, Calls Tryz.prog 78 #[.string (S.extract 0 4)] w fun e w' => e = .returned (.int .i64 x0) ∧ w' = w) (k1 : ∀ w, Calls Tryz.prog 78 #[.string (S.extract 5 7)] w fun e w' => e = .returned (.int .i64 x1) ∧ w' = w) (k2 : ∀ w, Calls Tryz.prog 78 #[.string (S.extract 8 10)] w fun e w' => e = .returned (.int .i64 x2) ∧ w' = w) (k3 : ∀ w, Calls Tryz.prog 78 #[.string (S.extract 11 13)] w fun e w' => e = .returned (.int .i64 x3) ∧ w' = w) (k4 : ∀ w, Calls Tryz.prog 78 #[.string (S.extract 14 16)] w fun e w' => e = .returned (.int .i64 x4) ∧ w' = w) (k5 : ∀ w, Calls Tryz.prog 78 #[.string (S.extract 17 19)] w fun e w' => e = .returned (.int .i64 x5) ∧ w' = w) (hy : x0 < 0 ∨ x1 < 0 ∨ x2 < 0 ∨ x3 < 0 ∨ x4 < 0 ∨ x5 < 0) (w : World) :
    Calls Tryz.prog 22 #[.string S] w fun e w' => e = .returned (.tuple #[.agg #[.int .i64 0, .int .i64 0, .int .i64 0, .int .i64 0, .int .i64 0, .int .i64 0], .int .i64 3]) ∧ Below w.heap.size w w' := by
  have A0 := below_alloc (Below.refl w.heap.size w) (.cells #[.int .i64 0, .int .i64 0, .int .i64 0, .int .i64 0, .int .i64 0, .int .i64 0] 67)
  have HR := Lib.hid (Res6.new w (.int .i64 0) (.int .i64 0) (.int .i64 0) (.int .i64 0) (.int .i64 0) (.int .i64 0) 67)
  have A0 := Lib.hid A0
  have hzi : (S.size : Int) = 19 := by omega
  have g4 : 4 < S.size := by omega
  have hc4 : (S[4]'g4).toNat = 45 := by rw [bOf_at]; exact h4
  have g7 : 7 < S.size := by omega
  have hc7 : (S[7]'g7).toNat = 45 := by rw [bOf_at]; exact h7
  have g10 : 10 < S.size := by omega
  have hc10 : (S[10]'g10).toNat = 32 := by rw [bOf_at]; exact h10
  have g13 : 13 < S.size := by omega
  have hc13 : (S[13]'g13).toNat = 58 := by rw [bOf_at]; exact h13
  have g16 : 16 < S.size := by omega
  have hc16 : (S[16]'g16).toNat = 58 := by rw [bOf_at]; exact h16
  obtain ⟨T0, hT0⟩ : ∃ T, S.extract 0 4 = T := ⟨_, rfl⟩
  rw [hT0] at k0
  have K0 := Lib.hid k0
  obtain ⟨T1, hT1⟩ : ∃ T, S.extract 5 7 = T := ⟨_, rfl⟩
  rw [hT1] at k1
  have K1 := Lib.hid k1
  obtain ⟨T2, hT2⟩ : ∃ T, S.extract 8 10 = T := ⟨_, rfl⟩
  rw [hT2] at k2
  have K2 := Lib.hid k2
  obtain ⟨T3, hT3⟩ : ∃ T, S.extract 11 13 = T := ⟨_, rfl⟩
  rw [hT3] at k3
  have K3 := Lib.hid k3
  obtain ⟨T4, hT4⟩ : ∃ T, S.extract 14 16 = T := ⟨_, rfl⟩
  rw [hT4] at k4
  have K4 := Lib.hid k4
  obtain ⟨T5, hT5⟩ : ∃ T, S.extract 17 19 = T := ⟨_, rfl⟩
  rw [hT5] at k5
  have K5 := Lib.hid k5
  have HY := Lib.hid hy
  clear hy h4 h7 h10 h13 h16 k0 k1 k2 k3 k4 k5
  go_enter Tryz.func22, Tryz.ntmps22
  go_upto_region 1 with fail
  generalize w.alloc (.cells #[.int .i64 0, .int .i64 0, .int .i64 0, .int .i64 0, .int .i64 0, .int .i64 0] 67) = W1 at *
  go_upto_region 3 with fail
  go_cut [4] from 34 to 52 (fun s4 wx => s4 = .pointer (some ⟨W1.heap.size, 0, none⟩) ∧ wx = (W1.alloc (.cells #[.int .i64 x0, .int .i64 x1, .int .i64 x2, .int .i64 x3, .int .i64 x4, .int .i64 x5] 67)).drew)
  case first =>
    have HK := Lib.hid (show ∀ X, Below W1.heap.size W1 X → (fun w' => Below W1.heap.size W1 w') X from fun X h => h)
    have HB0 := Lib.hid (show Below W1.heap.size W1 W1.drew from Below.drew (Below.refl _ _))
    refine wp_region_held_drew (S := (fun w' => Below W1.heap.size W1 w')) (by kernel_rfl) (HK.out _ (Below.drew (Below.refl _ _))) (fun hHeld => ?_)
    refine wpAnyH_take (i := 0) (v := ?_) rfl (by kernel_rfl) (by kernel_rfl) (by kernel_rfl) (fun _ _ _ h => h) (Or.inl ⟨by rfl, ?_⟩) (by assumption) ?_
    rotate_left
    · intro w hSw; (try dsimp only at hSw); go_simp; try with_reducible rfl
    simp only [Act.put, List.getElem_toArray, List.getElem_cons_zero, List.setIfInBounds_toArray, List.set_cons_zero, List.set_cons_succ]
    refine wpAnyH_take (i := 1) (v := ?_) rfl (by kernel_rfl) (by kernel_rfl) (by kernel_rfl) (fun _ _ _ h => h) (Or.inl ⟨by rfl, ?_⟩) (by assumption) ?_
    rotate_left
    · intro w hSw; (try dsimp only at hSw); go_simp; try with_reducible rfl
    simp only [Act.put, List.getElem_toArray, List.getElem_cons_succ, List.getElem_cons_zero, List.setIfInBounds_toArray, List.set_cons_zero, List.set_cons_succ]
    refine wpAnyH_take (i := 3) (v := ?_) rfl (by kernel_rfl) (by kernel_rfl) (by kernel_rfl) (fun _ _ _ h => h) (Or.inl ⟨by rfl, ?_⟩) (by assumption) ?_
    rotate_left
    · intro w hSw; (try dsimp only at hSw); go_simp; try with_reducible rfl
    simp only [Act.put, List.getElem_toArray, List.getElem_cons_succ, List.getElem_cons_zero, List.setIfInBounds_toArray, List.set_cons_zero, List.set_cons_succ]
    refine wpAnyH_take (i := 4) (v := ?_) rfl (by kernel_rfl) (by kernel_rfl) (by kernel_rfl) (fun _ _ _ h => h) (Or.inl ⟨by rfl, ?_⟩) (by assumption) ?_
    rotate_left
    · intro w hSw; (try dsimp only at hSw); go_simp; try with_reducible rfl
    simp only [Act.put, List.getElem_toArray, List.getElem_cons_succ, List.getElem_cons_zero, List.setIfInBounds_toArray, List.set_cons_zero, List.set_cons_succ]
    refine wpAnyH_take (i := 6) (v := ?_) rfl (by kernel_rfl) (by kernel_rfl) (by kernel_rfl) (fun _ _ _ h => h) (Or.inl ⟨by rfl, ?_⟩) (by assumption) ?_
    rotate_left
    · intro w hSw; (try dsimp only at hSw); go_simp; try with_reducible rfl
    simp only [Act.put, List.getElem_toArray, List.getElem_cons_succ, List.getElem_cons_zero, List.setIfInBounds_toArray, List.set_cons_zero, List.set_cons_succ]
    refine wpAnyH_take (i := 7) (v := ?_) rfl (by kernel_rfl) (by kernel_rfl) (by kernel_rfl) (fun _ _ _ h => h) (Or.inl ⟨by rfl, ?_⟩) (by assumption) ?_
    rotate_left
    · intro w hSw; (try dsimp only at hSw); go_simp; try with_reducible rfl
    simp only [Act.put, List.getElem_toArray, List.getElem_cons_succ, List.getElem_cons_zero, List.setIfInBounds_toArray, List.set_cons_zero, List.set_cons_succ]
    refine wpAnyH_take (i := 9) (v := ?_) rfl (by kernel_rfl) (by kernel_rfl) (by kernel_rfl) (fun _ _ _ h => h) (Or.inl ⟨by rfl, ?_⟩) (by assumption) ?_
    rotate_left
    · intro w hSw; (try dsimp only at hSw); go_simp; try with_reducible rfl
    simp only [Act.put, List.getElem_toArray, List.getElem_cons_succ, List.getElem_cons_zero, List.setIfInBounds_toArray, List.set_cons_zero, List.set_cons_succ]
    refine wpAnyH_take (i := 10) (v := ?_) rfl (by kernel_rfl) (by kernel_rfl) (by kernel_rfl) (fun _ _ _ h => h) (Or.inl ⟨by rfl, ?_⟩) (by assumption) ?_
    rotate_left
    · intro w hSw; (try dsimp only at hSw); go_simp; try with_reducible rfl
    simp only [Act.put, List.getElem_toArray, List.getElem_cons_succ, List.getElem_cons_zero, List.setIfInBounds_toArray, List.set_cons_zero, List.set_cons_succ]
    refine wpAnyH_take (i := 12) (v := ?_) rfl (by kernel_rfl) (by kernel_rfl) (by kernel_rfl) (fun _ _ _ h => h) (Or.inl ⟨by rfl, ?_⟩) (by assumption) ?_
    rotate_left
    · intro w hSw; (try dsimp only at hSw); go_simp; try with_reducible rfl
    simp only [Act.put, List.getElem_toArray, List.getElem_cons_succ, List.getElem_cons_zero, List.setIfInBounds_toArray, List.set_cons_zero, List.set_cons_succ]
    refine wpAnyH_take (i := 13) (v := ?_) rfl (by kernel_rfl) (by kernel_rfl) (by kernel_rfl) (fun _ _ _ h => h) (Or.inl ⟨by rfl, ?_⟩) (by assumption) ?_
    rotate_left
    · intro w hSw; (try dsimp only at hSw); go_simp; try with_reducible rfl
    simp only [Act.put, List.getElem_toArray, List.getElem_cons_succ, List.getElem_cons_zero, List.setIfInBounds_toArray, List.set_cons_zero, List.set_cons_succ]
    refine wpAnyH_take (i := 15) (v := ?_) rfl (by kernel_rfl) (by kernel_rfl) (by kernel_rfl) (fun _ _ _ h => h) (Or.inl ⟨by rfl, ?_⟩) (by assumption) ?_
    rotate_left
    · intro w hSw; (try dsimp only at hSw); go_simp; try with_reducible rfl
    simp only [Act.put, List.getElem_toArray, List.getElem_cons_succ, List.getElem_cons_zero, List.setIfInBounds_toArray, List.set_cons_zero, List.set_cons_succ]
    refine wpAnyH_take (i := 16) (v := ?_) rfl (by kernel_rfl) (by kernel_rfl) (by kernel_rfl) (fun _ _ _ h => h) (Or.inl ⟨by rfl, ?_⟩) (by assumption) ?_
    rotate_left
    · intro w hSw; (try dsimp only at hSw); go_simp; try with_reducible rfl
    simp only [Act.put, List.getElem_toArray, List.getElem_cons_succ, List.getElem_cons_zero, List.setIfInBounds_toArray, List.set_cons_zero, List.set_cons_succ]
    refine wpAnyH_ready (rs := [2, 19]) (by kernel_rfl) (by simp) ?_
    refine AllReadyH.cons rfl (fun K hK => ?_) (AllReadyH.cons rfl (fun K hK => ?_) AllReadyH.nil)
    · go_simp
      go_at_call 78
      refine (K0.out _).mono ?_
      rintro e w0 ⟨rfl, rfl⟩
      go_wp2_with fail
      refine hK.out _ _ (HK.out _ HB0.out) (fun hHeld0 => ?_)
      clear hK K
      refine wpAnyH_ready (rs := [5, 19]) (by kernel_rfl) (by simp) ?_
      refine AllReadyH.cons rfl (fun K hK => ?_) (AllReadyH.cons rfl (fun K hK => ?_) AllReadyH.nil)
      · go_simp
        go_at_call 78
        refine (K1.out _).mono ?_
        rintro e w1 ⟨rfl, rfl⟩
        go_wp2_with fail
        refine hK.out _ _ (HK.out _ HB0.out) (fun hHeld1 => ?_)
        clear hK K
        refine wpAnyH_ready (rs := [8, 19]) (by kernel_rfl) (by simp) ?_
        refine AllReadyH.cons rfl (fun K hK => ?_) (AllReadyH.cons rfl (fun K hK => ?_) AllReadyH.nil)
        · go_simp
          go_at_call 78
          refine (K2.out _).mono ?_
          rintro e w2 ⟨rfl, rfl⟩
          go_wp2_with fail
          refine hK.out _ _ (HK.out _ HB0.out) (fun hHeld2 => ?_)
          clear hK K
          refine wpAnyH_ready (rs := [11, 19]) (by kernel_rfl) (by simp) ?_
          refine AllReadyH.cons rfl (fun K hK => ?_) (AllReadyH.cons rfl (fun K hK => ?_) AllReadyH.nil)
          · go_simp
            go_at_call 78
            refine (K3.out _).mono ?_
            rintro e w3 ⟨rfl, rfl⟩
            go_wp2_with fail
            refine hK.out _ _ (HK.out _ HB0.out) (fun hHeld3 => ?_)
            clear hK K
            refine wpAnyH_ready (rs := [14, 19]) (by kernel_rfl) (by simp) ?_
            refine AllReadyH.cons rfl (fun K hK => ?_) (AllReadyH.cons rfl (fun K hK => ?_) AllReadyH.nil)
            · go_simp
              go_at_call 78
              refine (K4.out _).mono ?_
              rintro e w4 ⟨rfl, rfl⟩
              go_wp2_with fail
              refine hK.out _ _ (HK.out _ HB0.out) (fun hHeld4 => ?_)
              clear hK K
              refine wpAnyH_ready (rs := [17, 19]) (by kernel_rfl) (by simp) ?_
              refine AllReadyH.cons rfl (fun K hK => ?_) (AllReadyH.cons rfl (fun K hK => ?_) AllReadyH.nil)
              · go_simp
                go_at_call 78
                refine (K5.out _).mono ?_
                rintro e w5 ⟨rfl, rfl⟩
                go_wp2_with fail
                refine hK.out _ _ (HK.out _ HB0.out) (fun hHeld5 => ?_)
                clear hK K
                refine wpAnyH_take (i := 18) (v := ?_) rfl (by kernel_rfl) (by kernel_rfl) (by kernel_rfl) (fun _ _ _ h => h) (Or.inl ⟨by rfl, ?_⟩) (by assumption) ?_
                rotate_left
                · intro w hSw; (try dsimp only at hSw); go_simp; try with_reducible rfl
                simp only [Act.put, List.getElem_toArray, List.getElem_cons_succ, List.getElem_cons_zero, List.setIfInBounds_toArray, List.set_cons_zero, List.set_cons_succ]
                refine wpAnyH_ready (rs := [19]) (by kernel_rfl) (by simp) ?_
                refine AllReadyH.cons rfl (fun K hK => ?_) AllReadyH.nil
                go_simp
                refine hK.out _ _ (HK.out _ (bt HB0.out (below_alloc (Below.refl _ _) _))) (fun hHeldm => ?_)
                clear hK K
                refine wpAnyH_ready (rs := [20]) (by kernel_rfl) (by simp) ?_
                refine AllReadyH.cons rfl (fun K hK => ?_) AllReadyH.nil
                go_simp
                refine hK.out _ _ (HK.out _ (bt HB0.out (below_alloc (Below.refl _ _) _))) (fun hHeld9 => ?_)
                clear hK K
                refine wpAnyH_done (by kernel_rfl) ?_ _
                (try go_wp2_with fail)
                go_meet
                exact ⟨rfl, rfl⟩
              · go_simp
                refine hK.out _ _ (HK.out _ (bt HB0.out (below_alloc (Below.refl _ _) _))) (fun hHeldm => ?_)
                clear hK K
                refine wpAnyH_ready (rs := [17]) (by kernel_rfl) (by simp) ?_
                refine AllReadyH.cons rfl (fun K hK => ?_) AllReadyH.nil
                go_simp
                go_at_call 78
                refine (K5.out _).mono ?_
                rintro e w5 ⟨rfl, rfl⟩
                go_wp2_with fail
                refine hK.out _ _ (HK.out _ (bt HB0.out (below_alloc (Below.refl _ _) _))) (fun hHeld5 => ?_)
                clear hK K
                refine wpAnyH_take (i := 18) (v := ?_) rfl (by kernel_rfl) (by kernel_rfl) (by kernel_rfl) (fun _ _ _ h => h) (Or.inl ⟨by rfl, ?_⟩) (by assumption) ?_
                rotate_left
                · intro w hSw; (try dsimp only at hSw); go_simp; try with_reducible rfl
                simp only [Act.put, List.getElem_toArray, List.getElem_cons_succ, List.getElem_cons_zero, List.setIfInBounds_toArray, List.set_cons_zero, List.set_cons_succ]
                refine wpAnyH_ready (rs := [20]) (by kernel_rfl) (by simp) ?_
                refine AllReadyH.cons rfl (fun K hK => ?_) AllReadyH.nil
                go_simp
                refine hK.out _ _ (HK.out _ (bt HB0.out (below_alloc (Below.refl _ _) _))) (fun hHeld9 => ?_)
                clear hK K
                refine wpAnyH_done (by kernel_rfl) ?_ _
                (try go_wp2_with fail)
                go_meet
                exact ⟨rfl, rfl⟩
            · go_simp
              refine hK.out _ _ (HK.out _ (bt HB0.out (below_alloc (Below.refl _ _) _))) (fun hHeldm => ?_)
              clear hK K
              refine wpAnyH_ready (rs := [14]) (by kernel_rfl) (by simp) ?_
              refine AllReadyH.cons rfl (fun K hK => ?_) AllReadyH.nil
              go_simp
              go_at_call 78
              refine (K4.out _).mono ?_
              rintro e w4 ⟨rfl, rfl⟩
              go_wp2_with fail
              refine hK.out _ _ (HK.out _ (bt HB0.out (below_alloc (Below.refl _ _) _))) (fun hHeld4 => ?_)
              clear hK K
              refine wpAnyH_ready (rs := [17]) (by kernel_rfl) (by simp) ?_
              refine AllReadyH.cons rfl (fun K hK => ?_) AllReadyH.nil
              go_simp
              go_at_call 78
              refine (K5.out _).mono ?_
              rintro e w5 ⟨rfl, rfl⟩
              go_wp2_with fail
              refine hK.out _ _ (HK.out _ (bt HB0.out (below_alloc (Below.refl _ _) _))) (fun hHeld5 => ?_)
              clear hK K
              refine wpAnyH_take (i := 18) (v := ?_) rfl (by kernel_rfl) (by kernel_rfl) (by kernel_rfl) (fun _ _ _ h => h) (Or.inl ⟨by rfl, ?_⟩) (by assumption) ?_
              rotate_left
              · intro w hSw; (try dsimp only at hSw); go_simp; try with_reducible rfl
              simp only [Act.put, List.getElem_toArray, List.getElem_cons_succ, List.getElem_cons_zero, List.setIfInBounds_toArray, List.set_cons_zero, List.set_cons_succ]
              refine wpAnyH_ready (rs := [20]) (by kernel_rfl) (by simp) ?_
              refine AllReadyH.cons rfl (fun K hK => ?_) AllReadyH.nil
              go_simp
              refine hK.out _ _ (HK.out _ (bt HB0.out (below_alloc (Below.refl _ _) _))) (fun hHeld9 => ?_)
              clear hK K
              refine wpAnyH_done (by kernel_rfl) ?_ _
              (try go_wp2_with fail)
              go_meet
              exact ⟨rfl, rfl⟩
          · go_simp
            refine hK.out _ _ (HK.out _ (bt HB0.out (below_alloc (Below.refl _ _) _))) (fun hHeldm => ?_)
            clear hK K
            refine wpAnyH_ready (rs := [11]) (by kernel_rfl) (by simp) ?_
            refine AllReadyH.cons rfl (fun K hK => ?_) AllReadyH.nil
            go_simp
            go_at_call 78
            refine (K3.out _).mono ?_
            rintro e w3 ⟨rfl, rfl⟩
            go_wp2_with fail
            refine hK.out _ _ (HK.out _ (bt HB0.out (below_alloc (Below.refl _ _) _))) (fun hHeld3 => ?_)
            clear hK K
            refine wpAnyH_ready (rs := [14]) (by kernel_rfl) (by simp) ?_
            refine AllReadyH.cons rfl (fun K hK => ?_) AllReadyH.nil
            go_simp
            go_at_call 78
            refine (K4.out _).mono ?_
            rintro e w4 ⟨rfl, rfl⟩
            go_wp2_with fail
            refine hK.out _ _ (HK.out _ (bt HB0.out (below_alloc (Below.refl _ _) _))) (fun hHeld4 => ?_)
            clear hK K
            refine wpAnyH_ready (rs := [17]) (by kernel_rfl) (by simp) ?_
            refine AllReadyH.cons rfl (fun K hK => ?_) AllReadyH.nil
            go_simp
            go_at_call 78
            refine (K5.out _).mono ?_
            rintro e w5 ⟨rfl, rfl⟩
            go_wp2_with fail
            refine hK.out _ _ (HK.out _ (bt HB0.out (below_alloc (Below.refl _ _) _))) (fun hHeld5 => ?_)
            clear hK K
            refine wpAnyH_take (i := 18) (v := ?_) rfl (by kernel_rfl) (by kernel_rfl) (by kernel_rfl) (fun _ _ _ h => h) (Or.inl ⟨by rfl, ?_⟩) (by assumption) ?_
            rotate_left
            · intro w hSw; (try dsimp only at hSw); go_simp; try with_reducible rfl
            simp only [Act.put, List.getElem_toArray, List.getElem_cons_succ, List.getElem_cons_zero, List.setIfInBounds_toArray, List.set_cons_zero, List.set_cons_succ]
            refine wpAnyH_ready (rs := [20]) (by kernel_rfl) (by simp) ?_
            refine AllReadyH.cons rfl (fun K hK => ?_) AllReadyH.nil
            go_simp
            refine hK.out _ _ (HK.out _ (bt HB0.out (below_alloc (Below.refl _ _) _))) (fun hHeld9 => ?_)
            clear hK K
            refine wpAnyH_done (by kernel_rfl) ?_ _
            (try go_wp2_with fail)
            go_meet
            exact ⟨rfl, rfl⟩
        · go_simp
          refine hK.out _ _ (HK.out _ (bt HB0.out (below_alloc (Below.refl _ _) _))) (fun hHeldm => ?_)
          clear hK K
          refine wpAnyH_ready (rs := [8]) (by kernel_rfl) (by simp) ?_
          refine AllReadyH.cons rfl (fun K hK => ?_) AllReadyH.nil
          go_simp
          go_at_call 78
          refine (K2.out _).mono ?_
          rintro e w2 ⟨rfl, rfl⟩
          go_wp2_with fail
          refine hK.out _ _ (HK.out _ (bt HB0.out (below_alloc (Below.refl _ _) _))) (fun hHeld2 => ?_)
          clear hK K
          refine wpAnyH_ready (rs := [11]) (by kernel_rfl) (by simp) ?_
          refine AllReadyH.cons rfl (fun K hK => ?_) AllReadyH.nil
          go_simp
          go_at_call 78
          refine (K3.out _).mono ?_
          rintro e w3 ⟨rfl, rfl⟩
          go_wp2_with fail
          refine hK.out _ _ (HK.out _ (bt HB0.out (below_alloc (Below.refl _ _) _))) (fun hHeld3 => ?_)
          clear hK K
          refine wpAnyH_ready (rs := [14]) (by kernel_rfl) (by simp) ?_
          refine AllReadyH.cons rfl (fun K hK => ?_) AllReadyH.nil
          go_simp
          go_at_call 78
          refine (K4.out _).mono ?_
          rintro e w4 ⟨rfl, rfl⟩
          go_wp2_with fail
          refine hK.out _ _ (HK.out _ (bt HB0.out (below_alloc (Below.refl _ _) _))) (fun hHeld4 => ?_)
          clear hK K
          refine wpAnyH_ready (rs := [17]) (by kernel_rfl) (by simp) ?_
          refine AllReadyH.cons rfl (fun K hK => ?_) AllReadyH.nil
          go_simp
          go_at_call 78
          refine (K5.out _).mono ?_
          rintro e w5 ⟨rfl, rfl⟩
          go_wp2_with fail
          refine hK.out _ _ (HK.out _ (bt HB0.out (below_alloc (Below.refl _ _) _))) (fun hHeld5 => ?_)
          clear hK K
          refine wpAnyH_take (i := 18) (v := ?_) rfl (by kernel_rfl) (by kernel_rfl) (by kernel_rfl) (fun _ _ _ h => h) (Or.inl ⟨by rfl, ?_⟩) (by assumption) ?_
          rotate_left
          · intro w hSw; (try dsimp only at hSw); go_simp; try with_reducible rfl
          simp only [Act.put, List.getElem_toArray, List.getElem_cons_succ, List.getElem_cons_zero, List.setIfInBounds_toArray, List.set_cons_zero, List.set_cons_succ]
          refine wpAnyH_ready (rs := [20]) (by kernel_rfl) (by simp) ?_
          refine AllReadyH.cons rfl (fun K hK => ?_) AllReadyH.nil
          go_simp
          refine hK.out _ _ (HK.out _ (bt HB0.out (below_alloc (Below.refl _ _) _))) (fun hHeld9 => ?_)
          clear hK K
          refine wpAnyH_done (by kernel_rfl) ?_ _
          (try go_wp2_with fail)
          go_meet
          exact ⟨rfl, rfl⟩
      · go_simp
        refine hK.out _ _ (HK.out _ (bt HB0.out (below_alloc (Below.refl _ _) _))) (fun hHeldm => ?_)
        clear hK K
        refine wpAnyH_ready (rs := [5]) (by kernel_rfl) (by simp) ?_
        refine AllReadyH.cons rfl (fun K hK => ?_) AllReadyH.nil
        go_simp
        go_at_call 78
        refine (K1.out _).mono ?_
        rintro e w1 ⟨rfl, rfl⟩
        go_wp2_with fail
        refine hK.out _ _ (HK.out _ (bt HB0.out (below_alloc (Below.refl _ _) _))) (fun hHeld1 => ?_)
        clear hK K
        refine wpAnyH_ready (rs := [8]) (by kernel_rfl) (by simp) ?_
        refine AllReadyH.cons rfl (fun K hK => ?_) AllReadyH.nil
        go_simp
        go_at_call 78
        refine (K2.out _).mono ?_
        rintro e w2 ⟨rfl, rfl⟩
        go_wp2_with fail
        refine hK.out _ _ (HK.out _ (bt HB0.out (below_alloc (Below.refl _ _) _))) (fun hHeld2 => ?_)
        clear hK K
        refine wpAnyH_ready (rs := [11]) (by kernel_rfl) (by simp) ?_
        refine AllReadyH.cons rfl (fun K hK => ?_) AllReadyH.nil
        go_simp
        go_at_call 78
        refine (K3.out _).mono ?_
        rintro e w3 ⟨rfl, rfl⟩
        go_wp2_with fail
        refine hK.out _ _ (HK.out _ (bt HB0.out (below_alloc (Below.refl _ _) _))) (fun hHeld3 => ?_)
        clear hK K
        refine wpAnyH_ready (rs := [14]) (by kernel_rfl) (by simp) ?_
        refine AllReadyH.cons rfl (fun K hK => ?_) AllReadyH.nil
        go_simp
        go_at_call 78
        refine (K4.out _).mono ?_
        rintro e w4 ⟨rfl, rfl⟩
        go_wp2_with fail
        refine hK.out _ _ (HK.out _ (bt HB0.out (below_alloc (Below.refl _ _) _))) (fun hHeld4 => ?_)
        clear hK K
        refine wpAnyH_ready (rs := [17]) (by kernel_rfl) (by simp) ?_
        refine AllReadyH.cons rfl (fun K hK => ?_) AllReadyH.nil
        go_simp
        go_at_call 78
        refine (K5.out _).mono ?_
        rintro e w5 ⟨rfl, rfl⟩
        go_wp2_with fail
        refine hK.out _ _ (HK.out _ (bt HB0.out (below_alloc (Below.refl _ _) _))) (fun hHeld5 => ?_)
        clear hK K
        refine wpAnyH_take (i := 18) (v := ?_) rfl (by kernel_rfl) (by kernel_rfl) (by kernel_rfl) (fun _ _ _ h => h) (Or.inl ⟨by rfl, ?_⟩) (by assumption) ?_
        rotate_left
        · intro w hSw; (try dsimp only at hSw); go_simp; try with_reducible rfl
        simp only [Act.put, List.getElem_toArray, List.getElem_cons_succ, List.getElem_cons_zero, List.setIfInBounds_toArray, List.set_cons_zero, List.set_cons_succ]
        refine wpAnyH_ready (rs := [20]) (by kernel_rfl) (by simp) ?_
        refine AllReadyH.cons rfl (fun K hK => ?_) AllReadyH.nil
        go_simp
        refine hK.out _ _ (HK.out _ (bt HB0.out (below_alloc (Below.refl _ _) _))) (fun hHeld9 => ?_)
        clear hK K
        refine wpAnyH_done (by kernel_rfl) ?_ _
        (try go_wp2_with fail)
        go_meet
        exact ⟨rfl, rfl⟩
    · go_simp
      refine hK.out _ _ (HK.out _ (bt HB0.out (below_alloc (Below.refl _ _) _))) (fun hHeldm => ?_)
      clear hK K
      refine wpAnyH_ready (rs := [2]) (by kernel_rfl) (by simp) ?_
      refine AllReadyH.cons rfl (fun K hK => ?_) AllReadyH.nil
      go_simp
      go_at_call 78
      refine (K0.out _).mono ?_
      rintro e w0 ⟨rfl, rfl⟩
      go_wp2_with fail
      refine hK.out _ _ (HK.out _ (bt HB0.out (below_alloc (Below.refl _ _) _))) (fun hHeld0 => ?_)
      clear hK K
      refine wpAnyH_ready (rs := [5]) (by kernel_rfl) (by simp) ?_
      refine AllReadyH.cons rfl (fun K hK => ?_) AllReadyH.nil
      go_simp
      go_at_call 78
      refine (K1.out _).mono ?_
      rintro e w1 ⟨rfl, rfl⟩
      go_wp2_with fail
      refine hK.out _ _ (HK.out _ (bt HB0.out (below_alloc (Below.refl _ _) _))) (fun hHeld1 => ?_)
      clear hK K
      refine wpAnyH_ready (rs := [8]) (by kernel_rfl) (by simp) ?_
      refine AllReadyH.cons rfl (fun K hK => ?_) AllReadyH.nil
      go_simp
      go_at_call 78
      refine (K2.out _).mono ?_
      rintro e w2 ⟨rfl, rfl⟩
      go_wp2_with fail
      refine hK.out _ _ (HK.out _ (bt HB0.out (below_alloc (Below.refl _ _) _))) (fun hHeld2 => ?_)
      clear hK K
      refine wpAnyH_ready (rs := [11]) (by kernel_rfl) (by simp) ?_
      refine AllReadyH.cons rfl (fun K hK => ?_) AllReadyH.nil
      go_simp
      go_at_call 78
      refine (K3.out _).mono ?_
      rintro e w3 ⟨rfl, rfl⟩
      go_wp2_with fail
      refine hK.out _ _ (HK.out _ (bt HB0.out (below_alloc (Below.refl _ _) _))) (fun hHeld3 => ?_)
      clear hK K
      refine wpAnyH_ready (rs := [14]) (by kernel_rfl) (by simp) ?_
      refine AllReadyH.cons rfl (fun K hK => ?_) AllReadyH.nil
      go_simp
      go_at_call 78
      refine (K4.out _).mono ?_
      rintro e w4 ⟨rfl, rfl⟩
      go_wp2_with fail
      refine hK.out _ _ (HK.out _ (bt HB0.out (below_alloc (Below.refl _ _) _))) (fun hHeld4 => ?_)
      clear hK K
      refine wpAnyH_ready (rs := [17]) (by kernel_rfl) (by simp) ?_
      refine AllReadyH.cons rfl (fun K hK => ?_) AllReadyH.nil
      go_simp
      go_at_call 78
      refine (K5.out _).mono ?_
      rintro e w5 ⟨rfl, rfl⟩
      go_wp2_with fail
      refine hK.out _ _ (HK.out _ (bt HB0.out (below_alloc (Below.refl _ _) _))) (fun hHeld5 => ?_)
      clear hK K
      refine wpAnyH_take (i := 18) (v := ?_) rfl (by kernel_rfl) (by kernel_rfl) (by kernel_rfl) (fun _ _ _ h => h) (Or.inl ⟨by rfl, ?_⟩) (by assumption) ?_
      rotate_left
      · intro w hSw; (try dsimp only at hSw); go_simp; try with_reducible rfl
      simp only [Act.put, List.getElem_toArray, List.getElem_cons_succ, List.getElem_cons_zero, List.setIfInBounds_toArray, List.set_cons_zero, List.set_cons_succ]
      refine wpAnyH_ready (rs := [20]) (by kernel_rfl) (by simp) ?_
      refine AllReadyH.cons rfl (fun K hK => ?_) AllReadyH.nil
      go_simp
      refine hK.out _ _ (HK.out _ (bt HB0.out (below_alloc (Below.refl _ _) _))) (fun hHeld9 => ?_)
      clear hK K
      refine wpAnyH_done (by kernel_rfl) ?_ _
      (try go_wp2_with fail)
      go_meet
      exact ⟨rfl, rfl⟩
  case rest =>
    obtain ⟨rfl, rfl⟩ := hcut
    have o0 : (W1.alloc (.cells #[.int .i64 x0, .int .i64 x1, .int .i64 x2, .int .i64 x3, .int .i64 x4, .int .i64 x5] 67)).drew.cell? ⟨W1.heap.size, 0, none⟩ = some (.int .i64 x0) := by simp
    have o1 : (W1.alloc (.cells #[.int .i64 x0, .int .i64 x1, .int .i64 x2, .int .i64 x3, .int .i64 x4, .int .i64 x5] 67)).drew.cell? ⟨W1.heap.size, 1, none⟩ = some (.int .i64 x1) := by simp
    have o2 : (W1.alloc (.cells #[.int .i64 x0, .int .i64 x1, .int .i64 x2, .int .i64 x3, .int .i64 x4, .int .i64 x5] 67)).drew.cell? ⟨W1.heap.size, 2, none⟩ = some (.int .i64 x2) := by simp
    have o3 : (W1.alloc (.cells #[.int .i64 x0, .int .i64 x1, .int .i64 x2, .int .i64 x3, .int .i64 x4, .int .i64 x5] 67)).drew.cell? ⟨W1.heap.size, 3, none⟩ = some (.int .i64 x3) := by simp
    have o4 : (W1.alloc (.cells #[.int .i64 x0, .int .i64 x1, .int .i64 x2, .int .i64 x3, .int .i64 x4, .int .i64 x5] 67)).drew.cell? ⟨W1.heap.size, 4, none⟩ = some (.int .i64 x4) := by simp
    have o5 : (W1.alloc (.cells #[.int .i64 x0, .int .i64 x1, .int .i64 x2, .int .i64 x3, .int .i64 x4, .int .i64 x5] 67)).drew.cell? ⟨W1.heap.size, 5, none⟩ = some (.int .i64 x5) := by simp
    have HB9 := Lib.hid (show Below W1.heap.size W1 (W1.alloc (.cells #[.int .i64 x0, .int .i64 x1, .int .i64 x2, .int .i64 x3, .int .i64 x4, .int .i64 x5] 67)).drew from Below.drew (below_alloc (Below.refl W1.heap.size W1) (.cells #[.int .i64 x0, .int .i64 x1, .int .i64 x2, .int .i64 x3, .int .i64 x4, .int .i64 x5] 67)))
    generalize (W1.alloc (.cells #[.int .i64 x0, .int .i64 x1, .int .i64 x2, .int .i64 x3, .int .i64 x4, .int .i64 x5] 67)).drew = W9 at *
    have hlt9 := HR.out.lt
    have hne1 : ¬ w.heap.size = W1.heap.size := by omega
    have hne2 : ¬ W1.heap.size = w.heap.size := by omega
    clear hlt9
    have zo := cell_lt o0
    obtain ⟨⟨v0, r0⟩, ⟨v1, r1⟩, ⟨v2, r2⟩, ⟨v3, r3⟩, ⟨v4, r4⟩, ⟨v5, r5⟩, rz⟩ := (HR.out.below HB9.out)
    have z0 := rz 0
    have z1 := rz 1
    have z2 := rz 2
    have z3 := rz 3
    have z4 := rz 4
    have z5 := rz 5
    have zr := cell_lt r0
    clear rz
    by_cases n0 : x0 < 0
    · have m0 : decide (x0 < 0) = true := by simpa using n0
      go_wp2_with fail
      refine bodyPost_ret (v := .tuple #[.agg #[.int .i64 0, .int .i64 0, .int .i64 0, .int .i64 0, .int .i64 0, .int .i64 0], .int .i64 3]) (by simp [results, Tryz.results22, go_sem, r0, r1, r2, r3, r4, r5]) rfl ⟨rfl, ?_⟩
      have st : ∀ (X : World) (o : Nat) (v : Value), Below w.heap.size w X → Below w.heap.size w (X.setCell ⟨w.heap.size, o, none⟩ v) := fun X o v hb => hb.setCell (p := ⟨w.heap.size, o, none⟩) (Nat.le_refl _) _
      exact st _ _ _ (st _ _ _ (st _ _ _ (st _ _ _ (st _ _ _ (st _ _ _ (bt A0.out HB9.out))))))
    have m0 : decide (x0 < 0) = false := by simpa using n0
    by_cases n1 : x1 < 0
    · have m1 : decide (x1 < 0) = true := by simpa using n1
      go_wp2_with fail
      refine bodyPost_ret (v := .tuple #[.agg #[.int .i64 0, .int .i64 0, .int .i64 0, .int .i64 0, .int .i64 0, .int .i64 0], .int .i64 3]) (by simp [results, Tryz.results22, go_sem, r0, r1, r2, r3, r4, r5]) rfl ⟨rfl, ?_⟩
      have st : ∀ (X : World) (o : Nat) (v : Value), Below w.heap.size w X → Below w.heap.size w (X.setCell ⟨w.heap.size, o, none⟩ v) := fun X o v hb => hb.setCell (p := ⟨w.heap.size, o, none⟩) (Nat.le_refl _) _
      exact st _ _ _ (st _ _ _ (st _ _ _ (st _ _ _ (st _ _ _ (st _ _ _ (bt A0.out HB9.out))))))
    have m1 : decide (x1 < 0) = false := by simpa using n1
    by_cases n2 : x2 < 0
    · have m2 : decide (x2 < 0) = true := by simpa using n2
      go_wp2_with fail
      refine bodyPost_ret (v := .tuple #[.agg #[.int .i64 0, .int .i64 0, .int .i64 0, .int .i64 0, .int .i64 0, .int .i64 0], .int .i64 3]) (by simp [results, Tryz.results22, go_sem, r0, r1, r2, r3, r4, r5]) rfl ⟨rfl, ?_⟩
      have st : ∀ (X : World) (o : Nat) (v : Value), Below w.heap.size w X → Below w.heap.size w (X.setCell ⟨w.heap.size, o, none⟩ v) := fun X o v hb => hb.setCell (p := ⟨w.heap.size, o, none⟩) (Nat.le_refl _) _
      exact st _ _ _ (st _ _ _ (st _ _ _ (st _ _ _ (st _ _ _ (st _ _ _ (bt A0.out HB9.out))))))
    have m2 : decide (x2 < 0) = false := by simpa using n2
    by_cases n3 : x3 < 0
    · have m3 : decide (x3 < 0) = true := by simpa using n3
      go_wp2_with fail
      refine bodyPost_ret (v := .tuple #[.agg #[.int .i64 0, .int .i64 0, .int .i64 0, .int .i64 0, .int .i64 0, .int .i64 0], .int .i64 3]) (by simp [results, Tryz.results22, go_sem, r0, r1, r2, r3, r4, r5]) rfl ⟨rfl, ?_⟩
      have st : ∀ (X : World) (o : Nat) (v : Value), Below w.heap.size w X → Below w.heap.size w (X.setCell ⟨w.heap.size, o, none⟩ v) := fun X o v hb => hb.setCell (p := ⟨w.heap.size, o, none⟩) (Nat.le_refl _) _
      exact st _ _ _ (st _ _ _ (st _ _ _ (st _ _ _ (st _ _ _ (st _ _ _ (bt A0.out HB9.out))))))
    have m3 : decide (x3 < 0) = false := by simpa using n3
    by_cases n4 : x4 < 0
    · have m4 : decide (x4 < 0) = true := by simpa using n4
      go_wp2_with fail
      refine bodyPost_ret (v := .tuple #[.agg #[.int .i64 0, .int .i64 0, .int .i64 0, .int .i64 0, .int .i64 0, .int .i64 0], .int .i64 3]) (by simp [results, Tryz.results22, go_sem, r0, r1, r2, r3, r4, r5]) rfl ⟨rfl, ?_⟩
      have st : ∀ (X : World) (o : Nat) (v : Value), Below w.heap.size w X → Below w.heap.size w (X.setCell ⟨w.heap.size, o, none⟩ v) := fun X o v hb => hb.setCell (p := ⟨w.heap.size, o, none⟩) (Nat.le_refl _) _
      exact st _ _ _ (st _ _ _ (st _ _ _ (st _ _ _ (st _ _ _ (st _ _ _ (bt A0.out HB9.out))))))
    have m4 : decide (x4 < 0) = false := by simpa using n4
    by_cases n5 : x5 < 0
    · have m5 : decide (x5 < 0) = true := by simpa using n5
      go_wp2_with fail
      refine bodyPost_ret (v := .tuple #[.agg #[.int .i64 0, .int .i64 0, .int .i64 0, .int .i64 0, .int .i64 0, .int .i64 0], .int .i64 3]) (by simp [results, Tryz.results22, go_sem, r0, r1, r2, r3, r4, r5]) rfl ⟨rfl, ?_⟩
      have st : ∀ (X : World) (o : Nat) (v : Value), Below w.heap.size w X → Below w.heap.size w (X.setCell ⟨w.heap.size, o, none⟩ v) := fun X o v hb => hb.setCell (p := ⟨w.heap.size, o, none⟩) (Nat.le_refl _) _
      exact st _ _ _ (st _ _ _ (st _ _ _ (st _ _ _ (st _ _ _ (st _ _ _ (bt A0.out HB9.out))))))
    have m5 : decide (x5 < 0) = false := by simpa using n5
    exact absurd HY.out (by omega)
end Go.Proofs.YtgnfaemnehmgcaaGreatDoor.Cal
