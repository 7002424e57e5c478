/- The walk over the law WorldExact. -/
import Derived.Test.YtehjkmnamgafaaaDoorExactMem
import Derived.RegionTactic
import Derived.ChangeAlike
import Derived.BigRegion
namespace Go.Proofs.YtehjkmnamgafaaaDoor
open Go Go.RowKit
/-- the world at a call under one name -/
theorem calls_at {P : Program} {f : FuncId} {args : Array Value} {X : World} {Q : Ending → World → Prop} (R : World → Prop) (h : R X) (k : ∀ Y, R Y → Calls P f args Y Q) : Calls P f args X Q := k X h
set_option maxRecDepth 100000 in
set_option maxHeartbeats 4000000 in
theorem worldExact_any (start0 rate0 s0 size0 at0 : Int) (w : World) (ht : Tabs w) :
    Calls Tryd.prog 8 #[.int .i64 start0, .int .i64 rate0, .int .i64 s0, .int .i64 size0, .int .i64 at0] w fun e w' => e = .returned (.bool true) ∧ Below w.heap.size w w' := by
  have p0 := posS_bd s0
  have p1 := posS_bd at0
  have p2 : 1 ≤ 1 + posS at0 % 1000000 ∧ 1 + posS at0 % 1000000 ≤ 1000000 := by omega
  have HT := Lib.hid ht
  clear ht
  go_enter Tryd.func8, Tryd.ntmps8
  go_wp2_with fail
  refine (bounded_any start0 _ _ (by decide)).mono ?_
  rintro e w' ⟨rfl, rfl⟩
  go_wp2_with fail
  refine (bounded_any rate0 _ _ (by decide)).mono ?_
  rintro e w' ⟨rfl, rfl⟩
  go_wp2_with fail
  refine (positive_any s0 _).mono ?_
  rintro e w' ⟨rfl, rfl⟩
  go_wp2_with fail
  refine (bounded_any size0 _ _ (by decide)).mono ?_
  rintro e w' ⟨rfl, rfl⟩
  go_wp2_with fail
  refine (positive_any at0 _).mono ?_
  rintro e w' ⟨rfl, rfl⟩
  go_wp2_with fail
  have q1 := boundS_bd start0 100000000000000 (by decide)
  have q2 := boundS_bd rate0 10000000 (by decide)
  have q3 := boundS_bd size0 10000000000 (by decide)
  generalize boundS start0 100000000000000 = start at *
  generalize boundS rate0 10000000 = rate at *
  generalize boundS size0 10000000000 = size at *
  generalize 1 + posS at0 % 1000000 = sec at *
  generalize posS s0 = s at *
  clear p1
  have hck := exact_check s start rate size sec ⟨5, 0, 5, 0, 99, 99, 0, 0, []⟩ (by decide) (by decide) q1 q2 q3 p2
  have hck2 := exact_check 1 start rate size sec ⟨4, 0, 0, 0, 0, 0, 0, 0, []⟩ (by decide) (by decide) q1 q2 q3 p2
  have F0 := Lib.hid (ex_phase0 s start rate size sec s _ hck p0)
  have F1 := Lib.hid (ex_phase1 s start rate size sec s _ hck p0)
  have F2 := Lib.hid (ex_phase2 s start rate size sec s _ hck p0)
  have F3 := Lib.hid (ex_phase0 1 start rate size sec s _ hck2 p0)
  have hm1 := mul_bd rate s 10000000 1000000 q2 p0
  clear hck hck2
  by_cases hsec : sec ≤ s
  · have f1 := F1.out
    have f2 := F2.out
    rw [if_pos hsec] at f1 f2
    have hm2 := mul_bd size (s - sec) 10000000000 1000000 q3 (by omega)
    have G1 := Lib.hid f1
    have G2 := Lib.hid f2
    clear f1 f2 F1 F2
    go_region
    all_goals
      go_wp2_with fail
      refine calls_at (fun X => ExactBlk w X s start rate size sec ⟨5, 0, 5, 0, 99, 99, 0, 0, []⟩) (exact_new w _ _ _ _ s start rate size sec) ?_
      intro X hX
      have HX := Lib.hid hX
      clear hX
      refine (phase_any (exactW s start rate size sec ⟨5, 0, 5, 0, 99, 99, 0, 0, []⟩) 0 s _ _ 1 4 _ (HT.out.below HX.out.bel) (HX.out.wld rfl)).mono ?_
      rintro e X1 ⟨rfl, hb⟩
      rw [F0.out]
      have HX1 := Lib.hid (HX.out.below hb)
      have b0 : X1.cell? ⟨w.heap.size + 1 + 1 + 1 + 1 + 1 + 1 + 1 + 1, 0, none⟩ = some (.int .u64 s) := blk_cell HX1.out.box 0 _ rfl
      have b1 : X1.cell? ⟨w.heap.size + 1 + 1 + 1 + 1 + 1 + 1 + 1 + 1, 1, none⟩ = some (.slice (some ⟨w.heap.size + 1 + 1 + 1 + 1 + 1 + 1, 0, none⟩) 1 1) := blk_cell HX1.out.box 1 _ rfl
      have b2 : X1.cell? ⟨w.heap.size + 1 + 1 + 1 + 1 + 1 + 1 + 1 + 1, 2, none⟩ = some (.slice (some ⟨w.heap.size + 1 + 1 + 1 + 1 + 1 + 1 + 1, 0, none⟩) 4 4) := blk_cell HX1.out.box 2 _ rfl
      clear hb HX
      go_wp2_with fail
      clear b0 b1 b2
      refine (phase_any (exactW s start rate size sec ⟨5, 0, 5, 0, 99, 99, 0, 0, []⟩) 1 s _ _ 1 4 _ (HT.out.below HX1.out.bel) (HX1.out.wld rfl)).mono ?_
      rintro e X2 ⟨rfl, hb⟩
      rw [G1.out]
      have HX2 := Lib.hid (HX1.out.below hb)
      have b0 : X2.cell? ⟨w.heap.size + 1 + 1 + 1 + 1 + 1 + 1 + 1 + 1, 0, none⟩ = some (.int .u64 s) := blk_cell HX2.out.box 0 _ rfl
      have b1 : X2.cell? ⟨w.heap.size + 1 + 1 + 1 + 1 + 1 + 1 + 1 + 1, 1, none⟩ = some (.slice (some ⟨w.heap.size + 1 + 1 + 1 + 1 + 1 + 1, 0, none⟩) 1 1) := blk_cell HX2.out.box 1 _ rfl
      have b2 : X2.cell? ⟨w.heap.size + 1 + 1 + 1 + 1 + 1 + 1 + 1 + 1, 2, none⟩ = some (.slice (some ⟨w.heap.size + 1 + 1 + 1 + 1 + 1 + 1 + 1, 0, none⟩) 4 4) := blk_cell HX2.out.box 2 _ rfl
      clear hb HX1
      go_wp2_with fail
      clear b0 b1 b2
      refine (phase_any (exactW s start rate size sec ⟨5, 0, 5, 0, 99, 99, 0, 0, []⟩) 2 s _ _ 1 4 _ (HT.out.below HX2.out.bel) (HX2.out.wld rfl)).mono ?_
      rintro e X3 ⟨rfl, hb⟩
      rw [G2.out]
      have HX3 := Lib.hid (HX2.out.below hb)
      have b0 : X3.cell? ⟨w.heap.size + 1 + 1 + 1 + 1 + 1 + 1 + 1 + 1, 0, none⟩ = some (.int .u64 s) := blk_cell HX3.out.box 0 _ rfl
      have b1 : X3.cell? ⟨w.heap.size + 1 + 1 + 1 + 1 + 1 + 1 + 1 + 1, 1, none⟩ = some (.slice (some ⟨w.heap.size + 1 + 1 + 1 + 1 + 1 + 1, 0, none⟩) 1 1) := blk_cell HX3.out.box 1 _ rfl
      have b2 : X3.cell? ⟨w.heap.size + 1 + 1 + 1 + 1 + 1 + 1 + 1 + 1, 2, none⟩ = some (.slice (some ⟨w.heap.size + 1 + 1 + 1 + 1 + 1 + 1 + 1, 0, none⟩) 4 4) := blk_cell HX3.out.box 2 _ rfl
      have bf := blk_free HX3.out.box 0
      have k0 : X3.cell? ⟨w.heap.size + 1 + 1 + 1 + 1 + 1 + 1 + 1, 27, none⟩ = some (.int .i64 5) := blk_cell HX3.out.clks 27 _ rfl
      have k1 : X3.cell? ⟨w.heap.size + 1 + 1 + 1 + 1 + 1 + 1 + 1, 28, none⟩ = some (.int .i64 0) := blk_cell HX3.out.clks 28 _ rfl
      have k2 : X3.cell? ⟨w.heap.size + 1 + 1 + 1 + 1 + 1 + 1 + 1, 29, none⟩ = some (.int .i64 5) := blk_cell HX3.out.clks 29 _ rfl
      have k3 : X3.cell? ⟨w.heap.size + 1 + 1 + 1 + 1 + 1 + 1 + 1, 30, none⟩ = some (.int .i64 0) := blk_cell HX3.out.clks 30 _ rfl
      have k4 : X3.cell? ⟨w.heap.size + 1 + 1 + 1 + 1 + 1 + 1 + 1, 31, none⟩ = some (.int .i64 99) := blk_cell HX3.out.clks 31 _ rfl
      have k5 : X3.cell? ⟨w.heap.size + 1 + 1 + 1 + 1 + 1 + 1 + 1, 32, none⟩ = some (.int .i64 99) := blk_cell HX3.out.clks 32 _ rfl
      have k6 : X3.cell? ⟨w.heap.size + 1 + 1 + 1 + 1 + 1 + 1 + 1, 33, none⟩ = some (.int .i64 0) := blk_cell HX3.out.clks 33 _ rfl
      have k7 : X3.cell? ⟨w.heap.size + 1 + 1 + 1 + 1 + 1 + 1 + 1, 34, none⟩ = some (.int .i64 0) := blk_cell HX3.out.clks 34 _ rfl
      have k8 : X3.cell? ⟨w.heap.size + 1 + 1 + 1 + 1 + 1 + 1 + 1, 35, none⟩ = some (.slice none 0 0) := blk_cell HX3.out.clks 35 _ rfl
      have g0 := blk_free HX3.out.clks 27
      have g1 := blk_free HX3.out.clks 28
      have g2 := blk_free HX3.out.clks 29
      have g3 := blk_free HX3.out.clks 30
      have g4 := blk_free HX3.out.clks 31
      have g5 := blk_free HX3.out.clks 32
      have g6 := blk_free HX3.out.clks 33
      have g7 := blk_free HX3.out.clks 34
      have g8 := blk_free HX3.out.clks 35
      clear hb HX2
      go_wp2_with fail
      clear b0 b1 b2 bf k0 k1 k2 k3 k4 k5 k6 k7 k8 g0 g1 g2 g3 g4 g5 g6 g7 g8
      refine calls_at (fun X => ExactBlk w X 1 start rate size sec ⟨4, 0, 0, 0, 0, 0, 0, 0, []⟩) HX3.out.stored ?_
      intro X4 hX4
      have HX4 := Lib.hid hX4
      clear hX4 HX3
      refine (phase_any (exactW 1 start rate size sec ⟨4, 0, 0, 0, 0, 0, 0, 0, []⟩) 0 s _ _ 1 4 _ (HT.out.below HX4.out.bel) (HX4.out.wld rfl)).mono ?_
      rintro e X5 ⟨rfl, hb⟩
      rw [F3.out]
      have HX5 := Lib.hid (HX4.out.below hb)
      clear hb HX4
      go_wp2_with (first | (go_at_call 43; refine (down_any _ _ (by omega)).mono ?_; rintro e w' ⟨rfl, rfl⟩) |
        (go_at_call 11; refine (awake_any _ (HT.out.below HX5.out.bel)).mono ?_; rintro e X6 ⟨rfl, hb6⟩))
      go_ret
      exact ⟨rfl, HX5.out.bel.trans (hb6.mono HX5.out.bel.size)⟩
  · have f1 := F1.out
    have f2 := F2.out
    rw [if_neg hsec] at f1 f2
    simp only [Int.add_zero] at f1 f2
    have G1 := Lib.hid f1
    have G2 := Lib.hid f2
    clear f1 f2 F1 F2
    go_region
    all_goals
      go_wp2_with fail
      refine calls_at (fun X => ExactBlk w X s start rate size sec ⟨5, 0, 5, 0, 99, 99, 0, 0, []⟩) (exact_new w _ _ _ _ s start rate size sec) ?_
      intro X hX
      have HX := Lib.hid hX
      clear hX
      refine (phase_any (exactW s start rate size sec ⟨5, 0, 5, 0, 99, 99, 0, 0, []⟩) 0 s _ _ 1 4 _ (HT.out.below HX.out.bel) (HX.out.wld rfl)).mono ?_
      rintro e X1 ⟨rfl, hb⟩
      rw [F0.out]
      have HX1 := Lib.hid (HX.out.below hb)
      have b0 : X1.cell? ⟨w.heap.size + 1 + 1 + 1 + 1 + 1 + 1 + 1 + 1, 0, none⟩ = some (.int .u64 s) := blk_cell HX1.out.box 0 _ rfl
      have b1 : X1.cell? ⟨w.heap.size + 1 + 1 + 1 + 1 + 1 + 1 + 1 + 1, 1, none⟩ = some (.slice (some ⟨w.heap.size + 1 + 1 + 1 + 1 + 1 + 1, 0, none⟩) 1 1) := blk_cell HX1.out.box 1 _ rfl
      have b2 : X1.cell? ⟨w.heap.size + 1 + 1 + 1 + 1 + 1 + 1 + 1 + 1, 2, none⟩ = some (.slice (some ⟨w.heap.size + 1 + 1 + 1 + 1 + 1 + 1 + 1, 0, none⟩) 4 4) := blk_cell HX1.out.box 2 _ rfl
      clear hb HX
      go_wp2_with fail
      clear b0 b1 b2
      refine (phase_any (exactW s start rate size sec ⟨5, 0, 5, 0, 99, 99, 0, 0, []⟩) 1 s _ _ 1 4 _ (HT.out.below HX1.out.bel) (HX1.out.wld rfl)).mono ?_
      rintro e X2 ⟨rfl, hb⟩
      rw [G1.out]
      have HX2 := Lib.hid (HX1.out.below hb)
      have b0 : X2.cell? ⟨w.heap.size + 1 + 1 + 1 + 1 + 1 + 1 + 1 + 1, 0, none⟩ = some (.int .u64 s) := blk_cell HX2.out.box 0 _ rfl
      have b1 : X2.cell? ⟨w.heap.size + 1 + 1 + 1 + 1 + 1 + 1 + 1 + 1, 1, none⟩ = some (.slice (some ⟨w.heap.size + 1 + 1 + 1 + 1 + 1 + 1, 0, none⟩) 1 1) := blk_cell HX2.out.box 1 _ rfl
      have b2 : X2.cell? ⟨w.heap.size + 1 + 1 + 1 + 1 + 1 + 1 + 1 + 1, 2, none⟩ = some (.slice (some ⟨w.heap.size + 1 + 1 + 1 + 1 + 1 + 1 + 1, 0, none⟩) 4 4) := blk_cell HX2.out.box 2 _ rfl
      clear hb HX1
      go_wp2_with fail
      clear b0 b1 b2
      refine (phase_any (exactW s start rate size sec ⟨5, 0, 5, 0, 99, 99, 0, 0, []⟩) 2 s _ _ 1 4 _ (HT.out.below HX2.out.bel) (HX2.out.wld rfl)).mono ?_
      rintro e X3 ⟨rfl, hb⟩
      rw [G2.out]
      have HX3 := Lib.hid (HX2.out.below hb)
      have b0 : X3.cell? ⟨w.heap.size + 1 + 1 + 1 + 1 + 1 + 1 + 1 + 1, 0, none⟩ = some (.int .u64 s) := blk_cell HX3.out.box 0 _ rfl
      have b1 : X3.cell? ⟨w.heap.size + 1 + 1 + 1 + 1 + 1 + 1 + 1 + 1, 1, none⟩ = some (.slice (some ⟨w.heap.size + 1 + 1 + 1 + 1 + 1 + 1, 0, none⟩) 1 1) := blk_cell HX3.out.box 1 _ rfl
      have b2 : X3.cell? ⟨w.heap.size + 1 + 1 + 1 + 1 + 1 + 1 + 1 + 1, 2, none⟩ = some (.slice (some ⟨w.heap.size + 1 + 1 + 1 + 1 + 1 + 1 + 1, 0, none⟩) 4 4) := blk_cell HX3.out.box 2 _ rfl
      have bf := blk_free HX3.out.box 0
      have k0 : X3.cell? ⟨w.heap.size + 1 + 1 + 1 + 1 + 1 + 1 + 1, 27, none⟩ = some (.int .i64 5) := blk_cell HX3.out.clks 27 _ rfl
      have k1 : X3.cell? ⟨w.heap.size + 1 + 1 + 1 + 1 + 1 + 1 + 1, 28, none⟩ = some (.int .i64 0) := blk_cell HX3.out.clks 28 _ rfl
      have k2 : X3.cell? ⟨w.heap.size + 1 + 1 + 1 + 1 + 1 + 1 + 1, 29, none⟩ = some (.int .i64 5) := blk_cell HX3.out.clks 29 _ rfl
      have k3 : X3.cell? ⟨w.heap.size + 1 + 1 + 1 + 1 + 1 + 1 + 1, 30, none⟩ = some (.int .i64 0) := blk_cell HX3.out.clks 30 _ rfl
      have k4 : X3.cell? ⟨w.heap.size + 1 + 1 + 1 + 1 + 1 + 1 + 1, 31, none⟩ = some (.int .i64 99) := blk_cell HX3.out.clks 31 _ rfl
      have k5 : X3.cell? ⟨w.heap.size + 1 + 1 + 1 + 1 + 1 + 1 + 1, 32, none⟩ = some (.int .i64 99) := blk_cell HX3.out.clks 32 _ rfl
      have k6 : X3.cell? ⟨w.heap.size + 1 + 1 + 1 + 1 + 1 + 1 + 1, 33, none⟩ = some (.int .i64 0) := blk_cell HX3.out.clks 33 _ rfl
      have k7 : X3.cell? ⟨w.heap.size + 1 + 1 + 1 + 1 + 1 + 1 + 1, 34, none⟩ = some (.int .i64 0) := blk_cell HX3.out.clks 34 _ rfl
      have k8 : X3.cell? ⟨w.heap.size + 1 + 1 + 1 + 1 + 1 + 1 + 1, 35, none⟩ = some (.slice none 0 0) := blk_cell HX3.out.clks 35 _ rfl
      have g0 := blk_free HX3.out.clks 27
      have g1 := blk_free HX3.out.clks 28
      have g2 := blk_free HX3.out.clks 29
      have g3 := blk_free HX3.out.clks 30
      have g4 := blk_free HX3.out.clks 31
      have g5 := blk_free HX3.out.clks 32
      have g6 := blk_free HX3.out.clks 33
      have g7 := blk_free HX3.out.clks 34
      have g8 := blk_free HX3.out.clks 35
      clear hb HX2
      go_wp2_with fail
      clear b0 b1 b2 bf k0 k1 k2 k3 k4 k5 k6 k7 k8 g0 g1 g2 g3 g4 g5 g6 g7 g8
      refine calls_at (fun X => ExactBlk w X 1 start rate size sec ⟨4, 0, 0, 0, 0, 0, 0, 0, []⟩) HX3.out.stored ?_
      intro X4 hX4
      have HX4 := Lib.hid hX4
      clear hX4 HX3
      refine (phase_any (exactW 1 start rate size sec ⟨4, 0, 0, 0, 0, 0, 0, 0, []⟩) 0 s _ _ 1 4 _ (HT.out.below HX4.out.bel) (HX4.out.wld rfl)).mono ?_
      rintro e X5 ⟨rfl, hb⟩
      rw [F3.out]
      have HX5 := Lib.hid (HX4.out.below hb)
      clear hb HX4
      go_wp2_with (first | (go_at_call 43; refine (down_any _ _ (by omega)).mono ?_; rintro e w' ⟨rfl, rfl⟩) |
        (go_at_call 11; refine (awake_any _ (HT.out.below HX5.out.bel)).mono ?_; rintro e X6 ⟨rfl, hb6⟩))
      go_ret
      exact ⟨rfl, HX5.out.bel.trans (hb6.mono HX5.out.bel.size)⟩
end Go.Proofs.YtehjkmnamgafaaaDoor
