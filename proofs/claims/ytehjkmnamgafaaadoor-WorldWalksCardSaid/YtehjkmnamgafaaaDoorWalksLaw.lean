/- The walk over the law WorldWalks. -/
import Derived.Test.YtehjkmnamgafaaaDoorAwake
import Derived.Test.YtehjkmnamgafaaaDoorWalksPlain
namespace Go.Proofs.YtehjkmnamgafaaaDoor
open Go Go.RowKit
theorem positive_any (n : Int) (w : World) :
    Calls Tryd.prog 42 #[.int .i64 n] w fun e w' => e = .returned (.int .i64 (posS n)) ∧ w = w' := by
  have a := Int.lt_tmod_of_pos n (show (0 : Int) < 1000001 by decide)
  have b := Int.tmod_lt_of_pos n (show (0 : Int) < 1000001 by decide)
  have hp : posS n = if n.tmod 1000001 < 0 then -(n.tmod 1000001) else n.tmod 1000001 := rfl
  by_cases h0 : n.tmod 1000001 < 0
  · rw [if_pos h0] at hp
    have HP := Lib.hid hp
    clear hp
    go_enter Tryd.func42, Tryd.ntmps42
    go_wp2
    go_ret
    exact ⟨by rw [HP.out]; rfl, rfl⟩
  · rw [if_neg h0] at hp
    have HP := Lib.hid hp
    clear hp
    go_enter Tryd.func42, Tryd.ntmps42
    go_wp2
    go_ret
    exact ⟨by rw [HP.out]; rfl, rfl⟩
/-- the world of the law, as it lies in memory -/
def WalksIn (w X : World) (seed walk white : Int) : Prop :=
  WldIn X (walksW seed walk white) (some ⟨w.heap.size, 0, none⟩) (some ⟨w.heap.size + 1, 0, none⟩) ∧ Below w.heap.size w X ∧
  (X.cell? ⟨w.heap.size + 1 + 1, 0, none⟩ = some (.int .u64 seed) ∧ X.cell? ⟨w.heap.size + 1 + 1, 1, none⟩ = some (.slice (some ⟨w.heap.size, 0, none⟩) 1 1) ∧ X.cell? ⟨w.heap.size + 1 + 1, 2, none⟩ = some (.slice (some ⟨w.heap.size + 1, 0, none⟩) 2 2))
theorem WalksIn.below {w X Y : World} {seed walk white : Int} (h : WalksIn w X seed walk white) (hb : Below X.heap.size X Y) : WalksIn w Y seed walk white :=
  ⟨h.1.below hb, h.2.1.trans (hb.mono h.2.1.size), cell_below hb h.2.2.1, cell_below hb h.2.2.2.1, cell_below hb h.2.2.2.2⟩
theorem walksIn_new (w : World) (seed walk white : Int) : WalksIn w (((w.alloc (.cells #[.int .i64 0, .int .i64 0, .int .i64 2] 90)).alloc (.cells #[.int .i64 4, .int .i64 0, .int .i64 0, .int .i64 0, .int .i64 0, .int .i64 0, .int .i64 0, .int .i64 0, .slice none 0 0, .int .i64 1, .int .i64 0, .int .i64 0, .int .i64 0, .int .i64 white, .int .i64 walk, .int .i64 0, .int .i64 0, .slice none 0 0] 86)).alloc (.cells #[.int .u64 seed, .slice (some ⟨w.heap.size, 0, none⟩) 1 1, .slice (some ⟨w.heap.size + 1, 0, none⟩) 2 2] 32)) seed walk white := by
  refine ⟨⟨by simp [walksW, maxLen], by simp [walksW, maxLen], .inr ⟨_, _, rfl, ?_⟩, .inr ⟨_, _, rfl, ?_⟩⟩, below_alloc (below_alloc (below_alloc (Below.refl _ _) _) _) _, by simp [go_sem], by simp [go_sem], by simp [go_sem]⟩
  · intro i hi
    obtain rfl : i = 0 := by simp [walksW] at hi; omega
    exact ⟨by simp [go_sem, walksW], by simp [go_sem, walksW], by simp [go_sem, walksW]⟩
  · intro i hi
    have hi2 : i = 0 ∨ i = 1 := by simp [walksW] at hi; omega
    rcases hi2 with rfl | rfl
    · refine ⟨⟨by simp [go_sem, walksW], by simp [go_sem, walksW], by simp [go_sem, walksW], by simp [go_sem, walksW], by simp [go_sem, walksW], by simp [go_sem, walksW], by simp [go_sem, walksW], by simp [go_sem, walksW]⟩, .slice none 0 0, by simp [go_sem], ev_nil _⟩
    · refine ⟨⟨by simp [go_sem, walksW, quietW], by simp [go_sem, walksW, quietW], by simp [go_sem, walksW, quietW], by simp [go_sem, walksW, quietW], by simp [go_sem, walksW, quietW], by simp [go_sem, walksW, quietW], by simp [go_sem, walksW, quietW], by simp [go_sem, walksW, quietW]⟩, .slice none 0 0, by simp [go_sem], ev_nil _⟩
set_option maxRecDepth 100000 in
set_option maxHeartbeats 4000000 in
theorem worldWalks_any (seed walk0 white0 s0 : Int) (w : World) (ht : Tabs w) :
    Calls Tryd.prog 9 #[.int .u64 seed, .int .i64 walk0, .int .i64 white0, .int .i64 s0] w fun e w' => e = .returned (.bool true) ∧ Below w.heap.size w w' := by
  have p1 := posS_bd walk0
  have p2 := posS_bd white0
  have p3 := posS_bd s0
  have hw : 0 ≤ posS walk0 % 100001 ∧ posS walk0 % 100001 ≤ 100000 := by omega
  have hs : 0 ≤ posS s0 % 999901 ∧ posS s0 % 999901 ≤ 999900 := by omega
  have HT := Lib.hid ht
  clear ht
  go_enter Tryd.func9, Tryd.ntmps9
  go_wp2_with fail
  refine (positive_any walk0 _).mono ?_
  rintro e w' ⟨rfl, rfl⟩
  go_wp2_with fail
  refine (positive_any white0 _).mono ?_
  rintro e w' ⟨rfl, rfl⟩
  go_wp2_with fail
  refine (positive_any s0 _).mono ?_
  rintro e w' ⟨rfl, rfl⟩
  go_wp2_with fail
  have hX := walksIn_new w seed (posS walk0 % 100001) (posS white0)
  clear p1 p3
  generalize posS walk0 % 100001 = walk at *
  generalize posS white0 = white at *
  generalize posS s0 % 999901 = s at *
  have d1 := walks_draw seed 1 (s / 100 + 1) walk (by decide) (by omega) (by omega)
  have d2 := walks_draw seed 2 s white (by decide) (by omega) (by omega)
  have nx := walked_next seed walk s hs.1
  have f1 := walks_phase seed walk white s hw p2 (by omega)
  have f2 := walks_phase seed walk white (s + 100) hw p2 (by omega)
  have f3 := walks_shown seed walk white s hw p2 (by omega)
  have b1 := walked_small seed walk s hw (by omega)
  have b2 := walked_small seed walk (s + 100) hw (by omega)
  have b3 := drawS_bd (sourceS seed 1 1) (s / 100 + 1) walk hw.1
  have b4 := drawS_bd (sourceS seed 2 1) s white p2.1
  have D1 := Lib.hid d1
  have D2 := Lib.hid d2
  have F1 := Lib.hid f1
  have F2 := Lib.hid f2
  have F3 := Lib.hid f3
  clear d1 d2 f1 f2 f3
  generalize walkedS seed 1 walk 0 s = va at *
  generalize walkedS seed 1 walk 0 (s + 100) = vb at *
  generalize drawS (sourceS seed 1 1) (s / 100 + 1) walk = vd at *
  generalize drawS (sourceS seed 2 1) s white = ve at *
  obtain rfl : vb = va + vd := by omega
  clear nx
  generalize (((w.alloc (.cells #[.int .i64 0, .int .i64 0, .int .i64 2] 90)).alloc (.cells #[.int .i64 4, .int .i64 0, .int .i64 0, .int .i64 0, .int .i64 0, .int .i64 0, .int .i64 0, .int .i64 0, .slice none 0 0, .int .i64 1, .int .i64 0, .int .i64 0, .int .i64 0, .int .i64 white, .int .i64 walk, .int .i64 0, .int .i64 0, .slice none 0 0] 86)).alloc (.cells #[.int .u64 seed, .slice (some ⟨w.heap.size, 0, none⟩) 1 1, .slice (some ⟨w.heap.size + 1, 0, none⟩) 2 2] 32)) = X0 at *
  have HX0 := Lib.hid hX
  clear hX
  refine (phase_any (walksW seed walk white) 1 s (some ⟨w.heap.size, 0, none⟩) (some ⟨w.heap.size + 1, 0, none⟩) 1 2 _ (HT.out.below HX0.out.2.1) HX0.out.1).mono ?_
  rintro e X1 ⟨rfl, hb⟩
  have HX1 := Lib.hid (HX0.out.below hb)
  obtain ⟨-, -, y0, y1, y2⟩ := HX1.out
  have hz := cell_lt y0
  rw [F1.out]
  clear hb
  go_wp2_with fail
  clear y0 y1 y2 hz
  refine (phase_any (walksW seed walk white) 1 (s + 100) (some ⟨w.heap.size, 0, none⟩) (some ⟨w.heap.size + 1, 0, none⟩) 1 2 _ (HT.out.below HX1.out.2.1) HX1.out.1).mono ?_
  rintro e X2 ⟨rfl, hb⟩
  have HX2 := Lib.hid (HX1.out.below hb)
  obtain ⟨-, -, y0, y1, y2⟩ := HX2.out
  have hz := cell_lt y0
  rw [F2.out]
  clear hb
  go_wp2_with fail
  clear y0 y1 y2 hz
  refine (draw_exp seed 1 1 (s / 100 + 1) walk _ (by decide) (by decide) (by omega)).mono ?_
  rintro e X3 ⟨rfl, rfl⟩
  rw [D1.out]
  obtain ⟨-, -, y0, y1, y2⟩ := HX2.out
  have hz := cell_lt y0
  go_wp2_with fail
  clear y0 y1 y2 hz
  refine (shown_any (walksW seed walk white) 1 s (some ⟨w.heap.size, 0, none⟩) (some ⟨w.heap.size + 1, 0, none⟩) 1 2 _ (HT.out.below HX2.out.2.1) HX2.out.1).mono ?_
  rintro e X3 ⟨rfl, hb⟩
  have HX3 := Lib.hid (HX2.out.below hb)
  obtain ⟨-, -, y0, y1, y2⟩ := HX3.out
  have hz := cell_lt y0
  rw [F3.out]
  clear hb
  go_wp2_with fail
  clear y0 y1 y2 hz
  refine (shown_any (walksW seed walk white) 1 s (some ⟨w.heap.size, 0, none⟩) (some ⟨w.heap.size + 1, 0, none⟩) 1 2 _ (HT.out.below HX3.out.2.1) HX3.out.1).mono ?_
  rintro e X4 ⟨rfl, hb⟩
  have HX4 := Lib.hid (HX3.out.below hb)
  obtain ⟨-, -, y0, y1, y2⟩ := HX4.out
  have hz := cell_lt y0
  rw [F3.out]
  clear hb
  go_wp2_with fail
  clear y0 y1 y2 hz
  refine (draw_exp seed 2 1 s white _ (by decide) (by decide) (by omega)).mono ?_
  rintro e X5 ⟨rfl, rfl⟩
  rw [D2.out]
  go_wp2_with fail
  refine (awake_any _ (HT.out.below HX4.out.2.1)).mono ?_
  rintro e X5 ⟨rfl, hb⟩
  go_wp2
  go_ret
  exact ⟨rfl, HX4.out.2.1.trans (hb.mono HX4.out.2.1.size)⟩
end Go.Proofs.YtehjkmnamgafaaaDoor
