/- The examples of the chapter hold. -/
import Derived.Test.YtemblamamgfodaaGreatDoorBa
import Derived.Test.YtemblamamgfodaaGreatDoorStX
import Derived.Test.YtemblamamgfodaaGreatDoorSv
namespace Go.Proofs.YtemblamamgfodaaGreatDoor
open Go Go.RowKit
theorem ex_a1 : allanE 1 [0, 1, 4, 9, 16] 1 = ⟨2, 1, 0⟩ := by kernel_rfl
theorem ex_a2 : allanE 1 [0, 1, 4, 9, 16] 2 = ⟨8, 1, 0⟩ := by kernel_rfl
theorem ex_fit : fitE 1 [0, 1, 1] = ⟨1, 6, 1, 2, 0⟩ := by kernel_rfl
theorem ex_find : medFind 5 3 5 2 = 2 := by kernel_rfl
theorem ex_part : partB 3 5 = true := by kernel_rfl
theorem ex_m : mN 5 2 = 5 ∧ mD 5 2 = 8 := ⟨by kernel_rfl, by kernel_rfl⟩
theorem ex_sort : sortL [9, 3, 7, 1, 5] = [1, 3, 5, 7, 9] := by simp [sortL, List.mergeSort, List.MergeSort.Internal.splitInTwo, List.splitAt, List.splitAt.go]
theorem ex_x : lowN (exN [5, 6, 1, 2] 2) (exS 4 2 0) = 1 ∧ lowD (exN [5, 6, 1, 2] 2) (exS 4 2 0) = 6 := ⟨by kernel_rfl, by kernel_rfl⟩
theorem ints_new (X : World) (l : List Int) (t : TypeId) : IntsAt (X.alloc (.cells (l.map (Value.int .i64)).toArray t)) l X.heap.size 0 := by
  intro i hi
  simp [hi]
theorem atL_all {P : Int → Prop} {l : List Int} (h0 : P 0) (h : ∀ x ∈ l, P x) (i : Nat) : P (atL l i) := by
  unfold atL
  cases e : l[i]? with
  | none => exact h0
  | some x => exact h x (List.mem_of_getElem? e)
/-- four numbers that lie in a box -/
def Quad (X : World) (b : Nat) (x y z u : Int) : Prop := (X.cell? ⟨b, 0, none⟩ = some (.int .i64 x) ∧ X.cell? ⟨b, 1, none⟩ = some (.int .i64 y)) ∧ X.cell? ⟨b, 2, none⟩ = some (.int .i64 z) ∧ X.cell? ⟨b, 3, none⟩ = some (.int .i64 u)
theorem Quad.below {X Y : World} {b : Nat} {x y z u : Int} (h : Quad X b x y z u) (hb : Below X.heap.size X Y) : Quad Y b x y z u := ⟨⟨cell_below hb h.1.1, cell_below hb h.1.2⟩, cell_below hb h.2.1, cell_below hb h.2.2⟩
theorem quad_new (X : World) (x y z u : Int) (t : TypeId) : Quad (X.alloc (.cells #[.int .i64 x, .int .i64 y, .int .i64 z, .int .i64 u] t)) X.heap.size x y z u := ⟨⟨by simp, by simp⟩, by simp, by simp⟩
set_option maxRecDepth 100000 in
set_option maxHeartbeats 2000000 in
theorem awake_any (w : World) : Calls Tryz.prog 13 #[] w fun e w' => e = .returned (.bool true) ∧ Below w.heap.size w w' := by
  have s0 : Hid (SerIn ((w.alloc (.cells #[.int .i64 0, .int .i64 1, .int .i64 4, .int .i64 9, .int .i64 16] 3)).alloc (.cells #[.int .i64 1, .slice (some ⟨w.heap.size, 0, none⟩) 5 5] 56)) [0, 1, 4, 9, 16] (some ⟨w.heap.size, 0, none⟩)) :=
    Lib.hid ⟨by simp [maxLen], .inr ⟨_, _, rfl, (ints_new w [0, 1, 4, 9, 16] 3).below (below_alloc (Below.refl _ _) _)⟩⟩
  have A0 : Hid (Below w.heap.size w ((w.alloc (.cells #[.int .i64 0, .int .i64 1, .int .i64 4, .int .i64 9, .int .i64 16] 3)).alloc (.cells #[.int .i64 1, .slice (some ⟨w.heap.size, 0, none⟩) 5 5] 56))) := Lib.hid (below_alloc (below_alloc (Below.refl _ _) _) _)
  have x0 : Hid (((w.alloc (.cells #[.int .i64 0, .int .i64 1, .int .i64 4, .int .i64 9, .int .i64 16] 3)).alloc (.cells #[.int .i64 1, .slice (some ⟨w.heap.size, 0, none⟩) 5 5] 56)).cell? ⟨w.heap.size + 1, 0, none⟩ = some (.int .i64 1)) := Lib.hid (by simp)
  have x1 : Hid (((w.alloc (.cells #[.int .i64 0, .int .i64 1, .int .i64 4, .int .i64 9, .int .i64 16] 3)).alloc (.cells #[.int .i64 1, .slice (some ⟨w.heap.size, 0, none⟩) 5 5] 56)).cell? ⟨w.heap.size + 1, 1, none⟩ = some (.slice (some ⟨w.heap.size, 0, none⟩) 5 5)) := Lib.hid (by simp)
  go_enter Tryz.func13, Tryz.ntmps13
  go_wp2_with fail
  generalize (w.alloc (.cells #[.int .i64 0, .int .i64 1, .int .i64 4, .int .i64 9, .int .i64 16] 3)).alloc (.cells #[.int .i64 1, .slice (some ⟨w.heap.size, 0, none⟩) 5 5] 56) = W0 at *
  refine (allan_any 1 [0, 1, 4, 9, 16] (some ⟨w.heap.size, 0, none⟩) 5 1 _ s0.out).mono ?_
  rintro e w1 ⟨rfl, hb1⟩
  rw [ex_a1]
  unfold varVal
  dsimp only
  have A1 := Lib.hid (A0.out.trans (hb1.mono A0.out.size))
  have s1 := Lib.hid (s0.out.below hb1)
  have y0 := cell_below hb1 x0.out
  have y1 := cell_below hb1 x1.out
  have hz := cell_lt y0
  clear hb1 s0 x0 x1
  go_wp2_with fail
  have p1 := Lib.hid (two_new w1 2 1 58)
  have hbx : Below w1.heap.size w1 (w1.alloc (.cells #[.int .i64 2, .int .i64 1] 58)) := below_alloc (Below.refl _ _) _
  have A2 := Lib.hid (A1.out.trans (hbx.mono A1.out.size))
  have s2 := Lib.hid (s1.out.below hbx)
  clear hbx y0 y1 hz A1 s1
  generalize w1.alloc (.cells #[.int .i64 2, .int .i64 1] 58) = W1 at *
  refine (allan_any 1 [0, 1, 4, 9, 16] (some ⟨w.heap.size, 0, none⟩) 5 2 _ s2.out).mono ?_
  rintro e w2 ⟨rfl, hb2⟩
  rw [ex_a2]
  unfold varVal
  dsimp only
  have A3 := Lib.hid (A2.out.trans (hb2.mono A2.out.size))
  have p2 := Lib.hid (p1.out.below hb2)
  clear hb2 A2 p1 s2
  go_wp2_with fail
  have q2 := Lib.hid (two_new w2 8 1 58)
  have b2 : Below w2.heap.size w2 (w2.alloc (.cells #[.int .i64 8, .int .i64 1] 58)) := below_alloc (Below.refl _ _) _
  have b3 : Below (w2.alloc (.cells #[.int .i64 8, .int .i64 1] 58)).heap.size (w2.alloc (.cells #[.int .i64 8, .int .i64 1] 58)) ((w2.alloc (.cells #[.int .i64 8, .int .i64 1] 58)).alloc (.cells #[.int .i64 0, .int .i64 1, .int .i64 1] 3)) := below_alloc (Below.refl _ _) _
  have s3 : Hid (SerIn ((w2.alloc (.cells #[.int .i64 8, .int .i64 1] 58)).alloc (.cells #[.int .i64 0, .int .i64 1, .int .i64 1] 3)) [0, 1, 1] (some ⟨w2.heap.size + 1, 0, none⟩)) := Lib.hid ⟨by simp [maxLen], .inr ⟨_, _, rfl, by have := ints_new (w2.alloc (.cells #[.int .i64 8, .int .i64 1] 58)) [0, 1, 1] 3; simpa using this⟩⟩
  have A4 := Lib.hid ((A3.out.trans (b2.mono A3.out.size)).trans (b3.mono (A3.out.trans (b2.mono A3.out.size)).size))
  have p3 := Lib.hid ((p2.out.below b2).below b3)
  have q3 := Lib.hid (q2.out.below b3)
  clear b2 b3 A3 p2 q2
  generalize (w2.alloc (.cells #[.int .i64 8, .int .i64 1] 58)).alloc (.cells #[.int .i64 0, .int .i64 1, .int .i64 1] 3) = W3 at *
  refine (fit_any 1 [0, 1, 1] (some ⟨w2.heap.size + 1, 0, none⟩) 3 _ s3.out).mono ?_
  rintro e w4 ⟨rfl, hb4⟩
  rw [ex_fit]
  unfold lineVal
  dsimp only
  have A5 := Lib.hid (A4.out.trans (hb4.mono A4.out.size))
  have p4 := Lib.hid (p3.out.below hb4)
  have q4 := Lib.hid (q3.out.below hb4)
  clear hb4 A4 p3 q3 s3
  go_wp2_with fail
  have l4 := Lib.hid (quad_new w4 1 6 1 2 119)
  have b4 : Below w4.heap.size w4 (w4.alloc (.cells #[.int .i64 1, .int .i64 6, .int .i64 1, .int .i64 2] 119)) := below_alloc (Below.refl _ _) _
  have b5 : Below (w4.alloc (.cells #[.int .i64 1, .int .i64 6, .int .i64 1, .int .i64 2] 119)).heap.size (w4.alloc (.cells #[.int .i64 1, .int .i64 6, .int .i64 1, .int .i64 2] 119)) ((w4.alloc (.cells #[.int .i64 1, .int .i64 6, .int .i64 1, .int .i64 2] 119)).alloc (.cells #[.int .i64 9, .int .i64 3, .int .i64 7, .int .i64 1, .int .i64 5] 3)) := below_alloc (Below.refl _ _) _
  have i5 : Hid (IntsAt ((w4.alloc (.cells #[.int .i64 1, .int .i64 6, .int .i64 1, .int .i64 2] 119)).alloc (.cells #[.int .i64 9, .int .i64 3, .int .i64 7, .int .i64 1, .int .i64 5] 3)) [9, 3, 7, 1, 5] (w4.heap.size + 1) 0) := Lib.hid (by have := ints_new (w4.alloc (.cells #[.int .i64 1, .int .i64 6, .int .i64 1, .int .i64 2] 119)) [9, 3, 7, 1, 5] 3; simpa using this)
  have A6 := Lib.hid ((A5.out.trans (b4.mono A5.out.size)).trans (b5.mono (A5.out.trans (b4.mono A5.out.size)).size))
  have p5 := Lib.hid ((p4.out.below b4).below b5)
  have q5 := Lib.hid ((q4.out.below b4).below b5)
  have l5 := Lib.hid (l4.out.below b5)
  clear b4 b5 A5 p4 q4 l4
  generalize (w4.alloc (.cells #[.int .i64 1, .int .i64 6, .int .i64 1, .int .i64 2] 119)).alloc (.cells #[.int .i64 9, .int .i64 3, .int .i64 7, .int .i64 1, .int .i64 5] 3) = W5 at *
  refine (median_ok [9, 3, 7, 1, 5] (w4.heap.size + 1) 0 5 3 5 _ (by decide) i5.out (by unfold I64; decide) (by unfold I64; decide) ex_part).mono ?_
  rintro e w6 ⟨rfl, hb6⟩
  rw [show ([9, 3, 7, 1, 5] : List Int).length = 5 from rfl, show 5 / 2 = 2 from rfl, ex_find, if_neg (by decide), ex_sort, ex_m.1, ex_m.2]
  simp only [atL, List.getElem?_cons_zero, List.getElem?_cons_succ, Option.getD_some, Nat.reduceSub]
  have A7 := Lib.hid (A6.out.trans (hb6.mono A6.out.size))
  have p6 := Lib.hid (p5.out.below hb6)
  have q6 := Lib.hid (q5.out.below hb6)
  have l6 := Lib.hid (l5.out.below hb6)
  clear hb6 A6 p5 q5 l5 i5
  go_wp2_with fail
  have c6 := Lib.hid (quad_new w6 3 7 5 8 123)
  have b6 : Below w6.heap.size w6 (w6.alloc (.cells #[.int .i64 3, .int .i64 7, .int .i64 5, .int .i64 8] 123)) := below_alloc (Below.refl _ _) _
  have b7 : Below (w6.alloc (.cells #[.int .i64 3, .int .i64 7, .int .i64 5, .int .i64 8] 123)).heap.size (w6.alloc (.cells #[.int .i64 3, .int .i64 7, .int .i64 5, .int .i64 8] 123)) ((w6.alloc (.cells #[.int .i64 3, .int .i64 7, .int .i64 5, .int .i64 8] 123)).alloc (.cells #[.int .i64 5, .int .i64 6] 3)) := below_alloc (Below.refl _ _) _
  have b8 : Below ((w6.alloc (.cells #[.int .i64 3, .int .i64 7, .int .i64 5, .int .i64 8] 123)).alloc (.cells #[.int .i64 5, .int .i64 6] 3)).heap.size ((w6.alloc (.cells #[.int .i64 3, .int .i64 7, .int .i64 5, .int .i64 8] 123)).alloc (.cells #[.int .i64 5, .int .i64 6] 3)) (((w6.alloc (.cells #[.int .i64 3, .int .i64 7, .int .i64 5, .int .i64 8] 123)).alloc (.cells #[.int .i64 5, .int .i64 6] 3)).alloc (.cells #[.int .i64 1, .int .i64 2] 3)) := below_alloc (Below.refl _ _) _
  have i7 : Hid (IntsAt (((w6.alloc (.cells #[.int .i64 3, .int .i64 7, .int .i64 5, .int .i64 8] 123)).alloc (.cells #[.int .i64 5, .int .i64 6] 3)).alloc (.cells #[.int .i64 1, .int .i64 2] 3)) [5, 6] (w6.heap.size + 1) 0) := Lib.hid (IntsAt.below (w := ((w6.alloc (.cells #[.int .i64 3, .int .i64 7, .int .i64 5, .int .i64 8] 123)).alloc (.cells #[.int .i64 5, .int .i64 6] 3))) (by have := ints_new (w6.alloc (.cells #[.int .i64 3, .int .i64 7, .int .i64 5, .int .i64 8] 123)) [5, 6] 3; simpa using this) b8)
  have i8 : Hid (IntsAt (((w6.alloc (.cells #[.int .i64 3, .int .i64 7, .int .i64 5, .int .i64 8] 123)).alloc (.cells #[.int .i64 5, .int .i64 6] 3)).alloc (.cells #[.int .i64 1, .int .i64 2] 3)) [1, 2] (w6.heap.size + 1 + 1) 0) := Lib.hid (by have := ints_new ((w6.alloc (.cells #[.int .i64 3, .int .i64 7, .int .i64 5, .int .i64 8] 123)).alloc (.cells #[.int .i64 5, .int .i64 6] 3)) [1, 2] 3; simpa using this)
  have b9 : Below w6.heap.size w6 (((w6.alloc (.cells #[.int .i64 3, .int .i64 7, .int .i64 5, .int .i64 8] 123)).alloc (.cells #[.int .i64 5, .int .i64 6] 3)).alloc (.cells #[.int .i64 1, .int .i64 2] 3)) := below_alloc (below_alloc b6 _) _
  have A8 := Lib.hid (A7.out.trans (b9.mono A7.out.size))
  have p7 := Lib.hid (p6.out.below b9)
  have q7 := Lib.hid (q6.out.below b9)
  have l7 := Lib.hid (l6.out.below b9)
  have c7 := Lib.hid ((c6.out.below b7).below b8)
  clear b6 b7 b8 b9 A7 p6 q6 l6 c6
  generalize (((w6.alloc (.cells #[.int .i64 3, .int .i64 7, .int .i64 5, .int .i64 8] 123)).alloc (.cells #[.int .i64 5, .int .i64 6] 3)).alloc (.cells #[.int .i64 1, .int .i64 2] 3)) = W7 at *
  refine (Exchange_ok (w6.heap.size + 1) 0 2 (w6.heap.size + 1 + 1) 0 2 [5, 6] [1, 2] _ (by decide) (by decide) (by decide) i7.out i8.out (atL_all (P := fun x => -1000000000000 ≤ x ∧ x ≤ 1000000000000) (l := [5, 6] ++ [1, 2]) (by decide) (by decide))).mono ?_
  rintro e w8 ⟨rfl, hb8⟩
  rw [show lowN (exN ([5, 6] ++ [1, 2]) ([5, 6] : List Int).length) (exS ([5, 6] ++ [1, 2] : List Int).length ([5, 6] : List Int).length 0) = 1 from ex_x.1, show lowD (exN ([5, 6] ++ [1, 2]) ([5, 6] : List Int).length) (exS ([5, 6] ++ [1, 2] : List Int).length ([5, 6] : List Int).length 0) = 6 from ex_x.2]
  have A9 := Lib.hid (below_alloc (A8.out.trans (hb8.mono A8.out.size)) (.cells #[.int .i64 1, .int .i64 6] 58))
  obtain ⟨p0, p1⟩ := p7.out.below hb8
  obtain ⟨q0, q1⟩ := q7.out.below hb8
  obtain ⟨⟨l0, l1⟩, l2, l3⟩ := l7.out.below hb8
  obtain ⟨⟨c0, c1⟩, c2, c3⟩ := c7.out.below hb8
  have z1 := cell_lt p0
  have z2 := cell_lt q0
  have z3 := cell_lt l0
  have z4 := cell_lt c0
  clear hb8 A8 p7 q7 l7 c7 i7 i8
  go_wp2
  go_ret
  exact ⟨rfl, A9.out⟩
end Go.Proofs.YtemblamamgfodaaGreatDoor
