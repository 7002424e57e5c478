/- Stage 6 (steer): the law SteerGreatest: where it is awake alone. -/
import Derived.Test.YtiapimfmnmegpaaZpr
import Derived.Test.YtiapimfmnmegpaaZga
namespace Go.Proofs.Ytiapimfmnmegpaa.St
open Go Go.RowKit Go.Shelf
attribute [local go_sem] Oper.semAt_some
set_option maxRecDepth 100000 in
set_option maxHeartbeats 8000000 in
theorem greatest_awake (l r s z : Int) (p : Option Addr) (n c : Nat) (hno : planB l r s z = false ∨ 600 < sizP l r ∨ 2000 < n) (w : World) :
    Calls Try.prog 6 #[.agg #[.int .i64 l, .int .i64 r, .int .i64 s, .int .i64 z], .slice p n c] w fun e w' => e = .returned (.bool true) ∧ Below w.heap.size w w' := by
  cases hbg : bigB l r s z
  · cases hp : planB l r s z
    · obtain ⟨W0, hW0, g0, g1, hB0⟩ := law_start w l r s z
      have HX := Lib.hid (show ∀ X, Below W0.heap.size W0 X → PlC X w.heap.size l r s z ∧ PlC X (w.heap.size + 1) l r s z from fun X hX => ⟨(g0.below hX).c, (g1.below hX).c⟩)
      have HB0 := Lib.hid hB0
      have HBI := Lib.hid (fun W => big_any l r s z W)
      have HCK := Lib.hid (fun W => check_any l r s z W)
      have HAW := Lib.hid (fun W => awake_any W)
      rw [hbg] at HBI
      rw [show planE l r s z = 60 by unfold planE; simp [hp]] at HCK
      clear g0 g1 hB0 hbg hp hno
      go_enter Try.func6, Try.ntmps6
      go_upto_region 2 with fail
      clear hW0
      have HB := Lib.hid (Below.refl W0.heap.size W0)
      obtain ⟨⟨p0, p1, p2, p3⟩, ⟨q0, q1, q2, q3⟩⟩ := HX.out W0 (Below.refl _ _)
      have zp := cell_lt p0
      have zq := cell_lt q0
      go_wp2_with (first | (go_at_call 8; refine (HBI.out _).mono ?_; rintro e w1 ⟨rfl, hb1⟩; clear p0 p1 p2 p3 q0 q1 q2 q3 zp zq; have HB := Lib.hid (bt HB.out hb1); clear hb1; obtain ⟨⟨p0, p1, p2, p3⟩, ⟨q0, q1, q2, q3⟩⟩ := HX.out _ HB.out; have zp := cell_lt p0; have zq := cell_lt q0) | (go_at_call 15; refine (HCK.out _).mono ?_; rintro e w1 ⟨rfl, hb1⟩; clear p0 p1 p2 p3 q0 q1 q2 q3 zp zq; have HB := Lib.hid (bt HB.out hb1); clear hb1; obtain ⟨⟨p0, p1, p2, p3⟩, ⟨q0, q1, q2, q3⟩⟩ := HX.out _ HB.out; have zp := cell_lt p0; have zq := cell_lt q0) | (go_at_call 9; refine (HAW.out _).mono ?_; rintro e w9 ⟨rfl, hb9⟩; have HB9 := Lib.hid hb9; clear hb9))
      go_ret
      exact ⟨rfl, bt HB0.out (bt HB.out HB9.out)⟩
    · obtain ⟨W0, hW0, g0, g1, hB0⟩ := law_start w l r s z
      have HX := Lib.hid (show ∀ X, Below W0.heap.size W0 X → PlC X w.heap.size l r s z ∧ PlC X (w.heap.size + 1) l r s z from fun X hX => ⟨(g0.below hX).c, (g1.below hX).c⟩)
      have HB0 := Lib.hid hB0
      have HBI := Lib.hid (fun W => big_any l r s z W)
      have HCK := Lib.hid (fun W => check_any l r s z W)
      have HAW := Lib.hid (fun W => awake_any W)
      rw [hbg] at HBI
      rw [show planE l r s z = 0 by unfold planE; simp [hp]] at HCK
      have h := plan_ok hp
      have v6 : (2000 : Int) < (n : Int) := by
        rcases hno with h1 | h1 | h1
        · rw [hp] at h1; cases h1
        · unfold bigB at hbg; rw [hp] at hbg; simp at hbg; omega
        · omega
      obtain ⟨_, _, _, _, _, _, _, _⟩ := h
      have v7 : ¬ l < 0 := by omega
      have v8 : ¬ r < 0 := by omega
      clear g0 g1 hB0 hbg hp hno
      go_enter Try.func6, Try.ntmps6
      go_upto_region 2 with fail
      clear hW0
      have HB := Lib.hid (Below.refl W0.heap.size W0)
      obtain ⟨⟨p0, p1, p2, p3⟩, ⟨q0, q1, q2, q3⟩⟩ := HX.out W0 (Below.refl _ _)
      have zp := cell_lt p0
      have zq := cell_lt q0
      go_wp2_with (first | (go_at_call 8; refine (HBI.out _).mono ?_; rintro e w1 ⟨rfl, hb1⟩; clear p0 p1 p2 p3 q0 q1 q2 q3 zp zq; have HB := Lib.hid (bt HB.out hb1); clear hb1; obtain ⟨⟨p0, p1, p2, p3⟩, ⟨q0, q1, q2, q3⟩⟩ := HX.out _ HB.out; have zp := cell_lt p0; have zq := cell_lt q0) | (go_at_call 15; refine (HCK.out _).mono ?_; rintro e w1 ⟨rfl, hb1⟩; clear p0 p1 p2 p3 q0 q1 q2 q3 zp zq; have HB := Lib.hid (bt HB.out hb1); clear hb1; obtain ⟨⟨p0, p1, p2, p3⟩, ⟨q0, q1, q2, q3⟩⟩ := HX.out _ HB.out; have zp := cell_lt p0; have zq := cell_lt q0) | (go_at_call 9; refine (HAW.out _).mono ?_; rintro e w9 ⟨rfl, hb9⟩; have HB9 := Lib.hid hb9; clear hb9))
      go_ret
      exact ⟨rfl, bt HB0.out (bt HB.out HB9.out)⟩
  · obtain ⟨W0, hW0, g0, g1, hB0⟩ := law_start w l r s z
    have HX := Lib.hid (show ∀ X, Below W0.heap.size W0 X → PlC X w.heap.size l r s z ∧ PlC X (w.heap.size + 1) l r s z from fun X hX => ⟨(g0.below hX).c, (g1.below hX).c⟩)
    have HB0 := Lib.hid hB0
    have HBI := Lib.hid (fun W => big_any l r s z W)
    have HCK := Lib.hid (fun W => check_any l r s z W)
    have HAW := Lib.hid (fun W => awake_any W)
    rw [hbg] at HBI
    clear g0 g1 hB0 hbg hno
    go_enter Try.func6, Try.ntmps6
    go_upto_region 2 with fail
    clear hW0
    have HB := Lib.hid (Below.refl W0.heap.size W0)
    obtain ⟨⟨p0, p1, p2, p3⟩, ⟨q0, q1, q2, q3⟩⟩ := HX.out W0 (Below.refl _ _)
    have zp := cell_lt p0
    have zq := cell_lt q0
    go_wp2_with (first | (go_at_call 8; refine (HBI.out _).mono ?_; rintro e w1 ⟨rfl, hb1⟩; clear p0 p1 p2 p3 q0 q1 q2 q3 zp zq; have HB := Lib.hid (bt HB.out hb1); clear hb1; obtain ⟨⟨p0, p1, p2, p3⟩, ⟨q0, q1, q2, q3⟩⟩ := HX.out _ HB.out; have zp := cell_lt p0; have zq := cell_lt q0) | (go_at_call 9; refine (HAW.out _).mono ?_; rintro e w9 ⟨rfl, hb9⟩; have HB9 := Lib.hid hb9; clear hb9))
    go_ret
    exact ⟨rfl, bt HB0.out (bt HB.out HB9.out)⟩
end Go.Proofs.Ytiapimfmnmegpaa.St
