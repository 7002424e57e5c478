/- Layer 2, the reference (meridianref02): the small functions. -/
import Derived.Test.YtlelamjbfjneiaaHp
import Derived.Test.YtlelamjbfjneiaaTw
namespace Go.Proofs.Ytlelamjbfjneiaa.Ct
open Go Go.RowKit Go.Shelf
attribute [local go_sem] Oper.semAt_some
theorem mixA_turn (x y : Int) : IntKind.u64.wrap (IntKind.u64.wrap (y * 11400714819323198485) + x) = mixA x y := by unfold mixA; rw [Int.add_comm]
theorem rmix_any (x y : Int) (w : World) :
    Calls Try.prog 72 #[.int .u64 x, .int .u64 y] w fun e w' => e = .returned (.int .u64 (mixS x y)) ∧ w = w' := by
  have H := Lib.hid (mixA_turn x y)
  go_enter Try.func72, Try.ntmps72
  go_wp2
  go_ret
  refine ⟨?_, rfl⟩
  show Ending.returned (Value.int .u64 (mixC (mixB (IntKind.u64.wrap (IntKind.u64.wrap (y * 11400714819323198485) + x))))) = _
  rw [H.out]
  rfl
theorem rdraw_ok (sd ki cl ix mo : Int) (w : World) (h1 : 0 ≤ ki ∧ ki ≤ 9223372036854775807) (h2 : 0 ≤ cl ∧ cl ≤ 9223372036854775807) (h3 : 0 ≤ ix ∧ ix ≤ 9223372036854775807) (h4 : 0 ≤ mo ∧ mo ≤ 1000000000000000) :
    Calls Try.prog 52 #[.int .u64 sd, .int .i64 ki, .int .i64 cl, .int .i64 ix, .int .i64 mo] w fun e w' => e = .returned (.tuple #[.int .i64 (drawS (sourceS sd ki cl) ix mo), .int .i64 0]) ∧ w = w' := by
  obtain ⟨a1, a2⟩ := h1
  obtain ⟨c1, c2⟩ := h2
  obtain ⟨i1, i2⟩ := h3
  obtain ⟨m1, m2⟩ := h4
  have g1 := mixS_bd (mixS (mixS sd ki) cl) ix
  obtain ⟨g1, g2⟩ := g1
  have g3 : 0 ≤ mixS (mixS (mixS sd ki) cl) ix % (1 + 2 * mo) := Int.emod_nonneg _ (by omega)
  have g4 : mixS (mixS (mixS sd ki) cl) ix % (1 + 2 * mo) ≤ 2 * mo := by have := Int.emod_lt_of_pos (mixS (mixS (mixS sd ki) cl) ix) (show 0 < 1 + 2 * mo by omega); omega
  go_enter Try.func52, Try.ntmps52
  go_wp2_with (go_at_call 72; refine (rmix_any _ _ _).mono ?_; rintro e w' ⟨rfl, rfl⟩)
  go_ret2
  exact ⟨by unfold drawS sourceS; rw [Int.add_comm 1 (2 * mo)]; rfl, rfl⟩
theorem rmodulo_any (a b : Int) (w : World) (hb : 1 ≤ b ∧ b ≤ 9223372036854775807) :
    Calls Try.prog 53 #[.int .i64 a, .int .i64 b] w fun e w' => e = .returned (.int .i64 (a % b)) ∧ w = w' := by
  have hm := tmod_bd a b hb.1
  have hne : (b == 0) = false := by simp; omega
  have hnz : ¬ b = 0 := by omega
  have k2 : IntKind.i64.wrap (a.tmod b) = a.tmod b := IntWalk.i64_in _ (by omega)
  by_cases h : a.tmod b < 0
  · have H := Lib.hid (modulo_neg a b hb.1 h)
    have k3 : IntKind.i64.wrap (a.tmod b + b) = a.tmod b + b := IntWalk.i64_in _ (by omega)
    clear hm
    go_enter Try.func53, Try.ntmps53
    go_wp2
    go_ret
    exact ⟨ret_i64 H.out, rfl⟩
  · have H := Lib.hid (modulo_pos a b hb.1 h)
    clear hm
    go_enter Try.func53, Try.ntmps53
    go_wp2
    go_ret
    exact ⟨ret_i64 H.out, rfl⟩
theorem rmod_quiet (a b r : Int) (hb : 1 ≤ b ∧ b ≤ 9223372036854775807) (hr : a % b = r) (W : World) : Calls Try.prog 53 #[.int .i64 a, .int .i64 b] W fun e w' => e = .returned (.int .i64 r) ∧ w' = W :=
  (rmodulo_any a b W hb).mono fun _ _ ⟨h1, h2⟩ => ⟨by rw [h1, hr], h2.symm⟩
def rcObj (c : Cnt) : Obj := .cells #[.int .i64 c.f, .int .i64 c.o, .int .i64 c.j, .int .i64 c.g, .int .i64 c.r, .int .i64 c.d, .int .i64 c.i] 49
theorem RBox.new (X : World) (c : Cnt) : CBox (X.alloc (rcObj c)) X.heap.size c := by
  unfold rcObj
  exact ⟨by simp, by simp, by simp, by simp, by simp, by simp, by simp⟩
set_option maxRecDepth 100000 in
set_option maxHeartbeats 1000000 in
theorem rwrap_any (c : Cnt) (n : Int) (w : World) (h : CntIn c) (hn : -4000000000000000000 ≤ n ∧ n ≤ 4000000000000000000) :
    Calls Try.prog 50 #[cntVal c, .int .i64 n] w fun e w' => e = .returned (.int .i64 (wrapS c n)) ∧ Below w.heap.size w w' := by
  have hr := h.r
  have A0 := Lib.hid (below_alloc (Below.refl w.heap.size w) (rcObj c))
  obtain ⟨-, -, -, -, c4, -, -⟩ := RBox.new w c
  have hz := cell_lt c4
  have k1 : IntKind.i64.wrap (c.r.tdiv 2) = c.r / 2 := IntWalk.i64_quo c.r 2 (by omega)
  have k2 : IntKind.i64.wrap (n + c.r / 2) = n + c.r / 2 := IntWalk.i64_in _ (by omega)
  have hb := wrapS_bd h n
  have k3 : IntKind.i64.wrap ((n + c.r / 2) % c.r - c.r / 2) = wrapS c n := IntWalk.i64_in _ (by unfold wrapS at hb; omega)
  have HM := Lib.hid (rmod_quiet (n + c.r / 2) c.r _ (by omega) rfl)
  clear hb
  unfold rcObj at A0 c4 hz
  unfold cntVal
  go_enter Try.func50, Try.ntmps50
  go_wp2
  go_quiet ((go_at_call 53; exact Calls.quiet_of_same (HM.out _)))
  go_wp2
  go_ret
  exact ⟨rfl, below_drewN A0.out _⟩
theorem rfault_any (c : Cnt) (w : World) (h : CntIn c) :
    Calls Try.prog 54 #[cntVal c] w fun e w' => e = .returned (.int .i64 (faultS c)) ∧ Below w.heap.size w w' := by
  have hg := h.g
  have hj := h.j
  have A0 := Lib.hid (below_alloc (Below.refl w.heap.size w) (rcObj c))
  obtain ⟨-, -, c2, c3, -, -, -⟩ := RBox.new w c
  have hz := cell_lt c3
  have k1 : IntKind.i64.wrap (c.g.tdiv 2) = c.g / 2 := IntWalk.i64_quo c.g 2 (by omega)
  have k2 : IntKind.i64.wrap (c.j + c.g / 2) = faultS c := IntWalk.i64_in _ (by omega)
  unfold rcObj at A0 c2 c3 hz
  unfold cntVal
  go_enter Try.func54, Try.ntmps54
  go_wp2
  go_ret
  exact ⟨ret_i64 rfl, A0.out⟩
theorem down_eq (a b : Int) (hb : 1 ≤ b) : (a - a % b).tdiv b = a / b := by
  have h := Int.emod_add_mul_ediv a b
  have e : a - a % b = a / b * b := by have := Int.mul_comm (a / b) b; omega
  rw [e]
  exact Int.mul_tdiv_cancel _ (by omega)
theorem up_eq (a b : Int) (hb : 1 ≤ b) : (a + -a % b).tdiv b = ceilS a b := by
  have h := Int.emod_add_mul_ediv (-a) b
  have e : a + -a % b = ceilS a b * b := by
    unfold ceilS
    have : -(-a / b) * b = -(b * (-a / b)) := by rw [Int.neg_mul, Int.mul_comm]
    omega
  rw [e]
  exact Int.mul_tdiv_cancel _ (by omega)
theorem rdown_any (a b : Int) (w : World) (ha : -4000000000000000000 ≤ a ∧ a ≤ 4000000000000000000) (hb : 1 ≤ b ∧ b ≤ 1000000000000000) :
    Calls Try.prog 56 #[.int .i64 a, .int .i64 b] w fun e w' => e = .returned (.int .i64 (a / b)) ∧ w = w' := by
  have h1 := Int.emod_nonneg a (show b ≠ 0 by omega)
  have h2 := Int.emod_lt_of_pos a (show 0 < b by omega)
  have hq := floorS_bd a b 4000000000000000000 hb.1 ha
  have hne : (b == 0) = false := by simp; omega
  have hnz : ¬ b = 0 := by omega
  have k1 : IntKind.i64.wrap (a - a % b) = a - a % b := IntWalk.i64_in _ (by omega)
  have k2 : IntKind.i64.wrap ((a - a % b).tdiv b) = a / b := by rw [down_eq a b hb.1]; exact IntWalk.i64_in _ (by omega)
  have HM := Lib.hid (rmodulo_any a b w (by omega))
  clear h1 h2 hq
  go_enter Try.func56, Try.ntmps56
  go_wp2_with (go_at_call 53; refine HM.out.mono ?_; rintro e w' ⟨rfl, rfl⟩)
  go_ret
  exact ⟨rfl, rfl⟩
theorem rup_any (a b : Int) (w : World) (ha : -4000000000000000000 ≤ a ∧ a ≤ 4000000000000000000) (hb : 1 ≤ b ∧ b ≤ 1000000000000000) :
    Calls Try.prog 55 #[.int .i64 a, .int .i64 b] w fun e w' => e = .returned (.int .i64 (ceilS a b)) ∧ w = w' := by
  have h1 := Int.emod_nonneg (-a) (show b ≠ 0 by omega)
  have h2 := Int.emod_lt_of_pos (-a) (show 0 < b by omega)
  have hq := ceilS_bd a b 4000000000000000000 hb.1 ha
  have hne : (b == 0) = false := by simp; omega
  have hnz : ¬ b = 0 := by omega
  have k0 : IntKind.i64.wrap (-a) = -a := IntWalk.i64_in _ (by omega)
  have k1 : IntKind.i64.wrap (a + -a % b) = a + -a % b := IntWalk.i64_in _ (by omega)
  have k2 : IntKind.i64.wrap ((a + -a % b).tdiv b) = ceilS a b := by rw [up_eq a b hb.1]; exact IntWalk.i64_in _ (by omega)
  have HM := Lib.hid (rmodulo_any (-a) b w (by omega))
  clear h1 h2 hq
  go_enter Try.func55, Try.ntmps55
  go_wp2_with (go_at_call 53; refine HM.out.mono ?_; rintro e w' ⟨rfl, rfl⟩)
  go_ret
  exact ⟨rfl, rfl⟩
theorem rready_any (c : Cnt) (s : Int) (w : World) (h : CntIn c) :
    Calls Try.prog 51 #[cntVal c, .int .i64 s] w fun e w' => e = .returned (.bool (meetB c s)) ∧ Below w.heap.size w w' := by
  have hd := h.d
  have A0 := Lib.hid (below_alloc (Below.refl w.heap.size w) (rcObj c))
  obtain ⟨-, -, -, -, -, c5, -⟩ := RBox.new w c
  have hz := cell_lt c5
  have hne : (c.d == 0) = false := by simp; omega
  have hnz : ¬ c.d = 0 := by omega
  unfold rcObj at A0 c5 hz
  unfold cntVal
  by_cases h1 : 0 ≤ s
  · by_cases h2 : s ≤ 1000000
    · have H := Lib.hid (show (decide (s % c.d = 0)) = meetB c s by unfold meetB; simp [h1, h2])
      go_enter Try.func51, Try.ntmps51
      go_wp2
      go_ret
      refine ⟨?_, A0.out⟩
      rw [← H.out]
      first | rfl | simp
    · have H := Lib.hid (show meetB c s = false by unfold meetB; simp [h2])
      go_enter Try.func51, Try.ntmps51
      go_wp2
      go_ret
      exact ⟨by rw [H.out]; rfl, A0.out⟩
  · have H := Lib.hid (show meetB c s = false by unfold meetB; simp [h1])
    go_enter Try.func51, Try.ntmps51
    go_wp2
    go_ret
    exact ⟨by rw [H.out]; rfl, A0.out⟩
end Go.Proofs.Ytlelamjbfjneiaa.Ct
