/- Stage 6 (steer): helpers of the statements: Pick, the reference's Check, big. (by gen_zlk.py) -/
import Derived.Test.YtiapimfmnmegpaaZgm
namespace Go.Proofs.Ytiapimfmnmegpaa.St
open Go Go.RowKit Go.Shelf
attribute [local go_sem] Oper.semAt_some
theorem tmod_bd (a b : Int) (hb : 1 ≤ b) : -b < a.tmod b ∧ a.tmod b < b := by
  have h1 := Int.natAbs_tmod a b
  have h2 := Nat.mod_lt a.natAbs (show 0 < b.natAbs by omega)
  omega
theorem modulo_neg (a b : Int) (hb : 1 ≤ b) (h : a.tmod b < 0) : a.tmod b + b = a % b := by
  have h1 := Int.tmod_add_mul_tdiv a b
  have h2 := tmod_bd a b hb
  have h3 := Int.emod_add_mul_ediv a b
  have h4 := Int.emod_nonneg a (show b ≠ 0 by omega)
  have h5 := Int.emod_lt_of_pos a (show 0 < b by omega)
  have h6 : (a.tdiv b - 1 - a / b) * b = a % b - (a.tmod b + b) := by rw [Int.sub_mul, Int.sub_mul]; grind
  have h7 : a.tdiv b - 1 - a / b = 0 := by
    by_cases e : a.tdiv b - 1 - a / b = 0
    · exact e
    · rcases Int.lt_or_gt_of_ne e with e | e
      · have := Int.mul_le_mul_of_nonneg_right (show a.tdiv b - 1 - a / b ≤ -1 by omega) (show 0 ≤ b by omega)
        omega
      · have := Int.mul_le_mul_of_nonneg_right (show 1 ≤ a.tdiv b - 1 - a / b by omega) (show 0 ≤ b by omega)
        omega
  rw [h7] at h6
  omega
theorem modulo_pos (a b : Int) (hb : 1 ≤ b) (h : ¬ a.tmod b < 0) : a.tmod b = a % b := by
  have h1 := Int.tmod_add_mul_tdiv a b
  have h2 := tmod_bd a b hb
  have h3 := Int.emod_add_mul_ediv a b
  have h4 := Int.emod_nonneg a (show b ≠ 0 by omega)
  have h5 := Int.emod_lt_of_pos a (show 0 < b by omega)
  have h6 : (a.tdiv b - a / b) * b = a % b - a.tmod b := by rw [Int.sub_mul]; grind
  have h7 : a.tdiv b - a / b = 0 := by
    by_cases e : a.tdiv b - a / b = 0
    · exact e
    · rcases Int.lt_or_gt_of_ne e with e | e
      · have := Int.mul_le_mul_of_nonneg_right (show a.tdiv b - a / b ≤ -1 by omega) (show 0 ≤ b by omega)
        omega
      · have := Int.mul_le_mul_of_nonneg_right (show 1 ≤ a.tdiv b - a / b by omega) (show 0 ≤ b by omega)
        omega
  rw [h7] at h6
  omega
theorem pick_any (a b : Int) (w : World) (hb : 1 ≤ b ∧ b ≤ 9223372036854775807) :
    Calls Try.prog 22 #[.int .i64 a, .int .i64 b] w fun e w' => e = .returned (.int .i64 (a % b)) ∧ w = w' := by
  have hm := tmod_bd a b hb.1
  have hlt : ¬ b < 1 := by omega
  have hne : (b == 0) = false := by simp; omega
  have hnz : ¬ b = 0 := by omega
  have k2 : IntKind.i64.wrap (a.tmod b) = a.tmod b := IntWalk.i64_in _ (by omega)
  by_cases h : a.tmod b < 0
  · have H := Lib.hid (modulo_neg a b hb.1 h)
    have k3 : IntKind.i64.wrap (a.tmod b + b) = a.tmod b + b := IntWalk.i64_in _ (by omega)
    clear hm
    go_enter Try.func22, Try.ntmps22
    go_wp2
    go_ret
    exact ⟨ret_i64 H.out, rfl⟩
  · have H := Lib.hid (modulo_pos a b hb.1 h)
    clear hm
    go_enter Try.func22, Try.ntmps22
    go_wp2
    go_ret
    exact ⟨ret_i64 H.out, rfl⟩
set_option maxRecDepth 100000 in
theorem rcheck_any (l r s z : Int) (w : World) :
    Calls Try.prog 16 #[.agg #[.int .i64 l, .int .i64 r, .int .i64 s, .int .i64 z]] w fun e w' => e = .returned (.int .i64 (planE l r s z)) ∧ Below w.heap.size w w' := by
  have A0 := Lib.hid (below_alloc (Below.refl w.heap.size w) (.cells #[.int .i64 l, .int .i64 r, .int .i64 s, .int .i64 z] 23))
  by_cases h0 : l < 1
  · have HV := Lib.hid (show planE l r s z = 60 by unfold planE planB; rw [if_neg]; simp only [Bool.and_eq_true, decide_eq_true_eq]; omega)
    rw [HV.out]
    go_enter Try.func16, Try.ntmps16
    go_wp2
    go_ret
    exact ⟨rfl, A0.out⟩
  · skip
    by_cases h1 : 40 < l
    · have HV := Lib.hid (show planE l r s z = 60 by unfold planE planB; rw [if_neg]; simp only [Bool.and_eq_true, decide_eq_true_eq]; omega)
      rw [HV.out]
      go_enter Try.func16, Try.ntmps16
      go_wp2
      go_ret
      exact ⟨rfl, A0.out⟩
    · skip
      by_cases h2 : r < 0
      · have HV := Lib.hid (show planE l r s z = 60 by unfold planE planB; rw [if_neg]; simp only [Bool.and_eq_true, decide_eq_true_eq]; omega)
        rw [HV.out]
        go_enter Try.func16, Try.ntmps16
        go_wp2
        go_ret
        exact ⟨rfl, A0.out⟩
      · skip
        by_cases h3 : 12 < r
        · have HV := Lib.hid (show planE l r s z = 60 by unfold planE planB; rw [if_neg]; simp only [Bool.and_eq_true, decide_eq_true_eq]; omega)
          rw [HV.out]
          go_enter Try.func16, Try.ntmps16
          go_wp2
          go_ret
          exact ⟨rfl, A0.out⟩
        · skip
          by_cases h4 : s < 1
          · have HV := Lib.hid (show planE l r s z = 60 by unfold planE planB; rw [if_neg]; simp only [Bool.and_eq_true, decide_eq_true_eq]; omega)
            rw [HV.out]
            go_enter Try.func16, Try.ntmps16
            go_wp2
            go_ret
            exact ⟨rfl, A0.out⟩
          · skip
            by_cases h5 : 24 < s
            · have HV := Lib.hid (show planE l r s z = 60 by unfold planE planB; rw [if_neg]; simp only [Bool.and_eq_true, decide_eq_true_eq]; omega)
              rw [HV.out]
              go_enter Try.func16, Try.ntmps16
              go_wp2
              go_ret
              exact ⟨rfl, A0.out⟩
            · skip
              by_cases h6 : z < 0
              · have HV := Lib.hid (show planE l r s z = 60 by unfold planE planB; rw [if_neg]; simp only [Bool.and_eq_true, decide_eq_true_eq]; omega)
                rw [HV.out]
                go_enter Try.func16, Try.ntmps16
                go_wp2
                go_ret
                exact ⟨rfl, A0.out⟩
              · skip
                by_cases h7 : 12 < z
                · have HV := Lib.hid (show planE l r s z = 60 by unfold planE planB; rw [if_neg]; simp only [Bool.and_eq_true, decide_eq_true_eq]; omega)
                  rw [HV.out]
                  go_enter Try.func16, Try.ntmps16
                  go_wp2
                  go_ret
                  exact ⟨rfl, A0.out⟩
                · skip
                  have HV := Lib.hid (show planE l r s z = 0 by unfold planE planB; rw [if_pos]; simp only [Bool.and_eq_true, decide_eq_true_eq]; omega)
                  rw [HV.out]
                  go_enter Try.func16, Try.ntmps16
                  go_wp2
                  go_ret
                  exact ⟨rfl, A0.out⟩
def bigB (l r s z : Int) : Bool := planB l r s z && decide (600 < sizP l r)
theorem big_any (l r s z : Int) (w : World) :
    Calls Try.prog 8 #[.agg #[.int .i64 l, .int .i64 r, .int .i64 s, .int .i64 z]] w fun e w' => e = .returned (.bool (bigB l r s z)) ∧ Below w.heap.size w w' := by
  have A0 := Lib.hid (below_alloc (Below.refl w.heap.size w) (.cells #[.int .i64 l, .int .i64 r, .int .i64 s, .int .i64 z] 23))
  have HC := Lib.hid (fun W => rcheck_any l r s z W)
  have k1 : (w.alloc (.cells #[.int .i64 l, .int .i64 r, .int .i64 s, .int .i64 z] 23)).heap[w.heap.size]? = some (.cells #[.int .i64 l, .int .i64 r, .int .i64 s, .int .i64 z] 23) := World.alloc_heap_new w _
  cases hp : planB l r s z
  · have HV := Lib.hid (show bigB l r s z = false by unfold bigB; rw [hp]; rfl)
    have hE : planE l r s z = 60 := by unfold planE; simp [hp]
    rw [hE] at HC
    rw [HV.out]
    clear hp hE k1
    go_enter Try.func8, Try.ntmps8
    go_wp2_with (go_at_call 16; refine (HC.out _).mono ?_; rintro e w1 ⟨rfl, hb1⟩; have HB1 := Lib.hid hb1; clear hb1)
    go_ret
    exact ⟨rfl, bt A0.out HB1.out⟩
  · have HV := Lib.hid (show bigB l r s z = decide (600 < sizP l r) by unfold bigB; rw [hp]; rfl)
    have hE : planE l r s z = 0 := by unfold planE; simp [hp]
    rw [hE] at HC
    rw [HV.out]
    have h := plan_ok hp
    have hb := siz_bd h
    have hS := Lib.hid (show sizP l r = (2 * l + 1) * (2 * r + 1) from rfl)
    have v5 : IntKind.i64.wrap ((2 * l + 1) * (2 * r + 1)) = (2 * l + 1) * (2 * r + 1) := by rw [← hS.out]; exact IntWalk.i64_in _ (by omega)
    obtain ⟨_, _, _, _, _, _, _, _⟩ := h
    have v1 : IntKind.i64.wrap (2 * l) = 2 * l := IntWalk.i64_in _ (by omega)
    have v2 : IntKind.i64.wrap (2 * l + 1) = 2 * l + 1 := IntWalk.i64_in _ (by omega)
    have v3 : IntKind.i64.wrap (2 * r) = 2 * r := IntWalk.i64_in _ (by omega)
    have v4 : IntKind.i64.wrap (2 * r + 1) = 2 * r + 1 := IntWalk.i64_in _ (by omega)
    rw [hS.out]
    clear hp hE hb
    go_enter Try.func8, Try.ntmps8
    go_upto_region 1 with fail
    have HK := Lib.hid k1
    clear k1
    generalize w.alloc (.cells #[.int .i64 l, .int .i64 r, .int .i64 s, .int .i64 z] 23) = W1 at *
    have x0 : W1.cell? ⟨w.heap.size, 0, none⟩ = some (.int .i64 l) := by simp [World.cell?, HK.out]
    have x1 : W1.cell? ⟨w.heap.size, 1, none⟩ = some (.int .i64 r) := by simp [World.cell?, HK.out]
    have x2 : W1.cell? ⟨w.heap.size, 2, none⟩ = some (.int .i64 s) := by simp [World.cell?, HK.out]
    have x3 : W1.cell? ⟨w.heap.size, 3, none⟩ = some (.int .i64 z) := by simp [World.cell?, HK.out]
    have zx := cell_lt x0
    go_wp2_with (go_at_call 16; refine (HC.out _).mono ?_; rintro e w1 ⟨rfl, hb1⟩; have HB1 := Lib.hid hb1; have y0 := cell_below hb1 x0; have y1 := cell_below hb1 x1; have zy := cell_lt y0; clear hb1 x0 x1 x2 x3 zx)
    go_ret
    exact ⟨rfl, bt A0.out HB1.out⟩
end Go.Proofs.Ytiapimfmnmegpaa.St
