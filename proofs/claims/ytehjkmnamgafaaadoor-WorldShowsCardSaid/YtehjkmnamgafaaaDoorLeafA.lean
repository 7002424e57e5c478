/- Contracts of the small functions of package world: numbers in, numbers out. -/
import Derived.Test.YtehjkmnamgafaaaDoorProg
import Derived.Test.YtehjkmnamgafaaaDoorPlain
import Derived.Handy
import Derived.Lib.Hide
import Derived.WalkSmall
import Derived.Deep.QuietTactic
import Derived.BigQuiet
import Derived.Outline
namespace Go.Proofs.YtehjkmnamgafaaaDoor
open Go Go.RowKit

theorem ret_u64 {a b : Int} (h : a = b) : Ending.returned (.int .u64 a) = .returned (.int .u64 b) := by rw [h]
theorem ret_i64 {a b : Int} (h : a = b) : Ending.returned (.int .i64 a) = .returned (.int .i64 b) := by rw [h]
theorem ret_bool {a b : Bool} (h : a = b) : Ending.returned (.bool a) = .returned (.bool b) := by rw [h]

theorem mix_any (x y : Int) (w : World) :
    Calls Tryd.prog 37 #[.int .u64 x, .int .u64 y] w fun e w' => e = .returned (.int .u64 (mixS x y)) ∧ w = w' := by
  go_enter Tryd.func37, Tryd.ntmps37
  go_wp2
  go_ret
  exact ⟨rfl, rfl⟩
theorem rmix_any (x y : Int) (w : World) :
    Calls Tryd.prog 38 #[.int .u64 x, .int .u64 y] w fun e w' => e = .returned (.int .u64 (mixS x y)) ∧ w = w' := by
  have h := mixA_comm x y
  have H := Lib.hid h; clear h
  go_enter Tryd.func38, Tryd.ntmps38
  go_wp2
  go_ret
  refine ⟨ret_u64 ?_, rfl⟩
  simp only [mixS, mixC, mixB, ← H.out]
theorem source_any (s k c : Int) (w : World) (hk : 0 ≤ k) (hk' : k ≤ 9223372036854775807) (hc : 0 ≤ c) (hc' : c ≤ 9223372036854775807) :
    Calls Tryd.prog 83 #[.int .u64 s, .int .i64 k, .int .i64 c] w fun e w' => e = .returned (.int .u64 (sourceS s k c)) ∧ w = w' := by
  go_enter Tryd.func83, Tryd.ntmps83
  go_wp2_with (go_at_call 37; refine (mix_any _ _ _).mono ?_; rintro e w' ⟨rfl, rfl⟩)
  go_ret
  exact ⟨rfl, rfl⟩
theorem draw_any (s i m : Int) (w : World) (hi : 0 ≤ i) (hi' : i ≤ 9223372036854775807) (hm : 0 ≤ m) (hm' : m ≤ 1000000000000000) :
    Calls Tryd.prog 82 #[.int .u64 s, .int .i64 i, .int .i64 m] w fun e w' => e = .returned (.int .i64 (drawS s i m)) ∧ w = w' := by
  have g1 := mixS_lo s i
  have g2 := mixS_hi s i
  have g3 : 0 ≤ mixS s i % (2 * m + 1) := Int.emod_nonneg (mixS s i) (by omega)
  have g4 : mixS s i % (2 * m + 1) ≤ 2 * m := by have := Int.emod_lt_of_pos (mixS s i) (show 0 < 2 * m + 1 by omega); omega
  go_enter Tryd.func82, Tryd.ntmps82
  go_wp2_with (go_at_call 37; refine (mix_any _ _ _).mono ?_; rintro e w' ⟨rfl, rfl⟩)
  go_ret
  exact ⟨rfl, rfl⟩
theorem within_any (n lo hi : Int) (w : World) :
    Calls Tryd.prog 52 #[.int .i64 n, .int .i64 lo, .int .i64 hi] w fun e w' => e = .returned (.bool (inR n lo hi)) ∧ w = w' := by
  by_cases h : lo ≤ n
  · go_enter Tryd.func52, Tryd.ntmps52
    go_wp2
    go_ret
    exact ⟨ret_bool (inR_ge (by assumption)), rfl⟩
  · go_enter Tryd.func52, Tryd.ntmps52
    go_wp2
    go_ret
    exact ⟨ret_bool (inR_lt (by assumption)), rfl⟩
theorem isIndex_any (n k : Int) (w : World) (h0 : 0 ≤ k) (h1 : k ≤ 9223372036854775807) :
    Calls Tryd.prog 46 #[.int .i64 n, .int .i64 k] w fun e w' => e = .returned (.bool (inR n 0 (k - 1))) ∧ w = w' := by
  go_enter Tryd.func46, Tryd.ntmps46
  go_wp2_with (go_at_call 52; refine (within_any _ _ _ _).mono ?_; rintro e w' ⟨rfl, rfl⟩)
  go_ret
  exact ⟨rfl, rfl⟩
theorem isSecond_any (s : Int) (w : World) :
    Calls Tryd.prog 47 #[.int .i64 s] w fun e w' => e = .returned (.bool (inR s 0 1000000)) ∧ w = w' := by
  go_enter Tryd.func47, Tryd.ntmps47
  go_wp2_with (go_at_call 52; refine (within_any _ _ _ _).mono ?_; rintro e w' ⟨rfl, rfl⟩)
  go_ret
  exact ⟨rfl, rfl⟩
theorem floor_any (a b : Int) (w : World) (h1 : -9223372036854775807 ≤ a) (h2 : a ≤ 9223372036854775807) (hb : 1 ≤ b) (hb' : b ≤ 9223372036854775807) :
    Calls Tryd.prog 91 #[.int .i64 a, .int .i64 b] w fun e w' => e = .returned (.int .i64 (a / b)) ∧ w = w' := by
  have hd := tdiv_bd a b hb h1 h2
  by_cases h : a.tmod b < 0
  · go_enter Tryd.func91, Tryd.ntmps91
    go_wp2
    go_ret
    exact ⟨ret_i64 (floor_neg a b hb h), rfl⟩
  · go_enter Tryd.func91, Tryd.ntmps91
    go_wp2
    go_ret
    exact ⟨ret_i64 (floor_pos a b hb (by assumption)), rfl⟩
def Nice (w w' : World) : Prop := Below w.heap.size w w'
theorem around_any (a b : Int) (w : World) (h : -4000000000000000000 ≤ a ∧ a ≤ 4000000000000000000) (hb : 0 ≤ b ∧ b ≤ 4000000000000000000) :
    Calls Tryd.prog 72 #[.int .i64 a, .int .i64 b] w fun e w' => e = .returned (.agg #[.int .i64 (a - b), .int .i64 (a + b)]) ∧ Below w.heap.size w w' := by
  go_enter Tryd.func72, Tryd.ntmps72
  go_wp2
  go_returns
  exact ⟨rfl, by go_grown⟩
theorem temp_any (c : Cham) (s : Int) (w : World) (h1 : chamOk c = true) (h4 : 0 ≤ s) (h5 : s ≤ 1000000) :
    Calls Tryd.prog 48 #[.agg #[.int .i64 c.base, .int .i64 c.swing, .int .i64 c.period], .int .i64 s] w fun e w' => e = .returned (.int .i64 (tempS c s)) ∧ Below w.heap.size w w' := by
  obtain ⟨ba, sw, pe⟩ := c
  simp only [chamOk, Bool.and_eq_true] at h1
  obtain ⟨⟨h1, h2⟩, h3⟩ := h1
  have g1 := inR_true h1; have g2 := inR_true h2; have g3 := inR_true h3
  clear h1 h2 h3
  have g4 : 0 ≤ s % pe := Int.emod_nonneg s (by omega)
  have g5 : s % pe < pe := Int.emod_lt_of_pos s (by omega)
  show Calls _ _ #[.agg #[.int .i64 ba, .int .i64 sw, .int .i64 pe], .int .i64 s] w _
  by_cases h : pe < 2 * (s % pe)
  · have b := temp_bd sw pe (pe - s % pe) (by omega) (by omega) (by omega) (by omega) (by omega) (by omega)
    obtain ⟨b1, b2, b3, b4⟩ := b
    have hfin : tempS ⟨ba, sw, pe⟩ s = ba + 2 * sw * (pe - s % pe) / pe := by simp only [tempS, foldAt, if_pos h]
    have Hfin := Lib.hid hfin; clear hfin
    go_enter Tryd.func48, Tryd.ntmps48
    go_wp2
    go_quiet (fail)
    go_wp2
    go_ret
    exact ⟨ret_i64 Hfin.out.symm, by refine below_drewN ?_ _; go_grown⟩
  · have b := temp_bd sw pe (s % pe) (by omega) (by omega) (by omega) (by omega) (by omega) (by omega)
    obtain ⟨b1, b2, b3, b4⟩ := b
    have hfin : tempS ⟨ba, sw, pe⟩ s = ba + 2 * sw * (s % pe) / pe := by simp only [tempS, foldAt, if_neg h]
    have Hfin := Lib.hid hfin; clear hfin
    go_enter Tryd.func48, Tryd.ntmps48
    go_wp2
    go_quiet (fail)
    go_wp2
    go_ret
    exact ⟨ret_i64 Hfin.out.symm, by refine below_drewN ?_ _; go_grown⟩
end Go.Proofs.YtehjkmnamgafaaaDoor
