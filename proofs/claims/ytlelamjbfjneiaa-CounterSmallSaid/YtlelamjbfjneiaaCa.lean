/- Contracts of layer 2: draws, small numbers, which counters are right. -/
import Derived.Test.YtlelamjbfjneiaaProg
import Derived.WalkKit
import Derived.Handy
import Derived.Lib.Hide
import Derived.WalkSmall
import Derived.Deep.QuietTactic
import Derived.BigQuiet
import Derived.Outline
import Derived.LoopTactic
import Derived.IntWalk
import Derived.StillTailTactics
import Derived.Deep.RegionHeld3
import Derived.Laws.EntriesVeiled
import Derived.Deep.CutRange
import Derived.Deep.AppendLies
import Derived.Maps.AppendAt
namespace Go.Proofs.Ytlelamjbfjneiaa.Ct
open Go Go.RowKit
theorem ret_u64 {a b : Int} (h : a = b) : Ending.returned (.int .u64 a) = .returned (.int .u64 b) := by rw [h]
theorem ret_i64 {a b : Int} (h : a = b) : Ending.returned (.int .i64 a) = .returned (.int .i64 b) := by rw [h]
theorem ret_bool {a b : Bool} (h : a = b) : Ending.returned (.bool a) = .returned (.bool b) := by rw [h]
theorem cell_lt {w : World} {b o : Nat} {v : Value} (h : w.cell? ⟨b, o, none⟩ = some v) : b < w.heap.size := World.block_lt_of_cell? w ⟨b, o, none⟩ h
theorem cell_below {w w' : World} {b o : Nat} {v : Value} (hb : Below w.heap.size w w') (h : w.cell? ⟨b, o, none⟩ = some v) : w'.cell? ⟨b, o, none⟩ = some v :=
  (hb.cell (p := ⟨b, o, none⟩) (cell_lt h)).trans h
theorem below_alloc {X Y : World} (h : Below X.heap.size X Y) (o : Obj) : Below X.heap.size X (Y.alloc o) := h.alloc h.size o
theorem below_drewN {X Y : World} (h : Below X.heap.size X Y) (n : Nat) : Below X.heap.size X (Y.drewN n) := h.trans ⟨rfl, rfl, rfl, Nat.le_refl _, fun _ _ => rfl⟩
/-! draws -/
def mixA (x y : Int) : Int := IntKind.u64.wrap (x + IntKind.u64.wrap (y * 11400714819323198485))
def mixB (z : Int) : Int := IntKind.u64.wrap (bits BinOp.xor IntKind.u64 z (z / 2147483648) * 10723151780598845931)
def mixC (z : Int) : Int := bits BinOp.xor IntKind.u64 z (z / 1073741824)
def mixS (x y : Int) : Int := mixC (mixB (mixA x y))
theorem mixS_bd (x y : Int) : 0 ≤ mixS x y ∧ mixS x y ≤ 18446744073709551615 := by
  unfold mixS mixC bits
  rw [IntKind.wrap_u64]
  omega
def sourceS (seed kind clock : Int) : Int := mixS (mixS seed kind) clock
def drawS (source index most : Int) : Int := mixS source index % (2 * most + 1) - most
theorem drawS_bd (s i m : Int) (h : 0 ≤ m) : -m ≤ drawS s i m ∧ drawS s i m ≤ m := by
  unfold drawS
  have h1 := Int.emod_nonneg (mixS s i) (show 2 * m + 1 ≠ 0 by omega)
  have h2 := Int.emod_lt_of_pos (mixS s i) (show 0 < 2 * m + 1 by omega)
  omega
theorem mix_any (x y : Int) (w : World) :
    Calls Try.prog 77 #[.int .u64 x, .int .u64 y] w fun e w' => e = .returned (.int .u64 (mixS x y)) ∧ w = w' := by
  go_enter Try.func77, Try.ntmps77
  go_wp2
  go_ret
  exact ⟨rfl, rfl⟩
theorem source_any (s k c : Int) (w : World) (hk : 0 ≤ k) (hk' : k ≤ 9223372036854775807) (hc : 0 ≤ c) (hc' : c ≤ 9223372036854775807) :
    Calls Try.prog 67 #[.int .u64 s, .int .i64 k, .int .i64 c] w fun e w' => e = .returned (.int .u64 (sourceS s k c)) ∧ w = w' := by
  go_enter Try.func67, Try.ntmps67
  go_wp2_with (go_at_call 77; refine (mix_any _ _ _).mono ?_; rintro e w' ⟨rfl, rfl⟩)
  go_ret
  exact ⟨rfl, rfl⟩
theorem draw_any (s i m : Int) (w : World) (hi : 0 ≤ i) (hi' : i ≤ 9223372036854775807) (hm : 0 ≤ m) (hm' : m ≤ 1000000000000000) :
    Calls Try.prog 66 #[.int .u64 s, .int .i64 i, .int .i64 m] w fun e w' => e = .returned (.int .i64 (drawS s i m)) ∧ w = w' := by
  obtain ⟨g1, g2⟩ := mixS_bd s i
  have g3 : 0 ≤ mixS s i % (2 * m + 1) := Int.emod_nonneg (mixS s i) (by omega)
  have g4 : mixS s i % (2 * m + 1) ≤ 2 * m := by have := Int.emod_lt_of_pos (mixS s i) (show 0 < 2 * m + 1 by omega); omega
  go_enter Try.func66, Try.ntmps66
  go_wp2_with (go_at_call 77; refine (mix_any _ _ _).mono ?_; rintro e w' ⟨rfl, rfl⟩)
  go_ret
  exact ⟨rfl, rfl⟩
theorem within_any (n lo hi : Int) (w : World) :
    Calls Try.prog 33 #[.int .i64 n, .int .i64 lo, .int .i64 hi] w fun e w' => e = .returned (.bool (decide (lo ≤ n) && decide (n ≤ hi))) ∧ w = w' := by
  by_cases h : lo ≤ n
  · have E := Lib.hid (show decide (n ≤ hi) = (decide (lo ≤ n) && decide (n ≤ hi)) by simp [h])
    go_enter Try.func33, Try.ntmps33
    go_wp2
    go_ret
    exact ⟨ret_bool E.out, rfl⟩
  · have E := Lib.hid (show false = (decide (lo ≤ n) && decide (n ≤ hi)) by simp [h])
    go_enter Try.func33, Try.ntmps33
    go_wp2
    go_ret
    exact ⟨ret_bool E.out, rfl⟩
theorem within_yes (n lo hi : Int) (w : World) (h : lo ≤ n ∧ n ≤ hi) :
    Calls Try.prog 33 #[.int .i64 n, .int .i64 lo, .int .i64 hi] w fun e w' => e = .returned (.bool true) ∧ w = w' :=
  (within_any n lo hi w).mono fun _ _ ⟨a, b⟩ => ⟨by rw [a]; simp [h], b⟩
theorem within_no (n lo hi : Int) (w : World) (h : ¬ (lo ≤ n ∧ n ≤ hi)) :
    Calls Try.prog 33 #[.int .i64 n, .int .i64 lo, .int .i64 hi] w fun e w' => e = .returned (.bool false) ∧ w = w' :=
  (within_any n lo hi w).mono fun _ _ ⟨a, b⟩ => ⟨by rw [a]; congr 2; simpa using h, b⟩
theorem floor_neg (a b : Int) (hb : 1 ≤ b) (h : a.tmod b < 0) : a.tdiv b - 1 = a / b := by
  have h1 := Int.tmod_add_mul_tdiv a b
  have h2 : -b < a.tmod b := by
    have := Int.natAbs_tmod a b
    have := Nat.mod_lt a.natAbs (show 0 < b.natAbs by omega)
    omega
  symm
  refine Int.ediv_eq_iff_of_pos (by omega) |>.2 ⟨?_, ?_⟩ <;> grind
theorem floor_pos (a b : Int) (hb : 1 ≤ b) (h : ¬ a.tmod b < 0) : a.tdiv b = a / b := by
  have h1 := Int.tmod_add_mul_tdiv a b
  have h2 : a.tmod b < b := by
    have := Int.natAbs_tmod a b
    have := Nat.mod_lt a.natAbs (show 0 < b.natAbs by omega)
    omega
  symm
  refine Int.ediv_eq_iff_of_pos (by omega) |>.2 ⟨?_, ?_⟩ <;> grind
theorem modulo_neg (a b : Int) (hb : 1 ≤ b) (h : a.tmod b < 0) : a.tmod b + b = a % b := by
  have h1 := Int.tmod_add_mul_tdiv a b
  have h2 := floor_neg a b hb h
  have h3 := Int.emod_add_mul_ediv a b
  rw [← h2] at h3
  grind
theorem modulo_pos (a b : Int) (hb : 1 ≤ b) (h : ¬ a.tmod b < 0) : a.tmod b = a % b := by
  have h1 := Int.tmod_add_mul_tdiv a b
  have h2 := floor_pos a b hb h
  have h3 := Int.emod_add_mul_ediv a b
  rw [← h2] at h3
  grind
theorem tdiv_bd (a b : Int) (hb : 1 ≤ b) (h1 : -9223372036854775807 ≤ a) (h2 : a ≤ 9223372036854775807) : -9223372036854775807 ≤ a.tdiv b ∧ a.tdiv b ≤ 9223372036854775807 := by
  rw [tdiv_eq_if]
  split
  · rename_i hx; have := IntWalk.tdiv_le a b hx hb; omega
  · rename_i hx; have := IntWalk.tdiv_le (-a) b (by omega) hb; omega
theorem tmod_bd (a b : Int) (hb : 1 ≤ b) : -b < a.tmod b ∧ a.tmod b < b := by
  have h1 := Int.natAbs_tmod a b
  have h2 := Nat.mod_lt a.natAbs (show 0 < b.natAbs by omega)
  omega
theorem floor_any (a b : Int) (w : World) (h1 : -9223372036854775807 ≤ a ∧ a ≤ 9223372036854775807) (hb : 1 ≤ b ∧ b ≤ 9223372036854775807) :
    Calls Try.prog 69 #[.int .i64 a, .int .i64 b] w fun e w' => e = .returned (.int .i64 (a / b)) ∧ w = w' := by
  have hd := tdiv_bd a b hb.1 h1.1 h1.2
  have hm := tmod_bd a b hb.1
  by_cases h : a.tmod b < 0
  · have H := Lib.hid (floor_neg a b hb.1 h)
    have hne : (b == 0) = false := by simp; omega
    have hnz : ¬ b = 0 := by omega
    have k1 : IntKind.i64.wrap (a.tdiv b) = a.tdiv b := IntWalk.i64_in _ (by omega)
    have k2 : IntKind.i64.wrap (a.tmod b) = a.tmod b := IntWalk.i64_in _ (by omega)
    have k3 : IntKind.i64.wrap (a.tdiv b - 1) = a.tdiv b - 1 := by
      rw [H.out]; refine IntWalk.i64_in _ ?_
      rw [← H.out]
      have h6 := Int.mul_tdiv_add_tmod a b
      by_cases hb1 : b = 1
      · subst hb1; have : a.tmod 1 = 0 := Int.tmod_one a; omega
      · rw [tdiv_eq_if] at hd ⊢
        split
        · rename_i hx; have := Int.tmod_nonneg b hx; omega
        · rename_i hx
          have h7 := Int.ediv_le_self (b := b) (a := -a) (by omega)
          have h8 : (-a) / b * 2 ≤ (-a) / b * b := Int.mul_le_mul_of_nonneg_left (by omega) (Int.ediv_nonneg (by omega) (by omega))
          have h9 := Int.ediv_mul_le (-a) (b := b) (by omega)
          omega
    clear hd hm
    go_enter Try.func69, Try.ntmps69
    go_wp2
    go_ret
    exact ⟨ret_i64 H.out, rfl⟩
  · have H := Lib.hid (floor_pos a b hb.1 h)
    have hne : (b == 0) = false := by simp; omega
    have hnz : ¬ b = 0 := by omega
    have k1 : IntKind.i64.wrap (a.tdiv b) = a.tdiv b := IntWalk.i64_in _ (by omega)
    have k2 : IntKind.i64.wrap (a.tmod b) = a.tmod b := IntWalk.i64_in _ (by omega)
    clear hd hm
    go_enter Try.func69, Try.ntmps69
    go_wp2
    go_ret
    exact ⟨ret_i64 H.out, rfl⟩
theorem modulo_any (a b : Int) (w : World) (hb : 1 ≤ b ∧ b ≤ 9223372036854775807) :
    Calls Try.prog 68 #[.int .i64 a, .int .i64 b] w fun e w' => e = .returned (.int .i64 (a % b)) ∧ w = w' := by
  have hm := tmod_bd a b hb.1
  have hne : (b == 0) = false := by simp; omega
  have hnz : ¬ b = 0 := by omega
  have k2 : IntKind.i64.wrap (a.tmod b) = a.tmod b := IntWalk.i64_in _ (by omega)
  by_cases h : a.tmod b < 0
  · have H := Lib.hid (modulo_neg a b hb.1 h)
    have k3 : IntKind.i64.wrap (a.tmod b + b) = a.tmod b + b := IntWalk.i64_in _ (by omega)
    clear hm
    go_enter Try.func68, Try.ntmps68
    go_wp2
    go_ret
    exact ⟨ret_i64 H.out, rfl⟩
  · have H := Lib.hid (modulo_pos a b hb.1 h)
    clear hm
    go_enter Try.func68, Try.ntmps68
    go_wp2
    go_ret
    exact ⟨ret_i64 H.out, rfl⟩
end Go.Proofs.Ytlelamjbfjneiaa.Ct
