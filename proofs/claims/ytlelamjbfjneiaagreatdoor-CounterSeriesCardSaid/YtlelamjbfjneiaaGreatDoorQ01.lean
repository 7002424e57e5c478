/- Contracts of layer 2: draws, small numbers, which counters are right. · Contracts of layer 2: the parts of a counter. · Contracts of layer 2: sums of spans. -/
import Derived.Test.YtlelamjbfjneiaaGreatDoorProg
import Derived.WalkKit
import Derived.Handy
import Derived.Lib.Hide
import Derived.WalkSmall
import Derived.Deep.QuietTactic
import Derived.BigQuiet
import Derived.Outline
import Derived.LoopTactic
import Derived.IntWalk
import Derived.StillTailTactics
import Derived.Deep.RegionHeld3
import Derived.Laws.EntriesVeiled
import Derived.Deep.CutRange
import Derived.Deep.AppendLies
import Derived.Maps.AppendAt
namespace Go.Proofs.YtlelamjbfjneiaaGreatDoor.Ct
open Go Go.RowKit
theorem ret_u64 {a b : Int} (h : a = b) : Ending.returned (.int .u64 a) = .returned (.int .u64 b) := by rw [h]
theorem ret_i64 {a b : Int} (h : a = b) : Ending.returned (.int .i64 a) = .returned (.int .i64 b) := by rw [h]
theorem ret_bool {a b : Bool} (h : a = b) : Ending.returned (.bool a) = .returned (.bool b) := by rw [h]
theorem cell_lt {w : World} {b o : Nat} {v : Value} (h : w.cell? ⟨b, o, none⟩ = some v) : b < w.heap.size := World.block_lt_of_cell? w ⟨b, o, none⟩ h
theorem cell_below {w w' : World} {b o : Nat} {v : Value} (hb : Below w.heap.size w w') (h : w.cell? ⟨b, o, none⟩ = some v) : w'.cell? ⟨b, o, none⟩ = some v :=
  (hb.cell (p := ⟨b, o, none⟩) (cell_lt h)).trans h
theorem below_alloc {X Y : World} (h : Below X.heap.size X Y) (o : Obj) : Below X.heap.size X (Y.alloc o) := h.alloc h.size o
theorem below_drewN {X Y : World} (h : Below X.heap.size X Y) (n : Nat) : Below X.heap.size X (Y.drewN n) := h.trans ⟨rfl, rfl, rfl, Nat.le_refl _, fun _ _ => rfl⟩
/-! draws -/
def mixA (x y : Int) : Int := IntKind.u64.wrap (x + IntKind.u64.wrap (y * 11400714819323198485))
def mixB (z : Int) : Int := IntKind.u64.wrap (bits BinOp.xor IntKind.u64 z (z / 2147483648) * 10723151780598845931)
def mixC (z : Int) : Int := bits BinOp.xor IntKind.u64 z (z / 1073741824)
def mixS (x y : Int) : Int := mixC (mixB (mixA x y))
theorem mixS_bd (x y : Int) : 0 ≤ mixS x y ∧ mixS x y ≤ 18446744073709551615 := by
  unfold mixS mixC bits
  rw [IntKind.wrap_u64]
  omega
def sourceS (seed kind clock : Int) : Int := mixS (mixS seed kind) clock
def drawS (source index most : Int) : Int := mixS source index % (2 * most + 1) - most
theorem drawS_bd (s i m : Int) (h : 0 ≤ m) : -m ≤ drawS s i m ∧ drawS s i m ≤ m := by
  unfold drawS
  have h1 := Int.emod_nonneg (mixS s i) (show 2 * m + 1 ≠ 0 by omega)
  have h2 := Int.emod_lt_of_pos (mixS s i) (show 0 < 2 * m + 1 by omega)
  omega
theorem mix_any (x y : Int) (w : World) :
    Calls Tryz.prog 105 #[.int .u64 x, .int .u64 y] w fun e w' => e = .returned (.int .u64 (mixS x y)) ∧ w = w' := by
  go_enter Tryz.func105, Tryz.ntmps105
  go_wp2
  go_ret
  exact ⟨rfl, rfl⟩
theorem source_any (s k c : Int) (w : World) (hk : 0 ≤ k) (hk' : k ≤ 9223372036854775807) (hc : 0 ≤ c) (hc' : c ≤ 9223372036854775807) :
    Calls Tryz.prog 72 #[.int .u64 s, .int .i64 k, .int .i64 c] w fun e w' => e = .returned (.int .u64 (sourceS s k c)) ∧ w = w' := by
  go_enter Tryz.func72, Tryz.ntmps72
  go_wp2_with (go_at_call 105; refine (mix_any _ _ _).mono ?_; rintro e w' ⟨rfl, rfl⟩)
  go_ret
  exact ⟨rfl, rfl⟩
theorem draw_any (s i m : Int) (w : World) (hi : 0 ≤ i) (hi' : i ≤ 9223372036854775807) (hm : 0 ≤ m) (hm' : m ≤ 1000000000000000) :
    Calls Tryz.prog 71 #[.int .u64 s, .int .i64 i, .int .i64 m] w fun e w' => e = .returned (.int .i64 (drawS s i m)) ∧ w = w' := by
  obtain ⟨g1, g2⟩ := mixS_bd s i
  have g3 : 0 ≤ mixS s i % (2 * m + 1) := Int.emod_nonneg (mixS s i) (by omega)
  have g4 : mixS s i % (2 * m + 1) ≤ 2 * m := by have := Int.emod_lt_of_pos (mixS s i) (show 0 < 2 * m + 1 by omega); omega
  go_enter Tryz.func71, Tryz.ntmps71
  go_wp2_with (go_at_call 105; refine (mix_any _ _ _).mono ?_; rintro e w' ⟨rfl, rfl⟩)
  go_ret
  exact ⟨rfl, rfl⟩
theorem within_any (n lo hi : Int) (w : World) :
    Calls Tryz.prog 30 #[.int .i64 n, .int .i64 lo, .int .i64 hi] w fun e w' => e = .returned (.bool (decide (lo ≤ n) && decide (n ≤ hi))) ∧ w = w' := by
  by_cases h : lo ≤ n
  · have E := Lib.hid (show decide (n ≤ hi) = (decide (lo ≤ n) && decide (n ≤ hi)) by simp [h])
    go_enter Tryz.func30, Tryz.ntmps30
    go_wp2
    go_ret
    exact ⟨ret_bool E.out, rfl⟩
  · have E := Lib.hid (show false = (decide (lo ≤ n) && decide (n ≤ hi)) by simp [h])
    go_enter Tryz.func30, Tryz.ntmps30
    go_wp2
    go_ret
    exact ⟨ret_bool E.out, rfl⟩
theorem within_yes (n lo hi : Int) (w : World) (h : lo ≤ n ∧ n ≤ hi) :
    Calls Tryz.prog 30 #[.int .i64 n, .int .i64 lo, .int .i64 hi] w fun e w' => e = .returned (.bool true) ∧ w = w' :=
  (within_any n lo hi w).mono fun _ _ ⟨a, b⟩ => ⟨by rw [a]; simp [h], b⟩
theorem within_no (n lo hi : Int) (w : World) (h : ¬ (lo ≤ n ∧ n ≤ hi)) :
    Calls Tryz.prog 30 #[.int .i64 n, .int .i64 lo, .int .i64 hi] w fun e w' => e = .returned (.bool false) ∧ w = w' :=
  (within_any n lo hi w).mono fun _ _ ⟨a, b⟩ => ⟨by rw [a]; congr 2; simpa using h, b⟩
theorem floor_neg (a b : Int) (hb : 1 ≤ b) (h : a.tmod b < 0) : a.tdiv b - 1 = a / b := by
  have h1 := Int.tmod_add_mul_tdiv a b
  have h2 : -b < a.tmod b := by
    have := Int.natAbs_tmod a b
    have := Nat.mod_lt a.natAbs (show 0 < b.natAbs by omega)
    omega
  symm
  refine Int.ediv_eq_iff_of_pos (by omega) |>.2 ⟨?_, ?_⟩ <;> grind
theorem floor_pos (a b : Int) (hb : 1 ≤ b) (h : ¬ a.tmod b < 0) : a.tdiv b = a / b := by
  have h1 := Int.tmod_add_mul_tdiv a b
  have h2 : a.tmod b < b := by
    have := Int.natAbs_tmod a b
    have := Nat.mod_lt a.natAbs (show 0 < b.natAbs by omega)
    omega
  symm
  refine Int.ediv_eq_iff_of_pos (by omega) |>.2 ⟨?_, ?_⟩ <;> grind
theorem modulo_neg (a b : Int) (hb : 1 ≤ b) (h : a.tmod b < 0) : a.tmod b + b = a % b := by
  have h1 := Int.tmod_add_mul_tdiv a b
  have h2 := floor_neg a b hb h
  have h3 := Int.emod_add_mul_ediv a b
  rw [← h2] at h3
  grind
theorem modulo_pos (a b : Int) (hb : 1 ≤ b) (h : ¬ a.tmod b < 0) : a.tmod b = a % b := by
  have h1 := Int.tmod_add_mul_tdiv a b
  have h2 := floor_pos a b hb h
  have h3 := Int.emod_add_mul_ediv a b
  rw [← h2] at h3
  grind
theorem tdiv_bd (a b : Int) (hb : 1 ≤ b) (h1 : -9223372036854775807 ≤ a) (h2 : a ≤ 9223372036854775807) : -9223372036854775807 ≤ a.tdiv b ∧ a.tdiv b ≤ 9223372036854775807 := by
  rw [tdiv_eq_if]
  split
  · rename_i hx; have := IntWalk.tdiv_le a b hx hb; omega
  · rename_i hx; have := IntWalk.tdiv_le (-a) b (by omega) hb; omega
theorem tmod_bd (a b : Int) (hb : 1 ≤ b) : -b < a.tmod b ∧ a.tmod b < b := by
  have h1 := Int.natAbs_tmod a b
  have h2 := Nat.mod_lt a.natAbs (show 0 < b.natAbs by omega)
  omega
theorem floor_any (a b : Int) (w : World) (h1 : -9223372036854775807 ≤ a ∧ a ≤ 9223372036854775807) (hb : 1 ≤ b ∧ b ≤ 9223372036854775807) :
    Calls Tryz.prog 74 #[.int .i64 a, .int .i64 b] w fun e w' => e = .returned (.int .i64 (a / b)) ∧ w = w' := by
  have hd := tdiv_bd a b hb.1 h1.1 h1.2
  have hm := tmod_bd a b hb.1
  by_cases h : a.tmod b < 0
  · have H := Lib.hid (floor_neg a b hb.1 h)
    have hne : (b == 0) = false := by simp; omega
    have hnz : ¬ b = 0 := by omega
    have k1 : IntKind.i64.wrap (a.tdiv b) = a.tdiv b := IntWalk.i64_in _ (by omega)
    have k2 : IntKind.i64.wrap (a.tmod b) = a.tmod b := IntWalk.i64_in _ (by omega)
    have k3 : IntKind.i64.wrap (a.tdiv b - 1) = a.tdiv b - 1 := by
      rw [H.out]; refine IntWalk.i64_in _ ?_
      rw [← H.out]
      have h6 := Int.mul_tdiv_add_tmod a b
      by_cases hb1 : b = 1
      · subst hb1; have : a.tmod 1 = 0 := Int.tmod_one a; omega
      · rw [tdiv_eq_if] at hd ⊢
        split
        · rename_i hx; have := Int.tmod_nonneg b hx; omega
        · rename_i hx
          have h7 := Int.ediv_le_self (b := b) (a := -a) (by omega)
          have h8 : (-a) / b * 2 ≤ (-a) / b * b := Int.mul_le_mul_of_nonneg_left (by omega) (Int.ediv_nonneg (by omega) (by omega))
          have h9 := Int.ediv_mul_le (-a) (b := b) (by omega)
          omega
    clear hd hm
    go_enter Tryz.func74, Tryz.ntmps74
    go_wp2
    go_ret
    exact ⟨ret_i64 H.out, rfl⟩
  · have H := Lib.hid (floor_pos a b hb.1 h)
    have hne : (b == 0) = false := by simp; omega
    have hnz : ¬ b = 0 := by omega
    have k1 : IntKind.i64.wrap (a.tdiv b) = a.tdiv b := IntWalk.i64_in _ (by omega)
    have k2 : IntKind.i64.wrap (a.tmod b) = a.tmod b := IntWalk.i64_in _ (by omega)
    clear hd hm
    go_enter Tryz.func74, Tryz.ntmps74
    go_wp2
    go_ret
    exact ⟨ret_i64 H.out, rfl⟩
theorem modulo_any (a b : Int) (w : World) (hb : 1 ≤ b ∧ b ≤ 9223372036854775807) :
    Calls Tryz.prog 73 #[.int .i64 a, .int .i64 b] w fun e w' => e = .returned (.int .i64 (a % b)) ∧ w = w' := by
  have hm := tmod_bd a b hb.1
  have hne : (b == 0) = false := by simp; omega
  have hnz : ¬ b = 0 := by omega
  have k2 : IntKind.i64.wrap (a.tmod b) = a.tmod b := IntWalk.i64_in _ (by omega)
  by_cases h : a.tmod b < 0
  · have H := Lib.hid (modulo_neg a b hb.1 h)
    have k3 : IntKind.i64.wrap (a.tmod b + b) = a.tmod b + b := IntWalk.i64_in _ (by omega)
    clear hm
    go_enter Tryz.func73, Tryz.ntmps73
    go_wp2
    go_ret
    exact ⟨ret_i64 H.out, rfl⟩
  · have H := Lib.hid (modulo_pos a b hb.1 h)
    clear hm
    go_enter Tryz.func73, Tryz.ntmps73
    go_wp2
    go_ret
    exact ⟨ret_i64 H.out, rfl⟩
end Go.Proofs.YtlelamjbfjneiaaGreatDoor.Ct
namespace Go.Proofs.YtlelamjbfjneiaaGreatDoor.Ct
open Go Go.RowKit
/-- a counter -/
structure Cnt where
  (f o j g r d i : Int)
def cntVal (c : Cnt) : Value := .agg #[.int .i64 c.f, .int .i64 c.o, .int .i64 c.j, .int .i64 c.g, .int .i64 c.r, .int .i64 c.d, .int .i64 c.i]
/-- a counter in a box -/
structure CBox (X : World) (b : Nat) (c : Cnt) : Prop where
  c0 : X.cell? ⟨b, 0, none⟩ = some (.int .i64 c.f)
  c1 : X.cell? ⟨b, 1, none⟩ = some (.int .i64 c.o)
  c2 : X.cell? ⟨b, 2, none⟩ = some (.int .i64 c.j)
  c3 : X.cell? ⟨b, 3, none⟩ = some (.int .i64 c.g)
  c4 : X.cell? ⟨b, 4, none⟩ = some (.int .i64 c.r)
  c5 : X.cell? ⟨b, 5, none⟩ = some (.int .i64 c.d)
  c6 : X.cell? ⟨b, 6, none⟩ = some (.int .i64 c.i)
variable {X Y : World} {b : Nat} {c : Cnt}
def cntObj (c : Cnt) : Obj := .cells #[.int .i64 c.f, .int .i64 c.o, .int .i64 c.j, .int .i64 c.g, .int .i64 c.r, .int .i64 c.d, .int .i64 c.i] 34
theorem CBox.new (X : World) (c : Cnt) : CBox (X.alloc (cntObj c)) X.heap.size c := by
  unfold cntObj
  exact ⟨by simp, by simp, by simp, by simp, by simp, by simp, by simp⟩
theorem CBox.below (h : CBox X b c) (hb : Below X.heap.size X Y) : CBox Y b c :=
  ⟨cell_below hb h.c0, cell_below hb h.c1, cell_below hb h.c2, cell_below hb h.c3, cell_below hb h.c4, cell_below hb h.c5, cell_below hb h.c6⟩
theorem CBox.lt (h : CBox X b c) : b < X.heap.size := cell_lt h.c0
/-- which counters are right -/
structure CntIn (c : Cnt) : Prop where
  f : 1 ≤ c.f ∧ c.f ≤ 1000
  o : -1000000000000 ≤ c.o ∧ c.o ≤ 1000000000000
  j : 0 ≤ c.j ∧ c.j ≤ 1000000000
  g : 1 ≤ c.g ∧ c.g ≤ 1000000000
  r : 1 ≤ c.r ∧ c.r ≤ 1000000000000000
  m : c.r % (2 * c.g) = 0
  d : 1 ≤ c.d ∧ c.d ≤ 100000
  i : 0 ≤ c.i ∧ c.i ≤ 1000000
def wrapS (c : Cnt) (n : Int) : Int := (n + c.r / 2) % c.r - c.r / 2
def roundS (c : Cnt) (n : Int) : Int := (2 * n + c.g) / (2 * c.g) * c.g
def faultS (c : Cnt) : Int := c.j + c.g / 2
theorem wrapS_bd (h : CntIn c) (n : Int) : -(c.r / 2) ≤ wrapS c n ∧ wrapS c n < c.r - c.r / 2 := by
  unfold wrapS
  have := Int.emod_nonneg (n + c.r / 2) (show c.r ≠ 0 by have := h.r; omega)
  have := Int.emod_lt_of_pos (n + c.r / 2) (show 0 < c.r by have := h.r; omega)
  omega
theorem roundS_bd (h : CntIn c) (n : Int) : 2 * n - c.g < 2 * roundS c n ∧ 2 * roundS c n ≤ 2 * n + c.g := by
  unfold roundS
  have hg := h.g
  have h1 := Int.emod_add_mul_ediv (2 * n + c.g) (2 * c.g)
  have h2 := Int.emod_nonneg (2 * n + c.g) (show 2 * c.g ≠ 0 by omega)
  have h3 := Int.emod_lt_of_pos (2 * n + c.g) (show 0 < 2 * c.g by omega)
  have h4 : 2 * c.g * ((2 * n + c.g) / (2 * c.g)) = 2 * ((2 * n + c.g) / (2 * c.g) * c.g) := by grind
  omega
set_option maxRecDepth 100000 in
set_option maxHeartbeats 1000000 in
theorem wrap_any (c : Cnt) (n : Int) (w : World) (h : CntIn c) (hn : -4000000000000000000 ≤ n ∧ n ≤ 4000000000000000000) :
    Calls Tryz.prog 47 #[cntVal c, .int .i64 n] w fun e w' => e = .returned (.int .i64 (wrapS c n)) ∧ Below w.heap.size w w' := by
  have hr := h.r
  have a0 := below_alloc (Below.refl w.heap.size w) (cntObj c)
  have A0 := Lib.hid a0
  obtain ⟨-, -, -, -, c4, -, -⟩ := CBox.new w c
  have hz := cell_lt c4
  have k1 : IntKind.i64.wrap (c.r.tdiv 2) = c.r / 2 := IntWalk.i64_quo c.r 2 (by omega)
  have k2 : IntKind.i64.wrap (n + c.r / 2) = n + c.r / 2 := IntWalk.i64_in _ (by omega)
  have hb := wrapS_bd h n
  have k3 : IntKind.i64.wrap ((n + c.r / 2) % c.r - c.r / 2) = wrapS c n := IntWalk.i64_in _ (by unfold wrapS at hb; omega)
  have HM := Lib.hid (fun W => (modulo_any (n + c.r / 2) c.r W (by omega)).mono fun _ _ ⟨h1, h2⟩ => And.intro h1 h2.symm)
  clear a0 hb
  unfold cntObj at A0 c4 hz
  unfold cntVal
  go_enter Tryz.func47, Tryz.ntmps47
  go_wp2
  go_quiet ((go_at_call 73; exact Calls.quiet_of_same (HM.out _)))
  go_wp2
  go_ret
  exact ⟨rfl, below_drewN A0.out _⟩
set_option maxRecDepth 100000 in
set_option maxHeartbeats 1000000 in
theorem round_any (c : Cnt) (n : Int) (w : World) (h : CntIn c) (hn : -2000000000000000000 ≤ n ∧ n ≤ 2000000000000000000) :
    Calls Tryz.prog 48 #[cntVal c, .int .i64 n] w fun e w' => e = .returned (.int .i64 (roundS c n)) ∧ Below w.heap.size w w' := by
  have hg := h.g
  have a0 := below_alloc (Below.refl w.heap.size w) (cntObj c)
  have A0 := Lib.hid a0
  obtain ⟨-, -, -, c3, -, -, -⟩ := CBox.new w c
  have hz := cell_lt c3
  have k1 : IntKind.i64.wrap (2 * n) = 2 * n := IntWalk.i64_in _ (by omega)
  have k2 : IntKind.i64.wrap (2 * n + c.g) = 2 * n + c.g := IntWalk.i64_in _ (by omega)
  have k3 : IntKind.i64.wrap (2 * c.g) = 2 * c.g := IntWalk.i64_in _ (by omega)
  have hb := roundS_bd h n
  have k4 : IntKind.i64.wrap ((2 * n + c.g) / (2 * c.g) * c.g) = roundS c n := IntWalk.i64_in _ (by unfold roundS at hb; omega)
  have HM := Lib.hid (fun W => (floor_any (2 * n + c.g) (2 * c.g) W (by omega) (by omega)).mono fun _ _ ⟨h1, h2⟩ => And.intro h1 h2.symm)
  clear a0 hb
  unfold cntObj at A0 c3 hz
  unfold cntVal
  go_enter Tryz.func48, Tryz.ntmps48
  go_wp2
  go_quiet ((go_at_call 74; exact Calls.quiet_of_same (HM.out _)))
  go_wp2
  go_ret
  exact ⟨rfl, below_drewN A0.out _⟩
theorem error_any (c : Cnt) (w : World) (h : CntIn c) :
    Calls Tryz.prog 32 #[cntVal c] w fun e w' => e = .returned (.int .i64 (faultS c)) ∧ Below w.heap.size w w' := by
  have hg := h.g
  have hj := h.j
  have A0 := Lib.hid (below_alloc (Below.refl w.heap.size w) (cntObj c))
  obtain ⟨-, -, c2, c3, -, -, -⟩ := CBox.new w c
  have hz := cell_lt c3
  have k1 : IntKind.i64.wrap (c.g.tdiv 2) = c.g / 2 := IntWalk.i64_quo c.g 2 (by omega)
  have k2 : IntKind.i64.wrap (c.j + c.g / 2) = faultS c := IntWalk.i64_in _ (by omega)
  unfold cntObj at A0 c2 c3 hz
  unfold cntVal
  go_enter Tryz.func32, Tryz.ntmps32
  go_wp2
  go_ret
  exact ⟨ret_i64 rfl, A0.out⟩
def showB (c : Cnt) (m : Int) : Bool := decide (-(c.r / 2) ≤ m) && decide (m ≤ c.r / 2 - 1)
theorem canShow_any (c : Cnt) (m : Int) (w : World) (h : CntIn c) :
    Calls Tryz.prog 31 #[cntVal c, .int .i64 m] w fun e w' => e = .returned (.bool (showB c m)) ∧ Below w.heap.size w w' := by
  have hr := h.r
  have A0 := Lib.hid (below_alloc (Below.refl w.heap.size w) (cntObj c))
  obtain ⟨-, -, -, -, c4, -, -⟩ := CBox.new w c
  have hz := cell_lt c4
  have k1 : IntKind.i64.wrap (c.r.tdiv 2) = c.r / 2 := IntWalk.i64_quo c.r 2 (by omega)
  have k2 : IntKind.i64.wrap (-c.r) = -c.r := IntWalk.i64_in _ (by omega)
  have k3 : wrap64 (-c.r.tdiv 2) = -(c.r / 2) := by
    rw [Int.tdiv_eq_ediv_of_nonneg (by omega)]; exact IntWalk.wrap64_in _ (by omega)
  have k4 : IntKind.i64.wrap (c.r / 2 - 1) = c.r / 2 - 1 := IntWalk.i64_in _ (by omega)
  have HW := Lib.hid (fun W => within_any m (-(c.r / 2)) (c.r / 2 - 1) W)
  have HB := Lib.hid (show (decide (-(c.r / 2) ≤ m) && decide (m ≤ c.r / 2 - 1)) = showB c m from rfl)
  rw [HB.out] at HW
  generalize showB c m = bv at *
  clear HB
  unfold cntObj at A0 c4 hz
  unfold cntVal
  go_enter Tryz.func31, Tryz.ntmps31
  go_wp2_with (go_at_call 30; refine (HW.out _).mono ?_; rintro e w1 ⟨rfl, rfl⟩)
  go_ret
  exact ⟨rfl, A0.out⟩
def meetB (c : Cnt) (s : Int) : Bool := (decide (0 ≤ s) && decide (s ≤ 1000000)) && decide (s % c.d = 0)
set_option maxRecDepth 100000 in
theorem measuresAt_any (c : Cnt) (s : Int) (w : World) (h : CntIn c) :
    Calls Tryz.prog 44 #[cntVal c, .int .i64 s] w fun e w' => e = .returned (.bool (meetB c s)) ∧ Below w.heap.size w w' := by
  have hd := h.d
  have A0 := Lib.hid (below_alloc (Below.refl w.heap.size w) (cntObj c))
  obtain ⟨-, -, -, -, -, c5, -⟩ := CBox.new w c
  have hz := cell_lt c5
  unfold cntObj at A0 c5 hz
  unfold cntVal
  by_cases hs : 0 ≤ s ∧ s ≤ 1000000
  · have HW := Lib.hid (fun W => within_yes s 0 1000000 W hs)
    have HE := Lib.hid (show meetB c s = decide (s % c.d = 0) by simp [meetB, hs])
    have hne : (c.d == 0) = false := by simp; omega
    have hnz : ¬ c.d = 0 := by omega
    rw [HE.out]
    by_cases hm : s % c.d = 0
    · have HM := Lib.hid hm
      have hmm : (s % c.d == 0) = true := by simp [hm]
      rw [show decide (s % c.d = 0) = true by simp [hm]]
      clear hm
      go_enter Tryz.func44, Tryz.ntmps44
      go_wp2_with (go_at_call 30; refine (HW.out _).mono ?_; rintro e w1 ⟨rfl, rfl⟩)
      go_ret
      exact ⟨rfl, A0.out⟩
    · have hmm : (s % c.d == 0) = false := by simpa using hm
      rw [show decide (s % c.d = 0) = false by simp [hm]]
      clear hm
      go_enter Tryz.func44, Tryz.ntmps44
      go_wp2_with (go_at_call 30; refine (HW.out _).mono ?_; rintro e w1 ⟨rfl, rfl⟩)
      go_ret
      exact ⟨rfl, A0.out⟩
  · have HW := Lib.hid (fun W => within_no s 0 1000000 W hs)
    rw [show meetB c s = false by unfold meetB; rw [show (decide (0 ≤ s) && decide (s ≤ 1000000)) = false by simpa using hs]; rfl]
    clear hs
    go_enter Tryz.func44, Tryz.ntmps44
    go_wp2_with (go_at_call 30; refine (HW.out _).mono ?_; rintro e w1 ⟨rfl, rfl⟩)
    go_ret
    exact ⟨rfl, A0.out⟩
set_option maxRecDepth 100000 in
theorem isDifference_any (d : Int) (w : World) :
    Calls Tryz.prog 45 #[.int .i64 d] w fun e w' => e = .returned (.bool (decide (-1000000000000000 ≤ d) && decide (d ≤ 1000000000000000))) ∧ w = w' := by
  have HW := Lib.hid (fun W => within_any d (-1000000000000000) 1000000000000000 W)
  generalize (decide (-1000000000000000 ≤ d) && decide (d ≤ 1000000000000000)) = bv at *
  go_enter Tryz.func45, Tryz.ntmps45
  go_wp2_with (go_at_call 30; refine (HW.out _).mono ?_; rintro e w1 ⟨rfl, rfl⟩)
  go_ret
  exact ⟨rfl, rfl⟩
set_option maxRecDepth 100000 in
theorem Draw_any (sd ki cl ix mo : Int) (w : World) (b1 : 0 ≤ ki ∧ ki ≤ 9223372036854775807) (b2 : 0 ≤ cl ∧ cl ≤ 9223372036854775807) (b3 : 0 ≤ ix ∧ ix ≤ 9223372036854775807) (b4 : 0 ≤ mo ∧ mo ≤ 1000000000000000) :
    Calls Tryz.prog 46 #[.int .u64 sd, .int .i64 ki, .int .i64 cl, .int .i64 ix, .int .i64 mo] w fun e w' => e = .returned (.tuple #[.int .i64 (drawS (sourceS sd ki cl) ix mo), .int .i64 0]) ∧ w = w' := by
  have HW := Lib.hid (fun W => within_yes mo 0 1000000000000000 W b4)
  have HS := Lib.hid (fun W => source_any sd ki cl W b1.1 b1.2 b2.1 b2.2)
  have HD := Lib.hid (fun W => draw_any (sourceS sd ki cl) ix mo W b3.1 b3.2 b4.1 b4.2)
  go_enter Tryz.func46, Tryz.ntmps46
  go_wp2_with (first | (go_at_call 30; refine (HW.out _).mono ?_; rintro e w' ⟨rfl, rfl⟩) | (go_at_call 72; refine (HS.out _).mono ?_; rintro e w' ⟨rfl, rfl⟩) | (go_at_call 71; refine (HD.out _).mono ?_; rintro e w' ⟨rfl, rfl⟩))
  go_ret2
  exact ⟨rfl, rfl⟩
end Go.Proofs.YtlelamjbfjneiaaGreatDoor.Ct
namespace Go.Proofs.YtlelamjbfjneiaaGreatDoor.Ct
open Go Go.RowKit
attribute [local go_sem] Oper.semAt_some
theorem opposite_any (a b : Int) (w : World) (ha : -4000000000000000000 ≤ a ∧ a ≤ 4000000000000000000) (hb : -4000000000000000000 ≤ b ∧ b ≤ 4000000000000000000) :
    Calls Tryz.prog 65 #[.agg #[.int .i64 a, .int .i64 b]] w fun e w' => e = .returned (.agg #[.int .i64 (-b), .int .i64 (-a)]) ∧ Below w.heap.size w w' := by
  have k1 : IntKind.i64.wrap (-a) = -a := IntWalk.i64_in _ (by omega)
  have k2 : IntKind.i64.wrap (-b) = -b := IntWalk.i64_in _ (by omega)
  clear ha hb
  go_enter Tryz.func65, Tryz.ntmps65
  go_wp2_with fail
  refine bodyPost_ret (v := .agg #[.int .i64 (-b), .int .i64 (-a)]) (by simp [results, Tryz.results65, go_sem]) rfl ?_
  exact ⟨rfl, by go_grown⟩
/-- a list of spans -/
def spAt (L : List (Int × Int)) (i : Nat) : Int × Int := (L[i]?).getD (0, 0)
def SpsAt (w : World) (L : List (Int × Int)) (b o : Nat) : Prop := ∀ i, i < L.length → w.cell? ⟨b, o + i * 2, none⟩ = some (.int .i64 (spAt L i).1) ∧ w.cell? ⟨b, o + i * 2 + 1, none⟩ = some (.int .i64 (spAt L i).2)
theorem SpsAt.below {w w' : World} {L : List (Int × Int)} {b o : Nat} (h : SpsAt w L b o) (hb : Below w.heap.size w w') : SpsAt w' L b o := fun i hi => ⟨cell_below hb (h i hi).1, cell_below hb (h i hi).2⟩
def sumA (L : List (Int × Int)) : Nat → Int
  | 0 => 0
  | k + 1 => sumA L k + (spAt L k).1
def sumB (L : List (Int × Int)) : Nat → Int
  | 0 => 0
  | k + 1 => sumB L k + (spAt L k).2
def SmallSp (L : List (Int × Int)) : Prop := ∀ i, (-100000000000000000 ≤ (spAt L i).1 ∧ (spAt L i).1 ≤ 100000000000000000) ∧ (-100000000000000000 ≤ (spAt L i).2 ∧ (spAt L i).2 ≤ 100000000000000000)
theorem sumA_bd {L : List (Int × Int)} (h : SmallSp L) : ∀ k : Nat, -(100000000000000000 * (k : Int)) ≤ sumA L k ∧ sumA L k ≤ 100000000000000000 * (k : Int)
  | 0 => by simp [sumA]
  | k + 1 => by have h1 := sumA_bd h k; have h2 := (h k).1; simp only [sumA]; omega
theorem sumB_bd {L : List (Int × Int)} (h : SmallSp L) : ∀ k : Nat, -(100000000000000000 * (k : Int)) ≤ sumB L k ∧ sumB L k ≤ 100000000000000000 * (k : Int)
  | 0 => by simp [sumB]
  | k + 1 => by have h1 := sumB_bd h k; have h2 := (h k).2; simp only [sumB]; omega
/-- the boxes of sum: the result, the sum so far -/
structure SumIn (w X : World) (x y : Int) : Prop where
  r0 : X.cell? ⟨w.heap.size, 0, none⟩ = some (.int .i64 0)
  r1 : X.cell? ⟨w.heap.size, 1, none⟩ = some (.int .i64 0)
  g0 : X.frozen? ⟨w.heap.size, 0, none⟩ = false
  g1 : X.frozen? ⟨w.heap.size, 1, none⟩ = false
  a0 : X.cell? ⟨w.heap.size + 1, 0, none⟩ = some (.int .i64 x)
  a1 : X.cell? ⟨w.heap.size + 1, 1, none⟩ = some (.int .i64 y)
  f0 : X.frozen? ⟨w.heap.size + 1, 0, none⟩ = false
  f1 : X.frozen? ⟨w.heap.size + 1, 1, none⟩ = false
  bel : Below w.heap.size w X
theorem SumIn.new (w : World) (t : TypeId) : SumIn w ((w.alloc (.cells #[.int .i64 0, .int .i64 0] t)).alloc (.cells #[.int .i64 0, .int .i64 0] t)) 0 0 :=
  ⟨by simp, by simp, by simp, by simp, by simp, by simp, by simp, by simp, below_alloc (below_alloc (Below.refl _ _) _) _⟩
theorem SumIn.next {w X : World} {x y : Int} (h : SumIn w X x y) (o : Obj) (u v : Int) : SumIn w (((X.setCell ⟨w.heap.size + 1, 0, none⟩ (.int .i64 u)).setCell ⟨w.heap.size + 1, 1, none⟩ (.int .i64 v)).alloc o) u v := by
  have hb := below_alloc (Below.refl ((X.setCell ⟨w.heap.size + 1, 0, none⟩ (.int .i64 u)).setCell ⟨w.heap.size + 1, 1, none⟩ (.int .i64 v)).heap.size _) o
  have k : ∀ {i : Nat} {z : Value}, X.cell? ⟨w.heap.size, i, none⟩ = some z → ((X.setCell ⟨w.heap.size + 1, 0, none⟩ (.int .i64 u)).setCell ⟨w.heap.size + 1, 1, none⟩ (.int .i64 v)).cell? ⟨w.heap.size, i, none⟩ = some z := fun hz => by
    rw [World.cell?_setCell_far _ _ _ _ (show w.heap.size + 1 ≠ w.heap.size by omega), World.cell?_setCell_far _ _ _ _ (show w.heap.size + 1 ≠ w.heap.size by omega)]
    exact hz
  have fz : ∀ {b i : Nat}, X.frozen? ⟨b, i, none⟩ = false → ((X.setCell ⟨w.heap.size + 1, 0, none⟩ (.int .i64 u)).setCell ⟨w.heap.size + 1, 1, none⟩ (.int .i64 v)).frozen? ⟨b, i, none⟩ = false := fun hf => by
    rw [World.frozen?_setCell, World.frozen?_setCell]
    exact hf
  have e0 : ((X.setCell ⟨w.heap.size + 1, 0, none⟩ (.int .i64 u)).setCell ⟨w.heap.size + 1, 1, none⟩ (.int .i64 v)).cell? ⟨w.heap.size + 1, 0, none⟩ = some (.int .i64 u) := by
    rw [World.cell?_setCell_other _ ⟨w.heap.size + 1, 1, none⟩ ⟨w.heap.size + 1, 0, none⟩ _ (fun e => by cases e)]
    exact World.cell?_setCell_same _ _ _ h.a0
  have e1 : ((X.setCell ⟨w.heap.size + 1, 0, none⟩ (.int .i64 u)).setCell ⟨w.heap.size + 1, 1, none⟩ (.int .i64 v)).cell? ⟨w.heap.size + 1, 1, none⟩ = some (.int .i64 v) := by
    have hy : (X.setCell ⟨w.heap.size + 1, 0, none⟩ (.int .i64 u)).cell? ⟨w.heap.size + 1, 1, none⟩ = some (.int .i64 y) := by
      rw [World.cell?_setCell_other _ ⟨w.heap.size + 1, 0, none⟩ ⟨w.heap.size + 1, 1, none⟩ _ (fun e => by cases e)]
      exact h.a1
    exact World.cell?_setCell_same _ _ _ hy
  have bl : Below w.heap.size w ((X.setCell ⟨w.heap.size + 1, 0, none⟩ (.int .i64 u)).setCell ⟨w.heap.size + 1, 1, none⟩ (.int .i64 v)) := (h.bel.setCell (by simp) _).setCell (by simp) _
  exact ⟨cell_below hb (k h.r0), cell_below hb (k h.r1), (hb.frozen (p := ⟨w.heap.size, 0, none⟩) (cell_lt (k h.r0))).trans (fz h.g0), (hb.frozen (p := ⟨w.heap.size, 1, none⟩) (cell_lt (k h.r1))).trans (fz h.g1),
    cell_below hb e0, cell_below hb e1, (hb.frozen (p := ⟨w.heap.size + 1, 0, none⟩) (cell_lt e0)).trans (fz h.f0), (hb.frozen (p := ⟨w.heap.size + 1, 1, none⟩) (cell_lt e1)).trans (fz h.f1), bl.trans (hb.mono bl.size)⟩
set_option maxRecDepth 100000 in
set_option maxHeartbeats 4000000 in
theorem sum_any (L : List (Int × Int)) (b o cap : Nat) (w : World) (hn : L.length ≤ 8) (hs : SmallSp L) (hl : SpsAt w L b o) :
    Calls Tryz.prog 64 #[.slice (some ⟨b, o, none⟩) L.length cap] w fun e w' => e = .returned (.agg #[.int .i64 (sumA L L.length), .int .i64 (sumB L L.length)]) ∧ Below w.heap.size w w' := by
  have HN := Lib.hid hn
  have HS := Lib.hid hs
  have HL := Lib.hid hl
  have H0 := Lib.hid (SumIn.new w 31)
  clear hn hs hl
  go_enter Tryz.func64, Tryz.ntmps64
  go_upto_region 2 with fail
  generalize (w.alloc (.cells #[.int .i64 0, .int .i64 0] 31)).alloc (.cells #[.int .i64 0, .int .i64 0] 31) = W0 at *
  go_wp2_with fail
  go_loopw [5, 8] (fun s5 s8 wx => ∃ (k : Nat) (v5 : Value), k ≤ L.length ∧ s5 = v5 ∧ s8 = .int .i64 (k : Int) ∧ Hid (SumIn w wx (sumA L k) (sumB L k))) (fun _ s8 _ => L.length - (intOf s8).toNat)
  case atStart => exact ⟨0, _, Nat.zero_le _, rfl, rfl, H0⟩
  case round =>
    obtain ⟨k, v5, hk, rfl, rfl, HI⟩ := hrel
    obtain ⟨r0, r1, g0, g1, a0, a1, f0, f1, -⟩ := HI.out
    have zr := cell_lt r0
    have za := cell_lt a0
    by_cases hlt : k < L.length
    · have hki : (k : Int) < L.length := by omega
      have HK := Lib.hid hlt
      obtain ⟨x0, x1⟩ := (HL.out.below HI.out.bel) k hlt
      have zx := cell_lt x0
      have hn := HN.out
      have s1 := sumA_bd HS.out k
      have s2 := sumB_bd HS.out k
      have s3 := HS.out k
      have w1' : IntKind.i64.wrap ((k : Int) + 1) = (k : Int) + 1 := IntWalk.i64_in _ (by omega)
      obtain ⟨SA, hSA⟩ : ∃ z, z = sumA L (k + 1) := ⟨_, rfl⟩
      obtain ⟨SB, hSB⟩ : ∃ z, z = sumB L (k + 1) := ⟨_, rfl⟩
      have eA : SA = sumA L k + (spAt L k).1 := hSA
      have eB : SB = sumB L k + (spAt L k).2 := hSB
      have HSA := Lib.hid hSA
      have HSB := Lib.hid hSB
      have HNX := Lib.hid (fun (o : Obj) => HI.out.next o SA SB)
      clear hSA hSB
      generalize sumA L k = sa at *
      generalize sumB L k = sb at *
      generalize (spAt L k).1 = pa at *
      generalize (spAt L k).2 = pb at *
      have k1 : IntKind.i64.wrap (sa + pa) = SA := by rw [eA]; exact IntWalk.i64_in _ (by omega)
      have k2 : IntKind.i64.wrap (sb + pb) = SB := by rw [eB]; exact IntWalk.i64_in _ (by omega)
      clear eA eB s1 s2 s3 hn hlt hk r0 r1 g0 g1 zr
      go_wp2_with fail
      go_roundw
      case rel => exact ⟨k + 1, _, HK.out, rfl, by simp, by rw [← HSA.out, ← HSB.out]; exact Lib.hid (HNX.out _)⟩
      case measure => have := HK.out; simp [intOf]; omega
    · obtain rfl : k = L.length := by omega
      have hki : ¬ (L.length : Int) < L.length := by omega
      clear hlt hk
      go_wp2_with fail
      refine bodyPost_ret (v := .agg #[.int .i64 (sumA L L.length), .int .i64 (sumB L L.length)]) (by simp [results, Tryz.results64, go_sem, r0, r1]) rfl ?_
      exact ⟨rfl, (HI.out.bel.setCell (by simp) _).setCell (by simp) _⟩
end Go.Proofs.YtlelamjbfjneiaaGreatDoor.Ct
