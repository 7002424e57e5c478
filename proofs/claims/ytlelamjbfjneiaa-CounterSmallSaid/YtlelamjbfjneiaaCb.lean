/- Contracts of layer 2: the parts of a counter. -/
import Derived.Test.YtlelamjbfjneiaaCa
namespace Go.Proofs.Ytlelamjbfjneiaa.Ct
open Go Go.RowKit
/-- a counter -/
structure Cnt where
  (f o j g r d i : Int)
def cntVal (c : Cnt) : Value := .agg #[.int .i64 c.f, .int .i64 c.o, .int .i64 c.j, .int .i64 c.g, .int .i64 c.r, .int .i64 c.d, .int .i64 c.i]
/-- a counter in a box -/
structure CBox (X : World) (b : Nat) (c : Cnt) : Prop where
  c0 : X.cell? ⟨b, 0, none⟩ = some (.int .i64 c.f)
  c1 : X.cell? ⟨b, 1, none⟩ = some (.int .i64 c.o)
  c2 : X.cell? ⟨b, 2, none⟩ = some (.int .i64 c.j)
  c3 : X.cell? ⟨b, 3, none⟩ = some (.int .i64 c.g)
  c4 : X.cell? ⟨b, 4, none⟩ = some (.int .i64 c.r)
  c5 : X.cell? ⟨b, 5, none⟩ = some (.int .i64 c.d)
  c6 : X.cell? ⟨b, 6, none⟩ = some (.int .i64 c.i)
variable {X Y : World} {b : Nat} {c : Cnt}
def cntObj (c : Cnt) : Obj := .cells #[.int .i64 c.f, .int .i64 c.o, .int .i64 c.j, .int .i64 c.g, .int .i64 c.r, .int .i64 c.d, .int .i64 c.i] 56
theorem CBox.new (X : World) (c : Cnt) : CBox (X.alloc (cntObj c)) X.heap.size c := by
  unfold cntObj
  exact ⟨by simp, by simp, by simp, by simp, by simp, by simp, by simp⟩
theorem CBox.below (h : CBox X b c) (hb : Below X.heap.size X Y) : CBox Y b c :=
  ⟨cell_below hb h.c0, cell_below hb h.c1, cell_below hb h.c2, cell_below hb h.c3, cell_below hb h.c4, cell_below hb h.c5, cell_below hb h.c6⟩
theorem CBox.lt (h : CBox X b c) : b < X.heap.size := cell_lt h.c0
/-- which counters are right -/
structure CntIn (c : Cnt) : Prop where
  f : 1 ≤ c.f ∧ c.f ≤ 1000
  o : -1000000000000 ≤ c.o ∧ c.o ≤ 1000000000000
  j : 0 ≤ c.j ∧ c.j ≤ 1000000000
  g : 1 ≤ c.g ∧ c.g ≤ 1000000000
  r : 1 ≤ c.r ∧ c.r ≤ 1000000000000000
  m : c.r % (2 * c.g) = 0
  d : 1 ≤ c.d ∧ c.d ≤ 100000
  i : 0 ≤ c.i ∧ c.i ≤ 1000000
def wrapS (c : Cnt) (n : Int) : Int := (n + c.r / 2) % c.r - c.r / 2
def roundS (c : Cnt) (n : Int) : Int := (2 * n + c.g) / (2 * c.g) * c.g
def faultS (c : Cnt) : Int := c.j + c.g / 2
theorem wrapS_bd (h : CntIn c) (n : Int) : -(c.r / 2) ≤ wrapS c n ∧ wrapS c n < c.r - c.r / 2 := by
  unfold wrapS
  have := Int.emod_nonneg (n + c.r / 2) (show c.r ≠ 0 by have := h.r; omega)
  have := Int.emod_lt_of_pos (n + c.r / 2) (show 0 < c.r by have := h.r; omega)
  omega
theorem roundS_bd (h : CntIn c) (n : Int) : 2 * n - c.g < 2 * roundS c n ∧ 2 * roundS c n ≤ 2 * n + c.g := by
  unfold roundS
  have hg := h.g
  have h1 := Int.emod_add_mul_ediv (2 * n + c.g) (2 * c.g)
  have h2 := Int.emod_nonneg (2 * n + c.g) (show 2 * c.g ≠ 0 by omega)
  have h3 := Int.emod_lt_of_pos (2 * n + c.g) (show 0 < 2 * c.g by omega)
  have h4 : 2 * c.g * ((2 * n + c.g) / (2 * c.g)) = 2 * ((2 * n + c.g) / (2 * c.g) * c.g) := by grind
  omega
set_option maxRecDepth 100000 in
set_option maxHeartbeats 1000000 in
theorem wrap_any (c : Cnt) (n : Int) (w : World) (h : CntIn c) (hn : -4000000000000000000 ≤ n ∧ n ≤ 4000000000000000000) :
    Calls Try.prog 41 #[cntVal c, .int .i64 n] w fun e w' => e = .returned (.int .i64 (wrapS c n)) ∧ Below w.heap.size w w' := by
  have hr := h.r
  have a0 := below_alloc (Below.refl w.heap.size w) (cntObj c)
  have A0 := Lib.hid a0
  obtain ⟨-, -, -, -, c4, -, -⟩ := CBox.new w c
  have hz := cell_lt c4
  have k1 : IntKind.i64.wrap (c.r.tdiv 2) = c.r / 2 := IntWalk.i64_quo c.r 2 (by omega)
  have k2 : IntKind.i64.wrap (n + c.r / 2) = n + c.r / 2 := IntWalk.i64_in _ (by omega)
  have hb := wrapS_bd h n
  have k3 : IntKind.i64.wrap ((n + c.r / 2) % c.r - c.r / 2) = wrapS c n := IntWalk.i64_in _ (by unfold wrapS at hb; omega)
  have HM := Lib.hid (fun W => (modulo_any (n + c.r / 2) c.r W (by omega)).mono fun _ _ ⟨h1, h2⟩ => And.intro h1 h2.symm)
  clear a0 hb
  unfold cntObj at A0 c4 hz
  unfold cntVal
  go_enter Try.func41, Try.ntmps41
  go_wp2
  go_quiet ((go_at_call 68; exact Calls.quiet_of_same (HM.out _)))
  go_wp2
  go_ret
  exact ⟨rfl, below_drewN A0.out _⟩
set_option maxRecDepth 100000 in
set_option maxHeartbeats 1000000 in
theorem round_any (c : Cnt) (n : Int) (w : World) (h : CntIn c) (hn : -2000000000000000000 ≤ n ∧ n ≤ 2000000000000000000) :
    Calls Try.prog 42 #[cntVal c, .int .i64 n] w fun e w' => e = .returned (.int .i64 (roundS c n)) ∧ Below w.heap.size w w' := by
  have hg := h.g
  have a0 := below_alloc (Below.refl w.heap.size w) (cntObj c)
  have A0 := Lib.hid a0
  obtain ⟨-, -, -, c3, -, -, -⟩ := CBox.new w c
  have hz := cell_lt c3
  have k1 : IntKind.i64.wrap (2 * n) = 2 * n := IntWalk.i64_in _ (by omega)
  have k2 : IntKind.i64.wrap (2 * n + c.g) = 2 * n + c.g := IntWalk.i64_in _ (by omega)
  have k3 : IntKind.i64.wrap (2 * c.g) = 2 * c.g := IntWalk.i64_in _ (by omega)
  have hb := roundS_bd h n
  have k4 : IntKind.i64.wrap ((2 * n + c.g) / (2 * c.g) * c.g) = roundS c n := IntWalk.i64_in _ (by unfold roundS at hb; omega)
  have HM := Lib.hid (fun W => (floor_any (2 * n + c.g) (2 * c.g) W (by omega) (by omega)).mono fun _ _ ⟨h1, h2⟩ => And.intro h1 h2.symm)
  clear a0 hb
  unfold cntObj at A0 c3 hz
  unfold cntVal
  go_enter Try.func42, Try.ntmps42
  go_wp2
  go_quiet ((go_at_call 69; exact Calls.quiet_of_same (HM.out _)))
  go_wp2
  go_ret
  exact ⟨rfl, below_drewN A0.out _⟩
theorem error_any (c : Cnt) (w : World) (h : CntIn c) :
    Calls Try.prog 36 #[cntVal c] w fun e w' => e = .returned (.int .i64 (faultS c)) ∧ Below w.heap.size w w' := by
  have hg := h.g
  have hj := h.j
  have A0 := Lib.hid (below_alloc (Below.refl w.heap.size w) (cntObj c))
  obtain ⟨-, -, c2, c3, -, -, -⟩ := CBox.new w c
  have hz := cell_lt c3
  have k1 : IntKind.i64.wrap (c.g.tdiv 2) = c.g / 2 := IntWalk.i64_quo c.g 2 (by omega)
  have k2 : IntKind.i64.wrap (c.j + c.g / 2) = faultS c := IntWalk.i64_in _ (by omega)
  unfold cntObj at A0 c2 c3 hz
  unfold cntVal
  go_enter Try.func36, Try.ntmps36
  go_wp2
  go_ret
  exact ⟨ret_i64 rfl, A0.out⟩
def showB (c : Cnt) (m : Int) : Bool := decide (-(c.r / 2) ≤ m) && decide (m ≤ c.r / 2 - 1)
theorem canShow_any (c : Cnt) (m : Int) (w : World) (h : CntIn c) :
    Calls Try.prog 35 #[cntVal c, .int .i64 m] w fun e w' => e = .returned (.bool (showB c m)) ∧ Below w.heap.size w w' := by
  have hr := h.r
  have A0 := Lib.hid (below_alloc (Below.refl w.heap.size w) (cntObj c))
  obtain ⟨-, -, -, -, c4, -, -⟩ := CBox.new w c
  have hz := cell_lt c4
  have k1 : IntKind.i64.wrap (c.r.tdiv 2) = c.r / 2 := IntWalk.i64_quo c.r 2 (by omega)
  have k2 : IntKind.i64.wrap (-c.r) = -c.r := IntWalk.i64_in _ (by omega)
  have k3 : wrap64 (-c.r.tdiv 2) = -(c.r / 2) := by
    rw [Int.tdiv_eq_ediv_of_nonneg (by omega)]; exact IntWalk.wrap64_in _ (by omega)
  have k4 : IntKind.i64.wrap (c.r / 2 - 1) = c.r / 2 - 1 := IntWalk.i64_in _ (by omega)
  have HW := Lib.hid (fun W => within_any m (-(c.r / 2)) (c.r / 2 - 1) W)
  have HB := Lib.hid (show (decide (-(c.r / 2) ≤ m) && decide (m ≤ c.r / 2 - 1)) = showB c m from rfl)
  rw [HB.out] at HW
  generalize showB c m = bv at *
  clear HB
  unfold cntObj at A0 c4 hz
  unfold cntVal
  go_enter Try.func35, Try.ntmps35
  go_wp2_with (go_at_call 33; refine (HW.out _).mono ?_; rintro e w1 ⟨rfl, rfl⟩)
  go_ret
  exact ⟨rfl, A0.out⟩
def meetB (c : Cnt) (s : Int) : Bool := (decide (0 ≤ s) && decide (s ≤ 1000000)) && decide (s % c.d = 0)
set_option maxRecDepth 100000 in
theorem measuresAt_any (c : Cnt) (s : Int) (w : World) (h : CntIn c) :
    Calls Try.prog 38 #[cntVal c, .int .i64 s] w fun e w' => e = .returned (.bool (meetB c s)) ∧ Below w.heap.size w w' := by
  have hd := h.d
  have A0 := Lib.hid (below_alloc (Below.refl w.heap.size w) (cntObj c))
  obtain ⟨-, -, -, -, -, c5, -⟩ := CBox.new w c
  have hz := cell_lt c5
  unfold cntObj at A0 c5 hz
  unfold cntVal
  by_cases hs : 0 ≤ s ∧ s ≤ 1000000
  · have HW := Lib.hid (fun W => within_yes s 0 1000000 W hs)
    have HE := Lib.hid (show meetB c s = decide (s % c.d = 0) by simp [meetB, hs])
    have hne : (c.d == 0) = false := by simp; omega
    have hnz : ¬ c.d = 0 := by omega
    rw [HE.out]
    by_cases hm : s % c.d = 0
    · have HM := Lib.hid hm
      have hmm : (s % c.d == 0) = true := by simp [hm]
      rw [show decide (s % c.d = 0) = true by simp [hm]]
      clear hm
      go_enter Try.func38, Try.ntmps38
      go_wp2_with (go_at_call 33; refine (HW.out _).mono ?_; rintro e w1 ⟨rfl, rfl⟩)
      go_ret
      exact ⟨rfl, A0.out⟩
    · have hmm : (s % c.d == 0) = false := by simpa using hm
      rw [show decide (s % c.d = 0) = false by simp [hm]]
      clear hm
      go_enter Try.func38, Try.ntmps38
      go_wp2_with (go_at_call 33; refine (HW.out _).mono ?_; rintro e w1 ⟨rfl, rfl⟩)
      go_ret
      exact ⟨rfl, A0.out⟩
  · have HW := Lib.hid (fun W => within_no s 0 1000000 W hs)
    rw [show meetB c s = false by unfold meetB; rw [show (decide (0 ≤ s) && decide (s ≤ 1000000)) = false by simpa using hs]; rfl]
    clear hs
    go_enter Try.func38, Try.ntmps38
    go_wp2_with (go_at_call 33; refine (HW.out _).mono ?_; rintro e w1 ⟨rfl, rfl⟩)
    go_ret
    exact ⟨rfl, A0.out⟩
set_option maxRecDepth 100000 in
theorem isDifference_any (d : Int) (w : World) :
    Calls Try.prog 39 #[.int .i64 d] w fun e w' => e = .returned (.bool (decide (-1000000000000000 ≤ d) && decide (d ≤ 1000000000000000))) ∧ w = w' := by
  have HW := Lib.hid (fun W => within_any d (-1000000000000000) 1000000000000000 W)
  generalize (decide (-1000000000000000 ≤ d) && decide (d ≤ 1000000000000000)) = bv at *
  go_enter Try.func39, Try.ntmps39
  go_wp2_with (go_at_call 33; refine (HW.out _).mono ?_; rintro e w1 ⟨rfl, rfl⟩)
  go_ret
  exact ⟨rfl, rfl⟩
set_option maxRecDepth 100000 in
theorem Draw_any (sd ki cl ix mo : Int) (w : World) (b1 : 0 ≤ ki ∧ ki ≤ 9223372036854775807) (b2 : 0 ≤ cl ∧ cl ≤ 9223372036854775807) (b3 : 0 ≤ ix ∧ ix ≤ 9223372036854775807) (b4 : 0 ≤ mo ∧ mo ≤ 1000000000000000) :
    Calls Try.prog 40 #[.int .u64 sd, .int .i64 ki, .int .i64 cl, .int .i64 ix, .int .i64 mo] w fun e w' => e = .returned (.tuple #[.int .i64 (drawS (sourceS sd ki cl) ix mo), .int .i64 0]) ∧ w = w' := by
  have HW := Lib.hid (fun W => within_yes mo 0 1000000000000000 W b4)
  have HS := Lib.hid (fun W => source_any sd ki cl W b1.1 b1.2 b2.1 b2.2)
  have HD := Lib.hid (fun W => draw_any (sourceS sd ki cl) ix mo W b3.1 b3.2 b4.1 b4.2)
  go_enter Try.func40, Try.ntmps40
  go_wp2_with (first | (go_at_call 33; refine (HW.out _).mono ?_; rintro e w' ⟨rfl, rfl⟩) | (go_at_call 67; refine (HS.out _).mono ?_; rintro e w' ⟨rfl, rfl⟩) | (go_at_call 66; refine (HD.out _).mono ?_; rintro e w' ⟨rfl, rfl⟩))
  go_ret2
  exact ⟨rfl, rfl⟩
end Go.Proofs.Ytlelamjbfjneiaa.Ct
