/- Contracts of layer 3: the exported variances. -/
import Derived.Test.YtemblamamgfodaaGreatDoorStO
import Derived.Test.YtemblamamgfodaaGreatDoorStQ
import Derived.Laws.EntriesVeiled
namespace Go.Proofs.YtemblamamgfodaaGreatDoor
open Go Go.RowKit Go.Shelf
theorem variances_any (w : World) :
    Calls Tryz.prog 52 #[] w fun e w' => e = .returned (.agg #[.func (.func 95) #[] #[], .func (.func 94) #[] #[], .func (.func 97) #[] #[], .func (.func 94) #[] #[], .func (.func 98) #[] #[], .func (.func 99) #[] #[], .func (.func 100) #[] #[], .func (.func 101) #[] #[], .func (.func 98) #[] #[], .func (.func 102) #[] #[]]) ∧ Below w.heap.size w w' := by
  have HB := Lib.hid (below_alloc (Below.refl w.heap.size w) (.cells #[.func (.func 95) #[] #[], .func (.func 94) #[] #[], .func (.func 97) #[] #[], .func (.func 94) #[] #[], .func (.func 98) #[] #[], .func (.func 99) #[] #[], .func (.func 100) #[] #[], .func (.func 101) #[] #[], .func (.func 98) #[] #[], .func (.func 102) #[] #[]] 132))
  go_enter Tryz.func52, Tryz.ntmps52
  go_wp2
  refine bodyPost_ret (v := .agg #[.func (.func 95) #[] #[], .func (.func 94) #[] #[], .func (.func 97) #[] #[], .func (.func 94) #[] #[], .func (.func 98) #[] #[], .func (.func 99) #[] #[], .func (.func 100) #[] #[], .func (.func 101) #[] #[], .func (.func 98) #[] #[], .func (.func 102) #[] #[]]) (by simp [results, Tryz.results52, go_sem]) rfl ⟨rfl, HB.out⟩
theorem of_err (fn fd : Value) (tau : Int) (l : List Int) (p : Option Addr) (cap : Nat) (m : Int) (w : World) (hs : SerIn w l p) (he : stepErr tau l m ≠ 0) :
    Calls Tryz.prog 53 #[.agg #[fn, fd], .agg #[.int .i64 tau, .slice p l.length cap], .int .i64 m] w fun e w' =>
      e = .returned (varVal ⟨0, 0, stepErr tau l m⟩) ∧ Below w.heap.size w w' := by
  have a0 := below_alloc (below_alloc (below_alloc (Below.refl w.heap.size w) (.cells #[fn, fd] 131)) (.cells #[.int .i64 tau, .slice p l.length cap] 56)) (.cells #[.int .i64 0, .int .i64 0] 58)
  have HB0 := Lib.hid (OfBox.start w fn fd tau (.slice p l.length cap))
  have HC := Lib.hid (checkStep_any tau l p cap m _ (hs.below a0))
  have A0 := Lib.hid a0
  have hne : (stepErr tau l m != 0) = true := by simpa using he
  clear hs a0 he
  go_enter Tryz.func53, Tryz.ntmps53
  go_wp2_with fail
  refine HC.out.mono ?_
  rintro e w1 ⟨rfl, hb⟩
  have HB1 := HB0.out.below hb
  have HBB := Lib.hid (A0.out.trans (hb.mono A0.out.size))
  obtain ⟨-, -, -, -, b4, b5, b6, b7⟩ := HB1
  have hz := cell_lt b4
  clear hb
  obtain ⟨r0, r1⟩ := set2 (.int .i64 0) (.int .i64 0) b4 b5
  go_wp2
  refine bodyPost_ret (v := .tuple #[.agg #[.int .i64 0, .int .i64 0], .int .i64 (stepErr tau l m)]) (by simp [results, Tryz.results53, go_sem, r0, r1]) rfl ⟨rfl, ?_⟩
  exact (HBB.out.setCell (p := ⟨w.heap.size + 1 + 1, 0, none⟩) (by show w.heap.size ≤ w.heap.size + 1 + 1; omega) _).setCell (p := ⟨w.heap.size + 1 + 1, 1, none⟩) (by show w.heap.size ≤ w.heap.size + 1 + 1; omega) _
/-- the block of a result -/
def RB (W : World) (b : Nat) : Prop := ∃ u v, W.cell? ⟨b, 0, none⟩ = some u ∧ W.cell? ⟨b, 1, none⟩ = some v ∧ W.frozen? ⟨b, 0, none⟩ = false ∧ W.frozen? ⟨b, 1, none⟩ = false
theorem RB.below {A C : World} {b : Nat} (h : RB A b) (hb : Below A.heap.size A C) : RB C b := by
  obtain ⟨u, v, a0, a1, a2, a3⟩ := h
  exact ⟨u, v, cell_below hb a0, cell_below hb a1, (hb.frozen (p := ⟨b, 0, none⟩) (cell_lt a0)).trans a2, (hb.frozen (p := ⟨b, 1, none⟩) (cell_lt a1)).trans a3⟩
def KS (w : World) (tau : Int) (sv : Value) (w' : World) : Prop :=
  Below w.heap.size w w' ∧ w'.cell? ⟨w.heap.size, 0, none⟩ = some (.int .i64 tau) ∧ w'.cell? ⟨w.heap.size, 1, none⟩ = some sv ∧ Hid (RB w' (w.heap.size + 1))
theorem KS.below {w A C : World} {tau : Int} {sv : Value} (h : KS w tau sv A) (hb : Below A.heap.size A C) : KS w tau sv C :=
  ⟨h.1.trans (hb.mono h.1.size), cell_below hb h.2.1, cell_below hb h.2.2.1, Lib.hid (h.2.2.2.out.below hb)⟩
theorem KS.store {w A : World} {tau : Int} {sv : Value} (h : KS w tau sv A) (a b : Value) : KS w tau sv ((A.setCell ⟨w.heap.size + 1, 0, none⟩ a).setCell ⟨w.heap.size + 1, 1, none⟩ b) := by
  obtain ⟨h1, h2, h3, h4⟩ := h
  obtain ⟨u, v, a0, a1, a2, a3⟩ := h4.out
  refine ⟨(h1.setCell (p := ⟨w.heap.size + 1, 0, none⟩) (by show w.heap.size ≤ w.heap.size + 1; omega) _).setCell (p := ⟨w.heap.size + 1, 1, none⟩) (by show w.heap.size ≤ w.heap.size + 1; omega) _, ?_, ?_, Lib.hid ⟨a, b, (set2 a b a0 a1).1, (set2 a b a0 a1).2, ?_, ?_⟩⟩
  · rw [World.cell?_setCell_far _ _ _ _ (by show w.heap.size + 1 ≠ w.heap.size; omega), World.cell?_setCell_far _ _ _ _ (by show w.heap.size + 1 ≠ w.heap.size; omega)]; exact h2
  · rw [World.cell?_setCell_far _ _ _ _ (by show w.heap.size + 1 ≠ w.heap.size; omega), World.cell?_setCell_far _ _ _ _ (by show w.heap.size + 1 ≠ w.heap.size; omega)]; exact h3
  · rw [World.frozen?_setCell, World.frozen?_setCell]; exact a2
  · rw [World.frozen?_setCell, World.frozen?_setCell]; exact a3
theorem KS.start (w : World) (tau : Int) (sv : Value) : KS w tau sv ((w.alloc (.cells #[.int .i64 tau, sv] 56)).alloc (.cells #[.int .i64 0, .int .i64 0] 58)).drew :=
  ⟨(below_alloc (below_alloc (Below.refl _ _) _) _).trans ⟨rfl, rfl, rfl, Nat.le_refl _, fun _ _ => rfl⟩, by simp [go_sem], by simp [go_sem], Lib.hid ⟨.int .i64 0, .int .i64 0, by simp [go_sem], by simp [go_sem], by simp [go_sem], by simp [go_sem]⟩⟩
theorem variances_keep (w W : World) (tau : Int) (sv : Value) (h : KS w tau sv W) :
    Calls Tryz.prog 52 #[] W fun e w' => e = .returned (.agg #[.func (.func 95) #[] #[], .func (.func 94) #[] #[], .func (.func 97) #[] #[], .func (.func 94) #[] #[], .func (.func 98) #[] #[], .func (.func 99) #[] #[], .func (.func 100) #[] #[], .func (.func 101) #[] #[], .func (.func 98) #[] #[], .func (.func 102) #[] #[]]) ∧ KS w tau sv w' :=
  (variances_any W).mono fun _ _ ⟨he, hb⟩ => ⟨he, h.below hb⟩
def outE (tau : Int) (l : List Int) (m : Int) (xs : stepErr tau l m = 0 → List SInt) (dv : Int) : VarE := if h : stepErr tau l m = 0 then varE (xs h) dv else ⟨0, 0, stepErr tau l m⟩
theorem var_index0 (w : World) : (Instr.index 132 (.agg #[.func (.func 95) #[] #[], .func (.func 94) #[] #[], .func (.func 97) #[] #[], .func (.func 94) #[] #[], .func (.func 98) #[] #[], .func (.func 99) #[] #[], .func (.func 100) #[] #[], .func (.func 101) #[] #[], .func (.func 98) #[] #[], .func (.func 102) #[] #[]]) (.int .i64 0)).run Tryz.prog w = .ok (.agg #[.func (.func 95) #[] #[], .func (.func 94) #[] #[]]) w := by kernel_rfl
theorem var_index1 (w : World) : (Instr.index 132 (.agg #[.func (.func 95) #[] #[], .func (.func 94) #[] #[], .func (.func 97) #[] #[], .func (.func 94) #[] #[], .func (.func 98) #[] #[], .func (.func 99) #[] #[], .func (.func 100) #[] #[], .func (.func 101) #[] #[], .func (.func 98) #[] #[], .func (.func 102) #[] #[]]) (.int .i64 1)).run Tryz.prog w = .ok (.agg #[.func (.func 97) #[] #[], .func (.func 94) #[] #[]]) w := by kernel_rfl
theorem var_index2 (w : World) : (Instr.index 132 (.agg #[.func (.func 95) #[] #[], .func (.func 94) #[] #[], .func (.func 97) #[] #[], .func (.func 94) #[] #[], .func (.func 98) #[] #[], .func (.func 99) #[] #[], .func (.func 100) #[] #[], .func (.func 101) #[] #[], .func (.func 98) #[] #[], .func (.func 102) #[] #[]]) (.int .i64 2)).run Tryz.prog w = .ok (.agg #[.func (.func 98) #[] #[], .func (.func 99) #[] #[]]) w := by kernel_rfl
theorem var_index3 (w : World) : (Instr.index 132 (.agg #[.func (.func 95) #[] #[], .func (.func 94) #[] #[], .func (.func 97) #[] #[], .func (.func 94) #[] #[], .func (.func 98) #[] #[], .func (.func 99) #[] #[], .func (.func 100) #[] #[], .func (.func 101) #[] #[], .func (.func 98) #[] #[], .func (.func 102) #[] #[]]) (.int .i64 3)).run Tryz.prog w = .ok (.agg #[.func (.func 100) #[] #[], .func (.func 101) #[] #[]]) w := by kernel_rfl
theorem var_index4 (w : World) : (Instr.index 132 (.agg #[.func (.func 95) #[] #[], .func (.func 94) #[] #[], .func (.func 97) #[] #[], .func (.func 94) #[] #[], .func (.func 98) #[] #[], .func (.func 99) #[] #[], .func (.func 100) #[] #[], .func (.func 101) #[] #[], .func (.func 98) #[] #[], .func (.func 102) #[] #[]]) (.int .i64 4)).run Tryz.prog w = .ok (.agg #[.func (.func 98) #[] #[], .func (.func 102) #[] #[]]) w := by kernel_rfl
attribute [local go_sem] var_index0 var_index1 var_index2 var_index3 var_index4
def allanE (tau : Int) (l : List Int) (m : Int) : VarE := outE tau l m (fun h => secL l (stepErr_zero h).2.2.1 m.toNat m.toNat (cntS l.length (2 * m.toNat) m.toNat)) (divTwo m tau)
theorem of_allan_keep (tau : Int) (l : List Int) (p : Option Addr) (cap : Nat) (m : Int) (w W : World) (h : KS w tau (.slice p l.length cap) W) (hs : SerIn w l p) :
    Calls Tryz.prog 53 #[.agg #[.func (.func 95) #[] #[], .func (.func 94) #[] #[]], .agg #[.int .i64 tau, .slice p l.length cap], .int .i64 m] W fun e w' =>
      e = .returned (varVal (allanE tau l m)) ∧ KS w tau (.slice p l.length cap) w' := by
  by_cases he : stepErr tau l m = 0
  · obtain ⟨h128, ht, hp, hm⟩ := stepErr_zero he
    have hE : allanE tau l m = _ := dif_pos he
    rw [hE]
    exact (of_allan tau l p cap m W (hs.below h.1) hp h128 hm ht he).mono fun _ _ ⟨a, hb⟩ => ⟨a, h.below hb⟩
  · have hE : allanE tau l m = _ := dif_neg he
    rw [hE]
    exact (of_err _ _ tau l p cap m W (hs.below h.1) he).mono fun _ _ ⟨a, hb⟩ => ⟨a, h.below hb⟩
set_option maxRecDepth 100000 in
set_option maxHeartbeats 1000000 in
theorem allan_any (tau : Int) (l : List Int) (p : Option Addr) (cap : Nat) (m : Int) (w : World) (hs : SerIn w l p) :
    Calls Tryz.prog 45 #[.agg #[.int .i64 tau, .slice p l.length cap], .int .i64 m] w fun e w' => e = .returned (varVal (allanE tau l m)) ∧ Below w.heap.size w w' := by
  have HS := Lib.hid hs
  have hks := KS.start w tau (.slice p l.length cap)
  have HK := Lib.hid hks
  obtain ⟨-, y0, y1, hrb⟩ := id hks
  clear hs hks
  generalize hv : allanE tau l m = v
  have HV := Lib.hid hv
  clear hv
  go_enter Tryz.func45, Tryz.ntmps45
  go_wp2_with fail
  generalize (w.alloc (.cells #[.int .i64 tau, .slice p l.length cap] 56)).alloc (.cells #[.int .i64 0, .int .i64 0] 58) = W1 at *
  go_region_held3 (fun w' => Below w.heap.size w w' ∧ w'.cell? ⟨w.heap.size, 0, none⟩ = some (.int .i64 tau) ∧ w'.cell? ⟨w.heap.size, 1, none⟩ = some (.slice p l.length cap) ∧ Hid (RB w' (w.heap.size + 1)))
    (first | exact HK.out | exact hS3 | exact hS2 | exact KS.store hS3 _ _)
    (first | (go_at_call 52; refine (variances_keep w _ tau (.slice p l.length cap) HK.out).mono ?_; rintro e w2 ⟨rfl, hS2⟩) |
      (go_at_call 53; refine (of_allan_keep tau l p cap m w _ hS2 HS.out).mono ?_; rintro e w3 ⟨rfl, hS3⟩; rw [HV.out]; unfold varVal; obtain ⟨u0, u1, r0, r1, q0, q1⟩ := hS3.2.2.2.out; obtain ⟨z0, z1⟩ := set2 (.int .i64 v.n) (.int .i64 v.d) r0 r1))
  go_wp2
  refine bodyPost_ret (v := varVal v) (by simp [results, Tryz.results45, go_sem, z0, z1, varVal]) rfl ⟨rfl, ?_⟩
  exact (KS.store hS3 _ _).1
def overlappingE (tau : Int) (l : List Int) (m : Int) : VarE := outE tau l m (fun h => secL l (stepErr_zero h).2.2.1 m.toNat 1 (cntS l.length (2 * m.toNat) 1)) (divTwo m tau)
theorem of_overlapping_keep (tau : Int) (l : List Int) (p : Option Addr) (cap : Nat) (m : Int) (w W : World) (h : KS w tau (.slice p l.length cap) W) (hs : SerIn w l p) :
    Calls Tryz.prog 53 #[.agg #[.func (.func 97) #[] #[], .func (.func 94) #[] #[]], .agg #[.int .i64 tau, .slice p l.length cap], .int .i64 m] W fun e w' =>
      e = .returned (varVal (overlappingE tau l m)) ∧ KS w tau (.slice p l.length cap) w' := by
  by_cases he : stepErr tau l m = 0
  · obtain ⟨h128, ht, hp, hm⟩ := stepErr_zero he
    have hE : overlappingE tau l m = _ := dif_pos he
    rw [hE]
    exact (of_overlapping tau l p cap m W (hs.below h.1) hp h128 hm ht he).mono fun _ _ ⟨a, hb⟩ => ⟨a, h.below hb⟩
  · have hE : overlappingE tau l m = _ := dif_neg he
    rw [hE]
    exact (of_err _ _ tau l p cap m W (hs.below h.1) he).mono fun _ _ ⟨a, hb⟩ => ⟨a, h.below hb⟩
set_option maxRecDepth 100000 in
set_option maxHeartbeats 1000000 in
theorem overlapping_any (tau : Int) (l : List Int) (p : Option Addr) (cap : Nat) (m : Int) (w : World) (hs : SerIn w l p) :
    Calls Tryz.prog 15 #[.agg #[.int .i64 tau, .slice p l.length cap], .int .i64 m] w fun e w' => e = .returned (varVal (overlappingE tau l m)) ∧ Below w.heap.size w w' := by
  have HS := Lib.hid hs
  have hks := KS.start w tau (.slice p l.length cap)
  have HK := Lib.hid hks
  obtain ⟨-, y0, y1, hrb⟩ := id hks
  clear hs hks
  generalize hv : overlappingE tau l m = v
  have HV := Lib.hid hv
  clear hv
  go_enter Tryz.func15, Tryz.ntmps15
  go_wp2_with fail
  generalize (w.alloc (.cells #[.int .i64 tau, .slice p l.length cap] 56)).alloc (.cells #[.int .i64 0, .int .i64 0] 58) = W1 at *
  go_region_held3 (fun w' => Below w.heap.size w w' ∧ w'.cell? ⟨w.heap.size, 0, none⟩ = some (.int .i64 tau) ∧ w'.cell? ⟨w.heap.size, 1, none⟩ = some (.slice p l.length cap) ∧ Hid (RB w' (w.heap.size + 1)))
    (first | exact HK.out | exact hS3 | exact hS2 | exact KS.store hS3 _ _)
    (first | (go_at_call 52; refine (variances_keep w _ tau (.slice p l.length cap) HK.out).mono ?_; rintro e w2 ⟨rfl, hS2⟩) |
      (go_at_call 53; refine (of_overlapping_keep tau l p cap m w _ hS2 HS.out).mono ?_; rintro e w3 ⟨rfl, hS3⟩; rw [HV.out]; unfold varVal; obtain ⟨u0, u1, r0, r1, q0, q1⟩ := hS3.2.2.2.out; obtain ⟨z0, z1⟩ := set2 (.int .i64 v.n) (.int .i64 v.d) r0 r1))
  go_wp2
  refine bodyPost_ret (v := varVal v) (by simp [results, Tryz.results15, go_sem, z0, z1, varVal]) rfl ⟨rfl, ?_⟩
  exact (KS.store hS3 _ _).1
def hadamardE (tau : Int) (l : List Int) (m : Int) : VarE := outE tau l m (fun h => thiL l (stepErr_zero h).2.2.1 m.toNat (l.length - 3 * m.toNat)) (divSix m tau)
theorem of_hadamard_keep (tau : Int) (l : List Int) (p : Option Addr) (cap : Nat) (m : Int) (w W : World) (h : KS w tau (.slice p l.length cap) W) (hs : SerIn w l p) :
    Calls Tryz.prog 53 #[.agg #[.func (.func 100) #[] #[], .func (.func 101) #[] #[]], .agg #[.int .i64 tau, .slice p l.length cap], .int .i64 m] W fun e w' =>
      e = .returned (varVal (hadamardE tau l m)) ∧ KS w tau (.slice p l.length cap) w' := by
  by_cases he : stepErr tau l m = 0
  · obtain ⟨h128, ht, hp, hm⟩ := stepErr_zero he
    have hE : hadamardE tau l m = _ := dif_pos he
    rw [hE]
    exact (of_hadamard tau l p cap m W (hs.below h.1) hp h128 hm ht he).mono fun _ _ ⟨a, hb⟩ => ⟨a, h.below hb⟩
  · have hE : hadamardE tau l m = _ := dif_neg he
    rw [hE]
    exact (of_err _ _ tau l p cap m W (hs.below h.1) he).mono fun _ _ ⟨a, hb⟩ => ⟨a, h.below hb⟩
def modifiedE (tau : Int) (l : List Int) (m : Int) : VarE := outE tau l m (fun h => sumsL l (stepErr_zero h).2.2.1 m.toNat) (divMod m tau)
theorem of_modified_keep (tau : Int) (l : List Int) (p : Option Addr) (cap : Nat) (m : Int) (w W : World) (h : KS w tau (.slice p l.length cap) W) (hs : SerIn w l p) :
    Calls Tryz.prog 53 #[.agg #[.func (.func 98) #[] #[], .func (.func 99) #[] #[]], .agg #[.int .i64 tau, .slice p l.length cap], .int .i64 m] W fun e w' =>
      e = .returned (varVal (modifiedE tau l m)) ∧ KS w tau (.slice p l.length cap) w' := by
  by_cases he : stepErr tau l m = 0
  · obtain ⟨h128, ht, hp, hm⟩ := stepErr_zero he
    have hE : modifiedE tau l m = _ := dif_pos he
    rw [hE]
    exact (of_modified tau l p cap m W (hs.below h.1) hp h128 hm ht he).mono fun _ _ ⟨a, hb⟩ => ⟨a, h.below hb⟩
  · have hE : modifiedE tau l m = _ := dif_neg he
    rw [hE]
    exact (of_err _ _ tau l p cap m W (hs.below h.1) he).mono fun _ _ ⟨a, hb⟩ => ⟨a, h.below hb⟩
def timeE (tau : Int) (l : List Int) (m : Int) : VarE := outE tau l m (fun h => sumsL l (stepErr_zero h).2.2.1 m.toNat) (divTime m tau)
theorem of_time_keep (tau : Int) (l : List Int) (p : Option Addr) (cap : Nat) (m : Int) (w W : World) (h : KS w tau (.slice p l.length cap) W) (hs : SerIn w l p) :
    Calls Tryz.prog 53 #[.agg #[.func (.func 98) #[] #[], .func (.func 102) #[] #[]], .agg #[.int .i64 tau, .slice p l.length cap], .int .i64 m] W fun e w' =>
      e = .returned (varVal (timeE tau l m)) ∧ KS w tau (.slice p l.length cap) w' := by
  by_cases he : stepErr tau l m = 0
  · obtain ⟨h128, ht, hp, hm⟩ := stepErr_zero he
    have hE : timeE tau l m = _ := dif_pos he
    rw [hE]
    exact (of_time tau l p cap m W (hs.below h.1) hp h128 hm ht he).mono fun _ _ ⟨a, hb⟩ => ⟨a, h.below hb⟩
  · have hE : timeE tau l m = _ := dif_neg he
    rw [hE]
    exact (of_err _ _ tau l p cap m W (hs.below h.1) he).mono fun _ _ ⟨a, hb⟩ => ⟨a, h.below hb⟩
end Go.Proofs.YtemblamamgfodaaGreatDoor
