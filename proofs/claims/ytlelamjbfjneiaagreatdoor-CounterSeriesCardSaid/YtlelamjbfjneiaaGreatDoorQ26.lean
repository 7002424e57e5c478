/- Contracts: the calls of package world that hand back one number, or a bool. · Contracts: the calls of package world that hand back a pair of numbers. -/
import Derived.Test.YtlelamjbfjneiaaGreatDoorQ25
namespace Go.Proofs.YtlelamjbfjneiaaGreatDoor.Wd
open Go Go.RowKit
/-- the box of a world, and a slice of seconds behind it -/
def wldObj (W : Wld) (p1 p2 : Option Addr) (k1 k2 : Nat) : Obj := .cells #[.int .u64 W.seed, .slice p1 W.chs.length k1, .slice p2 W.cls.length k2] 38
theorem phase_any (W : Wld) (k s : Int) (p1 p2 : Option Addr) (k1 k2 : Nat) (w : World) (ht : Tabs w) (hW : WldIn w W p1 p2) :
    Calls Tryz.prog 62 #[wldVal W p1 p2 k1 k2, .int .i64 k, .int .i64 s] w fun e w' => e = .returned (.tuple #[.int .i64 (phaseE W k s).v, .int .i64 (phaseE W k s).e]) ∧ Below w.heap.size w w' := by
  have a0 : Below w.heap.size w ((w.alloc (wldObj W p1 p2 k1 k2)).alloc (.cells #[.int .i64 s] 3)) := by unfold wldObj; go_grown
  have x0 : ((w.alloc (wldObj W p1 p2 k1 k2)).alloc (.cells #[.int .i64 s] 3)).cell? ⟨w.heap.size + 1, 0, none⟩ = some (.int .i64 s) := by simp [go_sem]
  have HT := Lib.hid ht
  have HW := Lib.hid hW
  have A0 := Lib.hid a0
  have X0 := Lib.hid x0
  by_cases he : findErr W k [s] = 0
  · have hfin := show phaseE W k s = _ from if_pos he
    have hall := allowed_find he
    have hsec := sec_of he
    have HF := Lib.hid hfin
    have HE := Lib.hid he
    have HA := Lib.hid hall
    clear he hfin hall ht hW a0 x0
    obtain ⟨s0, s1⟩ := hsec
    unfold wldVal
    go_enter Tryz.func62, Tryz.ntmps62
    go_wp2_with fail
    refine (find_ok W k [s] p1 p2 _ k1 k2 1 w _ A0.out HT.out HW.out (secs_one X0.out) HE.out).mono ?_
    rintro e w1 ⟨a, m, v, rfl, hat, hb, hage⟩
    have HAT := Lib.hid hat
    have HB := Lib.hid hb
    clear hat hb
    go_wp2_with fail
    refine (phase_at s _ HAT.out HA.out.cin HA.out.rok HA.out.k16 s0 s1).mono ?_
    rintro e w2 ⟨rfl, hb2⟩
    have HB2 := Lib.hid hb2
    clear hb2
    go_wp2
    go_ret2
    exact ⟨by rw [HF.out]; rfl, HB.out.trans (HB2.out.mono HB.out.size)⟩
  · have hfin := show phaseE W k s = _ from if_neg he
    have hne : (findErr W k [s] != 0) = true := by simpa using he
    have HF := Lib.hid hfin
    have HE := Lib.hid he
    clear he hfin ht hW a0 x0
    unfold wldVal
    go_enter Tryz.func62, Tryz.ntmps62
    go_wp2_with fail
    refine (find_no W k [s] p1 p2 _ k1 k2 1 w _ A0.out HT.out HW.out (secs_one X0.out) HE.out).mono ?_
    rintro e w1 ⟨rfl, hb⟩
    have HB := Lib.hid hb
    clear hb
    go_wp2
    go_ret2
    exact ⟨by rw [HF.out]; rfl, HB.out⟩
/-- what findRunning hands back -/
theorem findRunning_ok (W : Wld) (k s : Int) (p1 p2 : Option Addr) (k1 k2 : Nat) (w X : World) (hb : Below w.heap.size w X) (ht : Tabs w) (hW : WldIn w W p1 p2) (he : runErr W k s = 0) :
    Calls Tryz.prog 55 #[wldVal W p1 p2 k1 k2, .int .i64 k, .int .i64 s] X (Found W k w.heap.size w) := by
  obtain ⟨he0, hr0⟩ := runErr_zero he
  have a0 : Below w.heap.size w ((X.alloc (wldObj W p1 p2 k1 k2)).alloc (.cells #[.int .i64 s] 3)) := below_alloc (below_alloc hb _) _
  have x0 : ((X.alloc (wldObj W p1 p2 k1 k2)).alloc (.cells #[.int .i64 s] 3)).cell? ⟨X.heap.size + 1, 0, none⟩ = some (.int .i64 s) := by simp [go_sem]
  have hall := allowed_find he0
  have hsec := sec_of he0
  have HT := Lib.hid ht
  have HW := Lib.hid hW
  have A0 := Lib.hid a0
  have X0 := Lib.hid x0
  have HE := Lib.hid he0
  have HA := Lib.hid hall
  have hr1 : (!(pastS s (clkOf W k).evs).stopped) = true := hr0
  clear he he0 hall ht hW a0 x0 hb hr0
  obtain ⟨s0, s1⟩ := hsec
  unfold wldVal
  go_enter Tryz.func55, Tryz.ntmps55
  go_wp2_with fail
  refine (find_ok W k [s] p1 p2 _ k1 k2 1 w _ A0.out HT.out HW.out (secs_one X0.out) HE.out).mono ?_
  rintro e w1 ⟨a, m, v, rfl, hat, hb, hage⟩
  have HAT := Lib.hid hat
  have HB := Lib.hid hb
  clear hat hb
  go_wp2_with fail
  refine (runs_at s _ HAT.out HA.out.cin.evs s0 s1).mono ?_
  rintro e w2 ⟨rfl, hb2⟩
  have HB2 := Lib.hid hb2
  clear hb2
  go_wp2
  go_ret2
  exact ⟨a, m, v, rfl, HAT.out.below HB2.out, HB.out.trans (HB2.out.mono HB.out.size), hage⟩
theorem findRunning_no (W : Wld) (k s : Int) (p1 p2 : Option Addr) (k1 k2 : Nat) (w X : World) (hb : Below w.heap.size w X) (ht : Tabs w) (hW : WldIn w W p1 p2) (he : runErr W k s ≠ 0) :
    Calls Tryz.prog 55 #[wldVal W p1 p2 k1 k2, .int .i64 k, .int .i64 s] X fun e w' => e = .returned (.tuple #[.pointer none, .int .i64 (runErr W k s)]) ∧ Below w.heap.size w w' := by
  have a0 : Below w.heap.size w ((X.alloc (wldObj W p1 p2 k1 k2)).alloc (.cells #[.int .i64 s] 3)) := below_alloc (below_alloc hb _) _
  have x0 : ((X.alloc (wldObj W p1 p2 k1 k2)).alloc (.cells #[.int .i64 s] 3)).cell? ⟨X.heap.size + 1, 0, none⟩ = some (.int .i64 s) := by simp [go_sem]
  have HT := Lib.hid ht
  have HW := Lib.hid hW
  have A0 := Lib.hid a0
  have X0 := Lib.hid x0
  by_cases he0 : findErr W k [s] = 0
  · have hall := allowed_find he0
    have hsec := sec_of he0
    have hfin : runErr W k s = if runsS (clkOf W k) s = true then 0 else 22 := if_pos he0
    have hr1 : (!(pastS s (clkOf W k).evs).stopped) = false := by
      cases h : runsS (clkOf W k) s
      · exact h
      · rw [h, if_pos rfl] at hfin; exact absurd hfin he
    have hfin2 : runErr W k s = 22 := by rw [hfin, show runsS (clkOf W k) s = false from hr1]; rfl
    have HF := Lib.hid hfin2
    have HE := Lib.hid he0
    have HA := Lib.hid hall
    clear he he0 hall ht hW a0 x0 hb hfin hfin2
    obtain ⟨s0, s1⟩ := hsec
    unfold wldVal
    go_enter Tryz.func55, Tryz.ntmps55
    go_wp2_with fail
    refine (find_ok W k [s] p1 p2 _ k1 k2 1 w _ A0.out HT.out HW.out (secs_one X0.out) HE.out).mono ?_
    rintro e w1 ⟨a, m, v, rfl, hat, hb, hage⟩
    have HAT := Lib.hid hat
    have HB := Lib.hid hb
    clear hat hb
    go_wp2_with fail
    refine (runs_at s _ HAT.out HA.out.cin.evs s0 s1).mono ?_
    rintro e w2 ⟨rfl, hb2⟩
    have HB2 := Lib.hid hb2
    clear hb2
    go_wp2
    go_ret2
    exact ⟨by rw [HF.out]; rfl, HB.out.trans (HB2.out.mono HB.out.size)⟩
  · have hfin : runErr W k s = findErr W k [s] := if_neg he0
    have hne : (findErr W k [s] == 0) = false := by simpa using he0
    have HF := Lib.hid hfin
    have HE := Lib.hid he0
    clear he he0 hfin ht hW a0 x0 hb
    unfold wldVal
    go_enter Tryz.func55, Tryz.ntmps55
    go_wp2_with fail
    refine (find_no W k [s] p1 p2 _ k1 k2 1 w _ A0.out HT.out HW.out (secs_one X0.out) HE.out).mono ?_
    rintro e w1 ⟨rfl, hb⟩
    have HB := Lib.hid hb
    clear hb
    go_wp2
    go_ret2
    exact ⟨by rw [HF.out]; rfl, HB.out⟩
theorem shown_any (W : Wld) (k s : Int) (p1 p2 : Option Addr) (k1 k2 : Nat) (w : World) (ht : Tabs w) (hW : WldIn w W p1 p2) :
    Calls Tryz.prog 26 #[wldVal W p1 p2 k1 k2, .int .i64 k, .int .i64 s] w fun e w' => e = .returned (.tuple #[.int .i64 (shownE W k s).v, .int .i64 (shownE W k s).e]) ∧ Below w.heap.size w w' := by
  have a0 : Below w.heap.size w (w.alloc (wldObj W p1 p2 k1 k2)) := below_alloc (Below.refl _ _) _
  have HT := Lib.hid ht
  have HW := Lib.hid hW
  have A0 := Lib.hid a0
  by_cases he : runErr W k s = 0
  · have hfin := show shownE W k s = _ from if_pos he
    have hall := allowed_find (runErr_zero he).1
    have hsec := sec_of (runErr_zero he).1
    have HF := Lib.hid hfin
    have HE := Lib.hid he
    have HA := Lib.hid hall
    clear he hfin hall ht hW a0
    obtain ⟨s0, s1⟩ := hsec
    unfold wldVal
    go_enter Tryz.func26, Tryz.ntmps26
    go_wp2_with fail
    refine (findRunning_ok W k s p1 p2 k1 k2 w _ A0.out HT.out HW.out HE.out).mono ?_
    rintro e w1 ⟨a, m, v, rfl, hat, hb, hage⟩
    have HAT := Lib.hid hat
    have HB := Lib.hid hb
    clear hat hb
    go_wp2_with fail
    refine (shown_at s _ HAT.out HA.out.cin HA.out.rok HA.out.k16 s0 s1).mono ?_
    rintro e w2 ⟨rfl, hb2⟩
    have HB2 := Lib.hid hb2
    clear hb2
    go_wp2
    go_ret2
    exact ⟨by rw [HF.out]; rfl, HB.out.trans (HB2.out.mono HB.out.size)⟩
  · have hfin := show shownE W k s = _ from if_neg he
    have hne : (runErr W k s != 0) = true := by simpa using he
    have HF := Lib.hid hfin
    have HE := Lib.hid he
    clear he hfin ht hW a0
    unfold wldVal
    go_enter Tryz.func26, Tryz.ntmps26
    go_wp2_with fail
    refine (findRunning_no W k s p1 p2 k1 k2 w _ A0.out HT.out HW.out HE.out).mono ?_
    rintro e w1 ⟨rfl, hb⟩
    have HB := Lib.hid hb
    clear hb
    go_wp2
    go_ret2
    exact ⟨by rw [HF.out]; rfl, HB.out⟩
theorem draw_exp (sd ki cl ix mo : Int) (w : World) (b1 : ki ≤ 9223372036854775807) (b2 : cl ≤ 9223372036854775807) (b3 : ix ≤ 9223372036854775807) :
    Calls Tryz.prog 46 #[.int .u64 sd, .int .i64 ki, .int .i64 cl, .int .i64 ix, .int .i64 mo] w fun e w' => e = .returned (.tuple #[.int .i64 (drawE sd ki cl ix mo).v, .int .i64 (drawE sd ki cl ix mo).e]) ∧ w = w' := by
  by_cases h : drawOk ki cl ix mo = true
  · have hf := show drawE sd ki cl ix mo = _ from if_pos h
    have HF := Lib.hid hf
    clear hf
    simp only [drawOk, Bool.and_eq_true, decide_eq_true_eq] at h
    obtain ⟨h1, h2, h3, h4⟩ := h
    have h5 := inR_true h4
    go_enter Tryz.func46, Tryz.ntmps46
    go_wp2_with (first | (go_at_call 30; refine (within_any _ _ _ _).mono ?_; rintro e w' ⟨rfl, rfl⟩) | (go_at_call 72; refine (source_any _ _ _ _ (by omega) (by omega) (by omega) (by omega)).mono ?_; rintro e w' ⟨rfl, rfl⟩) |
      (go_at_call 71; refine (draw_any _ _ _ _ (by omega) (by omega) (by omega) (by omega)).mono ?_; rintro e w' ⟨rfl, rfl⟩))
    go_ret2
    exact ⟨by rw [HF.out]; rfl, rfl⟩
  · have hf := show drawE sd ki cl ix mo = _ from if_neg h
    have HF := Lib.hid hf
    clear hf
    by_cases h1 : 0 ≤ ki
    · by_cases h2 : 0 ≤ cl
      · by_cases h3 : 0 ≤ ix
        · have h4 : inR mo 0 1000000000000000 = false := by
            cases h4 : inR mo 0 1000000000000000
            · rfl
            · simp [drawOk, h1, h2, h3, h4] at h
          clear h
          go_enter Tryz.func46, Tryz.ntmps46
          go_wp2_with (go_at_call 30; refine (within_any _ _ _ _).mono ?_; rintro e w' ⟨rfl, rfl⟩)
          go_ret2
          exact ⟨by rw [HF.out]; rfl, rfl⟩
        · clear h
          go_enter Tryz.func46, Tryz.ntmps46
          go_wp2
          go_ret2
          exact ⟨by rw [HF.out]; rfl, rfl⟩
      · clear h
        go_enter Tryz.func46, Tryz.ntmps46
        go_wp2
        go_ret2
        exact ⟨by rw [HF.out]; rfl, rfl⟩
    · clear h
      go_enter Tryz.func46, Tryz.ntmps46
      go_wp2
      go_ret2
      exact ⟨by rw [HF.out]; rfl, rfl⟩
end Go.Proofs.YtlelamjbfjneiaaGreatDoor.Wd
namespace Go.Proofs.YtlelamjbfjneiaaGreatDoor.Wd
open Go Go.RowKit
theorem two_c0 {w : World} {b : Nat} {x : Value} (u : Value) (h : w.cell? ⟨b, 0, none⟩ = some x) : (w.setCell ⟨b, 0, none⟩ u).cell? ⟨b, 0, none⟩ = some u := World.cell?_setCell_same _ _ _ h
theorem two_c1 {w : World} {b : Nat} {x : Value} (u v : Value) (h : w.cell? ⟨b, 1, none⟩ = some x) : ((w.setCell ⟨b, 0, none⟩ u).setCell ⟨b, 1, none⟩ v).cell? ⟨b, 1, none⟩ = some v :=
  World.cell?_setCell_same _ _ _ (u := x) (by rw [World.cell?_setCell_other]; exact h; simp)
/-- a block of two numbers that a call has made for its result -/
def Res (w : World) (b : Nat) : Prop := (w.cell? ⟨b, 0, none⟩ = some (.int .i64 0) ∧ w.cell? ⟨b, 1, none⟩ = some (.int .i64 0)) ∧ (w.frozen? ⟨b, 0, none⟩ = false ∧ w.frozen? ⟨b, 1, none⟩ = false)
theorem Res.below {w w' : World} {b : Nat} (h : Res w b) (hb : Below w.heap.size w w') : Res w' b :=
  ⟨⟨cell_below hb h.1.1, cell_below hb h.1.2⟩, (hb.frozen (p := ⟨b, 0, none⟩) (cell_lt h.1.1)).trans h.2.1, (hb.frozen (p := ⟨b, 1, none⟩) (cell_lt h.1.1)).trans h.2.2⟩
theorem below_sets {w X : World} {b : Nat} {u v : Value} (h : Below w.heap.size w X) (hb : w.heap.size ≤ b) : Below w.heap.size w ((X.setCell ⟨b, 0, none⟩ u).setCell ⟨b, 1, none⟩ v) := (h.setCell hb _).setCell hb _
theorem Keeps.set {n₀ sb o : Nat} {A B : World} (v : Value) (h : Keeps n₀ sb A B) : Keeps n₀ sb A (B.setCell ⟨sb, o, none⟩ v) :=
  ⟨by simpa using h.1, fun k hk hs => (Below.heap_setCell _ _ _ _ hs).trans (h.2 k hk hs)⟩
theorem fixed_keep {W0 : World} {a m : Nat} {c : Clk} {seed k : Int} {r : Cham} {v : Value} (s : Int) (w : World) (hb : Below W0.heap.size W0 w) (h : AtWork W0 a m c seed k r v) (hc : ClkIn c) (hr : chamOk r = true) (h0 : 0 ≤ s) (h1 : s ≤ 1000000) :
    Calls Tryz.prog 98 #[.pointer (some ⟨a, 0, none⟩), .int .i64 s] w fun e w' => e = .returned (.int .i64 (fixedS c r s)) ∧ Below W0.heap.size W0 w' :=
  (fixed_at s w (h.below hb) hc hr h0 h1).mono fun _ _ ⟨a, b⟩ => ⟨a, hb.trans (b.mono hb.size)⟩
theorem around_keep {W0 : World} (a b : Int) (w : World) (hb0 : Below W0.heap.size W0 w) (h : -4000000000000000000 ≤ a ∧ a ≤ 4000000000000000000) (hb : 0 ≤ b ∧ b ≤ 4000000000000000000) :
    Calls Tryz.prog 97 #[.int .i64 a, .int .i64 b] w fun e w' => e = .returned (.agg #[.int .i64 (a - b), .int .i64 (a + b)]) ∧ Below W0.heap.size W0 w' :=
  (around_any a b w h hb).mono fun _ _ ⟨x, y⟩ => ⟨x, hb0.trans (y.mono hb0.size)⟩
set_option maxRecDepth 100000 in
set_option maxHeartbeats 2000000 in
theorem growth_any (W : Wld) (k x y : Int) (p1 p2 : Option Addr) (k1 k2 : Nat) (w : World) (ht : Tabs w) (hW : WldIn w W p1 p2) :
    Calls Tryz.prog 63 #[wldVal W p1 p2 k1 k2, .int .i64 k, .int .i64 x, .int .i64 y] w fun e w' => e = .returned (.tuple #[.agg #[.int .i64 (growthE W k x y).a, .int .i64 (growthE W k x y).b], .int .i64 (growthE W k x y).e]) ∧ Below w.heap.size w w' := by
  have a0 : Below w.heap.size w (((w.alloc (wldObj W p1 p2 k1 k2)).alloc (.cells #[.int .i64 0, .int .i64 0] 31)).alloc (.cells #[.int .i64 x, .int .i64 y] 3)) := below_alloc (below_alloc (below_alloc (Below.refl _ _) _) _) _
  have r0 : Res (((w.alloc (wldObj W p1 p2 k1 k2)).alloc (.cells #[.int .i64 0, .int .i64 0] 31)).alloc (.cells #[.int .i64 x, .int .i64 y] 3)) (w.heap.size + 1) := ⟨⟨by simp [go_sem], by simp [go_sem]⟩, by simp [go_sem], by simp [go_sem]⟩
  have x0 : (((w.alloc (wldObj W p1 p2 k1 k2)).alloc (.cells #[.int .i64 0, .int .i64 0] 31)).alloc (.cells #[.int .i64 x, .int .i64 y] 3)).cell? ⟨w.heap.size + 1 + 1, 0, none⟩ = some (.int .i64 x) := by simp [go_sem]
  have x1 : (((w.alloc (wldObj W p1 p2 k1 k2)).alloc (.cells #[.int .i64 0, .int .i64 0] 31)).alloc (.cells #[.int .i64 x, .int .i64 y] 3)).cell? ⟨w.heap.size + 1 + 1, 1, none⟩ = some (.int .i64 y) := by simp [go_sem]
  have HT := Lib.hid ht
  have HW := Lib.hid hW
  have A0 := Lib.hid a0
  have R0 := Lib.hid r0
  have X0 := Lib.hid x0
  have X1 := Lib.hid x1
  by_cases he : findErr W k [x, y] = 0
  · have hall := allowed_find he
    obtain ⟨⟨s0, s1⟩, s2, s3⟩ := secs_of he
    have hge : growErr W k x y = if y < x then 1 else 0 := if_pos he
    have HE := Lib.hid he
    have HA := Lib.hid hall
    by_cases hlt : y < x
    · rw [if_pos hlt] at hge
      have hfin : growthE W k x y = ⟨0, 0, 1⟩ := by unfold growthE; rw [hge]; rfl
      have HF := Lib.hid hfin
      clear he hfin hall ht hW a0 r0 x0 x1 hge
      unfold wldVal
      go_enter Tryz.func63, Tryz.ntmps63
      go_wp2_with fail
      refine (find_ok W k [x, y] p1 p2 _ k1 k2 2 (((w.alloc (wldObj W p1 p2 k1 k2)).alloc (.cells #[.int .i64 0, .int .i64 0] 31)).alloc (.cells #[.int .i64 x, .int .i64 y] 3)) _ (Below.refl _ _) (HT.out.below A0.out) (HW.out.below A0.out) (secs_two X0.out X1.out) HE.out).mono ?_
      rintro e w1 ⟨a, m, v, rfl, hat, hb, hage⟩
      obtain ⟨⟨x0, x1⟩, f0, f1⟩ := R0.out.below hb
      have HB := Lib.hid (A0.out.trans (hb.mono A0.out.size))
      clear hb
      have c0 := two_c0 (.int .i64 0) x0
      have c1 := two_c1 (.int .i64 0) (.int .i64 0) x1
      go_wp2
      refine bodyPost_ret (v := .tuple #[.agg #[.int .i64 0, .int .i64 0], .int .i64 1]) (by simp [results, Tryz.results63, go_sem, c0, c1]) rfl ?_
      exact ⟨by rw [HF.out], below_sets HB.out (by omega)⟩
    · rw [if_neg hlt] at hge
      have hle : x ≤ y := by omega
      have hfin := show growthE W k x y = _ from if_pos hge
      have hfb := fixed_bd hall.cin hall.rok y s2 s3
      have hfa := fixed_bd hall.cin hall.rok x s0 s1
      have hsb := stray_bd hall.cin x y s0 hle s3
      change 0 ≤ strayedS (clkOf W k) x y ∧ strayedS (clkOf W k) x y ≤ 10000000000000 at hsb
      have HF := Lib.hid hfin
      clear he hfin hall ht hW a0 r0 x0 x1 hge hlt
      unfold wldVal
      go_enter Tryz.func63, Tryz.ntmps63
      go_wp2_with fail
      refine (find_ok W k [x, y] p1 p2 _ k1 k2 2 (((w.alloc (wldObj W p1 p2 k1 k2)).alloc (.cells #[.int .i64 0, .int .i64 0] 31)).alloc (.cells #[.int .i64 x, .int .i64 y] 3)) _ (Below.refl _ _) (HT.out.below A0.out) (HW.out.below A0.out) (secs_two X0.out X1.out) HE.out).mono ?_
      rintro e w1 ⟨a, m, v, rfl, hat, hb, hage⟩
      have hr1 := R0.out.below hb
      have HAT := Lib.hid hat
      have HB := Lib.hid (A0.out.trans (hb.mono A0.out.size))
      have R1 := Lib.hid hr1
      clear hat hb hr1 hage
      go_wp2_with fail
      refine (fixed_keep (W0 := w1) y _ (Below.refl _ _) HAT.out HA.out.cin HA.out.rok s2 s3).mono ?_
      rintro e w2 ⟨rfl, hb2⟩
      have HB2 := Lib.hid hb2
      clear hb2
      go_wp2_with fail
      refine (fixed_keep (W0 := w1) x _ HB2.out HAT.out HA.out.cin HA.out.rok s0 s1).mono ?_
      rintro e w3 ⟨rfl, hb3⟩
      have HB3 := Lib.hid hb3
      clear hb3
      go_wp2_with fail
      refine (strayed_at x y _ (HAT.out.below HB3.out) HA.out.cin s0 hle s3).mono ?_
      rintro e w4 ⟨rfl, rfl⟩
      go_wp2_with fail
      refine (around_keep (W0 := w1) _ _ _ HB3.out (by omega) (by omega)).mono ?_
      rintro e w4 ⟨rfl, hb4⟩
      obtain ⟨⟨x0, x1⟩, f0, f1⟩ := R1.out.below hb4
      have HB4 := Lib.hid hb4
      clear hb4
      have c0 := two_c0 (.int .i64 (fixedS (clkOf W k) (roomOf W k) y - fixedS (clkOf W k) (roomOf W k) x - strayedS (clkOf W k) x y)) x0
      have c1 := two_c1 (.int .i64 (fixedS (clkOf W k) (roomOf W k) y - fixedS (clkOf W k) (roomOf W k) x - strayedS (clkOf W k) x y)) (.int .i64 (fixedS (clkOf W k) (roomOf W k) y - fixedS (clkOf W k) (roomOf W k) x + strayedS (clkOf W k) x y)) x1
      go_wp2
      refine bodyPost_ret (v := .tuple #[.agg #[.int .i64 (fixedS (clkOf W k) (roomOf W k) y - fixedS (clkOf W k) (roomOf W k) x - strayedS (clkOf W k) x y), .int .i64 (fixedS (clkOf W k) (roomOf W k) y - fixedS (clkOf W k) (roomOf W k) x + strayedS (clkOf W k) x y)], .int .i64 0]) (by simp [results, Tryz.results63, go_sem, c0, c1]) rfl ?_
      exact ⟨by rw [HF.out], below_sets (HB.out.trans (HB4.out.mono HB.out.size)) (by omega)⟩
  · have hge : growErr W k x y = findErr W k [x, y] := if_neg he
    have hfin : growthE W k x y = ⟨0, 0, findErr W k [x, y]⟩ := by unfold growthE; rw [hge, if_neg he]
    have hne : (findErr W k [x, y] != 0) = true := by simpa using he
    have HF := Lib.hid hfin
    have HE := Lib.hid he
    clear he hfin ht hW a0 r0 x0 x1 hge
    unfold wldVal
    go_enter Tryz.func63, Tryz.ntmps63
    go_wp2_with fail
    refine (find_no W k [x, y] p1 p2 _ k1 k2 2 (((w.alloc (wldObj W p1 p2 k1 k2)).alloc (.cells #[.int .i64 0, .int .i64 0] 31)).alloc (.cells #[.int .i64 x, .int .i64 y] 3)) _ (Below.refl _ _) (HT.out.below A0.out) (HW.out.below A0.out) (secs_two X0.out X1.out) HE.out).mono ?_
    rintro e w1 ⟨rfl, hb⟩
    obtain ⟨⟨x0, x1⟩, f0, f1⟩ := R0.out.below hb
    have HB := Lib.hid (A0.out.trans (hb.mono A0.out.size))
    clear hb
    have c0 := two_c0 (.int .i64 0) x0
    have c1 := two_c1 (.int .i64 0) (.int .i64 0) x1
    go_wp2
    refine bodyPost_ret (v := .tuple #[.agg #[.int .i64 0, .int .i64 0], .int .i64 (findErr W k [x, y])]) (by simp [results, Tryz.results63, go_sem, c0, c1]) rfl ?_
    exact ⟨by rw [HF.out], below_sets HB.out (by omega)⟩
end Go.Proofs.YtlelamjbfjneiaaGreatDoor.Wd
