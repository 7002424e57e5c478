/- Contracts: the calls of package world that hand back one number, or a bool. -/
import Derived.Test.YtemblamamgfodaaGreatDoorTop
namespace Go.Proofs.YtemblamamgfodaaGreatDoor.Wd
open Go Go.RowKit
/-- the box of a world, and a slice of seconds behind it -/
def wldObj (W : Wld) (p1 p2 : Option Addr) (k1 k2 : Nat) : Obj := .cells #[.int .u64 W.seed, .slice p1 W.chs.length k1, .slice p2 W.cls.length k2] 35
theorem phase_any (W : Wld) (k s : Int) (p1 p2 : Option Addr) (k1 k2 : Nat) (w : World) (ht : Tabs w) (hW : WldIn w W p1 p2) :
    Calls Tryz.prog 76 #[wldVal W p1 p2 k1 k2, .int .i64 k, .int .i64 s] w fun e w' => e = .returned (.tuple #[.int .i64 (phaseE W k s).v, .int .i64 (phaseE W k s).e]) ∧ Below w.heap.size w w' := by
  have a0 : Below w.heap.size w ((w.alloc (wldObj W p1 p2 k1 k2)).alloc (.cells #[.int .i64 s] 3)) := by unfold wldObj; go_grown
  have x0 : ((w.alloc (wldObj W p1 p2 k1 k2)).alloc (.cells #[.int .i64 s] 3)).cell? ⟨w.heap.size + 1, 0, none⟩ = some (.int .i64 s) := by simp [go_sem]
  have HT := Lib.hid ht
  have HW := Lib.hid hW
  have A0 := Lib.hid a0
  have X0 := Lib.hid x0
  by_cases he : findErr W k [s] = 0
  · have hfin := show phaseE W k s = _ from if_pos he
    have hall := allowed_find he
    have hsec := sec_of he
    have HF := Lib.hid hfin
    have HE := Lib.hid he
    have HA := Lib.hid hall
    clear he hfin hall ht hW a0 x0
    obtain ⟨s0, s1⟩ := hsec
    unfold wldVal
    go_enter Tryz.func76, Tryz.ntmps76
    go_wp2_with fail
    refine (find_ok W k [s] p1 p2 _ k1 k2 1 w _ A0.out HT.out HW.out (secs_one X0.out) HE.out).mono ?_
    rintro e w1 ⟨a, m, v, rfl, hat, hb, hage⟩
    have HAT := Lib.hid hat
    have HB := Lib.hid hb
    clear hat hb
    go_wp2_with fail
    refine (phase_at s _ HAT.out HA.out.cin HA.out.rok HA.out.k16 s0 s1).mono ?_
    rintro e w2 ⟨rfl, hb2⟩
    have HB2 := Lib.hid hb2
    clear hb2
    go_wp2
    go_ret2
    exact ⟨by rw [HF.out]; rfl, HB.out.trans (HB2.out.mono HB.out.size)⟩
  · have hfin := show phaseE W k s = _ from if_neg he
    have hne : (findErr W k [s] != 0) = true := by simpa using he
    have HF := Lib.hid hfin
    have HE := Lib.hid he
    clear he hfin ht hW a0 x0
    unfold wldVal
    go_enter Tryz.func76, Tryz.ntmps76
    go_wp2_with fail
    refine (find_no W k [s] p1 p2 _ k1 k2 1 w _ A0.out HT.out HW.out (secs_one X0.out) HE.out).mono ?_
    rintro e w1 ⟨rfl, hb⟩
    have HB := Lib.hid hb
    clear hb
    go_wp2
    go_ret2
    exact ⟨by rw [HF.out]; rfl, HB.out⟩
/-- what findRunning hands back -/
theorem findRunning_ok (W : Wld) (k s : Int) (p1 p2 : Option Addr) (k1 k2 : Nat) (w X : World) (hb : Below w.heap.size w X) (ht : Tabs w) (hW : WldIn w W p1 p2) (he : runErr W k s = 0) :
    Calls Tryz.prog 29 #[wldVal W p1 p2 k1 k2, .int .i64 k, .int .i64 s] X (Found W k w.heap.size w) := by
  obtain ⟨he0, hr0⟩ := runErr_zero he
  have a0 : Below w.heap.size w ((X.alloc (wldObj W p1 p2 k1 k2)).alloc (.cells #[.int .i64 s] 3)) := below_alloc (below_alloc hb _) _
  have x0 : ((X.alloc (wldObj W p1 p2 k1 k2)).alloc (.cells #[.int .i64 s] 3)).cell? ⟨X.heap.size + 1, 0, none⟩ = some (.int .i64 s) := by simp [go_sem]
  have hall := allowed_find he0
  have hsec := sec_of he0
  have HT := Lib.hid ht
  have HW := Lib.hid hW
  have A0 := Lib.hid a0
  have X0 := Lib.hid x0
  have HE := Lib.hid he0
  have HA := Lib.hid hall
  have hr1 : (!(pastS s (clkOf W k).evs).stopped) = true := hr0
  clear he he0 hall ht hW a0 x0 hb hr0
  obtain ⟨s0, s1⟩ := hsec
  unfold wldVal
  go_enter Tryz.func29, Tryz.ntmps29
  go_wp2_with fail
  refine (find_ok W k [s] p1 p2 _ k1 k2 1 w _ A0.out HT.out HW.out (secs_one X0.out) HE.out).mono ?_
  rintro e w1 ⟨a, m, v, rfl, hat, hb, hage⟩
  have HAT := Lib.hid hat
  have HB := Lib.hid hb
  clear hat hb
  go_wp2_with fail
  refine (runs_at s _ HAT.out HA.out.cin.evs s0 s1).mono ?_
  rintro e w2 ⟨rfl, hb2⟩
  have HB2 := Lib.hid hb2
  clear hb2
  go_wp2
  go_ret2
  exact ⟨a, m, v, rfl, HAT.out.below HB2.out, HB.out.trans (HB2.out.mono HB.out.size), hage⟩
theorem findRunning_no (W : Wld) (k s : Int) (p1 p2 : Option Addr) (k1 k2 : Nat) (w X : World) (hb : Below w.heap.size w X) (ht : Tabs w) (hW : WldIn w W p1 p2) (he : runErr W k s ≠ 0) :
    Calls Tryz.prog 29 #[wldVal W p1 p2 k1 k2, .int .i64 k, .int .i64 s] X fun e w' => e = .returned (.tuple #[.pointer none, .int .i64 (runErr W k s)]) ∧ Below w.heap.size w w' := by
  have a0 : Below w.heap.size w ((X.alloc (wldObj W p1 p2 k1 k2)).alloc (.cells #[.int .i64 s] 3)) := below_alloc (below_alloc hb _) _
  have x0 : ((X.alloc (wldObj W p1 p2 k1 k2)).alloc (.cells #[.int .i64 s] 3)).cell? ⟨X.heap.size + 1, 0, none⟩ = some (.int .i64 s) := by simp [go_sem]
  have HT := Lib.hid ht
  have HW := Lib.hid hW
  have A0 := Lib.hid a0
  have X0 := Lib.hid x0
  by_cases he0 : findErr W k [s] = 0
  · have hall := allowed_find he0
    have hsec := sec_of he0
    have hfin : runErr W k s = if runsS (clkOf W k) s = true then 0 else 22 := if_pos he0
    have hr1 : (!(pastS s (clkOf W k).evs).stopped) = false := by
      cases h : runsS (clkOf W k) s
      · exact h
      · rw [h, if_pos rfl] at hfin; exact absurd hfin he
    have hfin2 : runErr W k s = 22 := by rw [hfin, show runsS (clkOf W k) s = false from hr1]; rfl
    have HF := Lib.hid hfin2
    have HE := Lib.hid he0
    have HA := Lib.hid hall
    clear he he0 hall ht hW a0 x0 hb hfin hfin2
    obtain ⟨s0, s1⟩ := hsec
    unfold wldVal
    go_enter Tryz.func29, Tryz.ntmps29
    go_wp2_with fail
    refine (find_ok W k [s] p1 p2 _ k1 k2 1 w _ A0.out HT.out HW.out (secs_one X0.out) HE.out).mono ?_
    rintro e w1 ⟨a, m, v, rfl, hat, hb, hage⟩
    have HAT := Lib.hid hat
    have HB := Lib.hid hb
    clear hat hb
    go_wp2_with fail
    refine (runs_at s _ HAT.out HA.out.cin.evs s0 s1).mono ?_
    rintro e w2 ⟨rfl, hb2⟩
    have HB2 := Lib.hid hb2
    clear hb2
    go_wp2
    go_ret2
    exact ⟨by rw [HF.out]; rfl, HB.out.trans (HB2.out.mono HB.out.size)⟩
  · have hfin : runErr W k s = findErr W k [s] := if_neg he0
    have hne : (findErr W k [s] == 0) = false := by simpa using he0
    have HF := Lib.hid hfin
    have HE := Lib.hid he0
    clear he he0 hfin ht hW a0 x0 hb
    unfold wldVal
    go_enter Tryz.func29, Tryz.ntmps29
    go_wp2_with fail
    refine (find_no W k [s] p1 p2 _ k1 k2 1 w _ A0.out HT.out HW.out (secs_one X0.out) HE.out).mono ?_
    rintro e w1 ⟨rfl, hb⟩
    have HB := Lib.hid hb
    clear hb
    go_wp2
    go_ret2
    exact ⟨by rw [HF.out]; rfl, HB.out⟩
theorem shown_any (W : Wld) (k s : Int) (p1 p2 : Option Addr) (k1 k2 : Nat) (w : World) (ht : Tabs w) (hW : WldIn w W p1 p2) :
    Calls Tryz.prog 10 #[wldVal W p1 p2 k1 k2, .int .i64 k, .int .i64 s] w fun e w' => e = .returned (.tuple #[.int .i64 (shownE W k s).v, .int .i64 (shownE W k s).e]) ∧ Below w.heap.size w w' := by
  have a0 : Below w.heap.size w (w.alloc (wldObj W p1 p2 k1 k2)) := below_alloc (Below.refl _ _) _
  have HT := Lib.hid ht
  have HW := Lib.hid hW
  have A0 := Lib.hid a0
  by_cases he : runErr W k s = 0
  · have hfin := show shownE W k s = _ from if_pos he
    have hall := allowed_find (runErr_zero he).1
    have hsec := sec_of (runErr_zero he).1
    have HF := Lib.hid hfin
    have HE := Lib.hid he
    have HA := Lib.hid hall
    clear he hfin hall ht hW a0
    obtain ⟨s0, s1⟩ := hsec
    unfold wldVal
    go_enter Tryz.func10, Tryz.ntmps10
    go_wp2_with fail
    refine (findRunning_ok W k s p1 p2 k1 k2 w _ A0.out HT.out HW.out HE.out).mono ?_
    rintro e w1 ⟨a, m, v, rfl, hat, hb, hage⟩
    have HAT := Lib.hid hat
    have HB := Lib.hid hb
    clear hat hb
    go_wp2_with fail
    refine (shown_at s _ HAT.out HA.out.cin HA.out.rok HA.out.k16 s0 s1).mono ?_
    rintro e w2 ⟨rfl, hb2⟩
    have HB2 := Lib.hid hb2
    clear hb2
    go_wp2
    go_ret2
    exact ⟨by rw [HF.out]; rfl, HB.out.trans (HB2.out.mono HB.out.size)⟩
  · have hfin := show shownE W k s = _ from if_neg he
    have hne : (runErr W k s != 0) = true := by simpa using he
    have HF := Lib.hid hfin
    have HE := Lib.hid he
    clear he hfin ht hW a0
    unfold wldVal
    go_enter Tryz.func10, Tryz.ntmps10
    go_wp2_with fail
    refine (findRunning_no W k s p1 p2 k1 k2 w _ A0.out HT.out HW.out HE.out).mono ?_
    rintro e w1 ⟨rfl, hb⟩
    have HB := Lib.hid hb
    clear hb
    go_wp2
    go_ret2
    exact ⟨by rw [HF.out]; rfl, HB.out⟩
theorem draw_exp (sd ki cl ix mo : Int) (w : World) (b1 : ki ≤ 9223372036854775807) (b2 : cl ≤ 9223372036854775807) (b3 : ix ≤ 9223372036854775807) :
    Calls Tryz.prog 61 #[.int .u64 sd, .int .i64 ki, .int .i64 cl, .int .i64 ix, .int .i64 mo] w fun e w' => e = .returned (.tuple #[.int .i64 (drawE sd ki cl ix mo).v, .int .i64 (drawE sd ki cl ix mo).e]) ∧ w = w' := by
  by_cases h : drawOk ki cl ix mo = true
  · have hf := show drawE sd ki cl ix mo = _ from if_pos h
    have HF := Lib.hid hf
    clear hf
    simp only [drawOk, Bool.and_eq_true, decide_eq_true_eq] at h
    obtain ⟨h1, h2, h3, h4⟩ := h
    have h5 := inR_true h4
    go_enter Tryz.func61, Tryz.ntmps61
    go_wp2_with (first | (go_at_call 27; refine (within_any _ _ _ _).mono ?_; rintro e w' ⟨rfl, rfl⟩) | (go_at_call 112; refine (source_any _ _ _ _ (by omega) (by omega) (by omega) (by omega)).mono ?_; rintro e w' ⟨rfl, rfl⟩) |
      (go_at_call 111; refine (draw_any _ _ _ _ (by omega) (by omega) (by omega) (by omega)).mono ?_; rintro e w' ⟨rfl, rfl⟩))
    go_ret2
    exact ⟨by rw [HF.out]; rfl, rfl⟩
  · have hf := show drawE sd ki cl ix mo = _ from if_neg h
    have HF := Lib.hid hf
    clear hf
    by_cases h1 : 0 ≤ ki
    · by_cases h2 : 0 ≤ cl
      · by_cases h3 : 0 ≤ ix
        · have h4 : inR mo 0 1000000000000000 = false := by
            cases h4 : inR mo 0 1000000000000000
            · rfl
            · simp [drawOk, h1, h2, h3, h4] at h
          clear h
          go_enter Tryz.func61, Tryz.ntmps61
          go_wp2_with (go_at_call 27; refine (within_any _ _ _ _).mono ?_; rintro e w' ⟨rfl, rfl⟩)
          go_ret2
          exact ⟨by rw [HF.out]; rfl, rfl⟩
        · clear h
          go_enter Tryz.func61, Tryz.ntmps61
          go_wp2
          go_ret2
          exact ⟨by rw [HF.out]; rfl, rfl⟩
      · clear h
        go_enter Tryz.func61, Tryz.ntmps61
        go_wp2
        go_ret2
        exact ⟨by rw [HF.out]; rfl, rfl⟩
    · clear h
      go_enter Tryz.func61, Tryz.ntmps61
      go_wp2
      go_ret2
      exact ⟨by rw [HF.out]; rfl, rfl⟩
end Go.Proofs.YtemblamamgfodaaGreatDoor.Wd
