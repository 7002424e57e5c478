/- Contracts: the calls of package world that hand back one number, or a bool. · Contracts: the calls of package world that hand back a pair of numbers. · A world that comes in as an argument, as it lies in memory. · Contract: Big, which says whether a world is more than a law looks at. -/
import Derived.Test.YtmfpnfdoidihcaaDoorVc
import Derived.Test.YtmfpnfdoidihcaaDoorVa
import Derived.Deep.Slices
import Derived.Deep.Fields
import Derived.ChangeSame
import Derived.Lib.SmallJoins
import Derived.LoopTactic
namespace Go.Proofs.YtmfpnfdoidihcaaDoor.Wd
open Go Go.RowKit
/-- the box of a world, and a slice of seconds behind it -/
def wldObj (W : Wld) (p1 p2 : Option Addr) (k1 k2 : Nat) : Obj := .cells #[.int .u64 W.seed, .slice p1 W.chs.length k1, .slice p2 W.cls.length k2] 35
/-- what findRunning hands back -/
theorem findRunning_ok (W : Wld) (k s : Int) (p1 p2 : Option Addr) (k1 k2 : Nat) (w X : World) (hb : Below w.heap.size w X) (ht : Tabs w) (hW : WldIn w W p1 p2) (he : runErr W k s = 0) :
    Calls Tryd.prog 18 #[wldVal W p1 p2 k1 k2, .int .i64 k, .int .i64 s] X (Found W k w.heap.size w) := by
  obtain ⟨he0, hr0⟩ := runErr_zero he
  have a0 : Below w.heap.size w ((X.alloc (wldObj W p1 p2 k1 k2)).alloc (.cells #[.int .i64 s] 3)) := below_alloc (below_alloc hb _) _
  have x0 : ((X.alloc (wldObj W p1 p2 k1 k2)).alloc (.cells #[.int .i64 s] 3)).cell? ⟨X.heap.size + 1, 0, none⟩ = some (.int .i64 s) := by simp [go_sem]
  have hall := allowed_find he0
  have hsec := sec_of he0
  have HT := Lib.hid ht
  have HW := Lib.hid hW
  have A0 := Lib.hid a0
  have X0 := Lib.hid x0
  have HE := Lib.hid he0
  have HA := Lib.hid hall
  have hr1 : (!(pastS s (clkOf W k).evs).stopped) = true := hr0
  clear he he0 hall ht hW a0 x0 hb hr0
  obtain ⟨s0, s1⟩ := hsec
  unfold wldVal
  go_enter Tryd.func18, Tryd.ntmps18
  go_wp2_with fail
  refine (find_ok W k [s] p1 p2 _ k1 k2 1 w _ A0.out HT.out HW.out (secs_one X0.out) HE.out).mono ?_
  rintro e w1 ⟨a, m, v, rfl, hat, hb, hage⟩
  have HAT := Lib.hid hat
  have HB := Lib.hid hb
  clear hat hb
  go_wp2_with fail
  refine (runs_at s _ HAT.out HA.out.cin.evs s0 s1).mono ?_
  rintro e w2 ⟨rfl, hb2⟩
  have HB2 := Lib.hid hb2
  clear hb2
  go_wp2
  go_ret2
  exact ⟨a, m, v, rfl, HAT.out.below HB2.out, HB.out.trans (HB2.out.mono HB.out.size), hage⟩
theorem findRunning_no (W : Wld) (k s : Int) (p1 p2 : Option Addr) (k1 k2 : Nat) (w X : World) (hb : Below w.heap.size w X) (ht : Tabs w) (hW : WldIn w W p1 p2) (he : runErr W k s ≠ 0) :
    Calls Tryd.prog 18 #[wldVal W p1 p2 k1 k2, .int .i64 k, .int .i64 s] X fun e w' => e = .returned (.tuple #[.pointer none, .int .i64 (runErr W k s)]) ∧ Below w.heap.size w w' := by
  have a0 : Below w.heap.size w ((X.alloc (wldObj W p1 p2 k1 k2)).alloc (.cells #[.int .i64 s] 3)) := below_alloc (below_alloc hb _) _
  have x0 : ((X.alloc (wldObj W p1 p2 k1 k2)).alloc (.cells #[.int .i64 s] 3)).cell? ⟨X.heap.size + 1, 0, none⟩ = some (.int .i64 s) := by simp [go_sem]
  have HT := Lib.hid ht
  have HW := Lib.hid hW
  have A0 := Lib.hid a0
  have X0 := Lib.hid x0
  by_cases he0 : findErr W k [s] = 0
  · have hall := allowed_find he0
    have hsec := sec_of he0
    have hfin : runErr W k s = if runsS (clkOf W k) s = true then 0 else 22 := if_pos he0
    have hr1 : (!(pastS s (clkOf W k).evs).stopped) = false := by
      cases h : runsS (clkOf W k) s
      · exact h
      · rw [h, if_pos rfl] at hfin; exact absurd hfin he
    have hfin2 : runErr W k s = 22 := by rw [hfin, show runsS (clkOf W k) s = false from hr1]; rfl
    have HF := Lib.hid hfin2
    have HE := Lib.hid he0
    have HA := Lib.hid hall
    clear he he0 hall ht hW a0 x0 hb hfin hfin2
    obtain ⟨s0, s1⟩ := hsec
    unfold wldVal
    go_enter Tryd.func18, Tryd.ntmps18
    go_wp2_with fail
    refine (find_ok W k [s] p1 p2 _ k1 k2 1 w _ A0.out HT.out HW.out (secs_one X0.out) HE.out).mono ?_
    rintro e w1 ⟨a, m, v, rfl, hat, hb, hage⟩
    have HAT := Lib.hid hat
    have HB := Lib.hid hb
    clear hat hb
    go_wp2_with fail
    refine (runs_at s _ HAT.out HA.out.cin.evs s0 s1).mono ?_
    rintro e w2 ⟨rfl, hb2⟩
    have HB2 := Lib.hid hb2
    clear hb2
    go_wp2
    go_ret2
    exact ⟨by rw [HF.out]; rfl, HB.out.trans (HB2.out.mono HB.out.size)⟩
  · have hfin : runErr W k s = findErr W k [s] := if_neg he0
    have hne : (findErr W k [s] == 0) = false := by simpa using he0
    have HF := Lib.hid hfin
    have HE := Lib.hid he0
    clear he he0 hfin ht hW a0 x0 hb
    unfold wldVal
    go_enter Tryd.func18, Tryd.ntmps18
    go_wp2_with fail
    refine (find_no W k [s] p1 p2 _ k1 k2 1 w _ A0.out HT.out HW.out (secs_one X0.out) HE.out).mono ?_
    rintro e w1 ⟨rfl, hb⟩
    have HB := Lib.hid hb
    clear hb
    go_wp2
    go_ret2
    exact ⟨by rw [HF.out]; rfl, HB.out⟩
theorem shown_any (W : Wld) (k s : Int) (p1 p2 : Option Addr) (k1 k2 : Nat) (w : World) (ht : Tabs w) (hW : WldIn w W p1 p2) :
    Calls Tryd.prog 7 #[wldVal W p1 p2 k1 k2, .int .i64 k, .int .i64 s] w fun e w' => e = .returned (.tuple #[.int .i64 (shownE W k s).v, .int .i64 (shownE W k s).e]) ∧ Below w.heap.size w w' := by
  have a0 : Below w.heap.size w (w.alloc (wldObj W p1 p2 k1 k2)) := below_alloc (Below.refl _ _) _
  have HT := Lib.hid ht
  have HW := Lib.hid hW
  have A0 := Lib.hid a0
  by_cases he : runErr W k s = 0
  · have hfin := show shownE W k s = _ from if_pos he
    have hall := allowed_find (runErr_zero he).1
    have hsec := sec_of (runErr_zero he).1
    have HF := Lib.hid hfin
    have HE := Lib.hid he
    have HA := Lib.hid hall
    clear he hfin hall ht hW a0
    obtain ⟨s0, s1⟩ := hsec
    unfold wldVal
    go_enter Tryd.func7, Tryd.ntmps7
    go_wp2_with fail
    refine (findRunning_ok W k s p1 p2 k1 k2 w _ A0.out HT.out HW.out HE.out).mono ?_
    rintro e w1 ⟨a, m, v, rfl, hat, hb, hage⟩
    have HAT := Lib.hid hat
    have HB := Lib.hid hb
    clear hat hb
    go_wp2_with fail
    refine (shown_at s _ HAT.out HA.out.cin HA.out.rok HA.out.k16 s0 s1).mono ?_
    rintro e w2 ⟨rfl, hb2⟩
    have HB2 := Lib.hid hb2
    clear hb2
    go_wp2
    go_ret2
    exact ⟨by rw [HF.out]; rfl, HB.out.trans (HB2.out.mono HB.out.size)⟩
  · have hfin := show shownE W k s = _ from if_neg he
    have hne : (runErr W k s != 0) = true := by simpa using he
    have HF := Lib.hid hfin
    have HE := Lib.hid he
    clear he hfin ht hW a0
    unfold wldVal
    go_enter Tryd.func7, Tryd.ntmps7
    go_wp2_with fail
    refine (findRunning_no W k s p1 p2 k1 k2 w _ A0.out HT.out HW.out HE.out).mono ?_
    rintro e w1 ⟨rfl, hb⟩
    have HB := Lib.hid hb
    clear hb
    go_wp2
    go_ret2
    exact ⟨by rw [HF.out]; rfl, HB.out⟩
theorem draw_exp (sd ki cl ix mo : Int) (w : World) (b1 : ki ≤ 9223372036854775807) (b2 : cl ≤ 9223372036854775807) (b3 : ix ≤ 9223372036854775807) :
    Calls Tryd.prog 31 #[.int .u64 sd, .int .i64 ki, .int .i64 cl, .int .i64 ix, .int .i64 mo] w fun e w' => e = .returned (.tuple #[.int .i64 (drawE sd ki cl ix mo).v, .int .i64 (drawE sd ki cl ix mo).e]) ∧ w = w' := by
  by_cases h : drawOk ki cl ix mo = true
  · have hf := show drawE sd ki cl ix mo = _ from if_pos h
    have HF := Lib.hid hf
    clear hf
    simp only [drawOk, Bool.and_eq_true, decide_eq_true_eq] at h
    obtain ⟨h1, h2, h3, h4⟩ := h
    have h5 := inR_true h4
    go_enter Tryd.func31, Tryd.ntmps31
    go_wp2_with (first | (go_at_call 51; refine (within_any _ _ _ _).mono ?_; rintro e w' ⟨rfl, rfl⟩) | (go_at_call 60; refine (source_any _ _ _ _ (by omega) (by omega) (by omega) (by omega)).mono ?_; rintro e w' ⟨rfl, rfl⟩) |
      (go_at_call 59; refine (draw_any _ _ _ _ (by omega) (by omega) (by omega) (by omega)).mono ?_; rintro e w' ⟨rfl, rfl⟩))
    go_ret2
    exact ⟨by rw [HF.out]; rfl, rfl⟩
  · have hf := show drawE sd ki cl ix mo = _ from if_neg h
    have HF := Lib.hid hf
    clear hf
    by_cases h1 : 0 ≤ ki
    · by_cases h2 : 0 ≤ cl
      · by_cases h3 : 0 ≤ ix
        · have h4 : inR mo 0 1000000000000000 = false := by
            cases h4 : inR mo 0 1000000000000000
            · rfl
            · simp [drawOk, h1, h2, h3, h4] at h
          clear h
          go_enter Tryd.func31, Tryd.ntmps31
          go_wp2_with (go_at_call 51; refine (within_any _ _ _ _).mono ?_; rintro e w' ⟨rfl, rfl⟩)
          go_ret2
          exact ⟨by rw [HF.out]; rfl, rfl⟩
        · clear h
          go_enter Tryd.func31, Tryd.ntmps31
          go_wp2
          go_ret2
          exact ⟨by rw [HF.out]; rfl, rfl⟩
      · clear h
        go_enter Tryd.func31, Tryd.ntmps31
        go_wp2
        go_ret2
        exact ⟨by rw [HF.out]; rfl, rfl⟩
    · clear h
      go_enter Tryd.func31, Tryd.ntmps31
      go_wp2
      go_ret2
      exact ⟨by rw [HF.out]; rfl, rfl⟩
end Go.Proofs.YtmfpnfdoidihcaaDoor.Wd
namespace Go.Proofs.YtmfpnfdoidihcaaDoor.Wd
open Go Go.RowKit
theorem two_c0 {w : World} {b : Nat} {x : Value} (u : Value) (h : w.cell? ⟨b, 0, none⟩ = some x) : (w.setCell ⟨b, 0, none⟩ u).cell? ⟨b, 0, none⟩ = some u := World.cell?_setCell_same _ _ _ h
theorem two_c1 {w : World} {b : Nat} {x : Value} (u v : Value) (h : w.cell? ⟨b, 1, none⟩ = some x) : ((w.setCell ⟨b, 0, none⟩ u).setCell ⟨b, 1, none⟩ v).cell? ⟨b, 1, none⟩ = some v :=
  World.cell?_setCell_same _ _ _ (u := x) (by rw [World.cell?_setCell_other]; exact h; simp)
/-- a block of two numbers that a call has made for its result -/
def Res (w : World) (b : Nat) : Prop := (w.cell? ⟨b, 0, none⟩ = some (.int .i64 0) ∧ w.cell? ⟨b, 1, none⟩ = some (.int .i64 0)) ∧ (w.frozen? ⟨b, 0, none⟩ = false ∧ w.frozen? ⟨b, 1, none⟩ = false)
theorem Res.below {w w' : World} {b : Nat} (h : Res w b) (hb : Below w.heap.size w w') : Res w' b :=
  ⟨⟨cell_below hb h.1.1, cell_below hb h.1.2⟩, (hb.frozen (p := ⟨b, 0, none⟩) (cell_lt h.1.1)).trans h.2.1, (hb.frozen (p := ⟨b, 1, none⟩) (cell_lt h.1.1)).trans h.2.2⟩
theorem below_sets {w X : World} {b : Nat} {u v : Value} (h : Below w.heap.size w X) (hb : w.heap.size ≤ b) : Below w.heap.size w ((X.setCell ⟨b, 0, none⟩ u).setCell ⟨b, 1, none⟩ v) := (h.setCell hb _).setCell hb _
theorem Keeps.set {n₀ sb o : Nat} {A B : World} (v : Value) (h : Keeps n₀ sb A B) : Keeps n₀ sb A (B.setCell ⟨sb, o, none⟩ v) :=
  ⟨by simpa using h.1, fun k hk hs => (Below.heap_setCell _ _ _ _ hs).trans (h.2 k hk hs)⟩
theorem fixed_keep {W0 : World} {a m : Nat} {c : Clk} {seed k : Int} {r : Cham} {v : Value} (s : Int) (w : World) (hb : Below W0.heap.size W0 w) (h : AtWork W0 a m c seed k r v) (hc : ClkIn c) (hr : chamOk r = true) (h0 : 0 ≤ s) (h1 : s ≤ 1000000) :
    Calls Tryd.prog 22 #[.pointer (some ⟨a, 0, none⟩), .int .i64 s] w fun e w' => e = .returned (.int .i64 (fixedS c r s)) ∧ Below W0.heap.size W0 w' :=
  (fixed_at s w (h.below hb) hc hr h0 h1).mono fun _ _ ⟨a, b⟩ => ⟨a, hb.trans (b.mono hb.size)⟩
theorem around_keep {W0 : World} (a b : Int) (w : World) (hb0 : Below W0.heap.size W0 w) (h : -4000000000000000000 ≤ a ∧ a ≤ 4000000000000000000) (hb : 0 ≤ b ∧ b ≤ 4000000000000000000) :
    Calls Tryd.prog 21 #[.int .i64 a, .int .i64 b] w fun e w' => e = .returned (.agg #[.int .i64 (a - b), .int .i64 (a + b)]) ∧ Below W0.heap.size W0 w' :=
  (around_any a b w h hb).mono fun _ _ ⟨x, y⟩ => ⟨x, hb0.trans (y.mono hb0.size)⟩
set_option maxRecDepth 100000 in
set_option maxHeartbeats 2000000 in
theorem reach_any (W : Wld) (k s : Int) (p1 p2 : Option Addr) (k1 k2 : Nat) (w : World) (ht : Tabs w) (hW : WldIn w W p1 p2) :
    Calls Tryd.prog 8 #[wldVal W p1 p2 k1 k2, .int .i64 k, .int .i64 s] w fun e w' => e = .returned (.tuple #[.agg #[.int .i64 (reachE W k s).a, .int .i64 (reachE W k s).b], .int .i64 (reachE W k s).e]) ∧ Below w.heap.size w w' := by
  have a0 : Below w.heap.size w (((w.alloc (wldObj W p1 p2 k1 k2)).alloc (.cells #[.int .i64 0, .int .i64 0] 43)).alloc (.cells #[.int .i64 s] 3)) := below_alloc (below_alloc (below_alloc (Below.refl _ _) _) _) _
  have r0 : Res (((w.alloc (wldObj W p1 p2 k1 k2)).alloc (.cells #[.int .i64 0, .int .i64 0] 43)).alloc (.cells #[.int .i64 s] 3)) (w.heap.size + 1) := ⟨⟨by simp [go_sem], by simp [go_sem]⟩, by simp [go_sem], by simp [go_sem]⟩
  have x0 : (((w.alloc (wldObj W p1 p2 k1 k2)).alloc (.cells #[.int .i64 0, .int .i64 0] 43)).alloc (.cells #[.int .i64 s] 3)).cell? ⟨w.heap.size + 1 + 1, 0, none⟩ = some (.int .i64 s) := by simp [go_sem]
  have HT := Lib.hid ht
  have HW := Lib.hid hW
  have A0 := Lib.hid a0
  have R0 := Lib.hid r0
  have X0 := Lib.hid x0
  by_cases he : findErr W k [s] = 0
  · have hfin := show reachE W k s = _ from if_pos he
    have hall := allowed_find he
    have hsec := sec_of he
    obtain ⟨s0, s1⟩ := hsec
    have hfb := fixed_bd hall.cin hall.rok s s0 s1
    have hsb := stray_bd hall.cin 0 s (Int.le_refl 0) s0 s1
    have hwh := hall.cin.white
    have HF := Lib.hid hfin
    have HE := Lib.hid he
    have HA := Lib.hid hall
    clear he hfin hall ht hW a0 r0 x0
    unfold wldVal
    go_enter Tryd.func8, Tryd.ntmps8
    go_wp2_with fail
    refine (find_ok W k [s] p1 p2 _ k1 k2 1 (((w.alloc (wldObj W p1 p2 k1 k2)).alloc (.cells #[.int .i64 0, .int .i64 0] 43)).alloc (.cells #[.int .i64 s] 3)) _ (Below.refl _ _) (HT.out.below A0.out) (HW.out.below A0.out) (secs_one X0.out) HE.out).mono ?_
    rintro e w1 ⟨a, m, v, rfl, hat, hb, hage⟩
    have hr1 := R0.out.below hb
    have h4 := hat.nums.2.2.2.2.1
    simp only [Nat.zero_add] at h4
    have HAT := Lib.hid hat
    have HB := Lib.hid (A0.out.trans (hb.mono A0.out.size))
    clear hat hb
    have R1 := Lib.hid hr1
    clear hr1
    change 0 ≤ strayedS (clkOf W k) 0 s ∧ strayedS (clkOf W k) 0 s ≤ 10000000000000 at hsb
    have hu := IntWalk.i64_in (strayedS (clkOf W k) 0 s + (clkOf W k).white) (by omega)
    have hsum : 0 ≤ strayedS (clkOf W k) 0 s + (clkOf W k).white ∧ strayedS (clkOf W k) 0 s + (clkOf W k).white ≤ 4000000000000000000 := by omega
    have hfb2 : -4000000000000000000 ≤ fixedS (clkOf W k) (roomOf W k) s ∧ fixedS (clkOf W k) (roomOf W k) s ≤ 4000000000000000000 := by omega
    have h4w := cell_lt h4
    have HSUM := Lib.hid hsum
    have HFB := Lib.hid hfb2
    clear hsum hfb2 hfb hwh
    go_wp2_with fail
    have hane : a ≠ w.heap.size + 1 := by
      have : (((w.alloc (wldObj W p1 p2 k1 k2)).alloc (.cells #[.int .i64 0, .int .i64 0] 43)).alloc (.cells #[.int .i64 s] 3)).heap.size = w.heap.size + 1 + 1 + 1 := by simp
      omega
    have hk : ∀ X, Keeps w1.heap.size (w.heap.size + 1) w1 X → (fun w' => Keeps w1.heap.size (w.heap.size + 1) w1 w' ∧ w'.cell? ⟨a, 4, none⟩ = some (.int .i64 (clkOf W k).white)) X := fun X h => ⟨h, h.cell h4w hane h4⟩
    have HK := Lib.hid hk
    clear hk hane hage
    go_region_held3 (fun w' => Keeps w1.heap.size (w.heap.size + 1) w1 w' ∧ w'.cell? ⟨a, 4, none⟩ = some (.int .i64 (clkOf W k).white))
      (exact HK.out _ (by first | exact Keeps.of_below (by first | assumption | exact Below.refl _ _ | exact Below.drew (Below.refl _ _)) (Nat.le_refl _) | exact Keeps.set _ (Keeps.set _ (Keeps.of_below (by assumption) (Nat.le_refl _)))))
      (first | (go_at_call 22; refine (fixed_keep (W0 := w1) s _ (by first | assumption | exact Below.drew (Below.refl _ _)) HAT.out HA.out.cin HA.out.rok s0 s1).mono ?_; rintro e w2 ⟨rfl, hb2⟩) |
        (go_at_call 23; refine (strayed_at 0 s _ (HAT.out.below (by first | assumption | exact Below.drew (Below.refl _ _))) HA.out.cin (Int.le_refl 0) s0 s1).mono ?_; rintro e w2 ⟨rfl, rfl⟩) |
        (go_at_call 21; refine (around_keep (W0 := w1) _ _ _ (by first | assumption | exact Below.drew (Below.refl _ _)) HFB.out HSUM.out).mono ?_; rintro e w2 ⟨rfl, hb2⟩; obtain ⟨⟨x0, x1⟩, f0, f1⟩ := R1.out.below hb2))
    go_wp2_with fail
    have c0 := two_c0 (.int .i64 (fixedS (clkOf W k) (roomOf W k) s - (strayedS (clkOf W k) 0 s + (clkOf W k).white))) x0
    have c1 := two_c1 (.int .i64 (fixedS (clkOf W k) (roomOf W k) s - (strayedS (clkOf W k) 0 s + (clkOf W k).white))) (.int .i64 (fixedS (clkOf W k) (roomOf W k) s + (strayedS (clkOf W k) 0 s + (clkOf W k).white))) x1
    refine bodyPost_ret (v := .tuple #[.agg #[.int .i64 (fixedS (clkOf W k) (roomOf W k) s - (strayedS (clkOf W k) 0 s + (clkOf W k).white)), .int .i64 (fixedS (clkOf W k) (roomOf W k) s + (strayedS (clkOf W k) 0 s + (clkOf W k).white))], .int .i64 0]) (by simp [results, Tryd.results8, go_sem, c0, c1]) rfl ?_
    exact ⟨by rw [HF.out], below_sets (HB.out.trans (hb2.mono HB.out.size)) (by omega)⟩
  · have hfin := show reachE W k s = _ from if_neg he
    have hne : (findErr W k [s] != 0) = true := by simpa using he
    have HF := Lib.hid hfin
    have HE := Lib.hid he
    clear he hfin ht hW a0 r0 x0
    unfold wldVal
    go_enter Tryd.func8, Tryd.ntmps8
    go_wp2_with fail
    refine (find_no W k [s] p1 p2 _ k1 k2 1 (((w.alloc (wldObj W p1 p2 k1 k2)).alloc (.cells #[.int .i64 0, .int .i64 0] 43)).alloc (.cells #[.int .i64 s] 3)) _ (Below.refl _ _) (HT.out.below A0.out) (HW.out.below A0.out) (secs_one X0.out) HE.out).mono ?_
    rintro e w1 ⟨rfl, hb⟩
    obtain ⟨⟨x0, x1⟩, f0, f1⟩ := R0.out.below hb
    have HB := Lib.hid (A0.out.trans (hb.mono A0.out.size))
    clear hb
    have c0 := two_c0 (.int .i64 0) x0
    have c1 := two_c1 (.int .i64 0) (.int .i64 0) x1
    go_wp2
    refine bodyPost_ret (v := .tuple #[.agg #[.int .i64 0, .int .i64 0], .int .i64 (findErr W k [s])]) (by simp [results, Tryd.results8, go_sem, c0, c1]) rfl ?_
    exact ⟨by rw [HF.out], below_sets HB.out (by omega)⟩
end Go.Proofs.YtmfpnfdoidihcaaDoor.Wd
namespace Go.Proofs.YtmfpnfdoidihcaaDoor.Wd
open Go Go.RowKit Go.ChangeShapes Go.WideShapes Go.Deep Go.Joins
theorem pick_list {α : Type} (n : Nat) (Q : Nat → α → Prop) (h : ∀ i, i < n → ∃ x, Q i x) : ∃ l : List α, l.length = n ∧ ∀ i, (hi : i < l.length) → Q i l[i] := by
  induction n with
  | zero => exact ⟨[], rfl, fun i hi => absurd hi (by simp)⟩
  | succ n ih =>
    obtain ⟨l, hl, hq⟩ := ih fun i hi => h i (by omega)
    obtain ⟨x, hx⟩ := h n (by omega)
    refine ⟨l ++ [x], by simp [hl], fun i hi => ?_⟩
    by_cases hlt : i < l.length
    · rw [List.getElem_append_left hlt]; exact hq i hlt
    · have : i = l.length := by simp at hi; omega
      subst this
      rw [List.getElem_append_right (by omega)]
      simpa [hl] using hx
theorem add_plain (b o k : Nat) : (⟨b, o, none⟩ : Addr).add k = ⟨b, o + k, none⟩ := by
  unfold Addr.add; split <;> simp_all
section
variable {H : Type} {enc : TypeId × Value → H} {P : Program} {w : World} {base : Nat} {spare : Nat → Bool} {held : Bool}
theorem field_of {e : TypeId} {fs : Array Field} {fuel : Nat} {cs : List Value} {x : DataW H × List MemPlace} (he : P.underlying e = some (.struct fs)) (hone : oneCellFields P fs = true) (hC : P.cellsOf e = fs.size)
    (h : DataW.trod enc P w base spare held fuel e cs = some x) (j : Nat) (f : Field) (hj : fs[j]? = some f) :
    ∃ v y n, cs[j]? = some v ∧ DataW.trod enc P w base spare held n f.type [v] = some y := by
  obtain ⟨ys, n, _, _, hlen, hyl, hf⟩ := DataW.trod_struct he h
  obtain ⟨ho, hk⟩ := hone_of hone j f hj
  have hjl : j < fs.size := (Array.getElem?_eq_some_iff.1 hj).1
  have hv : j < cs.length := by omega
  have hy : j < ys.length := by omega
  have h1 := hf j f hj
  have e : (cs.drop j).take 1 = [cs[j]] := by rw [List.drop_eq_getElem_cons hv]; rfl
  rw [ho, hk, e, List.getElem?_eq_getElem hy] at h1
  exact ⟨cs[j], ys[j], n, List.getElem?_eq_getElem hv, h1⟩
/-- a slice of structs of one-cell fields: the cell of each field of each element -/
theorem struct_slice {t e : TypeId} {fs : Array Field} {fuel : Nat} {cs : List Value} {x : DataW H × List MemPlace} (ht : P.underlying t = some (.slice e)) (he : P.underlying e = some (.struct fs)) (hone : oneCellFields P fs = true)
    (hC : P.cellsOf e = fs.size) (hpos : 0 < fs.size) (h : DataW.trod enc P w base spare held fuel t cs = some x) :
    ∃ p n cap, cs = [.slice p n cap] ∧ n ≤ maxLen ∧ SliceIn p n fun b o => ∀ i, i < n → ∀ j f, fs[j]? = some f →
      ∃ v y m, w.cell? ⟨b, o + (i * fs.size + j), none⟩ = some v ∧ DataW.trod enc P w base spare held m f.type [v] = some y := by
  rcases open_slice ht h with ⟨rfl, _⟩ | ⟨a, len, cap, m, n, D, Pl, rfl, _, hl, hm, hmm, _, hx⟩
  · exact ⟨none, 0, 0, rfl, by simp [maxLen], .inl rfl⟩
  · refine ⟨some a, len, cap, rfl, by omega, ?_⟩
    rcases Nat.eq_zero_or_pos len with h0 | h0
    · exact .inl h0
    · have hlt : ∀ i, i < len → i < m := fun i hi => by rw [hmm]; split <;> omega
      have cell : ∀ i, i < len → ∀ j f, fs[j]? = some f → ∃ v y m', w.cell? (a.add (i * fs.size + j)) = some v ∧ DataW.trod enc P w base spare held m' f.type [v] = some y := by
        intro i hi j f hj
        obtain ⟨cs', hc, ht'⟩ := hx i (hlt i hi)
        obtain ⟨v, y, k, hv, hy⟩ := field_of he hone hC ht' j f hj
        rw [hC] at hc
        obtain ⟨_, _, hat⟩ := World.cells?_some hc
        have hjl : j < fs.size := (Array.getElem?_eq_some_iff.1 hj).1
        exact ⟨v, y, k, by rw [← Go.Deep.add_add, hat j hjl, hv], hy⟩
      obtain ⟨v, _, _, hv, _⟩ := cell 0 h0 0 (fs[0]'hpos) (Array.getElem?_eq_getElem hpos)
      obtain ⟨b, o, spot⟩ := a
      have hs : spot = none := by simpa [Addr.add] using World.cell?_spot hv
      subst hs
      refine .inr ⟨b, o, rfl, fun i hi j f hj => ?_⟩
      obtain ⟨v, y, k, hv, hy⟩ := cell i hi j f hj
      exact ⟨v, y, k, by rw [← hv, add_plain], hy⟩
end
section
variable {H : Type} {enc : TypeId × Value → H} {w : World} {base : Nat} {spare : Nat → Bool} {held : Bool}
theorem open_chams {fuel : Nat} {cs : List Value} {x : DataW H × List MemPlace} (h : DataW.trod enc Tryd.prog w base spare held fuel 25 cs = some x) :
    ∃ p cap, ∃ l : List Cham, cs = [.slice p l.length cap] ∧ l.length ≤ maxLen ∧ SliceIn p l.length (ChamsAt w l) := by
  obtain ⟨p, n, cap, hcs, hm, hs⟩ := struct_slice Tryd.underlying25 Tryd.underlying72 (by kernel_rfl) (by kernel_rfl) (by decide) h
  rcases hs with rfl | ⟨b, o, rfl, hs⟩
  · exact ⟨p, cap, [], hcs, hm, .inl rfl⟩
  · obtain ⟨l, rfl, hl⟩ := pick_list n (fun i c => ChamCells w b (o + i * 3) c) (by
      intro i hi
      obtain ⟨v0, y0, m0, c0, t0⟩ := hs i hi 0 _ rfl
      obtain ⟨v1, y1, m1, c1, t1⟩ := hs i hi 1 _ rfl
      obtain ⟨v2, y2, m2, c2, t2⟩ := hs i hi 2 _ rfl
      obtain ⟨n0, e0, _⟩ := DataW.trod_int Tryd.underlying3 t0
      obtain ⟨n1, e1, _⟩ := DataW.trod_int Tryd.underlying3 t1
      obtain ⟨n2, e2, _⟩ := DataW.trod_int Tryd.underlying3 t2
      simp only [List.cons.injEq, and_true] at e0 e1 e2
      subst e0 e1 e2
      exact ⟨⟨n0, n1, n2⟩, c0, c1, c2⟩)
    exact ⟨_, cap, l, hcs, hm, .inr ⟨b, o, rfl, hl⟩⟩
theorem open_evts {fuel : Nat} {v : Value} {x : DataW H × List MemPlace} (h : DataW.trod enc Tryd.prog w base spare held fuel 57 [v] = some x) : ∃ l : List Evt, EvSlice w l v := by
  obtain ⟨p, n, cap, hcs, hm, hs⟩ := struct_slice Tryd.underlying57 Tryd.underlying79 (by kernel_rfl) (by kernel_rfl) (by decide) h
  simp only [List.cons.injEq, and_true] at hcs
  subst hcs
  rcases hs with rfl | ⟨b, o, rfl, hs⟩
  · exact ⟨[], p, cap, rfl, hm, .inl rfl⟩
  · obtain ⟨l, rfl, hl⟩ := pick_list n (fun i c => EvtCells w b (o + i * 3) c) (by
      intro i hi
      obtain ⟨v0, y0, m0, c0, t0⟩ := hs i hi 0 _ rfl
      obtain ⟨v1, y1, m1, c1, t1⟩ := hs i hi 1 _ rfl
      obtain ⟨v2, y2, m2, c2, t2⟩ := hs i hi 2 _ rfl
      obtain ⟨n0, e0, _⟩ := DataW.trod_int Tryd.underlying3 t0
      obtain ⟨n1, e1, _⟩ := DataW.trod_int Tryd.underlying3 t1
      obtain ⟨n2, e2, _⟩ := DataW.trod_int Tryd.underlying3 t2
      simp only [List.cons.injEq, and_true] at e0 e1 e2
      subst e0 e1 e2
      exact ⟨⟨n0, n1, n2⟩, c0, c1, c2⟩)
    exact ⟨l, _, cap, rfl, hm, .inr ⟨b, o, rfl, hl⟩⟩
theorem open_clks {fuel : Nat} {cs : List Value} {x : DataW H × List MemPlace} (h : DataW.trod enc Tryd.prog w base spare held fuel 26 cs = some x) :
    ∃ p cap, ∃ l : List Clk, cs = [.slice p l.length cap] ∧ l.length ≤ maxLen ∧ SliceIn p l.length (ClksAt w l) := by
  obtain ⟨p, n, cap, hcs, hm, hs⟩ := struct_slice Tryd.underlying26 Tryd.underlying59 (by kernel_rfl) (by kernel_rfl) (by decide) h
  rcases hs with rfl | ⟨b, o, rfl, hs⟩
  · exact ⟨p, cap, [], hcs, hm, .inl rfl⟩
  · obtain ⟨l, rfl, hl⟩ := pick_list n (fun i c => ClkCells w b (o + i * 9) c) (by
      intro i hi
      obtain ⟨v0, y0, m0, c0, t0⟩ := hs i hi 0 _ rfl
      obtain ⟨v1, y1, m1, c1, t1⟩ := hs i hi 1 _ rfl
      obtain ⟨v2, y2, m2, c2, t2⟩ := hs i hi 2 _ rfl
      obtain ⟨v3, y3, m3, c3, t3⟩ := hs i hi 3 _ rfl
      obtain ⟨v4, y4, m4, c4, t4⟩ := hs i hi 4 _ rfl
      obtain ⟨v5, y5, m5, c5, t5⟩ := hs i hi 5 _ rfl
      obtain ⟨v6, y6, m6, c6, t6⟩ := hs i hi 6 _ rfl
      obtain ⟨v7, y7, m7, c7, t7⟩ := hs i hi 7 _ rfl
      obtain ⟨v8, y8, m8, c8, t8⟩ := hs i hi 8 _ rfl
      obtain ⟨n0, e0, _⟩ := DataW.trod_int Tryd.underlying3 t0
      obtain ⟨n1, e1, _⟩ := DataW.trod_int Tryd.underlying3 t1
      obtain ⟨n2, e2, _⟩ := DataW.trod_int Tryd.underlying3 t2
      obtain ⟨n3, e3, _⟩ := DataW.trod_int Tryd.underlying3 t3
      obtain ⟨n4, e4, _⟩ := DataW.trod_int Tryd.underlying3 t4
      obtain ⟨n5, e5, _⟩ := DataW.trod_int Tryd.underlying3 t5
      obtain ⟨n6, e6, _⟩ := DataW.trod_int Tryd.underlying3 t6
      obtain ⟨n7, e7, _⟩ := DataW.trod_int Tryd.underlying3 t7
      obtain ⟨es, he⟩ := open_evts t8
      simp only [List.cons.injEq, and_true] at e0 e1 e2 e3 e4 e5 e6 e7
      subst e0 e1 e2 e3 e4 e5 e6 e7
      exact ⟨⟨n0, n1, n2, n3, n4, n5, n6, n7, es⟩, ⟨c0, c1, c2, c3, c4, c5, c6, c7⟩, v8, c8, he⟩)
    exact ⟨_, cap, l, hcs, hm, .inr ⟨b, o, rfl, hl⟩⟩
set_option maxRecDepth 100000 in
/-- the argument of a law: a world -/
theorem open_world {r : Reach} {b0 : Nat} {v : Value} {d : DataW H} {q : List MemPlace} (hv : Value.okWide Tryd.prog w r b0 28 v) (h : DataW.Trod enc Tryd.prog w base spare held 28 v d q) :
    ∃ (W : Wld) (p1 p2 : Option Addr) (c1 c2 : Nat), v = .agg #[.int .u64 W.seed, .slice p1 W.chs.length c1, .slice p2 W.cls.length c2] ∧ WldIn w W p1 p2 := by
  obtain ⟨v0, v1, v2, y0, y1, y2, n, rfl, _, _, t0, t1, t2⟩ := open_agg3 Tryd.underlying28 (by kernel_rfl) (by kernel_rfl) hv h
  obtain ⟨n0, e0, _⟩ := DataW.trod_int Tryd.underlying24 t0
  obtain ⟨p1, c1, l1, e1, m1, s1⟩ := open_chams t1
  obtain ⟨p2, c2, l2, e2, m2, s2⟩ := open_clks t2
  simp only [List.cons.injEq, and_true] at e0 e1 e2
  subst e0 e1 e2
  exact ⟨⟨n0, l1, l2⟩, p1, p2, c1, c2, rfl, m1, m2, s1, s2⟩
end
end Go.Proofs.YtmfpnfdoidihcaaDoor.Wd
namespace Go.Proofs.YtmfpnfdoidihcaaDoor.Wd
open Go Go.RowKit
def manyEvs (l : List Clk) : Bool := l.any fun c => decide (40 < c.evs.length)
def bigS (W : Wld) : Bool := decide (40 < W.chs.length) || (decide (40 < W.cls.length) || manyEvs W.cls)
theorem manyEvs_snoc (l : List Clk) (k : Nat) (h : k < l.length) : manyEvs (l.take (k + 1)) = (manyEvs (l.take k) || decide (40 < l[k].evs.length)) := by
  unfold manyEvs; rw [List.take_succ_eq_append_getElem h, List.any_append]; simp
theorem manyEvs_at (l : List Clk) (k : Nat) (h : k < l.length) (h40 : 40 < l[k].evs.length) : manyEvs l = true := by
  unfold manyEvs; rw [List.any_eq_true]; exact ⟨l[k], List.getElem_mem h, by simpa using h40⟩
theorem bigS_no {W : Wld} (h : bigS W = false) : W.chs.length ≤ 40 ∧ W.cls.length ≤ 40 ∧ ∀ k, (hk : k < W.cls.length) → W.cls[k].evs.length ≤ 40 := by
  simp only [bigS, Bool.or_eq_false_iff, decide_eq_false_iff_not] at h
  refine ⟨by omega, by omega, fun k hk => ?_⟩
  by_cases h40 : 40 < W.cls[k].evs.length
  · have := manyEvs_at _ k hk h40; rw [h.2.2] at this; cases this
  · omega
set_option maxRecDepth 100000 in
set_option maxHeartbeats 1000000 in
theorem big_loop (W : Wld) (p1 p2 : Option Addr) (c1 c2 : Nat) (w : World) (hW : WldIn w W p1 p2) (h1 : ¬ (40 : Int) < W.chs.length) (h2 : ¬ (40 : Int) < W.cls.length) :
    Calls Tryd.prog 4 #[.agg #[.int .u64 W.seed, .slice p1 W.chs.length c1, .slice p2 W.cls.length c2]] w fun e w' => e = .returned (.bool (manyEvs W.cls)) ∧ Below w.heap.size w w' := by
  have hm2 := hW.2.1
  unfold maxLen at hm2
  have hS := hW.2.2.2.imp fun _ _ h => h.below ((Below.refl _ w).alloc (Nat.le_refl _) (.cells #[.int .u64 W.seed, .slice p1 W.chs.length c1, .slice p2 W.cls.length c2] 28))
  clear hW
  rcases hS with h0 | ⟨b, o, rfl, hS⟩
  · have hn : W.cls = [] := List.eq_nil_of_length_eq_zero h0
    have hle : (W.cls.length : Int) ≤ 0 := by omega
    have H0 := Lib.hid hn
    clear hn h0
    go_enter Tryd.func4, Tryd.ntmps4
    go_wp2
    go_loop [3] (fun i => i = .int .i64 0) (fun i => (5 : Nat) - (intOf i).toNat)
    case atStart => rfl
    case round =>
      subst hrel
      go_wp2
      go_ret
      exact ⟨ret_bool (by rw [H0.out]; rfl), by go_grown⟩
  · have HS := Lib.hid hS
    clear hS
    go_enter Tryd.func4, Tryd.ntmps4
    go_wp2
    go_loop [3] (fun i => ∃ k : Nat, k ≤ W.cls.length ∧ i = .int .i64 k ∧ manyEvs (W.cls.take k) = false) (fun i => W.cls.length - (intOf i).toNat)
    case atStart => exact ⟨0, Nat.zero_le _, rfl, rfl⟩
    case round =>
      obtain ⟨k, hk, rfl, hq⟩ := hrel
      by_cases hlt : k < W.cls.length
      · obtain ⟨-, v, y8, p, cap, rfl, hml, -⟩ := HS.out k hlt
        unfold maxLen at hml
        have hsn := manyEvs_snoc W.cls k hlt
        rw [hq, Bool.false_or] at hsn
        have HSN := Lib.hid hsn
        have HAT := Lib.hid (manyEvs_at W.cls k hlt)
        clear hsn hq
        have hkl : (k : Int) < (W.cls.length : Int) := by omega
        by_cases h40 : (40 : Int) < (W.cls[k].evs.length : Int)
        · go_wp2
          go_ret
          exact ⟨ret_bool (by rw [HAT.out (by omega)]), by go_grown⟩
        · go_wp2
          go_round
          case rel => exact ⟨k + 1, by omega, by go_num, by rw [HSN.out]; simp; omega⟩
          case measure => simp [intOf]; omega
      · have hkl : ¬ (k : Int) < (W.cls.length : Int) := by omega
        have hfin : false = manyEvs W.cls := by rw [← hq, List.take_of_length_le (by omega)]
        have HF := Lib.hid hfin
        clear hfin hq
        go_wp2
        go_ret
        exact ⟨ret_bool HF.out, by go_grown⟩
set_option maxRecDepth 100000 in
theorem big_any (W : Wld) (p1 p2 : Option Addr) (c1 c2 : Nat) (w : World) (hW : WldIn w W p1 p2) :
    Calls Tryd.prog 4 #[.agg #[.int .u64 W.seed, .slice p1 W.chs.length c1, .slice p2 W.cls.length c2]] w fun e w' => e = .returned (.bool (bigS W)) ∧ Below w.heap.size w w' := by
  by_cases h1 : (40 : Int) < W.chs.length
  · have hb : true = bigS W := by simp only [bigS]; rw [show decide (40 < W.chs.length) = true by simp; omega]; rfl
    have HB := Lib.hid hb
    clear hb hW
    go_enter Tryd.func4, Tryd.ntmps4
    go_wp2
    go_ret
    exact ⟨ret_bool HB.out, by go_grown⟩
  · by_cases h2 : (40 : Int) < W.cls.length
    · have hb : true = bigS W := by simp only [bigS]; rw [show decide (40 < W.cls.length) = true by simp; omega]; simp
      have HB := Lib.hid hb
      clear hb hW
      go_enter Tryd.func4, Tryd.ntmps4
      go_wp2
      go_ret
      exact ⟨ret_bool HB.out, by go_grown⟩
    · have hb : bigS W = manyEvs W.cls := by
        simp only [bigS]
        rw [show decide (40 < W.chs.length) = false by simp; omega, show decide (40 < W.cls.length) = false by simp; omega]; rfl
      rw [hb]
      exact big_loop W p1 p2 c1 c2 w hW h1 h2
end Go.Proofs.YtmfpnfdoidihcaaDoor.Wd
