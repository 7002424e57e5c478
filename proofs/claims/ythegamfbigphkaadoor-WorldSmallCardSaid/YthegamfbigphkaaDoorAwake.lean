/- The examples of the chapter hold. -/
import Derived.Test.YthegamfbigphkaaDoorBack
namespace Go.Proofs.YthegamfbigphkaaDoor
open Go Go.RowKit
def plainW (c : Clk) : Wld := ⟨0, [⟨20000, 1000, 10⟩], [{ c with kind := 1 }]⟩
/-- what plain hands back -/
def Plained (c : Clk) (B : Nat) (w : World) (e : Ending) (w' : World) : Prop :=
  ∃ p1 p2, e = .returned (wldVal (plainW c) p1 p2 1 1) ∧ WldIn w' (plainW c) p1 p2 ∧ Below B w w'
set_option maxRecDepth 100000 in
theorem plain_any (c : Clk) (p : Option Addr) (cap : Nat) (w X : World) (hb : Below w.heap.size w X) (hv : EvSlice X c.evs (.slice p c.evs.length cap)) :
    Calls Tryd.prog 45 #[clkVal c (.slice p c.evs.length cap)] X (Plained c w.heap.size w) := by
  have HV := Lib.hid hv
  have HB := Lib.hid hb
  clear hv hb
  unfold clkVal
  go_enter Tryd.func45, Tryd.ntmps45
  go_wp2
  go_returns
  refine ⟨some ⟨X.heap.size + 1 + 1, 0, none⟩, some ⟨X.heap.size + 1 + 1 + 1, 0, none⟩, rfl, ⟨by simp [plainW, maxLen], by simp [plainW, maxLen], .inr ⟨_, _, rfl, ?_⟩, .inr ⟨_, _, rfl, ?_⟩⟩, ?_⟩
  · intro i hi
    obtain rfl : i = 0 := by simp [plainW] at hi; omega
    exact ⟨by simp [go_sem, plainW], by simp [go_sem, plainW], by simp [go_sem, plainW]⟩
  · intro i hi
    obtain rfl : i = 0 := by simp [plainW] at hi; omega
    refine ⟨⟨by simp [go_sem, plainW], by simp [go_sem, plainW], by simp [go_sem, plainW], by simp [go_sem, plainW], by simp [go_sem, plainW], by simp [go_sem, plainW], by simp [go_sem, plainW], by simp [go_sem, plainW]⟩, .slice p c.evs.length cap, by simp [go_sem], ?_⟩
    exact HV.out.below (below_alloc (below_alloc (below_alloc (below_alloc (Below.refl _ _) _) _) _) _)
  · exact below_alloc (below_alloc (below_alloc (below_alloc HB.out _) _) _) _
theorem phaseIs_any (c : Clk) (s want : Int) (p : Option Addr) (cap : Nat) (w X : World) (hb : Below w.heap.size w X) (ht : Tabs w) (hv : EvSlice X c.evs (.slice p c.evs.length cap)) (h1 : (phaseE (plainW c) 0 s).v = want) (h2 : (phaseE (plainW c) 0 s).e = 0) :
    Calls Tryd.prog 44 #[clkVal c (.slice p c.evs.length cap), .int .i64 s, .int .i64 want] X fun e w' => e = .returned (.bool true) ∧ Below w.heap.size w w' := by
  have HT := Lib.hid ht
  have HV := Lib.hid hv
  have HB := Lib.hid hb
  have H1 := Lib.hid h1
  have H2 := Lib.hid h2
  clear hv hb ht h1 h2
  have hval : clkVal c (.slice p c.evs.length cap) = .agg #[.int .i64 c.kind, .int .i64 c.phase, .int .i64 c.rate, .int .i64 c.drift, .int .i64 c.white, .int .i64 c.walk, .int .i64 c.heat, .int .i64 c.room, .slice p c.evs.length cap] := rfl
  rw [hval]
  clear hval
  go_enter Tryd.func44, Tryd.ntmps44
  go_wp2_with fail
  refine (plain_any c p cap w _ (below_alloc HB.out _) (HV.out.below (below_alloc (Below.refl _ _) _))).mono ?_
  rintro e w1 ⟨p1, p2, rfl, hW, hb1⟩
  have HW := Lib.hid hW
  have HB1 := Lib.hid hb1
  clear hW hb1
  unfold wldVal
  go_wp2_with fail
  refine (phase_any (plainW c) 0 s p1 p2 1 1 _ (HT.out.below HB1.out) HW.out).mono ?_
  rintro e w2 ⟨rfl, hb2⟩
  have HB2 := Lib.hid hb2
  clear hb2
  rw [H1.out, H2.out]
  go_wp2
  go_ret
  exact ⟨rfl, HB1.out.trans (HB2.out.mono HB1.out.size)⟩
theorem ev_nil (w : World) : EvSlice w [] (.slice none ([] : List Evt).length 0) := ⟨none, 0, rfl, by simp [maxLen], .inl rfl⟩
def phOk (c : Clk) (s want : Int) : Bool := decide ((phaseE (plainW c) 0 s).v = want) && decide ((phaseE (plainW c) 0 s).e = 0)
theorem phaseIs_ok (c : Clk) (s want : Int) (p : Option Addr) (cap : Nat) (w X : World) (hb : Below w.heap.size w X) (ht : Tabs w) (hv : EvSlice X c.evs (.slice p c.evs.length cap)) (h : phOk c s want = true) :
    Calls Tryd.prog 44 #[clkVal c (.slice p c.evs.length cap), .int .i64 s, .int .i64 want] X fun e w' => e = .returned (.bool true) ∧ Below w.heap.size w w' := by
  simp only [phOk, Bool.and_eq_true, decide_eq_true_eq] at h
  exact phaseIs_any c s want p cap w X hb ht hv h.1 h.2
theorem ex0 : phOk ⟨0, 5000, 1500, 0, 0, 0, 0, 0, []⟩ 10 5015 = true := by decide +kernel
theorem ex1 : phOk ⟨0, 5000, 1500, 0, 0, 0, 0, 0, []⟩ 1 5001 = true := by decide +kernel
theorem ex2 : phOk ⟨0, 5000, (-1500), 0, 0, 0, 0, 0, []⟩ 1 4998 = true := by decide +kernel
theorem ex3 : phOk ⟨0, 0, 0, 8640, 0, 0, 0, 0, []⟩ 10001 5000 = true := by decide +kernel
theorem ex4 : phOk ⟨0, 0, 0, 0, 0, 0, 0, 0, [⟨2, 4, 2000⟩]⟩ 4 0 = true := by decide +kernel
theorem ex5 : phOk ⟨0, 0, 0, 0, 0, 0, 0, 0, [⟨2, 4, 2000⟩]⟩ 5 2 = true := by decide +kernel
theorem ex6 : phOk ⟨0, 0, 0, 0, 0, 0, 0, 0, [⟨2, 4, 2000⟩]⟩ 10 12 = true := by decide +kernel
theorem ex7 : phOk ⟨0, 0, 0, 0, 0, 0, 0, 0, [⟨1, 4, 700⟩]⟩ 3 0 = true := by decide +kernel
theorem ex8 : phOk ⟨0, 0, 0, 0, 0, 0, 0, 0, [⟨1, 4, 700⟩]⟩ 4 700 = true := by decide +kernel
theorem ex_temp : (tempE (plainW ⟨0, 0, 0, 0, 0, 0, 0, 0, []⟩) 0 6).v = 20800 ∧ (tempE (plainW ⟨0, 0, 0, 0, 0, 0, 0, 0, []⟩) 0 6).e = 0 := by decide +kernel
theorem ex_read : (readE (plainW ⟨0, -3, 0, 0, 0, 0, 0, 0, []⟩) 0 7).a = 6 ∧ (readE (plainW ⟨0, -3, 0, 0, 0, 0, 0, 0, []⟩) 0 7).b = 999999999999997 ∧ (readE (plainW ⟨0, -3, 0, 0, 0, 0, 0, 0, []⟩) 0 7).e = 0 := by decide +kernel
theorem ex_back : (backE (plainW ⟨0, -3, 0, 0, 0, 0, 0, 0, []⟩) 0 6 999999999999997).v = 7 ∧ (backE (plainW ⟨0, -3, 0, 0, 0, 0, 0, 0, []⟩) 0 6 999999999999997).e = 0 := by decide +kernel
theorem ev_one {w : World} {b : Nat} {e : Evt} (h : EvtCells w b 0 e) : EvSlice w [e] (.slice (some ⟨b, 0, none⟩) [e].length 1) :=
  ⟨_, 1, rfl, by simp [maxLen], .inr ⟨b, 0, rfl, fun i hi => by
    obtain rfl : i = 0 := by simp at hi; omega
    exact h⟩⟩
def ZeroClk (w : World) (b : Nat) (v : Value) : Prop :=
  (w.cell? ⟨b, 0, none⟩ = some (.int .i64 0) ∧ w.cell? ⟨b, 1, none⟩ = some (.int .i64 0) ∧ w.cell? ⟨b, 2, none⟩ = some (.int .i64 0) ∧ w.cell? ⟨b, 3, none⟩ = some (.int .i64 0)) ∧
  (w.cell? ⟨b, 4, none⟩ = some (.int .i64 0) ∧ w.cell? ⟨b, 5, none⟩ = some (.int .i64 0) ∧ w.cell? ⟨b, 6, none⟩ = some (.int .i64 0) ∧ w.cell? ⟨b, 7, none⟩ = some (.int .i64 0)) ∧ w.cell? ⟨b, 8, none⟩ = some v
theorem ZeroClk.below {w w' : World} {b : Nat} {v : Value} (h : ZeroClk w b v) (hb : Below w.heap.size w w') : ZeroClk w' b v := by
  obtain ⟨⟨a0, a1, a2, a3⟩, ⟨a4, a5, a6, a7⟩, a8⟩ := h
  exact ⟨⟨cell_below hb a0, cell_below hb a1, cell_below hb a2, cell_below hb a3⟩, ⟨cell_below hb a4, cell_below hb a5, cell_below hb a6, cell_below hb a7⟩, cell_below hb a8⟩
set_option maxRecDepth 100000 in
set_option maxHeartbeats 2000000 in
theorem awake_any (w : World) (ht : Tabs w) :
    Calls Tryd.prog 11 #[] w fun e w' => e = .returned (.bool true) ∧ Below w.heap.size w w' := by
  have HT := Lib.hid ht
  clear ht
  go_enter Tryd.func11, Tryd.ntmps11
  go_wp2_with fail
  refine (phaseIs_ok ⟨0, 5000, 1500, 0, 0, 0, 0, 0, []⟩ 10 5015 none 0 w _ (Below.refl _ _) HT.out (ev_nil _) ex0).mono ?_
  rintro e w1 ⟨rfl, hb1⟩
  have HB1 := Lib.hid hb1
  clear hb1
  go_wp2_with fail
  refine (phaseIs_ok ⟨0, 5000, 1500, 0, 0, 0, 0, 0, []⟩ 1 5001 none 0 w _ HB1.out HT.out (ev_nil _) ex1).mono ?_
  rintro e w2 ⟨rfl, hb2⟩
  have HB2 := Lib.hid hb2
  clear hb2
  go_wp2_with fail
  refine (phaseIs_ok ⟨0, 5000, (-1500), 0, 0, 0, 0, 0, []⟩ 1 4998 none 0 w _ HB2.out HT.out (ev_nil _) ex2).mono ?_
  rintro e w3 ⟨rfl, hb3⟩
  have HB3 := Lib.hid hb3
  clear hb3
  go_wp2_with fail
  refine (phaseIs_ok ⟨0, 0, 0, 8640, 0, 0, 0, 0, []⟩ 10001 5000 none 0 w _ HB3.out HT.out (ev_nil _) ex3).mono ?_
  rintro e w4 ⟨rfl, hb4⟩
  have HB4 := Lib.hid hb4
  clear hb4
  go_wp2_with fail
  have hbX : Below w.heap.size w ((((w4.alloc (.cells #[.int .i64 2, .int .i64 4, .int .i64 2000] 89)).alloc (.cells #[.int .i64 0, .int .i64 0, .int .i64 0, .int .i64 0, .int .i64 0, .int .i64 0, .int .i64 0, .int .i64 0, .slice (some ⟨w4.heap.size, 0, none⟩) 1 1] 86)).alloc (.cells #[.int .i64 1, .int .i64 4, .int .i64 700] 89)).alloc (.cells #[.int .i64 0, .int .i64 0, .int .i64 0, .int .i64 0, .int .i64 0, .int .i64 0, .int .i64 0, .int .i64 0, .slice (some ⟨w4.heap.size + 1 + 1, 0, none⟩) 1 1] 86)) := below_alloc (below_alloc (below_alloc (below_alloc HB4.out _) _) _) _
  have kz : ZeroClk ((((w4.alloc (.cells #[.int .i64 2, .int .i64 4, .int .i64 2000] 89)).alloc (.cells #[.int .i64 0, .int .i64 0, .int .i64 0, .int .i64 0, .int .i64 0, .int .i64 0, .int .i64 0, .int .i64 0, .slice (some ⟨w4.heap.size, 0, none⟩) 1 1] 86)).alloc (.cells #[.int .i64 1, .int .i64 4, .int .i64 700] 89)).alloc (.cells #[.int .i64 0, .int .i64 0, .int .i64 0, .int .i64 0, .int .i64 0, .int .i64 0, .int .i64 0, .int .i64 0, .slice (some ⟨w4.heap.size + 1 + 1, 0, none⟩) 1 1] 86)) (w4.heap.size + 1) (.slice (some ⟨w4.heap.size, 0, none⟩) 1 1) := ⟨⟨by simp [go_sem], by simp [go_sem], by simp [go_sem], by simp [go_sem]⟩, ⟨by simp [go_sem], by simp [go_sem], by simp [go_sem], by simp [go_sem]⟩, by simp [go_sem]⟩
  have sz : ZeroClk ((((w4.alloc (.cells #[.int .i64 2, .int .i64 4, .int .i64 2000] 89)).alloc (.cells #[.int .i64 0, .int .i64 0, .int .i64 0, .int .i64 0, .int .i64 0, .int .i64 0, .int .i64 0, .int .i64 0, .slice (some ⟨w4.heap.size, 0, none⟩) 1 1] 86)).alloc (.cells #[.int .i64 1, .int .i64 4, .int .i64 700] 89)).alloc (.cells #[.int .i64 0, .int .i64 0, .int .i64 0, .int .i64 0, .int .i64 0, .int .i64 0, .int .i64 0, .int .i64 0, .slice (some ⟨w4.heap.size + 1 + 1, 0, none⟩) 1 1] 86)) (w4.heap.size + 1 + 1 + 1) (.slice (some ⟨w4.heap.size + 1 + 1, 0, none⟩) 1 1) := ⟨⟨by simp [go_sem], by simp [go_sem], by simp [go_sem], by simp [go_sem]⟩, ⟨by simp [go_sem], by simp [go_sem], by simp [go_sem], by simp [go_sem]⟩, by simp [go_sem]⟩
  have ke : EvtCells ((((w4.alloc (.cells #[.int .i64 2, .int .i64 4, .int .i64 2000] 89)).alloc (.cells #[.int .i64 0, .int .i64 0, .int .i64 0, .int .i64 0, .int .i64 0, .int .i64 0, .int .i64 0, .int .i64 0, .slice (some ⟨w4.heap.size, 0, none⟩) 1 1] 86)).alloc (.cells #[.int .i64 1, .int .i64 4, .int .i64 700] 89)).alloc (.cells #[.int .i64 0, .int .i64 0, .int .i64 0, .int .i64 0, .int .i64 0, .int .i64 0, .int .i64 0, .int .i64 0, .slice (some ⟨w4.heap.size + 1 + 1, 0, none⟩) 1 1] 86)) w4.heap.size 0 ⟨2, 4, 2000⟩ := ⟨by simp [go_sem], by simp [go_sem], by simp [go_sem]⟩
  have se : EvtCells ((((w4.alloc (.cells #[.int .i64 2, .int .i64 4, .int .i64 2000] 89)).alloc (.cells #[.int .i64 0, .int .i64 0, .int .i64 0, .int .i64 0, .int .i64 0, .int .i64 0, .int .i64 0, .int .i64 0, .slice (some ⟨w4.heap.size, 0, none⟩) 1 1] 86)).alloc (.cells #[.int .i64 1, .int .i64 4, .int .i64 700] 89)).alloc (.cells #[.int .i64 0, .int .i64 0, .int .i64 0, .int .i64 0, .int .i64 0, .int .i64 0, .int .i64 0, .int .i64 0, .slice (some ⟨w4.heap.size + 1 + 1, 0, none⟩) 1 1] 86)) (w4.heap.size + 1 + 1) 0 ⟨1, 4, 700⟩ := ⟨by simp [go_sem], by simp [go_sem], by simp [go_sem]⟩
  generalize ((((w4.alloc (.cells #[.int .i64 2, .int .i64 4, .int .i64 2000] 89)).alloc (.cells #[.int .i64 0, .int .i64 0, .int .i64 0, .int .i64 0, .int .i64 0, .int .i64 0, .int .i64 0, .int .i64 0, .slice (some ⟨w4.heap.size, 0, none⟩) 1 1] 86)).alloc (.cells #[.int .i64 1, .int .i64 4, .int .i64 700] 89)).alloc (.cells #[.int .i64 0, .int .i64 0, .int .i64 0, .int .i64 0, .int .i64 0, .int .i64 0, .int .i64 0, .int .i64 0, .slice (some ⟨w4.heap.size + 1 + 1, 0, none⟩) 1 1] 86)) = v0 at *
  have FB0 := Lib.hid hbX
  have KZ0 := Lib.hid kz
  have SZ0 := Lib.hid sz
  have KE0 := Lib.hid ke
  have SE0 := Lib.hid se
  clear hbX kz sz ke se
  refine (phaseIs_ok ⟨0, 0, 0, 0, 0, 0, 0, 0, [⟨2, 4, 2000⟩]⟩ 4 0 _ 1 v0 _ (Below.refl _ _) (HT.out.below FB0.out) (ev_one KE0.out) ex4).mono ?_
  rintro e v1 ⟨rfl, hb⟩
  have FB1 := Lib.hid (FB0.out.trans (hb.mono FB0.out.size))
  have KZ1 := Lib.hid (KZ0.out.below hb)
  have SZ1 := Lib.hid (SZ0.out.below hb)
  have KE1 := Lib.hid (KE0.out.below hb)
  have SE1 := Lib.hid (SE0.out.below hb)
  clear hb KZ0 SZ0 KE0 SE0
  obtain ⟨⟨a0, a1, a2, a3⟩, ⟨a4, a5, a6, a7⟩, a8⟩ := KZ1.out
  have hlt := cell_lt a0
  go_wp2_with fail
  clear a0 a1 a2 a3 a4 a5 a6 a7 a8 hlt
  refine (phaseIs_ok ⟨0, 0, 0, 0, 0, 0, 0, 0, [⟨2, 4, 2000⟩]⟩ 5 2 _ 1 v1 _ (Below.refl _ _) (HT.out.below FB1.out) (ev_one KE1.out) ex5).mono ?_
  rintro e v2 ⟨rfl, hb⟩
  have FB2 := Lib.hid (FB1.out.trans (hb.mono FB1.out.size))
  have KZ2 := Lib.hid (KZ1.out.below hb)
  have SZ2 := Lib.hid (SZ1.out.below hb)
  have KE2 := Lib.hid (KE1.out.below hb)
  have SE2 := Lib.hid (SE1.out.below hb)
  clear hb KZ1 SZ1 KE1 SE1
  obtain ⟨⟨a0, a1, a2, a3⟩, ⟨a4, a5, a6, a7⟩, a8⟩ := KZ2.out
  have hlt := cell_lt a0
  go_wp2_with fail
  clear a0 a1 a2 a3 a4 a5 a6 a7 a8 hlt
  refine (phaseIs_ok ⟨0, 0, 0, 0, 0, 0, 0, 0, [⟨2, 4, 2000⟩]⟩ 10 12 _ 1 v2 _ (Below.refl _ _) (HT.out.below FB2.out) (ev_one KE2.out) ex6).mono ?_
  rintro e v3 ⟨rfl, hb⟩
  have FB3 := Lib.hid (FB2.out.trans (hb.mono FB2.out.size))
  have KZ3 := Lib.hid (KZ2.out.below hb)
  have SZ3 := Lib.hid (SZ2.out.below hb)
  have KE3 := Lib.hid (KE2.out.below hb)
  have SE3 := Lib.hid (SE2.out.below hb)
  clear hb KZ2 SZ2 KE2 SE2
  obtain ⟨⟨a0, a1, a2, a3⟩, ⟨a4, a5, a6, a7⟩, a8⟩ := SZ3.out
  have hlt := cell_lt a0
  go_wp2_with fail
  clear a0 a1 a2 a3 a4 a5 a6 a7 a8 hlt
  refine (phaseIs_ok ⟨0, 0, 0, 0, 0, 0, 0, 0, [⟨1, 4, 700⟩]⟩ 3 0 _ 1 v3 _ (Below.refl _ _) (HT.out.below FB3.out) (ev_one SE3.out) ex7).mono ?_
  rintro e v4 ⟨rfl, hb⟩
  have FB4 := Lib.hid (FB3.out.trans (hb.mono FB3.out.size))
  have KZ4 := Lib.hid (KZ3.out.below hb)
  have SZ4 := Lib.hid (SZ3.out.below hb)
  have KE4 := Lib.hid (KE3.out.below hb)
  have SE4 := Lib.hid (SE3.out.below hb)
  clear hb KZ3 SZ3 KE3 SE3
  obtain ⟨⟨a0, a1, a2, a3⟩, ⟨a4, a5, a6, a7⟩, a8⟩ := SZ4.out
  have hlt := cell_lt a0
  go_wp2_with fail
  clear a0 a1 a2 a3 a4 a5 a6 a7 a8 hlt
  refine (phaseIs_ok ⟨0, 0, 0, 0, 0, 0, 0, 0, [⟨1, 4, 700⟩]⟩ 4 700 _ 1 v4 _ (Below.refl _ _) (HT.out.below FB4.out) (ev_one SE4.out) ex8).mono ?_
  rintro e v5 ⟨rfl, hb⟩
  have FB5 := Lib.hid (FB4.out.trans (hb.mono FB4.out.size))
  have KZ5 := Lib.hid (KZ4.out.below hb)
  have SZ5 := Lib.hid (SZ4.out.below hb)
  have KE5 := Lib.hid (KE4.out.below hb)
  have SE5 := Lib.hid (SE4.out.below hb)
  clear hb KZ4 SZ4 KE4 SE4
  clear KZ5 SZ5 KE5 SE5
  go_wp2_with fail
  refine (plain_any ⟨0, 0, 0, 0, 0, 0, 0, 0, []⟩ none 0 w _ FB5.out (ev_nil _)).mono ?_
  rintro e x0 ⟨p1, p2, rfl, hW, hb⟩
  have HW := Lib.hid hW
  have FB6 := Lib.hid hb
  clear hW hb
  unfold wldVal
  go_wp2_with fail
  refine (temperature_any (plainW ⟨0, 0, 0, 0, 0, 0, 0, 0, []⟩) 0 6 p1 p2 1 1 _ (HT.out.below FB6.out) HW.out).mono ?_
  rintro e x1 ⟨rfl, hb⟩
  have FB7 := Lib.hid (FB6.out.trans (hb.mono FB6.out.size))
  clear hb
  rw [ex_temp.1, ex_temp.2]
  go_wp2_with fail
  refine (plain_any ⟨0, -3, 0, 0, 0, 0, 0, 0, []⟩ none 0 w _ FB7.out (ev_nil _)).mono ?_
  rintro e x2 ⟨p3, p4, rfl, hW2, hb⟩
  have HW2 := Lib.hid hW2
  have FB8 := Lib.hid hb
  clear hW2 hb
  unfold wldVal
  go_wp2_with fail
  refine (read_any (plainW ⟨0, -3, 0, 0, 0, 0, 0, 0, []⟩) 0 7 p3 p4 1 1 _ (HT.out.below FB8.out) HW2.out).mono ?_
  rintro e x3 ⟨rfl, hb⟩
  have FB9 := Lib.hid (FB8.out.trans (hb.mono FB8.out.size))
  clear hb
  rw [ex_read.1, ex_read.2.1, ex_read.2.2]
  go_wp2_with fail
  have hm : Below w.heap.size w (x3.alloc (.cells #[.int .i64 6, .int .i64 999999999999997] 49)) := below_alloc FB9.out _
  have m0 : (x3.alloc (.cells #[.int .i64 6, .int .i64 999999999999997] 49)).cell? ⟨x3.heap.size, 0, none⟩ = some (.int .i64 6) := by simp
  have m1 : (x3.alloc (.cells #[.int .i64 6, .int .i64 999999999999997] 49)).cell? ⟨x3.heap.size, 1, none⟩ = some (.int .i64 999999999999997) := by simp
  generalize (x3.alloc (.cells #[.int .i64 6, .int .i64 999999999999997] 49)) = x4 at *
  have HM := Lib.hid hm
  clear hm
  refine (plain_any ⟨0, -3, 0, 0, 0, 0, 0, 0, []⟩ none 0 x4 _ (Below.refl _ _) (ev_nil _)).mono ?_
  rintro e x5 ⟨p5, p6, rfl, hW3, hb⟩
  have HW3 := Lib.hid hW3
  have n0 := cell_below hb m0
  have n1 := cell_below hb m1
  have FB10 := Lib.hid (HM.out.trans (hb.mono HM.out.size))
  clear hW3 hb m0 m1
  unfold wldVal
  have N0 := Lib.hid n0
  have N1 := Lib.hid n1
  clear n0 n1
  go_wp2_with fail
  refine (Back_any (plainW ⟨0, -3, 0, 0, 0, 0, 0, 0, []⟩) 0 6 999999999999997 p5 p6 1 1 _ (HT.out.below FB10.out) HW3.out (by decide)).mono ?_
  rintro e x6 ⟨rfl, hb⟩
  have n0 := cell_below hb N0.out
  have n1 := cell_below hb N1.out
  have FB11 := Lib.hid (FB10.out.trans (hb.mono FB10.out.size))
  clear hb
  rw [ex_back.1, ex_back.2]
  have hz := cell_lt n0
  go_wp2
  go_ret
  exact ⟨rfl, FB11.out⟩
end Go.Proofs.YthegamfbigphkaaDoor
