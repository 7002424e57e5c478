/- Stage 6 (steer): exported functions: Check, Index, Chart. -/
import Derived.Test.YtiapimfmnmegpaaZch
namespace Go.Proofs.Ytiapimfmnmegpaa.St
open Go Go.RowKit Go.Shelf
attribute [local go_sem] Oper.semAt_some
def planE (l r s z : Int) : Int := if planB l r s z = true then 0 else 60
set_option maxRecDepth 100000 in
theorem check_any (l r s z : Int) (w : World) :
    Calls Try.prog 15 #[.agg #[.int .i64 l, .int .i64 r, .int .i64 s, .int .i64 z]] w fun e w' => e = .returned (.int .i64 (planE l r s z)) ∧ Below w.heap.size w w' := by
  have A0 := Lib.hid (below_alloc (Below.refl w.heap.size w) (.cells #[.int .i64 l, .int .i64 r, .int .i64 s, .int .i64 z] 27))
  cases h0 : (decide (1 ≤ l) && decide (l ≤ 40))
  · have HV := Lib.hid (show planE l r s z = 60 by unfold planE planB; simp [h0])
    have H0 := Lib.hid h0
    clear h0
    rw [HV.out]
    go_enter Try.func15, Try.ntmps15
    go_wp2_with (go_at_call 35; refine (within_any _ _ _ _).mono ?_; rintro e w1 ⟨rfl, rfl⟩; first | rw [H0.out])
    go_ret
    exact ⟨rfl, A0.out⟩
  · cases h1 : (decide (0 ≤ r) && decide (r ≤ 12))
    · have HV := Lib.hid (show planE l r s z = 60 by unfold planE planB; simp [h0, h1])
      have H0 := Lib.hid h0
      have H1 := Lib.hid h1
      clear h0 h1
      rw [HV.out]
      go_enter Try.func15, Try.ntmps15
      go_wp2_with (go_at_call 35; refine (within_any _ _ _ _).mono ?_; rintro e w1 ⟨rfl, rfl⟩; first | rw [H0.out] | rw [H1.out])
      go_ret
      exact ⟨rfl, A0.out⟩
    · cases h2 : (decide (1 ≤ s) && decide (s ≤ 24))
      · have HV := Lib.hid (show planE l r s z = 60 by unfold planE planB; simp [h0, h1, h2])
        have H0 := Lib.hid h0
        have H1 := Lib.hid h1
        have H2 := Lib.hid h2
        clear h0 h1 h2
        rw [HV.out]
        go_enter Try.func15, Try.ntmps15
        go_wp2_with (go_at_call 35; refine (within_any _ _ _ _).mono ?_; rintro e w1 ⟨rfl, rfl⟩; first | rw [H0.out] | rw [H1.out] | rw [H2.out])
        go_ret
        exact ⟨rfl, A0.out⟩
      · cases h3 : (decide (0 ≤ z) && decide (z ≤ 12))
        · have HV := Lib.hid (show planE l r s z = 60 by unfold planE planB; simp [h0, h1, h2, h3])
          have H0 := Lib.hid h0
          have H1 := Lib.hid h1
          have H2 := Lib.hid h2
          have H3 := Lib.hid h3
          clear h0 h1 h2 h3
          rw [HV.out]
          go_enter Try.func15, Try.ntmps15
          go_wp2_with (go_at_call 35; refine (within_any _ _ _ _).mono ?_; rintro e w1 ⟨rfl, rfl⟩; first | rw [H0.out] | rw [H1.out] | rw [H2.out] | rw [H3.out])
          go_ret
          exact ⟨rfl, A0.out⟩
        · have HV := Lib.hid (show planE l r s z = 0 by unfold planE planB; simp [h0, h1, h2, h3])
          have H0 := Lib.hid h0
          have H1 := Lib.hid h1
          have H2 := Lib.hid h2
          have H3 := Lib.hid h3
          clear h0 h1 h2 h3
          rw [HV.out]
          go_enter Try.func15, Try.ntmps15
          go_wp2_with (go_at_call 35; refine (within_any _ _ _ _).mono ?_; rintro e w1 ⟨rfl, rfl⟩; first | rw [H0.out] | rw [H1.out] | rw [H2.out] | rw [H3.out])
          go_ret
          exact ⟨rfl, A0.out⟩
def stateE (l r s z e q : Int) : Int := if planB l r s z = true then (if hasP l r e q = true then 0 else 6) else 60
theorem state_any (l r s z e q : Int) (w : World) :
    Calls Try.prog 29 #[.agg #[.int .i64 l, .int .i64 r, .int .i64 s, .int .i64 z], .agg #[.int .i64 e, .int .i64 q]] w fun x w' => x = .returned (.int .i64 (stateE l r s z e q)) ∧ Below w.heap.size w w' := by
  have A0 := Lib.hid (two_below w l r s z e q)
  have HC := Lib.hid (fun W => check_any l r s z W)
  cases hp : planB l r s z
  · have HV := Lib.hid (show stateE l r s z e q = 60 by unfold stateE; simp [hp])
    have hE : planE l r s z = 60 := by unfold planE; simp [hp]
    rw [hE] at HC
    rw [HV.out]
    clear hE hp
    go_enter Try.func29, Try.ntmps29
    go_wp2_with (go_at_call 15; refine (HC.out _).mono ?_; rintro e w1 ⟨rfl, hb1⟩; have HB1 := Lib.hid hb1; clear hb1)
    go_ret
    exact ⟨rfl, bt A0.out HB1.out⟩
  · have hE : planE l r s z = 0 := by unfold planE; simp [hp]
    rw [hE] at HC
    have h := plan_ok hp
    have HH := Lib.hid (fun W => has_any (e := e) (q := q) h W)
    have HV := Lib.hid (show stateE l r s z e q = if hasP l r e q = true then 0 else 6 by unfold stateE; simp [hp])
    rw [HV.out]
    have hb0 := two_below w l r s z e q
    obtain ⟨k1, k2, -, k4⟩ := rat_boxes w l r s z e q rfl
    clear hE hp h
    cases hh : hasP l r e q
    · rw [hh] at HH
      rw [if_neg (by decide)]
      clear hh
      go_enter Try.func29, Try.ntmps29
      go_upto_region 2 with (go_at_call 15; refine (HC.out _).mono ?_; rintro e w1 ⟨rfl, hb1⟩; have HB1 := Lib.hid hb1; have HP1 := Lib.hid (k1.below hb1); have HE1 := Lib.hid (k2.below hb1); clear hb1 hb0 k1 k2 k4)
      obtain ⟨x0, x1, x2, x3⟩ := HP1.out.c
      have y0 := HE1.out.c0
      have y1 := HE1.out.c1
      have zx := cell_lt x0
      have zy := cell_lt y0
      go_wp2_with (go_at_call 45; refine (HH.out _).mono ?_; rintro e w2 ⟨rfl, hb2⟩; have HB2 := Lib.hid hb2; clear hb2 x0 x1 x2 x3 y0 y1 zx zy)
      go_ret
      exact ⟨rfl, bt A0.out (bt HB1.out HB2.out)⟩
    · rw [hh] at HH
      rw [if_pos rfl]
      clear hh
      go_enter Try.func29, Try.ntmps29
      go_upto_region 2 with (go_at_call 15; refine (HC.out _).mono ?_; rintro e w1 ⟨rfl, hb1⟩; have HB1 := Lib.hid hb1; have HP1 := Lib.hid (k1.below hb1); have HE1 := Lib.hid (k2.below hb1); clear hb1 hb0 k1 k2 k4)
      obtain ⟨x0, x1, x2, x3⟩ := HP1.out.c
      have y0 := HE1.out.c0
      have y1 := HE1.out.c1
      have zx := cell_lt x0
      have zy := cell_lt y0
      go_wp2_with (go_at_call 45; refine (HH.out _).mono ?_; rintro e w2 ⟨rfl, hb2⟩; have HB2 := Lib.hid hb2; clear hb2 x0 x1 x2 x3 y0 y1 zx zy)
      go_ret
      exact ⟨rfl, bt A0.out (bt HB1.out HB2.out)⟩
theorem Index_ok {l r s z e q : Int} (hp : planB l r s z = true) (hh : hasP l r e q = true) (w : World) :
    Calls Try.prog 10 #[.agg #[.int .i64 l, .int .i64 r, .int .i64 s, .int .i64 z], .int .i64 e, .int .i64 q] w fun x w' => x = .returned (.tuple #[.int .i64 (idxP l r e q), .int .i64 0]) ∧ Below w.heap.size w w' := by
  have A0 := Lib.hid (two_below w l r s z e q)
  have HC := Lib.hid (fun W => state_any l r s z e q W)
  rw [show stateE l r s z e q = 0 by unfold stateE; simp [hp, hh]] at HC
  have HI := Lib.hid (fun W => index_any (plan_ok hp) hh W)
  obtain ⟨k1, k2, -, k4⟩ := rat_boxes w l r s z e q rfl
  clear hp hh
  go_enter Try.func10, Try.ntmps10
  go_upto_region 3 with (go_at_call 29; refine (HC.out _).mono ?_; rintro e w1 ⟨rfl, hb1⟩; have HB1 := Lib.hid hb1; have HP1 := Lib.hid (k1.below hb1); have HE1 := Lib.hid (k2.below hb1); clear hb1 k1 k2 k4)
  obtain ⟨x0, x1, x2, x3⟩ := HP1.out.c
  have y0 := HE1.out.c0
  have y1 := HE1.out.c1
  have zx := cell_lt x0
  have zy := cell_lt y0
  go_wp2_with (go_at_call 30; refine (HI.out _).mono ?_; rintro e w2 ⟨rfl, hb2⟩; have HB2 := Lib.hid hb2; clear hb2 x0 x1 x2 x3 y0 y1 zx zy)
  go_ret2
  exact ⟨rfl, bt A0.out (bt HB1.out HB2.out)⟩
theorem Index_no {l r s z e q : Int} (hn : stateE l r s z e q ≠ 0) (w : World) :
    Calls Try.prog 10 #[.agg #[.int .i64 l, .int .i64 r, .int .i64 s, .int .i64 z], .int .i64 e, .int .i64 q] w fun x w' => x = .returned (.tuple #[.int .i64 0, .int .i64 (stateE l r s z e q)]) ∧ Below w.heap.size w w' := by
  have A0 := Lib.hid (two_below w l r s z e q)
  have HC := Lib.hid (fun W => state_any l r s z e q W)
  generalize stateE l r s z e q = x at *
  have h1 : (x == 0) = false := by simpa using hn
  go_enter Try.func10, Try.ntmps10
  go_wp2_with (go_at_call 29; refine (HC.out _).mono ?_; rintro e w1 ⟨rfl, hb1⟩; have HB1 := Lib.hid hb1; clear hb1)
  go_ret2
  exact ⟨rfl, bt A0.out HB1.out⟩
/-- the sizes of a plan -/
structure Siz (l r z : Int) (N D V : Nat) : Prop where
  n : sizP l r = (N : Int)
  d : 2 * z + 1 = (D : Int)
  v : 2 * r + 1 = (V : Int)
theorem PlanOk.siz {l r s z : Int} (h : PlanOk l r s z) : Siz l r z (sizP l r).toNat (2 * z + 1).toNat (2 * r + 1).toNat := by
  have := siz_bd h
  have := h.z1
  have := h.r1
  constructor <;> omega
/-- the chart of a plan -/
def chartF (l r s z : Int) : Nat → Int := chF l r s z (2 * z + 1).toNat (2 * r + 1).toNat (sizP l r).toNat
theorem ctl_f1 (l r s z : Int) (p : Option Addr) (N c : Nat) (W : World) : (Instr.field 68 (.agg #[.int .i64 l, .int .i64 r, .int .i64 s, .int .i64 z, .slice p N c]) 1).run Try.prog W = .ok (.slice p N c) W := by kernel_rfl
theorem Chart_ok {l r s z : Int} (hp : planB l r s z = true) (w : World) :
    Calls Try.prog 12 #[.agg #[.int .i64 l, .int .i64 r, .int .i64 s, .int .i64 z]] w fun e w' => ∃ b, e = .returned (.tuple #[.slice (some ⟨b, 0, none⟩) (sizP l r).toNat (sizP l r).toNat, .int .i64 0]) ∧ NumW w' (chartF l r s z) (sizP l r).toNat b 0 ∧ w.heap.size ≤ b ∧ Below w.heap.size w w' := by
  have h := plan_ok hp
  have k1 : PlAt (w.alloc (.cells #[.int .i64 l, .int .i64 r, .int .i64 s, .int .i64 z] 27)) w.heap.size l r s z := World.alloc_heap_new w _
  have A0 := Lib.hid (below_alloc (Below.refl w.heap.size w) (.cells #[.int .i64 l, .int .i64 r, .int .i64 s, .int .i64 z] 27))
  have HC := Lib.hid (fun W => check_any l r s z W)
  rw [show planE l r s z = 0 by unfold planE; simp [hp]] at HC
  have HCH := Lib.hid (fun W => chart_any l r s z h _ _ _ h.siz.n h.siz.d h.siz.v W)
  have HF := Lib.hid (show chF l r s z (2 * z + 1).toNat (2 * r + 1).toNat (sizP l r).toNat = chartF l r s z from rfl)
  rw [HF.out] at HCH
  generalize (sizP l r).toNat = N at *
  generalize chartF l r s z = f at *
  have hf1 := fun b W => ctl_f1 l r s z (some ⟨b, 0, none⟩) N N W
  clear h hp
  go_enter Try.func12, Try.ntmps12
  go_upto_region 2 with (go_at_call 15; refine (HC.out _).mono ?_; rintro e w1 ⟨rfl, hb1⟩; have HB1 := Lib.hid hb1; have HP1 := Lib.hid (k1.below hb1); clear hb1 k1)
  obtain ⟨x0, x1, x2, x3⟩ := HP1.out.c
  have zx := cell_lt x0
  go_wp2_with (go_at_call 33; refine (HCH.out _).mono ?_; rintro e w2 ⟨b, rfl, hn, hbb, hb2⟩; have HN := Lib.hid hn; have HBB := Lib.hid hbb; have HB2 := Lib.hid hb2; clear hn hbb hb2 x0 x1 x2 x3 zx)
  go_ret2
  exact ⟨b, rfl, HN.out, Nat.le_trans (Nat.le_trans A0.out.size HB1.out.size) HBB.out, bt A0.out (bt HB1.out HB2.out)⟩
theorem Chart_no {l r s z : Int} (hp : planB l r s z = false) (w : World) :
    Calls Try.prog 12 #[.agg #[.int .i64 l, .int .i64 r, .int .i64 s, .int .i64 z]] w fun e w' => e = .returned (.tuple #[.slice none 0 0, .int .i64 60]) ∧ Below w.heap.size w w' := by
  have A0 := Lib.hid (below_alloc (Below.refl w.heap.size w) (.cells #[.int .i64 l, .int .i64 r, .int .i64 s, .int .i64 z] 27))
  have HC := Lib.hid (fun W => check_any l r s z W)
  rw [show planE l r s z = 60 by unfold planE; simp [hp]] at HC
  clear hp
  go_enter Try.func12, Try.ntmps12
  go_wp2_with (go_at_call 15; refine (HC.out _).mono ?_; rintro e w1 ⟨rfl, hb1⟩; have HB1 := Lib.hid hb1; clear hb1)
  go_ret2
  exact ⟨rfl, bt A0.out HB1.out⟩
end Go.Proofs.Ytiapimfmnmegpaa.St
