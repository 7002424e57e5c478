/- Contracts of layer 2: Show, Wrap. · Contracts of layer 2: Ceil; what two spans have in common; a turn. -/
import Derived.Test.YtlelamjbfjneiaaGreatDoorQ05
import Derived.Deep.RegionHeld3
import Derived.Deep.CutRange
namespace Go.Proofs.YtlelamjbfjneiaaGreatDoor.Ct
open Go Go.RowKit
/-- what Show answers -/
def showErr (c : Cnt) (s d : Int) : Int := if cntB c = true then (if meetB c s = true then (if -1000000000000000 ≤ d ∧ d ≤ 1000000000000000 then 0 else 6) else 21) else 30
def rawS (c : Cnt) (seed s d : Int) : Int := c.f * d + c.o + drawS (sourceS seed 3 c.i) s c.j
def shownS (c : Cnt) (seed s d : Int) : Int := wrapS c (roundS c (rawS c seed s d))
theorem meetB_yes {c : Cnt} {s : Int} (h : meetB c s = true) : (0 ≤ s ∧ s ≤ 1000000) ∧ s % c.d = 0 := by simpa [meetB] using h
theorem mul_bd (x y a b : Int) (hx : 0 ≤ x ∧ x ≤ a) (hy : -b ≤ y ∧ y ≤ b) : -(a * b) ≤ x * y ∧ x * y ≤ a * b := by
  have h1 : x * y ≤ x * b := Int.mul_le_mul_of_nonneg_left hy.2 hx.1
  have h2 : x * (-b) ≤ x * y := Int.mul_le_mul_of_nonneg_left hy.1 hx.1
  have h3 : x * b ≤ a * b := Int.mul_le_mul_of_nonneg_right hx.2 (by omega)
  have h4 : x * (-b) = -(x * b) := by grind
  omega
theorem raw_bd {c : Cnt} (h : CntIn c) (seed s d : Int) (hd : -1000000000000000 ≤ d ∧ d ≤ 1000000000000000) : -1100000000000000000 ≤ c.f * d ∧ c.f * d ≤ 1100000000000000000 ∧ -1100000000000000000 ≤ rawS c seed s d ∧ rawS c seed s d ≤ 1100000000000000000 := by
  have h1 := mul_bd c.f d 1000 1000000000000000 (by have := h.f; omega) hd
  have h2 := drawS_bd (sourceS seed 3 c.i) s c.j h.j.1
  have := h.o
  have := h.j
  unfold rawS
  omega
theorem box_keep (X : World) (b : Nat) (c : Cnt) (h : CBox X b c) (W : World) (hb : Below X.heap.size X W) : W.cell? ⟨b, 0, none⟩ = some (.int .i64 c.f) ∧ W.cell? ⟨b, 1, none⟩ = some (.int .i64 c.o) ∧ W.cell? ⟨b, 2, none⟩ = some (.int .i64 c.j) ∧ W.cell? ⟨b, 3, none⟩ = some (.int .i64 c.g) ∧ W.cell? ⟨b, 4, none⟩ = some (.int .i64 c.r) ∧ W.cell? ⟨b, 5, none⟩ = some (.int .i64 c.d) ∧ W.cell? ⟨b, 6, none⟩ = some (.int .i64 c.i) :=
  ⟨cell_below hb h.c0, cell_below hb h.c1, cell_below hb h.c2, cell_below hb h.c3, cell_below hb h.c4, cell_below hb h.c5, cell_below hb h.c6⟩
set_option maxRecDepth 100000 in
set_option maxHeartbeats 4000000 in
theorem show_any (c : Cnt) (seed s d : Int) (w : World) :
    Calls Tryz.prog 19 #[cntVal c, .int .u64 seed, .int .i64 s, .int .i64 d] w fun e w' => e = .returned (.tuple #[.int .i64 (if showErr c s d = 0 then shownS c seed s d else 0), .int .i64 (showErr c s d)]) ∧ Below w.heap.size w w' := by
  have A0 := Lib.hid (below_alloc (Below.refl w.heap.size w) (cntObj c))
  have HB := Lib.hid (CBox.new w c)
  unfold cntObj at A0 HB
  have HCK := Lib.hid (fun W => check_any c W)
  by_cases hc : cntB c = true
  · have HCI := Lib.hid (cntB_in hc)
    rw [show checkC c = 0 from if_pos hc] at HCK
    have hE : showErr c s d = (if meetB c s = true then (if -1000000000000000 ≤ d ∧ d ≤ 1000000000000000 then 0 else 6) else 21) := if_pos hc
    have HM := Lib.hid (fun W => measuresAt_any c s W HCI.out)
    clear hc
    by_cases hm : meetB c s = true
    · rw [if_pos hm] at hE
      rw [hm] at HM
      have HS := Lib.hid (meetB_yes hm)
      have HD := Lib.hid (fun W => isDifference_any d W)
      clear hm
      by_cases hd : -1000000000000000 ≤ d ∧ d ≤ 1000000000000000
      · rw [if_pos hd] at hE
        rw [hE, if_pos rfl]
        rw [show (decide (-1000000000000000 ≤ d) && decide (d ≤ 1000000000000000)) = true by simpa using hd] at HD
        obtain ⟨b1, b2, b3, b4⟩ := raw_bd HCI.out seed s d hd
        have hdr := drawS_bd (sourceS seed 3 c.i) s c.j HCI.out.j.1
        have hj := HCI.out.j
        have ho := HCI.out.o
        have hrb := roundS_bd HCI.out (rawS c seed s d)
        have hg := HCI.out.g
        have k1 : IntKind.i64.wrap (c.f * d) = c.f * d := IntWalk.i64_in _ (by omega)
        have k2 : IntKind.i64.wrap (c.f * d + c.o) = c.f * d + c.o := IntWalk.i64_in _ (by omega)
        have k3 : IntKind.i64.wrap (c.f * d + c.o + drawS (sourceS seed 3 c.i) s c.j) = rawS c seed s d := IntWalk.i64_in _ (by unfold rawS at b3 b4; omega)
        have HDR := Lib.hid (fun W => Draw_any seed 3 c.i s c.j W (by omega) (by have := HCI.out.i; omega) (by have := HS.out; omega) (by omega))
        have HRO := Lib.hid (fun W => round_any c (rawS c seed s d) W HCI.out (by omega))
        have HWR := Lib.hid (fun W => wrap_any c (roundS c (rawS c seed s d)) W HCI.out (by omega))
        obtain ⟨V, hV⟩ : ∃ V, V = shownS c seed s d := ⟨_, rfl⟩
        rw [show wrapS c (roundS c (rawS c seed s d)) = V from hV.symm] at HWR
        rw [← hV]
        obtain ⟨dr, hdrr⟩ : ∃ dr, dr = drawS (sourceS seed 3 c.i) s c.j := ⟨_, rfl⟩
        rw [← hdrr] at k3 HDR
        generalize roundS c (rawS c seed s d) = ro at *
        generalize rawS c seed s d = rw_ at *
        clear hE hd b1 b2 b3 b4 hdr hj ho hrb hg hV hdrr
        unfold cntVal at HCK HM HRO HWR
        unfold cntVal
        go_enter Tryz.func19, Tryz.ntmps19
        have h0 := box_keep _ _ c HB.out _ (Below.refl _ _)
        obtain ⟨x0, x1, x2, x3, x4, x5, x6⟩ := h0
        have hz := cell_lt x0
        go_wp2_with fail
        refine (HCK.out _).mono ?_
        rintro e w1 ⟨rfl, hb⟩
        have HB1 := Lib.hid (HB.out.below hb)
        have A1 := Lib.hid (A0.out.trans (hb.mono A0.out.size))
        clear hb x0 x1 x2 x3 x4 x5 x6 hz
        obtain ⟨x0, x1, x2, x3, x4, x5, x6⟩ := HB1.out
        have hz := cell_lt x0
        go_wp2_with fail
        refine (HM.out _).mono ?_
        rintro e w2 ⟨rfl, hb⟩
        have HB2 := Lib.hid (HB1.out.below hb)
        have A2 := Lib.hid (A1.out.trans (hb.mono A1.out.size))
        clear hb x0 x1 x2 x3 x4 x5 x6 hz HB1 A1
        obtain ⟨x0, x1, x2, x3, x4, x5, x6⟩ := HB2.out
        have hz := cell_lt x0
        go_wp2_with (first | (go_at_call 45; refine (HD.out _).mono ?_; rintro e w3 ⟨rfl, rfl⟩) | (go_at_call 46; refine (HDR.out _).mono ?_; rintro e w3 ⟨rfl, rfl⟩))
        clear x0 x1 x2 x3 x4 x5 x6 hz
        have HK := Lib.hid (box_keep w2 w.heap.size c HB2.out)
        have hB0 : Below w2.heap.size w2 w2.drew := Below.drew (Below.refl _ _)
        have HRK := Lib.hid (fun W (hb : Below w2.heap.size w2 W) => (HRO.out W).mono fun _ _ h => And.intro h.1 (hb.trans (h.2.mono hb.size)))
        have HWK := Lib.hid (fun W (hb : Below w2.heap.size w2 W) => (HWR.out W).mono fun _ _ h => And.intro h.1 (hb.trans (h.2.mono hb.size)))
        go_region_held3 (fun w' => w'.cell? ⟨w.heap.size, 0, none⟩ = some (.int .i64 c.f) ∧ w'.cell? ⟨w.heap.size, 1, none⟩ = some (.int .i64 c.o) ∧ w'.cell? ⟨w.heap.size, 2, none⟩ = some (.int .i64 c.j) ∧ w'.cell? ⟨w.heap.size, 3, none⟩ = some (.int .i64 c.g) ∧ w'.cell? ⟨w.heap.size, 4, none⟩ = some (.int .i64 c.r) ∧ w'.cell? ⟨w.heap.size, 5, none⟩ = some (.int .i64 c.d) ∧ w'.cell? ⟨w.heap.size, 6, none⟩ = some (.int .i64 c.i))
          (first | exact HK.out _ hbB | exact HK.out _ hbA | exact HK.out _ hB0 | exact HK.out _ (Below.refl _ _))
          (first | (go_at_call 48; refine (HRK.out _ hB0).mono ?_; rintro e wA ⟨rfl, hbA⟩) | (go_at_call 47; refine (HWK.out _ hbA).mono ?_; rintro e wB ⟨rfl, hbB⟩))
        have HFB := Lib.hid (A2.out.trans (hbB.mono A2.out.size))
        clear hbA hbB hB0
        go_wp2
        go_ret2
        exact ⟨rfl, HFB.out⟩
      · rw [if_neg hd] at hE
        rw [hE, if_neg (by decide)]
        rw [show (decide (-1000000000000000 ≤ d) && decide (d ≤ 1000000000000000)) = false by simpa using hd] at HD
        clear hE hd
        unfold cntVal at HCK HM
        unfold cntVal
        go_enter Tryz.func19, Tryz.ntmps19
        have h0 := box_keep _ _ c HB.out _ (Below.refl _ _)
        obtain ⟨x0, x1, x2, x3, x4, x5, x6⟩ := h0
        have hz := cell_lt x0
        go_wp2_with fail
        refine (HCK.out _).mono ?_
        rintro e w1 ⟨rfl, hb⟩
        have HB1 := Lib.hid (HB.out.below hb)
        have A1 := Lib.hid (A0.out.trans (hb.mono A0.out.size))
        clear hb x0 x1 x2 x3 x4 x5 x6 hz
        obtain ⟨x0, x1, x2, x3, x4, x5, x6⟩ := HB1.out
        have hz := cell_lt x0
        go_wp2_with fail
        refine (HM.out _).mono ?_
        rintro e w2 ⟨rfl, hb⟩
        have HB2 := Lib.hid (HB1.out.below hb)
        have A2 := Lib.hid (A1.out.trans (hb.mono A1.out.size))
        clear hb x0 x1 x2 x3 x4 x5 x6 hz HB1 A1
        go_wp2_with (go_at_call 45; refine (HD.out _).mono ?_; rintro e w3 ⟨rfl, rfl⟩)
        go_ret2
        exact ⟨rfl, A2.out⟩
    · rw [if_neg hm] at hE
      rw [hE, if_neg (by decide)]
      rw [show meetB c s = false by simpa using hm] at HM
      clear hE hm
      unfold cntVal at HCK HM
      unfold cntVal
      go_enter Tryz.func19, Tryz.ntmps19
      have h0 := box_keep _ _ c HB.out _ (Below.refl _ _)
      obtain ⟨x0, x1, x2, x3, x4, x5, x6⟩ := h0
      have hz := cell_lt x0
      go_wp2_with fail
      refine (HCK.out _).mono ?_
      rintro e w1 ⟨rfl, hb⟩
      have HB1 := Lib.hid (HB.out.below hb)
      have A1 := Lib.hid (A0.out.trans (hb.mono A0.out.size))
      clear hb x0 x1 x2 x3 x4 x5 x6 hz
      obtain ⟨x0, x1, x2, x3, x4, x5, x6⟩ := HB1.out
      have hz := cell_lt x0
      go_wp2_with fail
      refine (HM.out _).mono ?_
      rintro e w2 ⟨rfl, hb⟩
      have HB2 := Lib.hid (HB1.out.below hb)
      have A2 := Lib.hid (A1.out.trans (hb.mono A1.out.size))
      clear hb x0 x1 x2 x3 x4 x5 x6 hz HB1 A1
      go_wp2
      go_ret2
      exact ⟨rfl, A2.out⟩
  · have hE : showErr c s d = 30 := if_neg hc
    rw [show checkC c = 30 from if_neg hc] at HCK
    rw [hE, if_neg (by decide)]
    clear hE hc
    unfold cntVal at HCK
    unfold cntVal
    go_enter Tryz.func19, Tryz.ntmps19
    have h0 := box_keep _ _ c HB.out _ (Below.refl _ _)
    obtain ⟨x0, x1, x2, x3, x4, x5, x6⟩ := h0
    have hz := cell_lt x0
    go_wp2_with fail
    refine (HCK.out _).mono ?_
    rintro e w1 ⟨rfl, hb⟩
    have A1 := Lib.hid (A0.out.trans (hb.mono A0.out.size))
    clear hb x0 x1 x2 x3 x4 x5 x6 hz
    go_wp2
    go_ret2
    exact ⟨rfl, A1.out⟩
end Go.Proofs.YtlelamjbfjneiaaGreatDoor.Ct
namespace Go.Proofs.YtlelamjbfjneiaaGreatDoor.Ct
open Go Go.RowKit
attribute [local go_sem] Oper.semAt_some
/-- rounded up -/
def ceilS (a b : Int) : Int := -((-a) / b)
theorem ceil_iff (a b x : Int) (hb : 1 ≤ b) : ceilS a b ≤ x ↔ a ≤ x * b := by
  unfold ceilS
  have h := Int.le_ediv_iff_mul_le (a := -x) (b := -a) (c := b) (by omega)
  rw [Int.neg_mul] at h
  omega
theorem ceil_up (a b : Int) (hb : 1 ≤ b) (h : 0 < a.tmod b) : a.tdiv b + 1 = ceilS a b := by
  have h1 : (-a).tmod b < 0 := by rw [Int.neg_tmod]; omega
  have h2 := floor_neg (-a) b hb h1
  rw [Int.neg_tdiv] at h2
  unfold ceilS
  omega
theorem ceil_at (a b : Int) (hb : 1 ≤ b) (h : ¬ 0 < a.tmod b) : a.tdiv b = ceilS a b := by
  have h1 : ¬ (-a).tmod b < 0 := by rw [Int.neg_tmod]; omega
  have h2 := floor_pos (-a) b hb h1
  rw [Int.neg_tdiv] at h2
  unfold ceilS
  omega
theorem ceilS_bd (a b B : Int) (hb : 1 ≤ b) (h : -B ≤ a ∧ a ≤ B) : -B ≤ ceilS a b ∧ ceilS a b ≤ B := by
  have h0 : 0 ≤ B := by omega
  refine ⟨?_, (ceil_iff a b B hb).2 ?_⟩
  · unfold ceilS
    have := Int.ediv_le_of_le_mul (a := -a) (b := B) (c := b) (by omega) (by have := Int.mul_le_mul_of_nonneg_left hb h0; omega)
    omega
  · have := Int.mul_le_mul_of_nonneg_left hb h0
    omega
theorem floorS_bd (a b B : Int) (hb : 1 ≤ b) (h : -B ≤ a ∧ a ≤ B) : -B ≤ a / b ∧ a / b ≤ B := by
  have := ceilS_bd (-a) b B hb (by omega)
  unfold ceilS at this
  rw [Int.neg_neg] at this
  omega
theorem ceil_any (a b : Int) (w : World) (h1 : -9000000000000000000 ≤ a ∧ a ≤ 9000000000000000000) (hb : 1 ≤ b ∧ b ≤ 9223372036854775807) :
    Calls Tryz.prog 100 #[.int .i64 a, .int .i64 b] w fun e w' => e = .returned (.int .i64 (ceilS a b)) ∧ w = w' := by
  have hd := tdiv_bd a b hb.1 (by omega) (by omega)
  have hm := tmod_bd a b hb.1
  have hc := ceilS_bd a b 9000000000000000000 hb.1 h1
  have hne : (b == 0) = false := by simp; omega
  have hnz : ¬ b = 0 := by omega
  have k1 : IntKind.i64.wrap (a.tdiv b) = a.tdiv b := IntWalk.i64_in _ (by omega)
  have k2 : IntKind.i64.wrap (a.tmod b) = a.tmod b := IntWalk.i64_in _ (by omega)
  by_cases h : 0 < a.tmod b
  · have H := Lib.hid (ceil_up a b hb.1 h)
    have k3 : IntKind.i64.wrap (a.tdiv b + 1) = a.tdiv b + 1 := by rw [H.out]; exact IntWalk.i64_in _ (by omega)
    clear hd hm hc
    go_enter Tryz.func100, Tryz.ntmps100
    go_wp2
    go_ret
    exact ⟨ret_i64 H.out, rfl⟩
  · have H := Lib.hid (ceil_at a b hb.1 h)
    clear hd hm hc
    go_enter Tryz.func100, Tryz.ntmps100
    go_wp2
    go_ret
    exact ⟨ret_i64 H.out, rfl⟩
theorem common_any (a b c d : Int) (w : World) :
    Calls Tryz.prog 66 #[.agg #[.int .i64 a, .int .i64 b], .agg #[.int .i64 c, .int .i64 d]] w fun e w' => e = .returned (.agg #[.int .i64 (max a c), .int .i64 (min b d)]) ∧ Below w.heap.size w w' := by
  obtain ⟨x, hx⟩ : ∃ x, max a c = x := ⟨_, rfl⟩
  obtain ⟨y, hy⟩ : ∃ y, min b d = y := ⟨_, rfl⟩
  rw [hx, hy]
  go_enter Tryz.func66, Tryz.ntmps66
  go_wp2
  all_goals
    refine bodyPost_ret (v := .agg #[.int .i64 x, .int .i64 y]) (by simp [results, Tryz.results66, go_sem]; omega) rfl ?_
    exact ⟨rfl, by go_grown⟩
/-- the span of a turn -/
def turnLo (c : Cnt) (x : Int) : Int := ceilS (x - faultS c) c.f
def turnHi (c : Cnt) (x : Int) : Int := (x + faultS c) / c.f
theorem fault_bd {c : Cnt} (h : CntIn c) : 0 ≤ faultS c ∧ faultS c ≤ 1500000000 := by
  have := h.j
  have := h.g
  unfold faultS
  omega
theorem CBox.far {X : World} {b b' o : Nat} {c : Cnt} {u : Value} (h : CBox X b c) (hne : b' ≠ b) : CBox (X.setCell ⟨b', o, none⟩ u) b c := by
  have k : ∀ {o' : Nat} {v : Value}, X.cell? ⟨b, o', none⟩ = some v → (X.setCell ⟨b', o, none⟩ u).cell? ⟨b, o', none⟩ = some v := fun hv => by rw [World.cell?_setCell_far _ _ _ _ hne]; exact hv
  exact ⟨k h.c0, k h.c1, k h.c2, k h.c3, k h.c4, k h.c5, k h.c6⟩
theorem CBox.cells {X : World} {b : Nat} {c : Cnt} (h : CBox X b c) : X.cell? ⟨b, 0, none⟩ = some (.int .i64 c.f) ∧ X.cell? ⟨b, 1, none⟩ = some (.int .i64 c.o) ∧ X.cell? ⟨b, 2, none⟩ = some (.int .i64 c.j) ∧ X.cell? ⟨b, 3, none⟩ = some (.int .i64 c.g) ∧ X.cell? ⟨b, 4, none⟩ = some (.int .i64 c.r) ∧ X.cell? ⟨b, 5, none⟩ = some (.int .i64 c.d) ∧ X.cell? ⟨b, 6, none⟩ = some (.int .i64 c.i) :=
  ⟨h.c0, h.c1, h.c2, h.c3, h.c4, h.c5, h.c6⟩
theorem below_go {A B C : World} (h : Below A.heap.size A B) (k : Below B.heap.size B C) : Below A.heap.size A C := h.trans (k.mono h.size)
set_option maxRecDepth 100000 in
set_option maxHeartbeats 4000000 in
theorem turn_any (c : Cnt) (x : Int) (w : World) (h : CntIn c) (hx : -4000000000000000000 ≤ x ∧ x ≤ 4000000000000000000) :
    Calls Tryz.prog 102 #[cntVal c, .int .i64 x] w fun e w' => e = .returned (.agg #[.int .i64 (turnLo c x), .int .i64 (turnHi c x)]) ∧ Below w.heap.size w w' := by
  have hf := h.f
  have hfa := fault_bd h
  have a0 := below_alloc (below_alloc (Below.refl w.heap.size w) (cntObj c)) (.cells #[.int .i64 0, .int .i64 0] 31)
  have hb0 : CBox ((w.alloc (cntObj c)).alloc (.cells #[.int .i64 0, .int .i64 0] 31)) w.heap.size c := (CBox.new w c).below (below_alloc (Below.refl _ _) _)
  have hr0 : ((w.alloc (cntObj c)).alloc (.cells #[.int .i64 0, .int .i64 0] 31)).cell? ⟨w.heap.size + 1, 0, none⟩ = some (.int .i64 0) ∧ ((w.alloc (cntObj c)).alloc (.cells #[.int .i64 0, .int .i64 0] 31)).cell? ⟨w.heap.size + 1, 1, none⟩ = some (.int .i64 0) := by
    unfold cntObj; exact ⟨by simp, by simp⟩
  have hfz : ((w.alloc (cntObj c)).alloc (.cells #[.int .i64 0, .int .i64 0] 31)).frozen? ⟨w.heap.size + 1, 0, none⟩ = false ∧ ((w.alloc (cntObj c)).alloc (.cells #[.int .i64 0, .int .i64 0] 31)).frozen? ⟨w.heap.size + 1, 1, none⟩ = false := by
    unfold cntObj; exact ⟨by simp, by simp⟩
  have A0 := Lib.hid a0
  have HB := Lib.hid hb0
  have HR := Lib.hid hr0
  have HFZ := Lib.hid hfz
  have HE := Lib.hid (fun W => error_any c W h)
  have HC := Lib.hid (fun W => ceil_any (x - faultS c) c.f W (by omega) (by omega))
  have HF := Lib.hid (fun W => floor_any (x + faultS c) c.f W (by omega) (by omega))
  have w1 : IntKind.i64.wrap (x - faultS c) = x - faultS c := IntWalk.i64_in _ (by omega)
  have w2 : IntKind.i64.wrap (x + faultS c) = x + faultS c := IntWalk.i64_in _ (by omega)
  have HLO : Hid (ceilS (x - faultS c) c.f = turnLo c x) := Lib.hid rfl
  have HHI : Hid ((x + faultS c) / c.f = turnHi c x) := Lib.hid rfl
  generalize faultS c = fa at *
  unfold cntVal at HE
  unfold cntObj at A0 HB HR HFZ
  unfold cntVal
  clear a0 hb0 hr0 hfz h hfa hx hf
  go_enter Tryz.func102, Tryz.ntmps102
  go_upto_region 1 with fail
  generalize (w.alloc (.cells #[.int .i64 c.f, .int .i64 c.o, .int .i64 c.j, .int .i64 c.g, .int .i64 c.r, .int .i64 c.d, .int .i64 c.i] 34)).alloc (.cells #[.int .i64 0, .int .i64 0] 31) = W0 at *
  have hB0 : Below W0.heap.size W0 W0.drew := Below.drew (Below.refl _ _)
  obtain ⟨c0, c1, c2, c3, c4, c5, c6⟩ := HB.out
  have hz := cell_lt c0
  have hz1 := cell_lt HR.out.1
  go_region_held3 (fun w' => w'.cell? ⟨w.heap.size, 0, none⟩ = some (.int .i64 c.f) ∧ w'.cell? ⟨w.heap.size, 1, none⟩ = some (.int .i64 c.o) ∧ w'.cell? ⟨w.heap.size, 2, none⟩ = some (.int .i64 c.j) ∧ w'.cell? ⟨w.heap.size, 3, none⟩ = some (.int .i64 c.g) ∧ w'.cell? ⟨w.heap.size, 4, none⟩ = some (.int .i64 c.r) ∧ w'.cell? ⟨w.heap.size, 5, none⟩ = some (.int .i64 c.d) ∧ w'.cell? ⟨w.heap.size, 6, none⟩ = some (.int .i64 c.i))
    (first | exact (HB.out.below hB0).cells | exact (HB.out.below hbk).cells | exact (((HB.out.below hbk).far (by omega)).far (by omega)).cells)
    (first | (go_at_call 32; refine (HE.out _).mono ?_; rintro e wk ⟨rfl, hbq⟩; have hbk := below_go (by first | exact hbk | exact hB0) hbq; clear hbq; have k0 := cell_below hbk HR.out.1; have k1 := cell_below hbk HR.out.2; have f0 := (hbk.frozen (p := ⟨w.heap.size + 1, 0, none⟩) hz1).trans HFZ.out.1; have f1 := (hbk.frozen (p := ⟨w.heap.size + 1, 1, none⟩) hz1).trans HFZ.out.2) |
      (go_at_call 100; refine (HC.out _).mono ?_; rintro e w' ⟨rfl, rfl⟩) | (go_at_call 74; refine (HF.out _).mono ?_; rintro e w' ⟨rfl, rfl⟩))
  all_goals
    have m0 := World.cell?_setCell_same wk ⟨w.heap.size + 1, 0, none⟩ (.int .i64 (turnLo c x)) k0
    have m0' : ((wk.setCell ⟨w.heap.size + 1, 0, none⟩ (.int .i64 (turnLo c x))).setCell ⟨w.heap.size + 1, 1, none⟩ (.int .i64 (turnHi c x))).cell? ⟨w.heap.size + 1, 0, none⟩ = some (.int .i64 (turnLo c x)) := by rw [World.cell?_setCell_other _ ⟨w.heap.size + 1, 1, none⟩ ⟨w.heap.size + 1, 0, none⟩ _ (fun e => by cases e)]; exact m0
    have m1' : ((wk.setCell ⟨w.heap.size + 1, 0, none⟩ (.int .i64 (turnLo c x))).setCell ⟨w.heap.size + 1, 1, none⟩ (.int .i64 (turnHi c x))).cell? ⟨w.heap.size + 1, 1, none⟩ = some (.int .i64 (turnHi c x)) := World.cell?_setCell_same _ _ _ (u := .int .i64 0) (by rw [World.cell?_setCell_other wk ⟨w.heap.size + 1, 0, none⟩ ⟨w.heap.size + 1, 1, none⟩ _ (fun e => by cases e)]; exact k1)
    rw [HLO.out, HHI.out]
    have HFIN := Lib.hid (((A0.out.trans (hbk.mono A0.out.size)).setCell (p := ⟨w.heap.size + 1, 0, none⟩) (by show w.heap.size ≤ w.heap.size + 1; omega) (.int .i64 (turnLo c x))).setCell (p := ⟨w.heap.size + 1, 1, none⟩) (by show w.heap.size ≤ w.heap.size + 1; omega) (.int .i64 (turnHi c x)))
    go_wp2_with fail
    refine bodyPost_ret (v := .agg #[.int .i64 (turnLo c x), .int .i64 (turnHi c x)]) (by simp [results, Tryz.results102, go_sem, m0', m1']) rfl ?_
    exact ⟨rfl, HFIN.out⟩
end Go.Proofs.YtlelamjbfjneiaaGreatDoor.Ct
