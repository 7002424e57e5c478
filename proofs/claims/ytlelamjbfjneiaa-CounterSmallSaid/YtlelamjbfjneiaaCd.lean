/- Contracts of layer 2: Show, Wrap. -/
import Derived.Test.YtlelamjbfjneiaaCc
namespace Go.Proofs.Ytlelamjbfjneiaa.Ct
open Go Go.RowKit
/-- what Show answers -/
def showErr (c : Cnt) (s d : Int) : Int := if cntB c = true then (if meetB c s = true then (if -1000000000000000 ≤ d ∧ d ≤ 1000000000000000 then 0 else 6) else 21) else 30
def rawS (c : Cnt) (seed s d : Int) : Int := c.f * d + c.o + drawS (sourceS seed 3 c.i) s c.j
def shownS (c : Cnt) (seed s d : Int) : Int := wrapS c (roundS c (rawS c seed s d))
theorem meetB_yes {c : Cnt} {s : Int} (h : meetB c s = true) : (0 ≤ s ∧ s ≤ 1000000) ∧ s % c.d = 0 := by simpa [meetB] using h
theorem mul_bd (x y a b : Int) (hx : 0 ≤ x ∧ x ≤ a) (hy : -b ≤ y ∧ y ≤ b) : -(a * b) ≤ x * y ∧ x * y ≤ a * b := by
  have h1 : x * y ≤ x * b := Int.mul_le_mul_of_nonneg_left hy.2 hx.1
  have h2 : x * (-b) ≤ x * y := Int.mul_le_mul_of_nonneg_left hy.1 hx.1
  have h3 : x * b ≤ a * b := Int.mul_le_mul_of_nonneg_right hx.2 (by omega)
  have h4 : x * (-b) = -(x * b) := by grind
  omega
theorem raw_bd {c : Cnt} (h : CntIn c) (seed s d : Int) (hd : -1000000000000000 ≤ d ∧ d ≤ 1000000000000000) : -1100000000000000000 ≤ c.f * d ∧ c.f * d ≤ 1100000000000000000 ∧ -1100000000000000000 ≤ rawS c seed s d ∧ rawS c seed s d ≤ 1100000000000000000 := by
  have h1 := mul_bd c.f d 1000 1000000000000000 (by have := h.f; omega) hd
  have h2 := drawS_bd (sourceS seed 3 c.i) s c.j h.j.1
  have := h.o
  have := h.j
  unfold rawS
  omega
theorem box_keep (X : World) (b : Nat) (c : Cnt) (h : CBox X b c) (W : World) (hb : Below X.heap.size X W) : W.cell? ⟨b, 0, none⟩ = some (.int .i64 c.f) ∧ W.cell? ⟨b, 1, none⟩ = some (.int .i64 c.o) ∧ W.cell? ⟨b, 2, none⟩ = some (.int .i64 c.j) ∧ W.cell? ⟨b, 3, none⟩ = some (.int .i64 c.g) ∧ W.cell? ⟨b, 4, none⟩ = some (.int .i64 c.r) ∧ W.cell? ⟨b, 5, none⟩ = some (.int .i64 c.d) ∧ W.cell? ⟨b, 6, none⟩ = some (.int .i64 c.i) :=
  ⟨cell_below hb h.c0, cell_below hb h.c1, cell_below hb h.c2, cell_below hb h.c3, cell_below hb h.c4, cell_below hb h.c5, cell_below hb h.c6⟩
set_option maxRecDepth 100000 in
set_option maxHeartbeats 4000000 in
theorem show_any (c : Cnt) (seed s d : Int) (w : World) :
    Calls Try.prog 19 #[cntVal c, .int .u64 seed, .int .i64 s, .int .i64 d] w fun e w' => e = .returned (.tuple #[.int .i64 (if showErr c s d = 0 then shownS c seed s d else 0), .int .i64 (showErr c s d)]) ∧ Below w.heap.size w w' := by
  have A0 := Lib.hid (below_alloc (Below.refl w.heap.size w) (cntObj c))
  have HB := Lib.hid (CBox.new w c)
  unfold cntObj at A0 HB
  have HCK := Lib.hid (fun W => check_any c W)
  by_cases hc : cntB c = true
  · have HCI := Lib.hid (cntB_in hc)
    rw [show checkC c = 0 from if_pos hc] at HCK
    have hE : showErr c s d = (if meetB c s = true then (if -1000000000000000 ≤ d ∧ d ≤ 1000000000000000 then 0 else 6) else 21) := if_pos hc
    have HM := Lib.hid (fun W => measuresAt_any c s W HCI.out)
    clear hc
    by_cases hm : meetB c s = true
    · rw [if_pos hm] at hE
      rw [hm] at HM
      have HS := Lib.hid (meetB_yes hm)
      have HD := Lib.hid (fun W => isDifference_any d W)
      clear hm
      by_cases hd : -1000000000000000 ≤ d ∧ d ≤ 1000000000000000
      · rw [if_pos hd] at hE
        rw [hE, if_pos rfl]
        rw [show (decide (-1000000000000000 ≤ d) && decide (d ≤ 1000000000000000)) = true by simpa using hd] at HD
        obtain ⟨b1, b2, b3, b4⟩ := raw_bd HCI.out seed s d hd
        have hdr := drawS_bd (sourceS seed 3 c.i) s c.j HCI.out.j.1
        have hj := HCI.out.j
        have ho := HCI.out.o
        have hrb := roundS_bd HCI.out (rawS c seed s d)
        have hg := HCI.out.g
        have k1 : IntKind.i64.wrap (c.f * d) = c.f * d := IntWalk.i64_in _ (by omega)
        have k2 : IntKind.i64.wrap (c.f * d + c.o) = c.f * d + c.o := IntWalk.i64_in _ (by omega)
        have k3 : IntKind.i64.wrap (c.f * d + c.o + drawS (sourceS seed 3 c.i) s c.j) = rawS c seed s d := IntWalk.i64_in _ (by unfold rawS at b3 b4; omega)
        have HDR := Lib.hid (fun W => Draw_any seed 3 c.i s c.j W (by omega) (by have := HCI.out.i; omega) (by have := HS.out; omega) (by omega))
        have HRO := Lib.hid (fun W => round_any c (rawS c seed s d) W HCI.out (by omega))
        have HWR := Lib.hid (fun W => wrap_any c (roundS c (rawS c seed s d)) W HCI.out (by omega))
        obtain ⟨V, hV⟩ : ∃ V, V = shownS c seed s d := ⟨_, rfl⟩
        rw [show wrapS c (roundS c (rawS c seed s d)) = V from hV.symm] at HWR
        rw [← hV]
        obtain ⟨dr, hdrr⟩ : ∃ dr, dr = drawS (sourceS seed 3 c.i) s c.j := ⟨_, rfl⟩
        rw [← hdrr] at k3 HDR
        generalize roundS c (rawS c seed s d) = ro at *
        generalize rawS c seed s d = rw_ at *
        clear hE hd b1 b2 b3 b4 hdr hj ho hrb hg hV hdrr
        unfold cntVal at HCK HM HRO HWR
        unfold cntVal
        go_enter Try.func19, Try.ntmps19
        have h0 := box_keep _ _ c HB.out _ (Below.refl _ _)
        obtain ⟨x0, x1, x2, x3, x4, x5, x6⟩ := h0
        have hz := cell_lt x0
        go_wp2_with fail
        refine (HCK.out _).mono ?_
        rintro e w1 ⟨rfl, hb⟩
        have HB1 := Lib.hid (HB.out.below hb)
        have A1 := Lib.hid (A0.out.trans (hb.mono A0.out.size))
        clear hb x0 x1 x2 x3 x4 x5 x6 hz
        obtain ⟨x0, x1, x2, x3, x4, x5, x6⟩ := HB1.out
        have hz := cell_lt x0
        go_wp2_with fail
        refine (HM.out _).mono ?_
        rintro e w2 ⟨rfl, hb⟩
        have HB2 := Lib.hid (HB1.out.below hb)
        have A2 := Lib.hid (A1.out.trans (hb.mono A1.out.size))
        clear hb x0 x1 x2 x3 x4 x5 x6 hz HB1 A1
        obtain ⟨x0, x1, x2, x3, x4, x5, x6⟩ := HB2.out
        have hz := cell_lt x0
        go_wp2_with (first | (go_at_call 39; refine (HD.out _).mono ?_; rintro e w3 ⟨rfl, rfl⟩) | (go_at_call 40; refine (HDR.out _).mono ?_; rintro e w3 ⟨rfl, rfl⟩))
        clear x0 x1 x2 x3 x4 x5 x6 hz
        have HK := Lib.hid (box_keep w2 w.heap.size c HB2.out)
        have hB0 : Below w2.heap.size w2 w2.drew := Below.drew (Below.refl _ _)
        have HRK := Lib.hid (fun W (hb : Below w2.heap.size w2 W) => (HRO.out W).mono fun _ _ h => And.intro h.1 (hb.trans (h.2.mono hb.size)))
        have HWK := Lib.hid (fun W (hb : Below w2.heap.size w2 W) => (HWR.out W).mono fun _ _ h => And.intro h.1 (hb.trans (h.2.mono hb.size)))
        go_region_held3 (fun w' => w'.cell? ⟨w.heap.size, 0, none⟩ = some (.int .i64 c.f) ∧ w'.cell? ⟨w.heap.size, 1, none⟩ = some (.int .i64 c.o) ∧ w'.cell? ⟨w.heap.size, 2, none⟩ = some (.int .i64 c.j) ∧ w'.cell? ⟨w.heap.size, 3, none⟩ = some (.int .i64 c.g) ∧ w'.cell? ⟨w.heap.size, 4, none⟩ = some (.int .i64 c.r) ∧ w'.cell? ⟨w.heap.size, 5, none⟩ = some (.int .i64 c.d) ∧ w'.cell? ⟨w.heap.size, 6, none⟩ = some (.int .i64 c.i))
          (first | exact HK.out _ hbB | exact HK.out _ hbA | exact HK.out _ hB0 | exact HK.out _ (Below.refl _ _))
          (first | (go_at_call 42; refine (HRK.out _ hB0).mono ?_; rintro e wA ⟨rfl, hbA⟩) | (go_at_call 41; refine (HWK.out _ hbA).mono ?_; rintro e wB ⟨rfl, hbB⟩))
        have HFB := Lib.hid (A2.out.trans (hbB.mono A2.out.size))
        clear hbA hbB hB0
        go_wp2
        go_ret2
        exact ⟨rfl, HFB.out⟩
      · rw [if_neg hd] at hE
        rw [hE, if_neg (by decide)]
        rw [show (decide (-1000000000000000 ≤ d) && decide (d ≤ 1000000000000000)) = false by simpa using hd] at HD
        clear hE hd
        unfold cntVal at HCK HM
        unfold cntVal
        go_enter Try.func19, Try.ntmps19
        have h0 := box_keep _ _ c HB.out _ (Below.refl _ _)
        obtain ⟨x0, x1, x2, x3, x4, x5, x6⟩ := h0
        have hz := cell_lt x0
        go_wp2_with fail
        refine (HCK.out _).mono ?_
        rintro e w1 ⟨rfl, hb⟩
        have HB1 := Lib.hid (HB.out.below hb)
        have A1 := Lib.hid (A0.out.trans (hb.mono A0.out.size))
        clear hb x0 x1 x2 x3 x4 x5 x6 hz
        obtain ⟨x0, x1, x2, x3, x4, x5, x6⟩ := HB1.out
        have hz := cell_lt x0
        go_wp2_with fail
        refine (HM.out _).mono ?_
        rintro e w2 ⟨rfl, hb⟩
        have HB2 := Lib.hid (HB1.out.below hb)
        have A2 := Lib.hid (A1.out.trans (hb.mono A1.out.size))
        clear hb x0 x1 x2 x3 x4 x5 x6 hz HB1 A1
        go_wp2_with (go_at_call 39; refine (HD.out _).mono ?_; rintro e w3 ⟨rfl, rfl⟩)
        go_ret2
        exact ⟨rfl, A2.out⟩
    · rw [if_neg hm] at hE
      rw [hE, if_neg (by decide)]
      rw [show meetB c s = false by simpa using hm] at HM
      clear hE hm
      unfold cntVal at HCK HM
      unfold cntVal
      go_enter Try.func19, Try.ntmps19
      have h0 := box_keep _ _ c HB.out _ (Below.refl _ _)
      obtain ⟨x0, x1, x2, x3, x4, x5, x6⟩ := h0
      have hz := cell_lt x0
      go_wp2_with fail
      refine (HCK.out _).mono ?_
      rintro e w1 ⟨rfl, hb⟩
      have HB1 := Lib.hid (HB.out.below hb)
      have A1 := Lib.hid (A0.out.trans (hb.mono A0.out.size))
      clear hb x0 x1 x2 x3 x4 x5 x6 hz
      obtain ⟨x0, x1, x2, x3, x4, x5, x6⟩ := HB1.out
      have hz := cell_lt x0
      go_wp2_with fail
      refine (HM.out _).mono ?_
      rintro e w2 ⟨rfl, hb⟩
      have HB2 := Lib.hid (HB1.out.below hb)
      have A2 := Lib.hid (A1.out.trans (hb.mono A1.out.size))
      clear hb x0 x1 x2 x3 x4 x5 x6 hz HB1 A1
      go_wp2
      go_ret2
      exact ⟨rfl, A2.out⟩
  · have hE : showErr c s d = 30 := if_neg hc
    rw [show checkC c = 30 from if_neg hc] at HCK
    rw [hE, if_neg (by decide)]
    clear hE hc
    unfold cntVal at HCK
    unfold cntVal
    go_enter Try.func19, Try.ntmps19
    have h0 := box_keep _ _ c HB.out _ (Below.refl _ _)
    obtain ⟨x0, x1, x2, x3, x4, x5, x6⟩ := h0
    have hz := cell_lt x0
    go_wp2_with fail
    refine (HCK.out _).mono ?_
    rintro e w1 ⟨rfl, hb⟩
    have A1 := Lib.hid (A0.out.trans (hb.mono A0.out.size))
    clear hb x0 x1 x2 x3 x4 x5 x6 hz
    go_wp2
    go_ret2
    exact ⟨rfl, A1.out⟩
end Go.Proofs.Ytlelamjbfjneiaa.Ct
