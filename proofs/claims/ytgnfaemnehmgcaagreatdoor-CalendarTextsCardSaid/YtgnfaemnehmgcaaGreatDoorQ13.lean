/- Layer 9 (calendar): Seconds. -/
import Derived.Test.YtgnfaemnehmgcaaGreatDoorQ12
namespace Go.Proofs.YtgnfaemnehmgcaaGreatDoor.Cal
open Go Go.RowKit
attribute [local go_sem] Oper.semAt_some
def tdW (w : World) (b u : Int) (n c : Nat) (p : Option Addr) (y m d h mi s : Int) : World := (w.alloc (.cells #[.int .i64 b, .slice p n c, .int .i64 u] 24)).alloc (.cells #[.int .i64 y, .int .i64 m, .int .i64 d, .int .i64 h, .int .i64 mi, .int .i64 s] 26)
theorem td_start (w : World) (b u : Int) (n c : Nat) (p : Option Addr) (y m d h mi s : Int) : TBox (tdW w b u n c p y m d h mi s) w.heap.size b u n c p ∧ DBox (tdW w b u n c p y m d h mi s) (w.heap.size + 1) y m d h mi s ∧ Below w.heap.size w (tdW w b u n c p y m d h mi s) := by
  unfold tdW
  have b1 := below_alloc (Below.refl w.heap.size w) (.cells #[.int .i64 b, .slice p n c, .int .i64 u] 24)
  have e : (w.alloc (.cells #[.int .i64 b, .slice p n c, .int .i64 u] 24)).heap.size = w.heap.size + 1 := by simp
  refine ⟨(TBox.new w b u n c p 24).below (below_alloc (Below.refl _ _) _), ?_, below_alloc b1 _⟩
  have := DBox.new (w.alloc (.cells #[.int .i64 b, .slice p n c, .int .i64 u] 24)) y m d h mi s
  rwa [e] at this
theorem WBox.new (w : World) (b u : Int) (n c : Nat) (p : Option Addr) (mb : Nat) : WBox (w.alloc (.cells #[.int .i64 b, .slice p n c, .int .i64 u, .map (some mb)] 132)) w.heap.size b u n c p mb := ⟨⟨by simp, by simp, by simp⟩, by simp⟩
theorem MBox.new (w : World) (m s : Int) : MBox (w.alloc (.cells #[.int .i64 m, .int .i64 s] 136)) w.heap.size m s := ⟨by simp, by simp⟩
set_option maxHeartbeats 2000000 in
theorem Seconds_ok {b u : Int} {n : Nat} {f : Nat → Int × Int} (ht : tabE b u n f = 0) {y : Int} {m : Nat} {d : Int} (hd : IsDate y m d) (h mi s : Int) (hh : tB h = true) (hmi : miB mi = true) (hsb : sB s = true)
    (hh2 : hasB u f n (1440 * dayN y m d + 60 * h + mi) s = true) (c : Nat) (p : Option Addr) (w : World) (hw : Mon w) (hs : LpIn w f n p) (hc : n ≤ c) (hcm : c ≤ maxLen) :
    Calls Tryz.prog 25 #[.agg #[.int .i64 b, .slice p n c, .int .i64 u], .agg #[.int .i64 y, .int .i64 (m : Int), .int .i64 d, .int .i64 h, .int .i64 mi, .int .i64 s]] w fun e w' => e = .returned (.tuple #[.int .i64 (numS f n (1440 * dayN y m d + 60 * h + mi) s), .int .i64 0]) ∧ Below w.heap.size w w' := by
  obtain ⟨hx, hy, hb⟩ := td_start w b u n c p y m d h mi s
  unfold tdW at hx hy hb
  obtain ⟨x0, x1, x2⟩ := hx
  have HY := Lib.hid hy
  have HT := Lib.hid ht
  have HTO := Lib.hid (tab_ok ht)
  have HW := Lib.hid (hw.below hb)
  have HS := Lib.hid (hs.below hb)
  have A0 := Lib.hid hb
  have HDT := Lib.hid hd
  have HH := Lib.hid (And.intro hh (And.intro hmi hsb))
  have hnb := hd.civ.n_bd
  have hmb : (0 ≤ h ∧ h ≤ 23) ∧ (0 ≤ mi ∧ mi ≤ 59) ∧ (0 ≤ s ∧ s ≤ 60) := by
    unfold tB at hh; unfold miB at hmi; unfold sB at hsb
    simp at hh hmi hsb; omega
  have HBD := Lib.hid (show (-1000000000000 ≤ 1440 * dayN y m d + 60 * h + mi ∧ 1440 * dayN y m d + 60 * h + mi ≤ 1000000000000) ∧ (-1000000000000 ≤ s ∧ s ≤ 1000000000000) by omega)
  have HMO := Lib.hid (fun X (hX : Mon X) => dmoment_ok (y := y) (m := m) (d := d) h mi s X hX HDT.out HH.out.1 HH.out.2.1 HH.out.2.2)
  have HHA := Lib.hid hh2
  clear hy ht hw hs hb hd hh hmi hsb hnb hmb hh2
  obtain ⟨t, hte⟩ : ∃ t, 1440 * dayN y m d + 60 * h + mi = t := ⟨_, rfl⟩
  rw [hte] at HBD HMO HHA ⊢
  clear hte
  go_enter Tryz.func25, Tryz.ntmps25
  go_upto_region 1 with fail
  generalize (w.alloc (.cells #[.int .i64 b, .slice p n c, .int .i64 u] 24)).alloc (.cells #[.int .i64 y, .int .i64 (m : Int), .int .i64 d, .int .i64 h, .int .i64 mi, .int .i64 s] 26) = W1 at *
  have zx := cell_lt x0
  have HOP := Lib.hid (open_ok b u n c p f W1 HW.out HS.out (by have := HTO.out.n1; omega) HT.out)
  go_upto_region 2 with (go_at_call 82; refine HOP.out.mono ?_; rintro e w2 ⟨mb, rfl, hM, hb2⟩; have HM := Lib.hid hM; have HB2 := Lib.hid hb2; clear hM hb2)
  clear x0 x1 x2 zx
  have hb3 := below_alloc (Below.refl w2.heap.size w2) (.cells #[.int .i64 b, .slice p n c, .int .i64 u, .map (some mb)] 132)
  have HX := Lib.hid (WBox.new w2 b u n c p mb)
  have HM3 := Lib.hid (HM.out.below hb3)
  have HB3 := Lib.hid (bt HB2.out hb3)
  clear hb3
  generalize w2.alloc (.cells #[.int .i64 b, .slice p n c, .int .i64 u, .map (some mb)] 132) = W3 at *
  generalize w2.heap.size = a6 at *
  obtain ⟨y0, y1, y2, y3, y4, y5⟩ := HY.out.below HB3.out
  have zy := cell_lt y0
  have HMC := Lib.hid (HMO.out W3 (HW.out.below HB3.out))
  go_upto_region 5 with (go_at_call 83; refine HMC.out.mono ?_; rintro e w4 ⟨rfl, hb4⟩; have HB4 := Lib.hid hb4; clear hb4)
  clear y0 y1 y2 y3 y4 y5 zy
  have hb5 := below_alloc (Below.refl w4.heap.size w4) (.cells #[.int .i64 t, .int .i64 s] 136)
  obtain ⟨y0, y1⟩ := MBox.new w4 t s
  have HX5 := Lib.hid ((HX.out.below HB4.out).below hb5)
  have HM5 := Lib.hid ((HM3.out.below HB4.out).below hb5)
  have HB5 := Lib.hid (bt (bt HB3.out HB4.out) hb5)
  have HYB := Lib.hid (MBox.new w4 t s)
  clear hb5
  generalize w4.alloc (.cells #[.int .i64 t, .int .i64 s] 136) = W5 at *
  obtain ⟨⟨x0, x1, x2⟩, x3⟩ := HX5.out
  have zx := cell_lt x0
  have zy := cell_lt y0
  have HHC := Lib.hid (has_any HTO.out t s c p mb W5 HM5.out (by have := HBD.out; omega))
  rw [HHA.out] at HHC
  go_upto_region 7 with (go_at_call 84; refine HHC.out.mono ?_; rintro e w6 ⟨rfl, hb6⟩; have HB6 := Lib.hid hb6; clear hb6)
  clear x0 x1 x2 x3 y0 y1 zx zy
  obtain ⟨⟨x0, x1, x2⟩, x3⟩ := HX5.out.below HB6.out
  obtain ⟨y0, y1⟩ := HYB.out.below HB6.out
  have zx := cell_lt x0
  have zy := cell_lt y0
  have HNC := Lib.hid (number_any HTO.out t s c p mb w6 (((HS.out.below HB5.out)).below HB6.out) hc hcm HBD.out.1 HBD.out.2)
  go_wp2_with (go_at_call 85; refine HNC.out.mono ?_; rintro e w7 ⟨rfl, hb7⟩; have HB7 := Lib.hid hb7; clear hb7)
  go_ret2
  exact ⟨rfl, bt (bt (bt A0.out HB5.out) HB6.out) HB7.out⟩
end Go.Proofs.YtgnfaemnehmgcaaGreatDoor.Cal
