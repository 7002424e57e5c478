/-  -/
import Derived.Test.YtgnfaemnehmgcaaGreatDoorQ13
namespace Go.Proofs.YtgnfaemnehmgcaaGreatDoor.Cal
open Go Go.RowKit
attribute [local go_sem] Oper.semAt_some
theorem rtd_start (w : World) (b u : Int) (n c : Nat) (p : Option Addr) (y m d h mi s : Int) : TBox ((w.alloc (.cells #[.int .i64 b, .slice p n c, .int .i64 u] 55)).alloc (.cells #[.int .i64 y, .int .i64 m, .int .i64 d, .int .i64 h, .int .i64 mi, .int .i64 s] 67)) w.heap.size b u n c p ∧ DBox ((w.alloc (.cells #[.int .i64 b, .slice p n c, .int .i64 u] 55)).alloc (.cells #[.int .i64 y, .int .i64 m, .int .i64 d, .int .i64 h, .int .i64 mi, .int .i64 s] 67)) (w.heap.size + 1) y m d h mi s ∧ Below w.heap.size w ((w.alloc (.cells #[.int .i64 b, .slice p n c, .int .i64 u] 55)).alloc (.cells #[.int .i64 y, .int .i64 m, .int .i64 d, .int .i64 h, .int .i64 mi, .int .i64 s] 67)) := by
  have b1 := below_alloc (Below.refl w.heap.size w) (.cells #[.int .i64 b, .slice p n c, .int .i64 u] 55)
  have h1 := TBox.new w b u n c p 55
  have e : (w.alloc (.cells #[.int .i64 b, .slice p n c, .int .i64 u] 55)).heap.size = w.heap.size + 1 := by simp
  generalize w.alloc (.cells #[.int .i64 b, .slice p n c, .int .i64 u] 55) = W1 at *
  have b2 := below_alloc (Below.refl W1.heap.size W1) (.cells #[.int .i64 y, .int .i64 m, .int .i64 d, .int .i64 h, .int .i64 mi, .int .i64 s] 67)
  refine ⟨h1.below b2, ?_, bt b1 b2⟩
  rw [← e]
  exact ⟨by simp, by simp, by simp, by simp, by simp, by simp⟩
theorem rSeconds_tab {b u : Int} {n : Nat} {f : Nat → Int × Int} (ht : tabE b u n f ≠ 0) (y m d h mi s : Int) (c : Nat) (p : Option Addr) (w : World) (hs : LpIn w f n p) (hn : n ≤ 1000000000000) :
    Calls Tryz.prog 41 #[.agg #[.int .i64 b, .slice p n c, .int .i64 u], .agg #[.int .i64 y, .int .i64 m, .int .i64 d, .int .i64 h, .int .i64 mi, .int .i64 s]] w fun e w' => e = .returned (.tuple #[.int .i64 0, .int .i64 (tabE b u n f)]) ∧ Below w.heap.size w w' := by
  obtain ⟨hx, hy, hb⟩ := rtd_start w b u n c p y m d h mi s
  obtain ⟨x0, x1, x2⟩ := hx
  have HCK := Lib.hid (rCheck_any b u n c p f _ (hs.below hb) hn)
  have A0 := Lib.hid hb
  obtain ⟨er, her⟩ : ∃ er, tabE b u n f = er := ⟨_, rfl⟩
  rw [her] at ht HCK ⊢
  have hne : (er == 0) = false := by simpa using ht
  clear hs her ht hb hy
  go_enter Tryz.func41, Tryz.ntmps41
  go_upto_region 1 with fail
  generalize (w.alloc (.cells #[.int .i64 b, .slice p n c, .int .i64 u] 55)).alloc (.cells #[.int .i64 y, .int .i64 m, .int .i64 d, .int .i64 h, .int .i64 mi, .int .i64 s] 67) = W1 at *
  have zx := cell_lt x0
  go_wp2_with (go_at_call 34; refine HCK.out.mono ?_; rintro e w2 ⟨rfl, hb2⟩; have HB2 := Lib.hid hb2; clear hb2)
  go_ret2
  exact ⟨rfl, bt A0.out HB2.out⟩
theorem rSeconds_day {b u : Int} {n : Nat} {f : Nat → Int × Int} (ht : tabE b u n f = 0) (y m d h mi s : Int) (hd : okDate y m d = false) (c : Nat) (p : Option Addr) (w : World) (hs : LpIn w f n p) :
    Calls Tryz.prog 41 #[.agg #[.int .i64 b, .slice p n c, .int .i64 u], .agg #[.int .i64 y, .int .i64 m, .int .i64 d, .int .i64 h, .int .i64 mi, .int .i64 s]] w fun e w' => e = .returned (.tuple #[.int .i64 0, .int .i64 90]) ∧ Below w.heap.size w w' := by
  obtain ⟨hx, hy, hb⟩ := rtd_start w b u n c p y m d h mi s
  obtain ⟨x0, x1, x2⟩ := hx
  have HY := Lib.hid hy
  have HCK := Lib.hid (rCheck_any b u n c p f _ (hs.below hb) (by have := (tab_ok ht).n1; omega))
  rw [ht] at HCK
  have A0 := Lib.hid hb
  have HDN := Lib.hid hd
  clear hs ht hb hy hd
  go_enter Tryz.func41, Tryz.ntmps41
  go_upto_region 1 with fail
  generalize (w.alloc (.cells #[.int .i64 b, .slice p n c, .int .i64 u] 55)).alloc (.cells #[.int .i64 y, .int .i64 m, .int .i64 d, .int .i64 h, .int .i64 mi, .int .i64 s] 67) = W1 at *
  have zx := cell_lt x0
  go_upto_region 4 with (go_at_call 34; refine HCK.out.mono ?_; rintro e w2 ⟨rfl, hb2⟩; have HB2 := Lib.hid hb2; clear hb2)
  clear x0 x1 x2 zx
  obtain ⟨y0, y1, y2, y3, y4, y5⟩ := HY.out.below HB2.out
  have zy := cell_lt y0
  have HDC := Lib.hid (rDay_no y m d w2 HDN.out)
  go_wp2_with (go_at_call 32; refine HDC.out.mono ?_; rintro e w3 ⟨rfl, rfl⟩)
  go_ret2
  exact ⟨rfl, bt A0.out HB2.out⟩

set_option maxHeartbeats 2000000 in
theorem rSec_a {b u : Int} {n : Nat} {f : Nat → Int × Int} (ht : tabE b u n f = 0) {y : Int} {k : Nat} {d : Int} (hd : IsDate y k d) (h mi s : Int) (hD : ¬ dayN y k d < u) (c : Nat) (p : Option Addr) (w : World) (hs : LpIn w f n p) :
    Calls Tryz.prog 41 #[.agg #[.int .i64 b, .slice p n c, .int .i64 u], .agg #[.int .i64 y, .int .i64 (k : Int), .int .i64 d, .int .i64 h, .int .i64 mi, .int .i64 s]] w fun e w' => e = .returned (.tuple #[.int .i64 0, .int .i64 90]) ∧ Below w.heap.size w w' := by
  obtain ⟨hx, hy, hb⟩ := rtd_start w b u n c p y (k : Int) d h mi s
  have HX := Lib.hid hx
  have HY := Lib.hid hy
  have HTO := Lib.hid (tab_ok ht)
  have HCK := Lib.hid (rCheck_any b u n c p f _ (hs.below hb) (by have := HTO.out.n1; omega))
  rw [ht] at HCK
  have HS := Lib.hid (hs.below hb)
  have A0 := Lib.hid hb
  have HDT := Lib.hid hd
  have hnb := hd.civ.n_bd
  have hstb := stepAt_bd (f := f) (dayN y k d) n HTO.out.s
  have hgb := HTO.out.grow_bd (dayN y k d)
  obtain ⟨D, hDD⟩ : ∃ D, dayN y k d = D := ⟨_, rfl⟩
  rw [hDD] at hnb hstb hgb hD
  have HDY := Lib.hid hDD
  clear hs ht hb hy hx hd hDD
  have hdu : u ≤ D := by omega
  have HH := Lib.hid (show True = True from rfl)
  have HMI := HH
  clear hnb hstb hgb
  go_enter Tryz.func41, Tryz.ntmps41
  go_upto_region 1 with fail
  generalize (w.alloc (.cells #[.int .i64 b, .slice p n c, .int .i64 u] 55)).alloc (.cells #[.int .i64 y, .int .i64 (k : Int), .int .i64 d, .int .i64 h, .int .i64 mi, .int .i64 s] 67) = W1 at *
  obtain ⟨x0, x1, x2⟩ := HX.out
  have zx := cell_lt x0
  go_upto_region 4 with (go_at_call 34; refine HCK.out.mono ?_; rintro e w2 ⟨rfl, hb2⟩; have HB2 := Lib.hid hb2; clear hb2)
  clear x0 x1 x2 zx
  obtain ⟨x0, x1, x2⟩ := HX.out.below HB2.out
  obtain ⟨y0, y1, y2, y3, y4, y5⟩ := HY.out.below HB2.out
  have zx := cell_lt x0
  have zy := cell_lt y0
  have HDC := Lib.hid (rDay_ok w2 HDT.out)
  rw [HDY.out] at HDC
  have HB4 := Lib.hid HB2.out
  have HS4 := Lib.hid (HS.out.below HB4.out)
  go_wp2_with (first | (go_at_call 32; refine HDC.out.mono ?_; rintro e w3 ⟨rfl, rfl⟩) | (go_at_call 90; refine (in_any _ _ _ _).mono ?_; rintro e w' ⟨rfl, rfl⟩; first | rw [HH.out] | rw [HMI.out]))
  go_ret2
  exact ⟨rfl, bt A0.out HB4.out⟩
set_option maxHeartbeats 2000000 in
theorem rSec_b {b u : Int} {n : Nat} {f : Nat → Int × Int} (ht : tabE b u n f = 0) {y : Int} {k : Nat} {d : Int} (hd : IsDate y k d) (h mi s : Int) (hD : dayN y k d < u) (hh : ¬ (0 ≤ h ∧ h ≤ 23)) (c : Nat) (p : Option Addr) (w : World) (hs : LpIn w f n p) :
    Calls Tryz.prog 41 #[.agg #[.int .i64 b, .slice p n c, .int .i64 u], .agg #[.int .i64 y, .int .i64 (k : Int), .int .i64 d, .int .i64 h, .int .i64 mi, .int .i64 s]] w fun e w' => e = .returned (.tuple #[.int .i64 0, .int .i64 90]) ∧ Below w.heap.size w w' := by
  obtain ⟨hx, hy, hb⟩ := rtd_start w b u n c p y (k : Int) d h mi s
  have HX := Lib.hid hx
  have HY := Lib.hid hy
  have HTO := Lib.hid (tab_ok ht)
  have HCK := Lib.hid (rCheck_any b u n c p f _ (hs.below hb) (by have := HTO.out.n1; omega))
  rw [ht] at HCK
  have HS := Lib.hid (hs.below hb)
  have A0 := Lib.hid hb
  have HDT := Lib.hid hd
  have hnb := hd.civ.n_bd
  have hstb := stepAt_bd (f := f) (dayN y k d) n HTO.out.s
  have hgb := HTO.out.grow_bd (dayN y k d)
  obtain ⟨D, hDD⟩ : ∃ D, dayN y k d = D := ⟨_, rfl⟩
  rw [hDD] at hnb hstb hgb hD
  have HDY := Lib.hid hDD
  clear hs ht hb hy hx hd hDD
  have hdu : ¬ u ≤ D := by omega
  have HH := Lib.hid (show (decide (0 ≤ h) && decide (h ≤ 23)) = false by rw [Bool.eq_false_iff]; intro hc; simp at hc; omega)
  have HMI := HH
  clear hh
  clear hnb hstb hgb
  go_enter Tryz.func41, Tryz.ntmps41
  go_upto_region 1 with fail
  generalize (w.alloc (.cells #[.int .i64 b, .slice p n c, .int .i64 u] 55)).alloc (.cells #[.int .i64 y, .int .i64 (k : Int), .int .i64 d, .int .i64 h, .int .i64 mi, .int .i64 s] 67) = W1 at *
  obtain ⟨x0, x1, x2⟩ := HX.out
  have zx := cell_lt x0
  go_upto_region 4 with (go_at_call 34; refine HCK.out.mono ?_; rintro e w2 ⟨rfl, hb2⟩; have HB2 := Lib.hid hb2; clear hb2)
  clear x0 x1 x2 zx
  obtain ⟨x0, x1, x2⟩ := HX.out.below HB2.out
  obtain ⟨y0, y1, y2, y3, y4, y5⟩ := HY.out.below HB2.out
  have zx := cell_lt x0
  have zy := cell_lt y0
  have HDC := Lib.hid (rDay_ok w2 HDT.out)
  rw [HDY.out] at HDC
  have HB4 := Lib.hid HB2.out
  have HS4 := Lib.hid (HS.out.below HB4.out)
  go_wp2_with (first | (go_at_call 32; refine HDC.out.mono ?_; rintro e w3 ⟨rfl, rfl⟩) | (go_at_call 90; refine (in_any _ _ _ _).mono ?_; rintro e w' ⟨rfl, rfl⟩; first | rw [HH.out] | rw [HMI.out]))
  go_ret2
  exact ⟨rfl, bt A0.out HB4.out⟩
set_option maxHeartbeats 2000000 in
theorem rSec_c {b u : Int} {n : Nat} {f : Nat → Int × Int} (ht : tabE b u n f = 0) {y : Int} {k : Nat} {d : Int} (hd : IsDate y k d) (h mi s : Int) (hD : dayN y k d < u) (hh : 0 ≤ h ∧ h ≤ 23) (hm : ¬ (0 ≤ mi ∧ mi ≤ 59)) (c : Nat) (p : Option Addr) (w : World) (hs : LpIn w f n p) :
    Calls Tryz.prog 41 #[.agg #[.int .i64 b, .slice p n c, .int .i64 u], .agg #[.int .i64 y, .int .i64 (k : Int), .int .i64 d, .int .i64 h, .int .i64 mi, .int .i64 s]] w fun e w' => e = .returned (.tuple #[.int .i64 0, .int .i64 90]) ∧ Below w.heap.size w w' := by
  obtain ⟨hx, hy, hb⟩ := rtd_start w b u n c p y (k : Int) d h mi s
  have HX := Lib.hid hx
  have HY := Lib.hid hy
  have HTO := Lib.hid (tab_ok ht)
  have HCK := Lib.hid (rCheck_any b u n c p f _ (hs.below hb) (by have := HTO.out.n1; omega))
  rw [ht] at HCK
  have HS := Lib.hid (hs.below hb)
  have A0 := Lib.hid hb
  have HDT := Lib.hid hd
  have hnb := hd.civ.n_bd
  have hstb := stepAt_bd (f := f) (dayN y k d) n HTO.out.s
  have hgb := HTO.out.grow_bd (dayN y k d)
  obtain ⟨D, hDD⟩ : ∃ D, dayN y k d = D := ⟨_, rfl⟩
  rw [hDD] at hnb hstb hgb hD
  have HDY := Lib.hid hDD
  clear hs ht hb hy hx hd hDD
  have hdu : ¬ u ≤ D := by omega
  have HH := Lib.hid (show (decide (0 ≤ h) && decide (h ≤ 23)) = true by simp; omega)
  have HMI := Lib.hid (show (decide (0 ≤ mi) && decide (mi ≤ 59)) = false by rw [Bool.eq_false_iff]; intro hc; simp at hc; omega)
  clear hm
  clear hnb hstb hgb
  go_enter Tryz.func41, Tryz.ntmps41
  go_upto_region 1 with fail
  generalize (w.alloc (.cells #[.int .i64 b, .slice p n c, .int .i64 u] 55)).alloc (.cells #[.int .i64 y, .int .i64 (k : Int), .int .i64 d, .int .i64 h, .int .i64 mi, .int .i64 s] 67) = W1 at *
  obtain ⟨x0, x1, x2⟩ := HX.out
  have zx := cell_lt x0
  go_upto_region 4 with (go_at_call 34; refine HCK.out.mono ?_; rintro e w2 ⟨rfl, hb2⟩; have HB2 := Lib.hid hb2; clear hb2)
  clear x0 x1 x2 zx
  obtain ⟨x0, x1, x2⟩ := HX.out.below HB2.out
  obtain ⟨y0, y1, y2, y3, y4, y5⟩ := HY.out.below HB2.out
  have zx := cell_lt x0
  have zy := cell_lt y0
  have HDC := Lib.hid (rDay_ok w2 HDT.out)
  rw [HDY.out] at HDC
  have HB4 := Lib.hid HB2.out
  have HS4 := Lib.hid (HS.out.below HB4.out)
  go_wp2_with (first | (go_at_call 32; refine HDC.out.mono ?_; rintro e w3 ⟨rfl, rfl⟩) | (go_at_call 90; refine (in_any _ _ _ _).mono ?_; rintro e w' ⟨rfl, rfl⟩; first | rw [HH.out] | rw [HMI.out]))
  go_ret2
  exact ⟨rfl, bt A0.out HB4.out⟩
set_option maxHeartbeats 2000000 in
theorem rSec_d {b u : Int} {n : Nat} {f : Nat → Int × Int} (ht : tabE b u n f = 0) {y : Int} {k : Nat} {d : Int} (hd : IsDate y k d) (h mi s : Int) (hD : dayN y k d < u) (hh : 0 ≤ h ∧ h ≤ 23) (hm : 0 ≤ mi ∧ mi ≤ 59) (hsn : s < 0) (c : Nat) (p : Option Addr) (w : World) (hs : LpIn w f n p) :
    Calls Tryz.prog 41 #[.agg #[.int .i64 b, .slice p n c, .int .i64 u], .agg #[.int .i64 y, .int .i64 (k : Int), .int .i64 d, .int .i64 h, .int .i64 mi, .int .i64 s]] w fun e w' => e = .returned (.tuple #[.int .i64 0, .int .i64 90]) ∧ Below w.heap.size w w' := by
  obtain ⟨hx, hy, hb⟩ := rtd_start w b u n c p y (k : Int) d h mi s
  have HX := Lib.hid hx
  have HY := Lib.hid hy
  have HTO := Lib.hid (tab_ok ht)
  have HCK := Lib.hid (rCheck_any b u n c p f _ (hs.below hb) (by have := HTO.out.n1; omega))
  rw [ht] at HCK
  have HS := Lib.hid (hs.below hb)
  have A0 := Lib.hid hb
  have HDT := Lib.hid hd
  have hnb := hd.civ.n_bd
  have hstb := stepAt_bd (f := f) (dayN y k d) n HTO.out.s
  have hgb := HTO.out.grow_bd (dayN y k d)
  obtain ⟨D, hDD⟩ : ∃ D, dayN y k d = D := ⟨_, rfl⟩
  rw [hDD] at hnb hstb hgb hD
  have HDY := Lib.hid hDD
  clear hs ht hb hy hx hd hDD
  have hdu : ¬ u ≤ D := by omega
  have HH := Lib.hid (show (decide (0 ≤ h) && decide (h ≤ 23)) = true by simp; omega)
  have HMI := Lib.hid (show (decide (0 ≤ mi) && decide (mi ≤ 59)) = true by simp; omega)

  clear hnb hstb hgb
  go_enter Tryz.func41, Tryz.ntmps41
  go_upto_region 1 with fail
  generalize (w.alloc (.cells #[.int .i64 b, .slice p n c, .int .i64 u] 55)).alloc (.cells #[.int .i64 y, .int .i64 (k : Int), .int .i64 d, .int .i64 h, .int .i64 mi, .int .i64 s] 67) = W1 at *
  obtain ⟨x0, x1, x2⟩ := HX.out
  have zx := cell_lt x0
  go_upto_region 4 with (go_at_call 34; refine HCK.out.mono ?_; rintro e w2 ⟨rfl, hb2⟩; have HB2 := Lib.hid hb2; clear hb2)
  clear x0 x1 x2 zx
  obtain ⟨x0, x1, x2⟩ := HX.out.below HB2.out
  obtain ⟨y0, y1, y2, y3, y4, y5⟩ := HY.out.below HB2.out
  have zx := cell_lt x0
  have zy := cell_lt y0
  have HDC := Lib.hid (rDay_ok w2 HDT.out)
  rw [HDY.out] at HDC
  have HB4 := Lib.hid HB2.out
  have HS4 := Lib.hid (HS.out.below HB4.out)
  go_wp2_with (first | (go_at_call 32; refine HDC.out.mono ?_; rintro e w3 ⟨rfl, rfl⟩) | (go_at_call 90; refine (in_any _ _ _ _).mono ?_; rintro e w' ⟨rfl, rfl⟩; first | rw [HH.out] | rw [HMI.out]))
  go_ret2
  exact ⟨rfl, bt A0.out HB4.out⟩
set_option maxHeartbeats 2000000 in
theorem rSec_e {b u : Int} {n : Nat} {f : Nat → Int × Int} (ht : tabE b u n f = 0) {y : Int} {k : Nat} {d : Int} (hd : IsDate y k d) (h mi s : Int) (hD : dayN y k d < u) (hh : 0 ≤ h ∧ h ≤ 23) (hm : 0 ≤ mi ∧ mi ≤ 59) (hsn : ¬ s < 0) (h23 : h = 23) (m59 : mi = 59) (hl : 59 + stepAt f n (dayN y k d) < s) (c : Nat) (p : Option Addr) (w : World) (hs : LpIn w f n p) :
    Calls Tryz.prog 41 #[.agg #[.int .i64 b, .slice p n c, .int .i64 u], .agg #[.int .i64 y, .int .i64 (k : Int), .int .i64 d, .int .i64 h, .int .i64 mi, .int .i64 s]] w fun e w' => e = .returned (.tuple #[.int .i64 0, .int .i64 90]) ∧ Below w.heap.size w w' := by
  obtain ⟨hx, hy, hb⟩ := rtd_start w b u n c p y (k : Int) d h mi s
  have HX := Lib.hid hx
  have HY := Lib.hid hy
  have HTO := Lib.hid (tab_ok ht)
  have HCK := Lib.hid (rCheck_any b u n c p f _ (hs.below hb) (by have := HTO.out.n1; omega))
  rw [ht] at HCK
  have HS := Lib.hid (hs.below hb)
  have A0 := Lib.hid hb
  have HDT := Lib.hid hd
  have hnb := hd.civ.n_bd
  have hstb := stepAt_bd (f := f) (dayN y k d) n HTO.out.s
  have hgb := HTO.out.grow_bd (dayN y k d)
  obtain ⟨D, hDD⟩ : ∃ D, dayN y k d = D := ⟨_, rfl⟩
  rw [hDD] at hnb hstb hgb hD hl
  have HDY := Lib.hid hDD
  clear hs ht hb hy hx hd hDD
  have hdu : ¬ u ≤ D := by omega
  have HH := Lib.hid (show (decide (0 ≤ h) && decide (h ≤ 23)) = true by simp; omega)
  have HMI := Lib.hid (show (decide (0 ≤ mi) && decide (mi ≤ 59)) = true by simp; omega)
  have HL := Lib.hid hl
  have HLS := Lib.hid hstb
  have h23b : (h == 23) = true := by simpa using h23
  have m59b : (mi == 59) = true := by simpa using m59
  clear hl h23 m59
  clear hnb hstb hgb
  go_enter Tryz.func41, Tryz.ntmps41
  go_upto_region 1 with fail
  generalize (w.alloc (.cells #[.int .i64 b, .slice p n c, .int .i64 u] 55)).alloc (.cells #[.int .i64 y, .int .i64 (k : Int), .int .i64 d, .int .i64 h, .int .i64 mi, .int .i64 s] 67) = W1 at *
  obtain ⟨x0, x1, x2⟩ := HX.out
  have zx := cell_lt x0
  go_upto_region 4 with (go_at_call 34; refine HCK.out.mono ?_; rintro e w2 ⟨rfl, hb2⟩; have HB2 := Lib.hid hb2; clear hb2)
  clear x0 x1 x2 zx
  obtain ⟨x0, x1, x2⟩ := HX.out.below HB2.out
  obtain ⟨y0, y1, y2, y3, y4, y5⟩ := HY.out.below HB2.out
  have zx := cell_lt x0
  have zy := cell_lt y0
  have HDC := Lib.hid (rDay_ok w2 HDT.out)
  rw [HDY.out] at HDC
  have HST := Lib.hid (rstep_any HTO.out D c p w2 (HS.out.below HB2.out))
  obtain ⟨st, hst⟩ : ∃ st, stepAt f n D = st := ⟨_, rfl⟩
  rw [hst] at HST HL
  have hle := HL.out
  have hsb2 := HLS.out
  rw [hst] at hsb2
  clear hst
  have vl : IntKind.i64.wrap (59 + st) = 59 + st := IntWalk.i64_in _ (by omega)
  go_upto_region 10 with (first | (go_at_call 32; refine HDC.out.mono ?_; rintro e w3 ⟨rfl, rfl⟩) | (go_at_call 90; refine (in_any _ _ _ _).mono ?_; rintro e w' ⟨rfl, rfl⟩; first | rw [HH.out] | rw [HMI.out]) | (go_at_call 100; refine HST.out.mono ?_; rintro e w3 ⟨rfl, hb3⟩; have HB3 := Lib.hid hb3; clear hb3))
  clear x0 x1 x2 zx y0 y1 y2 y3 y4 y5 zy
  obtain ⟨x0, x1, x2⟩ := HX.out.below (bt HB2.out HB3.out)
  obtain ⟨y0, y1, y2, y3, y4, y5⟩ := HY.out.below (bt HB2.out HB3.out)
  have zx := cell_lt x0
  have zy := cell_lt y0
  have HB4 := Lib.hid (bt HB2.out HB3.out)
  have HS4 := Lib.hid (HS.out.below HB4.out)
  go_wp2_with fail
  go_ret2
  exact ⟨rfl, bt A0.out HB4.out⟩
set_option maxHeartbeats 2000000 in
theorem rSec_f {b u : Int} {n : Nat} {f : Nat → Int × Int} (ht : tabE b u n f = 0) {y : Int} {k : Nat} {d : Int} (hd : IsDate y k d) (h mi s : Int) (hD : dayN y k d < u) (hh : 0 ≤ h ∧ h ≤ 23) (hm : 0 ≤ mi ∧ mi ≤ 59) (_hsn : ¬ s < 0) (h23 : h = 23) (m59 : ¬ mi = 59) (hl : 59 < s) (c : Nat) (p : Option Addr) (w : World) (hs : LpIn w f n p) :
    Calls Tryz.prog 41 #[.agg #[.int .i64 b, .slice p n c, .int .i64 u], .agg #[.int .i64 y, .int .i64 (k : Int), .int .i64 d, .int .i64 h, .int .i64 mi, .int .i64 s]] w fun e w' => e = .returned (.tuple #[.int .i64 0, .int .i64 90]) ∧ Below w.heap.size w w' := by
  obtain ⟨hx, hy, hb⟩ := rtd_start w b u n c p y (k : Int) d h mi s
  have HX := Lib.hid hx
  have HY := Lib.hid hy
  have HTO := Lib.hid (tab_ok ht)
  have HCK := Lib.hid (rCheck_any b u n c p f _ (hs.below hb) (by have := HTO.out.n1; omega))
  rw [ht] at HCK
  have HS := Lib.hid (hs.below hb)
  have A0 := Lib.hid hb
  have HDT := Lib.hid hd
  have hnb := hd.civ.n_bd
  have hstb := stepAt_bd (f := f) (dayN y k d) n HTO.out.s
  have hgb := HTO.out.grow_bd (dayN y k d)
  obtain ⟨D, hDD⟩ : ∃ D, dayN y k d = D := ⟨_, rfl⟩
  rw [hDD] at hnb hstb hgb hD
  have HDY := Lib.hid hDD
  clear hs ht hb hy hx hd hDD
  have hdu : ¬ u ≤ D := by omega
  have HH := Lib.hid (show (decide (0 ≤ h) && decide (h ≤ 23)) = true by simp; omega)
  have HMI := Lib.hid (show (decide (0 ≤ mi) && decide (mi ≤ 59)) = true by simp; omega)
  have h23b : (h == 23) = true := by simpa using h23
  have m59b : (mi == 59) = false := by simpa using m59
  clear h23
  clear hnb hstb hgb
  go_enter Tryz.func41, Tryz.ntmps41
  go_upto_region 1 with fail
  generalize (w.alloc (.cells #[.int .i64 b, .slice p n c, .int .i64 u] 55)).alloc (.cells #[.int .i64 y, .int .i64 (k : Int), .int .i64 d, .int .i64 h, .int .i64 mi, .int .i64 s] 67) = W1 at *
  obtain ⟨x0, x1, x2⟩ := HX.out
  have zx := cell_lt x0
  go_upto_region 4 with (go_at_call 34; refine HCK.out.mono ?_; rintro e w2 ⟨rfl, hb2⟩; have HB2 := Lib.hid hb2; clear hb2)
  clear x0 x1 x2 zx
  obtain ⟨x0, x1, x2⟩ := HX.out.below HB2.out
  obtain ⟨y0, y1, y2, y3, y4, y5⟩ := HY.out.below HB2.out
  have zx := cell_lt x0
  have zy := cell_lt y0
  have HDC := Lib.hid (rDay_ok w2 HDT.out)
  rw [HDY.out] at HDC
  have HB4 := Lib.hid HB2.out
  have HS4 := Lib.hid (HS.out.below HB4.out)
  go_wp2_with (first | (go_at_call 32; refine HDC.out.mono ?_; rintro e w3 ⟨rfl, rfl⟩) | (go_at_call 90; refine (in_any _ _ _ _).mono ?_; rintro e w' ⟨rfl, rfl⟩; first | rw [HH.out] | rw [HMI.out]))
  go_ret2
  exact ⟨rfl, bt A0.out HB4.out⟩
set_option maxHeartbeats 2000000 in
theorem rSec_g {b u : Int} {n : Nat} {f : Nat → Int × Int} (ht : tabE b u n f = 0) {y : Int} {k : Nat} {d : Int} (hd : IsDate y k d) (h mi s : Int) (hD : dayN y k d < u) (hh : 0 ≤ h ∧ h ≤ 23) (hm : 0 ≤ mi ∧ mi ≤ 59) (_hsn : ¬ s < 0) (h23 : ¬ h = 23) (hl : 59 < s) (c : Nat) (p : Option Addr) (w : World) (hs : LpIn w f n p) :
    Calls Tryz.prog 41 #[.agg #[.int .i64 b, .slice p n c, .int .i64 u], .agg #[.int .i64 y, .int .i64 (k : Int), .int .i64 d, .int .i64 h, .int .i64 mi, .int .i64 s]] w fun e w' => e = .returned (.tuple #[.int .i64 0, .int .i64 90]) ∧ Below w.heap.size w w' := by
  obtain ⟨hx, hy, hb⟩ := rtd_start w b u n c p y (k : Int) d h mi s
  have HX := Lib.hid hx
  have HY := Lib.hid hy
  have HTO := Lib.hid (tab_ok ht)
  have HCK := Lib.hid (rCheck_any b u n c p f _ (hs.below hb) (by have := HTO.out.n1; omega))
  rw [ht] at HCK
  have HS := Lib.hid (hs.below hb)
  have A0 := Lib.hid hb
  have HDT := Lib.hid hd
  have hnb := hd.civ.n_bd
  have hstb := stepAt_bd (f := f) (dayN y k d) n HTO.out.s
  have hgb := HTO.out.grow_bd (dayN y k d)
  obtain ⟨D, hDD⟩ : ∃ D, dayN y k d = D := ⟨_, rfl⟩
  rw [hDD] at hnb hstb hgb hD
  have HDY := Lib.hid hDD
  clear hs ht hb hy hx hd hDD
  have hdu : ¬ u ≤ D := by omega
  have HH := Lib.hid (show (decide (0 ≤ h) && decide (h ≤ 23)) = true by simp; omega)
  have HMI := Lib.hid (show (decide (0 ≤ mi) && decide (mi ≤ 59)) = true by simp; omega)
  have h23b : (h == 23) = false := by simpa using h23

  clear hnb hstb hgb
  go_enter Tryz.func41, Tryz.ntmps41
  go_upto_region 1 with fail
  generalize (w.alloc (.cells #[.int .i64 b, .slice p n c, .int .i64 u] 55)).alloc (.cells #[.int .i64 y, .int .i64 (k : Int), .int .i64 d, .int .i64 h, .int .i64 mi, .int .i64 s] 67) = W1 at *
  obtain ⟨x0, x1, x2⟩ := HX.out
  have zx := cell_lt x0
  go_upto_region 4 with (go_at_call 34; refine HCK.out.mono ?_; rintro e w2 ⟨rfl, hb2⟩; have HB2 := Lib.hid hb2; clear hb2)
  clear x0 x1 x2 zx
  obtain ⟨x0, x1, x2⟩ := HX.out.below HB2.out
  obtain ⟨y0, y1, y2, y3, y4, y5⟩ := HY.out.below HB2.out
  have zx := cell_lt x0
  have zy := cell_lt y0
  have HDC := Lib.hid (rDay_ok w2 HDT.out)
  rw [HDY.out] at HDC
  have HB4 := Lib.hid HB2.out
  have HS4 := Lib.hid (HS.out.below HB4.out)
  go_wp2_with (first | (go_at_call 32; refine HDC.out.mono ?_; rintro e w3 ⟨rfl, rfl⟩) | (go_at_call 90; refine (in_any _ _ _ _).mono ?_; rintro e w' ⟨rfl, rfl⟩; first | rw [HH.out] | rw [HMI.out]))
  go_ret2
  exact ⟨rfl, bt A0.out HB4.out⟩
set_option maxHeartbeats 2000000 in
theorem rSec_h {b u : Int} {n : Nat} {f : Nat → Int × Int} (ht : tabE b u n f = 0) {y : Int} {k : Nat} {d : Int} (hd : IsDate y k d) (h mi s : Int) (hD : dayN y k d < u) (hh : 0 ≤ h ∧ h ≤ 23) (hm : 0 ≤ mi ∧ mi ≤ 59) (hsn : ¬ s < 0) (h23 : h = 23) (m59 : mi = 59) (hl : ¬ 59 + stepAt f n (dayN y k d) < s) (c : Nat) (p : Option Addr) (w : World) (hs : LpIn w f n p) :
    Calls Tryz.prog 41 #[.agg #[.int .i64 b, .slice p n c, .int .i64 u], .agg #[.int .i64 y, .int .i64 (k : Int), .int .i64 d, .int .i64 h, .int .i64 mi, .int .i64 s]] w fun e w' => e = .returned (.tuple #[.int .i64 (beginS f n (dayN y k d) + 3600 * h + 60 * mi + s), .int .i64 0]) ∧ Below w.heap.size w w' := by
  obtain ⟨hx, hy, hb⟩ := rtd_start w b u n c p y (k : Int) d h mi s
  have HX := Lib.hid hx
  have HY := Lib.hid hy
  have HTO := Lib.hid (tab_ok ht)
  have HCK := Lib.hid (rCheck_any b u n c p f _ (hs.below hb) (by have := HTO.out.n1; omega))
  rw [ht] at HCK
  have HS := Lib.hid (hs.below hb)
  have A0 := Lib.hid hb
  have HDT := Lib.hid hd
  have hnb := hd.civ.n_bd
  have hstb := stepAt_bd (f := f) (dayN y k d) n HTO.out.s
  have hgb := HTO.out.grow_bd (dayN y k d)
  obtain ⟨D, hDD⟩ : ∃ D, dayN y k d = D := ⟨_, rfl⟩
  rw [hDD] at hnb hstb hgb hD hl ⊢
  have HDY := Lib.hid hDD
  clear hs ht hb hy hx hd hDD
  have hdu : ¬ u ≤ D := by omega
  have HH := Lib.hid (show (decide (0 ≤ h) && decide (h ≤ 23)) = true by simp; omega)
  have HMI := Lib.hid (show (decide (0 ≤ mi) && decide (mi ≤ 59)) = true by simp; omega)

  have HDB := Lib.hid (show -1000000000000 ≤ D ∧ D ≤ 1000000000000 by omega)
  have hs60 : s ≤ 60 := by omega
  have q1 : IntKind.i64.wrap (3600 * h) = 3600 * h := IntWalk.i64_in _ (by omega)
  have q2 : IntKind.i64.wrap (60 * mi) = 60 * mi := IntWalk.i64_in _ (by omega)
  have q3 : IntKind.i64.wrap (beginS f n D + 3600 * h) = beginS f n D + 3600 * h := by unfold beginS; exact IntWalk.i64_in _ (by omega)
  have q4 : IntKind.i64.wrap (beginS f n D + 3600 * h + 60 * mi) = beginS f n D + 3600 * h + 60 * mi := by unfold beginS; exact IntWalk.i64_in _ (by omega)
  have q5 : IntKind.i64.wrap (beginS f n D + 3600 * h + 60 * mi + s) = beginS f n D + 3600 * h + 60 * mi + s := by unfold beginS; exact IntWalk.i64_in _ (by omega)
  have HL := Lib.hid hl
  have HLS := Lib.hid hstb
  have h23b : (h == 23) = true := by simpa using h23
  have m59b : (mi == 59) = true := by simpa using m59
  clear hl h23 m59
  clear hnb hstb hgb
  go_enter Tryz.func41, Tryz.ntmps41
  go_upto_region 1 with fail
  generalize (w.alloc (.cells #[.int .i64 b, .slice p n c, .int .i64 u] 55)).alloc (.cells #[.int .i64 y, .int .i64 (k : Int), .int .i64 d, .int .i64 h, .int .i64 mi, .int .i64 s] 67) = W1 at *
  obtain ⟨x0, x1, x2⟩ := HX.out
  have zx := cell_lt x0
  go_upto_region 4 with (go_at_call 34; refine HCK.out.mono ?_; rintro e w2 ⟨rfl, hb2⟩; have HB2 := Lib.hid hb2; clear hb2)
  clear x0 x1 x2 zx
  obtain ⟨x0, x1, x2⟩ := HX.out.below HB2.out
  obtain ⟨y0, y1, y2, y3, y4, y5⟩ := HY.out.below HB2.out
  have zx := cell_lt x0
  have zy := cell_lt y0
  have HDC := Lib.hid (rDay_ok w2 HDT.out)
  rw [HDY.out] at HDC
  have HST := Lib.hid (rstep_any HTO.out D c p w2 (HS.out.below HB2.out))
  obtain ⟨st, hst⟩ : ∃ st, stepAt f n D = st := ⟨_, rfl⟩
  rw [hst] at HST HL
  have hle := HL.out
  have hsb2 := HLS.out
  rw [hst] at hsb2
  clear hst
  have vl : IntKind.i64.wrap (59 + st) = 59 + st := IntWalk.i64_in _ (by omega)
  go_upto_region 10 with (first | (go_at_call 32; refine HDC.out.mono ?_; rintro e w3 ⟨rfl, rfl⟩) | (go_at_call 90; refine (in_any _ _ _ _).mono ?_; rintro e w' ⟨rfl, rfl⟩; first | rw [HH.out] | rw [HMI.out]) | (go_at_call 100; refine HST.out.mono ?_; rintro e w3 ⟨rfl, hb3⟩; have HB3 := Lib.hid hb3; clear hb3))
  clear x0 x1 x2 zx y0 y1 y2 y3 y4 y5 zy
  obtain ⟨x0, x1, x2⟩ := HX.out.below (bt HB2.out HB3.out)
  obtain ⟨y0, y1, y2, y3, y4, y5⟩ := HY.out.below (bt HB2.out HB3.out)
  have zx := cell_lt x0
  have zy := cell_lt y0
  have HB4 := Lib.hid (bt HB2.out HB3.out)
  have HS4 := Lib.hid (HS.out.below HB4.out)
  have HB0 := Lib.hid (Below.refl w3.heap.size w3)
  have HK := Lib.hid (show ∀ X, Below w3.heap.size w3 X → (fun w' => Below w3.heap.size w3 w' ∧ w'.cell? ⟨w.heap.size, 0, none⟩ = some (.int .i64 b) ∧ w'.cell? ⟨w.heap.size, 1, none⟩ = some (.slice p n c) ∧ w'.cell? ⟨w.heap.size, 2, none⟩ = some (.int .i64 u) ∧ w'.cell? ⟨w.heap.size + 1, 3, none⟩ = some (.int .i64 h) ∧ w'.cell? ⟨w.heap.size + 1, 4, none⟩ = some (.int .i64 mi) ∧ w'.cell? ⟨w.heap.size + 1, 5, none⟩ = some (.int .i64 s)) X from fun X q => ⟨q, cell_below q x0, cell_below q x1, cell_below q x2, cell_below q y3, cell_below q y4, cell_below q y5⟩)
  have HBG := Lib.hid (fun X (q : Below w3.heap.size w3 X) => Calls.bel q (rbegin_any HTO.out D c p X (HS4.out.below q) HDB.out))
  obtain ⟨bg, hbg⟩ : ∃ bg, beginS f n D = bg := ⟨_, rfl⟩
  have HE := Lib.hid (show bg + 3600 * h + 60 * mi + s = beginS f n D + 3600 * h + 60 * mi + s by rw [hbg])
  rw [hbg] at HBG q3 q4 q5
  clear hbg
  go_upto_region 12 with fail
  go_region_held3 (fun w' => Below w3.heap.size w3 w' ∧ w'.cell? ⟨w.heap.size, 0, none⟩ = some (.int .i64 b) ∧ w'.cell? ⟨w.heap.size, 1, none⟩ = some (.slice p n c) ∧ w'.cell? ⟨w.heap.size, 2, none⟩ = some (.int .i64 u) ∧ w'.cell? ⟨w.heap.size + 1, 3, none⟩ = some (.int .i64 h) ∧ w'.cell? ⟨w.heap.size + 1, 4, none⟩ = some (.int .i64 mi) ∧ w'.cell? ⟨w.heap.size + 1, 5, none⟩ = some (.int .i64 s))
    (exact HK.out _ (by first | assumption | exact HB0.out | exact Below.drew HB0.out | exact Below.drew (by assumption)))
    (first | (go_at_call 96; refine (HBG.out _ (by first | assumption | exact HB0.out | exact Below.drew HB0.out)).mono ?_; rintro e w5 ⟨rfl, hb5⟩))
  all_goals
    go_wp2
    go_ret2
    exact ⟨congrArg (fun z => Ending.returned (.tuple #[.int .i64 z, .int .i64 0])) HE.out, bt (bt A0.out HB4.out) (by assumption)⟩
set_option maxHeartbeats 2000000 in
theorem rSec_i {b u : Int} {n : Nat} {f : Nat → Int × Int} (ht : tabE b u n f = 0) {y : Int} {k : Nat} {d : Int} (hd : IsDate y k d) (h mi s : Int) (hD : dayN y k d < u) (hh : 0 ≤ h ∧ h ≤ 23) (hm : 0 ≤ mi ∧ mi ≤ 59) (hsn : ¬ s < 0) (h23 : h = 23) (m59 : ¬ mi = 59) (hl : ¬ 59 < s) (c : Nat) (p : Option Addr) (w : World) (hs : LpIn w f n p) :
    Calls Tryz.prog 41 #[.agg #[.int .i64 b, .slice p n c, .int .i64 u], .agg #[.int .i64 y, .int .i64 (k : Int), .int .i64 d, .int .i64 h, .int .i64 mi, .int .i64 s]] w fun e w' => e = .returned (.tuple #[.int .i64 (beginS f n (dayN y k d) + 3600 * h + 60 * mi + s), .int .i64 0]) ∧ Below w.heap.size w w' := by
  obtain ⟨hx, hy, hb⟩ := rtd_start w b u n c p y (k : Int) d h mi s
  have HX := Lib.hid hx
  have HY := Lib.hid hy
  have HTO := Lib.hid (tab_ok ht)
  have HCK := Lib.hid (rCheck_any b u n c p f _ (hs.below hb) (by have := HTO.out.n1; omega))
  rw [ht] at HCK
  have HS := Lib.hid (hs.below hb)
  have A0 := Lib.hid hb
  have HDT := Lib.hid hd
  have hnb := hd.civ.n_bd
  have hstb := stepAt_bd (f := f) (dayN y k d) n HTO.out.s
  have hgb := HTO.out.grow_bd (dayN y k d)
  obtain ⟨D, hDD⟩ : ∃ D, dayN y k d = D := ⟨_, rfl⟩
  rw [hDD] at hnb hstb hgb hD ⊢
  have HDY := Lib.hid hDD
  clear hs ht hb hy hx hd hDD
  have hdu : ¬ u ≤ D := by omega
  have HH := Lib.hid (show (decide (0 ≤ h) && decide (h ≤ 23)) = true by simp; omega)
  have HMI := Lib.hid (show (decide (0 ≤ mi) && decide (mi ≤ 59)) = true by simp; omega)

  have HDB := Lib.hid (show -1000000000000 ≤ D ∧ D ≤ 1000000000000 by omega)
  have hs60 : s ≤ 60 := by omega
  have q1 : IntKind.i64.wrap (3600 * h) = 3600 * h := IntWalk.i64_in _ (by omega)
  have q2 : IntKind.i64.wrap (60 * mi) = 60 * mi := IntWalk.i64_in _ (by omega)
  have q3 : IntKind.i64.wrap (beginS f n D + 3600 * h) = beginS f n D + 3600 * h := by unfold beginS; exact IntWalk.i64_in _ (by omega)
  have q4 : IntKind.i64.wrap (beginS f n D + 3600 * h + 60 * mi) = beginS f n D + 3600 * h + 60 * mi := by unfold beginS; exact IntWalk.i64_in _ (by omega)
  have q5 : IntKind.i64.wrap (beginS f n D + 3600 * h + 60 * mi + s) = beginS f n D + 3600 * h + 60 * mi + s := by unfold beginS; exact IntWalk.i64_in _ (by omega)
  have h23b : (h == 23) = true := by simpa using h23
  have m59b : (mi == 59) = false := by simpa using m59
  clear h23
  clear hnb hstb hgb
  go_enter Tryz.func41, Tryz.ntmps41
  go_upto_region 1 with fail
  generalize (w.alloc (.cells #[.int .i64 b, .slice p n c, .int .i64 u] 55)).alloc (.cells #[.int .i64 y, .int .i64 (k : Int), .int .i64 d, .int .i64 h, .int .i64 mi, .int .i64 s] 67) = W1 at *
  obtain ⟨x0, x1, x2⟩ := HX.out
  have zx := cell_lt x0
  go_upto_region 4 with (go_at_call 34; refine HCK.out.mono ?_; rintro e w2 ⟨rfl, hb2⟩; have HB2 := Lib.hid hb2; clear hb2)
  clear x0 x1 x2 zx
  obtain ⟨x0, x1, x2⟩ := HX.out.below HB2.out
  obtain ⟨y0, y1, y2, y3, y4, y5⟩ := HY.out.below HB2.out
  have zx := cell_lt x0
  have zy := cell_lt y0
  have HDC := Lib.hid (rDay_ok w2 HDT.out)
  rw [HDY.out] at HDC
  have HB4 := Lib.hid HB2.out
  have HS4 := Lib.hid (HS.out.below HB4.out)
  have HB0 := Lib.hid (Below.refl w2.heap.size w2)
  have HK := Lib.hid (show ∀ X, Below w2.heap.size w2 X → (fun w' => Below w2.heap.size w2 w' ∧ w'.cell? ⟨w.heap.size, 0, none⟩ = some (.int .i64 b) ∧ w'.cell? ⟨w.heap.size, 1, none⟩ = some (.slice p n c) ∧ w'.cell? ⟨w.heap.size, 2, none⟩ = some (.int .i64 u) ∧ w'.cell? ⟨w.heap.size + 1, 3, none⟩ = some (.int .i64 h) ∧ w'.cell? ⟨w.heap.size + 1, 4, none⟩ = some (.int .i64 mi) ∧ w'.cell? ⟨w.heap.size + 1, 5, none⟩ = some (.int .i64 s)) X from fun X q => ⟨q, cell_below q x0, cell_below q x1, cell_below q x2, cell_below q y3, cell_below q y4, cell_below q y5⟩)
  have HBG := Lib.hid (fun X (q : Below w2.heap.size w2 X) => Calls.bel q (rbegin_any HTO.out D c p X (HS4.out.below q) HDB.out))
  obtain ⟨bg, hbg⟩ : ∃ bg, beginS f n D = bg := ⟨_, rfl⟩
  have HE := Lib.hid (show bg + 3600 * h + 60 * mi + s = beginS f n D + 3600 * h + 60 * mi + s by rw [hbg])
  rw [hbg] at HBG q3 q4 q5
  clear hbg
  go_upto_region 12 with (first | (go_at_call 32; refine HDC.out.mono ?_; rintro e w3 ⟨rfl, rfl⟩) | (go_at_call 90; refine (in_any _ _ _ _).mono ?_; rintro e w' ⟨rfl, rfl⟩; first | rw [HH.out] | rw [HMI.out]))
  go_region_held3 (fun w' => Below w2.heap.size w2 w' ∧ w'.cell? ⟨w.heap.size, 0, none⟩ = some (.int .i64 b) ∧ w'.cell? ⟨w.heap.size, 1, none⟩ = some (.slice p n c) ∧ w'.cell? ⟨w.heap.size, 2, none⟩ = some (.int .i64 u) ∧ w'.cell? ⟨w.heap.size + 1, 3, none⟩ = some (.int .i64 h) ∧ w'.cell? ⟨w.heap.size + 1, 4, none⟩ = some (.int .i64 mi) ∧ w'.cell? ⟨w.heap.size + 1, 5, none⟩ = some (.int .i64 s))
    (exact HK.out _ (by first | assumption | exact HB0.out | exact Below.drew HB0.out | exact Below.drew (by assumption)))
    (first | (go_at_call 96; refine (HBG.out _ (by first | assumption | exact HB0.out | exact Below.drew HB0.out)).mono ?_; rintro e w5 ⟨rfl, hb5⟩))
  all_goals
    go_wp2
    go_ret2
    exact ⟨congrArg (fun z => Ending.returned (.tuple #[.int .i64 z, .int .i64 0])) HE.out, bt (bt A0.out HB4.out) (by assumption)⟩
set_option maxHeartbeats 2000000 in
theorem rSec_j {b u : Int} {n : Nat} {f : Nat → Int × Int} (ht : tabE b u n f = 0) {y : Int} {k : Nat} {d : Int} (hd : IsDate y k d) (h mi s : Int) (hD : dayN y k d < u) (hh : 0 ≤ h ∧ h ≤ 23) (hm : 0 ≤ mi ∧ mi ≤ 59) (hsn : ¬ s < 0) (h23 : ¬ h = 23) (hl : ¬ 59 < s) (c : Nat) (p : Option Addr) (w : World) (hs : LpIn w f n p) :
    Calls Tryz.prog 41 #[.agg #[.int .i64 b, .slice p n c, .int .i64 u], .agg #[.int .i64 y, .int .i64 (k : Int), .int .i64 d, .int .i64 h, .int .i64 mi, .int .i64 s]] w fun e w' => e = .returned (.tuple #[.int .i64 (beginS f n (dayN y k d) + 3600 * h + 60 * mi + s), .int .i64 0]) ∧ Below w.heap.size w w' := by
  obtain ⟨hx, hy, hb⟩ := rtd_start w b u n c p y (k : Int) d h mi s
  have HX := Lib.hid hx
  have HY := Lib.hid hy
  have HTO := Lib.hid (tab_ok ht)
  have HCK := Lib.hid (rCheck_any b u n c p f _ (hs.below hb) (by have := HTO.out.n1; omega))
  rw [ht] at HCK
  have HS := Lib.hid (hs.below hb)
  have A0 := Lib.hid hb
  have HDT := Lib.hid hd
  have hnb := hd.civ.n_bd
  have hstb := stepAt_bd (f := f) (dayN y k d) n HTO.out.s
  have hgb := HTO.out.grow_bd (dayN y k d)
  obtain ⟨D, hDD⟩ : ∃ D, dayN y k d = D := ⟨_, rfl⟩
  rw [hDD] at hnb hstb hgb hD ⊢
  have HDY := Lib.hid hDD
  clear hs ht hb hy hx hd hDD
  have hdu : ¬ u ≤ D := by omega
  have HH := Lib.hid (show (decide (0 ≤ h) && decide (h ≤ 23)) = true by simp; omega)
  have HMI := Lib.hid (show (decide (0 ≤ mi) && decide (mi ≤ 59)) = true by simp; omega)

  have HDB := Lib.hid (show -1000000000000 ≤ D ∧ D ≤ 1000000000000 by omega)
  have hs60 : s ≤ 60 := by omega
  have q1 : IntKind.i64.wrap (3600 * h) = 3600 * h := IntWalk.i64_in _ (by omega)
  have q2 : IntKind.i64.wrap (60 * mi) = 60 * mi := IntWalk.i64_in _ (by omega)
  have q3 : IntKind.i64.wrap (beginS f n D + 3600 * h) = beginS f n D + 3600 * h := by unfold beginS; exact IntWalk.i64_in _ (by omega)
  have q4 : IntKind.i64.wrap (beginS f n D + 3600 * h + 60 * mi) = beginS f n D + 3600 * h + 60 * mi := by unfold beginS; exact IntWalk.i64_in _ (by omega)
  have q5 : IntKind.i64.wrap (beginS f n D + 3600 * h + 60 * mi + s) = beginS f n D + 3600 * h + 60 * mi + s := by unfold beginS; exact IntWalk.i64_in _ (by omega)
  have h23b : (h == 23) = false := by simpa using h23

  clear hnb hstb hgb
  go_enter Tryz.func41, Tryz.ntmps41
  go_upto_region 1 with fail
  generalize (w.alloc (.cells #[.int .i64 b, .slice p n c, .int .i64 u] 55)).alloc (.cells #[.int .i64 y, .int .i64 (k : Int), .int .i64 d, .int .i64 h, .int .i64 mi, .int .i64 s] 67) = W1 at *
  obtain ⟨x0, x1, x2⟩ := HX.out
  have zx := cell_lt x0
  go_upto_region 4 with (go_at_call 34; refine HCK.out.mono ?_; rintro e w2 ⟨rfl, hb2⟩; have HB2 := Lib.hid hb2; clear hb2)
  clear x0 x1 x2 zx
  obtain ⟨x0, x1, x2⟩ := HX.out.below HB2.out
  obtain ⟨y0, y1, y2, y3, y4, y5⟩ := HY.out.below HB2.out
  have zx := cell_lt x0
  have zy := cell_lt y0
  have HDC := Lib.hid (rDay_ok w2 HDT.out)
  rw [HDY.out] at HDC
  have HB4 := Lib.hid HB2.out
  have HS4 := Lib.hid (HS.out.below HB4.out)
  have HB0 := Lib.hid (Below.refl w2.heap.size w2)
  have HK := Lib.hid (show ∀ X, Below w2.heap.size w2 X → (fun w' => Below w2.heap.size w2 w' ∧ w'.cell? ⟨w.heap.size, 0, none⟩ = some (.int .i64 b) ∧ w'.cell? ⟨w.heap.size, 1, none⟩ = some (.slice p n c) ∧ w'.cell? ⟨w.heap.size, 2, none⟩ = some (.int .i64 u) ∧ w'.cell? ⟨w.heap.size + 1, 3, none⟩ = some (.int .i64 h) ∧ w'.cell? ⟨w.heap.size + 1, 4, none⟩ = some (.int .i64 mi) ∧ w'.cell? ⟨w.heap.size + 1, 5, none⟩ = some (.int .i64 s)) X from fun X q => ⟨q, cell_below q x0, cell_below q x1, cell_below q x2, cell_below q y3, cell_below q y4, cell_below q y5⟩)
  have HBG := Lib.hid (fun X (q : Below w2.heap.size w2 X) => Calls.bel q (rbegin_any HTO.out D c p X (HS4.out.below q) HDB.out))
  obtain ⟨bg, hbg⟩ : ∃ bg, beginS f n D = bg := ⟨_, rfl⟩
  have HE := Lib.hid (show bg + 3600 * h + 60 * mi + s = beginS f n D + 3600 * h + 60 * mi + s by rw [hbg])
  rw [hbg] at HBG q3 q4 q5
  clear hbg
  go_upto_region 12 with (first | (go_at_call 32; refine HDC.out.mono ?_; rintro e w3 ⟨rfl, rfl⟩) | (go_at_call 90; refine (in_any _ _ _ _).mono ?_; rintro e w' ⟨rfl, rfl⟩; first | rw [HH.out] | rw [HMI.out]))
  go_region_held3 (fun w' => Below w2.heap.size w2 w' ∧ w'.cell? ⟨w.heap.size, 0, none⟩ = some (.int .i64 b) ∧ w'.cell? ⟨w.heap.size, 1, none⟩ = some (.slice p n c) ∧ w'.cell? ⟨w.heap.size, 2, none⟩ = some (.int .i64 u) ∧ w'.cell? ⟨w.heap.size + 1, 3, none⟩ = some (.int .i64 h) ∧ w'.cell? ⟨w.heap.size + 1, 4, none⟩ = some (.int .i64 mi) ∧ w'.cell? ⟨w.heap.size + 1, 5, none⟩ = some (.int .i64 s))
    (exact HK.out _ (by first | assumption | exact HB0.out | exact Below.drew HB0.out | exact Below.drew (by assumption)))
    (first | (go_at_call 96; refine (HBG.out _ (by first | assumption | exact HB0.out | exact Below.drew HB0.out)).mono ?_; rintro e w5 ⟨rfl, hb5⟩))
  all_goals
    go_wp2
    go_ret2
    exact ⟨congrArg (fun z => Ending.returned (.tuple #[.int .i64 z, .int .i64 0])) HE.out, bt (bt A0.out HB4.out) (by assumption)⟩
theorem rSeconds_bad {b u : Int} {n : Nat} {f : Nat → Int × Int} (ht : tabE b u n f = 0) {y : Int} {k : Nat} {d : Int} (hd : IsDate y k d) (h mi s : Int) (hb : secB u f n (dayN y k d) h mi s = false) (c : Nat) (p : Option Addr) (w : World) (hs : LpIn w f n p) :
    Calls Tryz.prog 41 #[.agg #[.int .i64 b, .slice p n c, .int .i64 u], .agg #[.int .i64 y, .int .i64 (k : Int), .int .i64 d, .int .i64 h, .int .i64 mi, .int .i64 s]] w fun e w' => e = .returned (.tuple #[.int .i64 0, .int .i64 90]) ∧ Below w.heap.size w w' := by
  by_cases h1 : dayN y k d < u
  · by_cases h2 : 0 ≤ h ∧ h ≤ 23
    · by_cases h3 : 0 ≤ mi ∧ mi ≤ 59
      · by_cases h4 : s < 0
        · exact rSec_d ht hd h mi s h1 h2 h3 h4 c p w hs
        · have h5 : ¬ s ≤ 59 + (if h = 23 ∧ mi = 59 then stepAt f n (dayN y k d) else 0) := by
            intro h5
            unfold secB at hb
            have : (0 : Int) ≤ s := by omega
            simp [h1, h2, h3, this, h5] at hb
          by_cases h6 : h = 23
          · by_cases h7 : mi = 59
            · rw [if_pos ⟨h6, h7⟩] at h5
              exact rSec_e ht hd h mi s h1 h2 h3 h4 h6 h7 (by omega) c p w hs
            · rw [if_neg (by omega)] at h5
              exact rSec_f ht hd h mi s h1 h2 h3 h4 h6 h7 (by omega) c p w hs
          · rw [if_neg (by omega)] at h5
            exact rSec_g ht hd h mi s h1 h2 h3 h4 h6 (by omega) c p w hs
      · exact rSec_c ht hd h mi s h1 h2 h3 c p w hs
    · exact rSec_b ht hd h mi s h1 h2 c p w hs
  · exact rSec_a ht hd h mi s h1 c p w hs
theorem secB_true {u : Int} {f : Nat → Int × Int} {n : Nat} {D h mi s : Int} (hb : secB u f n D h mi s = true) : D < u ∧ (0 ≤ h ∧ h ≤ 23) ∧ (0 ≤ mi ∧ mi ≤ 59) ∧ ¬ s < 0 ∧ s ≤ 59 + (if h = 23 ∧ mi = 59 then stepAt f n D else 0) := by
  unfold secB at hb
  simp only [Bool.and_eq_true, decide_eq_true_eq] at hb
  obtain ⟨⟨⟨⟨h1, h2⟩, h3⟩, h4⟩, h5⟩ := hb
  exact ⟨h1, h2, h3, by omega, h5⟩
theorem rSeconds_good {b u : Int} {n : Nat} {f : Nat → Int × Int} (ht : tabE b u n f = 0) {y : Int} {k : Nat} {d : Int} (hd : IsDate y k d) (h mi s : Int) (hb : secB u f n (dayN y k d) h mi s = true) (c : Nat) (p : Option Addr) (w : World) (hs : LpIn w f n p) :
    Calls Tryz.prog 41 #[.agg #[.int .i64 b, .slice p n c, .int .i64 u], .agg #[.int .i64 y, .int .i64 (k : Int), .int .i64 d, .int .i64 h, .int .i64 mi, .int .i64 s]] w fun e w' => e = .returned (.tuple #[.int .i64 (beginS f n (dayN y k d) + 3600 * h + 60 * mi + s), .int .i64 0]) ∧ Below w.heap.size w w' := by
  obtain ⟨h1, h2, h3, h4, h5⟩ := secB_true hb
  by_cases h6 : h = 23
  · by_cases h7 : mi = 59
    · rw [if_pos ⟨h6, h7⟩] at h5
      exact rSec_h ht hd h mi s h1 h2 h3 h4 h6 h7 (by omega) c p w hs
    · rw [if_neg (by omega)] at h5
      exact rSec_i ht hd h mi s h1 h2 h3 h4 h6 h7 (by omega) c p w hs
  · rw [if_neg (by omega)] at h5
    exact rSec_j ht hd h mi s h1 h2 h3 h4 h6 (by omega) c p w hs
end Go.Proofs.YtgnfaemnehmgcaaGreatDoor.Cal
