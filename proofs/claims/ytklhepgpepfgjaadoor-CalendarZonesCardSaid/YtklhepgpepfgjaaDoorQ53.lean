/- The law CalendarZones, its calls. -/
import Derived.Test.YtklhepgpepfgjaaDoorQ51
import Derived.Test.YtklhepgpepfgjaaDoorQ52
namespace Go.Proofs.YtklhepgpepfgjaaDoor.Cal
open Go Go.RowKit
attribute [local go_sem] Oper.semAt_some
set_option maxRecDepth 100000 in
set_option maxHeartbeats 8000000 in
theorem calendarZones_any (b u : Int) (n c : Nat) (p : Option Addr) (f : Nat → Int × Int) (o : Int) (q cz : Nat) (pz : Option Addr) (g : Nat → Int × Int) (x y m d h mi s : Int) (w : World) (hw : Mon w) (hs : LpIn w f n p) (hs2 : LpIn w g q pz) (hcl : n ≤ maxLen) (hcq : q ≤ maxLen) (hp : p = none → n = 0) (hpz : pz = none → q = 0) (hgt : ∀ i, i < q → (g i).1 ≤ 9223372036854775807) :
    Calls Tryd.prog 3 #[.agg #[.int .i64 b, .slice p n c, .int .i64 u], .agg #[.int .i64 o, .slice pz q cz], .int .i64 x, .agg #[.int .i64 y, .int .i64 m, .int .i64 d, .int .i64 h, .int .i64 mi, .int .i64 s]] w fun e w' => e = .returned (.bool true) ∧ Below w.heap.size w w' := by
  obtain ⟨W1, hW1, hx, hy, hdb, hb⟩ := zs_start w b u n c p o q cz pz y m d h mi s
  obtain ⟨x0, x1, x2⟩ := hx
  obtain ⟨y0, y1⟩ := hy
  obtain ⟨d0, d1, d2, d3, d4, d5⟩ := hdb
  have A0 := Lib.hid hb
  have HW := Lib.hid (hw.below hb)
  unfold maxLen at hcl hcq
  by_cases hn : n ≤ 120
  · have hni : ¬ (120 : Int) < n := by omega
    by_cases hq : q ≤ 220
    · have hqi : ¬ (220 : Int) < q := by omega
      have HTA := Lib.hid (zones_any b u n c p f o q cz pz g x y m d h mi s W1 (hw.below hb) (hs.below hb) (hs2.below hb) (by omega) (by omega) hp hpz hgt)
      clear hb hw hs hs2 hp hpz hn hq hgt
      go_enter Tryd.func3, Tryd.ntmps3
      go_upto_region 1 with fail
      clear hW1
      have zx := cell_lt x0
      have zy := cell_lt y0
      have zd := cell_lt d0
      go_wp2_with (first | (go_at_call 5; refine HTA.out.mono ?_; rintro e w2 ⟨rfl, hb2⟩; have HB2 := Lib.hid hb2; clear hb2) | (go_at_call 6; refine (awake_any _ (HW.out.below HB2.out)).mono ?_; rintro e w3 ⟨rfl, hb3⟩; have HB3 := Lib.hid hb3; clear hb3))
      go_ret
      exact ⟨rfl, bt (bt A0.out HB2.out) HB3.out⟩
    · have hqi : (220 : Int) < q := by omega
      clear hb hw hs hs2 hp hpz hn hgt
      go_enter Tryd.func3, Tryd.ntmps3
      go_upto_region 1 with fail
      clear hW1
      have zx := cell_lt x0
      have zy := cell_lt y0
      have zd := cell_lt d0
      go_wp2_with (go_at_call 6; refine (awake_any _ HW.out).mono ?_; rintro e w3 ⟨rfl, hb3⟩; have HB3 := Lib.hid hb3; clear hb3)
      go_ret
      exact ⟨rfl, bt A0.out HB3.out⟩
  · have hni : (120 : Int) < n := by omega
    clear hb hw hs hs2 hp hpz hn hgt
    go_enter Tryd.func3, Tryd.ntmps3
    go_upto_region 1 with fail
    clear hW1
    have zx := cell_lt x0
    have zy := cell_lt y0
    have zd := cell_lt d0
    go_wp2_with (go_at_call 6; refine (awake_any _ HW.out).mono ?_; rintro e w3 ⟨rfl, hb3⟩; have HB3 := Lib.hid hb3; clear hb3)
    go_ret
    exact ⟨rfl, bt A0.out HB3.out⟩
end Go.Proofs.YtklhepgpepfgjaaDoor.Cal
