/- The law CounterMeets, where it asks nothing. -/
import Derived.Test.YtmfpnfdoidihcaaDoorVj
import Derived.Test.YtmfpnfdoidihcaaDoorVi
import Derived.Test.YtmfpnfdoidihcaaDoorVg
import Derived.Test.YtmfpnfdoidihcaaDoorHp
import Derived.Test.YtmfpnfdoidihcaaDoorAk
import Derived.Test.YtmfpnfdoidihcaaDoorNy
import Derived.Test.YtmfpnfdoidihcaaDoorNh
import Derived.Deep.RegionHeld3
namespace Go.Proofs.YtmfpnfdoidihcaaDoor.Ct
open Go Go.RowKit Go.Shelf
attribute [local go_sem] Oper.semAt_some
set_option maxRecDepth 100000 in
set_option maxHeartbeats 4000000 in
theorem meets_big (c : Cnt) (W : Wd.Wld) (s : Int) (p1 p2 : Option Addr) (c1 c2 : Nat) (w : World) (hW : Wd.WldIn w W p1 p2) (hb : Wd.bigS W = true ∨ 16 < W.cls.length) :
    Calls Tryd.prog 3 #[cntVal c, wV W p1 p2 c1 c2, .int .i64 s] w fun e w' => e = .returned (.bool true) ∧ Below w.heap.size w w' := by
  have HM := Lib.hid (MeetAt.new c W p1 p2 c1 c2 hW)
  have HBG := Lib.hid (fun X (h : Wd.WldIn X W p1 p2) => Wd.big_any W p1 p2 c1 c2 X h)
  unfold cntVal wV
  clear hW
  by_cases h1 : Wd.bigS W = true
  · rw [h1] at HBG
    clear hb h1
    go_enter Tryd.func3, Tryd.ntmps3
    go_upto_region 1 with fail
    generalize ((w.alloc (.cells #[.int .i64 c.f, .int .i64 c.o, .int .i64 c.j, .int .i64 c.g, .int .i64 c.r, .int .i64 c.d, .int .i64 c.i] 23)).alloc (.cells #[.int .u64 W.seed, .slice p1 W.chs.length c1, .slice p2 W.cls.length c2] 28)) = W0 at *
    obtain ⟨-, -, -, -, -, -, -, r0, r1, r2, -, -⟩ := HM.out
    have zr := cell_lt r0
    go_wp2_with (first | (go_at_call 4; refine (HBG.out _ HM.out.own).mono ?_; rintro e w1 ⟨rfl, hb1⟩; have HM1 := Lib.hid (HM.out.below hb1); clear hb1) | (go_at_call 5; refine (awake2_any _).mono ?_; rintro e w2 ⟨rfl, hb2⟩; have HB2 := Lib.hid (bt HM1.out.bel hb2); clear hb2))
    go_ret
    exact ⟨rfl, HB2.out⟩
  · have h16 : (16 : Int) < W.cls.length := by have := hb.resolve_left h1; omega
    rw [show Wd.bigS W = false by simpa using h1] at HBG
    clear hb h1
    go_enter Tryd.func3, Tryd.ntmps3
    go_upto_region 1 with fail
    generalize ((w.alloc (.cells #[.int .i64 c.f, .int .i64 c.o, .int .i64 c.j, .int .i64 c.g, .int .i64 c.r, .int .i64 c.d, .int .i64 c.i] 23)).alloc (.cells #[.int .u64 W.seed, .slice p1 W.chs.length c1, .slice p2 W.cls.length c2] 28)) = W0 at *
    obtain ⟨-, -, -, -, -, -, -, r0, r1, r2, -, -⟩ := HM.out
    have zr := cell_lt r0
    go_wp2_with (first | (go_at_call 4; refine (HBG.out _ HM.out.own).mono ?_; rintro e w1 ⟨rfl, hb1⟩; have HM1 := Lib.hid (HM.out.below hb1); clear hb1; obtain ⟨-, -, -, -, -, -, -, -, -, y2, -, -⟩ := HM1.out; have zy := cell_lt y2) | (go_at_call 5; refine (awake2_any _).mono ?_; rintro e w2 ⟨rfl, hb2⟩; have HB2 := Lib.hid (bt HM1.out.bel hb2); clear hb2))
    go_ret
    exact ⟨rfl, HB2.out⟩
end Go.Proofs.YtmfpnfdoidihcaaDoor.Ct
