/- Layer 9 (calendar): ofDay; Length, Offset, Total. -/
import Derived.Test.YtklhepgpepfgjaaDoorQ20
namespace Go.Proofs.YtklhepgpepfgjaaDoor.Cal
open Go Go.RowKit
theorem Total_any (b u : Int) (n c : Nat) (p : Option Addr) (f : Nat → Int × Int) (w : World) (hw : Mon w) (hs : LpIn w f n p) (hn : n ≤ 1000000000000) (hc : n ≤ c) (hcm : c ≤ maxLen) :
    Calls Tryd.prog 8 #[.agg #[.int .i64 b, .slice p n c, .int .i64 u]] w fun e w' => e = .returned (.tuple #[.int .i64 (if tabE b u n f = 0 then beginS f n u else 0), .int .i64 (tabE b u n f)]) ∧ Below w.heap.size w w' := by
  have A0 := below_alloc (Below.refl w.heap.size w) (.cells #[.int .i64 b, .slice p n c, .int .i64 u] 24)
  have HX := Lib.hid (TBox.new w b u n c p 24)
  have HCK := Lib.hid (Check_any b u n c p f _ (hw.below A0) (hs.below A0) hn)
  have HS := Lib.hid (hs.below A0)
  have A0 := Lib.hid A0
  clear hw hs
  by_cases ht : tabE b u n f = 0
  · rw [if_pos ht, ht]
    rw [ht] at HCK
    have HTO := Lib.hid (tab_ok ht)
    clear ht
    go_enter Tryd.func8, Tryd.ntmps8
    go_upto_region 1 with fail
    generalize w.alloc (.cells #[.int .i64 b, .slice p n c, .int .i64 u] 24) = W1 at *
    obtain ⟨x0, x1, x2⟩ := HX.out
    have zx := cell_lt x0
    go_upto_region 4 with (go_at_call 32; refine HCK.out.mono ?_; rintro e w2 ⟨rfl, hb2⟩; have HB2 := Lib.hid hb2; clear hb2)
    clear x0 x1 x2 zx
    obtain ⟨x0, x1, x2⟩ := HX.out.below HB2.out
    have zx := cell_lt x0
    have HTL := Lib.hid (total_any HTO.out c p w2 (HS.out.below HB2.out) hc hcm)
    go_wp2_with (go_at_call 33; refine HTL.out.mono ?_; rintro e w3 ⟨rfl, hb3⟩; have HB3 := Lib.hid hb3; clear hb3)
    go_ret2
    exact ⟨rfl, bt (bt A0.out HB2.out) HB3.out⟩
  · rw [if_neg ht]
    obtain ⟨er, her⟩ : ∃ er, tabE b u n f = er := ⟨_, rfl⟩
    rw [her] at ht HCK ⊢
    have hne : (er == 0) = false := by simpa using ht
    clear her ht
    go_enter Tryd.func8, Tryd.ntmps8
    go_upto_region 1 with fail
    generalize w.alloc (.cells #[.int .i64 b, .slice p n c, .int .i64 u] 24) = W1 at *
    obtain ⟨x0, x1, x2⟩ := HX.out
    have zx := cell_lt x0
    go_wp2_with (go_at_call 32; refine HCK.out.mono ?_; rintro e w2 ⟨rfl, hb2⟩; have HB2 := Lib.hid hb2; clear hb2)
    go_ret2
    exact ⟨rfl, bt A0.out HB2.out⟩
end Go.Proofs.YtklhepgpepfgjaaDoor.Cal
