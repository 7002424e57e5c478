/- Layer 9 (calendar): what a table at work says of days and seconds. -/
import Derived.Test.YtjdpdabafbbfaaaDoorDs
namespace Go.Proofs.YtjdpdabafbbfaaaDoor.Cal
open Go Go.RowKit
attribute [local go_sem] Oper.semAt_some
theorem total_any {b u : Int} {n : Nat} {f : Nat → Int × Int} (ht : TabOk b u n f) (c : Nat) (p : Option Addr) (w : World) (hs : LpIn w f n p) (hc : n ≤ c) (hcm : c ≤ maxLen) :
    Calls Tryd.prog 48 #[.agg #[.int .i64 b, .slice p n c, .int .i64 u]] w fun e w' => e = .returned (.int .i64 (beginS f n u)) ∧ Below w.heap.size w w' := by
  have A0 := below_alloc (Below.refl w.heap.size w) (.cells #[.int .i64 b, .slice p n c, .int .i64 u] 24)
  obtain ⟨x0, x1, x2⟩ := TBox.new w b u n c p 24
  have HBG := Lib.hid (begin_any ht u c p _ (hs.below A0) hc hcm (by have := ht.u1; have := ht.u2; omega))
  have A0 := Lib.hid A0
  clear hs ht
  go_enter Tryd.func48, Tryd.ntmps48
  go_upto_region 1 with fail
  generalize w.alloc (.cells #[.int .i64 b, .slice p n c, .int .i64 u] 24) = W1 at *
  have zx := cell_lt x0
  go_wp2_with (go_at_call 47; refine HBG.out.mono ?_; rintro e w2 ⟨rfl, hb2⟩; have HB2 := Lib.hid hb2; clear hb2)
  go_ret
  exact ⟨rfl, bt A0.out HB2.out⟩
theorem wd_start (w : World) (b u : Int) (n c : Nat) (p : Option Addr) (mb : Nat) : WBox ((w.alloc (.cells #[.int .i64 b, .slice p n c, .int .i64 u, .map (some mb)] 77)).alloc (.cells #[.int .i64 0, .int .i64 0, .int .i64 0, .int .i64 0, .int .i64 0, .int .i64 0] 67)) w.heap.size b u n c p mb ∧ Res6 ((w.alloc (.cells #[.int .i64 b, .slice p n c, .int .i64 u, .map (some mb)] 77)).alloc (.cells #[.int .i64 0, .int .i64 0, .int .i64 0, .int .i64 0, .int .i64 0, .int .i64 0] 67)) (w.heap.size + 1) ∧ Below w.heap.size w ((w.alloc (.cells #[.int .i64 b, .slice p n c, .int .i64 u, .map (some mb)] 77)).alloc (.cells #[.int .i64 0, .int .i64 0, .int .i64 0, .int .i64 0, .int .i64 0, .int .i64 0] 67)) := by
  have b1 := below_alloc (Below.refl w.heap.size w) (.cells #[.int .i64 b, .slice p n c, .int .i64 u, .map (some mb)] 77)
  have e : (w.alloc (.cells #[.int .i64 b, .slice p n c, .int .i64 u, .map (some mb)] 77)).heap.size = w.heap.size + 1 := by simp
  have h := Res6.new (w.alloc (.cells #[.int .i64 b, .slice p n c, .int .i64 u, .map (some mb)] 77)) (.int .i64 0) (.int .i64 0) (.int .i64 0) (.int .i64 0) (.int .i64 0) (.int .i64 0) 67
  rw [e] at h
  exact ⟨(WBox.new w b u n c p mb).below (below_alloc (Below.refl _ _) _), h, below_alloc b1 _⟩
def hrS (r : Int) : Int := minS r / 60
def mnS (r : Int) : Int := minS r % 60
def scS (r : Int) : Int := r - 60 * minS r
end Go.Proofs.YtjdpdabafbbfaaaDoor.Cal
