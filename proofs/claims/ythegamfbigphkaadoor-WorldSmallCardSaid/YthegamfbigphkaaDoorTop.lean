/- Contracts: phases, what is shown, readings; the calls that hand back one number. -/
import Derived.Test.YthegamfbigphkaaDoorFind
import Derived.Test.YthegamfbigphkaaDoorPlain
namespace Go.Proofs.YthegamfbigphkaaDoor
open Go Go.RowKit
theorem phase_at {a m : Nat} {c : Clk} {seed k : Int} {r : Cham} {v : Value} (s : Int) (w : World) (h : AtWork w a m c seed k r v) (hc : ClkIn c) (hr : chamOk r = true) (hk : 0 ≤ k ∧ k ≤ 16) (h0 : 0 ≤ s) (h1 : s ≤ 1000000) :
    Calls Tryd.prog 67 #[.pointer (some ⟨a, 0, none⟩), .int .i64 s] w fun e w' => e = .returned (.int .i64 (phaseS seed k c r s)) ∧ Below w.heap.size w w' := by
  have b1 := fixed_bd hc hr s h0 h1
  have b2 := walked_bd seed k c.walk 0 s hc.walk.1 (Int.le_refl 0) h0
  have b3 := stray_bd hc 0 s (Int.le_refl 0) h0 h1
  have b4 : -10000000000000 ≤ walkedS seed k c.walk 0 s ∧ walkedS seed k c.walk 0 s ≤ 10000000000000 := by omega
  clear b2 b3
  have H := Lib.hid h
  have HC := Lib.hid hc
  have HR := Lib.hid hr
  clear h hc hr
  go_enter Tryd.func67, Tryd.ntmps67
  go_wp2_with fail
  refine (fixed_at s _ H.out HC.out HR.out h0 h1).mono ?_
  rintro e w1 ⟨rfl, hb1⟩
  have HB := Lib.hid hb1
  clear hb1
  go_wp2_with fail
  refine (walked_at 0 s _ (H.out.below HB.out) HC.out hk (Int.le_refl 0) h0 h1).mono ?_
  rintro e w2 ⟨rfl, hb2⟩
  have HB2 := Lib.hid hb2
  clear hb2
  go_wp2
  go_ret
  exact ⟨rfl, HB.out.trans (HB2.out.mono HB.out.size)⟩
theorem shown_at {a m : Nat} {c : Clk} {seed k : Int} {r : Cham} {v : Value} (s : Int) (w : World) (h : AtWork w a m c seed k r v) (hc : ClkIn c) (hr : chamOk r = true) (hk : 0 ≤ k ∧ k ≤ 16) (h0 : 0 ≤ s) (h1 : s ≤ 1000000) :
    Calls Tryd.prog 70 #[.pointer (some ⟨a, 0, none⟩), .int .i64 s] w fun e w' => e = .returned (.int .i64 (shownS seed k c r s)) ∧ Below w.heap.size w w' := by
  have b1 := phase_bd seed k hc hr s h0 h1
  have b2 := white_bd seed k hc s
  have b3 := hc.white
  have b4 : -1000000000000 ≤ whiteS seed k c s ∧ whiteS seed k c s ≤ 1000000000000 := by omega
  clear b2 b3
  have H := Lib.hid h
  have HC := Lib.hid hc
  have HR := Lib.hid hr
  clear h hc hr
  go_enter Tryd.func70, Tryd.ntmps70
  go_wp2_with fail
  refine (phase_at s _ H.out HC.out HR.out hk h0 h1).mono ?_
  rintro e w1 ⟨rfl, hb1⟩
  have HB := Lib.hid hb1
  clear hb1
  go_wp2_with fail
  refine (white_at s _ (H.out.below HB.out) HC.out h0 h1 hk).mono ?_
  rintro e w2 ⟨rfl, hb2⟩
  have HB2 := Lib.hid hb2
  clear hb2
  go_wp2
  go_ret
  exact ⟨rfl, HB.out.trans (HB2.out.mono HB.out.size)⟩
def momVal (a b : Int) : Value := .agg #[.int .i64 a, .int .i64 b]
set_option maxRecDepth 100000 in
theorem reading_at {a m : Nat} {c : Clk} {seed k : Int} {r : Cham} {v : Value} (s : Int) (w : World) (h : AtWork w a m c seed k r v) (hc : ClkIn c) (hr : chamOk r = true) (hk : 0 ≤ k ∧ k ≤ 16) (h0 : 0 ≤ s) (h1 : s ≤ 1000000) :
    Calls Tryd.prog 76 #[.pointer (some ⟨a, 0, none⟩), .int .i64 s] w fun e w' => e = .returned (momVal (readSec s (shownS seed k c r s)) (readFs (shownS seed k c r s))) ∧ Below w.heap.size w w' := by
  have b1 := shown_bd seed k hc hr s h0 h1
  have a0 : Below w.heap.size w (w.alloc (.cells #[.int .i64 0, .int .i64 0] 49)) := (Below.refl _ _).alloc (Nat.le_refl _) _
  have hs := shown_at s _ (h.below a0) hc hr hk h0 h1
  have HS := Lib.hid hs
  have A0 := Lib.hid a0
  clear h hc hr hs a0
  unfold momVal readSec readFs
  generalize shownS seed k c r s = sh at *
  have b2 : -1 ≤ sh / 1000000000000000 ∧ sh / 1000000000000000 ≤ 0 := by omega
  go_enter Tryd.func76, Tryd.ntmps76
  go_wp2_with fail
  refine HS.out.mono ?_
  rintro e w1 ⟨rfl, hb1⟩
  have x0 : w1.cell? ⟨w.heap.size, 0, none⟩ = some (.int .i64 0) := cell_below hb1 (by simp)
  have x1 : w1.cell? ⟨w.heap.size, 1, none⟩ = some (.int .i64 0) := cell_below hb1 (by simp)
  have f0 : w1.frozen? ⟨w.heap.size, 0, none⟩ = false := (hb1.frozen (p := ⟨w.heap.size, 0, none⟩) (by simp)).trans (by simp)
  have f1 : w1.frozen? ⟨w.heap.size, 1, none⟩ = false := (hb1.frozen (p := ⟨w.heap.size, 1, none⟩) (by simp)).trans (by simp)
  have HB := Lib.hid hb1
  clear hb1
  go_wp2_with (go_at_call 91; refine (floor_any _ _ _ (by omega) (by omega) (by omega) (by omega)).mono ?_; rintro e w' ⟨rfl, rfl⟩)
  have c0 : (w1.setCell ⟨w.heap.size, 0, none⟩ (.int .i64 (s + sh / 1000000000000000))).cell? ⟨w.heap.size, 0, none⟩ = some (.int .i64 (s + sh / 1000000000000000)) := World.cell?_setCell_same _ _ _ x0
  have c1 : ((w1.setCell ⟨w.heap.size, 0, none⟩ (.int .i64 (s + sh / 1000000000000000))).setCell ⟨w.heap.size, 1, none⟩ (.int .i64 (sh - sh / 1000000000000000 * 1000000000000000))).cell? ⟨w.heap.size, 1, none⟩ = some (.int .i64 (sh - sh / 1000000000000000 * 1000000000000000)) := World.cell?_setCell_same _ _ _ (u := .int .i64 0) (by rw [World.cell?_setCell_other]; exact x1; simp)
  refine bodyPost_ret (v := .agg #[.int .i64 (s + sh / 1000000000000000), .int .i64 (sh - sh / 1000000000000000 * 1000000000000000)]) (by simp [results, Tryd.results76, go_sem, c0, c1]) rfl ?_
  exact ⟨rfl, ((A0.out.trans (HB.out.mono (by simp))).setCell (by simp) _).setCell (by simp) _⟩
theorem after_any (a b c d : Int) (w : World) :
    Calls Tryd.prog 93 #[.agg #[.int .i64 a, .int .i64 b], .agg #[.int .i64 c, .int .i64 d]] w fun e w' => e = .returned (.bool (afterS a b c d)) ∧ Below w.heap.size w w' := by
  cases h1 : decide (c < a)
  · cases h2 : (a == c)
    all_goals
      go_enter Tryd.func93, Tryd.ntmps93
      go_wp2
      go_ret
      exact ⟨ret_bool (by simp [afterS, *]), by go_grown⟩
  · go_enter Tryd.func93, Tryd.ntmps93
    go_wp2
    go_ret
    exact ⟨ret_bool (by simp [afterS, *]), by go_grown⟩
end Go.Proofs.YthegamfbigphkaaDoor
