/- Contracts: phases, what is shown, readings; the calls that hand back one number. -/
import Derived.Test.YtemblamamgfodaaGreatDoorFind
import Derived.Test.YtemblamamgfodaaGreatDoorPlain
namespace Go.Proofs.YtemblamamgfodaaGreatDoor.Wd
open Go Go.RowKit
theorem phase_at {a m : Nat} {c : Clk} {seed k : Int} {r : Cham} {v : Value} (s : Int) (w : World) (h : AtWork w a m c seed k r v) (hc : ClkIn c) (hr : chamOk r = true) (hk : 0 ≤ k ∧ k ≤ 16) (h0 : 0 ≤ s) (h1 : s ≤ 1000000) :
    Calls Tryz.prog 74 #[.pointer (some ⟨a, 0, none⟩), .int .i64 s] w fun e w' => e = .returned (.int .i64 (phaseS seed k c r s)) ∧ Below w.heap.size w w' := by
  have b1 := fixed_bd hc hr s h0 h1
  have b2 := walked_bd seed k c.walk 0 s hc.walk.1 (Int.le_refl 0) h0
  have b3 := stray_bd hc 0 s (Int.le_refl 0) h0 h1
  have b4 : -10000000000000 ≤ walkedS seed k c.walk 0 s ∧ walkedS seed k c.walk 0 s ≤ 10000000000000 := by omega
  clear b2 b3
  have H := Lib.hid h
  have HC := Lib.hid hc
  have HR := Lib.hid hr
  clear h hc hr
  go_enter Tryz.func74, Tryz.ntmps74
  go_wp2_with fail
  refine (fixed_at s _ H.out HC.out HR.out h0 h1).mono ?_
  rintro e w1 ⟨rfl, hb1⟩
  have HB := Lib.hid hb1
  clear hb1
  go_wp2_with fail
  refine (walked_at 0 s _ (H.out.below HB.out) HC.out hk (Int.le_refl 0) h0 h1).mono ?_
  rintro e w2 ⟨rfl, hb2⟩
  have HB2 := Lib.hid hb2
  clear hb2
  go_wp2
  go_ret
  exact ⟨rfl, HB.out.trans (HB2.out.mono HB.out.size)⟩
theorem shown_at {a m : Nat} {c : Clk} {seed k : Int} {r : Cham} {v : Value} (s : Int) (w : World) (h : AtWork w a m c seed k r v) (hc : ClkIn c) (hr : chamOk r = true) (hk : 0 ≤ k ∧ k ≤ 16) (h0 : 0 ≤ s) (h1 : s ≤ 1000000) :
    Calls Tryz.prog 30 #[.pointer (some ⟨a, 0, none⟩), .int .i64 s] w fun e w' => e = .returned (.int .i64 (shownS seed k c r s)) ∧ Below w.heap.size w w' := by
  have b1 := phase_bd seed k hc hr s h0 h1
  have b2 := white_bd seed k hc s
  have b3 := hc.white
  have b4 : -1000000000000 ≤ whiteS seed k c s ∧ whiteS seed k c s ≤ 1000000000000 := by omega
  clear b2 b3
  have H := Lib.hid h
  have HC := Lib.hid hc
  have HR := Lib.hid hr
  clear h hc hr
  go_enter Tryz.func30, Tryz.ntmps30
  go_wp2_with fail
  refine (phase_at s _ H.out HC.out HR.out hk h0 h1).mono ?_
  rintro e w1 ⟨rfl, hb1⟩
  have HB := Lib.hid hb1
  clear hb1
  go_wp2_with fail
  refine (white_at s _ (H.out.below HB.out) HC.out h0 h1 hk).mono ?_
  rintro e w2 ⟨rfl, hb2⟩
  have HB2 := Lib.hid hb2
  clear hb2
  go_wp2
  go_ret
  exact ⟨rfl, HB.out.trans (HB2.out.mono HB.out.size)⟩
def momVal (a b : Int) : Value := .agg #[.int .i64 a, .int .i64 b]
end Go.Proofs.YtemblamamgfodaaGreatDoor.Wd
