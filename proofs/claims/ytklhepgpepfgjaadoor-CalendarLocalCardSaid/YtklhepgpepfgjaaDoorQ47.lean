/- Layer 9 (calendar): slices.IsSorted of a sorted list. -/
import Derived.Test.YtklhepgpepfgjaaDoorQ46
import Derived.Test.YtklhepgpepfgjaaDoorQ13
import Derived.Test.YtklhepgpepfgjaaDoorQ06
namespace Go.Proofs.YtklhepgpepfgjaaDoor.Cal
open Go Go.RowKit
attribute [local go_sem] Oper.semAt_some
theorem less_any (x y : Int) (w : World) : Calls Tryd.prog 51 #[.int .i64 x, .int .i64 y] w fun e w' => e = .returned (.bool (decide (x < y))) ∧ w = w' := by
  go_enter Tryd.func51, Tryd.ntmps51
  go_wp2_with (go_at_call 80; refine (isNaN_any _ _).mono ?_; rintro e w' ⟨rfl, rfl⟩)
  go_ret
  exact ⟨rfl, rfl⟩
theorem isSorted_yes (f : Nat → Int) (n c : Nat) (p : Option Addr) (w : World) (hn : n ≤ 1000000000) (hs : FnIn w f n p) (ho : ∀ i, i + 1 < n → f i ≤ f (i + 1)) :
    Calls Tryd.prog 15 #[.slice p n c] w fun e w' => e = .returned (.bool true) ∧ Below w.heap.size w w' := by
  have HS := Lib.hid hs
  have HO := Lib.hid ho
  have HN := Lib.hid hn
  have v1 : IntKind.i64.wrap ((n : Int) - 1) = (n : Int) - 1 := IntWalk.i64_in _ (by omega)
  clear hs ho hn
  go_enter Tryd.func15, Tryd.ntmps15
  go_upto_region 2 with fail
  go_loopw [3] (fun s3 wr => ∃ (i : Int), -1 ≤ i ∧ i < (n : Int) ∧ s3 = .int .i64 i ∧ Hid (Below w.heap.size w wr)) (fun s _ => (intOf s + 1).toNat)
  case atStart => exact ⟨_, by omega, by omega, rfl, Lib.hid (Below.refl _ _)⟩
  case round =>
    obtain ⟨i, h1, h2, rfl, HB⟩ := hrel
    have hn := HN.out
    by_cases hz : 0 < i
    · obtain ⟨k, rfl⟩ : ∃ k : Nat, i = (k : Int) + 1 := ⟨(i - 1).toNat, by omega⟩
      obtain ⟨bb, oo, rfl, hi⟩ := HS.out.resolve_left (by omega)
      have y0 := cell_below HB.out (hi (k + 1) (by omega))
      have y1 := cell_below HB.out (hi k (by omega))
      have hle := HO.out k (by omega)
      have zy := cell_lt y0
      have w1 : IntKind.i64.wrap ((k : Int) + 1 - 1) = (k : Int) := by rw [IntWalk.i64_in _ (by omega)]; omega
      have hno : ¬ f (k + 1) < f k := by omega
      have HK := Lib.hid h2
      generalize f (k + 1) = a at *
      generalize f k = b at *
      clear hle HO
      go_wp2_with fail
      go_quiet ((go_at_call 51; exact Calls.quiet_of_same (qs (less_any _ _ _))))
      go_wp2_with fail
      go_roundw
      case rel => exact ⟨_, by omega, by have := HK.out; omega, rfl, Lib.hid (below_drewN HB.out _)⟩
      case measure => simp [intOf]; omega
    · go_wp2_with fail
      go_ret
      exact ⟨rfl, HB.out⟩
end Go.Proofs.YtklhepgpepfgjaaDoor.Cal
