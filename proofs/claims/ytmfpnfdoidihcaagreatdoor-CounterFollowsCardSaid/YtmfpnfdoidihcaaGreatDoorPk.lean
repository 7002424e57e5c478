/- Contracts of the kit: a number made small. -/
import Derived.Test.YtmfpnfdoidihcaaGreatDoorCa
namespace Go.Proofs.YtmfpnfdoidihcaaGreatDoor.Ct
open Go Go.RowKit
attribute [local go_sem] Oper.semAt_some
theorem pick_any (a b : Int) (w : World) (hb : 1 ≤ b ∧ b ≤ 9223372036854775807) :
    Calls Tryz.prog 20 #[.int .i64 a, .int .i64 b] w fun e w' => e = .returned (.int .i64 (a % b)) ∧ w = w' := by
  have hm := tmod_bd a b hb.1
  have hlt : ¬ b < 1 := by omega
  have hne : (b == 0) = false := by simp; omega
  have hnz : ¬ b = 0 := by omega
  have k2 : IntKind.i64.wrap (a.tmod b) = a.tmod b := IntWalk.i64_in _ (by omega)
  by_cases h : a.tmod b < 0
  · have H := Lib.hid (modulo_neg a b hb.1 h)
    have k3 : IntKind.i64.wrap (a.tmod b + b) = a.tmod b + b := IntWalk.i64_in _ (by omega)
    clear hm
    go_enter Tryz.func20, Tryz.ntmps20
    go_wp2
    go_ret
    exact ⟨ret_i64 H.out, rfl⟩
  · have H := Lib.hid (modulo_pos a b hb.1 h)
    clear hm
    go_enter Tryz.func20, Tryz.ntmps20
    go_wp2
    go_ret
    exact ⟨ret_i64 H.out, rfl⟩
theorem pick_quiet (a b r : Int) (hb : 1 ≤ b ∧ b ≤ 9223372036854775807) (hr : a % b = r) (W : World) : Calls Tryz.prog 20 #[.int .i64 a, .int .i64 b] W fun e w' => e = .returned (.int .i64 r) ∧ w' = W :=
  (pick_any a b W hb).mono fun _ _ ⟨h1, h2⟩ => ⟨by rw [h1, hr], h2.symm⟩
end Go.Proofs.YtmfpnfdoidihcaaGreatDoor.Ct
