/- Layer 9 (calendar): a moment so many minutes later. -/
import Derived.Test.YtklhepgpepfgjaaDoorQ12
namespace Go.Proofs.YtklhepgpepfgjaaDoor.Cal
open Go Go.RowKit
attribute [local go_sem] Oper.semAt_some
theorem later_start (w : World) (m s : Int) : MBox ((w.alloc (.cells #[.int .i64 m, .int .i64 s] 88)).alloc (.cells #[.int .i64 0, .int .i64 0] 88)) w.heap.size m s ∧ Res2 ((w.alloc (.cells #[.int .i64 m, .int .i64 s] 88)).alloc (.cells #[.int .i64 0, .int .i64 0] 88)) (w.heap.size + 1) ∧ Below w.heap.size w ((w.alloc (.cells #[.int .i64 m, .int .i64 s] 88)).alloc (.cells #[.int .i64 0, .int .i64 0] 88)) := by
  have b1 := below_alloc (Below.refl w.heap.size w) (.cells #[.int .i64 m, .int .i64 s] 88)
  have h1 := MBox.new w m s
  have e1 : (w.alloc (.cells #[.int .i64 m, .int .i64 s] 88)).heap.size = w.heap.size + 1 := by simp
  generalize w.alloc (.cells #[.int .i64 m, .int .i64 s] 88) = W1 at *
  have b2 := below_alloc (Below.refl W1.heap.size W1) (.cells #[.int .i64 0, .int .i64 0] 88)
  have h2 := Res2.new W1 (.int .i64 0) (.int .i64 0) 88
  rw [e1] at h2
  exact ⟨h1.below b2, h2, bt b1 b2⟩
theorem later_any (m s x : Int) (hm : -1000000000000 ≤ m ∧ m ≤ 1000000000000) (hx : -1000000000000 ≤ x ∧ x ≤ 1000000000000) (w : World) :
    Calls Tryd.prog 39 #[.agg #[.int .i64 m, .int .i64 s], .int .i64 x] w fun e w' => e = .returned (.agg #[.int .i64 (m + x), .int .i64 s]) ∧ Below w.heap.size w w' := by
  obtain ⟨h1, h2, hb⟩ := later_start w m s
  have H1 := Lib.hid h1
  have H2 := Lib.hid h2
  have A0 := Lib.hid hb
  have v1 : IntKind.i64.wrap (m + x) = m + x := IntWalk.i64_in _ (by omega)
  clear h1 h2 hb hm hx
  go_enter Tryd.func39, Tryd.ntmps39
  go_upto_region 1 with fail
  generalize (w.alloc (.cells #[.int .i64 m, .int .i64 s] 88)).alloc (.cells #[.int .i64 0, .int .i64 0] 88) = W1 at *
  obtain ⟨x0, x1⟩ := H1.out
  have zx := cell_lt x0
  obtain ⟨⟨u0, r0⟩, ⟨u1, r1⟩, rz⟩ := H2.out
  have z0 := rz 0
  have z1 := rz 1
  have zr := cell_lt r0
  clear rz
  go_wp2
  refine bodyPost_ret (v := .agg #[.int .i64 (m + x), .int .i64 s]) (by simp [results, Tryd.results39, go_sem, r0, r1]) rfl ⟨rfl, ?_⟩
  exact ((A0.out).setCell (p := ⟨w.heap.size + 1, _, none⟩) (Nat.le_succ _) _).setCell (p := ⟨w.heap.size + 1, _, none⟩) (Nat.le_succ _) _
end Go.Proofs.YtklhepgpepfgjaaDoor.Cal
