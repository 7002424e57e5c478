/- Layer 9 (calendar), the reference: Seconds. (by gen_ea.py) -/
import Derived.Test.YtjdpdabafbbfaaaDoorDz
namespace Go.Proofs.YtjdpdabafbbfaaaDoor.Cal
open Go Go.RowKit
attribute [local go_sem] Oper.semAt_some
theorem rtd_start (w : World) (b u : Int) (n c : Nat) (p : Option Addr) (y m d h mi s : Int) : TBox ((w.alloc (.cells #[.int .i64 b, .slice p n c, .int .i64 u] 33)).alloc (.cells #[.int .i64 y, .int .i64 m, .int .i64 d, .int .i64 h, .int .i64 mi, .int .i64 s] 78)) w.heap.size b u n c p ∧ DBox ((w.alloc (.cells #[.int .i64 b, .slice p n c, .int .i64 u] 33)).alloc (.cells #[.int .i64 y, .int .i64 m, .int .i64 d, .int .i64 h, .int .i64 mi, .int .i64 s] 78)) (w.heap.size + 1) y m d h mi s ∧ Below w.heap.size w ((w.alloc (.cells #[.int .i64 b, .slice p n c, .int .i64 u] 33)).alloc (.cells #[.int .i64 y, .int .i64 m, .int .i64 d, .int .i64 h, .int .i64 mi, .int .i64 s] 78)) := by
  have b1 := below_alloc (Below.refl w.heap.size w) (.cells #[.int .i64 b, .slice p n c, .int .i64 u] 33)
  have h1 := TBox.new w b u n c p 33
  have e : (w.alloc (.cells #[.int .i64 b, .slice p n c, .int .i64 u] 33)).heap.size = w.heap.size + 1 := by simp
  generalize w.alloc (.cells #[.int .i64 b, .slice p n c, .int .i64 u] 33) = W1 at *
  have b2 := below_alloc (Below.refl W1.heap.size W1) (.cells #[.int .i64 y, .int .i64 m, .int .i64 d, .int .i64 h, .int .i64 mi, .int .i64 s] 78)
  refine ⟨h1.below b2, ?_, bt b1 b2⟩
  rw [← e]
  exact ⟨by simp, by simp, by simp, by simp, by simp, by simp⟩
theorem secB_true {u : Int} {f : Nat → Int × Int} {n : Nat} {D h mi s : Int} (hb : secB u f n D h mi s = true) : D < u ∧ (0 ≤ h ∧ h ≤ 23) ∧ (0 ≤ mi ∧ mi ≤ 59) ∧ ¬ s < 0 ∧ s ≤ 59 + (if h = 23 ∧ mi = 59 then stepAt f n D else 0) := by
  unfold secB at hb
  simp only [Bool.and_eq_true, decide_eq_true_eq] at hb
  obtain ⟨⟨⟨⟨h1, h2⟩, h3⟩, h4⟩, h5⟩ := hb
  exact ⟨h1, h2, h3, by omega, h5⟩
end Go.Proofs.YtjdpdabafbbfaaaDoor.Cal
