/- Arrays that are compared: the four variances, the four errors. -/
import Derived.Test.YtpmhphdpomiacaaStA
import Derived.ChangeKeysEq
namespace Go.Proofs.Ytpmhphdpomiacaa
open Go Go.RowKit
theorem info28 : ∃ i, Try.prog.info? 28 = some i := Option.isSome_iff_exists.1 (show (Try.prog.info? 28).isSome = true by kernel_rfl)
theorem info40 : ∃ i, Try.prog.info? 40 = some i := Option.isSome_iff_exists.1 (show (Try.prog.info? 40).isSome = true by kernel_rfl)
theorem cells28 : Try.prog.cellsOf 28 = 2 := by kernel_rfl
theorem cells40 : Try.prog.cellsOf 40 = 1 := by kernel_rfl
set_option maxRecDepth 100000 in
theorem eql_ratios (n0 d0 n1 d1 n2 d2 n3 d3 : Int) (w : World) :
    (Op.equalIn 10000 39 (.agg #[.int .i64 n0, .int .i64 d0, .int .i64 n1, .int .i64 d1, .int .i64 n2, .int .i64 d2, .int .i64 n3, .int .i64 d3]) (.agg #[.int .i64 n0, .int .i64 d0, .int .i64 n1, .int .i64 d1, .int .i64 n2, .int .i64 d2, .int .i64 n3, .int .i64 d3])).run Try.prog w = .ok true w := by
  obtain ⟨i, hi⟩ := info28
  rw [show (10000 : Nat) = 9999 + 1 from rfl, run_equalIn_array w 9999 _ _ Try.underlying39 hi, cells28]
  rw [show List.range 4 = [0, 1, 2, 3] from rfl]
  simp [Op.eqItems, go_sem]
set_option maxRecDepth 100000 in
theorem eql_errs (e0 e1 e2 e3 : Int) (w : World) :
    (Op.equalIn 10000 41 (.agg #[.int .i64 e0, .int .i64 e1, .int .i64 e2, .int .i64 e3]) (.agg #[.int .i64 e0, .int .i64 e1, .int .i64 e2, .int .i64 e3])).run Try.prog w = .ok true w := by
  obtain ⟨i, hi⟩ := info40
  rw [show (10000 : Nat) = 9999 + 1 from rfl, run_equalIn_array w 9999 _ _ Try.underlying41 hi, cells40]
  rw [show List.range 4 = [0, 1, 2, 3] from rfl]
  simp [Op.eqItems, go_sem]
end Go.Proofs.Ytpmhphdpomiacaa
