/- Contracts of layer 3: Median, where its arguments are refused. -/
import Derived.Test.YthkndjkgokojmaaStW
import Derived.Test.YthkndjkgokojmaaStB
namespace Go.Proofs.Ythkndjkgokojmaa
open Go Go.RowKit Go.Shelf
def medNo : Value := .tuple #[.agg #[.int .i64 0, .int .i64 0, .int .i64 0, .int .i64 0], .int .i64 1]
set_option maxRecDepth 100000 in
set_option maxHeartbeats 1000000 in
theorem median_size (p : Option Addr) (n cap : Nat) (N D : Int) (w : World) (hn : ¬ (2 ≤ n ∧ n ≤ 40)) :
    Calls Try.prog 18 #[.slice p n cap, .agg #[.int .i64 N, .int .i64 D]] w fun e w' => e = .returned medNo ∧ Below w.heap.size w w' := by
  have a0 := below_alloc (below_alloc (Below.refl w.heap.size w) (.cells #[.int .i64 N, .int .i64 D] 24)) (.cells #[.int .i64 0, .int .i64 0, .int .i64 0, .int .i64 0] 51)
  have A0 := Lib.hid a0
  have HW := Lib.hid (fun W => within_no (n : Int) 2 40 W (by omega))
  clear a0 hn
  go_enter Try.func18, Try.ntmps18
  go_wp2_with (go_at_call 56; refine (HW.out _).mono ?_; rintro e w1 ⟨rfl, rfl⟩)
  exact bodyPost_ret (v := medNo) (by simp [results, Try.results18, go_sem, medNo]) rfl ⟨rfl, A0.out⟩
set_option maxRecDepth 100000 in
set_option maxHeartbeats 1000000 in
theorem median_part (p : Option Addr) (n cap : Nat) (N D : Int) (w : World) (hn : 2 ≤ n ∧ n ≤ 40) (hN : I64 N) (hD : I64 D) (hp : partB N D = false) :
    Calls Try.prog 18 #[.slice p n cap, .agg #[.int .i64 N, .int .i64 D]] w fun e w' => e = .returned medNo ∧ Below w.heap.size w w' := by
  have a0 := below_alloc (below_alloc (Below.refl w.heap.size w) (.cells #[.int .i64 N, .int .i64 D] 24)) (.cells #[.int .i64 0, .int .i64 0, .int .i64 0, .int .i64 0] 51)
  have HF := Lib.hid (show Four ((w.alloc (.cells #[.int .i64 N, .int .i64 D] 24)).alloc (.cells #[.int .i64 0, .int .i64 0, .int .i64 0, .int .i64 0] 51)) (w.heap.size + 1) from ⟨by simp, by simp, by simp, by simp, by simp, by simp, by simp, by simp⟩)
  have A0 := Lib.hid a0
  have HW := Lib.hid (fun W => within_yes (n : Int) 2 40 W (by omega))
  have HP := Lib.hid (isPart_any N D ((w.alloc (.cells #[.int .i64 N, .int .i64 D] 24)).alloc (.cells #[.int .i64 0, .int .i64 0, .int .i64 0, .int .i64 0] 51)) hN hD)
  rw [hp] at HP
  clear a0 hp
  go_enter Try.func18, Try.ntmps18
  go_wp2_with (first | (go_at_call 56; refine (HW.out _).mono ?_; rintro e w1 ⟨rfl, rfl⟩) | (go_at_call 61; refine HP.out.mono ?_; rintro e w2 ⟨rfl, hb2⟩; have hf := HF.out.below hb2; have HB := Lib.hid (A0.out.trans (hb2.mono A0.out.size)); obtain ⟨y0, y1, y2, y3, f0, f1, f2, f3⟩ := id hf; have c0 := hf.s0 (.int .i64 0); have c1 := hf.s1 (.int .i64 0) (.int .i64 0); have c2 := hf.s2 (.int .i64 0) (.int .i64 0) (.int .i64 0); have c3 := hf.s3 (.int .i64 0) (.int .i64 0) (.int .i64 0) (.int .i64 0); clear hf hb2))
  exact bodyPost_ret (v := medNo) (by simp [results, Try.results18, go_sem, c0, c1, c2, c3, medNo]) rfl ⟨rfl, below4 _ _ _ _ HB.out (by omega)⟩
end Go.Proofs.Ythkndjkgokojmaa
