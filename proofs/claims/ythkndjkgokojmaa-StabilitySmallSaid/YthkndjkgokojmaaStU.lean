/- Contracts of layer 3: Chance. -/
import Derived.Test.YthkndjkgokojmaaStJ
namespace Go.Proofs.Ythkndjkgokojmaa
open Go Go.RowKit Go.Shelf
def chOk (n k : Int) : Prop := (2 ≤ n ∧ n ≤ 40) ∧ 1 ≤ k ∧ k ≤ n / 2
instance (n k : Int) : Decidable (chOk n k) := by unfold chOk; infer_instance
def chanceE (n k : Int) : VarE := if chOk n k then ⟨lowN (chN n.toNat k.toNat) (2 ^ n.toNat), lowD (chN n.toNat k.toNat) (2 ^ n.toNat), 0⟩ else ⟨0, 0, 1⟩
set_option maxRecDepth 100000 in
set_option maxHeartbeats 1000000 in
theorem Chance_any (n k : Int) (w : World) :
    Calls Try.prog 15 #[.int .i64 n, .int .i64 k] w fun e w' => e = .returned (varVal (chanceE n k)) ∧ Below w.heap.size w w' := by
  have HB := Lib.hid (below_alloc (Below.refl w.heap.size w) (.cells #[.int .i64 0, .int .i64 0] 24))
  by_cases hn : 2 ≤ n ∧ n ≤ 40
  · have hq : IntKind.i64.wrap (n.tdiv 2) = n / 2 := IntWalk.i64_quo n 2 (by omega)
    have hq2 : n.tdiv 2 = n / 2 := by rw [IntWalk.i64_in _ (by have := tdiv_bd n 2 (by omega) (by omega) (by omega); omega)] at hq; exact hq
    by_cases hk : 1 ≤ k ∧ k ≤ n / 2
    · obtain ⟨N, rfl⟩ : ∃ N : Nat, n = N := ⟨n.toNat, by omega⟩
      obtain ⟨K, rfl⟩ : ∃ K : Nat, k = K := ⟨k.toNat, by omega⟩
      have HE := Lib.hid (show chanceE N K = ⟨lowN (chN N K) (2 ^ N), lowD (chN N K) (2 ^ N), 0⟩ from if_pos ⟨hn, hk⟩)
      have HW1 := Lib.hid (fun W => within_yes (N : Int) 2 40 W hn)
      have HW2 := Lib.hid (fun W => within_yes (K : Int) 1 ((N : Int) / 2) W hk)
      have HC := Lib.hid (fun W => chance_any N K W (by omega) (by omega))
      rw [HE.out]
      clear hk hq2
      go_enter Try.func15, Try.ntmps15
      go_wp2_with (first | (go_at_call 56; refine (HW1.out _).mono ?_; clear HW1; rintro e w1 ⟨rfl, rfl⟩) | (go_at_call 56; refine (HW2.out _).mono ?_; rintro e w1 ⟨rfl, rfl⟩))
      refine (HC.out _).mono ?_
      rintro e w2 ⟨rfl, hb⟩
      have r0 : w2.cell? ⟨w.heap.size, 0, none⟩ = some (.int .i64 0) := cell_below hb (by simp)
      have r1 : w2.cell? ⟨w.heap.size, 1, none⟩ = some (.int .i64 0) := cell_below hb (by simp)
      have q0 : w2.frozen? ⟨w.heap.size, 0, none⟩ = false := (hb.frozen (p := ⟨w.heap.size, 0, none⟩) (by simp)).trans (by simp)
      have q1 : w2.frozen? ⟨w.heap.size, 1, none⟩ = false := (hb.frozen (p := ⟨w.heap.size, 1, none⟩) (by simp)).trans (by simp)
      obtain ⟨z0, z1⟩ := set2 (.int .i64 (lowN (chN N K) (2 ^ N))) (.int .i64 (lowD (chN N K) (2 ^ N))) r0 r1
      have HG := Lib.hid (((HB.out.trans (hb.mono HB.out.size)).setCell (p := ⟨w.heap.size, 0, none⟩) (Nat.le_refl _) (.int .i64 (lowN (chN N K) (2 ^ N)))).setCell (p := ⟨w.heap.size, 1, none⟩) (Nat.le_refl _) (.int .i64 (lowD (chN N K) (2 ^ N))))
      clear hb
      go_wp2
      exact bodyPost_ret (v := .tuple #[.agg #[.int .i64 (lowN (chN N K) (2 ^ N)), .int .i64 (lowD (chN N K) (2 ^ N))], .int .i64 0]) (by simp [results, Try.results15, go_sem, z0, z1]) rfl ⟨rfl, HG.out⟩
    · have HE := Lib.hid (show chanceE n k = ⟨0, 0, 1⟩ from if_neg (fun h => hk h.2))
      have HW1 := Lib.hid (fun W => within_yes n 2 40 W hn)
      have HW2 := Lib.hid (fun W => within_no k 1 (n / 2) W hk)
      rw [HE.out]
      clear hk hq2
      go_enter Try.func15, Try.ntmps15
      go_wp2_with (first | (go_at_call 56; refine (HW1.out _).mono ?_; clear HW1; rintro e w1 ⟨rfl, rfl⟩) | (go_at_call 56; refine (HW2.out _).mono ?_; rintro e w1 ⟨rfl, rfl⟩))
      exact bodyPost_ret (v := .tuple #[.agg #[.int .i64 0, .int .i64 0], .int .i64 1]) (by simp [results, Try.results15, go_sem]) rfl ⟨rfl, HB.out⟩
  · have HE := Lib.hid (show chanceE n k = ⟨0, 0, 1⟩ from if_neg (fun h => hn h.1))
    have HW1 := Lib.hid (fun W => within_no n 2 40 W hn)
    rw [HE.out]
    clear hn
    go_enter Try.func15, Try.ntmps15
    go_wp2_with (go_at_call 56; refine (HW1.out _).mono ?_; rintro e w1 ⟨rfl, rfl⟩)
    exact bodyPost_ret (v := .tuple #[.agg #[.int .i64 0, .int .i64 0], .int .i64 1]) (by simp [results, Try.results15, go_sem]) rfl ⟨rfl, HB.out⟩
end Go.Proofs.Ythkndjkgokojmaa
