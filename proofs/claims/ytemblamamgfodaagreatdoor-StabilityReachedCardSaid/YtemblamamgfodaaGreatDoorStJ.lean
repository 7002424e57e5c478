/- Contracts of layer 3: a cover's chance. -/
import Derived.Test.YtemblamamgfodaaGreatDoorStN
namespace Go.Proofs.YtemblamamgfodaaGreatDoor
open Go Go.RowKit Go.Shelf
def chW (n : Nat) : Nat → Int
  | 0 => 1
  | i + 1 => (chW n i * ((n : Int) - i)).tdiv (i + 1)
def chF (n : Nat) : Nat → Int
  | 0 => 0
  | i + 1 => chF n i + chW n i
def chB : Bool := (List.range 41).all fun n => (List.range 21).all fun i => decide (0 ≤ chW n i) && decide (chW n i ≤ 2000000000000) && decide (0 ≤ chF n i) && decide (chF n i ≤ 2000000000000) && (decide (n < 2 * i) || decide (2 * chF n i ≤ 2 ^ n))
theorem chB_yes : chB = true := by kernel_rfl
theorem ch_bd {n i : Nat} (hn : n ≤ 40) (hi : i ≤ 20) : (0 ≤ chW n i ∧ chW n i ≤ 2000000000000) ∧ (0 ≤ chF n i ∧ chF n i ≤ 2000000000000) := by
  have h := List.all_eq_true.1 chB_yes n (by simp; omega)
  have h := List.all_eq_true.1 h i (by simp; omega)
  simp only [Bool.and_eq_true, decide_eq_true_eq] at h
  exact ⟨⟨h.1.1.1.1, h.1.1.1.2⟩, h.1.1.2, h.1.2⟩
def chN (n k : Nat) : Int := 2 ^ n - 2 * chF n k
theorem pow_bd {n : Nat} (hn : n ≤ 40) : 1 ≤ (2 : Int) ^ n ∧ (2 : Int) ^ n ≤ 1099511627776 := by
  have h : (List.range 41).all (fun n => decide (1 ≤ (2 : Int) ^ n) && decide ((2 : Int) ^ n ≤ 1099511627776)) = true := by kernel_rfl
  have h := List.all_eq_true.1 h n (by simp; omega)
  simpa using h
set_option maxRecDepth 100000 in
set_option maxHeartbeats 1000000 in
theorem chance_any (n k : Nat) (w : World) (hn : 2 ≤ n ∧ n ≤ 40) (hk : 1 ≤ k ∧ 2 * k ≤ n) :
    Calls Tryz.prog 88 #[.int .i64 n, .int .i64 k] w fun e w' => e = .returned (.agg #[.int .i64 (lowN (chN n k) (2 ^ n)), .int .i64 (lowD (chN n k) (2 ^ n))]) ∧ Below w.heap.size w w' := by
  have HB := Lib.hid (below_alloc (Below.refl w.heap.size w) (.cells #[.int .i64 0, .int .i64 0] 58))
  have HP := Lib.hid (pow_bd hn.2)
  go_enter Tryz.func88, Tryz.ntmps88
  go_wp2
  go_loop [5, 6, 9] (fun a b i => ∃ q : Nat, q ≤ k ∧ a = .int .i64 (chF n q) ∧ b = .int .i64 (chW n q) ∧ i = .int .i64 (q : Int)) (fun _ _ i => k - (intOf i).toNat)
  case atStart => exact ⟨0, Nat.zero_le _, rfl, rfl, rfl⟩
  case round =>
    obtain ⟨q, hq, rfl, rfl, rfl⟩ := hrel
    by_cases hlt : q < k
    · obtain ⟨⟨b1, b2⟩, b3, b4⟩ := ch_bd (n := n) (i := q) hn.2 (by omega)
      obtain ⟨⟨b5, b6⟩, b7, b8⟩ := ch_bd (n := n) (i := q + 1) hn.2 (by omega)
      have hki : (q : Int) < (k : Int) := by omega
      have hm := mul_bd2 (x := chW n q) (y := (n : Int) - q) (a := 2000000000000) (b := 40) ⟨b1, b2⟩ (by omega)
      have w1 : IntKind.i64.wrap (chW n q * ((n : Int) - q)) = chW n q * ((n : Int) - q) := IntWalk.i64_in _ (by omega)
      have w2 : IntKind.i64.wrap ((chW n q * ((n : Int) - q)).tdiv ((q : Int) + 1)) = chW n (q + 1) := by rw [show (chW n q * ((n : Int) - q)).tdiv ((q : Int) + 1) = chW n (q + 1) from rfl]; exact IntWalk.i64_in _ (by omega)
      have w3 : IntKind.i64.wrap (chF n q + chW n q) = chF n (q + 1) := IntWalk.i64_in _ (show _ ≤ chF n (q + 1) ∧ chF n (q + 1) ≤ _ by omega)
      have w4 : IntKind.i64.wrap ((n : Int) - q) = (n : Int) - q := IntWalk.i64_in _ (by omega)
      have w5 : IntKind.i64.wrap ((q : Int) + 1) = (q : Int) + 1 := IntWalk.i64_in _ (by omega)
      have hne : ((q : Int) + 1 == 0) = false := by simp; omega
      clear hm
      go_wp2
      go_round
      case rel => exact ⟨q + 1, by omega, rfl, rfl, by go_num⟩
      case measure => simp [intOf]; omega
    · obtain rfl : q = k := by omega
      have hki : ¬ ((q : Int) < (q : Int)) := by omega
      obtain ⟨⟨b1, b2⟩, b3, b4⟩ := ch_bd (n := n) (i := q) hn.2 (by omega)
      have p := HP.out
      have v1 : IntKind.i64.wrap ((2 : Int) ^ n) = 2 ^ n := IntWalk.i64_in _ (by omega)
      have v2 : IntKind.i64.wrap (2 * chF n q) = 2 * chF n q := IntWalk.i64_in _ (by omega)
      have v3 : IntKind.i64.wrap (2 ^ n - 2 * chF n q) = chN n q := IntWalk.i64_in _ (by omega)
      have hcn : chN n q = 2 ^ n - 2 * chF n q := rfl
      have HLO := Lib.hid (fun W' => lowest_any (chN n q) (2 ^ n) W' (by omega) (by omega))
      clear hcn
      go_wp2
      refine (wpIn_wide (n := 9)).1 ?_
      refine wpIn_region_pre_lit 7 2 rfl (by kernel_rfl) (by kernel_rfl) (by kernel_rfl) (by kernel_rfl) rfl ?_
      simp only [List.take_succ_cons, List.take_zero]
      repeat (refine wpQuietIn_step (by first | exact fun _ _ _ _ => trivial | quiet_asked_in) (fun KQ hKQ => ?_); go_simp; first | (refine hKQ _ ?_; clear hKQ KQ) | (apply Exists.intro; refine ⟨fun _ => ?_, hKQ _ ?_⟩; (fail); clear hKQ KQ))
      refine wpQuietIn_nil ?_
      intro _ hwq1
      obtain ⟨nq, hwq2⟩ := hwq1
      subst hwq2
      simp only [List.replicate_succ, List.replicate_zero, List.cons_append, List.nil_append]
      refine wpAnyIn_ready (rs := [7]) (by kernel_rfl) (by simp) (AllReadyIn.cons rfl (fun K' hKK => ?_) AllReadyIn.nil)
      go_simp
      refine ⟨trivial, (callsIn_wide.2 (HLO.out _)).mono ?_⟩
      rintro e w3 ⟨rfl, hb⟩
      have r0 : w3.cell? ⟨w.heap.size, 0, none⟩ = some (.int .i64 0) := cell_below hb (by simp [go_sem])
      have r1 : w3.cell? ⟨w.heap.size, 1, none⟩ = some (.int .i64 0) := cell_below hb (by simp [go_sem])
      have q0 : w3.frozen? ⟨w.heap.size, 0, none⟩ = false := (hb.frozen (p := ⟨w.heap.size, 0, none⟩) (by simp)).trans (by simp [go_sem])
      have q1 : w3.frozen? ⟨w.heap.size, 1, none⟩ = false := (hb.frozen (p := ⟨w.heap.size, 1, none⟩) (by simp)).trans (by simp [go_sem])
      obtain ⟨z0, z1⟩ := set2 (.int .i64 (lowN (chN n q) (2 ^ n))) (.int .i64 (lowD (chN n q) (2 ^ n))) r0 r1
      have hfin := ((below_drewN HB.out nq).trans (hb.mono (below_drewN HB.out nq).size)).setCell (p := ⟨w.heap.size, 0, none⟩) (Nat.le_refl _) (.int .i64 (lowN (chN n q) (2 ^ n)))
      have HF := Lib.hid (hfin.setCell (p := ⟨w.heap.size, 1, none⟩) (Nat.le_refl _) (.int .i64 (lowD (chN n q) (2 ^ n))))
      clear hfin hb
      go_simp
      refine hKK _ _ ?_
      clear hKK
      refine wpAnyIn_ready (rs := [8]) (by kernel_rfl) (by simp) (AllReadyIn.cons rfl (fun K' hKK => ?_) AllReadyIn.nil)
      go_simp
      refine hKK _ _ ?_
      clear hKK
      refine wpAnyIn_done (by kernel_rfl) ?_ _
      go_wp2
      exact bodyPost_ret (v := .agg #[.int .i64 (lowN (chN n q) (2 ^ n)), .int .i64 (lowD (chN n q) (2 ^ n))]) (by simp [results, Tryz.results88, go_sem, z0, z1]) rfl ⟨rfl, HF.out⟩
end Go.Proofs.YtemblamamgfodaaGreatDoor
