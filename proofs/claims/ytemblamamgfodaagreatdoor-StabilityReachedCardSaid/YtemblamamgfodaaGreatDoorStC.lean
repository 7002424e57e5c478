/- Contracts of layer 3: what the best line leaves; Fit and Rest. -/
import Derived.Test.YtemblamamgfodaaGreatDoorStB
import Derived.Test.YtemblamamgfodaaGreatDoorStBest
namespace Go.Proofs.YtemblamamgfodaaGreatDoor
open Go Go.RowKit
def restD (n : Int) : Int := n * (n * n - 1)
theorem sq_le (v B : Int) (h : -B ≤ v ∧ v ≤ B) : 0 ≤ v * v ∧ v * v ≤ B * B := by
  refine ⟨sq_nonneg v, ?_⟩
  have h1 := Int.mul_nonneg (show 0 ≤ B - v by omega) (show 0 ≤ B + v by omega)
  have h2 : (B - v) * (B + v) = B * B - v * v := by grind
  omega
theorem sqL_bd {l : List Int} (hp : phasesOk l = true) (k : Nat) : 0 ≤ sumF (fun i => atL l i * atL l i) k ∧ sumF (fun i => atL l i * atL l i) k ≤ 1000000000000 * k := by
  refine ⟨sumF_nonneg _ _ fun _ _ => sq_nonneg _, ?_⟩
  exact (sumF_bd (fun i => atL l i * atL l i) 1000000000000 k fun i _ => by
    have := sq_le (atL l i) 1000000 (atL_bd hp i)
    omega).2
structure RestNums (n Q S M : Int) : Prop where
  nn : 0 ≤ n * n ∧ n * n ≤ 2304
  nq : 0 ≤ n * Q ∧ n * Q ≤ 2304000000000000
  ss : 0 ≤ S * S ∧ S * S ≤ 2304000000000000
  a : 0 ≤ (n * n - 1) * (n * Q - S * S) ∧ (n * n - 1) * (n * Q - S * S) ≤ 5400000000000000000
  ns : -2300000000 ≤ (n - 1) * S ∧ (n - 1) * S ≤ 2300000000
  t : 0 ≤ 3 * (2 * M - (n - 1) * S) * (2 * M - (n - 1) * S) ∧ 3 * (2 * M - (n - 1) * S) * (2 * M - (n - 1) * S) ≤ (n * n - 1) * (n * Q - S * S)
  d : 1 ≤ restD n ∧ restD n ≤ 200000
theorem restNums {l : List Int} (hp : phasesOk l = true) (h2 : 2 ≤ l.length) (h48 : l.length ≤ 48) : RestNums l.length (sqL l) (totalL l) (momL l) := by
  have hl := left_nonneg (atL l) l.length h2
  have hq := sqL_bd hp l.length
  have hs : -48000000 ≤ totalL l ∧ totalL l ≤ 48000000 := by
    have := sumF_bd (atL l) 1000000 l.length (fun i _ => atL_bd hp i)
    unfold totalL; omega
  have hss := sq_le (totalL l) 48000000 hs
  have hk := kk_pos l.length h2
  have hnn := sq_le (l.length : Int) 48 ⟨by omega, by omega⟩
  have hnq := mul_bd' (sqL l) (l.length : Int) 48000000000000 48 ⟨by omega, by omega⟩ ⟨by unfold sqL; omega, by unfold sqL; omega⟩
  have hnq0 : 0 ≤ (l.length : Int) * sqL l := Int.mul_nonneg (by omega) hq.1
  have hns := mul_bd' (totalL l) ((l.length : Int) - 1) 48000000 47 ⟨by omega, by omega⟩ hs
  have hsq0 := sq_nonneg (tiltS l.length (totalL l) (momL l))
  have e : left (atL l) l.length = ((l.length : Int) * l.length - 1) * ((l.length : Int) * sqL l - totalL l * totalL l) - 3 * tiltS l.length (totalL l) (momL l) * tiltS l.length (totalL l) (momL l) := rfl
  have e3 : 3 * tiltS l.length (totalL l) (momL l) * tiltS l.length (totalL l) (momL l) = 3 * (tiltS l.length (totalL l) (momL l) * tiltS l.length (totalL l) (momL l)) := Int.mul_assoc _ _ _
  have ha : ((l.length : Int) * l.length - 1) * ((l.length : Int) * sqL l - totalL l * totalL l) ≤ ((l.length : Int) * l.length - 1) * 2304000000000000 := Int.mul_le_mul_of_nonneg_left (by omega) (by omega)
  have hdd : restD l.length ≤ 48 * 2304 := by
    unfold restD
    exact Int.mul_le_mul (by omega) (by omega) (by omega) (by omega)
  have hd1 : 0 < restD l.length := Int.mul_pos (by omega) hk
  refine ⟨by omega, by omega, by omega, by omega, by omega, ?_, by omega⟩
  show 0 ≤ 3 * tiltS l.length (totalL l) (momL l) * tiltS l.length (totalL l) (momL l) ∧ 3 * tiltS l.length (totalL l) (momL l) * tiltS l.length (totalL l) (momL l) ≤ _
  omega
theorem Two.s1 {X : World} {b : Nat} {x : Value} (u v : Value) (h : X.cell? ⟨b, 1, none⟩ = some x) : ((X.setCell ⟨b, 0, none⟩ u).setCell ⟨b, 1, none⟩ v).cell? ⟨b, 1, none⟩ = some v := two_c1 u v h
/-- a pair's box for a result -/
structure Res (X : World) (b : Nat) : Prop where
  c0 : X.cell? ⟨b, 0, none⟩ = some (.int .i64 0)
  c1 : X.cell? ⟨b, 1, none⟩ = some (.int .i64 0)
  f0 : X.frozen? ⟨b, 0, none⟩ = false
  f1 : X.frozen? ⟨b, 1, none⟩ = false
theorem Res.below {X Y : World} {b : Nat} (h : Res X b) (hb : Below X.heap.size X Y) : Res Y b :=
  ⟨cell_below hb h.c0, cell_below hb h.c1, (hb.frozen (p := ⟨b, 0, none⟩) (cell_lt h.c0)).trans h.f0, (hb.frozen (p := ⟨b, 1, none⟩) (cell_lt h.c0)).trans h.f1⟩
theorem below2 {w X : World} {b : Nat} (u v : Value) (h : Below w.heap.size w X) (hb : w.heap.size ≤ b) : Below w.heap.size w ((X.setCell ⟨b, 0, none⟩ u).setCell ⟨b, 1, none⟩ v) := (h.setCell hb _).setCell hb _
def restV (l : List Int) : Int := left (atL l) l.length
set_option maxRecDepth 100000 in
set_option maxHeartbeats 2000000 in
theorem rest_any (tau : Int) (l : List Int) (p : Option Addr) (cap : Nat) (w : World) (hs : SerIn w l p) (hp : phasesOk l = true) (h2 : 2 ≤ l.length) (h48 : l.length ≤ 48) :
    Calls Tryz.prog 58 #[.agg #[.int .i64 tau, .slice p l.length cap]] w fun e w' => e = .returned (.agg #[.int .i64 (lowN (restV l) (restD l.length)), .int .i64 (lowD (restV l) (restD l.length))]) ∧ Below w.heap.size w w' := by
  have hrn := restNums hp h2 h48
  have HV := Lib.hid (show -9223372036854775807 ≤ restV l ∧ restV l ≤ 9223372036854775807 by
    have h0 := left_nonneg (atL l) l.length h2
    have ha := hrn.a
    have ht := hrn.t
    have e : restV l = ((l.length : Int) * l.length - 1) * ((l.length : Int) * sqL l - totalL l * totalL l) - 3 * (2 * momL l - ((l.length : Int) - 1) * totalL l) * (2 * momL l - ((l.length : Int) - 1) * totalL l) := rfl
    unfold restV at e ⊢
    omega)
  have HD := Lib.hid (show 1 ≤ restD l.length ∧ restD l.length ≤ 9223372036854775807 by have := hrn.d; omega)
  have a0 := below_alloc (below_alloc (Below.refl w.heap.size w) (.cells #[.int .i64 tau, .slice p l.length cap] 56)) (.cells #[.int .i64 0, .int .i64 0] 58)
  have x0 : ((w.alloc (.cells #[.int .i64 tau, .slice p l.length cap] 56)).alloc (.cells #[.int .i64 0, .int .i64 0] 58)).cell? ⟨w.heap.size, 0, none⟩ = some (.int .i64 tau) := by simp
  have x1 : ((w.alloc (.cells #[.int .i64 tau, .slice p l.length cap] 56)).alloc (.cells #[.int .i64 0, .int .i64 0] 58)).cell? ⟨w.heap.size, 1, none⟩ = some (.slice p l.length cap) := by simp
  have HR := Lib.hid (show Res ((w.alloc (.cells #[.int .i64 tau, .slice p l.length cap] 56)).alloc (.cells #[.int .i64 0, .int .i64 0] 58)) (w.heap.size + 1) from ⟨by simp, by simp, by simp, by simp⟩)
  have HS := Lib.hid (hs.below a0)
  have HP := Lib.hid hp
  have A0 := Lib.hid a0
  have HQB := Lib.hid (fun k => sqL_bd hp k)
  have HAB := Lib.hid (fun i => atL_bd hp i)
  obtain ⟨⟨nn0, nn1⟩, ⟨nq0, nq1⟩, ⟨ss0, ss1⟩, ⟨aa0, aa1⟩, ⟨ns0, ns1⟩, ⟨tt0, tt1⟩, ⟨dd0, dd1⟩⟩ := hrn
  unfold restD at dd0 dd1
  obtain ⟨mb0, mb1⟩ := mom_bd hp l.length (by omega)
  have mb0' : -16384000000 ≤ momL l := mb0
  have mb1' : momL l ≤ 16384000000 := mb1
  have hl : (l.length : Int) ≤ 48 := by omega
  have hl2 : (2 : Int) ≤ (l.length : Int) := by omega
  clear hs hp a0 mb0 mb1
  go_enter Tryz.func58, Tryz.ntmps58
  go_wp2
  generalize (w.alloc (.cells #[.int .i64 tau, .slice p l.length cap] 56)).alloc (.cells #[.int .i64 0, .int .i64 0] 58) = W1 at *
  go_loop [4, 16] (fun t i => ∃ k : Nat, k ≤ l.length ∧ i = .int .i64 k ∧ t = .int .i64 (sumF (fun i => atL l i * atL l i) k)) (fun _ i => l.length - (intOf i).toNat)
  case atStart => exact ⟨0, Nat.zero_le _, rfl, rfl⟩
  case round =>
    obtain ⟨k, hk, rfl, rfl⟩ := hrel
    by_cases hlt : k < l.length
    · obtain ⟨b, o, rfl, hc⟩ := HS.out.2.resolve_left (by omega)
      have y0 := hc k hlt
      rw [atL_get l k hlt] at y0
      have hkl : (k : Int) < (l.length : Int) := by omega
      have hk0 : (0 : Int) ≤ (k : Int) := by omega
      obtain ⟨qb0, qb1⟩ := HQB.out k
      obtain ⟨vb0, vb1⟩ := HAB.out k
      obtain ⟨vv0, vv1⟩ := sq_le (atL l k) 1000000 ⟨vb0, vb1⟩
      clear hc
      go_wp2
      go_round
      case rel => exact ⟨k + 1, by omega, by go_num, rfl⟩
      case measure => simp [intOf]; omega
    · obtain rfl : k = l.length := by omega
      have hsq : sumF (fun i => atL l i * atL l i) l.length = sqL l := rfl
      rw [hsq]
      clear hsq
      go_wp2_with (go_at_call 109; refine (sum_any l p cap 1000000 _ HS.out HAB.out (by omega)).mono ?_; rintro e w' ⟨rfl, rfl⟩)
      refine (moments_any tau l p cap _ HS.out HP.out (by omega)).mono ?_
      rintro e w2 ⟨rfl, hb2⟩
      have HB2 := Lib.hid (A0.out.trans (hb2.mono A0.out.size))
      have HR2 := Lib.hid (HR.out.below hb2)
      clear hb2 x0 x1
      go_wp2_with fail
      refine (lowest_any (restV l) (restD l.length) _ HV.out HD.out).mono ?_
      rintro e w3 ⟨rfl, hb3⟩
      have HB3 := Lib.hid (HB2.out.trans (hb3.mono HB2.out.size))
      obtain ⟨z0, z1, f0, f1⟩ := HR2.out.below hb3
      have hz := cell_lt z0
      clear hb3
      have c0 := two_c0 (.int .i64 (lowN (restV l) (restD l.length))) z0
      have c1 := two_c1 (.int .i64 (lowN (restV l) (restD l.length))) (.int .i64 (lowD (restV l) (restD l.length))) z1
      go_wp2
      refine bodyPost_ret (v := .agg #[.int .i64 (lowN (restV l) (restD l.length)), .int .i64 (lowD (restV l) (restD l.length))]) (by simp [results, Tryz.results58, go_sem, c0, c1]) rfl ?_
      exact ⟨rfl, below2 _ _ HB3.out (by omega)⟩
end Go.Proofs.YtemblamamgfodaaGreatDoor
