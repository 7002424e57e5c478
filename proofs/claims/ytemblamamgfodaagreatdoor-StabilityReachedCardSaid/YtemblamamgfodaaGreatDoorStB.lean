/- Contracts of layer 3: Check, and the line that fits best. -/
import Derived.Test.YtemblamamgfodaaGreatDoorStA
namespace Go.Proofs.YtemblamamgfodaaGreatDoor
open Go Go.RowKit
set_option maxRecDepth 100000 in
set_option maxHeartbeats 1000000 in
theorem check_any (tau : Int) (l : List Int) (p : Option Addr) (cap : Nat) (w : World) (hs : SerIn w l p) :
    Calls Tryz.prog 108 #[.agg #[.int .i64 tau, .slice p l.length cap]] w fun e w' => e = .returned (.int .i64 (checkSt tau l)) ∧ Below w.heap.size w w' := by
  have hl := hs.1
  unfold maxLen at hl
  have a0 := below_alloc (Below.refl w.heap.size w) (.cells #[.int .i64 tau, .slice p l.length cap] 56)
  have x0 : (w.alloc (.cells #[.int .i64 tau, .slice p l.length cap] 56)).cell? ⟨w.heap.size, 0, none⟩ = some (.int .i64 tau) := by simp
  have x1 : (w.alloc (.cells #[.int .i64 tau, .slice p l.length cap] 56)).cell? ⟨w.heap.size, 1, none⟩ = some (.slice p l.length cap) := by simp
  have HS := Lib.hid (hs.below a0)
  have A0 := Lib.hid a0
  clear hs a0
  by_cases h128 : 128 < l.length
  · have HF := Lib.hid (show 2 = checkSt tau l by unfold checkSt; rw [if_pos h128])
    have h128i : (128 : Int) < (l.length : Int) := by omega
    go_enter Tryz.func108, Tryz.ntmps108
    go_wp2
    go_ret
    exact ⟨ret_i64 HF.out, A0.out⟩
  · have hc : checkSt tau l = if (1 ≤ tau ∧ tau ≤ 1000) ∧ phasesOk l = true then 0 else 6 := by unfold checkSt; rw [if_neg h128]
    have HC := Lib.hid hc
    have h128i : (l.length : Int) ≤ 128 := by omega
    clear hc
    by_cases ht : 1 ≤ tau ∧ tau ≤ 1000
    · go_enter Tryz.func108, Tryz.ntmps108
      go_wp2_with (go_at_call 27; refine (within_yes _ _ _ _ ht).mono ?_; rintro e w' ⟨rfl, rfl⟩)
      generalize w.alloc (.cells #[.int .i64 tau, .slice p l.length cap] 56) = W1 at *
      go_loop [16] (fun i => ∃ k : Nat, k ≤ l.length ∧ i = .int .i64 k ∧ ∀ j (h : j < l.length), j < k → -1000000 ≤ l[j] ∧ l[j] ≤ 1000000) (fun i => l.length - (intOf i).toNat)
      case atStart => exact ⟨0, Nat.zero_le _, rfl, fun j _ h => by omega⟩
      case round =>
        obtain ⟨k, hk, rfl, hall⟩ := hrel
        have HALL := Lib.hid hall
        clear hall
        by_cases hlt : k < l.length
        · obtain ⟨b, o, rfl, hcc⟩ := HS.out.2.resolve_left (by omega)
          have y0 := hcc k hlt
          have hkl : (k : Int) < (l.length : Int) := by omega
          have hk0 : (0 : Int) ≤ (k : Int) := by omega
          have HNO := Lib.hid (phasesOk_no k hlt)
          have HYES := Lib.hid (fun (h : -1000000 ≤ l[k] ∧ l[k] ≤ 1000000) (j : Nat) (hj : j < l.length) (hjk : j < k + 1) => show -1000000 ≤ l[j] ∧ l[j] ≤ 1000000 by
            by_cases e : j = k
            · subst e; exact h
            · exact HALL.out j hj (by omega))
          clear hcc
          generalize l[k] = v at *
          by_cases hv : -1000000 ≤ v ∧ v ≤ 1000000
          · go_wp2_with (go_at_call 27; refine (within_yes _ _ _ _ hv).mono ?_; rintro e w' ⟨rfl, rfl⟩)
            go_round
            case rel => exact ⟨k + 1, by omega, by go_num, HYES.out hv⟩
            case measure => simp [intOf]; omega
          · have HF := Lib.hid (show 6 = checkSt tau l by rw [HC.out, HNO.out hv, if_neg (by simp)])
            go_wp2_with (go_at_call 27; refine (within_no _ _ _ _ hv).mono ?_; rintro e w' ⟨rfl, rfl⟩)
            go_ret
            exact ⟨ret_i64 HF.out, A0.out⟩
        · obtain rfl : k = l.length := by omega
          have HF := Lib.hid (show 0 = checkSt tau l by
            have hall : phasesOk l = true := List.all_eq_true.2 fun x hx => by
              obtain ⟨j, hj, rfl⟩ := List.getElem_of_mem hx
              simpa using HALL.out j hj hj
            rw [HC.out, if_pos ⟨ht, hall⟩])
          go_wp2
          go_ret
          exact ⟨ret_i64 HF.out, A0.out⟩
    · have HF := Lib.hid (show 6 = checkSt tau l by rw [HC.out, if_neg (fun h => ht h.1)])
      go_enter Tryz.func108, Tryz.ntmps108
      go_wp2_with (go_at_call 27; refine (within_no _ _ _ _ ht).mono ?_; rintro e w' ⟨rfl, rfl⟩)
      go_ret
      exact ⟨ret_i64 HF.out, A0.out⟩
def fitErr (tau : Int) (l : List Int) : Int := if checkSt tau l = 0 then (if l.length < 2 then 4 else 0) else checkSt tau l
theorem checkFit_any (tau : Int) (l : List Int) (p : Option Addr) (cap : Nat) (w : World) (hs : SerIn w l p) :
    Calls Tryz.prog 57 #[.agg #[.int .i64 tau, .slice p l.length cap]] w fun e w' => e = .returned (.int .i64 (fitErr tau l)) ∧ Below w.heap.size w w' := by
  have hl := hs.1
  unfold maxLen at hl
  have a0 := below_alloc (Below.refl w.heap.size w) (.cells #[.int .i64 tau, .slice p l.length cap] 56)
  have x0 : (w.alloc (.cells #[.int .i64 tau, .slice p l.length cap] 56)).cell? ⟨w.heap.size, 0, none⟩ = some (.int .i64 tau) := by simp
  have x1 : (w.alloc (.cells #[.int .i64 tau, .slice p l.length cap] 56)).cell? ⟨w.heap.size, 1, none⟩ = some (.slice p l.length cap) := by simp
  have HC := Lib.hid (check_any tau l p cap _ (hs.below a0))
  have X1 := Lib.hid x1
  have A0 := Lib.hid a0
  clear hs a0 x0 x1
  have hfe : fitErr tau l = if checkSt tau l = 0 then (if l.length < 2 then 4 else 0) else checkSt tau l := rfl
  by_cases h0 : checkSt tau l = 0
  · rw [if_pos h0] at hfe
    by_cases h2 : l.length < 2
    · rw [if_pos h2] at hfe
      have HF := Lib.hid hfe
      have H0 := Lib.hid h0
      have h2i : (l.length : Int) < 2 := by omega
      clear hfe h0
      go_enter Tryz.func57, Tryz.ntmps57
      go_wp2_with fail
      refine HC.out.mono ?_
      rintro e w1 ⟨rfl, hb⟩
      rw [H0.out]
      have y1 := cell_below hb X1.out
      have hz := cell_lt y1
      have HB := Lib.hid (A0.out.trans (hb.mono A0.out.size))
      clear hb
      go_wp2
      go_ret
      exact ⟨ret_i64 HF.out.symm, HB.out⟩
    · rw [if_neg h2] at hfe
      have HF := Lib.hid hfe
      have H0 := Lib.hid h0
      have h2i : ¬ (l.length : Int) < 2 := by omega
      clear hfe h0
      go_enter Tryz.func57, Tryz.ntmps57
      go_wp2_with fail
      refine HC.out.mono ?_
      rintro e w1 ⟨rfl, hb⟩
      rw [H0.out]
      have y1 := cell_below hb X1.out
      have hz := cell_lt y1
      have HB := Lib.hid (A0.out.trans (hb.mono A0.out.size))
      clear hb
      go_wp2
      go_ret
      exact ⟨ret_i64 HF.out.symm, HB.out⟩
  · rw [if_neg h0] at hfe
    have HF := Lib.hid hfe
    have hne : (checkSt tau l != 0) = true := by simpa using h0
    clear hfe h0
    go_enter Tryz.func57, Tryz.ntmps57
    go_wp2_with fail
    refine HC.out.mono ?_
    rintro e w1 ⟨rfl, hb⟩
    have HB := Lib.hid (A0.out.trans (hb.mono A0.out.size))
    clear hb
    go_wp2
    go_ret
    exact ⟨ret_i64 HF.out.symm, HB.out⟩
/-! the line -/
def placesS (n : Int) : Int := n * (n - 1) / 2
def squaresS (n : Int) : Int := (n - 1) * n * (2 * n - 1) / 6
def detS (n : Int) : Int := n * squaresS n - placesS n * placesS n
structure LineNums (n : Int) : Prop where
  p : 0 ≤ n * (n - 1) ∧ n * (n - 1) ≤ 16384
  q : 0 ≤ (n - 1) * n ∧ (n - 1) * n ≤ 16384
  r : 0 ≤ (n - 1) * n * (2 * n - 1) ∧ (n - 1) * n * (2 * n - 1) ≤ 5000000
  pl : 0 ≤ placesS n ∧ placesS n ≤ 8192
  sq : 0 ≤ squaresS n ∧ squaresS n ≤ 1000000
  ns : 0 ≤ n * squaresS n ∧ n * squaresS n ≤ 130000000
  pp : 0 ≤ placesS n * placesS n ∧ placesS n * placesS n ≤ 70000000
  det : 1 ≤ detS n ∧ detS n ≤ 130000000
def lineNumsB (n : Int) : Bool :=
  decide (0 ≤ n * (n - 1) ∧ n * (n - 1) ≤ 16384) && (decide (0 ≤ (n - 1) * n ∧ (n - 1) * n ≤ 16384) && (decide (0 ≤ (n - 1) * n * (2 * n - 1) ∧ (n - 1) * n * (2 * n - 1) ≤ 5000000) &&
  (decide (0 ≤ placesS n ∧ placesS n ≤ 8192) && (decide (0 ≤ squaresS n ∧ squaresS n ≤ 1000000) && (decide (0 ≤ n * squaresS n ∧ n * squaresS n ≤ 130000000) && (decide (0 ≤ placesS n * placesS n ∧ placesS n * placesS n ≤ 70000000) && decide (1 ≤ detS n ∧ detS n ≤ 130000000)))))))
theorem lineNums_all : (List.range 127).all (fun i => lineNumsB ((i : Int) + 2)) = true := by decide +kernel
theorem lineNums (n : Nat) (h2 : 2 ≤ n) (h : n ≤ 128) : LineNums n := by
  have h1 := List.all_eq_true.1 lineNums_all (n - 2) (by simp; omega)
  rw [show ((n - 2 : Nat) : Int) + 2 = n by omega] at h1
  simp only [lineNumsB, Bool.and_eq_true, decide_eq_true_eq] at h1
  obtain ⟨a, b, c, d, e, f, g, i⟩ := h1
  exact ⟨a, b, c, d, e, f, g, i⟩
def offN (l : List Int) : Int := squaresS l.length * totalL l - placesS l.length * momL l
def sloN (l : List Int) : Int := (l.length : Int) * momL l - placesS l.length * totalL l
theorem mul_bd (a b A B : Int) (ha : -A ≤ a ∧ a ≤ A) (hb : 0 ≤ b ∧ b ≤ B) : -(A * B) ≤ a * b ∧ a * b ≤ A * B := by
  have hA : 0 ≤ A := by omega
  have h1 : a * b ≤ A * b := Int.mul_le_mul_of_nonneg_right ha.2 hb.1
  have h2 : A * b ≤ A * B := Int.mul_le_mul_of_nonneg_left hb.2 hA
  have h3 : -A * b ≤ a * b := Int.mul_le_mul_of_nonneg_right ha.1 hb.1
  have h4 : -A * b = -(A * b) := Int.neg_mul A b
  omega
theorem mul_bd' (a b A B : Int) (hb : 0 ≤ b ∧ b ≤ B) (ha : -A ≤ a ∧ a ≤ A) : -(A * B) ≤ b * a ∧ b * a ≤ A * B := by
  have := mul_bd a b A B ha hb
  rw [Int.mul_comm b a]; exact this
theorem total_bd {l : List Int} (hp : phasesOk l = true) (h : l.length ≤ 128) : -128000000 ≤ totalL l ∧ totalL l ≤ 128000000 := by
  have := sumF_bd (atL l) 1000000 l.length (fun i _ => atL_bd hp i)
  unfold totalL; omega
/-- a line's box -/
def lineVal (a b c d : Int) : Value := .agg #[.int .i64 a, .int .i64 b, .int .i64 c, .int .i64 d]
structure Four (X : World) (b : Nat) : Prop where
  c0 : X.cell? ⟨b, 0, none⟩ = some (.int .i64 0)
  c1 : X.cell? ⟨b, 1, none⟩ = some (.int .i64 0)
  c2 : X.cell? ⟨b, 2, none⟩ = some (.int .i64 0)
  c3 : X.cell? ⟨b, 3, none⟩ = some (.int .i64 0)
  f0 : X.frozen? ⟨b, 0, none⟩ = false
  f1 : X.frozen? ⟨b, 1, none⟩ = false
  f2 : X.frozen? ⟨b, 2, none⟩ = false
  f3 : X.frozen? ⟨b, 3, none⟩ = false
theorem Four.below {X Y : World} {b : Nat} (h : Four X b) (hb : Below X.heap.size X Y) : Four Y b :=
  ⟨cell_below hb h.c0, cell_below hb h.c1, cell_below hb h.c2, cell_below hb h.c3, (hb.frozen (p := ⟨b, 0, none⟩) (cell_lt h.c0)).trans h.f0, (hb.frozen (p := ⟨b, 1, none⟩) (cell_lt h.c0)).trans h.f1, (hb.frozen (p := ⟨b, 2, none⟩) (cell_lt h.c0)).trans h.f2, (hb.frozen (p := ⟨b, 3, none⟩) (cell_lt h.c0)).trans h.f3⟩
/-- behind the stores of a line -/
theorem Four.s0 {X : World} {b : Nat} (h : Four X b) (u : Value) : (X.setCell ⟨b, 0, none⟩ u).cell? ⟨b, 0, none⟩ = some u := World.cell?_setCell_same _ _ _ h.c0
theorem Four.s1 {X : World} {b : Nat} (h : Four X b) (u v : Value) : ((X.setCell ⟨b, 0, none⟩ u).setCell ⟨b, 1, none⟩ v).cell? ⟨b, 1, none⟩ = some v :=
  World.cell?_setCell_same _ _ _ (u := .int .i64 0) (by rw [World.cell?_setCell_other]; exact h.c1; simp)
theorem Four.s2 {X : World} {b : Nat} (h : Four X b) (u v x : Value) : (((X.setCell ⟨b, 0, none⟩ u).setCell ⟨b, 1, none⟩ v).setCell ⟨b, 2, none⟩ x).cell? ⟨b, 2, none⟩ = some x :=
  World.cell?_setCell_same _ _ _ (u := .int .i64 0) (by rw [World.cell?_setCell_other, World.cell?_setCell_other]; exact h.c2; simp; simp)
theorem Four.s3 {X : World} {b : Nat} (h : Four X b) (u v x y : Value) : ((((X.setCell ⟨b, 0, none⟩ u).setCell ⟨b, 1, none⟩ v).setCell ⟨b, 2, none⟩ x).setCell ⟨b, 3, none⟩ y).cell? ⟨b, 3, none⟩ = some y :=
  World.cell?_setCell_same _ _ _ (u := .int .i64 0) (by rw [World.cell?_setCell_other, World.cell?_setCell_other, World.cell?_setCell_other]; exact h.c3; simp; simp; simp)
theorem below4 {w X : World} {b : Nat} (u v x y : Value) (h : Below w.heap.size w X) (hb : w.heap.size ≤ b) : Below w.heap.size w ((((X.setCell ⟨b, 0, none⟩ u).setCell ⟨b, 1, none⟩ v).setCell ⟨b, 2, none⟩ x).setCell ⟨b, 3, none⟩ y) :=
  (((h.setCell hb _).setCell hb _).setCell hb _).setCell hb _
theorem sum_keep (z : World) (l : List Int) (p : Option Addr) (cap : Nat) (X : World) (hb : Below z.heap.size z X) (hs : SerIn z l p) (hp : phasesOk l = true) (h : l.length ≤ 128) :
    Calls Tryz.prog 109 #[.slice p l.length cap] X fun e Y => e = .returned (.int .i64 (totalL l)) ∧ Below z.heap.size z Y :=
  (sum_any l p cap 1000000 X (hs.below hb) (atL_bd hp) (by omega)).mono fun _ _ ⟨a, b⟩ => ⟨a, b ▸ hb⟩
theorem moments_keep (z : World) (tau : Int) (l : List Int) (p : Option Addr) (cap : Nat) (X : World) (hb : Below z.heap.size z X) (hs : SerIn z l p) (hp : phasesOk l = true) (h : l.length ≤ 128) :
    Calls Tryz.prog 110 #[.agg #[.int .i64 tau, .slice p l.length cap]] X fun e Y => e = .returned (.int .i64 (momL l)) ∧ Below z.heap.size z Y :=
  (moments_any tau l p cap X (hs.below hb) hp h).mono fun _ _ ⟨a, b⟩ => ⟨a, hb.trans (b.mono hb.size)⟩
set_option maxRecDepth 100000 in
set_option maxHeartbeats 2000000 in
theorem line_any (tau : Int) (l : List Int) (p : Option Addr) (cap : Nat) (w : World) (hs : SerIn w l p) (hp : phasesOk l = true) (h2 : 2 ≤ l.length) (h128 : l.length ≤ 128) :
    Calls Tryz.prog 84 #[.agg #[.int .i64 tau, .slice p l.length cap]] w fun e w' => e = .returned (lineVal (lowN (offN l) (detS l.length)) (lowD (offN l) (detS l.length)) (lowN (sloN l) (detS l.length)) (lowD (sloN l) (detS l.length))) ∧ Below w.heap.size w w' := by
  obtain ⟨⟨p0, p1⟩, ⟨q0, q1⟩, ⟨r0, r1⟩, ⟨pl0, pl1⟩, ⟨sq0, sq1⟩, ⟨ns0, ns1⟩, ⟨pp0, pp1⟩, ⟨dt0, dt1⟩⟩ := lineNums l.length h2 h128
  obtain ⟨tb0, tb1⟩ := total_bd hp h128
  obtain ⟨mb0, mb1⟩ := mom_bd hp l.length h128
  have m1 := mul_bd' (totalL l) (squaresS l.length) 128000000 1000000 ⟨sq0, sq1⟩ ⟨tb0, tb1⟩
  have m2 := mul_bd' (momL l) (placesS l.length) 16384000000 8192 ⟨pl0, pl1⟩ ⟨mb0, mb1⟩
  have m3 := mul_bd' (momL l) (l.length : Int) 16384000000 128 ⟨by omega, by omega⟩ ⟨mb0, mb1⟩
  have m4 := mul_bd' (totalL l) (placesS l.length) 128000000 8192 ⟨pl0, pl1⟩ ⟨tb0, tb1⟩
  have a0 := below_alloc (below_alloc (Below.refl w.heap.size w) (.cells #[.int .i64 tau, .slice p l.length cap] 56)) (.cells #[.int .i64 0, .int .i64 0, .int .i64 0, .int .i64 0] 119)
  have x0 : ((w.alloc (.cells #[.int .i64 tau, .slice p l.length cap] 56)).alloc (.cells #[.int .i64 0, .int .i64 0, .int .i64 0, .int .i64 0] 119)).cell? ⟨w.heap.size, 0, none⟩ = some (.int .i64 tau) := by simp
  have x1 : ((w.alloc (.cells #[.int .i64 tau, .slice p l.length cap] 56)).alloc (.cells #[.int .i64 0, .int .i64 0, .int .i64 0, .int .i64 0] 119)).cell? ⟨w.heap.size, 1, none⟩ = some (.slice p l.length cap) := by simp
  have HF4 := Lib.hid (show Four ((w.alloc (.cells #[.int .i64 tau, .slice p l.length cap] 56)).alloc (.cells #[.int .i64 0, .int .i64 0, .int .i64 0, .int .i64 0] 119)) (w.heap.size + 1) from ⟨by simp, by simp, by simp, by simp, by simp, by simp, by simp, by simp⟩)
  have HO := Lib.hid (show -9223372036854775807 ≤ offN l ∧ offN l ≤ 9223372036854775807 by unfold offN; omega)
  have HSL := Lib.hid (show -9223372036854775807 ≤ sloN l ∧ sloN l ≤ 9223372036854775807 by unfold sloN; omega)
  have HD := Lib.hid (show 1 ≤ detS l.length ∧ detS l.length ≤ 9223372036854775807 by omega)
  unfold detS at dt0 dt1
  unfold placesS squaresS at *
  have HS := Lib.hid (hs.below a0)
  have HP := Lib.hid hp
  have A0 := Lib.hid a0
  have hl : (l.length : Int) ≤ 128 := by omega
  have hl2 : (2 : Int) ≤ (l.length : Int) := by omega
  clear hs hp a0
  go_enter Tryz.func84, Tryz.ntmps84
  go_wp2_with fail
  generalize (w.alloc (.cells #[.int .i64 tau, .slice p l.length cap] 56)).alloc (.cells #[.int .i64 0, .int .i64 0, .int .i64 0, .int .i64 0] 119) = W1 at *
  go_region_held3 (fun w' => Below W1.heap.size W1 w' ∧ w'.cell? ⟨w.heap.size, 0, none⟩ = some (.int .i64 tau) ∧ w'.cell? ⟨w.heap.size, 1, none⟩ = some (.slice p l.length cap))
    (first | exact ⟨Below.drew (Below.refl _ _), x0, x1⟩ | exact ⟨(by assumption), cell_below (by assumption) x0, cell_below (by assumption) x1⟩)
    (first | (go_at_call 109; refine (sum_keep W1 l p cap _ (by first | assumption | exact Below.drew (Below.refl _ _)) HS.out HP.out h128).mono ?_; rintro e w2 ⟨rfl, hb2⟩) |
      (go_at_call 110; refine (moments_keep W1 tau l p cap _ (by first | assumption | exact Below.drew (Below.refl _ _)) HS.out HP.out h128).mono ?_; rintro e w2 ⟨rfl, hb2⟩))
  all_goals
    have HB2 := Lib.hid (A0.out.trans (hb2.mono A0.out.size))
    have HF2 := Lib.hid (HF4.out.below hb2)
    clear x0 x1
    go_wp2_with fail
    refine (lowest_any (offN l) (detS l.length) _ HO.out HD.out).mono ?_
    rintro e w3 ⟨rfl, hb3⟩
    have HB3 := Lib.hid (HB2.out.trans (hb3.mono HB2.out.size))
    have HF3 := Lib.hid (HF2.out.below hb3)
    clear hb3
    go_wp2_with fail
    refine (lowest_any (sloN l) (detS l.length) _ HSL.out HD.out).mono ?_
    rintro e w4 ⟨rfl, hb4⟩
    have HB4 := Lib.hid (HB3.out.trans (hb4.mono HB3.out.size))
    have HH := Lib.hid (HF3.out.below hb4)
    obtain ⟨x0, x1, x2, x3, f0, f1, f2, f3⟩ := HH.out
    have hz := cell_lt x0
    clear hb4
    go_wp2
    have c0 := HH.out.s0 (.int .i64 (lowN (offN l) (detS l.length)))
    have c1 := HH.out.s1 (.int .i64 (lowN (offN l) (detS l.length))) (.int .i64 (lowD (offN l) (detS l.length)))
    have c2 := HH.out.s2 (.int .i64 (lowN (offN l) (detS l.length))) (.int .i64 (lowD (offN l) (detS l.length))) (.int .i64 (lowN (sloN l) (detS l.length)))
    have c3 := HH.out.s3 (.int .i64 (lowN (offN l) (detS l.length))) (.int .i64 (lowD (offN l) (detS l.length))) (.int .i64 (lowN (sloN l) (detS l.length))) (.int .i64 (lowD (sloN l) (detS l.length)))
    refine bodyPost_ret (v := lineVal (lowN (offN l) (detS l.length)) (lowD (offN l) (detS l.length)) (lowN (sloN l) (detS l.length)) (lowD (sloN l) (detS l.length))) (by simp [results, Tryz.results84, go_sem, c0, c1, c2, c3, lineVal]) rfl ?_
    exact ⟨rfl, below4 _ _ _ _ HB4.out (by omega)⟩
end Go.Proofs.YtemblamamgfodaaGreatDoor
