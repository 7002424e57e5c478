/- Contracts of layer 3: numbers, sums, lines. -/
import Derived.Test.YtemblamamgfodaaGreatDoorProg
import Derived.Test.YtemblamamgfodaaGreatDoorStPlain
import Derived.Test.YtemblamamgfodaaGreatDoorStPre
import Derived.Handy
import Derived.Lib.Hide
import Derived.WalkSmall
import Derived.Deep.QuietTactic
import Derived.BigQuiet
import Derived.Outline
import Derived.LoopTactic
import Derived.IntWalk
import Derived.StillTailTactics
import Derived.Deep.RegionHeld3
namespace Go.Proofs.YtemblamamgfodaaGreatDoor
open Go Go.RowKit
theorem ret_i64 {a b : Int} (h : a = b) : Ending.returned (.int .i64 a) = .returned (.int .i64 b) := by rw [h]
theorem ret_bool {a b : Bool} (h : a = b) : Ending.returned (.bool a) = .returned (.bool b) := by rw [h]
theorem cell_lt {w : World} {b o : Nat} {v : Value} (h : w.cell? ⟨b, o, none⟩ = some v) : b < w.heap.size := World.block_lt_of_cell? w ⟨b, o, none⟩ h
theorem cell_below {w w' : World} {b o : Nat} {v : Value} (hb : Below w.heap.size w w') (h : w.cell? ⟨b, o, none⟩ = some v) : w'.cell? ⟨b, o, none⟩ = some v :=
  (hb.cell (p := ⟨b, o, none⟩) (cell_lt h)).trans h
theorem two_c0 {w : World} {b : Nat} {x : Value} (u : Value) (h : w.cell? ⟨b, 0, none⟩ = some x) : (w.setCell ⟨b, 0, none⟩ u).cell? ⟨b, 0, none⟩ = some u := World.cell?_setCell_same _ _ _ h
theorem two_c1 {w : World} {b : Nat} {x : Value} (u v : Value) (h : w.cell? ⟨b, 1, none⟩ = some x) : ((w.setCell ⟨b, 0, none⟩ u).setCell ⟨b, 1, none⟩ v).cell? ⟨b, 1, none⟩ = some v :=
  World.cell?_setCell_same _ _ _ (u := x) (by rw [World.cell?_setCell_other]; exact h; simp)
theorem below_alloc {X Y : World} (h : Below X.heap.size X Y) (o : Obj) : Below X.heap.size X (Y.alloc o) := h.alloc h.size o
theorem below_drewN {X Y : World} (h : Below X.heap.size X Y) (n : Nat) : Below X.heap.size X (Y.drewN n) := h.trans ⟨rfl, rfl, rfl, Nat.le_refl _, fun _ _ => rfl⟩
def SliceIn (p : Option Addr) (n : Nat) (P : Nat → Nat → Prop) : Prop := n = 0 ∨ ∃ b o, p = some ⟨b, o, none⟩ ∧ P b o
theorem SliceIn.imp {p : Option Addr} {n : Nat} {P Q : Nat → Nat → Prop} (h : SliceIn p n P) (hi : ∀ b o, P b o → Q b o) : SliceIn p n Q := by
  rcases h with h | ⟨b, o, hp, h⟩
  · exact .inl h
  · exact .inr ⟨b, o, hp, hi b o h⟩
/-- numbers that lie in memory -/
def IntsAt (w : World) (l : List Int) (b o : Nat) : Prop := ∀ i (h : i < l.length), w.cell? ⟨b, o + i, none⟩ = some (.int .i64 l[i])
theorem IntsAt.below {w w' : World} {b o : Nat} {l : List Int} (h : IntsAt w l b o) (hb : Below w.heap.size w w') : IntsAt w' l b o := fun i hi => cell_below hb (h i hi)
def SerIn (w : World) (l : List Int) (p : Option Addr) : Prop := l.length ≤ maxLen ∧ SliceIn p l.length (IntsAt w l)
theorem SerIn.below {w w' : World} {l : List Int} {p : Option Addr} (h : SerIn w l p) (hb : Below w.heap.size w w') : SerIn w' l p := ⟨h.1, h.2.imp fun _ _ x => x.below hb⟩
theorem tdiv_bd (a b : Int) (hb : 1 ≤ b) (h1 : -9223372036854775807 ≤ a) (h2 : a ≤ 9223372036854775807) : -9223372036854775807 ≤ a.tdiv b ∧ a.tdiv b ≤ 9223372036854775807 := by
  rw [tdiv_eq_if]
  split
  · rename_i hx; have := IntWalk.tdiv_le a b hx hb; omega
  · rename_i hx; have := IntWalk.tdiv_le (-a) b (by omega) hb; omega
theorem within_any (n lo hi : Int) (w : World) :
    Calls Tryz.prog 27 #[.int .i64 n, .int .i64 lo, .int .i64 hi] w fun e w' => e = .returned (.bool (decide (lo ≤ n) && decide (n ≤ hi))) ∧ w = w' := by
  by_cases h : lo ≤ n
  · have e : decide (n ≤ hi) = (decide (lo ≤ n) && decide (n ≤ hi)) := by simp [h]
    have E := Lib.hid e
    clear e
    go_enter Tryz.func27, Tryz.ntmps27
    go_wp2
    go_ret
    exact ⟨ret_bool E.out, rfl⟩
  · have e : false = (decide (lo ≤ n) && decide (n ≤ hi)) := by simp [h]
    have E := Lib.hid e
    clear e
    go_enter Tryz.func27, Tryz.ntmps27
    go_wp2
    go_ret
    exact ⟨ret_bool E.out, rfl⟩
theorem within_yes (n lo hi : Int) (w : World) (h : lo ≤ n ∧ n ≤ hi) :
    Calls Tryz.prog 27 #[.int .i64 n, .int .i64 lo, .int .i64 hi] w fun e w' => e = .returned (.bool true) ∧ w = w' :=
  (within_any n lo hi w).mono fun _ _ ⟨a, b⟩ => ⟨by rw [a]; simp [h], b⟩
theorem within_no (n lo hi : Int) (w : World) (h : ¬ (lo ≤ n ∧ n ≤ hi)) :
    Calls Tryz.prog 27 #[.int .i64 n, .int .i64 lo, .int .i64 hi] w fun e w' => e = .returned (.bool false) ∧ w = w' :=
  (within_any n lo hi w).mono fun _ _ ⟨a, b⟩ => ⟨by rw [a]; congr 2; simpa using h, b⟩
theorem tmod_lt (a b : Int) (hb : b ≠ 0) : -(b.natAbs : Int) < a.tmod b ∧ a.tmod b < b.natAbs := by
  have h1 := Int.natAbs_tmod a b
  have h2 := Nat.mod_lt a.natAbs (show 0 < b.natAbs by omega)
  omega
set_option maxHeartbeats 1000000 in
theorem divisor_any (n d : Int) (w : World) (hn : -9223372036854775808 ≤ n ∧ n ≤ 9223372036854775807) (hd : 1 ≤ d ∧ d ≤ 9223372036854775807) :
    Calls Tryz.prog 145 #[.int .i64 n, .int .i64 d] w fun e w' => e = .returned (.int .i64 (gcdS n d)) ∧ Below w.heap.size w w' := by
  go_enter Tryz.func145, Tryz.ntmps145
  go_wp2
  go_loopw [0, 1] (fun a b wr => ∃ x y : Int, a = .int .i64 x ∧ b = .int .i64 y ∧ (-9223372036854775808 ≤ x ∧ x ≤ 9223372036854775807) ∧ (-9223372036854775807 ≤ y ∧ y ≤ 9223372036854775807) ∧ (y = 0 → -9223372036854775807 ≤ x) ∧ Hid (Int.gcd x y = Int.gcd n d) ∧ Hid (Below w.heap.size w wr)) (fun _ b _ => (intOf b).natAbs)
  case atStart => exact ⟨n, d, rfl, rfl, hn, by omega, by omega, Lib.hid rfl, Lib.hid (Below.refl _ _)⟩
  case round =>
    obtain ⟨x, y, rfl, rfl, hx, hy, hxy, HG, HB⟩ := hrel
    by_cases h0 : y = 0
    · subst h0
      have hx2 := hxy rfl
      have HR := Lib.hid (show max x (-x) = gcdS n d by
        unfold gcdS; rw [← HG.out, Int.gcd_zero_right]; omega)
      clear hxy
      go_wp2
      all_goals
        go_ret
        exact ⟨ret_i64 (by have := HR.out; omega), HB.out⟩
    · have ht := tmod_lt x y h0
      have hb0 : (y == 0) = false := by simpa using h0
      have hb1 : (y != 0) = true := by simpa using h0
      have HG2 := Lib.hid ((gcd_step x y).trans HG.out)
      go_wp2
      go_quiet (fail)
      go_wp2
      go_roundw
      case rel => exact ⟨y, x.tmod y, rfl, rfl, by omega, by omega, by omega, HG2, Lib.hid (below_drewN HB.out _)⟩
      case measure => simp only [intOf]; omega
theorem low_bd (n d : Int) (hd : 1 ≤ d) : (1 ≤ gcdS n d ∧ gcdS n d ≤ d) ∧ n.tdiv (gcdS n d) = lowN n d ∧ d.tdiv (gcdS n d) = lowD n d := ⟨⟨gcdS_pos n d hd, gcdS_le n d hd⟩, low_tdiv n d, lowD_tdiv n d⟩
set_option maxHeartbeats 1000000 in
theorem lowest_any (n d : Int) (w : World) (hn : -9223372036854775807 ≤ n ∧ n ≤ 9223372036854775807) (hd : 1 ≤ d ∧ d ≤ 9223372036854775807) :
    Calls Tryz.prog 104 #[.int .i64 n, .int .i64 d] w fun e w' => e = .returned (.agg #[.int .i64 (lowN n d), .int .i64 (lowD n d)]) ∧ Below w.heap.size w w' := by
  obtain ⟨hg, h1, h2⟩ := low_bd n d hd.1
  have H1 := Lib.hid h1
  have H2 := Lib.hid h2
  have hne : (gcdS n d == 0) = false := by simp; omega
  have hnz : ¬ gcdS n d = 0 := by omega
  have a0 := below_alloc (Below.refl w.heap.size w) (.cells #[.int .i64 0, .int .i64 0] 58)
  have A0 := Lib.hid a0
  clear h1 h2 a0
  go_enter Tryz.func104, Tryz.ntmps104
  go_wp2_with fail
  refine (divisor_any n d _ (by omega) hd).mono ?_
  rintro e w1 ⟨rfl, hb⟩
  have HB := Lib.hid (A0.out.trans (hb.mono A0.out.size))
  have q1 := tdiv_bd n (gcdS n d) hg.1 hn.1 hn.2
  have q2 := tdiv_bd d (gcdS n d) hg.1 (by omega) hd.2
  have x0 : w1.cell? ⟨w.heap.size, 0, none⟩ = some (.int .i64 0) := cell_below hb (by simp)
  have x1 : w1.cell? ⟨w.heap.size, 1, none⟩ = some (.int .i64 0) := cell_below hb (by simp)
  have f0 : w1.frozen? ⟨w.heap.size, 0, none⟩ = false := (hb.frozen (p := ⟨w.heap.size, 0, none⟩) (by simp)).trans (by simp)
  have f1 : w1.frozen? ⟨w.heap.size, 1, none⟩ = false := (hb.frozen (p := ⟨w.heap.size, 1, none⟩) (by simp)).trans (by simp)
  have hz := cell_lt x0
  clear hb
  have u1 : IntKind.i64.wrap (n.tdiv (gcdS n d)) = lowN n d := by rw [IntWalk.i64_in _ (by omega)]; exact H1.out
  have u2 : IntKind.i64.wrap (d.tdiv (gcdS n d)) = lowD n d := by rw [IntWalk.i64_in _ (by omega)]; exact H2.out
  clear q1 q2
  go_wp2
  have HF := Lib.hid (fun nq => ((below_drewN HB.out nq).setCell (p := ⟨w.heap.size, 0, none⟩) (Nat.le_refl _) (.int .i64 (lowN n d))).setCell (p := ⟨w.heap.size, 1, none⟩) (Nat.le_refl _) (.int .i64 (lowD n d)))
  refine (wpIn_wide (n := 9)).1 ?_
  refine wpIn_region_pre_lit 7 1 rfl (by kernel_rfl) (by kernel_rfl) (by kernel_rfl) (by kernel_rfl) rfl ?_
  simp only [List.take_succ_cons, List.take_zero]
  repeat (refine wpQuietIn_step (by first | exact fun _ _ _ _ => trivial | quiet_asked_in) (fun KQ hKQ => ?_); go_simp; first | (refine hKQ _ ?_; clear hKQ KQ) | (apply Exists.intro; refine ⟨fun _ => ?_, hKQ _ ?_⟩; (fail); clear hKQ KQ))
  refine wpQuietIn_nil ?_
  intro _ hwq1
  obtain ⟨nq, hwq2⟩ := hwq1
  subst hwq2
  simp only [List.replicate_succ, List.replicate_zero, List.cons_append, List.nil_append]
  have c0 := two_c0 (w := w1.drewN nq) (.int .i64 (lowN n d)) x0
  have c1 := two_c1 (w := w1.drewN nq) (.int .i64 (lowN n d)) (.int .i64 (lowD n d)) x1
  refine wpAnyIn_ready (rs := [7]) (by kernel_rfl) (by simp) (AllReadyIn.cons rfl (fun K' hKK => ?_) AllReadyIn.nil)
  go_simp
  refine hKK _ _ ?_
  clear hKK
  refine wpAnyIn_done (by kernel_rfl) ?_ _
  go_wp2
  exact bodyPost_ret (v := .agg #[.int .i64 (lowN n d), .int .i64 (lowD n d)]) (by simp [results, Tryz.results104, go_sem, c0, c1]) rfl ⟨rfl, HF.out nq⟩
/-- the sum of a list -/
theorem sum_any (l : List Int) (p : Option Addr) (cap : Nat) (B : Int) (w : World) (hs : SerIn w l p) (hB : ∀ i, -B ≤ atL l i ∧ atL l i ≤ B) (hb : B * l.length ≤ 9000000000000000000) :
    Calls Tryz.prog 109 #[.slice p l.length cap] w fun e w' => e = .returned (.int .i64 (totalL l)) ∧ w = w' := by
  have hl := hs.1
  unfold maxLen at hl
  have HS := Lib.hid hs
  have HBD := Lib.hid (fun (k : Nat) (hk : k ≤ l.length) => (sumF_bd (atL l) B k (fun i _ => hB i)))
  have HBL := Lib.hid hB
  clear hs hB
  go_enter Tryz.func109, Tryz.ntmps109
  go_wp2
  go_loop [3, 8] (fun t i => ∃ k : Nat, k ≤ l.length ∧ i = .int .i64 k ∧ t = .int .i64 (sumF (atL l) k)) (fun _ i => l.length - (intOf i).toNat)
  case atStart => exact ⟨0, Nat.zero_le _, rfl, rfl⟩
  case round =>
    obtain ⟨k, hk, rfl, rfl⟩ := hrel
    by_cases hlt : k < l.length
    · obtain ⟨b, o, rfl, hc⟩ := HS.out.2.resolve_left (by omega)
      have x0 := hc k hlt
      rw [atL_get l k hlt] at x0
      have hkl : (k : Int) < (l.length : Int) := by omega
      have hm : B * ((k + 1 : Nat) : Int) ≤ B * l.length := Int.mul_le_mul_of_nonneg_left (by omega) (by have := HBL.out 0; omega)
      have b2 := HBD.out (k + 1) (by omega)
      have hsu : sumF (atL l) (k + 1) = sumF (atL l) k + atL l k := rfl
      rw [hsu] at b2
      have b3 : -9000000000000000000 ≤ sumF (atL l) k + atL l k ∧ sumF (atL l) k + atL l k ≤ 9000000000000000000 := by omega
      clear hc hm b2 hsu
      go_wp2
      go_round
      case rel => exact ⟨k + 1, by omega, by go_num, rfl⟩
      case measure => simp [intOf]; omega
    · obtain rfl : k = l.length := by omega
      go_wp2
      go_ret
      exact ⟨rfl, rfl⟩
/-- what a series' phases are good for -/
theorem mom_bd {l : List Int} (hp : phasesOk l = true) (k : Nat) (hk : k ≤ 128) : -16384000000 ≤ sumF (fun i => (i : Int) * atL l i) k ∧ sumF (fun i => (i : Int) * atL l i) k ≤ 16384000000 := by
  have h := sumF_bd (fun i => (i : Int) * atL l i) 128000000 k (fun i hi => by
    have := atL_bd hp i
    have h1 : (i : Int) * atL l i ≤ (i : Int) * 1000000 := Int.mul_le_mul_of_nonneg_left this.2 (by omega)
    have h2 : (i : Int) * (-1000000) ≤ (i : Int) * atL l i := Int.mul_le_mul_of_nonneg_left this.1 (by omega)
    omega)
  omega
theorem moments_any (tau : Int) (l : List Int) (p : Option Addr) (cap : Nat) (w : World) (hs : SerIn w l p) (hp : phasesOk l = true) (h128 : l.length ≤ 128) :
    Calls Tryz.prog 110 #[.agg #[.int .i64 tau, .slice p l.length cap]] w fun e w' => e = .returned (.int .i64 (momL l)) ∧ Below w.heap.size w w' := by
  have a0 := below_alloc (Below.refl w.heap.size w) (.cells #[.int .i64 tau, .slice p l.length cap] 56)
  have HS := Lib.hid (hs.below a0)
  have HP := Lib.hid hp
  have A0 := Lib.hid a0
  have HBD := Lib.hid (fun (k : Nat) (hk : k ≤ 128) => mom_bd hp k hk)
  clear hs hp a0
  go_enter Tryz.func110, Tryz.ntmps110
  go_wp2
  generalize w.alloc (.cells #[.int .i64 tau, .slice p l.length cap] 56) = W1 at *
  go_loop [3, 9] (fun t i => ∃ k : Nat, k ≤ l.length ∧ i = .int .i64 k ∧ t = .int .i64 (sumF (fun i => (i : Int) * atL l i) k)) (fun _ i => l.length - (intOf i).toNat)
  case atStart => exact ⟨0, Nat.zero_le _, rfl, rfl⟩
  case round =>
    obtain ⟨k, hk, rfl, rfl⟩ := hrel
    by_cases hlt : k < l.length
    · obtain ⟨b, o, rfl, hc⟩ := HS.out.2.resolve_left (by omega)
      have x0 := hc k hlt
      rw [atL_get l k hlt] at x0
      have hkl : (k : Int) < (l.length : Int) := by omega
      have b0 := HBD.out k (by omega)
      have b2 := HBD.out (k + 1) (by omega)
      have hsu : sumF (fun i => (i : Int) * atL l i) (k + 1) = sumF (fun i => (i : Int) * atL l i) k + (k : Int) * atL l k := rfl
      rw [hsu] at b2
      have b3 : -40000000000 ≤ (k : Int) * atL l k ∧ (k : Int) * atL l k ≤ 40000000000 := by omega
      clear hc hsu
      go_wp2
      go_round
      case rel => exact ⟨k + 1, by omega, by go_num, rfl⟩
      case measure => simp [intOf]; omega
    · obtain rfl : k = l.length := by omega
      go_wp2
      go_ret
      exact ⟨rfl, A0.out⟩
end Go.Proofs.YtemblamamgfodaaGreatDoor
