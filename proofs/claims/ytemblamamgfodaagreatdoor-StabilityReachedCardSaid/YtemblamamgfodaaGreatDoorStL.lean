/- Contracts of layer 3: the chance of an exchange. -/
import Derived.Test.YtemblamamgfodaaGreatDoorStK
namespace Go.Proofs.YtemblamamgfodaaGreatDoor
open Go Go.RowKit Go.Shelf
theorem two_pos (n : Nat) : 1 ≤ (2 : Int) ^ n := by
  induction n with
  | zero => decide
  | succ n ih => rw [Int.pow_succ]; omega
theorem geo (L : Nat) : ∀ k, k ≤ L → sumF (fun j => (2 : Int) ^ (L - (j + 1))) k + (2 : Int) ^ (L - k) ≤ (2 : Int) ^ L
  | 0, _ => by simp [sumF]
  | k + 1, h => by
    have ih := geo L k (by omega)
    have e : (2 : Int) ^ (L - k) = 2 ^ (L - (k + 1)) * 2 := by rw [← Int.pow_succ]; congr 1; omega
    rw [e] at ih
    show sumF (fun j => (2 : Int) ^ (L - (j + 1))) k + (2 : Int) ^ (L - (k + 1)) + (2 : Int) ^ (L - (k + 1)) ≤ _
    omega
theorem exS_le (len : Nat) : ∀ left from_, exS len left from_ ≤ (2 : Int) ^ (len - from_)
  | 0, from_ => by unfold exS; exact two_pos _
  | left + 1, from_ => by
    have h1 := sumF_le (f := fun j => exS len left (from_ + j + 1)) (g := fun j => (2 : Int) ^ ((len - from_) - (j + 1))) (fun j => by
      have := exS_le len left (from_ + j + 1)
      rwa [show len - (from_ + j + 1) = len - from_ - (j + 1) by omega] at this) (len - left - from_)
    have h2 := geo (len - from_) (len - left - from_) (by omega)
    have h3 := two_pos ((len - from_) - (len - left - from_))
    unfold exS
    omega
theorem exS_pos (len : Nat) : ∀ left from_, from_ + left ≤ len → 1 ≤ exS len left from_
  | 0, _, _ => by simp [exS]
  | left + 1, from_, h => by
    have h1 := exS_pos len left (from_ + 0 + 1) (by omega)
    have h2 := sumF_mono (f := fun j => exS len left (from_ + j + 1)) (fun i => exS_nonneg _ _ _) (show 1 ≤ len - left - from_ by omega)
    have h3 : sumF (fun j => exS len left (from_ + j + 1)) 1 = 0 + exS len left (from_ + 0 + 1) := rfl
    unfold exS
    omega
theorem exS_bd {len left : Nat} (h : len ≤ 16) : exS len left 0 ≤ 65536 := by
  have h1 := exS_le len left 0
  have h2 : ∀ n, n ≤ 16 → (2 : Int) ^ n ≤ 65536 := fun n hn => by
    have h : (List.range 17).all (fun n => decide ((2 : Int) ^ n ≤ 65536)) = true := by kernel_rfl
    have h := List.all_eq_true.1 h n (by simp; omega)
    simpa using h
  exact Int.le_trans h1 (h2 _ (by omega))
theorem take_at {W : World} {P : List Int} {b o c : Nat} (hi : IntsAt W P b o) : IntsAt W (P.take c) b o := fun k hk => by
  have hk' : k < P.length := by simp at hk; omega
  rw [List.getElem_take]
  exact hi k hk'
theorem take_bd {P : List Int} {B : Int} (hB : ∀ i, -B ≤ atL P i ∧ atL P i ≤ B) (c k : Nat) : -B ≤ atL (P.take c) k ∧ atL (P.take c) k ≤ B := by
  have h0 := hB 0
  unfold atL
  rw [List.getElem?_take]
  split
  · exact hB k
  · simp; omega
def exLeast (P : List Int) (c : Nat) : Int := totalL (P.take c)
def exN (P : List Int) (c : Nat) : Int := exG P (exLeast P c) c 0 0
set_option maxRecDepth 100000 in
set_option maxHeartbeats 2000000 in
theorem exchange_any (P : List Int) (p : Option Addr) (cap c : Nat) (w : World) (hc : 1 ≤ c ∧ c < P.length) (h16 : P.length ≤ 16) (hcap : P.length ≤ cap) (hP : ∀ i, -1000000000000 ≤ atL P i ∧ atL P i ≤ 1000000000000) (hs : SerIn w P p) :
    Calls Tryz.prog 90 #[.slice p P.length cap, .int .i64 c] w fun e w' => e = .returned (.agg #[.int .i64 (lowN (exN P c) (exS P.length c 0)), .int .i64 (lowD (exN P c) (exS P.length c 0))]) ∧ Below w.heap.size w w' := by
  obtain ⟨b, o, rfl, hi⟩ := hs.2.resolve_left (by omega)
  have hblk := hs.blk (by intro h; rw [h] at hc; simp at hc) (k := b) (o := o) rfl
  have a0 := below_alloc (below_alloc (Below.refl w.heap.size w) (.cells #[.slice (some ⟨b, o, none⟩) P.length cap] 38)) (.cells #[.int .i64 0, .int .i64 0] 58)
  have htl : (P.take c).length = c := by simp; omega
  have HSM := Lib.hid (sum_any (P.take c) (some ⟨b, o, none⟩) cap 1000000000000 _ ⟨by rw [htl]; unfold maxLen; omega, .inr ⟨b, o, rfl, take_at (hi.below a0)⟩⟩ (fun k => take_bd hP c k) (by rw [htl]; omega))
  rw [htl] at HSM
  have hcc : (c : Int) ≤ cap := by omega
  have hcc2 : c ≤ cap := by omega
  have HI := Lib.hid hi
  clear hi
  go_enter Tryz.func90, Tryz.ntmps90
  go_wp2_with (go_at_call 109; refine HSM.out.mono ?_; rintro e w1 ⟨rfl, rfl⟩)
  have hT : Below w.heap.size w (((((((w.alloc (.cells #[.slice (some ⟨b, o, none⟩) P.length cap] 38)).alloc (.cells #[.int .i64 0, .int .i64 0] 58)).alloc (.cells #[.int .i64 (totalL (P.take c))] 3)).alloc (.cells #[.int .i64 0] 3)).alloc (.cells #[.int .i64 0] 3)).alloc (.cells #[.func (.func 135) #[] #[.pointer (some ⟨w.heap.size + 1 + 1 + 1, 0, none⟩), .pointer (some ⟨w.heap.size + 1 + 1, 0, none⟩), .pointer (some ⟨w.heap.size + 1 + 1 + 1 + 1, 0, none⟩), .pointer (some ⟨w.heap.size, 0, none⟩), .pointer (some ⟨w.heap.size + 1 + 1 + 1 + 1 + 1, 0, none⟩)]] 185))) := below_alloc (below_alloc (below_alloc (below_alloc (below_alloc (below_alloc (Below.refl _ _) _) _) _) _) _) _
  have hE : ExAt (((((((w.alloc (.cells #[.slice (some ⟨b, o, none⟩) P.length cap] 38)).alloc (.cells #[.int .i64 0, .int .i64 0] 58)).alloc (.cells #[.int .i64 (totalL (P.take c))] 3)).alloc (.cells #[.int .i64 0] 3)).alloc (.cells #[.int .i64 0] 3)).alloc (.cells #[.func (.func 135) #[] #[.pointer (some ⟨w.heap.size + 1 + 1 + 1, 0, none⟩), .pointer (some ⟨w.heap.size + 1 + 1, 0, none⟩), .pointer (some ⟨w.heap.size + 1 + 1 + 1 + 1, 0, none⟩), .pointer (some ⟨w.heap.size, 0, none⟩), .pointer (some ⟨w.heap.size + 1 + 1 + 1 + 1 + 1, 0, none⟩)]] 185))) (w.heap.size + 1 + 1 + 1) (w.heap.size + 1 + 1) (w.heap.size + 1 + 1 + 1 + 1) w.heap.size (w.heap.size + 1 + 1 + 1 + 1 + 1) P (some ⟨b, o, none⟩) cap (totalL (P.take c)) 0 0 :=
    ⟨by simp [go_sem], by simp [go_sem], by simp [go_sem], by simp [go_sem], by simp [go_sem], by simp [go_sem], by simp [go_sem], .inr ⟨b, o, rfl, HI.out.below hT⟩⟩
  have r0 : (((((((w.alloc (.cells #[.slice (some ⟨b, o, none⟩) P.length cap] 38)).alloc (.cells #[.int .i64 0, .int .i64 0] 58)).alloc (.cells #[.int .i64 (totalL (P.take c))] 3)).alloc (.cells #[.int .i64 0] 3)).alloc (.cells #[.int .i64 0] 3)).alloc (.cells #[.func (.func 135) #[] #[.pointer (some ⟨w.heap.size + 1 + 1 + 1, 0, none⟩), .pointer (some ⟨w.heap.size + 1 + 1, 0, none⟩), .pointer (some ⟨w.heap.size + 1 + 1 + 1 + 1, 0, none⟩), .pointer (some ⟨w.heap.size, 0, none⟩), .pointer (some ⟨w.heap.size + 1 + 1 + 1 + 1 + 1, 0, none⟩)]] 185))).cell? ⟨w.heap.size + 1, 0, none⟩ = some (.int .i64 0) := by simp [go_sem]
  have r1 : (((((((w.alloc (.cells #[.slice (some ⟨b, o, none⟩) P.length cap] 38)).alloc (.cells #[.int .i64 0, .int .i64 0] 58)).alloc (.cells #[.int .i64 (totalL (P.take c))] 3)).alloc (.cells #[.int .i64 0] 3)).alloc (.cells #[.int .i64 0] 3)).alloc (.cells #[.func (.func 135) #[] #[.pointer (some ⟨w.heap.size + 1 + 1 + 1, 0, none⟩), .pointer (some ⟨w.heap.size + 1 + 1, 0, none⟩), .pointer (some ⟨w.heap.size + 1 + 1 + 1 + 1, 0, none⟩), .pointer (some ⟨w.heap.size, 0, none⟩), .pointer (some ⟨w.heap.size + 1 + 1 + 1 + 1 + 1, 0, none⟩)]] 185))).cell? ⟨w.heap.size + 1, 1, none⟩ = some (.int .i64 0) := by simp [go_sem]
  have q0 : (((((((w.alloc (.cells #[.slice (some ⟨b, o, none⟩) P.length cap] 38)).alloc (.cells #[.int .i64 0, .int .i64 0] 58)).alloc (.cells #[.int .i64 (totalL (P.take c))] 3)).alloc (.cells #[.int .i64 0] 3)).alloc (.cells #[.int .i64 0] 3)).alloc (.cells #[.func (.func 135) #[] #[.pointer (some ⟨w.heap.size + 1 + 1 + 1, 0, none⟩), .pointer (some ⟨w.heap.size + 1 + 1, 0, none⟩), .pointer (some ⟨w.heap.size + 1 + 1 + 1 + 1, 0, none⟩), .pointer (some ⟨w.heap.size, 0, none⟩), .pointer (some ⟨w.heap.size + 1 + 1 + 1 + 1 + 1, 0, none⟩)]] 185))).frozen? ⟨w.heap.size + 1, 0, none⟩ = false := by simp [go_sem]
  have q1 : (((((((w.alloc (.cells #[.slice (some ⟨b, o, none⟩) P.length cap] 38)).alloc (.cells #[.int .i64 0, .int .i64 0] 58)).alloc (.cells #[.int .i64 (totalL (P.take c))] 3)).alloc (.cells #[.int .i64 0] 3)).alloc (.cells #[.int .i64 0] 3)).alloc (.cells #[.func (.func 135) #[] #[.pointer (some ⟨w.heap.size + 1 + 1 + 1, 0, none⟩), .pointer (some ⟨w.heap.size + 1 + 1, 0, none⟩), .pointer (some ⟨w.heap.size + 1 + 1 + 1 + 1, 0, none⟩), .pointer (some ⟨w.heap.size, 0, none⟩), .pointer (some ⟨w.heap.size + 1 + 1 + 1 + 1 + 1, 0, none⟩)]] 185))).frozen? ⟨w.heap.size + 1, 1, none⟩ = false := by simp [go_sem]
  have hb1 := exS_bd (left := c) h16
  have hb2 := exS_pos P.length c 0 (by omega)
  have hb3 := exG_bd P (totalL (P.take c)) c 0 0
  have hne : ExNe (w.heap.size + 1 + 1 + 1) (w.heap.size + 1 + 1 + 1) (w.heap.size + 1 + 1) (w.heap.size + 1 + 1 + 1 + 1) w.heap.size (w.heap.size + 1 + 1 + 1 + 1 + 1) (some ⟨b, o, none⟩) :=
    ⟨by omega, by omega, by omega, by omega, by omega, by omega, by omega, by omega, by omega, fun k i h => by cases h; omega⟩
  refine (choose_any _ _ _ _ _ _ P (some ⟨b, o, none⟩) cap (totalL (P.take c)) hne h16 hP c 0 0 0 0 _ (by omega) (by omega) (by omega) hE (by decide) (by decide) (by decide) (by omega)).mono ?_
  rintro e w7 ⟨⟨v, rfl⟩, hE7, hb7⟩
  rw [Int.zero_add, Int.zero_add] at hE7
  have hB7 : Below w.heap.size w w7 := hT.trans (hb7.mono (by omega))
  have z0 := (hb7.cell (p := ⟨w.heap.size + 1, 0, none⟩) (by show w.heap.size + 1 < w.heap.size + 1 + 1 + 1; omega)).trans r0
  have z1 := (hb7.cell (p := ⟨w.heap.size + 1, 1, none⟩) (by show w.heap.size + 1 < w.heap.size + 1 + 1 + 1; omega)).trans r1
  have y0 := (hb7.frozen (p := ⟨w.heap.size + 1, 0, none⟩) (by show w.heap.size + 1 < w.heap.size + 1 + 1 + 1; omega)).trans q0
  have y1 := (hb7.frozen (p := ⟨w.heap.size + 1, 1, none⟩) (by show w.heap.size + 1 < w.heap.size + 1 + 1 + 1; omega)).trans q1
  have HLO := Lib.hid (lowest_any (exG P (totalL (P.take c)) c 0 0) (exS P.length c 0) w7 (by omega) (by omega))
  obtain ⟨s0, -, g0, -, -, -, -, -⟩ := hE7
  have HB7 := Lib.hid hB7
  have HN := Lib.hid (show exN P c = exG P (totalL (P.take c)) c 0 0 from rfl)
  clear hT hE r0 r1 q0 q1 hne hb7 hB7 hb1 hb2 hb3
  go_wp2_with fail
  refine HLO.out.mono ?_
  rintro e w8 ⟨rfl, hb8⟩
  rw [← HN.out]
  have x0 := cell_below hb8 z0
  have x1 := cell_below hb8 z1
  have f0 := (hb8.frozen (p := ⟨w.heap.size + 1, 0, none⟩) (cell_lt z0)).trans y0
  have f1 := (hb8.frozen (p := ⟨w.heap.size + 1, 1, none⟩) (cell_lt z1)).trans y1
  have HB8 := Lib.hid (((HB7.out.trans (hb8.mono HB7.out.size)).setCell (p := ⟨w.heap.size + 1, 0, none⟩) (by show w.heap.size ≤ w.heap.size + 1; omega) (.int .i64 (lowN (exN P c) (exS P.length c 0)))).setCell (p := ⟨w.heap.size + 1, 1, none⟩) (by show w.heap.size ≤ w.heap.size + 1; omega) (.int .i64 (lowD (exN P c) (exS P.length c 0))))
  obtain ⟨t0, t1⟩ := set2 (.int .i64 (lowN (exN P c) (exS P.length c 0))) (.int .i64 (lowD (exN P c) (exS P.length c 0))) x0 x1
  clear hb8
  go_wp2
  exact bodyPost_ret (v := .agg #[.int .i64 (lowN (exN P c) (exS P.length c 0)), .int .i64 (lowD (exN P c) (exS P.length c 0))]) (by simp [results, Tryz.results90, go_sem, t0, t1]) rfl ⟨rfl, HB8.out⟩
end Go.Proofs.YtemblamamgfodaaGreatDoor
