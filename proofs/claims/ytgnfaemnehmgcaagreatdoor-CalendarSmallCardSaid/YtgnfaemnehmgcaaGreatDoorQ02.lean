/-  ·  ·  -/
import Derived.Test.YtgnfaemnehmgcaaGreatDoorQ01
import Derived.WalkKit
import Derived.Handy
import Derived.Lib.Hide
import Derived.WalkSmall
import Derived.Deep.QuietTactic
import Derived.BigQuiet
import Derived.Outline
import Derived.LoopTactic
import Derived.IntWalk
import Derived.StillTailTactics
import Derived.Deep.RegionHeld3
import Derived.Laws.EntriesVeiled
import Derived.Deep.CutRange
import Derived.Deep.AppendLies
import Derived.Maps.AppendAt
namespace Go.Proofs.YtgnfaemnehmgcaaGreatDoor.Cal
open Go Go.RowKit
attribute [local go_sem] Oper.semAt_some
theorem ret_i64 {a b : Int} (h : a = b) : Ending.returned (.int .i64 a) = .returned (.int .i64 b) := by rw [h]
theorem ret_bool {a b : Bool} (h : a = b) : Ending.returned (.bool a) = .returned (.bool b) := by rw [h]
theorem cell_lt {w : World} {b o : Nat} {v : Value} (h : w.cell? ⟨b, o, none⟩ = some v) : b < w.heap.size := World.block_lt_of_cell? w ⟨b, o, none⟩ h
theorem cell_below {w w' : World} {b o : Nat} {v : Value} (hb : Below w.heap.size w w') (h : w.cell? ⟨b, o, none⟩ = some v) : w'.cell? ⟨b, o, none⟩ = some v :=
  (hb.cell (p := ⟨b, o, none⟩) (cell_lt h)).trans h
theorem below_alloc {X Y : World} (h : Below X.heap.size X Y) (o : Obj) : Below X.heap.size X (Y.alloc o) := h.alloc h.size o
theorem below_drewN {X Y : World} (h : Below X.heap.size X Y) (n : Nat) : Below X.heap.size X (Y.drewN n) := h.trans ⟨rfl, rfl, rfl, Nat.le_refl _, fun _ _ => rfl⟩
theorem bt {X Y Z : World} (h : Below X.heap.size X Y) (k : Below Y.heap.size Y Z) : Below X.heap.size X Z := h.trans (k.mono h.size)
def Mon (w : World) : Prop := ∀ i : Nat, i < 12 → w.cell? ⟨0, i, none⟩ = some (.int .i64 (mon ((i + 1 : Nat) : Int)))
theorem Mon.below {w w' : World} (h : Mon w) (hb : Below w.heap.size w w') : Mon w' := fun i hi => cell_below hb (h i hi)
theorem tmod_bd (a b : Int) (hb : 1 ≤ b) : -b < a.tmod b ∧ a.tmod b < b := by
  have h1 := Int.natAbs_tmod a b
  have h2 := Nat.mod_lt a.natAbs (show 0 < b.natAbs by omega)
  omega
theorem tdiv_bd (a b : Int) (hb : 1 ≤ b) (h1 : -9223372036854775807 ≤ a) (h2 : a ≤ 9223372036854775807) : -9223372036854775807 ≤ a.tdiv b ∧ a.tdiv b ≤ 9223372036854775807 := by
  rw [tdiv_eq_if]
  split
  · rename_i hx; have := IntWalk.tdiv_le a b hx hb; omega
  · rename_i hx; have := IntWalk.tdiv_le (-a) b (by omega) hb; omega
theorem floor_neg (a b : Int) (hb : 1 ≤ b) (h : a.tmod b < 0) : a.tdiv b - 1 = a / b := by
  have h1 := Int.tmod_add_mul_tdiv a b
  have h2 := tmod_bd a b hb
  symm
  refine Int.ediv_eq_iff_of_pos (by omega) |>.2 ⟨?_, ?_⟩ <;> grind
theorem floor_pos (a b : Int) (hb : 1 ≤ b) (h : ¬ a.tmod b < 0) : a.tdiv b = a / b := by
  have h1 := Int.tmod_add_mul_tdiv a b
  have h2 := tmod_bd a b hb
  symm
  refine Int.ediv_eq_iff_of_pos (by omega) |>.2 ⟨?_, ?_⟩ <;> grind
theorem modulo_neg (a b : Int) (hb : 1 ≤ b) (h : a.tmod b < 0) : a.tmod b + b = a % b := by
  have h1 := Int.tmod_add_mul_tdiv a b
  have h2 := floor_neg a b hb h
  have h3 := Int.emod_add_mul_ediv a b
  rw [← h2] at h3
  grind
theorem modulo_pos (a b : Int) (hb : 1 ≤ b) (h : ¬ a.tmod b < 0) : a.tmod b = a % b := by
  have h1 := Int.tmod_add_mul_tdiv a b
  have h2 := floor_pos a b hb h
  have h3 := Int.emod_add_mul_ediv a b
  rw [← h2] at h3
  grind
theorem within_any (n lo hi : Int) (w : World) :
    Calls Tryz.prog 67 #[.int .i64 n, .int .i64 lo, .int .i64 hi] w fun e w' => e = .returned (.bool (decide (lo ≤ n) && decide (n ≤ hi))) ∧ w = w' := by
  by_cases h : lo ≤ n
  · have E := Lib.hid (show decide (n ≤ hi) = (decide (lo ≤ n) && decide (n ≤ hi)) by simp [h])
    go_enter Tryz.func67, Tryz.ntmps67
    go_wp2
    go_ret
    exact ⟨ret_bool E.out, rfl⟩
  · have E := Lib.hid (show false = (decide (lo ≤ n) && decide (n ≤ hi)) by simp [h])
    go_enter Tryz.func67, Tryz.ntmps67
    go_wp2
    go_ret
    exact ⟨ret_bool E.out, rfl⟩
theorem index_any (n c : Int) (w : World) (hc : -9223372036854775807 ≤ c ∧ c ≤ 9223372036854775807) :
    Calls Tryz.prog 111 #[.int .i64 n, .int .i64 c] w fun e w' => e = .returned (.bool (decide (0 ≤ n) && decide (n ≤ c - 1))) ∧ w = w' := by
  have k1 : IntKind.i64.wrap (c - 1) = c - 1 := IntWalk.i64_in _ (by omega)
  go_enter Tryz.func111, Tryz.ntmps111
  go_wp2_with (go_at_call 67; refine (within_any _ _ _ _).mono ?_; rintro e w' ⟨rfl, rfl⟩)
  go_ret
  exact ⟨rfl, rfl⟩
theorem floor_any (a b : Int) (w : World) (h1 : -9000000000000000000 ≤ a ∧ a ≤ 9000000000000000000) (hb : 1 ≤ b ∧ b ≤ 9223372036854775807) :
    Calls Tryz.prog 86 #[.int .i64 a, .int .i64 b] w fun e w' => e = .returned (.int .i64 (a / b)) ∧ w = w' := by
  have hd := tdiv_bd a b hb.1 (by omega) (by omega)
  have hm := tmod_bd a b hb.1
  have hne : (b == 0) = false := by simp; omega
  have hnz : ¬ b = 0 := by omega
  have k1 : IntKind.i64.wrap (a.tdiv b) = a.tdiv b := IntWalk.i64_in _ (by omega)
  have k2 : IntKind.i64.wrap (a.tmod b) = a.tmod b := IntWalk.i64_in _ (by omega)
  by_cases h : a.tmod b < 0
  · have H := Lib.hid (floor_neg a b hb.1 h)
    have k3 : IntKind.i64.wrap (a.tdiv b - 1) = a.tdiv b - 1 := by
      refine IntWalk.i64_in _ ?_
      have h2 : -9000000000000000000 ≤ a.tdiv b := by
        rw [tdiv_eq_if]
        split
        · rename_i hx; have := IntWalk.tdiv_le a b hx hb.1; omega
        · rename_i hx; have := IntWalk.tdiv_le (-a) b (by omega) hb.1; omega
      omega
    clear hd hm
    go_enter Tryz.func86, Tryz.ntmps86
    go_wp2
    go_ret
    exact ⟨ret_i64 H.out, rfl⟩
  · have H := Lib.hid (floor_pos a b hb.1 h)
    clear hd hm
    go_enter Tryz.func86, Tryz.ntmps86
    go_wp2
    go_ret
    exact ⟨ret_i64 H.out, rfl⟩
theorem ceil_pos4 (a : Int) (h : 0 < a.tmod 4) : a.tdiv 4 + 1 = (a + 3) / 4 := by
  have h1 := Int.tmod_add_mul_tdiv a 4
  have h2 := tmod_bd a 4 (by decide)
  omega
theorem ceil_neg4 (a : Int) (h : ¬ 0 < a.tmod 4) : a.tdiv 4 = (a + 3) / 4 := by
  have h1 := Int.tmod_add_mul_tdiv a 4
  have h2 := tmod_bd a 4 (by decide)
  omega
theorem ceil4_any (a : Int) (w : World) (h1 : -900000000 ≤ a ∧ a ≤ 900000000) :
    Calls Tryz.prog 127 #[.int .i64 a, .int .i64 4] w fun e w' => e = .returned (.int .i64 ((a + 3) / 4)) ∧ w = w' := by
  have hd := tdiv_bd a 4 (by decide) (by omega) (by omega)
  have hm := tmod_bd a 4 (by decide)
  have k1 : IntKind.i64.wrap (a.tdiv 4) = a.tdiv 4 := IntWalk.i64_in _ (by omega)
  have k2 : IntKind.i64.wrap (a.tmod 4) = a.tmod 4 := IntWalk.i64_in _ (by omega)
  by_cases h : 0 < a.tmod 4
  · have H := Lib.hid (ceil_pos4 a h)
    have k3 : IntKind.i64.wrap (a.tdiv 4 + 1) = a.tdiv 4 + 1 := by rw [H.out]; exact IntWalk.i64_in _ (by omega)
    clear hd hm
    go_enter Tryz.func127, Tryz.ntmps127
    go_wp2
    go_ret
    exact ⟨ret_i64 H.out, rfl⟩
  · have H := Lib.hid (ceil_neg4 a h)
    clear hd hm
    go_enter Tryz.func127, Tryz.ntmps127
    go_wp2
    go_ret
    exact ⟨ret_i64 H.out, rfl⟩
theorem isDay_any (n : Int) (w : World) :
    Calls Tryz.prog 79 #[.int .i64 n] w fun e w' => e = .returned (.bool (decide (41317 ≤ n) && decide (n ≤ 88068))) ∧ w = w' := by
  go_enter Tryz.func79, Tryz.ntmps79
  go_wp2_with (go_at_call 67; refine (within_any _ _ _ _).mono ?_; rintro e w' ⟨rfl, rfl⟩)
  go_ret
  exact ⟨rfl, rfl⟩
theorem monthDays_any (y : Int) (m : Nat) (w : World) (hw : Mon w) (hy : 0 ≤ y) (h1 : 1 ≤ m) (h2 : m ≤ 12) :
    Calls Tryz.prog 68 #[.int .i64 y, .int .i64 (m : Int)] w fun e w' => e = .returned (.int .i64 (dm y m)) ∧ w = w' := by
  have hc := hw (m - 1) (by omega)
  rw [show m - 1 + 1 = m by omega] at hc
  have zc := cell_lt hc
  have k0 : ((m : Int) - 1).toNat = m - 1 := by omega
  have k1 : IntKind.i64.wrap ((m : Int) - 1) = (m : Int) - 1 := IntWalk.i64_in _ (by omega)
  have k2 : 0 ≤ (m : Int) - 1 := by omega
  have k3 : (m : Int) - 1 < 12 := by omega
  by_cases e2 : m = 2
  · subst e2
    by_cases e4 : y % 4 = 0
    · have H := Lib.hid (show 29 = dm y ((2 : Nat) : Int) by unfold dm; rw [if_pos ⟨by decide, e4⟩])
      clear k0 k1 k2 k3 hc
      go_enter Tryz.func68, Tryz.ntmps68
      go_wp2
      go_ret
      exact ⟨ret_i64 H.out, rfl⟩
    · have H := Lib.hid (show mon ((2 : Nat) : Int) = dm y ((2 : Nat) : Int) by unfold dm; rw [if_neg (by omega)])
      have hc' : w.cell? ⟨0, 1, none⟩ = some (.int .i64 (mon ((2 : Nat) : Int))) := hc
      clear k0 k1 k2 k3 hc
      generalize mon ((2 : Nat) : Int) = v at *
      go_enter Tryz.func68, Tryz.ntmps68
      go_wp2
      go_ret
      exact ⟨ret_i64 H.out, rfl⟩
  · have H := Lib.hid (show mon (m : Int) = dm y (m : Int) by unfold dm; rw [if_neg (by omega)])
    have k5 : ((m : Int) == 2) = false := by simp; omega
    have k6 : ¬ (m : Int) = 2 := by omega
    generalize mon (m : Int) = v at *
    go_enter Tryz.func68, Tryz.ntmps68
    go_wp2
    go_ret
    exact ⟨ret_i64 H.out, rfl⟩
theorem newYear_any (y : Int) (w : World) (hy : 1900 ≤ y ∧ y ≤ 2200) :
    Calls Tryz.prog 69 #[.int .i64 y] w fun e w' => e = .returned (.int .i64 (ny y)) ∧ w = w' := by
  have k1 : IntKind.i64.wrap (y - 1972) = y - 1972 := IntWalk.i64_in _ (by omega)
  have k2 : IntKind.i64.wrap (1461 * (y - 1972)) = 1461 * (y - 1972) := IntWalk.i64_in _ (by omega)
  go_enter Tryz.func69, Tryz.ntmps69
  go_wp2_with (go_at_call 127; refine (ceil4_any _ _ (by omega)).mono ?_; rintro e w' ⟨rfl, rfl⟩)
  go_ret
  exact ⟨rfl, rfl⟩
theorem yearOf_any (n : Int) (w : World) (hn : 40000 ≤ n ∧ n ≤ 90000) :
    Calls Tryz.prog 81 #[.int .i64 n] w fun e w' => e = .returned (.int .i64 (yr n)) ∧ w = w' := by
  have k1 : IntKind.i64.wrap (n - 41317) = n - 41317 := IntWalk.i64_in _ (by omega)
  have k2 : IntKind.i64.wrap (4 * (n - 41317)) = 4 * (n - 41317) := IntWalk.i64_in _ (by omega)
  go_enter Tryz.func81, Tryz.ntmps81
  go_wp2_with (go_at_call 86; refine (floor_any _ _ _ (by omega) (by decide)).mono ?_; rintro e w' ⟨rfl, rfl⟩)
  go_ret
  exact ⟨rfl, rfl⟩
theorem weekday_any (n : Int) (w : World) (hn : 41317 ≤ n ∧ n ≤ 90000) :
    Calls Tryz.prog 80 #[.int .i64 n] w fun e w' => e = .returned (.int .i64 (wd n)) ∧ w = w' := by
  go_enter Tryz.func80, Tryz.ntmps80
  go_wp2
  go_ret
  exact ⟨rfl, rfl⟩
theorem civil_any {n y : Int} {m : Nat} {d : Int} (w : World) (hw : Mon w) (h : IsCiv n y m d) :
    Calls Tryz.prog 89 #[.int .i64 n] w fun e w' => e = .returned (.tuple #[.int .i64 y, .int .i64 (m : Int), .int .i64 d]) ∧ w = w' := by
  have hnb := h.n_bd
  have hy1 := h.y1
  have hy2 := h.y2
  have hnyb := ny_bd y ⟨hy1, hy2⟩
  have HYR := Lib.hid h.yr_
  have HCI := Lib.hid h
  have HW := Lib.hid hw
  have k0 : IntKind.i64.wrap (n - ny y) = n - ny y := by have := cm_nonneg y 12; exact IntWalk.i64_in _ (by omega)
  clear h hw
  go_enter Tryz.func89, Tryz.ntmps89
  go_wp2_with (first | (go_at_call 81; refine (yearOf_any _ _ (by omega)).mono ?_; rintro e w' ⟨rfl, rfl⟩; rw [HYR.out]) | (go_at_call 69; refine (newYear_any _ _ (by omega)).mono ?_; rintro e w' ⟨rfl, rfl⟩))
  go_loop [6, 7] (fun s6 s7 => ∃ k : Nat, 1 ≤ k ∧ k ≤ m ∧ s6 = .int .i64 (k : Int) ∧ s7 = .int .i64 (n - (ny y + cm y (k - 1)))) (fun s _ => 13 - (intOf s).toNat)
  case atStart => exact ⟨1, by omega, HCI.out.m1, rfl, by simp [cm]⟩
  case round =>
    obtain ⟨k, hk1, hk2, rfl, rfl⟩ := hrel
    have hm2 := HCI.out.m2
    have hmb := cm_le y (k - 1) (by omega)
    have hmn := cm_nonneg y (k - 1)
    have hdb := dm_bd y k
    have vk : IntKind.i64.wrap ((k : Int) + 1) = (k : Int) + 1 := IntWalk.i64_in _ (by omega)
    have HMD := Lib.hid (monthDays_any y k w HW.out (by omega) hk1 (by omega))
    by_cases hlt : k < m
    · have hle := HCI.out.on (yy := y) (k := k) ⟨hk1, by omega⟩ (by omega)
      have HE := Lib.hid (show n - (ny y + cm y (k - 1)) - dm y k = n - (ny y + cm y (k + 1 - 1)) by have := cm_pred y k hk1; rw [Nat.add_sub_cancel]; omega)
      have HK := Lib.hid (And.intro hlt hk1)
      clear hlt hk1 hk2
      generalize dm y (k : Int) = dd at *
      generalize cm y (k - 1) = cc at *
      go_wp2_with (go_at_call 68; refine HMD.out.mono ?_; rintro e w' ⟨rfl, rfl⟩)
      go_round
      case rel => exact ⟨k + 1, by omega, HK.out.1, by simp, by rw [HE.out]⟩
      case measure => have := HK.out; simp [intOf]; omega
    · obtain rfl : k = m := by omega
      have hle := HCI.out.off
      have HE := Lib.hid HCI.out.rest
      have ve : IntKind.i64.wrap (n - (ny y + cm y (k - 1)) + 1) = n - (ny y + cm y (k - 1)) + 1 := by have := cm_nonneg y 12; exact IntWalk.i64_in _ (by omega)
      clear hlt hk1 hk2
      generalize dm y (k : Int) = dd at *
      generalize cm y (k - 1) = cc at *
      go_wp2_with (go_at_call 68; refine HMD.out.mono ?_; rintro e w' ⟨rfl, rfl⟩)
      exact bodyPost_ret (v := .tuple #[.int .i64 y, .int .i64 (k : Int), .int .i64 (n - (ny y + cc) + 1)]) (by simp [results, Tryz.results89, go_sem]) rfl ⟨by rw [HE.out], rfl⟩
end Go.Proofs.YtgnfaemnehmgcaaGreatDoor.Cal
namespace Go.Proofs.YtgnfaemnehmgcaaGreatDoor.Cal
open Go Go.RowKit
attribute [local go_sem] Oper.semAt_some
theorem in_any (n lo hi : Int) (w : World) :
    Calls Tryz.prog 90 #[.int .i64 n, .int .i64 lo, .int .i64 hi] w fun e w' => e = .returned (.bool (decide (lo ≤ n) && decide (n ≤ hi))) ∧ w = w' := by
  by_cases h : lo ≤ n
  · have E := Lib.hid (show decide (n ≤ hi) = (decide (lo ≤ n) && decide (n ≤ hi)) by simp [h])
    go_enter Tryz.func90, Tryz.ntmps90
    go_wp2
    go_ret
    exact ⟨ret_bool E.out, rfl⟩
  · have E := Lib.hid (show false = (decide (lo ≤ n) && decide (n ≤ hi)) by simp [h])
    go_enter Tryz.func90, Tryz.ntmps90
    go_wp2
    go_ret
    exact ⟨ret_bool E.out, rfl⟩
end Go.Proofs.YtgnfaemnehmgcaaGreatDoor.Cal
namespace Go.Proofs.YtgnfaemnehmgcaaGreatDoor.Cal
open Go Go.RowKit
attribute [local go_sem] Oper.semAt_some
def bOf (S : ByteArray) (j : Nat) : Nat := (((S.data.toList)[j]?.getD 0 : UInt8).toNat)
theorem bOf_at (S : ByteArray) (j : Nat) (h : j < S.size) : (S[j]'h).toNat = bOf S j := by
  have h2 : j < S.data.toList.length := by simpa using h
  unfold bOf
  rw [List.getElem?_eq_getElem h2, Option.getD_some]
  simp [ByteArray.getElem_eq_getElem_data]
def digB (S : ByteArray) (j : Nat) : Prop := 48 ≤ bOf S j ∧ bOf S j ≤ 57
def numF (S : ByteArray) : Nat → Int
  | 0 => 0
  | k + 1 => 10 * numF S k + bOf S k - 48
theorem numF_bd (S : ByteArray) : ∀ k, (∀ i, i < k → digB S i) → 0 ≤ numF S k ∧ numF S k < 10 ^ k
  | 0, _ => ⟨Int.le_refl _, by show (0 : Int) < 10 ^ 0; decide⟩
  | k + 1, h => by
    obtain ⟨h1, h2⟩ := numF_bd S k (fun i hi => h i (by omega))
    obtain ⟨h3, h4⟩ := h k (by omega)
    rw [numF, Int.pow_succ]
    omega
theorem pow_four {k : Nat} (h : k < 4) : (10 : Int) ^ k ≤ 1000 := by
  rcases (by omega : k = 0 ∨ k = 1 ∨ k = 2 ∨ k = 3) with rfl | rfl | rfl | rfl <;> decide
set_option maxRecDepth 100000 in
set_option maxHeartbeats 1000000 in
theorem rNumber_yes (S : ByteArray) (n : Nat) (hn : S.size = n) (h4 : n ≤ 4) (hd : ∀ i, i < n → digB S i) (w : World) :
    Calls Tryz.prog 78 #[.string S] w fun e w' => e = .returned (.int .i64 (numF S n)) ∧ w' = w := by
  have HD := Lib.hid hd
  have HN := Lib.hid hn
  have H4 := Lib.hid h4
  have hni : (S.size : Int) = n := by omega
  clear hd
  go_enter Tryz.func78, Tryz.ntmps78
  go_wp2_with fail
  go_loopw [2, 3, 4] (fun s2 s3 s4 wr => ∃ (k : Nat), k ≤ n ∧ s2 = .int .i64 0 ∧ s3 = .int .i64 (numF S k) ∧ s4 = .int .i64 (k : Int) ∧ Hid (wr = w)) (fun _ _ s _ => n - (intOf s).toNat)
  case atStart => exact ⟨0, Nat.zero_le _, rfl, rfl, rfl, Lib.hid rfl⟩
  case round =>
    obtain ⟨k, hk, rfl, rfl, rfl, HB⟩ := hrel
    have h4 := H4.out
    by_cases hlt : k < n
    · have hki : (k : Int) < n := by omega
      have hkS : k < S.size := by omega
      have vk : IntKind.i64.wrap ((k : Int) + 1) = (k : Int) + 1 := IntWalk.i64_in _ (by omega)
      obtain ⟨b0, b9⟩ := numF_bd S k (fun i hi => HD.out i (by omega))
      have hp := pow_four (k := k) (by omega)
      obtain ⟨d0, d9⟩ := HD.out k hlt
      have HNX := Lib.hid (show 10 * numF S k + bOf S k - 48 = numF S (k + 1) from rfl)
      have hcS : (S[k]'hkS).toNat = bOf S k := bOf_at S k hkS
      obtain ⟨z, hz⟩ : ∃ z, numF S k = z := ⟨_, rfl⟩
      obtain ⟨c, hc⟩ : ∃ c, bOf S k = c := ⟨_, rfl⟩
      rw [hz] at HNX b0 b9
      rw [hc] at HNX d0 d9 hcS
      rw [hz]
      have v1 : IntKind.i64.wrap (10 * z) = 10 * z := IntWalk.i64_in _ (by omega)
      have v2 : IntKind.i64.wrap (c : Int) = c := IntWalk.i64_in _ (by omega)
      have v3 : IntKind.i64.wrap (10 * z + c) = 10 * z + c := IntWalk.i64_in _ (by omega)
      have v4 : IntKind.i64.wrap (10 * z + c - 48) = 10 * z + c - 48 := IntWalk.i64_in _ (by omega)
      have g1 : ¬ c < 48 := by omega
      have g2 : ¬ 57 < c := by omega
      have g3 : decide ((c : Int) < 48) = false := by simp; omega
      have g4 : decide ((57 : Int) < c) = false := by simp; omega
      have HK := Lib.hid hlt
      clear b0 b9 hp d0 d9 hlt hz hc
      go_wp2_with fail
      go_roundw
      case rel => exact ⟨k + 1, HK.out, rfl, by rw [← HNX.out], rfl, HB⟩
      case measure => have := HK.out; simp [intOf]; omega
    · obtain rfl : k = n := by omega
      have hki : ¬ ((k : Int) < k) := by omega
      clear hlt
      go_wp2_with fail
      go_ret
      exact ⟨rfl, HB.out⟩
set_option maxRecDepth 100000 in
set_option maxHeartbeats 1000000 in
theorem rNumber_no (S : ByteArray) (n : Nat) (hn : S.size = n) (h4 : n ≤ 4) (m : Nat) (hm : m < n) (hd : ∀ i, i < m → digB S i) (hb : ¬ digB S m) (w : World) :
    Calls Tryz.prog 78 #[.string S] w fun e w' => e = .returned (.int .i64 (-1)) ∧ w' = w := by
  have HD := Lib.hid hd
  have HN := Lib.hid hn
  have H4 := Lib.hid h4
  have hni : (S.size : Int) = n := by omega
  have HBD := Lib.hid hb
  have HM := Lib.hid hm
  clear hd hb hm
  go_enter Tryz.func78, Tryz.ntmps78
  go_wp2_with fail
  go_loopw [2, 3, 4] (fun s2 s3 s4 wr => ∃ (k : Nat), k ≤ m ∧ s2 = .int .i64 0 ∧ s3 = .int .i64 (numF S k) ∧ s4 = .int .i64 (k : Int) ∧ Hid (wr = w)) (fun _ _ s _ => m - (intOf s).toNat)
  case atStart => exact ⟨0, Nat.zero_le _, rfl, rfl, rfl, Lib.hid rfl⟩
  case round =>
    obtain ⟨k, hk, rfl, rfl, rfl, HB⟩ := hrel
    have h4 := H4.out
    have hm := HM.out
    have hki : (k : Int) < n := by omega
    have hkS : k < S.size := by have := HN.out; omega
    obtain ⟨b0, b9⟩ := numF_bd S k (fun i hi => HD.out i (by omega))
    have hp := pow_four (k := k) (by omega)
    by_cases hlt : k < m
    · have vk : IntKind.i64.wrap ((k : Int) + 1) = (k : Int) + 1 := IntWalk.i64_in _ (by omega)
      obtain ⟨d0, d9⟩ := HD.out k hlt
      have HNX := Lib.hid (show 10 * numF S k + bOf S k - 48 = numF S (k + 1) from rfl)
      have hcS : (S[k]'hkS).toNat = bOf S k := bOf_at S k hkS
      obtain ⟨z, hz⟩ : ∃ z, numF S k = z := ⟨_, rfl⟩
      obtain ⟨c, hc⟩ : ∃ c, bOf S k = c := ⟨_, rfl⟩
      rw [hz] at HNX b0 b9
      rw [hc] at HNX d0 d9 hcS
      rw [hz]
      have v1 : IntKind.i64.wrap (10 * z) = 10 * z := IntWalk.i64_in _ (by omega)
      have v2 : IntKind.i64.wrap (c : Int) = c := IntWalk.i64_in _ (by omega)
      have v3 : IntKind.i64.wrap (10 * z + c) = 10 * z + c := IntWalk.i64_in _ (by omega)
      have v4 : IntKind.i64.wrap (10 * z + c - 48) = 10 * z + c - 48 := IntWalk.i64_in _ (by omega)
      have g1 : ¬ c < 48 := by omega
      have g2 : ¬ 57 < c := by omega
      have g3 : decide ((c : Int) < 48) = false := by simp; omega
      have g4 : decide ((57 : Int) < c) = false := by simp; omega
      have HK := Lib.hid hlt
      clear b0 b9 hp d0 d9 hlt hz hc
      go_wp2_with fail
      go_roundw
      case rel => exact ⟨k + 1, HK.out, rfl, by rw [← HNX.out], rfl, HB⟩
      case measure => have := HK.out; simp [intOf]; omega
    · obtain rfl : k = m := by omega
      have hcS : (S[k]'hkS).toNat = bOf S k := bOf_at S k hkS
      obtain ⟨c, hc⟩ : ∃ c, bOf S k = c := ⟨_, rfl⟩
      have hnd : ¬ (48 ≤ c ∧ c ≤ 57) := by rw [← hc]; exact HBD.out
      rw [hc] at hcS
      clear hlt hc hp b0 b9
      by_cases g1 : c < 48
      · have g3 : decide ((c : Int) < 48) = true := by simp; omega
        clear hnd
        go_wp2_with fail
        go_ret
        exact ⟨rfl, HB.out⟩
      · have g2 : 57 < c := by omega
        have g3 : decide ((c : Int) < 48) = false := by simp; omega
        have g4 : decide ((57 : Int) < c) = true := by simp; omega
        clear hnd
        go_wp2_with fail
        go_ret
        exact ⟨rfl, HB.out⟩
theorem first_bad (S : ByteArray) : ∀ n, (∀ i, i < n → digB S i) ∨ ∃ m, m < n ∧ (∀ i, i < m → digB S i) ∧ ¬ digB S m
  | 0 => .inl fun i hi => absurd hi (Nat.not_lt_zero i)
  | n + 1 => by
    rcases first_bad S n with h | ⟨m, hm, h1, h2⟩
    · by_cases e : digB S n
      · exact .inl fun i hi => if e2 : i = n then e2 ▸ e else h i (by omega)
      · exact .inr ⟨n, by omega, h, e⟩
    · exact .inr ⟨m, by omega, h1, h2⟩
def NumIs (T : ByteArray) (v : Int) : Prop := ((∀ i, i < T.size → digB T i) ∧ v = numF T T.size ∧ 0 ≤ v) ∨ ((∃ i, i < T.size ∧ ¬ digB T i) ∧ v = -1)
theorem num_ex (T : ByteArray) (h4 : T.size ≤ 4) : ∃ v, NumIs T v ∧ ∀ w, Calls Tryz.prog 78 #[.string T] w fun e w' => e = .returned (.int .i64 v) ∧ w' = w := by
  rcases first_bad T T.size with h | ⟨m, hm, h1, h2⟩
  · exact ⟨_, .inl ⟨h, rfl, (numF_bd T _ h).1⟩, fun w => rNumber_yes T T.size rfl h4 h w⟩
  · exact ⟨_, .inr ⟨⟨m, hm, h2⟩, rfl⟩, fun w => rNumber_no T T.size rfl h4 m hm h1 h2 w⟩
end Go.Proofs.YtgnfaemnehmgcaaGreatDoor.Cal
