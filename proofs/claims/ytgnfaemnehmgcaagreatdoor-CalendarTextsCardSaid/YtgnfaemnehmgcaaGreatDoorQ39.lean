/- Layer 9 (calendar): the reference's Number: the number of some digits. -/
import Derived.Test.YtgnfaemnehmgcaaGreatDoorQ02
namespace Go.Proofs.YtgnfaemnehmgcaaGreatDoor.Cal
open Go Go.RowKit
attribute [local go_sem] Oper.semAt_some
/-- a byte of a text -/
def bOf (S : ByteArray) (j : Nat) : Nat := (((S.data.toList)[j]?.getD 0 : UInt8).toNat)
theorem bOf_at (S : ByteArray) (j : Nat) (h : j < S.size) : (S[j]'h).toNat = bOf S j := by
  have h2 : j < S.data.toList.length := by simpa using h
  unfold bOf
  rw [List.getElem?_eq_getElem h2, Option.getD_some]
  simp [ByteArray.getElem_eq_getElem_data]
def digB (S : ByteArray) (j : Nat) : Prop := 48 ≤ bOf S j ∧ bOf S j ≤ 57
/-- the number that the first k bytes are -/
def numF (S : ByteArray) : Nat → Int
  | 0 => 0
  | k + 1 => 10 * numF S k + bOf S k - 48
theorem numF_bd (S : ByteArray) : ∀ k, (∀ i, i < k → digB S i) → 0 ≤ numF S k ∧ numF S k < 10 ^ k
  | 0, _ => ⟨Int.le_refl _, by show (0 : Int) < 10 ^ 0; decide⟩
  | k + 1, h => by
    obtain ⟨h1, h2⟩ := numF_bd S k (fun i hi => h i (by omega))
    obtain ⟨h3, h4⟩ := h k (by omega)
    rw [numF, Int.pow_succ]
    omega
theorem pow_four {k : Nat} (h : k < 4) : (10 : Int) ^ k ≤ 1000 := by
  rcases (by omega : k = 0 ∨ k = 1 ∨ k = 2 ∨ k = 3) with rfl | rfl | rfl | rfl <;> decide
set_option maxRecDepth 100000 in
set_option maxHeartbeats 1000000 in
theorem rNumber_yes (S : ByteArray) (n : Nat) (hn : S.size = n) (h4 : n ≤ 4) (hd : ∀ i, i < n → digB S i) (w : World) :
    Calls Tryz.prog 78 #[.string S] w fun e w' => e = .returned (.int .i64 (numF S n)) ∧ w' = w := by
  have HD := Lib.hid hd
  have HN := Lib.hid hn
  have H4 := Lib.hid h4
  have hni : (S.size : Int) = n := by omega
  clear hd
  go_enter Tryz.func78, Tryz.ntmps78
  go_wp2_with fail
  go_loopw [2, 3, 4] (fun s2 s3 s4 wr => ∃ (k : Nat), k ≤ n ∧ s2 = .int .i64 0 ∧ s3 = .int .i64 (numF S k) ∧ s4 = .int .i64 (k : Int) ∧ Hid (wr = w)) (fun _ _ s _ => n - (intOf s).toNat)
  case atStart => exact ⟨0, Nat.zero_le _, rfl, rfl, rfl, Lib.hid rfl⟩
  case round =>
    obtain ⟨k, hk, rfl, rfl, rfl, HB⟩ := hrel
    have h4 := H4.out
    by_cases hlt : k < n
    · have hki : (k : Int) < n := by omega
      have hkS : k < S.size := by omega
      have vk : IntKind.i64.wrap ((k : Int) + 1) = (k : Int) + 1 := IntWalk.i64_in _ (by omega)
      obtain ⟨b0, b9⟩ := numF_bd S k (fun i hi => HD.out i (by omega))
      have hp := pow_four (k := k) (by omega)
      obtain ⟨d0, d9⟩ := HD.out k hlt
      have HNX := Lib.hid (show 10 * numF S k + bOf S k - 48 = numF S (k + 1) from rfl)
      have hcS : (S[k]'hkS).toNat = bOf S k := bOf_at S k hkS
      obtain ⟨z, hz⟩ : ∃ z, numF S k = z := ⟨_, rfl⟩
      obtain ⟨c, hc⟩ : ∃ c, bOf S k = c := ⟨_, rfl⟩
      rw [hz] at HNX b0 b9
      rw [hc] at HNX d0 d9 hcS
      rw [hz]
      have v1 : IntKind.i64.wrap (10 * z) = 10 * z := IntWalk.i64_in _ (by omega)
      have v2 : IntKind.i64.wrap (c : Int) = c := IntWalk.i64_in _ (by omega)
      have v3 : IntKind.i64.wrap (10 * z + c) = 10 * z + c := IntWalk.i64_in _ (by omega)
      have v4 : IntKind.i64.wrap (10 * z + c - 48) = 10 * z + c - 48 := IntWalk.i64_in _ (by omega)
      have g1 : ¬ c < 48 := by omega
      have g2 : ¬ 57 < c := by omega
      have g3 : decide ((c : Int) < 48) = false := by simp; omega
      have g4 : decide ((57 : Int) < c) = false := by simp; omega
      have HK := Lib.hid hlt
      clear b0 b9 hp d0 d9 hlt hz hc
      go_wp2_with fail
      go_roundw
      case rel => exact ⟨k + 1, HK.out, rfl, by rw [← HNX.out], rfl, HB⟩
      case measure => have := HK.out; simp [intOf]; omega
    · obtain rfl : k = n := by omega
      have hki : ¬ ((k : Int) < k) := by omega
      clear hlt
      go_wp2_with fail
      go_ret
      exact ⟨rfl, HB.out⟩
set_option maxRecDepth 100000 in
set_option maxHeartbeats 1000000 in
theorem rNumber_no (S : ByteArray) (n : Nat) (hn : S.size = n) (h4 : n ≤ 4) (m : Nat) (hm : m < n) (hd : ∀ i, i < m → digB S i) (hb : ¬ digB S m) (w : World) :
    Calls Tryz.prog 78 #[.string S] w fun e w' => e = .returned (.int .i64 (-1)) ∧ w' = w := by
  have HD := Lib.hid hd
  have HN := Lib.hid hn
  have H4 := Lib.hid h4
  have hni : (S.size : Int) = n := by omega
  have HBD := Lib.hid hb
  have HM := Lib.hid hm
  clear hd hb hm
  go_enter Tryz.func78, Tryz.ntmps78
  go_wp2_with fail
  go_loopw [2, 3, 4] (fun s2 s3 s4 wr => ∃ (k : Nat), k ≤ m ∧ s2 = .int .i64 0 ∧ s3 = .int .i64 (numF S k) ∧ s4 = .int .i64 (k : Int) ∧ Hid (wr = w)) (fun _ _ s _ => m - (intOf s).toNat)
  case atStart => exact ⟨0, Nat.zero_le _, rfl, rfl, rfl, Lib.hid rfl⟩
  case round =>
    obtain ⟨k, hk, rfl, rfl, rfl, HB⟩ := hrel
    have h4 := H4.out
    have hm := HM.out
    have hki : (k : Int) < n := by omega
    have hkS : k < S.size := by have := HN.out; omega
    obtain ⟨b0, b9⟩ := numF_bd S k (fun i hi => HD.out i (by omega))
    have hp := pow_four (k := k) (by omega)
    by_cases hlt : k < m
    · have vk : IntKind.i64.wrap ((k : Int) + 1) = (k : Int) + 1 := IntWalk.i64_in _ (by omega)
      obtain ⟨d0, d9⟩ := HD.out k hlt
      have HNX := Lib.hid (show 10 * numF S k + bOf S k - 48 = numF S (k + 1) from rfl)
      have hcS : (S[k]'hkS).toNat = bOf S k := bOf_at S k hkS
      obtain ⟨z, hz⟩ : ∃ z, numF S k = z := ⟨_, rfl⟩
      obtain ⟨c, hc⟩ : ∃ c, bOf S k = c := ⟨_, rfl⟩
      rw [hz] at HNX b0 b9
      rw [hc] at HNX d0 d9 hcS
      rw [hz]
      have v1 : IntKind.i64.wrap (10 * z) = 10 * z := IntWalk.i64_in _ (by omega)
      have v2 : IntKind.i64.wrap (c : Int) = c := IntWalk.i64_in _ (by omega)
      have v3 : IntKind.i64.wrap (10 * z + c) = 10 * z + c := IntWalk.i64_in _ (by omega)
      have v4 : IntKind.i64.wrap (10 * z + c - 48) = 10 * z + c - 48 := IntWalk.i64_in _ (by omega)
      have g1 : ¬ c < 48 := by omega
      have g2 : ¬ 57 < c := by omega
      have g3 : decide ((c : Int) < 48) = false := by simp; omega
      have g4 : decide ((57 : Int) < c) = false := by simp; omega
      have HK := Lib.hid hlt
      clear b0 b9 hp d0 d9 hlt hz hc
      go_wp2_with fail
      go_roundw
      case rel => exact ⟨k + 1, HK.out, rfl, by rw [← HNX.out], rfl, HB⟩
      case measure => have := HK.out; simp [intOf]; omega
    · obtain rfl : k = m := by omega
      have hcS : (S[k]'hkS).toNat = bOf S k := bOf_at S k hkS
      obtain ⟨c, hc⟩ : ∃ c, bOf S k = c := ⟨_, rfl⟩
      have hnd : ¬ (48 ≤ c ∧ c ≤ 57) := by rw [← hc]; exact HBD.out
      rw [hc] at hcS
      clear hlt hc hp b0 b9
      by_cases g1 : c < 48
      · have g3 : decide ((c : Int) < 48) = true := by simp; omega
        clear hnd
        go_wp2_with fail
        go_ret
        exact ⟨rfl, HB.out⟩
      · have g2 : 57 < c := by omega
        have g3 : decide ((c : Int) < 48) = false := by simp; omega
        have g4 : decide ((57 : Int) < c) = true := by simp; omega
        clear hnd
        go_wp2_with fail
        go_ret
        exact ⟨rfl, HB.out⟩
theorem first_bad (S : ByteArray) : ∀ n, (∀ i, i < n → digB S i) ∨ ∃ m, m < n ∧ (∀ i, i < m → digB S i) ∧ ¬ digB S m
  | 0 => .inl fun i hi => absurd hi (Nat.not_lt_zero i)
  | n + 1 => by
    rcases first_bad S n with h | ⟨m, hm, h1, h2⟩
    · by_cases e : digB S n
      · exact .inl fun i hi => if e2 : i = n then e2 ▸ e else h i (by omega)
      · exact .inr ⟨n, by omega, h, e⟩
    · exact .inr ⟨m, by omega, h1, h2⟩
/-- what Number returns -/
def NumIs (T : ByteArray) (v : Int) : Prop := ((∀ i, i < T.size → digB T i) ∧ v = numF T T.size ∧ 0 ≤ v) ∨ ((∃ i, i < T.size ∧ ¬ digB T i) ∧ v = -1)
theorem num_ex (T : ByteArray) (h4 : T.size ≤ 4) : ∃ v, NumIs T v ∧ ∀ w, Calls Tryz.prog 78 #[.string T] w fun e w' => e = .returned (.int .i64 v) ∧ w' = w := by
  rcases first_bad T T.size with h | ⟨m, hm, h1, h2⟩
  · exact ⟨_, .inl ⟨h, rfl, (numF_bd T _ h).1⟩, fun w => rNumber_yes T T.size rfl h4 h w⟩
  · exact ⟨_, .inr ⟨⟨m, hm, h2⟩, rfl⟩, fun w => rNumber_no T T.size rfl h4 m hm h1 h2 w⟩
end Go.Proofs.YtgnfaemnehmgcaaGreatDoor.Cal
