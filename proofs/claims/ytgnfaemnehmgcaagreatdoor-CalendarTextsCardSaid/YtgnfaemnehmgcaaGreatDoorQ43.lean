/- Layer 9 (calendar): what Extend needs: the first error of some, lists of leaps that are compared. -/
import Derived.Test.YtgnfaemnehmgcaaGreatDoorQ18
import Derived.Test.YtgnfaemnehmgcaaGreatDoorQ19
import Derived.Test.YtgnfaemnehmgcaaGreatDoorQ09
namespace Go.Proofs.YtgnfaemnehmgcaaGreatDoor.Cal
open Go Go.RowKit
attribute [local go_sem] Oper.semAt_some
/-- the first of some numbers that is not 0 -/
def orF (f : Nat → Int) : Nat → Int
  | 0 => 0
  | k + 1 => if orF f k = 0 then f k else orF f k
theorem orF_stop {f : Nat → Int} {k : Nat} (h : orF f k = 0) (hk : f k ≠ 0) : ∀ n, k < n → orF f n = f k := by
  intro n
  induction n with
  | zero => intro h; omega
  | succ n ih =>
    intro hn
    by_cases e : k = n
    · subst e; rw [orF, if_pos h]
    · have hi := ih (by omega)
      rw [orF, if_neg (by rw [hi]; exact hk), hi]
set_option maxHeartbeats 1000000 in
theorem or_any (f : Nat → Int) (n c : Nat) (p : Option Addr) (w : World) (hn : n ≤ 1000000000) (hs : FnIn w f n p) :
    Calls Tryz.prog 71 #[.slice p n c] w fun e w' => e = .returned (.int .i64 (orF f n)) ∧ Below w.heap.size w w' := by
  have H1 := Lib.hid hs
  clear hs
  go_enter Tryz.func71, Tryz.ntmps71
  go_wp2_with fail
  go_loopw [2, 5, 8] (fun s2 s5 s8 wr => ∃ (k : Nat) (v5 : Value), k ≤ n ∧ s2 = .int .i64 0 ∧ s5 = v5 ∧ s8 = .int .i64 (k : Int) ∧ Hid (orF f k = 0) ∧ Hid (Below w.heap.size w wr)) (fun _ _ s _ => n - (intOf s).toNat)
  case atStart => exact ⟨0, _, Nat.zero_le _, rfl, rfl, rfl, Lib.hid rfl, Lib.hid (Below.refl _ _)⟩
  case round =>
    obtain ⟨k, v5, hk, rfl, rfl, rfl, HO, HB⟩ := hrel
    by_cases hlt : k < n
    · have hki : (k : Int) < n := by omega
      have vk : IntKind.i64.wrap ((k : Int) + 1) = (k : Int) + 1 := IntWalk.i64_in _ (by omega)
      obtain ⟨b1, o1, rfl, hi1⟩ := H1.out.resolve_left (by omega)
      have x1 := cell_below HB.out (hi1 k hlt)
      have z1 := cell_lt x1
      have HST := Lib.hid (fun h => orF_stop (f := f) HO.out h n hlt)
      have HNX := Lib.hid (show f k = 0 → orF f (k + 1) = 0 from fun h => by rw [orF, if_pos HO.out]; exact h)
      have HK := Lib.hid hlt
      clear hlt hi1
      generalize f k = a at *
      by_cases h0 : a = 0
      · subst h0
        go_wp2_with fail
        go_roundw
        case rel => exact ⟨k + 1, _, HK.out, rfl, rfl, by simp, Lib.hid (HNX.out rfl), HB⟩
        case measure => have := HK.out; simp [intOf]; omega
      · have h0b : (a == 0) = false := by simpa using h0
        have HV := Lib.hid (HST.out h0)
        go_wp2_with fail
        go_ret
        exact ⟨by rw [HV.out]; rfl, HB.out⟩
    · obtain rfl : k = n := by omega
      have hki : ¬ ((k : Int) < k) := by omega
      clear hlt
      go_wp2_with fail
      go_ret
      exact ⟨by rw [HO.out]; rfl, HB.out⟩
/-- the first leaps of two lists are equal -/
def eqF (f g : Nat → Int × Int) : Nat → Bool
  | 0 => true
  | k + 1 => eqF f g k && (decide ((f k).1 = (g k).1) && decide ((f k).2 = (g k).2))
theorem eqF_stop {f g : Nat → Int × Int} {k : Nat} (h : (decide ((f k).1 = (g k).1) && decide ((f k).2 = (g k).2)) = false) : ∀ n, k < n → eqF f g n = false := by
  intro n
  induction n with
  | zero => intro h; omega
  | succ n ih =>
    intro hn
    by_cases e : k = n
    · subst e; rw [eqF, h, Bool.and_false]
    · rw [eqF, ih (by omega), Bool.false_and]
set_option maxHeartbeats 1000000 in
theorem equalL_any (f g : Nat → Int × Int) (n c1 c2 : Nat) (p q : Option Addr) (w : World) (hn : n ≤ 1000000000) (h1 : LpIn w f n p) (h2 : LpIn w g n q) :
    Calls Tryz.prog 72 #[.slice p n c1, .slice q n c2] w fun e w' => e = .returned (.bool (eqF f g n)) ∧ Below w.heap.size w w' := by
  have H1 := Lib.hid h1
  have H2 := Lib.hid h2
  clear h1 h2
  go_enter Tryz.func72, Tryz.ntmps72
  go_wp2_with fail
  go_loopw [4, 5, 13] (fun s4 s5 s13 wr => ∃ (k : Nat) (v5 : Value), k ≤ n ∧ s4 = .bool false ∧ s5 = v5 ∧ s13 = .int .i64 (k : Int) ∧ Hid (eqF f g k = true) ∧ Hid (Below w.heap.size w wr)) (fun _ _ s _ => n - (intOf s).toNat)
  case atStart => exact ⟨0, _, Nat.zero_le _, rfl, rfl, rfl, Lib.hid rfl, Lib.hid (Below.refl _ _)⟩
  case round =>
    obtain ⟨k, v5, hk, rfl, rfl, rfl, HO, HB⟩ := hrel
    by_cases hlt : k < n
    · have hki : (k : Int) < n := by omega
      have vk : IntKind.i64.wrap ((k : Int) + 1) = (k : Int) + 1 := IntWalk.i64_in _ (by omega)
      obtain ⟨b1, o1, rfl, hi1⟩ := H1.out.resolve_left (by omega)
      obtain ⟨b2, o2, rfl, hi2⟩ := H2.out.resolve_left (by omega)
      obtain ⟨x1, x2⟩ := (hi1.below HB.out) k hlt
      obtain ⟨y1, y2⟩ := (hi2.below HB.out) k hlt
      have z1 := cell_lt x1
      have z2 := cell_lt y1
      have HST := Lib.hid (fun h => eqF_stop (f := f) (g := g) (k := k) h n hlt)
      have HNX := Lib.hid (show (decide ((f k).1 = (g k).1) && decide ((f k).2 = (g k).2)) = true → eqF f g (k + 1) = true from fun h => by rw [eqF, HO.out, h]; rfl)
      have HK := Lib.hid hlt
      clear hlt hi1 hi2
      generalize (f k).1 = dk at *
      generalize (f k).2 = sk at *
      generalize (g k).1 = ek at *
      generalize (g k).2 = tk at *
      by_cases e1 : dk = ek
      · by_cases e2 : sk = tk
        · subst e1
          subst e2
          go_wp2_with fail
          go_quiet (fail)
          go_wp2_with fail
          go_roundw
          case rel => exact ⟨k + 1, _, HK.out, rfl, rfl, by simp, Lib.hid (HNX.out (by simp)), Lib.hid (below_drewN HB.out _)⟩
          case measure => have := HK.out; simp [intOf]; omega
        · subst e1
          have e2b : (sk == tk) = false := by simpa using e2
          have HV := Lib.hid (HST.out (by simp [e2]))
          go_wp2_with fail
          go_quiet (fail)
          go_wp2_with fail
          go_ret
          exact ⟨by rw [HV.out]; rfl, below_drewN HB.out _⟩
      · have e1b : (dk == ek) = false := by simpa using e1
        have HV := Lib.hid (HST.out (by simp [e1]))
        go_wp2_with fail
        go_quiet (fail)
        go_wp2_with fail
        go_ret
        exact ⟨by rw [HV.out]; rfl, below_drewN HB.out _⟩
    · obtain rfl : k = n := by omega
      have hki : ¬ ((k : Int) < k) := by omega
      clear hlt
      go_wp2_with fail
      go_ret
      exact ⟨by rw [HO.out]; rfl, HB.out⟩
/-- the leaps of the days before a day, where it is known how many these are -/
theorem before_at (b u d : Int) (n c k : Nat) (p : Option Addr) (f : Nat → Int × Int) (w : World) (hs : LpIn w f n p) (hn : n ≤ 1000) (hc : n ≤ c) (hcm : c ≤ maxLen) (hk : k ≤ n) (h1 : ∀ j, j < k → (f j).1 < d) (h2 : k < n → d ≤ (f k).1) :
    Calls Tryz.prog 73 #[.agg #[.int .i64 b, .slice p n c, .int .i64 u], .int .i64 d] w fun e w' => e = .returned (.slice p k c) ∧ Below w.heap.size w w' := by
  refine (before_any b u d n c p f w hs hn hc hcm).mono ?_
  rintro e w' ⟨i, hi, rfl, g1, g2, hb⟩
  obtain rfl : i = k := by
    rcases Nat.lt_trichotomy i k with h | h | h
    · have := h1 i h; have := g2 (by omega); omega
    · exact h
    · have := g1 k h; have := h2 (by omega); omega
  exact ⟨rfl, hb⟩
end Go.Proofs.YtgnfaemnehmgcaaGreatDoor.Cal
