/- Layer 9 (calendar): slices.Index, slices.Contains; the nearest of some seconds (slices.MinFunc); FromNtp. -/
import Derived.Test.YtjdpdabafbbfaaaDoorGe
import Derived.Test.YtjdpdabafbbfaaaDoorFf
namespace Go.Proofs.YtjdpdabafbbfaaaDoor.Cal
open Go Go.RowKit
attribute [local go_sem] Oper.semAt_some
/-- where a number stands first in a list; -1 if it does not -/
def idxF (f : Nat → Int) (x : Int) (n : Nat) : Nat → Int
  | 0 => -1
  | m + 1 => if x = f (n - (m + 1)) then ((n - (m + 1) : Nat) : Int) else idxF f x n m
theorem idxF_nn (f : Nat → Int) (x : Int) (n : Nat) : ∀ m, m ≤ n → ((0 ≤ idxF f x n m) ↔ ∃ i, n - m ≤ i ∧ i < n ∧ f i = x) := by
  intro m
  induction m with
  | zero => intro _; rw [idxF]; constructor
            · intro h; omega
            · rintro ⟨i, h1, h2, _⟩; omega
  | succ m ih =>
    intro hm
    rw [idxF]
    by_cases e : x = f (n - (m + 1))
    · rw [if_pos e]
      exact ⟨fun _ => ⟨n - (m + 1), Nat.le_refl _, by omega, e.symm⟩, fun _ => by omega⟩
    · rw [if_neg e, ih (by omega)]
      constructor
      · rintro ⟨i, h1, h2, h3⟩; exact ⟨i, by omega, h2, h3⟩
      · rintro ⟨i, h1, h2, h3⟩
        by_cases e2 : i = n - (m + 1)
        · subst e2; exact absurd h3.symm e
        · exact ⟨i, by omega, h2, h3⟩
/-- a list has a number -/
def hasF (f : Nat → Int) (n : Nat) (x : Int) : Prop := ∃ i, i < n ∧ f i = x
/-- how far a number is from another one -/
def distI (near a : Int) : Int := if a - near < near - a then near - a else a - near
theorem distI_bd {near a M : Int} (h : -M ≤ a ∧ a ≤ M) (h2 : -M ≤ near ∧ near ≤ M) : 0 ≤ distI near a ∧ distI near a ≤ 2 * M := by unfold distI; split <;> omega
set_option maxHeartbeats 1000000 in
theorem gpsCmp_any (a b near : Int) (an : Nat) (w : World) (hc : w.cell? ⟨an, 0, none⟩ = some (.int .i64 near)) (ha : -10000000000000 ≤ a ∧ a ≤ 10000000000000) (hb : -10000000000000 ≤ b ∧ b ≤ 10000000000000) (hn : -10000000000000 ≤ near ∧ near ≤ 10000000000000) :
    Calls Tryd.prog 50 #[.int .i64 a, .int .i64 b, .pointer (some ⟨an, 0, none⟩)] w fun e w' => e = .returned (.int .i64 (cmpI (distI near a) (distI near b))) ∧ w = w' := by
  have zc := cell_lt hc
  have v1 : IntKind.i64.wrap (a - near) = a - near := IntWalk.i64_in _ (by omega)
  have v2 : IntKind.i64.wrap (near - a) = near - a := IntWalk.i64_in _ (by omega)
  have v3 : IntKind.i64.wrap (b - near) = b - near := IntWalk.i64_in _ (by omega)
  have v4 : IntKind.i64.wrap (near - b) = near - b := IntWalk.i64_in _ (by omega)
  obtain ⟨da, hda⟩ : ∃ q, distI near a = q := ⟨_, rfl⟩
  obtain ⟨db, hdb⟩ : ∃ q, distI near b = q := ⟨_, rfl⟩
  rw [hda, hdb]
  unfold distI at hda hdb
  go_enter Tryd.func50, Tryd.ntmps50
  go_wp2_with (go_at_call 51; refine (cmp_any _ _ _).mono ?_; rintro e w' ⟨rfl, rfl⟩)
  go_ret
  exact ⟨rfl, rfl⟩
/-- the nearest of the first numbers of a list, and of these the first one -/
def minF (near : Int) (f : Nat → Int) : Nat → Int
  | 0 => f 0
  | k + 1 => if distI near (f (k + 1)) < distI near (minF near f k) then f (k + 1) else minF near f k
theorem minF_bd {near M : Int} {f : Nat → Int} {n : Nat} (h : ∀ i, i < n → -M ≤ f i ∧ f i ≤ M) : ∀ k, k < n → -M ≤ minF near f k ∧ minF near f k ≤ M
  | 0, hk => h 0 hk
  | k + 1, hk => by
    rw [minF]
    split
    · exact h _ hk
    · exact minF_bd h k (by omega)
set_option maxHeartbeats 2000000 in
theorem minFunc_any (f : Nat → Int) (near : Int) (n c an : Nat) (p : Option Addr) (w : World) (hn0 : 1 ≤ n) (hn : n ≤ 1000000000) (hs : FnIn w f n p) (hc : w.cell? ⟨an, 0, none⟩ = some (.int .i64 near))
    (hf : ∀ i, i < n → -10000000000000 ≤ f i ∧ f i ≤ 10000000000000) (hnb : -10000000000000 ≤ near ∧ near ≤ 10000000000000) :
    Calls Tryd.prog 49 #[.slice p n c, .func (.func 50) #[] #[.pointer (some ⟨an, 0, none⟩)]] w fun e w' => e = .returned (.int .i64 (minF near f (n - 1))) ∧ Below w.heap.size w w' := by
  have H1 := Lib.hid hs
  have HC := Lib.hid hc
  have HF := Lib.hid hf
  obtain ⟨b1, o1, rfl, hi1⟩ := hs.resolve_left (by omega)
  have x0 := hi1 0 (by omega)
  rw [Nat.add_zero] at x0
  have z0 := cell_lt x0
  have hn1 : ¬ (n : Int) < 1 := by omega
  have hn2 : (0 : Int) < n := by omega
  have HI := Lib.hid hi1
  clear hs hi1 hc hf
  obtain ⟨f0, hf0⟩ : ∃ q, f 0 = q := ⟨_, rfl⟩
  rw [hf0] at x0
  go_enter Tryd.func49, Tryd.ntmps49
  go_wp2_with fail
  go_loopw [5, 6] (fun s5 s6 wr => ∃ (k : Nat), k + 1 ≤ n ∧ s5 = .int .i64 (minF near f k) ∧ s6 = .int .i64 ((k + 1 : Nat) : Int) ∧ Hid (Below w.heap.size w wr)) (fun _ s _ => n - (intOf s).toNat)
  case atStart => exact ⟨0, hn0, by rw [← hf0]; rfl, rfl, Lib.hid (Below.refl _ _)⟩
  case round =>
    obtain ⟨k, hk, rfl, rfl, HB⟩ := hrel
    clear x0 z0 hf0
    by_cases hlt : k + 1 < n
    · have hki : ((k + 1 : Nat) : Int) < n := by omega
      have vk : IntKind.i64.wrap (((k + 1 : Nat) : Int) + 1) = ((k + 1 + 1 : Nat) : Int) := by rw [IntWalk.i64_in _ (by omega)]; omega
      have x1 := cell_below HB.out (HI.out (k + 1) hlt)
      have z1 := cell_lt x1
      have hc := cell_below HB.out HC.out
      have HST := Lib.hid (show minF near f (k + 1) = if distI near (f (k + 1)) < distI near (minF near f k) then f (k + 1) else minF near f k from rfl)
      have HCH := Lib.hid (gpsCmp_any (f (k + 1)) (minF near f k) near an wr hc (HF.out _ hlt) (minF_bd HF.out k (by omega)) hnb)
      have HK := Lib.hid hlt
      have hkt : ((k + 1 : Nat) : Int).toNat = k + 1 := by omega
      clear hlt hk hc
      generalize minF near f k = m at *
      generalize f (k + 1) = a at *
      by_cases h0 : distI near a < distI near m
      · rw [if_pos h0] at HST
        rw [show cmpI (distI near a) (distI near m) = -1 by unfold cmpI; rw [if_pos h0]] at HCH
        clear h0
        obtain ⟨k1, hk1⟩ : ∃ q, k + 1 = q := ⟨_, rfl⟩
        rw [hk1] at hki vk x1 hkt HST HK ⊢
        clear hk1
        go_wp2_with fail
        refine HCH.out.mono ?_
        rintro e w2 ⟨rfl, rfl⟩
        go_wp2_with fail
        go_roundw
        case rel => exact ⟨k1, HK.out, by rw [HST.out], rfl, HB⟩
        case measure => have := HK.out; simp [intOf]; omega
      · rw [if_neg h0] at HST
        obtain ⟨cv, hcv, hcn⟩ : ∃ cv, cmpI (distI near a) (distI near m) = cv ∧ ¬ cv < 0 := ⟨_, rfl, by unfold cmpI; rw [if_neg h0]; split <;> omega⟩
        rw [hcv] at HCH
        clear h0 hcv
        obtain ⟨k1, hk1⟩ : ∃ q, k + 1 = q := ⟨_, rfl⟩
        rw [hk1] at hki vk x1 hkt HST HK ⊢
        clear hk1
        go_wp2_with fail
        refine HCH.out.mono ?_
        rintro e w2 ⟨rfl, rfl⟩
        go_wp2_with fail
        go_roundw
        case rel => exact ⟨k1, HK.out, by rw [HST.out], rfl, HB⟩
        case measure => have := HK.out; simp [intOf]; omega
    · have hki : ¬ (((k + 1 : Nat) : Int) < n) := by omega
      have HV := Lib.hid (show minF near f k = minF near f (n - 1) by rw [show n - 1 = k by omega])
      clear hlt
      generalize minF near f k = m at *
      generalize ((k + 1 : Nat) : Int) = k1 at *
      go_wp2_with fail
      go_ret
      exact ⟨ret_i64 HV.out, HB.out⟩
end Go.Proofs.YtjdpdabafbbfaaaDoor.Cal
