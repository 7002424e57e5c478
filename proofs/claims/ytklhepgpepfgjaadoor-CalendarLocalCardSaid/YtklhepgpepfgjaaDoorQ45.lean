/- Layer 9 (calendar): slices.Index, slices.Contains. -/
import Derived.Test.YtklhepgpepfgjaaDoorQ13
namespace Go.Proofs.YtklhepgpepfgjaaDoor.Cal
open Go Go.RowKit
attribute [local go_sem] Oper.semAt_some
/-- where a number stands first in a list; -1 if it does not -/
def idxF (f : Nat → Int) (x : Int) (n : Nat) : Nat → Int
  | 0 => -1
  | m + 1 => if x = f (n - (m + 1)) then ((n - (m + 1) : Nat) : Int) else idxF f x n m
set_option maxHeartbeats 1000000 in
theorem indexI_any (f : Nat → Int) (x : Int) (n c : Nat) (p : Option Addr) (w : World) (hn : n ≤ 1000000000) (hs : FnIn w f n p) :
    Calls Tryd.prog 50 #[.slice p n c, .int .i64 x] w fun e w' => e = .returned (.int .i64 (idxF f x n n)) ∧ Below w.heap.size w w' := by
  have H1 := Lib.hid hs
  clear hs
  go_enter Tryd.func50, Tryd.ntmps50
  go_wp2_with fail
  go_loopw [4, 5, 8] (fun s4 s5 s8 wr => ∃ (k : Nat) (v5 : Value), k ≤ n ∧ s4 = .int .i64 0 ∧ s5 = v5 ∧ s8 = .int .i64 (k : Int) ∧ Hid (idxF f x n n = idxF f x n (n - k)) ∧ Hid (Below w.heap.size w wr)) (fun _ _ s _ => n - (intOf s).toNat)
  case atStart => exact ⟨0, _, Nat.zero_le _, rfl, rfl, rfl, Lib.hid rfl, Lib.hid (Below.refl _ _)⟩
  case round =>
    obtain ⟨k, v5, hk, rfl, rfl, rfl, HO, HB⟩ := hrel
    by_cases hlt : k < n
    · have hki : (k : Int) < n := by omega
      have vk : IntKind.i64.wrap ((k : Int) + 1) = (k : Int) + 1 := IntWalk.i64_in _ (by omega)
      obtain ⟨b1, o1, rfl, hi1⟩ := H1.out.resolve_left (by omega)
      have x1 := cell_below HB.out (hi1 k hlt)
      have z1 := cell_lt x1
      have HST := Lib.hid (show idxF f x n (n - k) = if x = f k then (k : Int) else idxF f x n (n - (k + 1)) by
        obtain ⟨m, hm⟩ : ∃ m, n - k = m + 1 := ⟨n - k - 1, by omega⟩
        rw [hm, idxF, show n - (m + 1) = k by omega, show n - (k + 1) = m by omega])
      have HK := Lib.hid hlt
      clear hlt hi1
      generalize f k = a at *
      by_cases h0 : x = a
      · rw [if_pos h0] at HST
        subst h0
        go_wp2_with fail
        go_ret
        exact ⟨ret_i64 (by rw [HO.out, HST.out]), HB.out⟩
      · rw [if_neg h0] at HST
        have h0b : (x == a) = false := by simpa using h0
        go_wp2_with fail
        go_roundw
        case rel => exact ⟨k + 1, _, HK.out, rfl, rfl, by simp, Lib.hid (by rw [HO.out, HST.out]), HB⟩
        case measure => have := HK.out; simp [intOf]; omega
    · obtain rfl : k = n := by omega
      have hki : ¬ ((k : Int) < k) := by omega
      clear hlt
      go_wp2_with fail
      go_ret
      exact ⟨ret_i64 (by rw [HO.out, Nat.sub_self]; rfl), HB.out⟩
theorem idxF_nn (f : Nat → Int) (x : Int) (n : Nat) : ∀ m, m ≤ n → ((0 ≤ idxF f x n m) ↔ ∃ i, n - m ≤ i ∧ i < n ∧ f i = x) := by
  intro m
  induction m with
  | zero => intro _; rw [idxF]; constructor
            · intro h; omega
            · rintro ⟨i, h1, h2, _⟩; omega
  | succ m ih =>
    intro hm
    rw [idxF]
    by_cases e : x = f (n - (m + 1))
    · rw [if_pos e]
      exact ⟨fun _ => ⟨n - (m + 1), Nat.le_refl _, by omega, e.symm⟩, fun _ => by omega⟩
    · rw [if_neg e, ih (by omega)]
      constructor
      · rintro ⟨i, h1, h2, h3⟩; exact ⟨i, by omega, h2, h3⟩
      · rintro ⟨i, h1, h2, h3⟩
        by_cases e2 : i = n - (m + 1)
        · subst e2; exact absurd h3.symm e
        · exact ⟨i, by omega, h2, h3⟩
/-- a list has a number -/
def hasF (f : Nat → Int) (n : Nat) (x : Int) : Prop := ∃ i, i < n ∧ f i = x
set_option maxHeartbeats 1000000 in
theorem contains_any (f : Nat → Int) (x : Int) (n c : Nat) (p : Option Addr) (w : World) (hn : n ≤ 1000000000) (hs : FnIn w f n p) (B : Bool) (hB : B = true ↔ hasF f n x) :
    Calls Tryd.prog 14 #[.slice p n c, .int .i64 x] w fun e w' => e = .returned (.bool B) ∧ Below w.heap.size w w' := by
  have HI := Lib.hid (indexI_any f x n c p w hn hs)
  have hz := idxF_nn f x n n (Nat.le_refl _)
  obtain ⟨r, hr⟩ : ∃ r, idxF f x n n = r := ⟨_, rfl⟩
  rw [hr] at HI hz
  have HBr := Lib.hid (show decide (0 ≤ r) = B by
    have h2 : (0 ≤ r) ↔ hasF f n x := hz.trans ⟨fun ⟨i, _, h2, h3⟩ => ⟨i, h2, h3⟩, fun ⟨i, h2, h3⟩ => ⟨i, by omega, h2, h3⟩⟩
    cases B
    · have : ¬ 0 ≤ r := fun h => by have := hB.2 (h2.1 h); cases this
      simpa using this
    · simpa using h2.2 (hB.1 rfl))
  clear hs hz hr hB
  go_enter Tryd.func14, Tryd.ntmps14
  go_wp2_with (go_at_call 50; refine HI.out.mono ?_; rintro e w2 ⟨rfl, hb2⟩; have HB2 := Lib.hid hb2; clear hb2)
  go_ret
  exact ⟨ret_bool HBr.out, HB2.out⟩
theorem has_at (l : List Int) (x : Int) : hasF (atL l) l.length x ↔ x ∈ l := by
  constructor
  · rintro ⟨i, hi, rfl⟩
    unfold atL
    rw [List.getElem?_eq_getElem hi]
    exact List.getElem_mem hi
  · intro h
    obtain ⟨i, hi, e⟩ := List.mem_iff_getElem.1 h
    exact ⟨i, hi, by unfold atL; rw [List.getElem?_eq_getElem hi]; exact e⟩
end Go.Proofs.YtklhepgpepfgjaaDoor.Cal
