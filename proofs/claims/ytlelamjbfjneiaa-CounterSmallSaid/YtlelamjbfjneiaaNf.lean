/- Contracts of layer 2: a net is checked; the narrowest matrix. -/
import Derived.Test.YtlelamjbfjneiaaNd
import Derived.Test.YtlelamjbfjneiaaNe
namespace Go.Proofs.Ytlelamjbfjneiaa.Ct
open Go Go.RowKit Go.Shelf
attribute [local go_sem] Oper.semAt_some
theorem all_take {n : Int} {l : List Bnd} (h : ∀ i, i < l.length → bndOk n (bndAt l i) = true) : l.all (bndOk n) = true := by
  rw [List.all_eq_true]
  intro x hx
  obtain ⟨i, hi, rfl⟩ := List.getElem_of_mem hx
  rw [bndAt_get hi]; exact h i hi
theorem all_not {n : Int} {l : List Bnd} {i : Nat} (hi : i < l.length) (h : bndOk n (bndAt l i) = false) : ¬ l.all (bndOk n) = true := fun hh => by
  have := List.all_eq_true.1 hh _ (List.getElem_mem hi)
  rw [bndAt_get hi, h] at this; cases this
set_option maxRecDepth 100000 in
set_option maxHeartbeats 4000000 in
theorem checkNet_any (n : Int) (l : List Bnd) (p : Option Addr) (cap : Nat) (w : World) (hl : l.length ≤ maxLen) (hs : BndsIn w l p) :
    Calls Try.prog 21 #[.int .i64 n, .slice p l.length cap] w fun e w' => e = .returned (.int .i64 (netErr n l)) ∧ Below w.heap.size w w' := by
  have HS := Lib.hid hs
  have HW := Lib.hid (fun W => within_any n 1 16 W)
  unfold maxLen at hl
  clear hs
  by_cases hn : 1 ≤ n ∧ n ≤ 16
  · have hw : (decide (1 ≤ n) && decide (n ≤ 16)) = true := by simpa using hn
    rw [hw] at HW
    by_cases h240 : l.length ≤ 240
    · have hi : ¬ (240 < (l.length : Int)) := by omega
      go_enter Try.func21, Try.ntmps21
      go_wp2_with (go_at_call 33; refine (HW.out _).mono ?_; rintro e w1 ⟨rfl, rfl⟩)
      go_loopw [6, 15] (fun s i wr => ∃ (k : Nat) (v : Value), k ≤ l.length ∧ s = v ∧ i = .int .i64 (k : Int) ∧ Hid (∀ j, j < k → bndOk n (bndAt l j) = true) ∧ Hid (Below w.heap.size w wr)) (fun _ i _ => l.length - (intOf i).toNat)
      case atStart => exact ⟨0, _, Nat.zero_le _, rfl, rfl, Lib.hid (fun j hj => absurd hj (Nat.not_lt_zero j)), Lib.hid (Below.refl _ _)⟩
      case round =>
        obtain ⟨k, v, hk, rfl, rfl, HA, HB⟩ := hrel
        by_cases hlt : k < l.length
        · have hki : (k : Int) < l.length := by omega
          have HK := Lib.hid hlt
          obtain ⟨b, o, rfl, hi4⟩ := (HS.out.below HB.out).resolve_left (by omega)
          obtain ⟨⟨x0, x1⟩, x2, x3⟩ := hi4 k hlt
          have hz := cell_lt x0
          have HAL := Lib.hid (fun W => allowed_any (bndAt l k) n W (by omega))
          have HEX := Lib.hid (show ∀ j, j < k → bndOk n (bndAt l j) = true from HA.out)
          obtain ⟨xk, hxk⟩ : ∃ xk, xk = bndAt l k := ⟨_, rfl⟩
          rw [← hxk] at x0 x1 x2 x3 HAL
          have HXK := Lib.hid hxk
          clear hxk hi4 hlt HA
          obtain ⟨xa, xb, xlo, xhi⟩ := xk
          dsimp only at x0 x1 x2 x3
          unfold bndVal at HAL
          have B1 := Lib.hid (HB.out.trans ((below_alloc (Below.refl wr.heap.size wr) (.cells #[.int .i64 xa, .int .i64 xb, .int .i64 xlo, .int .i64 xhi] 46)).mono HB.out.size))
          go_wp2_with fail
          refine (HAL.out _).mono ?_
          rintro e w2 ⟨rfl, hb2⟩
          have B2 := Lib.hid (B1.out.trans (hb2.mono B1.out.size))
          clear hb2 x0 x1 x2 x3 hz HB
          cases hok : bndOk n ⟨xa, xb, xlo, xhi⟩
          · have HE : Hid (netErr n l = 6) := Lib.hid (by
              unfold netErr
              rw [if_pos hn, if_pos h240, if_neg (all_not HK.out (by rw [← HXK.out]; exact hok))])
            go_wp2
            go_ret
            exact ⟨by rw [HE.out]; rfl, B2.out⟩
          · have HA2 : Hid (∀ j, j < k + 1 → bndOk n (bndAt l j) = true) := Lib.hid fun j hj => by
              by_cases e : j = k
              · subst e; rw [← HXK.out]; exact hok
              · exact HEX.out j (by omega)
            have w1 : IntKind.i64.wrap ((k : Int) + 1) = (k : Int) + 1 := IntWalk.i64_in _ (by omega)
            go_wp2
            go_roundw
            case rel => exact ⟨k + 1, _, HK.out, rfl, by simp, HA2, B2⟩
            case measure => have := HK.out; simp [intOf]; omega
        · have hki : ¬ ((k : Int) < l.length) := by omega
          obtain rfl : k = l.length := by omega
          have HE : Hid (netErr n l = 0) := Lib.hid (by
            unfold netErr
            rw [if_pos hn, if_pos h240, if_pos (all_take HA.out)])
          go_wp2
          go_ret
          exact ⟨by rw [HE.out]; rfl, HB.out⟩
    · have hi : 240 < (l.length : Int) := by omega
      have HE : Hid (netErr n l = 2) := Lib.hid (by unfold netErr; rw [if_pos hn, if_neg h240])
      go_enter Try.func21, Try.ntmps21
      go_wp2_with (go_at_call 33; refine (HW.out _).mono ?_; rintro e w1 ⟨rfl, rfl⟩)
      go_ret
      exact ⟨by rw [HE.out]; rfl, Below.refl _ _⟩
  · have hw : (decide (1 ≤ n) && decide (n ≤ 16)) = false := by simpa using hn
    rw [hw] at HW
    have HE : Hid (netErr n l = 1) := Lib.hid (by unfold netErr; rw [if_neg hn])
    go_enter Try.func21, Try.ntmps21
    go_wp2_with (go_at_call 33; refine (HW.out _).mono ?_; rintro e w1 ⟨rfl, rfl⟩)
    go_ret
    exact ⟨by rw [HE.out]; rfl, Below.refl _ _⟩
end Go.Proofs.Ytlelamjbfjneiaa.Ct
