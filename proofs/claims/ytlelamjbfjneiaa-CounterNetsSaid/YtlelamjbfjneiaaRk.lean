/- The reference of nets: checked, ends. -/
import Derived.Test.YtlelamjbfjneiaaNf
import Derived.Test.YtlelamjbfjneiaaNj
namespace Go.Proofs.Ytlelamjbfjneiaa.Ct
open Go Go.RowKit Go.Shelf
attribute [local go_sem] Oper.semAt_some
set_option maxRecDepth 100000 in
set_option maxHeartbeats 8000000 in
theorem rchecked_any (n : Int) (l : List Bnd) (p : Option Addr) (cap : Nat) (w : World) (hl : l.length ≤ maxLen) (hs : BndsIn w l p) :
    Calls Try.prog 23 #[.int .i64 n, .slice p l.length cap] w fun e w' => e = .returned (.int .i64 (netErr n l)) ∧ Below w.heap.size w w' := by
  have HS := Lib.hid hs
  unfold maxLen at hl
  clear hs
  by_cases hn1 : n < 1
  · have HE : Hid (netErr n l = 1) := Lib.hid (by unfold netErr; rw [if_neg (by omega)])
    go_enter Try.func23, Try.ntmps23
    go_wp2_with fail
    go_ret
    exact ⟨by rw [HE.out]; rfl, Below.refl _ _⟩
  · by_cases hn2 : 16 < n
    · have HE : Hid (netErr n l = 1) := Lib.hid (by unfold netErr; rw [if_neg (by omega)])
      go_enter Try.func23, Try.ntmps23
      go_wp2_with fail
      go_ret
      exact ⟨by rw [HE.out]; rfl, Below.refl _ _⟩
    · have HN := Lib.hid (show 1 ≤ n ∧ n ≤ 16 by omega)
      by_cases h240 : l.length ≤ 240
      · have hi : ¬ (240 < (l.length : Int)) := by omega
        have H240 := Lib.hid h240
        go_enter Try.func23, Try.ntmps23
        go_wp2_with fail
        clear hi hn1 hn2 h240
        go_loopw [4, 5, 6] (fun s4 s5 s6 wr => ∃ (k : Nat) (v6 : Value), k ≤ l.length ∧ s4 = .int .i64 0 ∧ s5 = .int .i64 (k : Int) ∧ s6 = v6 ∧ Hid (∀ j, j < k → bndOk n (bndAt l j) = true) ∧ Hid (Below w.heap.size w wr)) (fun _ i _ _ => l.length - (intOf i).toNat)
        case atStart => exact ⟨0, _, Nat.zero_le _, rfl, rfl, rfl, Lib.hid (fun j hj => absurd hj (Nat.not_lt_zero j)), Lib.hid (Below.refl _ _)⟩
        case round =>
          obtain ⟨k, v6, hk, rfl, rfl, rfl, HA, HB⟩ := hrel
          by_cases hlt : k < l.length
          · have hki : (k : Int) < l.length := by omega
            have HK := Lib.hid hlt
            obtain ⟨b, o, rfl, hi4⟩ := (HS.out.below HB.out).resolve_left (by omega)
            obtain ⟨⟨x0, x1⟩, x2, x3⟩ := hi4 k hlt
            have hz := cell_lt x0
            have w1 : IntKind.i64.wrap ((k : Int) + 1) = (k : Int) + 1 := IntWalk.i64_in _ (by omega)
            obtain ⟨xk, hxk⟩ : ∃ xk, xk = bndAt l k := ⟨_, rfl⟩
            rw [← hxk] at x0 x1 x2 x3
            have HXK := Lib.hid hxk
            clear hxk hi4 hlt hk
            obtain ⟨xa, xb, xlo, xhi⟩ := xk
            dsimp only at x0 x1 x2 x3
            have HE : Hid (¬ BndIn n ⟨xa, xb, xlo, xhi⟩ → netErr n l = 6) := Lib.hid fun h => by
              unfold netErr
              rw [if_pos HN.out, if_pos H240.out, if_neg (all_not HK.out (by
                rw [← HXK.out]
                cases hb : bndOk n ⟨xa, xb, xlo, xhi⟩ with
                | false => rfl
                | true => exact absurd (bndOk_iff.1 hb) h))]
            go_upto_region 9 with fail
            have B1 := Lib.hid (HB.out.trans ((below_alloc (Below.refl wr.heap.size wr) (.cells #[.int .i64 xa, .int .i64 xb, .int .i64 xlo, .int .i64 xhi] 45)).mono HB.out.size))
            have C1 : Hid (BndCells (wr.alloc (.cells #[.int .i64 xa, .int .i64 xb, .int .i64 xlo, .int .i64 xhi] 45)) wr.heap.size 0 ⟨xa, xb, xlo, xhi⟩) := Lib.hid ⟨⟨by simp, by simp⟩, by simp, by simp⟩
            clear x0 x1 x2 x3 hz HB
            generalize wr.alloc (.cells #[.int .i64 xa, .int .i64 xb, .int .i64 xlo, .int .i64 xhi] 45) = W1 at *
            generalize wr.heap.size = b6 at *
            obtain ⟨⟨x0, x1⟩, x2, x3⟩ := C1.out
            dsimp only at x0 x1 x2 x3
            have hz := cell_lt x0
            by_cases g0 : xa < 0
            · have HR := Lib.hid (HE.out (fun h => by have := h.a; dsimp only at this; omega))
              clear HE HA
              go_wp2_with fail
              go_ret
              exact ⟨by rw [HR.out]; rfl, B1.out⟩
            · skip
              by_cases g1 : n ≤ xa
              · have HR := Lib.hid (HE.out (fun h => by have := h.a; dsimp only at this; omega))
                clear HE HA
                go_wp2_with fail
                go_ret
                exact ⟨by rw [HR.out]; rfl, B1.out⟩
              · skip
                by_cases g2 : xb < 0
                · have HR := Lib.hid (HE.out (fun h => by have := h.b; dsimp only at this; omega))
                  clear HE HA
                  go_wp2_with fail
                  go_ret
                  exact ⟨by rw [HR.out]; rfl, B1.out⟩
                · skip
                  by_cases g3 : n ≤ xb
                  · have HR := Lib.hid (HE.out (fun h => by have := h.b; dsimp only at this; omega))
                    clear HE HA
                    go_wp2_with fail
                    go_ret
                    exact ⟨by rw [HR.out]; rfl, B1.out⟩
                  · skip
                    by_cases g4 : xa = xb
                    · have HR := Lib.hid (HE.out (fun h => h.ne (by assumption)))
                      have geb : (xa == xb) = true := by simpa using g4
                      clear HE HA
                      go_wp2_with fail
                      go_ret
                      exact ⟨by rw [HR.out]; rfl, B1.out⟩
                    · have geb : (xa == xb) = false := by simpa using g4
                      skip
                      by_cases g5 : xlo < -1000000000000000
                      · have HR := Lib.hid (HE.out (fun h => by have := h.lo; dsimp only at this; omega))
                        clear HE HA
                        go_wp2_with fail
                        go_ret
                        exact ⟨by rw [HR.out]; rfl, B1.out⟩
                      · skip
                        by_cases g6 : 1000000000000000 < xhi
                        · have HR := Lib.hid (HE.out (fun h => by have := h.hi; dsimp only at this; omega))
                          clear HE HA
                          go_wp2_with fail
                          go_ret
                          exact ⟨by rw [HR.out]; rfl, B1.out⟩
                        · skip
                          by_cases g7 : xhi < xlo
                          · have HR := Lib.hid (HE.out (fun h => by have := h.le; dsimp only at this; omega))
                            clear HE HA
                            go_wp2_with fail
                            go_ret
                            exact ⟨by rw [HR.out]; rfl, B1.out⟩
                          · skip
                            have HA2 : Hid (∀ j, j < k + 1 → bndOk n (bndAt l j) = true) := Lib.hid fun j hj => by
                              by_cases e : j = k
                              · subst e; rw [← HXK.out]; exact bndOk_iff.2 ⟨by dsimp only; omega, by dsimp only; omega, g4, by dsimp only; omega, by dsimp only; omega, by dsimp only; omega⟩
                              · exact HA.out j (by omega)
                            clear HE HA
                            go_wp2_with fail
                            go_roundw
                            case rel => exact ⟨k + 1, _, HK.out, rfl, by simp, rfl, HA2, B1⟩
                            case measure => have := HK.out; simp [intOf]; omega
          · have hki : ¬ ((k : Int) < l.length) := by omega
            obtain rfl : k = l.length := by omega
            have HE : Hid (netErr n l = 0) := Lib.hid (by
              unfold netErr
              rw [if_pos HN.out, if_pos H240.out, if_pos (all_take HA.out)])
            go_wp2_with fail
            go_ret
            exact ⟨by rw [HE.out]; rfl, HB.out⟩
      · have hi : 240 < (l.length : Int) := by omega
        have HE : Hid (netErr n l = 2) := Lib.hid (by unfold netErr; rw [if_pos HN.out, if_neg h240])
        clear h240
        go_enter Try.func23, Try.ntmps23
        go_wp2_with fail
        go_ret
        exact ⟨by rw [HE.out]; rfl, Below.refl _ _⟩
set_option maxRecDepth 100000 in
set_option maxHeartbeats 4000000 in
theorem rends_any (l : List Bnd) (i : Nat) (up : Bool) (p : Option Addr) (cap : Nat) (w : World) (f s m : Int) (_hl : l.length ≤ 1000000) (hi : i < l.length) (hlo : -1000000000000000 ≤ (bndAt l i).lo ∧ (bndAt l i).lo ≤ 1000000000000000) (hs : BndsIn w l p) (hy : limOf (bndAt l i) up = ⟨f, s, m⟩) :
    Calls Try.prog 26 #[.slice p l.length cap, .agg #[.int .i64 (i : Int), .bool up]] w fun e w' => e = .returned (.tuple #[.int .i64 f, .int .i64 s, .int .i64 m]) ∧ Below w.heap.size w w' := by
  obtain ⟨b, o, rfl, hi4⟩ := hs.resolve_left (by omega)
  obtain ⟨⟨x0, x1⟩, x2, x3⟩ := hi4 i hi
  have hii : (i : Int) < l.length := by omega
  obtain ⟨xk, hxk⟩ : ∃ xk, xk = bndAt l i := ⟨_, rfl⟩
  rw [← hxk] at x0 x1 x2 x3 hy hlo
  clear hxk hi4 hi hs
  obtain ⟨xa, xb, xlo, xhi⟩ := xk
  dsimp only at x0 x1 x2 x3 hlo
  have v1 : IntKind.i64.wrap (-xlo) = -xlo := IntWalk.i64_in _ (by omega)
  have B0 := Lib.hid (below_alloc (Below.refl w.heap.size w) (.cells #[.int .i64 (i : Int), .bool up] 40))
  have x0 := cell_below B0.out x0
  have x1 := cell_below B0.out x1
  have x2 := cell_below B0.out x2
  have x3 := cell_below B0.out x3
  have u0 : (w.alloc (.cells #[.int .i64 (i : Int), .bool up] 40)).cell? ⟨w.heap.size, 0, none⟩ = some (.int .i64 (i : Int)) := by simp
  have u1 : (w.alloc (.cells #[.int .i64 (i : Int), .bool up] 40)).cell? ⟨w.heap.size, 1, none⟩ = some (.bool up) := by simp
  go_enter Try.func26, Try.ntmps26
  go_upto_region 1 with fail
  generalize w.alloc (.cells #[.int .i64 (i : Int), .bool up] 40) = W1 at *
  have hz := cell_lt x0
  have hzu := cell_lt u0
  go_upto_region 2 with fail
  have B1 := Lib.hid (B0.out.trans ((below_alloc (Below.refl W1.heap.size W1) (.cells #[.int .i64 xa, .int .i64 xb, .int .i64 xlo, .int .i64 xhi] 45)).mono B0.out.size))
  have u1 := cell_below (below_alloc (Below.refl W1.heap.size W1) (.cells #[.int .i64 xa, .int .i64 xb, .int .i64 xlo, .int .i64 xhi] 45)) u1
  have C1 : BndCells (W1.alloc (.cells #[.int .i64 xa, .int .i64 xb, .int .i64 xlo, .int .i64 xhi] 45)) W1.heap.size 0 ⟨xa, xb, xlo, xhi⟩ := ⟨⟨by simp, by simp⟩, by simp, by simp⟩
  clear x0 x1 x2 x3 hz hzu u0 B0
  generalize W1.alloc (.cells #[.int .i64 xa, .int .i64 xb, .int .i64 xlo, .int .i64 xhi] 45) = W2 at *
  generalize W1.heap.size = b7 at *
  obtain ⟨⟨x0, x1⟩, x2, x3⟩ := C1
  dsimp only at x0 x1 x2 x3
  have hz := cell_lt x0
  have hzu := cell_lt u1
  cases up with
  | true =>
    obtain ⟨rfl, rfl, rfl⟩ : xa = f ∧ xb = s ∧ xhi = m := by
      have h : (⟨xa, xb, xhi⟩ : Lim) = ⟨f, s, m⟩ := hy
      cases h; exact ⟨rfl, rfl, rfl⟩
    clear hy
    go_upto_region 3 with fail
    go_quiet (fail)
    go_wp2_with fail
    exact bodyPost_ret (v := .tuple #[.int .i64 xa, .int .i64 xb, .int .i64 xhi]) (by simp [results, Try.results26, go_sem]) rfl ⟨rfl, below_drewN B1.out _⟩
  | false =>
    obtain ⟨rfl, rfl, rfl⟩ : xb = f ∧ xa = s ∧ -xlo = m := by
      have h : (⟨xb, xa, -xlo⟩ : Lim) = ⟨f, s, m⟩ := hy
      cases h; exact ⟨rfl, rfl, rfl⟩
    clear hy
    go_upto_region 4 with fail
    go_quiet (fail)
    go_wp2_with fail
    exact bodyPost_ret (v := .tuple #[.int .i64 xb, .int .i64 xa, .int .i64 (-xlo)]) (by simp [results, Try.results26, go_sem]) rfl ⟨rfl, below_drewN B1.out _⟩
end Go.Proofs.Ytlelamjbfjneiaa.Ct
