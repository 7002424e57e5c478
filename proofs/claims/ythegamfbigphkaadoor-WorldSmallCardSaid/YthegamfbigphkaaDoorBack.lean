/- Contracts: the second that belongs to a moment. -/
import Derived.Test.YthegamfbigphkaaDoorLast
namespace Go.Proofs.YthegamfbigphkaaDoor
open Go Go.RowKit
theorem reading_keep {W0 : World} {a m : Nat} {c : Clk} {seed k : Int} {r : Cham} {v : Value} (s : Int) (w : World) (hb : Below W0.heap.size W0 w) (h : AtWork W0 a m c seed k r v) (hc : ClkIn c) (hr : chamOk r = true) (hk : 0 ≤ k ∧ k ≤ 16) (h0 : 0 ≤ s) (h1 : s ≤ 1000000) :
    Calls Tryd.prog 76 #[.pointer (some ⟨a, 0, none⟩), .int .i64 s] w fun e w' => e = .returned (.agg #[.int .i64 (readSec s (shownS seed k c r s)), .int .i64 (readFs (shownS seed k c r s))]) ∧ Below W0.heap.size W0 w' :=
  (reading_at s w (h.below hb) hc hr hk h0 h1).mono fun _ _ ⟨a, b⟩ => ⟨a, hb.trans (b.mono hb.size)⟩
theorem late_keep {W0 : World} (seed k : Int) (c : Clk) (r : Cham) (ms mf s : Int) (w : World) (hb : Below W0.heap.size W0 w) :
    Calls Tryd.prog 93 #[.agg #[.int .i64 (readSec s (shownS seed k c r s)), .int .i64 (readFs (shownS seed k c r s))], .agg #[.int .i64 ms, .int .i64 mf]] w fun e w' => e = .returned (.bool (lateS seed k c r ms mf s)) ∧ Below W0.heap.size W0 w' :=
  (after_any _ _ ms mf w).mono fun _ _ ⟨a, b⟩ => ⟨a, hb.trans (b.mono hb.size)⟩
set_option maxRecDepth 100000 in
set_option maxHeartbeats 2000000 in
theorem back_at {a m : Nat} {c : Clk} {seed k : Int} {r : Cham} {v : Value} (ms mf : Int) (w : World) (h : AtWork w a m c seed k r v) (hc : ClkIn c) (hr : chamOk r = true) (hk : 0 ≤ k ∧ k ≤ 16) (hms : -9223372036854775808 ≤ ms ∧ ms ≤ 9223372036854775807) :
    Calls Tryd.prog 79 #[.pointer (some ⟨a, 0, none⟩), .agg #[.int .i64 ms, .int .i64 mf]] w fun e w' => e = .returned (.tuple #[.int .i64 (backS seed k c r ms mf).v, .int .i64 (backS seed k c r ms mf).e]) ∧ Below w.heap.size w w' := by
  have a0 : Below w.heap.size w (w.alloc (.cells #[.int .i64 ms, .int .i64 mf] 49)) := below_alloc (Below.refl _ _) _
  have g0 : (w.alloc (.cells #[.int .i64 ms, .int .i64 mf] 49)).cell? ⟨w.heap.size, 0, none⟩ = some (.int .i64 ms) := by simp
  have g1 : (w.alloc (.cells #[.int .i64 ms, .int .i64 mf] 49)).cell? ⟨w.heap.size, 1, none⟩ = some (.int .i64 mf) := by simp
  have G0 := Lib.hid g0
  have G1 := Lib.hid g1
  have A0 := Lib.hid a0
  have H := Lib.hid (h.below a0)
  have HC := Lib.hid hc
  have HR := Lib.hid hr
  have hz : (w.alloc (.cells #[.int .i64 ms, .int .i64 mf] 49)).heap.size = w.heap.size + 1 := by simp
  clear h hc hr a0 g0 g1
  have hs : ∃ N, N = backFrom (lateS seed k c r ms mf) (capS ms + 1 + 1).toNat := ⟨_, rfl⟩
  obtain ⟨N, hN⟩ := hs
  have hfin : backS seed k c r ms mf = backOf c N := by rw [hN]; rfl
  have HF := Lib.hid hfin
  have HN := Lib.hid hN
  have hcc : -9223372036854775808 ≤ capS ms ∧ capS ms ≤ 999999 := by unfold capS; split <;> omega
  clear hfin hN
  obtain ⟨W0, hW0⟩ : ∃ W0, W0 = w.alloc (.cells #[.int .i64 ms, .int .i64 mf] 49) := ⟨_, rfl⟩
  have hcap : capS ms = if ms ≤ 999999 then ms else 999999 := rfl
  by_cases hle : ms ≤ 999999
  all_goals
    first | rw [if_pos hle] at hcap | rw [if_neg hle] at hcap
    have HCAP := Lib.hid hcap
    clear hcap
    go_enter Tryd.func79, Tryd.ntmps79
    go_wp2
    rw [← hW0]
    rw [← hW0] at G0 G1 A0 H hz
    have HW0 := Lib.hid hW0
    clear hW0
    go_loopw [6] (fun i wr => ∃ t : Int, i = .int .i64 t ∧ -9223372036854775807 ≤ t ∧ t ≤ 1000000 ∧ N = backFrom (lateS seed k c r ms mf) (t + 1).toNat ∧ Below W0.heap.size W0 wr) (fun i _ => (intOf i + 1).toNat)
    case atStart => exact ⟨capS ms + 1, by first | (rw [HCAP.out]; done) | (rw [HCAP.out]; rfl), by omega, by omega, HN.out, Below.refl _ _⟩
    case round =>
      obtain ⟨t, rfl, t0, t1, hN, hb⟩ := hrel
      by_cases h0 : 0 ≤ t
      · have hk : ∀ X, Below W0.heap.size W0 X → (fun w' => Below W0.heap.size W0 w' ∧ w'.cell? ⟨w.heap.size, 0, none⟩ = some (.int .i64 ms) ∧ w'.cell? ⟨w.heap.size, 1, none⟩ = some (.int .i64 mf)) X := fun X h => ⟨h, cell_below h G0.out, cell_below h G1.out⟩
        have HK := Lib.hid hk
        have HB := Lib.hid hb
        clear hk hb
        cases hl : lateS seed k c r ms mf t
        · have hN2 := hN.trans (backFrom_yes h0 hl)
          have HN2 := Lib.hid hN2
          clear hN hN2
          go_wp2_with fail
          go_region_held3 (fun w' => Below W0.heap.size W0 w' ∧ w'.cell? ⟨w.heap.size, 0, none⟩ = some (.int .i64 ms) ∧ w'.cell? ⟨w.heap.size, 1, none⟩ = some (.int .i64 mf))
            (exact HK.out _ (by first | assumption | exact HB.out | exact Below.drew HB.out))
            (first | (go_at_call 76; refine (reading_keep (W0 := W0) t _ (by first | assumption | exact Below.drew HB.out) H.out HC.out HR.out hk h0 t1).mono ?_; rintro e w2 ⟨rfl, hb2⟩) |
              (go_at_call 93; refine (late_keep (W0 := W0) seed k c r ms mf t _ (by assumption)).mono ?_; rintro e w2 ⟨rfl, hb2⟩))
          have HB2 := Lib.hid hb2
          go_wp2_with fail
          refine (lastRun_at t _ (H.out.below HB2.out) HC.out.evs h0 t1).mono ?_
          rintro e w3 ⟨rfl, hb3⟩
          have HB3 := Lib.hid hb3
          clear hb3
          go_wp2
          go_ret2
          exact ⟨by rw [HF.out, HN2.out]; rfl, A0.out.trans ((HB2.out.trans (HB3.out.mono HB2.out.size)).mono A0.out.size)⟩
        · have hN2 := hN.trans (backFrom_no h0 hl)
          have HN2 := Lib.hid hN2
          clear hN hN2
          go_wp2_with fail
          go_region_held3 (fun w' => Below W0.heap.size W0 w' ∧ w'.cell? ⟨w.heap.size, 0, none⟩ = some (.int .i64 ms) ∧ w'.cell? ⟨w.heap.size, 1, none⟩ = some (.int .i64 mf))
            (exact HK.out _ (by first | assumption | exact HB.out | exact Below.drew HB.out))
            (first | (go_at_call 76; refine (reading_keep (W0 := W0) t _ (by first | assumption | exact Below.drew HB.out) H.out HC.out HR.out hk h0 t1).mono ?_; rintro e w2 ⟨rfl, hb2⟩) |
              (go_at_call 93; refine (late_keep (W0 := W0) seed k c r ms mf t _ (by assumption)).mono ?_; rintro e w2 ⟨rfl, hb2⟩))
          have HB2 := Lib.hid hb2
          go_wp2
          go_roundw
          case rel => exact ⟨t - 1, rfl, by omega, by omega, HN2.out, HB2.out⟩
          case measure => simp [intOf]; omega
      · have hN2 := hN.trans (backFrom_end (by omega))
        have HN2 := Lib.hid hN2
        have HB := Lib.hid hb
        clear hN hN2 hb
        go_wp2
        go_ret2
        exact ⟨by rw [HF.out, HN2.out]; rfl, A0.out.trans (HB.out.mono A0.out.size)⟩
theorem Back_any (W : Wld) (k ms mf : Int) (p1 p2 : Option Addr) (k1 k2 : Nat) (w : World) (ht : Tabs w) (hW : WldIn w W p1 p2) (hms : -9223372036854775808 ≤ ms ∧ ms ≤ 9223372036854775807) :
    Calls Tryd.prog 33 #[wldVal W p1 p2 k1 k2, .int .i64 k, .agg #[.int .i64 ms, .int .i64 mf]] w fun e w' => e = .returned (.tuple #[.int .i64 (backE W k ms mf).v, .int .i64 (backE W k ms mf).e]) ∧ Below w.heap.size w w' := by
  have a0 : Below w.heap.size w ((w.alloc (wldObj W p1 p2 k1 k2)).alloc (.cells #[.int .i64 ms, .int .i64 mf] 49)) := below_alloc (below_alloc (Below.refl _ _) _) _
  have x0 : ((w.alloc (wldObj W p1 p2 k1 k2)).alloc (.cells #[.int .i64 ms, .int .i64 mf] 49)).cell? ⟨w.heap.size + 1, 0, none⟩ = some (.int .i64 ms) := by simp [go_sem]
  have x1 : ((w.alloc (wldObj W p1 p2 k1 k2)).alloc (.cells #[.int .i64 ms, .int .i64 mf] 49)).cell? ⟨w.heap.size + 1, 1, none⟩ = some (.int .i64 mf) := by simp [go_sem]
  have HT := Lib.hid ht
  have HW := Lib.hid hW
  have A0 := Lib.hid a0
  have X0 := Lib.hid x0
  have X1 := Lib.hid x1
  by_cases he : findErr W k [] = 0
  · have hall := allowed_find he
    have HE := Lib.hid he
    have HA := Lib.hid hall
    cases hr : inR mf 0 999999999999999
    · have hbe : backErr W k mf = 1 := by unfold backErr; rw [if_pos he, hr]; rfl
      have hfin : backE W k ms mf = ⟨0, 1⟩ := by unfold backE; rw [hbe]; rfl
      have HF := Lib.hid hfin
      clear he hfin hbe hall ht hW a0 x0 x1
      unfold wldVal
      go_enter Tryd.func33, Tryd.ntmps33
      go_wp2_with fail
      refine (find_ok W k [] p1 p2 _ k1 k2 0 ((w.alloc (wldObj W p1 p2 k1 k2)).alloc (.cells #[.int .i64 ms, .int .i64 mf] 49)) _ (Below.refl _ _) (HT.out.below A0.out) (HW.out.below A0.out) (secs_nil _) HE.out).mono ?_
      rintro e w1 ⟨a, m, v, rfl, hat, hb, hage⟩
      have y0 := cell_below hb X0.out
      have y1 := cell_below hb X1.out
      have hz := cell_lt y0
      have HAT := Lib.hid hat
      have HB := Lib.hid (A0.out.trans (hb.mono A0.out.size))
      clear hat hb hage
      go_wp2_with (go_at_call 52; refine (within_any _ _ _ _).mono ?_; rintro e w' ⟨rfl, rfl⟩)
      go_ret2
      exact ⟨by rw [HF.out]; rfl, HB.out⟩
    · have hbe : backErr W k mf = 0 := by unfold backErr; rw [if_pos he, hr]; rfl
      have hfin : backE W k ms mf = backS W.seed k (clkOf W k) (roomOf W k) ms mf := if_pos hbe
      have HF := Lib.hid hfin
      clear he hfin hbe hall ht hW a0 x0 x1
      unfold wldVal
      go_enter Tryd.func33, Tryd.ntmps33
      go_wp2_with fail
      refine (find_ok W k [] p1 p2 _ k1 k2 0 ((w.alloc (wldObj W p1 p2 k1 k2)).alloc (.cells #[.int .i64 ms, .int .i64 mf] 49)) _ (Below.refl _ _) (HT.out.below A0.out) (HW.out.below A0.out) (secs_nil _) HE.out).mono ?_
      rintro e w1 ⟨a, m, v, rfl, hat, hb, hage⟩
      have y0 := cell_below hb X0.out
      have y1 := cell_below hb X1.out
      have hz := cell_lt y0
      have HAT := Lib.hid hat
      have HB := Lib.hid (A0.out.trans (hb.mono A0.out.size))
      clear hat hb hage
      go_wp2_with (go_at_call 52; refine (within_any _ _ _ _).mono ?_; rintro e w' ⟨rfl, rfl⟩)
      refine (back_at ms mf _ HAT.out HA.out.cin HA.out.rok HA.out.k16 hms).mono ?_
      rintro e w2 ⟨rfl, hb2⟩
      have HB2 := Lib.hid hb2
      clear hb2
      go_wp2
      go_ret2
      exact ⟨by rw [HF.out]; rfl, HB.out.trans (HB2.out.mono HB.out.size)⟩
  · have hbe : backErr W k mf = findErr W k [] := if_neg he
    have hfin : backE W k ms mf = ⟨0, findErr W k []⟩ := by unfold backE; rw [hbe, if_neg he]
    have hne : (findErr W k [] != 0) = true := by simpa using he
    have HF := Lib.hid hfin
    have HE := Lib.hid he
    clear he hfin hbe ht hW a0 x0 x1
    unfold wldVal
    go_enter Tryd.func33, Tryd.ntmps33
    go_wp2_with fail
    refine (find_no W k [] p1 p2 _ k1 k2 0 w _ A0.out HT.out HW.out (secs_nil _) HE.out).mono ?_
    rintro e w1 ⟨rfl, hb⟩
    have HB := Lib.hid hb
    clear hb
    go_wp2
    go_ret2
    exact ⟨by rw [HF.out]; rfl, HB.out⟩
end Go.Proofs.YthegamfbigphkaaDoor
