/- Contracts of the reference: the last stop of a clock, an order of moments; lists of numbers compared; a track. -/
import Derived.Test.YthegamfbigphkaaDoorRefL
import Derived.Test.YthegamfbigphkaaDoorTrack
namespace Go.Proofs.YthegamfbigphkaaDoor
open Go Go.RowKit
theorem stopAt_snoc (s : Int) (l : List Evt) (q : Nat) (h : q < l.length) : stopAt s (l.take (q + 1)) = stopAtF s (stopAt s (l.take q)) l[q] := by
  unfold stopAt
  rw [List.take_succ_eq_append_getElem h, List.foldl_append]; rfl
set_option maxRecDepth 100000 in
set_option maxHeartbeats 1000000 in
theorem rbefore_any (ki ph ra dr wh wa he ro : Int) (l : List Evt) (v : Value) (s : Int) (w : World) (hv : EvSlice w l v) (hs1 : 1 ≤ stopAt s l ∧ stopAt s l ≤ s) (hs2 : s ≤ 1000000) :
    Calls Tryd.prog 81 #[.agg #[.int .i64 ki, .int .i64 ph, .int .i64 ra, .int .i64 dr, .int .i64 wh, .int .i64 wa, .int .i64 he, .int .i64 ro, v], .int .i64 s] w fun e w' => e = .returned (.int .i64 (stopAt s l - 1)) ∧ Below w.heap.size w w' := by
  obtain ⟨p, cap, rfl, hm, hs⟩ := hv
  unfold maxLen at hm
  rcases hs with h0 | ⟨b, o, rfl, hs⟩
  · have hn : l = [] := List.eq_nil_of_length_eq_zero h0
    subst hn
    have : stopAt s [] = 0 := rfl
    omega
  · have hB0 := (Below.refl w.heap.size w).alloc (Nat.le_refl _) (.cells #[.int .i64 ki, .int .i64 ph, .int .i64 ra, .int .i64 dr, .int .i64 wh, .int .i64 wa, .int .i64 he, .int .i64 ro, .slice (some ⟨b, o, none⟩) l.length cap] 73)
    have x8 : (w.alloc (.cells #[.int .i64 ki, .int .i64 ph, .int .i64 ra, .int .i64 dr, .int .i64 wh, .int .i64 wa, .int .i64 he, .int .i64 ro, .slice (some ⟨b, o, none⟩) l.length cap] 73)).cell? ⟨w.heap.size, 8, none⟩ = some (.slice (some ⟨b, o, none⟩) l.length cap) := by simp
    have HS := Lib.hid (hs.below hB0)
    have HB0 := Lib.hid hB0
    obtain ⟨fin, hfin⟩ : ∃ fin, fin = stopAt s l := ⟨_, rfl⟩
    rw [← hfin] at hs1 ⊢
    have HFIN := Lib.hid hfin
    clear hs hB0 hfin
    go_enter Tryd.func81, Tryd.ntmps81
    go_wp2
    generalize w.alloc (.cells #[.int .i64 ki, .int .i64 ph, .int .i64 ra, .int .i64 dr, .int .i64 wh, .int .i64 wa, .int .i64 he, .int .i64 ro, .slice (some ⟨b, o, none⟩) l.length cap] 73) = W1 at *
    go_loop [5, 6] (fun a i => ∃ (q : Nat) (z : Int), q ≤ l.length ∧ i = .int .i64 q ∧ a = .int .i64 z ∧ Hid (z = stopAt s (l.take q))) (fun _ i => l.length - (intOf i).toNat)
    case atStart => exact ⟨0, 0, Nat.zero_le _, rfl, rfl, Lib.hid rfl⟩
    case round =>
      obtain ⟨q, z, hq, rfl, rfl, HZ⟩ := hrel
      by_cases hlt : q < l.length
      · obtain ⟨e0, e1, e2⟩ := HS.out q hlt
        have hql : (q : Int) < (l.length : Int) := by omega
        have hst := stopAt_snoc s l q hlt
        rw [← HZ.out] at hst
        generalize l[q] = ev at *
        obtain ⟨wt, se, sz⟩ := ev
        dsimp only at e0 e1 e2
        by_cases h1 : se ≤ s
        · have d1 : decide (se ≤ s) = true := by simpa using h1
          by_cases h3 : wt = 3
          · subst h3
            have HST := Lib.hid (show se = stopAt s (l.take (q + 1)) by rw [hst]; exact (if_pos ⟨h1, rfl⟩).symm)
            clear hst
            go_wp2
            go_round
            case rel => exact ⟨q + 1, se, by omega, by go_num, rfl, HST⟩
            case measure => simp [intOf]; omega
          · have d3 : (wt == 3) = false := by simpa using h3
            have HST := Lib.hid (show z = stopAt s (l.take (q + 1)) by rw [hst]; exact (if_neg fun x => h3 x.2).symm)
            clear hst
            go_wp2
            go_round
            case rel => exact ⟨q + 1, z, by omega, by go_num, rfl, HST⟩
            case measure => simp [intOf]; omega
        · have d1 : decide (se ≤ s) = false := by simpa using h1
          have HST := Lib.hid (show z = stopAt s (l.take (q + 1)) by rw [hst]; exact (if_neg fun x => h1 x.1).symm)
          clear hst
          go_wp2
          go_round
          case rel => exact ⟨q + 1, z, by omega, by go_num, rfl, HST⟩
          case measure => simp [intOf]; omega
      · obtain rfl : q = l.length := by omega
        have hz : z = fin := by rw [HZ.out, HFIN.out, List.take_length]
        subst hz
        have hql : ¬ (l.length : Int) < (l.length : Int) := by omega
        go_wp2
        go_ret
        exact ⟨ret_i64 (by omega), HB0.out⟩
theorem rAfter_any (a b c d : Int) (w : World) :
    Calls Tryd.prog 80 #[.agg #[.int .i64 a, .int .i64 b], .agg #[.int .i64 c, .int .i64 d]] w fun e w' => e = .returned (.bool (afterS a b c d)) ∧ Below w.heap.size w w' := by
  cases h1 : decide (c < a)
  · cases h2 : (a == c)
    all_goals
      go_enter Tryd.func80, Tryd.ntmps80
      go_wp2
      go_ret
      exact ⟨ret_bool (by simp [afterS, *]), by go_grown⟩
  · go_enter Tryd.func80, Tryd.ntmps80
    go_wp2
    go_ret
    exact ⟨ret_bool (by simp [afterS, *]), by go_grown⟩
set_option maxRecDepth 100000 in
set_option maxHeartbeats 1000000 in
theorem sameInts_any (l : List Int) (v u : Value) (w : World) (hv : IntRow w v l) (hu : IntRow w u l) :
    Calls Tryd.prog 30 #[v, u] w fun e w' => e = .returned (.bool true) ∧ Below w.heap.size w w' := by
  obtain ⟨p1, c1, rfl, hm, hs1⟩ := hv
  obtain ⟨p2, c2, rfl, -, hs2⟩ := hu
  unfold maxLen at hm
  have HS1 := Lib.hid hs1
  have HS2 := Lib.hid hs2
  clear hs1 hs2
  have hnn : ((l.length : Int) != (l.length : Int)) = false := by simp
  by_cases hn : l.length = 0
  · have hl : (l.length : Int) ≤ 0 := by omega
    clear hn
    go_enter Tryd.func30, Tryd.ntmps30
    go_wp2
    go_loop [5] (fun i => i = .int .i64 0) (fun i => (5 : Nat) - (intOf i).toNat)
    case atStart => rfl
    case round =>
      subst hrel
      go_wp2
      go_ret
      exact ⟨rfl, Below.refl _ _⟩
  · obtain ⟨b1, o1, rfl, h1⟩ := HS1.out.resolve_left hn
    obtain ⟨b2, o2, rfl, h2⟩ := HS2.out.resolve_left hn
    have H1 := Lib.hid h1
    have H2 := Lib.hid h2
    clear h1 h2 HS1 HS2
    go_enter Tryd.func30, Tryd.ntmps30
    go_wp2
    go_loopw [5] (fun i wr => ∃ q : Nat, q ≤ l.length ∧ i = .int .i64 q ∧ Hid (Below w.heap.size w wr)) (fun i _ => l.length - (intOf i).toNat)
    case atStart => exact ⟨0, Nat.zero_le _, rfl, Lib.hid (Below.refl _ _)⟩
    case round =>
      obtain ⟨q, hq, rfl, HB⟩ := hrel
      by_cases hlt : q < l.length
      · have e1 := cell_below HB.out (H1.out q hlt)
        have e2 := cell_below HB.out (H2.out q hlt)
        have hql : (q : Int) < (l.length : Int) := by omega
        have hq0 : (0 : Int) ≤ (q : Int) := by omega
        generalize l[q] = x at *
        have hx : (x != x) = false := by simp
        go_wp2
        go_quiet (fail)
        go_wp2
        go_roundw
        case rel => exact ⟨q + 1, by omega, by go_num, Lib.hid (below_drewN HB.out _)⟩
        case measure => simp [intOf]; omega
      · obtain rfl : q = l.length := by omega
        go_wp2
        go_ret
        exact ⟨rfl, HB.out⟩
theorem shownE_no {W : Wld} {k s : Int} (h : findErr W k [s] = 0) (hr : runsS (clkOf W k) s = false) : shownE W k s = ⟨0, 22⟩ := by
  have : runErr W k s = 22 := by unfold runErr; rw [if_pos h, hr]; rfl
  unfold shownE; rw [this]; rfl
theorem shownE_yes {W : Wld} {k s : Int} (h : findErr W k [s] = 0) (hr : runsS (clkOf W k) s = true) : shownE W k s = ⟨shownS W.seed k (clkOf W k) (roomOf W k) s, 0⟩ := by
  have : runErr W k s = 0 := by unfold runErr; rw [if_pos h, hr]; rfl
  unfold shownE; rw [if_pos this]
theorem rShown_lit (W : Wld) (k s v e : Int) (p1 p2 : Option Addr) (c1 c2 : Nat) (w : World) (hW : WldIn w W p1 p2) (h : shownE W k s = ⟨v, e⟩) :
    Calls Tryd.prog 22 #[.agg #[.int .u64 W.seed, .slice p1 W.chs.length c1, .slice p2 W.cls.length c2], .int .i64 k, .int .i64 s] w fun x w' => x = .returned (.tuple #[.int .i64 v, .int .i64 e]) ∧ Below w.heap.size w w' :=
  (rShown_any W k s p1 p2 c1 c2 w hW).mono fun x w' ⟨a, b⟩ => ⟨by rw [a, h], b⟩
theorem track21 {W : Wld} {k x st n : Int} {q : Nat} (h0 : findErr W k [] = 0) (h1 : 1 ≤ st) (h2 : 0 ≤ n ∧ n ≤ 20000) (hq : (q : Int) + 1 < n) (hs : 1000000 - (x + (q : Int) * st) < st) : trackErr W k x st n = 21 := by
  have hm : ((q : Int) + 1) * st ≤ (n - 1) * st := Int.mul_le_mul_of_nonneg_right (by omega) (by omega)
  have hc : (n - 1) * st = st * (n - 1) := Int.mul_comm _ _
  have he : ((q : Int) + 1) * st = (q : Int) * st + st := by rw [Int.add_mul, Int.one_mul]
  unfold trackErr
  rw [if_pos h0, if_pos ⟨h1, h2⟩, if_neg]
  rintro ⟨-, h | h⟩
  · omega
  · omega
theorem track0 {W : Wld} {k x st n : Int} {q : Nat} (h0 : findErr W k [] = 0) (h1 : 1 ≤ st) (h2 : 0 ≤ n ∧ n ≤ 20000) (h3 : 0 ≤ x ∧ x ≤ 1000000) (hq : n ≤ (q : Int) + 1) (hs : x + (q : Int) * st ≤ 1000000) (hw : q = 0 ∨ (q : Int) + 1 ≤ n) : trackErr W k x st n = 0 := by
  unfold trackErr
  rw [if_pos h0, if_pos ⟨h1, h2⟩, if_pos]
  refine ⟨h3, ?_⟩
  rcases hw with rfl | hw
  · exact .inl (by omega)
  · have hn : n = (q : Int) + 1 := by omega
    right
    rw [hn, show (q : Int) + 1 - 1 = q by omega, Int.mul_comm]
    omega
set_option maxRecDepth 100000 in
set_option maxHeartbeats 4000000 in
theorem rTrack_any (W : Wld) (k x st n : Int) (p1 p2 : Option Addr) (c1 c2 : Nat) (w : World) (hW : WldIn w W p1 p2) (hst : st ≤ 9223372036854775807) :
    Calls Tryd.prog 29 #[.agg #[.int .u64 W.seed, .slice p1 W.chs.length c1, .slice p2 W.cls.length c2], .int .i64 k, .int .i64 x, .int .i64 st, .int .i64 n] w (TrackRet (trackE W k x st n) w) := by
  have a0 := below_alloc' (Below.refl w.heap.size w) (.cells #[.int .u64 W.seed, .slice p1 W.chs.length c1, .slice p2 W.cls.length c2] 26)
  have x0 : (w.alloc (.cells #[.int .u64 W.seed, .slice p1 W.chs.length c1, .slice p2 W.cls.length c2] 26)).cell? ⟨w.heap.size, 0, none⟩ = some (.int .u64 W.seed) := by simp
  have x1 : (w.alloc (.cells #[.int .u64 W.seed, .slice p1 W.chs.length c1, .slice p2 W.cls.length c2] 26)).cell? ⟨w.heap.size, 1, none⟩ = some (.slice p1 W.chs.length c1) := by simp
  have x2 : (w.alloc (.cells #[.int .u64 W.seed, .slice p1 W.chs.length c1, .slice p2 W.cls.length c2] 26)).cell? ⟨w.heap.size, 2, none⟩ = some (.slice p2 W.cls.length c2) := by simp
  have X0 := Lib.hid x0
  have X1 := Lib.hid x1
  have X2 := Lib.hid x2
  have HW0 := Lib.hid (hW.below a0)
  have A0 := Lib.hid a0
  clear hW a0 x0 x1 x2
  have hfz := find_zero W k
  by_cases he : findErr W k [] = 0
  · rw [he] at hfz
    have HE := Lib.hid he
    have HFZ := Lib.hid hfz
    have hte : trackErr W k x st n = (if 1 ≤ st ∧ (0 ≤ n ∧ n ≤ 20000) then (if (0 ≤ x ∧ x ≤ 1000000) ∧ (n ≤ 1 ∨ st * (n - 1) ≤ 1000000 - x) then 0 else 21) else 1) := if_pos he
    have HTE := Lib.hid hte
    clear he hfz hte
    go_enter Tryd.func29, Tryd.ntmps29
    go_wp2_with fail
    refine (clocked_any W k 0 p1 p2 c1 c2 _ HW0.out).mono ?_
    rintro e w1 ⟨rfl, hb1⟩
    rw [HFZ.out]
    have HB1 := Lib.hid (A0.out.trans (hb1.mono A0.out.size))
    have HW1 := Lib.hid (HW0.out.below hb1)
    have Y0 := Lib.hid (cell_below hb1 X0.out)
    have Y1 := Lib.hid (cell_below hb1 X1.out)
    have Y2 := Lib.hid (cell_below hb1 X2.out)
    clear hb1 X0 X1 X2 HW0
    by_cases h1 : 1 ≤ st ∧ (0 ≤ n ∧ n ≤ 20000)
    · by_cases h2 : 0 ≤ x ∧ x ≤ 1000000
      · obtain ⟨h1, h1b⟩ := h1
        go_wp2
        go_loop [13, 14] (fun s i => ∃ q : Nat, i = .int .i64 ((q : Int) + 1) ∧ s = .int .i64 (x + (q : Int) * st) ∧ (0 ≤ (q : Int) * st ∧ x + (q : Int) * st ≤ 1000000) ∧ (q = 0 ∨ (q : Int) + 1 ≤ n)) (fun _ i => (n + 1 - intOf i).toNat)
        case atStart => exact ⟨0, rfl, by simp, by simp; omega, .inl rfl⟩
        case round =>
          obtain ⟨q, rfl, rfl, ⟨g0, g1⟩, g2⟩ := hrel
          have hqb : (q : Int) ≤ 20000 := by omega
          by_cases hlt : (q : Int) + 1 < n
          · by_cases hs : 1000000 - (x + (q : Int) * st) < st
            · have HF := Lib.hid (trackE_err (track21 HE.out h1 h1b hlt hs) (by decide))
              go_wp2
              go_ret2
              exact trackRet_nil HF.out HB1.out
            · have HQ := Lib.hid (show ((q + 1 : Nat) : Int) * st = (q : Int) * st + st by rw [Int.natCast_add, Int.add_mul]; simp)
              go_wp2
              go_round
              case rel => exact ⟨q + 1, congrArg (Value.int .i64) (by omega), congrArg (Value.int .i64) (by rw [HQ.out]; omega), by rw [HQ.out]; omega, .inr (by omega)⟩
              case measure => simp [intOf]; omega
          · have ht0 := track0 HE.out h1 h1b h2 (by omega) g1 g2
            have H3 := Lib.hid (trackErr_parts ht0).2.2.2.2
            have HF := Lib.hid (trackE_ok ht0)
            clear ht0 g0 g1 g2
            obtain ⟨n, rfl⟩ : ∃ m : Nat, n = m := ⟨n.toNat, by omega⟩
            have hn0 : ((n : Int)).toNat = n := by omega
            rw [hn0] at HF
            clear hn0
            obtain ⟨i0, hi0, hz0, hz1, hz2⟩ := info_parts infoInt
            go_wp2
            go_loopw [15, 16] (fun l i wr => ∃ j : Nat, j ≤ n ∧ i = .int .i64 j ∧ Hid (trackRuns (clkOf W k) x st j = true) ∧ Hid (wr.ownsRow w1.heap.size 3 1 l j (ints (trackL W.seed k (clkOf W k) (roomOf W k) x st j))) ∧ Hid (Below w1.heap.size w1 wr)) (fun _ i _ => n - (intOf i).toNat)
            case atStart => exact ⟨0, Nat.zero_le _, rfl, Lib.hid rfl, Lib.hid (World.ownsRow_nil _ _ _ _), Lib.hid (Below.refl _ _)⟩
            case round =>
              obtain ⟨j, hj, rfl, HRN, HO, HB⟩ := hrel
              by_cases hjl : j < n
              · obtain ⟨⟨m0, m1⟩, s0, s1⟩ := track_sec (i := j) h1 h2 H3.out (by omega)
                have HFS := Lib.hid (find_sec HE.out (x + (j : Int) * st) ⟨s0, s1⟩)
                have y0 := cell_below HB.out Y0.out
                have y1 := cell_below HB.out Y1.out
                have y2 := cell_below HB.out Y2.out
                have hz := cell_lt y0
                have HBW := Lib.hid (HB1.out.trans (HB.out.mono HB1.out.size))
                cases hrn : runsS (clkOf W k) (x + (j : Int) * st)
                · have HSH := Lib.hid (shownE_no HFS.out hrn)
                  have HF2 := Lib.hid (HF.out.trans (show trackOf W.seed k (clkOf W k) (roomOf W k) x st n = ⟨[], 22⟩ by unfold trackOf; rw [trackRuns_no _ x st j hrn n hjl]; rfl))
                  clear hrn
                  go_wp2_with fail
                  refine (rShown_lit W k (x + (j : Int) * st) 0 22 p1 p2 c1 c2 _ (HW1.out.below HB.out) HSH.out).mono ?_
                  rintro e w2 ⟨rfl, hb2⟩
                  have HB2 := Lib.hid (HBW.out.trans (hb2.mono HBW.out.size))
                  clear hb2 y0 y1 y2 hz
                  go_wp2
                  go_ret2
                  exact trackRet_nil HF2.out HB2.out
                · have HSH := Lib.hid (shownE_yes HFS.out hrn)
                  have HRN2 := Lib.hid (show trackRuns (clkOf W k) x st (j + 1) = true by unfold trackRuns; rw [HRN.out, hrn]; rfl)
                  clear hrn
                  go_wp2_with fail
                  refine (rShown_lit W k (x + (j : Int) * st) _ 0 p1 p2 c1 c2 _ (HW1.out.below HB.out) HSH.out).mono ?_
                  rintro e w2 ⟨rfl, hb2⟩
                  have HB2 := Lib.hid (HBW.out.trans (hb2.mono HBW.out.size))
                  have HB3 := Lib.hid (HB.out.trans (hb2.mono HB.out.size))
                  have HO2 := Lib.hid (own_below HO.out hb2 (Nat.le_refl _))
                  have hszz := HB2.out.size
                  have hszb := HB3.out.size
                  have hszc := HB1.out.size
                  clear hb2 y0 y1 y2 hz
                  go_wp2_with (at_builtin; refine wpList_append_lies _ rfl (.tmp 73) (.tmp 75) _ rfl w1.heap.size 3 i0 (.int .i64 0) 1 8 Tryd.underlying57 hi0 hz0 hz1 hz2 rfl (by omega) _ j _ rfl (HO2.out.alloc _) ⟨w2.heap.size, 0, none⟩ 1 1 [_] rfl rfl (cell_one_new _ _ _) (by simp [Value.oneCell']) (by omega) (by unfold maxLen; omega) (by omega) (by simp; omega) _ rfl ?_; intro gg cap z1 hown1 hgrow _ _; have HO3 := Lib.hid hown1; have HB4 := Lib.hid (below_grown (below_alloc' HB3.out _) hgrow (fun g hg => (HO2.out.lt g hg).1)); clear hown1 hgrow)
                  go_roundw
                  case rel => exact ⟨j + 1, by omega, by go_num, HRN2, Lib.hid (by show World.ownsRow _ _ _ _ _ _ (ints (trackL W.seed k (clkOf W k) (roomOf W k) x st j ++ [_])); rw [ints_snoc]; exact HO3.out), HB4⟩
                  case measure => simp [intOf]; omega
              · obtain rfl : j = n := by omega
                have HF2 := Lib.hid (HF.out.trans (show trackOf W.seed k (clkOf W k) (roomOf W k) x st j = ⟨trackL W.seed k (clkOf W k) (roomOf W k) x st j, 0⟩ by unfold trackOf; rw [HRN.out]; rfl))
                go_wp2
                go_ret2
                exact trackRet_of HF2.out (intRow_of_own HO.out (by rw [trackL_len]; unfold maxLen; omega)) (HB1.out.trans (HB.out.mono HB1.out.size))
      · have HF := Lib.hid (trackE_err (HTE.out.trans ((if_pos h1).trans (if_neg fun h => h2 h.1))) (show (21 : Int) ≠ 0 by decide))
        obtain ⟨h1, h1b⟩ := h1
        by_cases h3 : x < 0
        · have d1 : decide (x < 0) = true := by simpa using h3
          go_wp2
          go_ret2
          exact trackRet_nil HF.out HB1.out
        · have d1 : decide (x < 0) = false := by simpa using h3
          have d2 : decide (1000000 < x) = true := by simp; omega
          go_wp2
          go_ret2
          exact trackRet_nil HF.out HB1.out
    · have HF := Lib.hid (trackE_err (HTE.out.trans (if_neg h1)) (show (1 : Int) ≠ 0 by decide))
      by_cases h3 : st < 1
      · have d1 : decide (st < 1) = true := by simpa using h3
        go_wp2
        go_ret2
        exact trackRet_nil HF.out HB1.out
      · have d1 : decide (st < 1) = false := by simpa using h3
        by_cases h4 : n < 0
        · have d2 : decide (n < 0) = true := by simpa using h4
          go_wp2
          go_ret2
          exact trackRet_nil HF.out HB1.out
        · have d2 : decide (n < 0) = false := by simpa using h4
          have d3 : decide (20000 < n) = true := by simp; omega
          go_wp2
          go_ret2
          exact trackRet_nil HF.out HB1.out
  · have hne : (findErr W k [] != 0) = true := by simpa using he
    have HF := Lib.hid (trackE_err (show trackErr W k x st n = findErr W k [] from if_neg he) he)
    have HFZ := Lib.hid hfz
    clear he hfz X0 X1 X2
    go_enter Tryd.func29, Tryd.ntmps29
    go_wp2_with fail
    refine (clocked_any W k 0 p1 p2 c1 c2 _ HW0.out).mono ?_
    rintro e w1 ⟨rfl, hb1⟩
    rw [HFZ.out]
    have HB1 := Lib.hid (A0.out.trans (hb1.mono A0.out.size))
    clear hb1
    go_wp2
    go_ret2
    exact trackRet_nil HF.out HB1.out
end Go.Proofs.YthegamfbigphkaaDoor
