/- Contracts of the reference: does a clock run; the error of a clock and a second. · Contracts of the reference: the error of a clock and a second. -/
import Derived.Test.YtlelamjbfjneiaaGreatDoorQ39
namespace Go.Proofs.YtlelamjbfjneiaaGreatDoor.Wd
section
open Go Go.RowKit
theorem stop_step (s : Int) (l : List Evt) (q : Nat) (h : q < l.length) (hok : evOk l[q] = true) :
    (pastS s (l.take (q + 1))).stopped = if l[q].sec ≤ s ∧ 3 ≤ l[q].what then (l[q].what == 3) else (pastS s (l.take q)).stopped := by
  have hp := (evOk_parts hok).1
  unfold pastS
  rw [pastFrom_snoc s _ l q h]
  unfold Past.bear
  by_cases h1 : l[q].sec ≤ s
  · rw [if_pos h1]
    by_cases w1 : l[q].what = 1
    · rw [if_pos w1, if_neg (by omega)]
    · rw [if_neg w1]
      by_cases w2 : l[q].what = 2
      · rw [if_pos w2, if_neg (by omega)]
      · rw [if_neg w2]
        by_cases w3 : l[q].what = 3
        · rw [if_pos w3, if_pos (by omega)]; simp [w3]
        · rw [if_neg w3, if_pos (by omega)]; simp [w3]
  · rw [if_neg h1, if_neg (by omega)]
def runsL (l : List Evt) (s : Int) : Bool := !(pastS s l).stopped
set_option maxRecDepth 100000 in
set_option maxHeartbeats 1000000 in
theorem running_any (ki ph ra dr wh wa he ro : Int) (l : List Evt) (v : Value) (s : Int) (w : World) (hv : EvSlice w l v) (hl : evsOk l = true) :
    Calls Tryz.prog 58 #[.agg #[.int .i64 ki, .int .i64 ph, .int .i64 ra, .int .i64 dr, .int .i64 wh, .int .i64 wa, .int .i64 he, .int .i64 ro, v], .int .i64 s] w fun e w' => e = .returned (.bool (runsL l s)) ∧ Below w.heap.size w w' := by
  obtain ⟨p, cap, rfl, hm, hs⟩ := hv
  obtain ⟨hl8, hev⟩ := evsOk_parts hl
  unfold maxLen at hm
  have HEV := Lib.hid hev
  clear hl hev
  rcases hs with h0 | ⟨b, o, rfl, hs⟩
  · have hn : l = [] := List.eq_nil_of_length_eq_zero h0
    have hf : true = runsL l s := by rw [hn]; rfl
    have HF := Lib.hid hf
    subst hn
    clear hf h0
    go_enter Tryz.func58, Tryz.ntmps58
    go_wp2
    go_loop [5] (fun i => i = .int .i64 (-1)) (fun i => (5 : Nat) - (intOf i).toNat)
    case atStart => rfl
    case round =>
      subst hrel
      go_wp2
      go_ret
      exact ⟨ret_bool HF.out, by go_grown⟩
  · have HS := Lib.hid (fun i hi => (hs i hi).below ((Below.refl w.heap.size w).alloc (Nat.le_refl _) (.cells #[.int .i64 ki, .int .i64 ph, .int .i64 ra, .int .i64 dr, .int .i64 wh, .int .i64 wa, .int .i64 he, .int .i64 ro, .slice (some ⟨b, o, none⟩) l.length cap] 61)))
    have x8 : (w.alloc (.cells #[.int .i64 ki, .int .i64 ph, .int .i64 ra, .int .i64 dr, .int .i64 wh, .int .i64 wa, .int .i64 he, .int .i64 ro, .slice (some ⟨b, o, none⟩) l.length cap] 61)).cell? ⟨w.heap.size, 8, none⟩ = some (.slice (some ⟨b, o, none⟩) l.length cap) := by simp
    have hB0 := (Below.refl w.heap.size w).alloc (Nat.le_refl _) (.cells #[.int .i64 ki, .int .i64 ph, .int .i64 ra, .int .i64 dr, .int .i64 wh, .int .i64 wa, .int .i64 he, .int .i64 ro, .slice (some ⟨b, o, none⟩) l.length cap] 61)
    have HB0 := Lib.hid hB0
    clear hs hB0
    go_enter Tryz.func58, Tryz.ntmps58
    go_wp2
    generalize w.alloc (.cells #[.int .i64 ki, .int .i64 ph, .int .i64 ra, .int .i64 dr, .int .i64 wh, .int .i64 wa, .int .i64 he, .int .i64 ro, .slice (some ⟨b, o, none⟩) l.length cap] 61) = W1 at *
    go_loop [5] (fun i => ∃ k : Nat, k ≤ l.length ∧ i = .int .i64 ((k : Int) - 1) ∧ Hid ((pastS s l).stopped = (pastS s (l.take k)).stopped)) (fun i => (intOf i + 1).toNat)
    case atStart => exact ⟨l.length, Nat.le_refl _, rfl, Lib.hid (by rw [List.take_length])⟩
    case round =>
      obtain ⟨k, hk, rfl, HQ⟩ := hrel
      rcases Nat.eq_zero_or_pos k with h0 | h0
      · have hf : true = runsL l s := by unfold runsL; rw [HQ.out, h0]; rfl
        have HF := Lib.hid hf
        have hk0 : (k : Int) - 1 < 0 := by omega
        clear hf h0
        go_wp2
        go_ret
        exact ⟨ret_bool HF.out, HB0.out⟩
      · obtain ⟨q, rfl⟩ : ∃ q, k = q + 1 := ⟨k - 1, by omega⟩
        rw [show ((q + 1 : Nat) : Int) - 1 = (q : Int) by omega] at *
        have hlt : q < l.length := by omega
        obtain ⟨e0, e1, e2⟩ := HS.out q hlt
        have hst := stop_step s l q hlt (HEV.out _ (List.getElem_mem hlt))
        have hpa := (evOk_parts (HEV.out _ (List.getElem_mem hlt))).1
        have hql : (q : Int) < (l.length : Int) := by omega
        have hq2 := HQ.out
        rw [hst] at hq2
        have HQ2 := Lib.hid hq2
        clear hst hq2 HQ hk h0
        generalize hev : l[q] = ev at *
        have HEE := Lib.hid hev
        clear hev
        obtain ⟨wt, se, sz⟩ := ev
        dsimp only at e0 e1 e2 hpa
        by_cases hc : se ≤ s
        · by_cases h3 : 3 ≤ wt
          · have hf : (wt == 4) = runsL l s := by
              have := HQ2.out
              rw [if_pos ⟨hc, h3⟩] at this
              unfold runsL
              rw [this]
              have hw : wt = 3 ∨ wt = 4 := by omega
              rcases hw with rfl | rfl <;> rfl
            have HF := Lib.hid hf
            clear hf HQ2
            go_wp2
            go_ret
            exact ⟨ret_bool HF.out, HB0.out⟩
          · have hg : (pastS s l).stopped = (pastS s (l.take q)).stopped := by
              have := HQ2.out
              rw [if_neg (by dsimp only; omega)] at this
              exact this
            have HG := Lib.hid hg
            clear hg HQ2
            go_wp2
            go_round
            case rel => exact ⟨q, by omega, rfl, HG⟩
            case measure => simp [intOf]
        · have hg : (pastS s l).stopped = (pastS s (l.take q)).stopped := by
            have := HQ2.out
            rw [if_neg (by dsimp only; omega)] at this
            exact this
          have HG := Lib.hid hg
          clear hg HQ2
          go_wp2
          go_round
          case rel => exact ⟨q, by omega, rfl, HG⟩
          case measure => simp [intOf]
end
section
open Go Go.RowKit
theorem clocked_in {W : Wld} {k s : Int} (hc : checkS W = 0) : findErr W k [s] = if k < 0 ∨ (W.cls.length : Int) ≤ k then 20 else if s < 0 ∨ 1000000 < s then 21 else 0 := by
  unfold findErr
  rw [if_pos hc]
  by_cases h1 : k < 0 ∨ (W.cls.length : Int) ≤ k
  · rw [if_pos h1, if_neg]
    intro h; have := inR_true h; omega
  · rw [if_neg h1, if_pos ((inR_iff _ _ _).2 (by omega))]
    by_cases h2 : s < 0 ∨ 1000000 < s
    · rw [if_pos h2, if_neg]
      intro h
      simp only [secsOk, List.all_cons, List.all_nil, Bool.and_true, inR_iff] at h
      omega
    · rw [if_neg h2, if_pos]
      simp only [secsOk, List.all_cons, List.all_nil, Bool.and_true, inR_iff]
      omega
set_option maxRecDepth 100000 in
set_option maxHeartbeats 1000000 in
theorem clocked_any (W : Wld) (k s : Int) (p1 p2 : Option Addr) (c1 c2 : Nat) (w : World) (hW : WldIn w W p1 p2) :
    Calls Tryz.prog 57 #[.agg #[.int .u64 W.seed, .slice p1 W.chs.length c1, .slice p2 W.cls.length c2], .int .i64 k, .int .i64 s] w fun e w' => e = .returned (.int .i64 (findErr W k [s])) ∧ Below w.heap.size w w' := by
  have hm2 := hW.2.1
  unfold maxLen at hm2
  have a0 := (Below.refl w.heap.size w).alloc (Nat.le_refl _) (.cells #[.int .u64 W.seed, .slice p1 W.chs.length c1, .slice p2 W.cls.length c2] 28)
  have x2 : (w.alloc (.cells #[.int .u64 W.seed, .slice p1 W.chs.length c1, .slice p2 W.cls.length c2] 28)).cell? ⟨w.heap.size, 2, none⟩ = some (.slice p2 W.cls.length c2) := by simp
  have HW0 := Lib.hid (hW.below a0)
  have A0 := Lib.hid a0
  clear hW
  by_cases hc : checkS W = 0
  · have hf := clocked_in (k := k) (s := s) hc
    have HC := Lib.hid hc
    have X2 := Lib.hid x2
    clear hc x2 a0
    by_cases h1 : k < 0
    · rw [if_pos (.inl h1)] at hf
      have HF := Lib.hid hf
      clear hf
      go_enter Tryz.func57, Tryz.ntmps57
      go_wp2_with fail
      refine (rcheck_any W p1 p2 c1 c2 _ HW0.out).mono ?_
      rintro e w1 ⟨rfl, hb1⟩
      rw [HC.out]
      have HB1 := Lib.hid (A0.out.trans (hb1.mono A0.out.size))
      have y2 := cell_below hb1 X2.out
      have hz := cell_lt y2
      clear hb1
      go_wp2
      go_ret
      exact ⟨ret_i64 HF.out.symm, HB1.out⟩
    · by_cases h2 : (W.cls.length : Int) ≤ k
      · rw [if_pos (.inr h2)] at hf
        have HF := Lib.hid hf
        clear hf
        go_enter Tryz.func57, Tryz.ntmps57
        go_wp2_with fail
        refine (rcheck_any W p1 p2 c1 c2 _ HW0.out).mono ?_
        rintro e w1 ⟨rfl, hb1⟩
        rw [HC.out]
        have HB1 := Lib.hid (A0.out.trans (hb1.mono A0.out.size))
        have y2 := cell_below hb1 X2.out
        have hz := cell_lt y2
        clear hb1
        go_wp2
        go_ret
        exact ⟨ret_i64 HF.out.symm, HB1.out⟩
      · rw [if_neg (by omega)] at hf
        by_cases h3 : s < 0
        · rw [if_pos (.inl h3)] at hf
          have HF := Lib.hid hf
          clear hf
          go_enter Tryz.func57, Tryz.ntmps57
          go_wp2_with fail
          refine (rcheck_any W p1 p2 c1 c2 _ HW0.out).mono ?_
          rintro e w1 ⟨rfl, hb1⟩
          rw [HC.out]
          have HB1 := Lib.hid (A0.out.trans (hb1.mono A0.out.size))
          have y2 := cell_below hb1 X2.out
          have hz := cell_lt y2
          clear hb1
          go_wp2
          go_ret
          exact ⟨ret_i64 HF.out.symm, HB1.out⟩
        · by_cases h4 : 1000000 < s
          · rw [if_pos (.inr h4)] at hf
            have HF := Lib.hid hf
            clear hf
            go_enter Tryz.func57, Tryz.ntmps57
            go_wp2_with fail
            refine (rcheck_any W p1 p2 c1 c2 _ HW0.out).mono ?_
            rintro e w1 ⟨rfl, hb1⟩
            rw [HC.out]
            have HB1 := Lib.hid (A0.out.trans (hb1.mono A0.out.size))
            have y2 := cell_below hb1 X2.out
            have hz := cell_lt y2
            clear hb1
            go_wp2
            go_ret
            exact ⟨ret_i64 HF.out.symm, HB1.out⟩
          · rw [if_neg (by omega)] at hf
            have HF := Lib.hid hf
            clear hf
            go_enter Tryz.func57, Tryz.ntmps57
            go_wp2_with fail
            refine (rcheck_any W p1 p2 c1 c2 _ HW0.out).mono ?_
            rintro e w1 ⟨rfl, hb1⟩
            rw [HC.out]
            have HB1 := Lib.hid (A0.out.trans (hb1.mono A0.out.size))
            have y2 := cell_below hb1 X2.out
            have hz := cell_lt y2
            clear hb1
            go_wp2
            go_ret
            exact ⟨ret_i64 HF.out.symm, HB1.out⟩
  · have hf : findErr W k [s] = checkS W := if_neg hc
    have hne : (checkS W != 0) = true := by simpa using hc
    have HF := Lib.hid hf
    clear hf hc x2 a0
    go_enter Tryz.func57, Tryz.ntmps57
    go_wp2_with fail
    refine (rcheck_any W p1 p2 c1 c2 _ HW0.out).mono ?_
    rintro e w1 ⟨rfl, hb1⟩
    have HB1 := Lib.hid (A0.out.trans (hb1.mono A0.out.size))
    clear hb1
    go_wp2
    go_ret
    exact ⟨ret_i64 HF.out.symm, HB1.out⟩
end
end Go.Proofs.YtlelamjbfjneiaaGreatDoor.Wd
