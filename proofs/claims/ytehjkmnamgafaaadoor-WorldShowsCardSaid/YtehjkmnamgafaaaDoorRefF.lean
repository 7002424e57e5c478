/- Contracts of the reference: the error of a clock and a second. -/
import Derived.Test.YtehjkmnamgafaaaDoorRefE
namespace Go.Proofs.YtehjkmnamgafaaaDoor
open Go Go.RowKit
theorem clocked_in {W : Wld} {k s : Int} (hc : checkS W = 0) : findErr W k [s] = if k < 0 ∨ (W.cls.length : Int) ≤ k then 20 else if s < 0 ∨ 1000000 < s then 21 else 0 := by
  unfold findErr
  rw [if_pos hc]
  by_cases h1 : k < 0 ∨ (W.cls.length : Int) ≤ k
  · rw [if_pos h1, if_neg]
    intro h; have := inR_true h; omega
  · rw [if_neg h1, if_pos ((inR_iff _ _ _).2 (by omega))]
    by_cases h2 : s < 0 ∨ 1000000 < s
    · rw [if_pos h2, if_neg]
      intro h
      simp only [secsOk, List.all_cons, List.all_nil, Bool.and_true, inR_iff] at h
      omega
    · rw [if_neg h2, if_pos]
      simp only [secsOk, List.all_cons, List.all_nil, Bool.and_true, inR_iff]
      omega
set_option maxRecDepth 100000 in
set_option maxHeartbeats 1000000 in
theorem clocked_any (W : Wld) (k s : Int) (p1 p2 : Option Addr) (c1 c2 : Nat) (w : World) (hW : WldIn w W p1 p2) :
    Calls Tryd.prog 49 #[.agg #[.int .u64 W.seed, .slice p1 W.chs.length c1, .slice p2 W.cls.length c2], .int .i64 k, .int .i64 s] w fun e w' => e = .returned (.int .i64 (findErr W k [s])) ∧ Below w.heap.size w w' := by
  have hm2 := hW.2.1
  unfold maxLen at hm2
  have a0 := (Below.refl w.heap.size w).alloc (Nat.le_refl _) (.cells #[.int .u64 W.seed, .slice p1 W.chs.length c1, .slice p2 W.cls.length c2] 26)
  have x2 : (w.alloc (.cells #[.int .u64 W.seed, .slice p1 W.chs.length c1, .slice p2 W.cls.length c2] 26)).cell? ⟨w.heap.size, 2, none⟩ = some (.slice p2 W.cls.length c2) := by simp
  have HW0 := Lib.hid (hW.below a0)
  have A0 := Lib.hid a0
  clear hW
  by_cases hc : checkS W = 0
  · have hf := clocked_in (k := k) (s := s) hc
    have HC := Lib.hid hc
    have X2 := Lib.hid x2
    clear hc x2 a0
    by_cases h1 : k < 0
    · rw [if_pos (.inl h1)] at hf
      have HF := Lib.hid hf
      clear hf
      go_enter Tryd.func49, Tryd.ntmps49
      go_wp2_with fail
      refine (rcheck_any W p1 p2 c1 c2 _ HW0.out).mono ?_
      rintro e w1 ⟨rfl, hb1⟩
      rw [HC.out]
      have HB1 := Lib.hid (A0.out.trans (hb1.mono A0.out.size))
      have y2 := cell_below hb1 X2.out
      have hz := cell_lt y2
      clear hb1
      go_wp2
      go_ret
      exact ⟨ret_i64 HF.out.symm, HB1.out⟩
    · by_cases h2 : (W.cls.length : Int) ≤ k
      · rw [if_pos (.inr h2)] at hf
        have HF := Lib.hid hf
        clear hf
        go_enter Tryd.func49, Tryd.ntmps49
        go_wp2_with fail
        refine (rcheck_any W p1 p2 c1 c2 _ HW0.out).mono ?_
        rintro e w1 ⟨rfl, hb1⟩
        rw [HC.out]
        have HB1 := Lib.hid (A0.out.trans (hb1.mono A0.out.size))
        have y2 := cell_below hb1 X2.out
        have hz := cell_lt y2
        clear hb1
        go_wp2
        go_ret
        exact ⟨ret_i64 HF.out.symm, HB1.out⟩
      · rw [if_neg (by omega)] at hf
        by_cases h3 : s < 0
        · rw [if_pos (.inl h3)] at hf
          have HF := Lib.hid hf
          clear hf
          go_enter Tryd.func49, Tryd.ntmps49
          go_wp2_with fail
          refine (rcheck_any W p1 p2 c1 c2 _ HW0.out).mono ?_
          rintro e w1 ⟨rfl, hb1⟩
          rw [HC.out]
          have HB1 := Lib.hid (A0.out.trans (hb1.mono A0.out.size))
          have y2 := cell_below hb1 X2.out
          have hz := cell_lt y2
          clear hb1
          go_wp2
          go_ret
          exact ⟨ret_i64 HF.out.symm, HB1.out⟩
        · by_cases h4 : 1000000 < s
          · rw [if_pos (.inr h4)] at hf
            have HF := Lib.hid hf
            clear hf
            go_enter Tryd.func49, Tryd.ntmps49
            go_wp2_with fail
            refine (rcheck_any W p1 p2 c1 c2 _ HW0.out).mono ?_
            rintro e w1 ⟨rfl, hb1⟩
            rw [HC.out]
            have HB1 := Lib.hid (A0.out.trans (hb1.mono A0.out.size))
            have y2 := cell_below hb1 X2.out
            have hz := cell_lt y2
            clear hb1
            go_wp2
            go_ret
            exact ⟨ret_i64 HF.out.symm, HB1.out⟩
          · rw [if_neg (by omega)] at hf
            have HF := Lib.hid hf
            clear hf
            go_enter Tryd.func49, Tryd.ntmps49
            go_wp2_with fail
            refine (rcheck_any W p1 p2 c1 c2 _ HW0.out).mono ?_
            rintro e w1 ⟨rfl, hb1⟩
            rw [HC.out]
            have HB1 := Lib.hid (A0.out.trans (hb1.mono A0.out.size))
            have y2 := cell_below hb1 X2.out
            have hz := cell_lt y2
            clear hb1
            go_wp2
            go_ret
            exact ⟨ret_i64 HF.out.symm, HB1.out⟩
  · have hf : findErr W k [s] = checkS W := if_neg hc
    have hne : (checkS W != 0) = true := by simpa using hc
    have HF := Lib.hid hf
    clear hf hc x2 a0
    go_enter Tryd.func49, Tryd.ntmps49
    go_wp2_with fail
    refine (rcheck_any W p1 p2 c1 c2 _ HW0.out).mono ?_
    rintro e w1 ⟨rfl, hb1⟩
    have HB1 := Lib.hid (A0.out.trans (hb1.mono A0.out.size))
    clear hb1
    go_wp2
    go_ret
    exact ⟨ret_i64 HF.out.symm, HB1.out⟩
end Go.Proofs.YtehjkmnamgafaaaDoor
