/- Layer 2, the reference: Check, Wrap, Show; the program's Wrap. -/
import Derived.Test.YtlelamjbfjneiaaSa
namespace Go.Proofs.Ytlelamjbfjneiaa.Ct
open Go Go.RowKit Go.Shelf
attribute [local go_sem] Oper.semAt_some
set_option maxRecDepth 100000 in
set_option maxHeartbeats 8000000 in
theorem rcheck_any (c : Cnt) (w : World) :
    Calls Try.prog 16 #[cntVal c] w fun e w' => e = .returned (.int .i64 (checkC c)) ∧ Below w.heap.size w w' := by
  have A0 := Lib.hid (below_alloc (Below.refl w.heap.size w) (rcObj c))
  obtain ⟨c0, c1, c2, c3, c4, c5, c6⟩ := RBox.new w c
  have hz := cell_lt c0
  unfold rcObj at A0 c0 c1 c2 c3 c4 c5 c6 hz
  unfold cntVal
  by_cases q0 : c.f < 1
  · have HN := Lib.hid (show checkC c = 30 from if_neg (fun h => by have := (cntB_in h).f; omega))
    go_enter Try.func16, Try.ntmps16
    go_wp2
    go_ret
    exact ⟨ret_i64 HN.out.symm, A0.out⟩
  · skip
    by_cases q1 : 1000 < c.f
    · have HN := Lib.hid (show checkC c = 30 from if_neg (fun h => by have := (cntB_in h).f; omega))
      go_enter Try.func16, Try.ntmps16
      go_wp2
      go_ret
      exact ⟨ret_i64 HN.out.symm, A0.out⟩
    · skip
      by_cases q2 : c.o < -1000000000000
      · have HN := Lib.hid (show checkC c = 30 from if_neg (fun h => by have := (cntB_in h).o; omega))
        go_enter Try.func16, Try.ntmps16
        go_wp2
        go_ret
        exact ⟨ret_i64 HN.out.symm, A0.out⟩
      · skip
        by_cases q3 : 1000000000000 < c.o
        · have HN := Lib.hid (show checkC c = 30 from if_neg (fun h => by have := (cntB_in h).o; omega))
          go_enter Try.func16, Try.ntmps16
          go_wp2
          go_ret
          exact ⟨ret_i64 HN.out.symm, A0.out⟩
        · skip
          by_cases q4 : c.j < 0
          · have HN := Lib.hid (show checkC c = 30 from if_neg (fun h => by have := (cntB_in h).j; omega))
            go_enter Try.func16, Try.ntmps16
            go_wp2
            go_ret
            exact ⟨ret_i64 HN.out.symm, A0.out⟩
          · skip
            by_cases q5 : 1000000000 < c.j
            · have HN := Lib.hid (show checkC c = 30 from if_neg (fun h => by have := (cntB_in h).j; omega))
              go_enter Try.func16, Try.ntmps16
              go_wp2
              go_ret
              exact ⟨ret_i64 HN.out.symm, A0.out⟩
            · skip
              by_cases q6 : c.g < 1
              · have HN := Lib.hid (show checkC c = 30 from if_neg (fun h => by have := (cntB_in h).g; omega))
                go_enter Try.func16, Try.ntmps16
                go_wp2
                go_ret
                exact ⟨ret_i64 HN.out.symm, A0.out⟩
              · skip
                by_cases q7 : 1000000000 < c.g
                · have HN := Lib.hid (show checkC c = 30 from if_neg (fun h => by have := (cntB_in h).g; omega))
                  go_enter Try.func16, Try.ntmps16
                  go_wp2
                  go_ret
                  exact ⟨ret_i64 HN.out.symm, A0.out⟩
                · skip
                  by_cases q8 : c.d < 1
                  · have HN := Lib.hid (show checkC c = 30 from if_neg (fun h => by have := (cntB_in h).d; omega))
                    go_enter Try.func16, Try.ntmps16
                    go_wp2
                    go_ret
                    exact ⟨ret_i64 HN.out.symm, A0.out⟩
                  · skip
                    by_cases q9 : 100000 < c.d
                    · have HN := Lib.hid (show checkC c = 30 from if_neg (fun h => by have := (cntB_in h).d; omega))
                      go_enter Try.func16, Try.ntmps16
                      go_wp2
                      go_ret
                      exact ⟨ret_i64 HN.out.symm, A0.out⟩
                    · skip
                      by_cases q10 : c.i < 0
                      · have HN := Lib.hid (show checkC c = 30 from if_neg (fun h => by have := (cntB_in h).i; omega))
                        go_enter Try.func16, Try.ntmps16
                        go_wp2
                        go_ret
                        exact ⟨ret_i64 HN.out.symm, A0.out⟩
                      · skip
                        by_cases q11 : 1000000 < c.i
                        · have HN := Lib.hid (show checkC c = 30 from if_neg (fun h => by have := (cntB_in h).i; omega))
                          go_enter Try.func16, Try.ntmps16
                          go_wp2
                          go_ret
                          exact ⟨ret_i64 HN.out.symm, A0.out⟩
                        · skip
                          have kg : IntKind.i64.wrap (2 * c.g) = 2 * c.g := IntWalk.i64_in _ (by omega)
                          by_cases q12 : c.r < 2 * c.g
                          · have HN := Lib.hid (show checkC c = 30 from if_neg (fun h => by
                              have h1 := (cntB_in h).r
                              have h2 := (cntB_in h).m
                              rw [Int.emod_eq_of_lt (by omega) q12] at h2
                              omega))
                            go_enter Try.func16, Try.ntmps16
                            go_wp2
                            go_ret
                            exact ⟨ret_i64 HN.out.symm, A0.out⟩
                          · skip
                            by_cases q13 : 1000000000000000 < c.r
                            · have HN := Lib.hid (show checkC c = 30 from if_neg (fun h => by have := (cntB_in h).r; omega))
                              go_enter Try.func16, Try.ntmps16
                              go_wp2
                              go_ret
                              exact ⟨ret_i64 HN.out.symm, A0.out⟩
                            · skip
                              have hme : (2 * c.g == 0) = false := by simp; omega
                              have hmz : ¬ 2 * c.g = 0 := by omega
                              have hgz : ¬ c.g = 0 := by omega
                              have ht1 := Int.emod_nonneg c.r (show 2 * c.g ≠ 0 by omega)
                              have ht2 := Int.emod_lt_of_pos c.r (show 0 < 2 * c.g by omega)
                              have htm : c.r.tmod (2 * c.g) = c.r % (2 * c.g) := Int.tmod_eq_emod_of_nonneg (by omega)
                              obtain ⟨tt, htt⟩ : ∃ tt, c.r % (2 * c.g) = tt := ⟨_, rfl⟩
                              have HTT := Lib.hid htt
                              rw [htt] at htm ht1 ht2
                              have kt : IntKind.i64.wrap tt = tt := IntWalk.i64_in _ (by omega)
                              by_cases q14 : tt = 0
                              · have HN := Lib.hid (show checkC c = 0 from if_pos (cntB_of ⟨by omega, by omega, by omega, by omega, by omega, HTT.out.trans q14, by omega, by omega⟩))
                                clear ht1 ht2
                                go_enter Try.func16, Try.ntmps16
                                go_wp2
                                go_ret
                                exact ⟨ret_i64 HN.out.symm, A0.out⟩
                              · have HN := Lib.hid (show checkC c = 30 from if_neg (fun h => q14 (HTT.out.symm.trans (cntB_in h).m)))
                                clear ht1 ht2
                                go_enter Try.func16, Try.ntmps16
                                go_wp2
                                go_ret
                                exact ⟨ret_i64 HN.out.symm, A0.out⟩
def wrapErr (c : Cnt) (n : Int) : Int := if cntB c = true then (if -1000000000000000000 ≤ n ∧ n ≤ 1000000000000000000 then 0 else 6) else 30
theorem Wrap_any (c : Cnt) (n : Int) (w : World) :
    Calls Try.prog 28 #[cntVal c, .int .i64 n] w fun e w' => e = .returned (.tuple #[.int .i64 (if wrapErr c n = 0 then wrapS c n else 0), .int .i64 (wrapErr c n)]) ∧ Below w.heap.size w w' := by
  have A0 := Lib.hid (below_alloc (Below.refl w.heap.size w) (cntObj c))
  have HB := Lib.hid (CBox.new w c)
  unfold cntObj at A0 HB
  have HCK := Lib.hid (fun W => check_any c W)
  obtain ⟨x0, x1, x2, x3, x4, x5, x6⟩ := HB.out
  have hz := cell_lt x0
  unfold cntVal at HCK ⊢
  by_cases hc : cntB c = true
  · rw [show checkC c = 0 from if_pos hc] at HCK
    have hE : wrapErr c n = (if -1000000000000000000 ≤ n ∧ n ≤ 1000000000000000000 then 0 else 6) := if_pos hc
    by_cases hn : -1000000000000000000 ≤ n ∧ n ≤ 1000000000000000000
    · rw [if_pos hn] at hE
      rw [hE, if_pos rfl]
      have HW := Lib.hid (fun W => within_yes n (-1000000000000000000) 1000000000000000000 W hn)
      have HWR := Lib.hid (fun W => wrap_any c n W (cntB_in hc) (by omega))
      unfold cntVal at HWR
      obtain ⟨V, hV⟩ : ∃ V, V = wrapS c n := ⟨_, rfl⟩
      rw [← hV] at HWR ⊢
      clear hE hn hV
      go_enter Try.func28, Try.ntmps28
      go_wp2_with fail
      refine (HCK.out _).mono ?_
      rintro e w1 ⟨rfl, hb⟩
      have A1 := Lib.hid (below_go A0.out hb)
      have HB1 := HB.out.below hb
      clear x0 x1 x2 x3 x4 x5 x6 hz hb
      obtain ⟨x0, x1, x2, x3, x4, x5, x6⟩ := HB1
      have hz := cell_lt x0
      go_wp2_with (first | (go_at_call 33; refine (HW.out _).mono ?_; rintro e w2 ⟨rfl, rfl⟩) | (go_at_call 41; refine (HWR.out _).mono ?_; rintro e w3 ⟨rfl, hb3⟩; have A2 := Lib.hid (below_go A1.out hb3); clear hb3))
      go_ret2
      exact ⟨rfl, A2.out⟩
    · rw [if_neg hn] at hE
      rw [hE, if_neg (by decide)]
      have HW := Lib.hid (fun W => within_no n (-1000000000000000000) 1000000000000000000 W hn)
      clear hE hn
      go_enter Try.func28, Try.ntmps28
      go_wp2_with fail
      refine (HCK.out _).mono ?_
      rintro e w1 ⟨rfl, hb⟩
      have A1 := Lib.hid (below_go A0.out hb)
      clear x0 x1 x2 x3 x4 x5 x6 hz hb
      go_wp2_with (go_at_call 33; refine (HW.out _).mono ?_; rintro e w2 ⟨rfl, rfl⟩)
      go_ret2
      exact ⟨rfl, A1.out⟩
  · rw [show checkC c = 30 from if_neg hc] at HCK
    have hE : wrapErr c n = 30 := if_neg hc
    rw [hE, if_neg (by decide)]
    clear hE hc
    go_enter Try.func28, Try.ntmps28
    go_wp2_with fail
    refine (HCK.out _).mono ?_
    rintro e w1 ⟨rfl, hb⟩
    have A1 := Lib.hid (below_go A0.out hb)
    clear x0 x1 x2 x3 x4 x5 x6 hz hb
    go_wp2
    go_ret2
    exact ⟨rfl, A1.out⟩
theorem rWrap_any (c : Cnt) (n : Int) (w : World) :
    Calls Try.prog 29 #[cntVal c, .int .i64 n] w fun e w' => e = .returned (.tuple #[.int .i64 (if wrapErr c n = 0 then wrapS c n else 0), .int .i64 (wrapErr c n)]) ∧ Below w.heap.size w w' := by
  have A0 := Lib.hid (below_alloc (Below.refl w.heap.size w) (rcObj c))
  have HB := Lib.hid (RBox.new w c)
  unfold rcObj at A0 HB
  have HCK := Lib.hid (fun W => rcheck_any c W)
  obtain ⟨x0, x1, x2, x3, x4, x5, x6⟩ := HB.out
  have hz := cell_lt x0
  unfold cntVal at HCK ⊢
  by_cases hc : cntB c = true
  · rw [show checkC c = 0 from if_pos hc] at HCK
    have hE : wrapErr c n = (if -1000000000000000000 ≤ n ∧ n ≤ 1000000000000000000 then 0 else 6) := if_pos hc
    by_cases h1 : n < -1000000000000000000
    · rw [if_neg (by omega)] at hE
      rw [hE, if_neg (by decide)]
      clear hE
      go_enter Try.func29, Try.ntmps29
      go_wp2_with (go_at_call 16; refine (HCK.out _).mono ?_; rintro e w1 ⟨rfl, hb⟩; have A1 := Lib.hid (below_go A0.out hb); clear hb)
      go_ret2
      exact ⟨rfl, A1.out⟩
    · by_cases h2 : 1000000000000000000 < n
      · rw [if_neg (by omega)] at hE
        rw [hE, if_neg (by decide)]
        clear hE
        go_enter Try.func29, Try.ntmps29
        go_wp2_with (go_at_call 16; refine (HCK.out _).mono ?_; rintro e w1 ⟨rfl, hb⟩; have A1 := Lib.hid (below_go A0.out hb); clear hb)
        go_ret2
        exact ⟨rfl, A1.out⟩
      · rw [if_pos (by omega)] at hE
        rw [hE, if_pos rfl]
        have HWR := Lib.hid (fun W => rwrap_any c n W (cntB_in hc) (by omega))
        unfold cntVal at HWR
        obtain ⟨V, hV⟩ : ∃ V, V = wrapS c n := ⟨_, rfl⟩
        rw [← hV] at HWR ⊢
        clear hE hV
        go_enter Try.func29, Try.ntmps29
        go_wp2_with fail
        refine (HCK.out _).mono ?_
        rintro e w1 ⟨rfl, hb⟩
        have A1 := Lib.hid (below_go A0.out hb)
        have HB1 := HB.out.below hb
        clear x0 x1 x2 x3 x4 x5 x6 hz hb
        obtain ⟨x0, x1, x2, x3, x4, x5, x6⟩ := HB1
        have hz := cell_lt x0
        go_wp2_with (go_at_call 50; refine (HWR.out _).mono ?_; rintro e w3 ⟨rfl, hb3⟩; have A2 := Lib.hid (below_go A1.out hb3); clear hb3)
        go_ret2
        exact ⟨rfl, A2.out⟩
  · rw [show checkC c = 30 from if_neg hc] at HCK
    have hE : wrapErr c n = 30 := if_neg hc
    rw [hE, if_neg (by decide)]
    clear hE hc
    go_enter Try.func29, Try.ntmps29
    go_wp2_with (go_at_call 16; refine (HCK.out _).mono ?_; rintro e w1 ⟨rfl, hb⟩; have A1 := Lib.hid (below_go A0.out hb); clear hb)
    go_ret2
    exact ⟨rfl, A1.out⟩
end Go.Proofs.Ytlelamjbfjneiaa.Ct
