/-  ·  -/
import Derived.Test.YtgnfaemnehmgcaaGreatDoorQ09
import Derived.Test.YtgnfaemnehmgcaaGreatDoorQ12
namespace Go.Proofs.YtgnfaemnehmgcaaGreatDoor.Cal
open Go Go.RowKit
attribute [local go_sem] Oper.semAt_some

set_option maxHeartbeats 2000000 in
theorem rLength_any (b u d : Int) (n c : Nat) (p : Option Addr) (f : Nat → Int × Int) (w : World) (hs : LpIn w f n p) (hn : n ≤ 1000000000000) :
    Calls Tryz.prog 36 #[.agg #[.int .i64 b, .slice p n c, .int .i64 u], .int .i64 d] w fun e w' => e = .returned (.tuple #[.int .i64 (if tabE b u n f = 0 then if dayK u d = true then 86400 + stepAt f n d else 0 else 0), .int .i64 (if tabE b u n f = 0 then if dayK u d = true then 0 else 6 else tabE b u n f)]) ∧ Below w.heap.size w w' := by
  have A0 := below_alloc (Below.refl w.heap.size w) (.cells #[.int .i64 b, .slice p n c, .int .i64 u] 55)
  have HX := Lib.hid (TBox.new w b u n c p 55)
  have HCK := Lib.hid (rCheck_any b u n c p f _ (hs.below A0) hn)
  have HS := Lib.hid (hs.below A0)
  have A0 := Lib.hid A0
  clear hs
  by_cases ht : tabE b u n f = 0
  · rw [if_pos ht, if_pos ht]
    rw [ht] at HCK
    have HTO := Lib.hid (tab_ok ht)
    have hu1 := HTO.out.u1
    have hu2 := HTO.out.u2
    have vu : IntKind.i64.wrap (u - 1) = u - 1 := IntWalk.i64_in _ (by omega)
    clear ht
    cases hd : dayK u d
    · have HKD := Lib.hid (show (decide (41317 ≤ d) && decide (d ≤ u - 1)) = false from hd)
      clear hd
      simp only [Bool.false_eq_true, if_false]
      go_enter Tryz.func36, Tryz.ntmps36
      go_upto_region 1 with fail
      generalize w.alloc (.cells #[.int .i64 b, .slice p n c, .int .i64 u] 55) = W1 at *
      obtain ⟨x0, x1, x2⟩ := HX.out
      have zx := cell_lt x0
      go_upto_region 4 with (go_at_call 34; refine HCK.out.mono ?_; rintro e w2 ⟨rfl, hb2⟩; have HB2 := Lib.hid hb2; clear hb2)
      clear x0 x1 x2 zx
      obtain ⟨x0, x1, x2⟩ := HX.out.below HB2.out
      have zx := cell_lt x0
      go_wp2_with (go_at_call 90; refine (in_any _ _ _ _).mono ?_; rintro e w' ⟨rfl, rfl⟩; rw [HKD.out])
      go_ret2
      exact ⟨rfl, bt A0.out HB2.out⟩
    · have HKD := Lib.hid (show (decide (41317 ≤ d) && decide (d ≤ u - 1)) = true from hd)
      have hdb : 41317 ≤ d ∧ d ≤ u - 1 := by unfold dayK at hd; simpa using hd
      clear hd
      simp only [if_true]
      have hb1 := HTO.out.grow_bd d
      have hb2' := HTO.out.grow_bd (d + 1)
      have hsu := HTO.out.begin_succ d
      have v1 : IntKind.i64.wrap (d + 1) = d + 1 := IntWalk.i64_in _ (by omega)
      have v2 : IntKind.i64.wrap (beginS f n (d + 1) - beginS f n d) = beginS f n (d + 1) - beginS f n d := by unfold beginS; exact IntWalk.i64_in _ (by omega)
      have HE := Lib.hid (show beginS f n (d + 1) - beginS f n d = 86400 + stepAt f n d by omega)
      clear hb1 hb2' hsu
      go_enter Tryz.func36, Tryz.ntmps36
      go_upto_region 1 with fail
      generalize w.alloc (.cells #[.int .i64 b, .slice p n c, .int .i64 u] 55) = W1 at *
      obtain ⟨x0, x1, x2⟩ := HX.out
      have zx := cell_lt x0
      go_upto_region 4 with (go_at_call 34; refine HCK.out.mono ?_; rintro e w2 ⟨rfl, hb2⟩; have HB2 := Lib.hid hb2; clear hb2)
      clear x0 x1 x2 zx
      obtain ⟨x0, x1, x2⟩ := HX.out.below HB2.out
      have zx := cell_lt x0
      have HB0 := Lib.hid (Below.refl w2.heap.size w2)
      have HS2 := Lib.hid (HS.out.below HB2.out)
      have HK := Lib.hid (show ∀ X, Below w2.heap.size w2 X → (fun w' => Below w2.heap.size w2 w' ∧ w'.cell? ⟨w.heap.size, 0, none⟩ = some (.int .i64 b) ∧ w'.cell? ⟨w.heap.size, 1, none⟩ = some (.slice p n c) ∧ w'.cell? ⟨w.heap.size, 2, none⟩ = some (.int .i64 u)) X from fun X h => ⟨h, cell_below h x0, cell_below h x1, cell_below h x2⟩)
      have HB1 := Lib.hid (fun X (h : Below w2.heap.size w2 X) (dd : Int) (hb : -1000000000000 ≤ dd ∧ dd ≤ 1000000000000) => Calls.bel h (rbegin_any HTO.out dd c p X (HS2.out.below h) hb))
      have HQ1 := Lib.hid (show -1000000000000 ≤ d ∧ d ≤ 1000000000000 by omega)
      have HQ2 := Lib.hid (show -1000000000000 ≤ d + 1 ∧ d + 1 ≤ 1000000000000 by omega)
      go_upto_region 6 with (go_at_call 90; refine (in_any _ _ _ _).mono ?_; rintro e w' ⟨rfl, rfl⟩; rw [HKD.out])
      go_region_held3 (fun w' => Below w2.heap.size w2 w' ∧ w'.cell? ⟨w.heap.size, 0, none⟩ = some (.int .i64 b) ∧ w'.cell? ⟨w.heap.size, 1, none⟩ = some (.slice p n c) ∧ w'.cell? ⟨w.heap.size, 2, none⟩ = some (.int .i64 u))
        (exact HK.out _ (by first | assumption | exact HB0.out | exact Below.drew HB0.out | exact Below.drew (by assumption)))
        (first | (go_at_call 96; refine (HB1.out _ (by first | assumption | exact HB0.out | exact Below.drew HB0.out) _ (by first | exact HQ1.out | exact HQ2.out)).mono ?_; rintro e w3 ⟨rfl, hb3⟩))
      all_goals
        go_wp2
        go_ret2
        exact ⟨congrArg (fun z => Ending.returned (.tuple #[.int .i64 z, .int .i64 0])) HE.out, bt (bt A0.out HB2.out) (by assumption)⟩
  · rw [if_neg ht, if_neg ht]
    obtain ⟨er, her⟩ : ∃ er, tabE b u n f = er := ⟨_, rfl⟩
    rw [her] at ht HCK ⊢
    have hne : (er == 0) = false := by simpa using ht
    clear her ht
    go_enter Tryz.func36, Tryz.ntmps36
    go_upto_region 1 with fail
    generalize w.alloc (.cells #[.int .i64 b, .slice p n c, .int .i64 u] 55) = W1 at *
    obtain ⟨x0, x1, x2⟩ := HX.out
    have zx := cell_lt x0
    go_wp2_with (go_at_call 34; refine HCK.out.mono ?_; rintro e w2 ⟨rfl, hb2⟩; have HB2 := Lib.hid hb2; clear hb2)
    go_ret2
    exact ⟨rfl, bt A0.out HB2.out⟩
set_option maxHeartbeats 2000000 in
theorem rOffset_any (b u d : Int) (n c : Nat) (p : Option Addr) (f : Nat → Int × Int) (w : World) (hs : LpIn w f n p) (hn : n ≤ 1000000000000) :
    Calls Tryz.prog 38 #[.agg #[.int .i64 b, .slice p n c, .int .i64 u], .int .i64 d] w fun e w' => e = .returned (.tuple #[.int .i64 (if tabE b u n f = 0 then if dayK u d = true then b + growS f n d else 0 else 0), .int .i64 (if tabE b u n f = 0 then if dayK u d = true then 0 else 6 else tabE b u n f)]) ∧ Below w.heap.size w w' := by
  have A0 := below_alloc (Below.refl w.heap.size w) (.cells #[.int .i64 b, .slice p n c, .int .i64 u] 55)
  have HX := Lib.hid (TBox.new w b u n c p 55)
  have HCK := Lib.hid (rCheck_any b u n c p f _ (hs.below A0) hn)
  have HS := Lib.hid (hs.below A0)
  have A0 := Lib.hid A0
  clear hs
  by_cases ht : tabE b u n f = 0
  · rw [if_pos ht, if_pos ht]
    rw [ht] at HCK
    have HTO := Lib.hid (tab_ok ht)
    have hu1 := HTO.out.u1
    have hu2 := HTO.out.u2
    have vu : IntKind.i64.wrap (u - 1) = u - 1 := IntWalk.i64_in _ (by omega)
    clear ht
    cases hd : dayK u d
    · have HKD := Lib.hid (show (decide (41317 ≤ d) && decide (d ≤ u - 1)) = false from hd)
      clear hd
      simp only [Bool.false_eq_true, if_false]
      go_enter Tryz.func38, Tryz.ntmps38
      go_upto_region 1 with fail
      generalize w.alloc (.cells #[.int .i64 b, .slice p n c, .int .i64 u] 55) = W1 at *
      obtain ⟨x0, x1, x2⟩ := HX.out
      have zx := cell_lt x0
      go_upto_region 4 with (go_at_call 34; refine HCK.out.mono ?_; rintro e w2 ⟨rfl, hb2⟩; have HB2 := Lib.hid hb2; clear hb2)
      clear x0 x1 x2 zx
      obtain ⟨x0, x1, x2⟩ := HX.out.below HB2.out
      have zx := cell_lt x0
      go_wp2_with (go_at_call 90; refine (in_any _ _ _ _).mono ?_; rintro e w' ⟨rfl, rfl⟩; rw [HKD.out])
      go_ret2
      exact ⟨rfl, bt A0.out HB2.out⟩
    · have HKD := Lib.hid (show (decide (41317 ≤ d) && decide (d ≤ u - 1)) = true from hd)
      have hdb : 41317 ≤ d ∧ d ≤ u - 1 := by unfold dayK at hd; simpa using hd
      clear hd
      simp only [if_true]
      have hb1 := HTO.out.grow_bd d
      have hbb1 := HTO.out.b1
      have hbb2 := HTO.out.b2
      have v2 : IntKind.i64.wrap (b + growS f n d) = b + growS f n d := IntWalk.i64_in _ (by omega)
      have HE := Lib.hid (show b + growS f n d = b + growS f n d from rfl)
      clear hb1 hbb1 hbb2
      go_enter Tryz.func38, Tryz.ntmps38
      go_upto_region 1 with fail
      generalize w.alloc (.cells #[.int .i64 b, .slice p n c, .int .i64 u] 55) = W1 at *
      obtain ⟨x0, x1, x2⟩ := HX.out
      have zx := cell_lt x0
      go_upto_region 4 with (go_at_call 34; refine HCK.out.mono ?_; rintro e w2 ⟨rfl, hb2⟩; have HB2 := Lib.hid hb2; clear hb2)
      clear x0 x1 x2 zx
      obtain ⟨x0, x1, x2⟩ := HX.out.below HB2.out
      have zx := cell_lt x0
      have HB0 := Lib.hid (Below.refl w2.heap.size w2)
      have HS2 := Lib.hid (HS.out.below HB2.out)
      have HK := Lib.hid (show ∀ X, Below w2.heap.size w2 X → (fun w' => Below w2.heap.size w2 w' ∧ w'.cell? ⟨w.heap.size, 0, none⟩ = some (.int .i64 b) ∧ w'.cell? ⟨w.heap.size, 1, none⟩ = some (.slice p n c) ∧ w'.cell? ⟨w.heap.size, 2, none⟩ = some (.int .i64 u)) X from fun X h => ⟨h, cell_below h x0, cell_below h x1, cell_below h x2⟩)
      have HB1 := Lib.hid (fun X (h : Below w2.heap.size w2 X) => Calls.bel h (rgrown_any HTO.out d c p X (HS2.out.below h)))
      obtain ⟨gg, hgg⟩ : ∃ gg, growS f n d = gg := ⟨_, rfl⟩
      rw [hgg] at v2 HB1
      have HE := Lib.hid (show b + gg = b + growS f n d by rw [hgg])
      clear hgg
      go_upto_region 6 with (go_at_call 90; refine (in_any _ _ _ _).mono ?_; rintro e w' ⟨rfl, rfl⟩; rw [HKD.out])
      go_region_held3 (fun w' => Below w2.heap.size w2 w' ∧ w'.cell? ⟨w.heap.size, 0, none⟩ = some (.int .i64 b) ∧ w'.cell? ⟨w.heap.size, 1, none⟩ = some (.slice p n c) ∧ w'.cell? ⟨w.heap.size, 2, none⟩ = some (.int .i64 u))
        (exact HK.out _ (by first | assumption | exact HB0.out | exact Below.drew HB0.out | exact Below.drew (by assumption)))
        (first | (go_at_call 98; refine (HB1.out _ (by first | assumption | exact HB0.out | exact Below.drew HB0.out)).mono ?_; rintro e w3 ⟨rfl, hb3⟩))
      all_goals
        go_wp2
        go_ret2
        exact ⟨congrArg (fun z => Ending.returned (.tuple #[.int .i64 z, .int .i64 0])) HE.out, bt (bt A0.out HB2.out) (by assumption)⟩
  · rw [if_neg ht, if_neg ht]
    obtain ⟨er, her⟩ : ∃ er, tabE b u n f = er := ⟨_, rfl⟩
    rw [her] at ht HCK ⊢
    have hne : (er == 0) = false := by simpa using ht
    clear her ht
    go_enter Tryz.func38, Tryz.ntmps38
    go_upto_region 1 with fail
    generalize w.alloc (.cells #[.int .i64 b, .slice p n c, .int .i64 u] 55) = W1 at *
    obtain ⟨x0, x1, x2⟩ := HX.out
    have zx := cell_lt x0
    go_wp2_with (go_at_call 34; refine HCK.out.mono ?_; rintro e w2 ⟨rfl, hb2⟩; have HB2 := Lib.hid hb2; clear hb2)
    go_ret2
    exact ⟨rfl, bt A0.out HB2.out⟩
theorem rTotal_any (b u : Int) (n c : Nat) (p : Option Addr) (f : Nat → Int × Int) (w : World) (hs : LpIn w f n p) (hn : n ≤ 1000000000000) :
    Calls Tryz.prog 40 #[.agg #[.int .i64 b, .slice p n c, .int .i64 u]] w fun e w' => e = .returned (.tuple #[.int .i64 (if tabE b u n f = 0 then beginS f n u else 0), .int .i64 (tabE b u n f)]) ∧ Below w.heap.size w w' := by
  have A0 := below_alloc (Below.refl w.heap.size w) (.cells #[.int .i64 b, .slice p n c, .int .i64 u] 55)
  have HX := Lib.hid (TBox.new w b u n c p 55)
  have HCK := Lib.hid (rCheck_any b u n c p f _ (hs.below A0) hn)
  have HS := Lib.hid (hs.below A0)
  have A0 := Lib.hid A0
  clear hs
  by_cases ht : tabE b u n f = 0
  · rw [if_pos ht, ht]
    rw [ht] at HCK
    have HTO := Lib.hid (tab_ok ht)
    clear ht
    go_enter Tryz.func40, Tryz.ntmps40
    go_upto_region 1 with fail
    generalize w.alloc (.cells #[.int .i64 b, .slice p n c, .int .i64 u] 55) = W1 at *
    obtain ⟨x0, x1, x2⟩ := HX.out
    have zx := cell_lt x0
    go_upto_region 4 with (go_at_call 34; refine HCK.out.mono ?_; rintro e w2 ⟨rfl, hb2⟩; have HB2 := Lib.hid hb2; clear hb2)
    clear x0 x1 x2 zx
    obtain ⟨x0, x1, x2⟩ := HX.out.below HB2.out
    have zx := cell_lt x0
    have HTL := Lib.hid (rbegin_any HTO.out u c p w2 (HS.out.below HB2.out) (by have := HTO.out.u1; have := HTO.out.u2; omega))
    go_wp2_with (go_at_call 96; refine HTL.out.mono ?_; rintro e w3 ⟨rfl, hb3⟩; have HB3 := Lib.hid hb3; clear hb3)
    go_ret2
    exact ⟨rfl, bt (bt A0.out HB2.out) HB3.out⟩
  · rw [if_neg ht]
    obtain ⟨er, her⟩ : ∃ er, tabE b u n f = er := ⟨_, rfl⟩
    rw [her] at ht HCK ⊢
    have hne : (er == 0) = false := by simpa using ht
    clear her ht
    go_enter Tryz.func40, Tryz.ntmps40
    go_upto_region 1 with fail
    generalize w.alloc (.cells #[.int .i64 b, .slice p n c, .int .i64 u] 55) = W1 at *
    obtain ⟨x0, x1, x2⟩ := HX.out
    have zx := cell_lt x0
    go_wp2_with (go_at_call 34; refine HCK.out.mono ?_; rintro e w2 ⟨rfl, hb2⟩; have HB2 := Lib.hid hb2; clear hb2)
    go_ret2
    exact ⟨rfl, bt A0.out HB2.out⟩
theorem rknown_any (b u s : Int) (n c : Nat) (p : Option Addr) (f : Nat → Int × Int) (w : World) (hs : LpIn w f n p) (hn : n ≤ 1000000000000) :
    Calls Tryz.prog 103 #[.agg #[.int .i64 b, .slice p n c, .int .i64 u], .int .i64 s] w fun e w' => e = .returned (.int .i64 (knownE b u n f s)) ∧ Below w.heap.size w w' := by
  have A0 := below_alloc (Below.refl w.heap.size w) (.cells #[.int .i64 b, .slice p n c, .int .i64 u] 55)
  have HX := Lib.hid (TBox.new w b u n c p 55)
  have HTT := Lib.hid (rTotal_any b u n c p f _ (hs.below A0) hn)
  have A0 := Lib.hid A0
  clear hs
  by_cases ht : tabE b u n f = 0
  · have HKN := Lib.hid (show knownE b u n f s = if inB s (beginS f n u) = true then 0 else 6 from if_pos ht)
    have htb := (tab_ok ht).total_bd
    rw [if_pos ht, ht] at HTT
    have vt : IntKind.i64.wrap (beginS f n u - 1) = beginS f n u - 1 := IntWalk.i64_in _ (by omega)
    rw [HKN.out]
    clear ht htb
    generalize beginS f n u = tot at *
    cases hi : inB s tot
    · have HI := Lib.hid (show (decide (0 ≤ s) && decide (s ≤ tot - 1)) = false from hi)
      clear hi
      simp only [Bool.false_eq_true, if_false]
      go_enter Tryz.func103, Tryz.ntmps103
      go_upto_region 1 with fail
      generalize w.alloc (.cells #[.int .i64 b, .slice p n c, .int .i64 u] 55) = W1 at *
      obtain ⟨x0, x1, x2⟩ := HX.out
      have zx := cell_lt x0
      go_wp2_with (first | (go_at_call 40; refine HTT.out.mono ?_; rintro e w2 ⟨rfl, hb2⟩; have HB2 := Lib.hid hb2; clear hb2) | (go_at_call 90; refine (in_any _ _ _ _).mono ?_; rintro e w' ⟨rfl, rfl⟩; rw [HI.out]))
      go_ret
      exact ⟨rfl, bt A0.out HB2.out⟩
    · have HI := Lib.hid (show (decide (0 ≤ s) && decide (s ≤ tot - 1)) = true from hi)
      clear hi
      simp only [if_true]
      go_enter Tryz.func103, Tryz.ntmps103
      go_upto_region 1 with fail
      generalize w.alloc (.cells #[.int .i64 b, .slice p n c, .int .i64 u] 55) = W1 at *
      obtain ⟨x0, x1, x2⟩ := HX.out
      have zx := cell_lt x0
      go_wp2_with (first | (go_at_call 40; refine HTT.out.mono ?_; rintro e w2 ⟨rfl, hb2⟩; have HB2 := Lib.hid hb2; clear hb2) | (go_at_call 90; refine (in_any _ _ _ _).mono ?_; rintro e w' ⟨rfl, rfl⟩; rw [HI.out]))
      go_ret
      exact ⟨rfl, bt A0.out HB2.out⟩
  · have HKN := Lib.hid (show knownE b u n f s = tabE b u n f from if_neg ht)
    rw [if_neg ht] at HTT
    obtain ⟨er, her⟩ : ∃ er, tabE b u n f = er := ⟨_, rfl⟩
    rw [HKN.out]
    rw [her] at ht HTT ⊢
    have hne : (er == 0) = false := by simpa using ht
    clear her ht HKN
    go_enter Tryz.func103, Tryz.ntmps103
    go_upto_region 1 with fail
    generalize w.alloc (.cells #[.int .i64 b, .slice p n c, .int .i64 u] 55) = W1 at *
    obtain ⟨x0, x1, x2⟩ := HX.out
    have zx := cell_lt x0
    go_wp2_with (go_at_call 40; refine HTT.out.mono ?_; rintro e w2 ⟨rfl, hb2⟩; have HB2 := Lib.hid hb2; clear hb2)
    go_ret
    exact ⟨rfl, bt A0.out HB2.out⟩
set_option maxHeartbeats 2000000 in
theorem rsplit_any {b u : Int} {n : Nat} {f : Nat → Int × Int} (ht : TabOk b u n f) {s D : Int} (hD : IsDayOf u n f s D) (c : Nat) (p : Option Addr) (w : World) (hs : LpIn w f n p) :
    Calls Tryz.prog 104 #[.agg #[.int .i64 b, .slice p n c, .int .i64 u], .int .i64 s] w fun e w' => e = .returned (.tuple #[.int .i64 D, .int .i64 (s - beginS f n D)]) ∧ Below w.heap.size w w' := by
  have A0 := below_alloc (Below.refl w.heap.size w) (.cells #[.int .i64 b, .slice p n c, .int .i64 u] 55)
  have HX := Lib.hid (TBox.new w b u n c p 55)
  have HS := Lib.hid (hs.below A0)
  have A0 := Lib.hid A0
  have HT := Lib.hid ht
  have HD := Lib.hid hD
  have hu1 := ht.u1
  have hu2 := ht.u2
  have hd1 := hD.d1
  have hd2 := hD.d2
  have hrb := hD.rest_bd ht
  have v1 : IntKind.i64.wrap (u - 1) = u - 1 := IntWalk.i64_in _ (by omega)
  have v2 : IntKind.i64.wrap (s - beginS f n D) = s - beginS f n D := IntWalk.i64_in _ (by omega)
  clear hs ht hD hrb
  go_enter Tryz.func104, Tryz.ntmps104
  go_upto_region 1 with fail
  generalize w.alloc (.cells #[.int .i64 b, .slice p n c, .int .i64 u] 55) = W1 at *
  obtain ⟨x0, x1, x2⟩ := HX.out
  have zx := cell_lt x0
  go_quiet (fail)
  clear x0 x1 x2 zx
  have HB1 := Lib.hid (below_drewN (Below.refl W1.heap.size W1) nq)
  generalize W1.drewN nq = W2 at *
  go_wp2_with fail
  go_loopw [6, 7, 8] (fun s6 s7 s8 wr => ∃ (lo hi : Int) (v : Value), 41317 ≤ lo ∧ lo ≤ D ∧ D ≤ hi ∧ hi ≤ u - 1 ∧ s6 = .int .i64 lo ∧ s7 = .int .i64 hi ∧ s8 = v ∧ Hid (Below W1.heap.size W1 wr)) (fun s6 s7 _ _ => (intOf s7 - intOf s6).toNat)
  case atStart => exact ⟨41317, u - 1, _, by omega, by omega, by omega, by omega, rfl, rfl, rfl, HB1⟩
  case round =>
    obtain ⟨lo, hi, v, h1, h2, h3, h4, rfl, rfl, rfl, HB⟩ := hrel
    obtain ⟨x0, x1, x2⟩ := HX.out.below HB.out
    have zx := cell_lt x0
    by_cases hlt : lo < hi
    · have k1 : IntKind.i64.wrap (lo + hi) = lo + hi := IntWalk.i64_in _ (by omega)
      have k2 : IntKind.i64.wrap (lo + hi + 1) = lo + hi + 1 := IntWalk.i64_in _ (by omega)
      obtain ⟨md, hmd⟩ : ∃ md, (lo + hi + 1) / 2 = md := ⟨_, rfl⟩
      have hm0 : lo < md ∧ md ≤ hi := by omega
      have k3 : IntKind.i64.wrap (md - 1) = md - 1 := IntWalk.i64_in _ (by omega)
      have HBG := Lib.hid (rbegin_any HT.out md c p wr (HS.out.below HB.out) (by omega))
      by_cases hmD : md ≤ D
      · have hbl := HD.out.before HT.out hmD
        generalize beginS f n md = bg at *
        go_wp2_with (go_at_call 96; refine HBG.out.mono ?_; rintro e w3 ⟨rfl, hb3⟩; have HB3 := Lib.hid (bt HB.out hb3); clear hb3)
        go_roundw
        case rel => exact ⟨md, hi, _, by omega, hmD, h3, h4, rfl, rfl, rfl, HB3⟩
        case measure => simp [intOf]; omega
      · have hbl := HD.out.after HT.out (e := md) (by omega)
        have hbl2 : ¬ beginS f n md ≤ s := by omega
        clear hbl
        generalize beginS f n md = bg at *
        go_wp2_with (go_at_call 96; refine HBG.out.mono ?_; rintro e w3 ⟨rfl, hb3⟩; have HB3 := Lib.hid (bt HB.out hb3); clear hb3)
        go_roundw
        case rel => exact ⟨lo, md - 1, _, h1, h2, by omega, by omega, rfl, rfl, rfl, HB3⟩
        case measure => simp [intOf]; omega
    · have e1 : lo = D := by omega
      subst e1
      have HBG := Lib.hid (rbegin_any HT.out lo c p wr (HS.out.below HB.out) (by omega))
      obtain ⟨bg, hbg⟩ : ∃ bg, beginS f n lo = bg := ⟨_, rfl⟩
      have HE := Lib.hid (show s - bg = s - beginS f n lo by rw [hbg])
      rw [hbg] at HBG v2
      clear hbg
      go_wp2_with (go_at_call 96; refine HBG.out.mono ?_; rintro e w3 ⟨rfl, hb3⟩; have HB3 := Lib.hid (bt HB.out hb3); clear hb3)
      go_ret2
      exact ⟨congrArg (fun z => Ending.returned (.tuple #[.int .i64 lo, .int .i64 z])) HE.out, bt A0.out HB3.out⟩
end Go.Proofs.YtgnfaemnehmgcaaGreatDoor.Cal
namespace Go.Proofs.YtgnfaemnehmgcaaGreatDoor.Cal
open Go Go.RowKit
attribute [local go_sem] Oper.semAt_some

theorem rdts_start (w : World) (b u : Int) (n c : Nat) (p : Option Addr) : TBox ((w.alloc (.cells #[.int .i64 b, .slice p n c, .int .i64 u] 55)).alloc (.cells #[.int .i64 0, .int .i64 0, .int .i64 0, .int .i64 0, .int .i64 0, .int .i64 0] 67)) w.heap.size b u n c p ∧ Res6 ((w.alloc (.cells #[.int .i64 b, .slice p n c, .int .i64 u] 55)).alloc (.cells #[.int .i64 0, .int .i64 0, .int .i64 0, .int .i64 0, .int .i64 0, .int .i64 0] 67)) (w.heap.size + 1) ∧ Below w.heap.size w ((w.alloc (.cells #[.int .i64 b, .slice p n c, .int .i64 u] 55)).alloc (.cells #[.int .i64 0, .int .i64 0, .int .i64 0, .int .i64 0, .int .i64 0, .int .i64 0] 67)) := by
  have b1 := below_alloc (Below.refl w.heap.size w) (.cells #[.int .i64 b, .slice p n c, .int .i64 u] 55)
  have h1 := TBox.new w b u n c p 55
  have e1 : (w.alloc (.cells #[.int .i64 b, .slice p n c, .int .i64 u] 55)).heap.size = w.heap.size + 1 := by simp
  generalize w.alloc (.cells #[.int .i64 b, .slice p n c, .int .i64 u] 55) = W1 at *
  have b2 := below_alloc (Below.refl W1.heap.size W1) (.cells #[.int .i64 0, .int .i64 0, .int .i64 0, .int .i64 0, .int .i64 0, .int .i64 0] 67)
  have h2 := Res6.new W1 (.int .i64 0) (.int .i64 0) (.int .i64 0) (.int .i64 0) (.int .i64 0) (.int .i64 0) 67
  rw [e1] at h2
  exact ⟨h1.below b2, h2, bt b1 b2⟩

set_option maxHeartbeats 2000000 in
theorem rDates_ok {b u : Int} {n : Nat} {f : Nat → Int × Int} {s : Int} (hk : knownE b u n f s = 0) {D : Int} (hD : IsDayOf u n f s D) {y : Int} {k : Nat} {d : Int} (hci : IsCiv D y k d) (c : Nat) (p : Option Addr) (w : World) (hs : LpIn w f n p) :
    Calls Tryz.prog 43 #[.agg #[.int .i64 b, .slice p n c, .int .i64 u], .int .i64 s] w fun e w' => e = .returned (.tuple #[.agg #[.int .i64 y, .int .i64 (k : Int), .int .i64 d, .int .i64 (hrS (s - beginS f n D)), .int .i64 (mnS (s - beginS f n D)), .int .i64 (scS (s - beginS f n D))], .int .i64 0]) ∧ Below w.heap.size w w' := by
  obtain ⟨ht, hi⟩ := knownE_zero hk
  have HTO := Lib.hid (tab_ok ht)
  obtain ⟨hx, hr, A0⟩ := rdts_start w b u n c p
  have HX := Lib.hid hx
  have HR := Lib.hid hr
  have HKN := Lib.hid (rknown_any b u s n c p f _ (hs.below A0) (by have := HTO.out.n1; omega))
  rw [hk] at HKN
  have HS := Lib.hid (hs.below A0)
  have A0 := Lib.hid A0
  have hrb := hD.rest_bd HTO.out
  have HD := Lib.hid hD
  have HCI := Lib.hid hci
  clear hx hr hs hk ht hi hD hci
  have HSP := Lib.hid (fun X (hX : LpIn X f n p) => rsplit_any HTO.out HD.out c p X hX)
  obtain ⟨r, hrr⟩ : ∃ r, s - beginS f n D = r := ⟨_, rfl⟩
  rw [hrr] at HSP hrb ⊢
  clear hrr
  have hmb := minS_bd r hrb.1
  have hsb := sec_bd r hrb
  obtain ⟨mn, hmn⟩ : ∃ mn, minS r = mn := ⟨_, rfl⟩
  have v3 : (if 1439 < r / 60 then 1439 else r / 60) = mn := hmn
  have HE1 := Lib.hid (show mn / 60 = hrS r by unfold hrS; rw [hmn])
  have HE2 := Lib.hid (show mn % 60 = mnS r by unfold mnS; rw [hmn])
  have HE3 := Lib.hid (show r - 60 * mn = scS r by unfold scS; rw [hmn])
  rw [hmn] at hmb hsb
  rw [← HE1.out, ← HE2.out, ← HE3.out]
  have v6 : IntKind.i64.wrap (60 * mn) = 60 * mn := IntWalk.i64_in _ (by omega)
  have v7 : IntKind.i64.wrap (r - 60 * mn) = r - 60 * mn := IntWalk.i64_in _ (by omega)
  have hr0 : 0 ≤ r := hrb.1
  have hr1 : r ≤ 86400 := hrb.2
  have hm0 : 0 ≤ mn := hmb.1
  have hm1 : mn ≤ 1439 := hmb.2
  clear hmb hsb hmn hrb HE1 HE2 HE3
  go_enter Tryz.func43, Tryz.ntmps43
  go_upto_region 1 with fail
  generalize (w.alloc (.cells #[.int .i64 b, .slice p n c, .int .i64 u] 55)).alloc (.cells #[.int .i64 0, .int .i64 0, .int .i64 0, .int .i64 0, .int .i64 0, .int .i64 0] 67) = W1 at *
  obtain ⟨x0, x1, x2⟩ := HX.out
  have zx := cell_lt x0
  go_upto_region 4 with (go_at_call 103; refine HKN.out.mono ?_; rintro e w2 ⟨rfl, hb2⟩; have HB2 := Lib.hid hb2; clear hb2)
  clear x0 x1 x2 zx
  obtain ⟨x0, x1, x2⟩ := HX.out.below HB2.out
  have zx := cell_lt x0
  have HSC := Lib.hid (HSP.out w2 (HS.out.below HB2.out))
  go_upto_region 5 with (go_at_call 104; refine HSC.out.mono ?_; rintro e w3 ⟨rfl, hb3⟩; have HB3 := Lib.hid (bt HB2.out hb3); clear hb3)
  have HCC := Lib.hid (rCivil_ok w3 HCI.out)
  clear x0 x1 x2 zx
  go_upto_region 6 with (go_at_call 29; refine HCC.out.mono ?_; rintro e w4 ⟨rfl, rfl⟩)
  obtain ⟨⟨q0, r0⟩, ⟨q1, r1⟩, ⟨q2, r2⟩, ⟨q3, r3⟩, ⟨q4, r4⟩, ⟨q5, r5⟩, rz⟩ := HR.out.below (HB3.out)
  have z0 := rz 0
  have z1 := rz 1
  have z2 := rz 2
  have z3 := rz 3
  have z4 := rz 4
  have z5 := rz 5
  have zr := cell_lt r0
  clear rz
  go_wp2
  refine bodyPost_ret (v := .tuple #[.agg #[.int .i64 y, .int .i64 (k : Int), .int .i64 d, .int .i64 (mn / 60), .int .i64 (mn % 60), .int .i64 (r - 60 * mn)], .int .i64 0]) (by simp [results, Tryz.results43, go_sem, r0, r1, r2, r3, r4, r5]) rfl ⟨rfl, ?_⟩
  exact (((((((bt A0.out HB3.out).setCell (p := ⟨w.heap.size + 1, _, none⟩) (Nat.le_succ _) _).setCell (p := ⟨w.heap.size + 1, _, none⟩) (Nat.le_succ _) _).setCell (p := ⟨w.heap.size + 1, _, none⟩) (Nat.le_succ _) _).setCell (p := ⟨w.heap.size + 1, _, none⟩) (Nat.le_succ _) _).setCell (p := ⟨w.heap.size + 1, _, none⟩) (Nat.le_succ _) _).setCell (p := ⟨w.heap.size + 1, _, none⟩) (Nat.le_succ _) _)
set_option maxHeartbeats 2000000 in
theorem rDates_no {b u : Int} {n : Nat} {f : Nat → Int × Int} {s : Int} (hk : knownE b u n f s ≠ 0) (c : Nat) (p : Option Addr) (w : World) (hs : LpIn w f n p) (hn : n ≤ 1000000000000) :
    Calls Tryz.prog 43 #[.agg #[.int .i64 b, .slice p n c, .int .i64 u], .int .i64 s] w fun e w' => e = .returned (.tuple #[.agg #[.int .i64 0, .int .i64 0, .int .i64 0, .int .i64 0, .int .i64 0, .int .i64 0], .int .i64 (knownE b u n f s)]) ∧ Below w.heap.size w w' := by
  obtain ⟨hx, hr, A0⟩ := rdts_start w b u n c p
  have HX := Lib.hid hx
  have HR := Lib.hid hr
  have HKN := Lib.hid (rknown_any b u s n c p f _ (hs.below A0) hn)
  have A0 := Lib.hid A0
  obtain ⟨er, her⟩ : ∃ er, knownE b u n f s = er := ⟨_, rfl⟩
  rw [her] at hk HKN ⊢
  have hne : (er == 0) = false := by simpa using hk
  clear hx hr hs hk her
  go_enter Tryz.func43, Tryz.ntmps43
  go_upto_region 1 with fail
  generalize (w.alloc (.cells #[.int .i64 b, .slice p n c, .int .i64 u] 55)).alloc (.cells #[.int .i64 0, .int .i64 0, .int .i64 0, .int .i64 0, .int .i64 0, .int .i64 0] 67) = W1 at *
  obtain ⟨x0, x1, x2⟩ := HX.out
  have zx := cell_lt x0
  go_upto_region 2 with (go_at_call 103; refine HKN.out.mono ?_; rintro e w2 ⟨rfl, hb2⟩; have HB2 := Lib.hid hb2; clear hb2)
  clear x0 x1 x2 zx
  obtain ⟨⟨q0, r0⟩, ⟨q1, r1⟩, ⟨q2, r2⟩, ⟨q3, r3⟩, ⟨q4, r4⟩, ⟨q5, r5⟩, rz⟩ := HR.out.below (HB2.out)
  have z0 := rz 0
  have z1 := rz 1
  have z2 := rz 2
  have z3 := rz 3
  have z4 := rz 4
  have z5 := rz 5
  have zr := cell_lt r0
  clear rz
  go_wp2
  refine bodyPost_ret (v := .tuple #[.agg #[.int .i64 0, .int .i64 0, .int .i64 0, .int .i64 0, .int .i64 0, .int .i64 0], .int .i64 er]) (by simp [results, Tryz.results43, go_sem, r0, r1, r2, r3, r4, r5]) rfl ⟨rfl, ?_⟩
  exact (((((((bt A0.out HB2.out).setCell (p := ⟨w.heap.size + 1, _, none⟩) (Nat.le_succ _) _).setCell (p := ⟨w.heap.size + 1, _, none⟩) (Nat.le_succ _) _).setCell (p := ⟨w.heap.size + 1, _, none⟩) (Nat.le_succ _) _).setCell (p := ⟨w.heap.size + 1, _, none⟩) (Nat.le_succ _) _).setCell (p := ⟨w.heap.size + 1, _, none⟩) (Nat.le_succ _) _).setCell (p := ⟨w.heap.size + 1, _, none⟩) (Nat.le_succ _) _)
theorem rAtomic_no {b u : Int} {n : Nat} {f : Nat → Int × Int} {s : Int} (hk : knownE b u n f s ≠ 0) (c : Nat) (p : Option Addr) (w : World) (hs : LpIn w f n p) (hn : n ≤ 1000000000000) :
    Calls Tryz.prog 45 #[.agg #[.int .i64 b, .slice p n c, .int .i64 u], .int .i64 s] w fun e w' => e = .returned (.tuple #[.int .i64 0, .int .i64 (knownE b u n f s)]) ∧ Below w.heap.size w w' := by
  have A0 := below_alloc (Below.refl w.heap.size w) (.cells #[.int .i64 b, .slice p n c, .int .i64 u] 55)
  obtain ⟨x0, x1, x2⟩ := TBox.new w b u n c p 55
  have HKN := Lib.hid (rknown_any b u s n c p f _ (hs.below A0) hn)
  have A0 := Lib.hid A0
  obtain ⟨er, her⟩ : ∃ er, knownE b u n f s = er := ⟨_, rfl⟩
  rw [her] at hk HKN ⊢
  have hne : (er == 0) = false := by simpa using hk
  clear hs hk her
  go_enter Tryz.func45, Tryz.ntmps45
  go_upto_region 1 with fail
  generalize w.alloc (.cells #[.int .i64 b, .slice p n c, .int .i64 u] 55) = W1 at *
  have zx := cell_lt x0
  go_wp2_with (go_at_call 103; refine HKN.out.mono ?_; rintro e w2 ⟨rfl, hb2⟩; have HB2 := Lib.hid hb2; clear hb2)
  go_ret2
  exact ⟨rfl, bt A0.out HB2.out⟩
theorem rAnnounced_no {b u : Int} {n : Nat} {f : Nat → Int × Int} {s : Int} (hk : knownE b u n f s ≠ 0) (c : Nat) (p : Option Addr) (w : World) (hs : LpIn w f n p) (hn : n ≤ 1000000000000) :
    Calls Tryz.prog 47 #[.agg #[.int .i64 b, .slice p n c, .int .i64 u], .int .i64 s] w fun e w' => e = .returned (.tuple #[.int .i64 0, .int .i64 (knownE b u n f s)]) ∧ Below w.heap.size w w' := by
  have A0 := below_alloc (Below.refl w.heap.size w) (.cells #[.int .i64 b, .slice p n c, .int .i64 u] 55)
  obtain ⟨x0, x1, x2⟩ := TBox.new w b u n c p 55
  have HKN := Lib.hid (rknown_any b u s n c p f _ (hs.below A0) hn)
  have A0 := Lib.hid A0
  obtain ⟨er, her⟩ : ∃ er, knownE b u n f s = er := ⟨_, rfl⟩
  rw [her] at hk HKN ⊢
  have hne : (er == 0) = false := by simpa using hk
  clear hs hk her
  go_enter Tryz.func47, Tryz.ntmps47
  go_upto_region 1 with fail
  generalize w.alloc (.cells #[.int .i64 b, .slice p n c, .int .i64 u] 55) = W1 at *
  have zx := cell_lt x0
  go_wp2_with (go_at_call 103; refine HKN.out.mono ?_; rintro e w2 ⟨rfl, hb2⟩; have HB2 := Lib.hid hb2; clear hb2)
  go_ret2
  exact ⟨rfl, bt A0.out HB2.out⟩
theorem rAtomic_ok {b u : Int} {n : Nat} {f : Nat → Int × Int} {s : Int} (hk : knownE b u n f s = 0) (c : Nat) (p : Option Addr) (w : World) (hs : LpIn w f n p) :
    Calls Tryz.prog 45 #[.agg #[.int .i64 b, .slice p n c, .int .i64 u], .int .i64 s] w fun e w' => e = .returned (.tuple #[.int .i64 (s + b), .int .i64 0]) ∧ Below w.heap.size w w' := by
  obtain ⟨ht, hi⟩ := knownE_zero hk
  have HT := tab_ok ht
  have hib := inB_bd hi
  have htb := HT.total_bd
  have hb1 := HT.b1
  have hb2 := HT.b2
  have v1 : IntKind.i64.wrap (s + b) = s + b := IntWalk.i64_in _ (by omega)
  have A0 := below_alloc (Below.refl w.heap.size w) (.cells #[.int .i64 b, .slice p n c, .int .i64 u] 55)
  have HX := Lib.hid (TBox.new w b u n c p 55)
  have HKN := Lib.hid (rknown_any b u s n c p f _ (hs.below A0) (by have := HT.n1; omega))
  rw [hk] at HKN
  have A0 := Lib.hid A0
  clear hs hk ht hi hib htb HT hb1 hb2
  go_enter Tryz.func45, Tryz.ntmps45
  go_upto_region 1 with fail
  generalize w.alloc (.cells #[.int .i64 b, .slice p n c, .int .i64 u] 55) = W1 at *
  obtain ⟨x0, x1, x2⟩ := HX.out
  have zx := cell_lt x0
  go_upto_region 4 with (go_at_call 103; refine HKN.out.mono ?_; rintro e w2 ⟨rfl, hb2⟩; have HB2 := Lib.hid hb2; clear hb2)
  clear x0 x1 x2 zx
  obtain ⟨x0, x1, x2⟩ := HX.out.below HB2.out
  have zx := cell_lt x0
  go_wp2
  go_ret2
  exact ⟨rfl, bt A0.out HB2.out⟩
set_option maxHeartbeats 2000000 in
theorem rAnnounced_ok {b u : Int} {n : Nat} {f : Nat → Int × Int} {s : Int} (hk : knownE b u n f s = 0) {D : Int} (hD : IsDayOf u n f s D) (c : Nat) (p : Option Addr) (w : World) (hs : LpIn w f n p) :
    Calls Tryz.prog 47 #[.agg #[.int .i64 b, .slice p n c, .int .i64 u], .int .i64 s] w fun e w' => e = .returned (.tuple #[.int .i64 (stepAt f n (eom D)), .int .i64 0]) ∧ Below w.heap.size w w' := by
  obtain ⟨ht, hi⟩ := knownE_zero hk
  have HTO := Lib.hid (tab_ok ht)
  have A0 := below_alloc (Below.refl w.heap.size w) (.cells #[.int .i64 b, .slice p n c, .int .i64 u] 55)
  have HX := Lib.hid (TBox.new w b u n c p 55)
  have HKN := Lib.hid (rknown_any b u s n c p f _ (hs.below A0) (by have := HTO.out.n1; omega))
  rw [hk] at HKN
  have HS := Lib.hid (hs.below A0)
  have A0 := Lib.hid A0
  have HD := Lib.hid hD
  have hdr : 41317 ≤ D ∧ D ≤ 88068 := by have := hD.d1; have := hD.d2; have := HTO.out.u2; omega
  have hci := civ_is D hdr
  have HCI := Lib.hid hci
  have HE : Hid (dayN (yr D) (mo D) (dm (yr D) (mo D)) = eom D) := Lib.hid (eom_date hci)
  have HDT := Lib.hid (show IsDate (yr D) (mo D) (dm (yr D) (mo D)) from ⟨hci.y1, hci.y2, hci.m1, hci.m2, by have := dm_bd (yr D) (mo D); omega, Int.le_refl _⟩)
  have HMO := Lib.hid (fun X => month_any (yr D) (mo D) X (by have := hci.y1; omega))
  clear hs hk ht hi hD hdr hci
  go_enter Tryz.func47, Tryz.ntmps47
  go_upto_region 1 with fail
  generalize w.alloc (.cells #[.int .i64 b, .slice p n c, .int .i64 u] 55) = W1 at *
  obtain ⟨x0, x1, x2⟩ := HX.out
  have zx := cell_lt x0
  go_upto_region 4 with (go_at_call 103; refine HKN.out.mono ?_; rintro e w2 ⟨rfl, hb2⟩; have HB2 := Lib.hid hb2; clear hb2)
  clear x0 x1 x2 zx
  obtain ⟨x0, x1, x2⟩ := HX.out.below HB2.out
  have zx := cell_lt x0
  have HSC := Lib.hid (rsplit_any HTO.out HD.out c p w2 (HS.out.below HB2.out))
  generalize s - beginS f n D = r at *
  go_upto_region 5 with (go_at_call 104; refine HSC.out.mono ?_; rintro e w3 ⟨rfl, hb3⟩; have HB3 := Lib.hid (bt HB2.out hb3); clear hb3)
  clear x0 x1 x2 zx
  obtain ⟨x0, x1, x2⟩ := HX.out.below HB3.out
  have zx := cell_lt x0
  have HCC := Lib.hid (rCivil_ok w3 HCI.out)
  have HDD := Lib.hid (rDay_ok w3 HDT.out)
  rw [HE.out] at HDD
  have HST := Lib.hid (rstep_any HTO.out (eom D) c p w3 (HS.out.below HB3.out))
  obtain ⟨ed, hed⟩ : ∃ ed, eom D = ed := ⟨_, rfl⟩
  rw [hed] at HDD HST
  obtain ⟨st, hst⟩ : ∃ st, stepAt f n ed = st := ⟨_, rfl⟩
  rw [hst] at HST
  have HV := Lib.hid (show st = stepAt f n (eom D) by rw [hed, hst])
  clear hed hst HE HDT HCI
  have HMC := Lib.hid (HMO.out w3)
  generalize dm (yr D) (mo D) = dmm at *
  generalize yr D = yy at *
  generalize mo D = mm at *
  generalize da D = dd at *
  go_wp2_with (first | (go_at_call 29; refine HCC.out.mono ?_; rintro e w4 ⟨rfl, rfl⟩) | (go_at_call 91; refine HMC.out.mono ?_; rintro e w4 ⟨rfl, rfl⟩) | (go_at_call 32; refine HDD.out.mono ?_; rintro e w4 ⟨rfl, rfl⟩) | (go_at_call 100; refine HST.out.mono ?_; rintro e w5 ⟨rfl, hb5⟩; have HB5 := Lib.hid (bt HB3.out hb5); clear hb5))
  go_ret2
  exact ⟨congrArg (fun z => Ending.returned (.tuple #[.int .i64 z, .int .i64 0])) HV.out, bt A0.out HB5.out⟩
end Go.Proofs.YtgnfaemnehmgcaaGreatDoor.Cal
