/-  ·  ·  -/
import Derived.Test.YtgnfaemnehmgcaaGreatDoorQ05
namespace Go.Proofs.YtgnfaemnehmgcaaGreatDoor.Cal
open Go Go.RowKit
attribute [local go_sem] Oper.semAt_some
def lenS (f : Nat → Int × Int) (n : Nat) (m : Int) : Int := if m % 1440 = 1439 then 60 + stepAt f n (m / 1440) else 60
def hasB (u : Int) (f : Nat → Int × Int) (n : Nat) (m s : Int) : Bool := dayK u (m / 1440) && (decide (0 ≤ s) && decide (s ≤ lenS f n m - 1))
def numS (f : Nat → Int × Int) (n : Nat) (m s : Int) : Int := beginS f n (m / 1440) + 60 * (m % 1440) + s
structure MBox (w : World) (a : Nat) (m s : Int) : Prop where
  c0 : w.cell? ⟨a, 0, none⟩ = some (.int .i64 m)
  c1 : w.cell? ⟨a, 1, none⟩ = some (.int .i64 s)
theorem MBox.below {w w' : World} {a : Nat} {m s : Int} (k : MBox w a m s) (hb : Below w.heap.size w w') : MBox w' a m s := ⟨cell_below hb k.c0, cell_below hb k.c1⟩
def wmW (w : World) (b u : Int) (n c : Nat) (p : Option Addr) (mb : Nat) (m s : Int) : World := (w.alloc (.cells #[.int .i64 b, .slice p n c, .int .i64 u, .map (some mb)] 132)).alloc (.cells #[.int .i64 m, .int .i64 s] 136)
theorem wm_start (w : World) (b u : Int) (n c : Nat) (p : Option Addr) (mb : Nat) (m s : Int) : WBox (wmW w b u n c p mb m s) w.heap.size b u n c p mb ∧ MBox (wmW w b u n c p mb m s) (w.heap.size + 1) m s ∧ Below w.heap.size w (wmW w b u n c p mb m s) := by
  unfold wmW
  have b1 := below_alloc (Below.refl w.heap.size w) (.cells #[.int .i64 b, .slice p n c, .int .i64 u, .map (some mb)] 132)
  have e : (w.alloc (.cells #[.int .i64 b, .slice p n c, .int .i64 u, .map (some mb)] 132)).heap.size = w.heap.size + 1 := by simp
  refine ⟨WBox.below (w := w.alloc (.cells #[.int .i64 b, .slice p n c, .int .i64 u, .map (some mb)] 132)) ⟨⟨by simp, by simp, by simp⟩, by simp⟩ (below_alloc (Below.refl _ _) _), ⟨?_, ?_⟩, below_alloc b1 _⟩
  · rw [← e]; simp
  · rw [← e]; simp
theorem Calls.bel {P : Program} {k : FuncId} {args : Array Value} {W X : World} {r : Ending} (h : Below W.heap.size W X) (q : Calls P k args X fun e w' => e = r ∧ Below X.heap.size X w') : Calls P k args X fun e w' => e = r ∧ Below W.heap.size W w' :=
  q.mono fun _ _ ⟨a, b⟩ => ⟨a, bt h b⟩
set_option maxHeartbeats 2000000 in
theorem has_any {b u : Int} {n : Nat} {f : Nat → Int × Int} (ht : TabOk b u n f) (m s : Int) (c : Nat) (p : Option Addr) (mb : Nat) (w : World) (hM : StM w mb f n) (hm : -200000000000000000 ≤ m ∧ m ≤ 200000000000000000) :
    Calls Tryz.prog 84 #[.agg #[.int .i64 b, .slice p n c, .int .i64 u, .map (some mb)], .agg #[.int .i64 m, .int .i64 s]] w fun e w' => e = .returned (.bool (hasB u f n m s)) ∧ Below w.heap.size w w' := by
  obtain ⟨hx, hy, hb⟩ := wm_start w b u n c p mb m s
  unfold wmW at hx hy hb
  have HX := Lib.hid hx
  have HY := Lib.hid hy
  have A0 := Lib.hid hb
  have HM := Lib.hid (hM.below hb)
  have hst := stepAt_bd (f := f) (m / 1440) n ht.s
  have HUB := Lib.hid (show -9000000000000000000 ≤ u ∧ u ≤ 9000000000000000000 by have := ht.u1; have := ht.u2; omega)
  have HMB := Lib.hid (show -9000000000000000000 ≤ m ∧ m ≤ 9000000000000000000 by omega)
  have hwf : (Lit.int .i64 (m / 1440)).wf = true := wf_big (by omega)
  have HWF := Lib.hid hwf
  clear hx hy hb hM hwf hm
  obtain ⟨day, hday⟩ : ∃ day, m / 1440 = day := ⟨_, rfl⟩
  rw [hday] at hst HWF
  have HDY := Lib.hid hday
  obtain ⟨od, hod⟩ : ∃ od, m % 1440 = od := ⟨_, rfl⟩
  have HOD := Lib.hid hod
  clear hday hod
  have HEN := Lib.hid (show hasB u f n m s = (dayK u day && (decide (0 ≤ s) && decide (s ≤ (if od = 1439 then 60 + stepAt f n day else 60) - 1))) by unfold hasB lenS; rw [HDY.out, HOD.out])
  generalize hv : hasB u f n m s = res at *
  clear hv
  by_cases hof : od = 1439
  · subst hof
    rw [if_pos rfl] at HEN
    go_enter Tryz.func84, Tryz.ntmps84
    go_upto_region 1 with fail
    generalize (w.alloc (.cells #[.int .i64 b, .slice p n c, .int .i64 u, .map (some mb)] 132)).alloc (.cells #[.int .i64 m, .int .i64 s] 136) = W1 at *
    obtain ⟨⟨x0, x1, x2⟩, x3⟩ := HX.out
    obtain ⟨y0, y1⟩ := HY.out
    have zx := cell_lt x0
    have zy := cell_lt y0
    have HOF := Lib.hid (mofday_any m s W1)
    rw [HOD.out] at HOF
    go_upto_region 3 with (go_at_call 134; refine HOF.out.mono ?_; rintro e w2 ⟨rfl, hb2⟩; have BW := Lib.hid hb2; clear hb2)
    clear x0 x1 x2 x3 y0 y1 zx zy
    obtain ⟨⟨x0, x1, x2⟩, x3⟩ := HX.out.below BW.out
    obtain ⟨y0, y1⟩ := HY.out.below BW.out
    have zx := cell_lt x0
    have zy := cell_lt y0
    have HB0 := Lib.hid (Below.refl w2.heap.size w2)
    have HLK := Lib.hid (fun X (h : Below w2.heap.size w2 X) => ((HM.out.below BW.out).below h).look day HWF.out)
    have v1 : IntKind.i64.wrap (60 + stepAt f n day) = 60 + stepAt f n day := IntWalk.i64_in _ (by omega)
    have HMD := Lib.hid (fun X (h : Below w2.heap.size w2 X) => Calls.bel h (mday_any m s X HMB.out))
    rw [HDY.out] at HMD
    generalize stepAt f n day = st at *
    have HK := Lib.hid (show ∀ X, Below w2.heap.size w2 X → (fun w' => Below w2.heap.size w2 w' ∧ w'.cell? ⟨w.heap.size, 3, none⟩ = some (.map (some mb)) ∧ w'.cell? ⟨w.heap.size + 1, 0, none⟩ = some (.int .i64 m) ∧ w'.cell? ⟨w.heap.size + 1, 1, none⟩ = some (.int .i64 s) ∧ (Instr.lookup 130 (.map (some mb)) (.int .i64 day) false).run Tryz.prog w' = .ok (.int .i64 st) w') X from fun X h => ⟨h, cell_below h x3, cell_below h y0, cell_below h y1, HLK.out X h⟩)
    go_region_held3 (fun w' => Below w2.heap.size w2 w' ∧ w'.cell? ⟨w.heap.size, 3, none⟩ = some (.map (some mb)) ∧ w'.cell? ⟨w.heap.size + 1, 0, none⟩ = some (.int .i64 m) ∧ w'.cell? ⟨w.heap.size + 1, 1, none⟩ = some (.int .i64 s) ∧ (Instr.lookup 130 (.map (some mb)) (.int .i64 day) false).run Tryz.prog w' = .ok (.int .i64 st) w')
      (exact HK.out _ (by first | assumption | exact HB0.out | exact Below.drew HB0.out | exact Below.drew (by assumption)))
      (first | (go_at_call 122; refine (HMD.out _ (by first | assumption | exact HB0.out | exact Below.drew HB0.out)).mono ?_; rintro e w3 ⟨rfl, hb3⟩))
    have BW3 := Lib.hid (bt BW.out hb3)
    clear BW hb3 HK HMD HLK HB0 x0 x1 x2 x3 y0 y1 zx zy
    have BW := Lib.hid BW3.out
    go_upto_region 4 with fail
    obtain ⟨⟨x0, x1, x2⟩, x3⟩ := HX.out.below (BW.out)
    obtain ⟨y0, y1⟩ := HY.out.below (BW.out)
    have zx := cell_lt x0
    have zy := cell_lt y0
    have HB0 := Lib.hid (Below.refl w3.heap.size w3)
    have HK := Lib.hid (show ∀ X, Below w3.heap.size w3 X → (fun w' => Below w3.heap.size w3 w' ∧ w'.cell? ⟨w.heap.size, 0, none⟩ = some (.int .i64 b) ∧ w'.cell? ⟨w.heap.size, 1, none⟩ = some (.slice p n c) ∧ w'.cell? ⟨w.heap.size, 2, none⟩ = some (.int .i64 u) ∧ w'.cell? ⟨w.heap.size + 1, 0, none⟩ = some (.int .i64 m) ∧ w'.cell? ⟨w.heap.size + 1, 1, none⟩ = some (.int .i64 s)) X from fun X h => ⟨h, cell_below h x0, cell_below h x1, cell_below h x2, cell_below h y0, cell_below h y1⟩)
    have HMD := Lib.hid (fun X (h : Below w3.heap.size w3 X) => Calls.bel h (mday_any m s X HMB.out))
    rw [HDY.out] at HMD
    have HKD := Lib.hid (fun X (h : Below w3.heap.size w3 X) => Calls.bel h (knowsDay_any b u day n c p X HUB.out))
    have HIX := Lib.hid (fun X => index_any s (60 + st) X (by omega))
    cases hk : dayK u day
    · have HKK := Lib.hid hk
      rw [hk] at HEN
      rw [HKK.out] at HKD
      clear hk
      simp only [Bool.false_and] at HEN
      refine wp_region_held_drew (S := (fun w' => Below w3.heap.size w3 w' ∧ w'.cell? ⟨w.heap.size, 0, none⟩ = some (.int .i64 b) ∧ w'.cell? ⟨w.heap.size, 1, none⟩ = some (.slice p n c) ∧ w'.cell? ⟨w.heap.size, 2, none⟩ = some (.int .i64 u) ∧ w'.cell? ⟨w.heap.size + 1, 0, none⟩ = some (.int .i64 m) ∧ w'.cell? ⟨w.heap.size + 1, 1, none⟩ = some (.int .i64 s))) (by kernel_rfl) (HK.out _ (Below.drew HB0.out)) (fun hHeld => ?_)
      refine wpAnyH_take (i := 0) (v := ?_) rfl (by kernel_rfl) (by kernel_rfl) (by kernel_rfl) (fun _ _ _ h => h) (Or.inl ⟨by rfl, ?_⟩) (by assumption) ?_
      rotate_left
      · intro w hSw; (try dsimp only at hSw); go_simp; try with_reducible rfl
      simp only [Act.put, List.getElem_toArray, List.getElem_cons_zero, List.setIfInBounds_toArray, List.set_cons_zero, List.set_cons_succ]
      refine wpAnyH_take (i := 1) (v := ?_) rfl (by kernel_rfl) (by kernel_rfl) (by kernel_rfl) (fun _ _ _ h => h) (Or.inl ⟨by rfl, ?_⟩) (by assumption) ?_
      rotate_left
      · intro w hSw; (try dsimp only at hSw); go_simp; try with_reducible rfl
      simp only [Act.put, List.getElem_toArray, List.getElem_cons_succ, List.getElem_cons_zero, List.setIfInBounds_toArray, List.set_cons_zero, List.set_cons_succ]
      refine wpAnyH_take (i := 2) (v := ?_) rfl (by kernel_rfl) (by kernel_rfl) (by kernel_rfl) (fun _ _ _ h => h) (Or.inl ⟨by rfl, ?_⟩) (by assumption) ?_
      rotate_left
      · intro w hSw; (try dsimp only at hSw); go_simp; try with_reducible rfl
      simp only [Act.put, List.getElem_toArray, List.getElem_cons_succ, List.getElem_cons_zero, List.setIfInBounds_toArray, List.set_cons_zero, List.set_cons_succ]
      refine wpAnyH_ready (rs := [3]) (by kernel_rfl) (by simp) ?_
      refine AllReadyH.cons rfl (fun K hK => ?_) AllReadyH.nil
      go_simp
      go_at_call 122; refine (HMD.out _ (Below.drew HB0.out)).mono ?_; rintro e wa ⟨rfl, hba⟩
      go_wp2_with fail
      refine hK.out _ _ (HK.out _ hba) (fun hHeld3 => ?_)
      clear hK K hHeld
      have hHeld := hHeld3
      clear hHeld3
      refine wpAnyH_ready (rs := [4]) (by kernel_rfl) (by simp) ?_
      refine AllReadyH.cons rfl (fun K hK => ?_) AllReadyH.nil
      go_simp
      go_at_call 93; refine (HKD.out _ hba).mono ?_; rintro e wb ⟨rfl, hbb⟩
      go_wp2_with fail
      refine hK.out _ _ (HK.out _ hbb) (fun hHeld4 => ?_)
      clear hK K hHeld
      have hHeld := hHeld4
      clear hHeld4
      refine wpAnyH_take (i := 5) (v := ?_) rfl (by kernel_rfl) (by kernel_rfl) (by kernel_rfl) (fun _ _ _ h => h) (Or.inl ⟨by rfl, ?_⟩) (by assumption) ?_
      rotate_left
      · intro w hSw; (try dsimp only at hSw); go_simp; try with_reducible rfl
      simp only [Act.put, List.getElem_toArray, List.getElem_cons_succ, List.getElem_cons_zero, List.setIfInBounds_toArray, List.set_cons_zero, List.set_cons_succ]
      refine wpAnyH_take (i := 6) (v := undef) rfl (by kernel_rfl) (by kernel_rfl) (by kernel_rfl) (fun _ _ _ h => h) (Or.inr ⟨by rfl, rfl⟩) (by assumption) ?_
      simp only [Act.put, List.getElem_toArray, List.getElem_cons_succ, List.getElem_cons_zero, List.setIfInBounds_toArray, List.set_cons_zero, List.set_cons_succ]
      refine wpAnyH_take (i := 7) (v := undef) rfl (by kernel_rfl) (by kernel_rfl) (by kernel_rfl) (fun _ _ _ h => h) (Or.inr ⟨by rfl, rfl⟩) (by assumption) ?_
      simp only [Act.put, List.getElem_toArray, List.getElem_cons_succ, List.getElem_cons_zero, List.setIfInBounds_toArray, List.set_cons_zero, List.set_cons_succ]
      refine wpAnyH_take (i := 8) (v := undef) rfl (by kernel_rfl) (by kernel_rfl) (by kernel_rfl) (fun _ _ _ h => h) (Or.inr ⟨by rfl, rfl⟩) (by assumption) ?_
      simp only [Act.put, List.getElem_toArray, List.getElem_cons_succ, List.getElem_cons_zero, List.setIfInBounds_toArray, List.set_cons_zero, List.set_cons_succ]
      refine wpAnyH_take (i := 9) (v := undef) rfl (by kernel_rfl) (by kernel_rfl) (by kernel_rfl) (fun _ _ _ h => h) (Or.inr ⟨by rfl, rfl⟩) (by assumption) ?_
      simp only [Act.put, List.getElem_toArray, List.getElem_cons_succ, List.getElem_cons_zero, List.setIfInBounds_toArray, List.set_cons_zero, List.set_cons_succ]
      refine wpAnyH_take (i := 10) (v := ?_) rfl (by kernel_rfl) (by kernel_rfl) (by kernel_rfl) (fun _ _ _ h => h) (Or.inl ⟨by rfl, ?_⟩) (by assumption) ?_
      rotate_left
      · intro w hSw; (try dsimp only at hSw); go_simp; try with_reducible rfl
      simp only [Act.put, List.getElem_toArray, List.getElem_cons_succ, List.getElem_cons_zero, List.setIfInBounds_toArray, List.set_cons_zero, List.set_cons_succ]
      refine wpAnyH_take (i := 11) (v := ?_) rfl (by kernel_rfl) (by kernel_rfl) (by kernel_rfl) (fun _ _ _ h => h) (Or.inl ⟨by rfl, ?_⟩) (by assumption) ?_
      rotate_left
      · intro w hSw; (try dsimp only at hSw); go_simp; try with_reducible rfl
      simp only [Act.put, List.getElem_toArray, List.getElem_cons_succ, List.getElem_cons_zero, List.setIfInBounds_toArray, List.set_cons_zero, List.set_cons_succ]
      refine wpAnyH_done (by kernel_rfl) ?_ _
      clear hHeld
      go_wp2
      go_ret
      exact ⟨ret_bool HEN.out.symm, bt (bt A0.out BW.out) hbb⟩
    · have HKK := Lib.hid hk
      rw [hk] at HEN
      rw [HKK.out] at HKD
      clear hk
      simp only [Bool.true_and] at HEN
      go_region_held3 (fun w' => Below w3.heap.size w3 w' ∧ w'.cell? ⟨w.heap.size, 0, none⟩ = some (.int .i64 b) ∧ w'.cell? ⟨w.heap.size, 1, none⟩ = some (.slice p n c) ∧ w'.cell? ⟨w.heap.size, 2, none⟩ = some (.int .i64 u) ∧ w'.cell? ⟨w.heap.size + 1, 0, none⟩ = some (.int .i64 m) ∧ w'.cell? ⟨w.heap.size + 1, 1, none⟩ = some (.int .i64 s))
        (exact HK.out _ (by first | assumption | exact HB0.out | exact Below.drew HB0.out | exact Below.drew (by assumption)))
        (first | (go_at_call 122; refine (HMD.out _ (by first | assumption | exact HB0.out | exact Below.drew HB0.out)).mono ?_; rintro e w2 ⟨rfl, hb2⟩) | (go_at_call 93; refine (HKD.out _ (by first | assumption | exact HB0.out | exact Below.drew HB0.out)).mono ?_; rintro e w2 ⟨rfl, hb2⟩) | (go_at_call 111; refine (HIX.out _).mono ?_; rintro e w2 ⟨rfl, rfl⟩))
      all_goals
        go_wp2
        go_ret
        exact ⟨ret_bool HEN.out.symm, bt (bt A0.out BW.out) (by assumption)⟩
  · have hof2 : (od == 1439) = false := by simpa using hof
    rw [if_neg hof] at HEN
    go_enter Tryz.func84, Tryz.ntmps84
    go_upto_region 1 with fail
    generalize (w.alloc (.cells #[.int .i64 b, .slice p n c, .int .i64 u, .map (some mb)] 132)).alloc (.cells #[.int .i64 m, .int .i64 s] 136) = W1 at *
    obtain ⟨⟨x0, x1, x2⟩, x3⟩ := HX.out
    obtain ⟨y0, y1⟩ := HY.out
    have zx := cell_lt x0
    have zy := cell_lt y0
    have HOF := Lib.hid (mofday_any m s W1)
    rw [HOD.out] at HOF
    go_upto_region 4 with (go_at_call 134; refine HOF.out.mono ?_; rintro e w2 ⟨rfl, hb2⟩; have BW := Lib.hid hb2; clear hb2)
    clear x0 x1 x2 x3 y0 y1 zx zy
    obtain ⟨⟨x0, x1, x2⟩, x3⟩ := HX.out.below (BW.out)
    obtain ⟨y0, y1⟩ := HY.out.below (BW.out)
    have zx := cell_lt x0
    have zy := cell_lt y0
    have HB0 := Lib.hid (Below.refl w2.heap.size w2)
    have HK := Lib.hid (show ∀ X, Below w2.heap.size w2 X → (fun w' => Below w2.heap.size w2 w' ∧ w'.cell? ⟨w.heap.size, 0, none⟩ = some (.int .i64 b) ∧ w'.cell? ⟨w.heap.size, 1, none⟩ = some (.slice p n c) ∧ w'.cell? ⟨w.heap.size, 2, none⟩ = some (.int .i64 u) ∧ w'.cell? ⟨w.heap.size + 1, 0, none⟩ = some (.int .i64 m) ∧ w'.cell? ⟨w.heap.size + 1, 1, none⟩ = some (.int .i64 s)) X from fun X h => ⟨h, cell_below h x0, cell_below h x1, cell_below h x2, cell_below h y0, cell_below h y1⟩)
    have HMD := Lib.hid (fun X (h : Below w2.heap.size w2 X) => Calls.bel h (mday_any m s X HMB.out))
    rw [HDY.out] at HMD
    have HKD := Lib.hid (fun X (h : Below w2.heap.size w2 X) => Calls.bel h (knowsDay_any b u day n c p X HUB.out))
    have HIX := Lib.hid (fun X => index_any s (60) X (by omega))
    cases hk : dayK u day
    · have HKK := Lib.hid hk
      rw [hk] at HEN
      rw [HKK.out] at HKD
      clear hk
      simp only [Bool.false_and] at HEN
      refine wp_region_held_drew (S := (fun w' => Below w2.heap.size w2 w' ∧ w'.cell? ⟨w.heap.size, 0, none⟩ = some (.int .i64 b) ∧ w'.cell? ⟨w.heap.size, 1, none⟩ = some (.slice p n c) ∧ w'.cell? ⟨w.heap.size, 2, none⟩ = some (.int .i64 u) ∧ w'.cell? ⟨w.heap.size + 1, 0, none⟩ = some (.int .i64 m) ∧ w'.cell? ⟨w.heap.size + 1, 1, none⟩ = some (.int .i64 s))) (by kernel_rfl) (HK.out _ (Below.drew HB0.out)) (fun hHeld => ?_)
      refine wpAnyH_take (i := 0) (v := ?_) rfl (by kernel_rfl) (by kernel_rfl) (by kernel_rfl) (fun _ _ _ h => h) (Or.inl ⟨by rfl, ?_⟩) (by assumption) ?_
      rotate_left
      · intro w hSw; (try dsimp only at hSw); go_simp; try with_reducible rfl
      simp only [Act.put, List.getElem_toArray, List.getElem_cons_zero, List.setIfInBounds_toArray, List.set_cons_zero, List.set_cons_succ]
      refine wpAnyH_take (i := 1) (v := ?_) rfl (by kernel_rfl) (by kernel_rfl) (by kernel_rfl) (fun _ _ _ h => h) (Or.inl ⟨by rfl, ?_⟩) (by assumption) ?_
      rotate_left
      · intro w hSw; (try dsimp only at hSw); go_simp; try with_reducible rfl
      simp only [Act.put, List.getElem_toArray, List.getElem_cons_succ, List.getElem_cons_zero, List.setIfInBounds_toArray, List.set_cons_zero, List.set_cons_succ]
      refine wpAnyH_take (i := 2) (v := ?_) rfl (by kernel_rfl) (by kernel_rfl) (by kernel_rfl) (fun _ _ _ h => h) (Or.inl ⟨by rfl, ?_⟩) (by assumption) ?_
      rotate_left
      · intro w hSw; (try dsimp only at hSw); go_simp; try with_reducible rfl
      simp only [Act.put, List.getElem_toArray, List.getElem_cons_succ, List.getElem_cons_zero, List.setIfInBounds_toArray, List.set_cons_zero, List.set_cons_succ]
      refine wpAnyH_ready (rs := [3]) (by kernel_rfl) (by simp) ?_
      refine AllReadyH.cons rfl (fun K hK => ?_) AllReadyH.nil
      go_simp
      go_at_call 122; refine (HMD.out _ (Below.drew HB0.out)).mono ?_; rintro e wa ⟨rfl, hba⟩
      go_wp2_with fail
      refine hK.out _ _ (HK.out _ hba) (fun hHeld3 => ?_)
      clear hK K hHeld
      have hHeld := hHeld3
      clear hHeld3
      refine wpAnyH_ready (rs := [4]) (by kernel_rfl) (by simp) ?_
      refine AllReadyH.cons rfl (fun K hK => ?_) AllReadyH.nil
      go_simp
      go_at_call 93; refine (HKD.out _ hba).mono ?_; rintro e wb ⟨rfl, hbb⟩
      go_wp2_with fail
      refine hK.out _ _ (HK.out _ hbb) (fun hHeld4 => ?_)
      clear hK K hHeld
      have hHeld := hHeld4
      clear hHeld4
      refine wpAnyH_take (i := 5) (v := ?_) rfl (by kernel_rfl) (by kernel_rfl) (by kernel_rfl) (fun _ _ _ h => h) (Or.inl ⟨by rfl, ?_⟩) (by assumption) ?_
      rotate_left
      · intro w hSw; (try dsimp only at hSw); go_simp; try with_reducible rfl
      simp only [Act.put, List.getElem_toArray, List.getElem_cons_succ, List.getElem_cons_zero, List.setIfInBounds_toArray, List.set_cons_zero, List.set_cons_succ]
      refine wpAnyH_take (i := 6) (v := undef) rfl (by kernel_rfl) (by kernel_rfl) (by kernel_rfl) (fun _ _ _ h => h) (Or.inr ⟨by rfl, rfl⟩) (by assumption) ?_
      simp only [Act.put, List.getElem_toArray, List.getElem_cons_succ, List.getElem_cons_zero, List.setIfInBounds_toArray, List.set_cons_zero, List.set_cons_succ]
      refine wpAnyH_take (i := 7) (v := undef) rfl (by kernel_rfl) (by kernel_rfl) (by kernel_rfl) (fun _ _ _ h => h) (Or.inr ⟨by rfl, rfl⟩) (by assumption) ?_
      simp only [Act.put, List.getElem_toArray, List.getElem_cons_succ, List.getElem_cons_zero, List.setIfInBounds_toArray, List.set_cons_zero, List.set_cons_succ]
      refine wpAnyH_take (i := 8) (v := undef) rfl (by kernel_rfl) (by kernel_rfl) (by kernel_rfl) (fun _ _ _ h => h) (Or.inr ⟨by rfl, rfl⟩) (by assumption) ?_
      simp only [Act.put, List.getElem_toArray, List.getElem_cons_succ, List.getElem_cons_zero, List.setIfInBounds_toArray, List.set_cons_zero, List.set_cons_succ]
      refine wpAnyH_take (i := 9) (v := undef) rfl (by kernel_rfl) (by kernel_rfl) (by kernel_rfl) (fun _ _ _ h => h) (Or.inr ⟨by rfl, rfl⟩) (by assumption) ?_
      simp only [Act.put, List.getElem_toArray, List.getElem_cons_succ, List.getElem_cons_zero, List.setIfInBounds_toArray, List.set_cons_zero, List.set_cons_succ]
      refine wpAnyH_take (i := 10) (v := ?_) rfl (by kernel_rfl) (by kernel_rfl) (by kernel_rfl) (fun _ _ _ h => h) (Or.inl ⟨by rfl, ?_⟩) (by assumption) ?_
      rotate_left
      · intro w hSw; (try dsimp only at hSw); go_simp; try with_reducible rfl
      simp only [Act.put, List.getElem_toArray, List.getElem_cons_succ, List.getElem_cons_zero, List.setIfInBounds_toArray, List.set_cons_zero, List.set_cons_succ]
      refine wpAnyH_take (i := 11) (v := ?_) rfl (by kernel_rfl) (by kernel_rfl) (by kernel_rfl) (fun _ _ _ h => h) (Or.inl ⟨by rfl, ?_⟩) (by assumption) ?_
      rotate_left
      · intro w hSw; (try dsimp only at hSw); go_simp; try with_reducible rfl
      simp only [Act.put, List.getElem_toArray, List.getElem_cons_succ, List.getElem_cons_zero, List.setIfInBounds_toArray, List.set_cons_zero, List.set_cons_succ]
      refine wpAnyH_done (by kernel_rfl) ?_ _
      clear hHeld
      go_wp2
      go_ret
      exact ⟨ret_bool HEN.out.symm, bt (bt A0.out BW.out) hbb⟩
    · have HKK := Lib.hid hk
      rw [hk] at HEN
      rw [HKK.out] at HKD
      clear hk
      simp only [Bool.true_and] at HEN
      go_region_held3 (fun w' => Below w2.heap.size w2 w' ∧ w'.cell? ⟨w.heap.size, 0, none⟩ = some (.int .i64 b) ∧ w'.cell? ⟨w.heap.size, 1, none⟩ = some (.slice p n c) ∧ w'.cell? ⟨w.heap.size, 2, none⟩ = some (.int .i64 u) ∧ w'.cell? ⟨w.heap.size + 1, 0, none⟩ = some (.int .i64 m) ∧ w'.cell? ⟨w.heap.size + 1, 1, none⟩ = some (.int .i64 s))
        (exact HK.out _ (by first | assumption | exact HB0.out | exact Below.drew HB0.out | exact Below.drew (by assumption)))
        (first | (go_at_call 122; refine (HMD.out _ (by first | assumption | exact HB0.out | exact Below.drew HB0.out)).mono ?_; rintro e w2 ⟨rfl, hb2⟩) | (go_at_call 93; refine (HKD.out _ (by first | assumption | exact HB0.out | exact Below.drew HB0.out)).mono ?_; rintro e w2 ⟨rfl, hb2⟩) | (go_at_call 111; refine (HIX.out _).mono ?_; rintro e w2 ⟨rfl, rfl⟩))
      all_goals
        go_wp2
        go_ret
        exact ⟨ret_bool HEN.out.symm, bt (bt A0.out BW.out) (by assumption)⟩
set_option maxHeartbeats 2000000 in
theorem number_any {b u : Int} {n : Nat} {f : Nat → Int × Int} (ht : TabOk b u n f) (m s : Int) (c : Nat) (p : Option Addr) (mb : Nat) (w : World) (hs : LpIn w f n p) (hc : n ≤ c) (hcm : c ≤ maxLen) (hm : -1000000000000 ≤ m ∧ m ≤ 1000000000000) (hsb : -1000000000000 ≤ s ∧ s ≤ 1000000000000) :
    Calls Tryz.prog 85 #[.agg #[.int .i64 b, .slice p n c, .int .i64 u, .map (some mb)], .agg #[.int .i64 m, .int .i64 s]] w fun e w' => e = .returned (.int .i64 (numS f n m s)) ∧ Below w.heap.size w w' := by
  obtain ⟨hx, hy, hb⟩ := wm_start w b u n c p mb m s
  unfold wmW at hx hy hb
  obtain ⟨⟨x0, x1, x2⟩, x3⟩ := hx
  obtain ⟨y0, y1⟩ := hy
  have HS := Lib.hid (hs.below hb)
  have A0 := Lib.hid hb
  have hgb := ht.grow_bd (m / 1440)
  have v1 : IntKind.i64.wrap (60 * (m % 1440)) = 60 * (m % 1440) := IntWalk.i64_in _ (by omega)
  have hbb : -100000000000000 ≤ beginS f n (m / 1440) ∧ beginS f n (m / 1440) ≤ 100000000000000 := by unfold beginS; omega
  have v2 : IntKind.i64.wrap (beginS f n (m / 1440) + 60 * (m % 1440)) = beginS f n (m / 1440) + 60 * (m % 1440) := IntWalk.i64_in _ (by omega)
  have v3 : IntKind.i64.wrap (beginS f n (m / 1440) + 60 * (m % 1440) + s) = beginS f n (m / 1440) + 60 * (m % 1440) + s := IntWalk.i64_in _ (by omega)
  have HE := Lib.hid (show beginS f n (m / 1440) + 60 * (m % 1440) + s = numS f n m s from rfl)
  have HMB := Lib.hid (show -9000000000000000000 ≤ m ∧ m ≤ 9000000000000000000 by omega)
  have HDB := Lib.hid (show -1000000000000 ≤ m / 1440 ∧ m / 1440 ≤ 1000000000000 by omega)
  clear hb hs hgb hm hsb hbb
  go_enter Tryz.func85, Tryz.ntmps85
  go_wp2_with fail
  generalize (w.alloc (.cells #[.int .i64 b, .slice p n c, .int .i64 u, .map (some mb)] 132)).alloc (.cells #[.int .i64 m, .int .i64 s] 136) = W1 at *
  have zx := cell_lt x0
  have zy := cell_lt y0
  have HB0 := Lib.hid (Below.refl W1.heap.size W1)
  have HK := Lib.hid (show ∀ X, Below W1.heap.size W1 X → (fun w' => Below W1.heap.size W1 w' ∧ w'.cell? ⟨w.heap.size, 0, none⟩ = some (.int .i64 b) ∧ w'.cell? ⟨w.heap.size, 1, none⟩ = some (.slice p n c) ∧ w'.cell? ⟨w.heap.size, 2, none⟩ = some (.int .i64 u) ∧ w'.cell? ⟨w.heap.size + 1, 0, none⟩ = some (.int .i64 m) ∧ w'.cell? ⟨w.heap.size + 1, 1, none⟩ = some (.int .i64 s)) X from fun X h => ⟨h, cell_below h x0, cell_below h x1, cell_below h x2, cell_below h y0, cell_below h y1⟩)
  have HMD := Lib.hid (fun X (h : Below W1.heap.size W1 X) => Calls.bel h (mday_any m s X HMB.out))
  have HOD := Lib.hid (fun X (h : Below W1.heap.size W1 X) => Calls.bel h (mofday_any m s X))
  have HBG := Lib.hid (fun X (h : Below W1.heap.size W1 X) => Calls.bel h (begin_any ht (m / 1440) c p X (HS.out.below h) hc hcm HDB.out))
  generalize beginS f n (m / 1440) = bg at *
  generalize m / 1440 = dy at *
  generalize m % 1440 = od at *
  go_region_held3 (fun w' => Below W1.heap.size W1 w' ∧ w'.cell? ⟨w.heap.size, 0, none⟩ = some (.int .i64 b) ∧ w'.cell? ⟨w.heap.size, 1, none⟩ = some (.slice p n c) ∧ w'.cell? ⟨w.heap.size, 2, none⟩ = some (.int .i64 u) ∧ w'.cell? ⟨w.heap.size + 1, 0, none⟩ = some (.int .i64 m) ∧ w'.cell? ⟨w.heap.size + 1, 1, none⟩ = some (.int .i64 s))
    (exact HK.out _ (by first | assumption | exact HB0.out | exact Below.drew HB0.out | exact Below.drew (by assumption)))
    (first | (go_at_call 122; refine (HMD.out _ (by first | assumption | exact HB0.out | exact Below.drew HB0.out)).mono ?_; rintro e w2 ⟨rfl, hb2⟩) | (go_at_call 134; refine (HOD.out _ (by first | assumption | exact HB0.out | exact Below.drew HB0.out)).mono ?_; rintro e w2 ⟨rfl, hb2⟩) | (go_at_call 113; refine (HBG.out _ (by first | assumption | exact HB0.out | exact Below.drew HB0.out)).mono ?_; rintro e w2 ⟨rfl, hb2⟩))
  all_goals
    go_wp2
    go_ret
    exact ⟨ret_i64 HE.out, bt A0.out (by assumption)⟩
end Go.Proofs.YtgnfaemnehmgcaaGreatDoor.Cal
namespace Go.Proofs.YtgnfaemnehmgcaaGreatDoor.Cal
open Go Go.RowKit
attribute [local go_sem] Oper.semAt_some
def tdW (w : World) (b u : Int) (n c : Nat) (p : Option Addr) (y m d h mi s : Int) : World := (w.alloc (.cells #[.int .i64 b, .slice p n c, .int .i64 u] 24)).alloc (.cells #[.int .i64 y, .int .i64 m, .int .i64 d, .int .i64 h, .int .i64 mi, .int .i64 s] 26)
theorem td_start (w : World) (b u : Int) (n c : Nat) (p : Option Addr) (y m d h mi s : Int) : TBox (tdW w b u n c p y m d h mi s) w.heap.size b u n c p ∧ DBox (tdW w b u n c p y m d h mi s) (w.heap.size + 1) y m d h mi s ∧ Below w.heap.size w (tdW w b u n c p y m d h mi s) := by
  unfold tdW
  have b1 := below_alloc (Below.refl w.heap.size w) (.cells #[.int .i64 b, .slice p n c, .int .i64 u] 24)
  have e : (w.alloc (.cells #[.int .i64 b, .slice p n c, .int .i64 u] 24)).heap.size = w.heap.size + 1 := by simp
  refine ⟨(TBox.new w b u n c p 24).below (below_alloc (Below.refl _ _) _), ?_, below_alloc b1 _⟩
  have := DBox.new (w.alloc (.cells #[.int .i64 b, .slice p n c, .int .i64 u] 24)) y m d h mi s
  rwa [e] at this
theorem WBox.new (w : World) (b u : Int) (n c : Nat) (p : Option Addr) (mb : Nat) : WBox (w.alloc (.cells #[.int .i64 b, .slice p n c, .int .i64 u, .map (some mb)] 132)) w.heap.size b u n c p mb := ⟨⟨by simp, by simp, by simp⟩, by simp⟩
theorem MBox.new (w : World) (m s : Int) : MBox (w.alloc (.cells #[.int .i64 m, .int .i64 s] 136)) w.heap.size m s := ⟨by simp, by simp⟩
set_option maxHeartbeats 2000000 in
theorem Seconds_ok {b u : Int} {n : Nat} {f : Nat → Int × Int} (ht : tabE b u n f = 0) {y : Int} {m : Nat} {d : Int} (hd : IsDate y m d) (h mi s : Int) (hh : tB h = true) (hmi : miB mi = true) (hsb : sB s = true)
    (hh2 : hasB u f n (1440 * dayN y m d + 60 * h + mi) s = true) (c : Nat) (p : Option Addr) (w : World) (hw : Mon w) (hs : LpIn w f n p) (hc : n ≤ c) (hcm : c ≤ maxLen) :
    Calls Tryz.prog 25 #[.agg #[.int .i64 b, .slice p n c, .int .i64 u], .agg #[.int .i64 y, .int .i64 (m : Int), .int .i64 d, .int .i64 h, .int .i64 mi, .int .i64 s]] w fun e w' => e = .returned (.tuple #[.int .i64 (numS f n (1440 * dayN y m d + 60 * h + mi) s), .int .i64 0]) ∧ Below w.heap.size w w' := by
  obtain ⟨hx, hy, hb⟩ := td_start w b u n c p y m d h mi s
  unfold tdW at hx hy hb
  obtain ⟨x0, x1, x2⟩ := hx
  have HY := Lib.hid hy
  have HT := Lib.hid ht
  have HTO := Lib.hid (tab_ok ht)
  have HW := Lib.hid (hw.below hb)
  have HS := Lib.hid (hs.below hb)
  have A0 := Lib.hid hb
  have HDT := Lib.hid hd
  have HH := Lib.hid (And.intro hh (And.intro hmi hsb))
  have hnb := hd.civ.n_bd
  have hmb : (0 ≤ h ∧ h ≤ 23) ∧ (0 ≤ mi ∧ mi ≤ 59) ∧ (0 ≤ s ∧ s ≤ 60) := by
    unfold tB at hh; unfold miB at hmi; unfold sB at hsb
    simp at hh hmi hsb; omega
  have HBD := Lib.hid (show (-1000000000000 ≤ 1440 * dayN y m d + 60 * h + mi ∧ 1440 * dayN y m d + 60 * h + mi ≤ 1000000000000) ∧ (-1000000000000 ≤ s ∧ s ≤ 1000000000000) by omega)
  have HMO := Lib.hid (fun X (hX : Mon X) => dmoment_ok (y := y) (m := m) (d := d) h mi s X hX HDT.out HH.out.1 HH.out.2.1 HH.out.2.2)
  have HHA := Lib.hid hh2
  clear hy ht hw hs hb hd hh hmi hsb hnb hmb hh2
  obtain ⟨t, hte⟩ : ∃ t, 1440 * dayN y m d + 60 * h + mi = t := ⟨_, rfl⟩
  rw [hte] at HBD HMO HHA ⊢
  clear hte
  go_enter Tryz.func25, Tryz.ntmps25
  go_upto_region 1 with fail
  generalize (w.alloc (.cells #[.int .i64 b, .slice p n c, .int .i64 u] 24)).alloc (.cells #[.int .i64 y, .int .i64 (m : Int), .int .i64 d, .int .i64 h, .int .i64 mi, .int .i64 s] 26) = W1 at *
  have zx := cell_lt x0
  have HOP := Lib.hid (open_ok b u n c p f W1 HW.out HS.out (by have := HTO.out.n1; omega) HT.out)
  go_upto_region 2 with (go_at_call 82; refine HOP.out.mono ?_; rintro e w2 ⟨mb, rfl, hM, hb2⟩; have HM := Lib.hid hM; have HB2 := Lib.hid hb2; clear hM hb2)
  clear x0 x1 x2 zx
  have hb3 := below_alloc (Below.refl w2.heap.size w2) (.cells #[.int .i64 b, .slice p n c, .int .i64 u, .map (some mb)] 132)
  have HX := Lib.hid (WBox.new w2 b u n c p mb)
  have HM3 := Lib.hid (HM.out.below hb3)
  have HB3 := Lib.hid (bt HB2.out hb3)
  clear hb3
  generalize w2.alloc (.cells #[.int .i64 b, .slice p n c, .int .i64 u, .map (some mb)] 132) = W3 at *
  generalize w2.heap.size = a6 at *
  obtain ⟨y0, y1, y2, y3, y4, y5⟩ := HY.out.below HB3.out
  have zy := cell_lt y0
  have HMC := Lib.hid (HMO.out W3 (HW.out.below HB3.out))
  go_upto_region 5 with (go_at_call 83; refine HMC.out.mono ?_; rintro e w4 ⟨rfl, hb4⟩; have HB4 := Lib.hid hb4; clear hb4)
  clear y0 y1 y2 y3 y4 y5 zy
  have hb5 := below_alloc (Below.refl w4.heap.size w4) (.cells #[.int .i64 t, .int .i64 s] 136)
  obtain ⟨y0, y1⟩ := MBox.new w4 t s
  have HX5 := Lib.hid ((HX.out.below HB4.out).below hb5)
  have HM5 := Lib.hid ((HM3.out.below HB4.out).below hb5)
  have HB5 := Lib.hid (bt (bt HB3.out HB4.out) hb5)
  have HYB := Lib.hid (MBox.new w4 t s)
  clear hb5
  generalize w4.alloc (.cells #[.int .i64 t, .int .i64 s] 136) = W5 at *
  obtain ⟨⟨x0, x1, x2⟩, x3⟩ := HX5.out
  have zx := cell_lt x0
  have zy := cell_lt y0
  have HHC := Lib.hid (has_any HTO.out t s c p mb W5 HM5.out (by have := HBD.out; omega))
  rw [HHA.out] at HHC
  go_upto_region 7 with (go_at_call 84; refine HHC.out.mono ?_; rintro e w6 ⟨rfl, hb6⟩; have HB6 := Lib.hid hb6; clear hb6)
  clear x0 x1 x2 x3 y0 y1 zx zy
  obtain ⟨⟨x0, x1, x2⟩, x3⟩ := HX5.out.below HB6.out
  obtain ⟨y0, y1⟩ := HYB.out.below HB6.out
  have zx := cell_lt x0
  have zy := cell_lt y0
  have HNC := Lib.hid (number_any HTO.out t s c p mb w6 (((HS.out.below HB5.out)).below HB6.out) hc hcm HBD.out.1 HBD.out.2)
  go_wp2_with (go_at_call 85; refine HNC.out.mono ?_; rintro e w7 ⟨rfl, hb7⟩; have HB7 := Lib.hid hb7; clear hb7)
  go_ret2
  exact ⟨rfl, bt (bt (bt A0.out HB5.out) HB6.out) HB7.out⟩
end Go.Proofs.YtgnfaemnehmgcaaGreatDoor.Cal
namespace Go.Proofs.YtgnfaemnehmgcaaGreatDoor.Cal
open Go Go.RowKit
attribute [local go_sem] Oper.semAt_some
theorem later_start (w : World) (m s : Int) : MBox ((w.alloc (.cells #[.int .i64 m, .int .i64 s] 136)).alloc (.cells #[.int .i64 0, .int .i64 0] 136)) w.heap.size m s ∧ Res2 ((w.alloc (.cells #[.int .i64 m, .int .i64 s] 136)).alloc (.cells #[.int .i64 0, .int .i64 0] 136)) (w.heap.size + 1) ∧ Below w.heap.size w ((w.alloc (.cells #[.int .i64 m, .int .i64 s] 136)).alloc (.cells #[.int .i64 0, .int .i64 0] 136)) := by
  have b1 := below_alloc (Below.refl w.heap.size w) (.cells #[.int .i64 m, .int .i64 s] 136)
  have h1 := MBox.new w m s
  have e1 : (w.alloc (.cells #[.int .i64 m, .int .i64 s] 136)).heap.size = w.heap.size + 1 := by simp
  generalize w.alloc (.cells #[.int .i64 m, .int .i64 s] 136) = W1 at *
  have b2 := below_alloc (Below.refl W1.heap.size W1) (.cells #[.int .i64 0, .int .i64 0] 136)
  have h2 := Res2.new W1 (.int .i64 0) (.int .i64 0) 136
  rw [e1] at h2
  exact ⟨h1.below b2, h2, bt b1 b2⟩
theorem later_any (m s x : Int) (hm : -1000000000000 ≤ m ∧ m ≤ 1000000000000) (hx : -1000000000000 ≤ x ∧ x ≤ 1000000000000) (w : World) :
    Calls Tryz.prog 121 #[.agg #[.int .i64 m, .int .i64 s], .int .i64 x] w fun e w' => e = .returned (.agg #[.int .i64 (m + x), .int .i64 s]) ∧ Below w.heap.size w w' := by
  obtain ⟨h1, h2, hb⟩ := later_start w m s
  have H1 := Lib.hid h1
  have H2 := Lib.hid h2
  have A0 := Lib.hid hb
  have v1 : IntKind.i64.wrap (m + x) = m + x := IntWalk.i64_in _ (by omega)
  clear h1 h2 hb hm hx
  go_enter Tryz.func121, Tryz.ntmps121
  go_upto_region 1 with fail
  generalize (w.alloc (.cells #[.int .i64 m, .int .i64 s] 136)).alloc (.cells #[.int .i64 0, .int .i64 0] 136) = W1 at *
  obtain ⟨x0, x1⟩ := H1.out
  have zx := cell_lt x0
  obtain ⟨⟨u0, r0⟩, ⟨u1, r1⟩, rz⟩ := H2.out
  have z0 := rz 0
  have z1 := rz 1
  have zr := cell_lt r0
  clear rz
  go_wp2
  refine bodyPost_ret (v := .agg #[.int .i64 (m + x), .int .i64 s]) (by simp [results, Tryz.results121, go_sem, r0, r1]) rfl ⟨rfl, ?_⟩
  exact ((A0.out).setCell (p := ⟨w.heap.size + 1, _, none⟩) (Nat.le_succ _) _).setCell (p := ⟨w.heap.size + 1, _, none⟩) (Nat.le_succ _) _
end Go.Proofs.YtgnfaemnehmgcaaGreatDoor.Cal
