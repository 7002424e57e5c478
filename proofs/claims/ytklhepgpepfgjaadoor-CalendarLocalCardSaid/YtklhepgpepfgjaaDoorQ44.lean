/- Layer 9 (calendar): a second of a table, near one of its leaps or anywhere. -/
import Derived.Test.YtklhepgpepfgjaaDoorQ43
namespace Go.Proofs.YtklhepgpepfgjaaDoor.Cal
open Go Go.RowKit
attribute [local go_sem] Oper.semAt_some
theorem U_bd (x : Int) : 0 ≤ IntKind.u64.wrap x ∧ IntKind.u64.wrap x ≤ 18446744073709551615 := by rw [IntKind.wrap_u64]; omega
def lowS (T v : Int) : Int := if T - 1 < v then T - 1 else v
def clampS (T v : Int) : Int := if lowS T v < 0 then 0 else lowS T v
set_option maxHeartbeats 1000000 in
theorem near_far {b u T U k x : Int} {n : Nat} (by' : Int) (hT : 1 ≤ T ∧ T ≤ 100000000000) (hU : IntKind.u64.wrap by' = U) (hx : 0 ≤ x ∧ x ≤ 255) (hn : n ≤ 100) (hk : x % ((n : Int) + 1) = k) (hkn : ¬ k < n) (c : Nat) (p : Option Addr) (w : World) :
    Calls Tryd.prog 9 #[.agg #[.int .i64 b, .slice p n c, .int .i64 u], .int .i64 T, .int .u8 x, .int .i64 by'] w fun e w' => e = .returned (.int .i64 (U % T)) ∧ Below w.heap.size w w' := by
  have A0 := Lib.hid (below_alloc (Below.refl w.heap.size w) (.cells #[.int .i64 b, .slice p n c, .int .i64 u] 24))
  have HX := Lib.hid (TBox.new w b u n c p 24)
  have hub := U_bd by'
  rw [hU] at hub
  have v1 : IntKind.u64.wrap T = T := IntWalk.u64_in _ (by omega)
  have hm1 := Int.emod_nonneg U (show T ≠ 0 by omega)
  have hm2 := Int.emod_lt_of_pos U (show 0 < T by omega)
  have v2 : U.tmod T = U % T := Int.tmod_eq_emod_of_nonneg (by omega)
  obtain ⟨q, hq⟩ : ∃ q, U % T = q := ⟨_, rfl⟩
  rw [hq] at v2 hm1 hm2 ⊢
  have v3 : x.tmod ((n : Int) + 1) = k := by rw [Int.tmod_eq_emod_of_nonneg (by omega)]; exact hk
  go_enter Tryd.func9, Tryd.ntmps9
  go_upto_region 1 with fail
  generalize w.alloc (.cells #[.int .i64 b, .slice p n c, .int .i64 u] 24) = W1 at *
  obtain ⟨x0, x1, x2⟩ := HX.out
  have zx := cell_lt x0
  go_wp2_with fail
  go_ret
  exact ⟨rfl, A0.out⟩
theorem clamp_bd (T v : Int) (hT : 1 ≤ T) : 0 ≤ clampS T v ∧ clampS T v ≤ T - 1 := by
  unfold clampS lowS
  split <;> split <;> omega
set_option maxRecDepth 100000 in
set_option maxHeartbeats 1000000 in
theorem near_leap {b u T x y m d xs es r : Int} {n : Nat} {f : Nat → Int × Int} (by' : Int) (hT : 1 ≤ T ∧ T ≤ 100000000000) (hx : 0 ≤ x ∧ x ≤ 255) (hn : n ≤ 100) (i : Nat) (hk : x % ((n : Int) + 1) = (i : Int)) (hi : i < n) (hr : by'.tmod 8 = r) (hrb : -8 ≤ r ∧ r ≤ 8)
    (hfd : -1000000000 ≤ (f i).1 ∧ (f i).1 ≤ 1000000000) (hxs : 0 ≤ xs ∧ xs ≤ 100000000000) (c : Nat) (p : Option Addr) (w : World) (hw : Mon w) (hs : LpIn w f n p)
    (hm : ∀ X, Mon X → Calls Tryd.prog 34 #[.int .i64 ((f i).1 + 1)] X fun e w' => e = .returned (.agg #[.int .i64 y, .int .i64 m, .int .i64 d, .int .i64 0, .int .i64 0, .int .i64 0]) ∧ Below X.heap.size X w')
    (hsec : ∀ X, Mon X → LpIn X f n p → Calls Tryd.prog 28 #[.agg #[.int .i64 b, .slice p n c, .int .i64 u], .agg #[.int .i64 y, .int .i64 m, .int .i64 d, .int .i64 0, .int .i64 0, .int .i64 0]] X fun e' w' => e' = .returned (.tuple #[.int .i64 xs, .int .i64 es]) ∧ Below X.heap.size X w') :
    Calls Tryd.prog 9 #[.agg #[.int .i64 b, .slice p n c, .int .i64 u], .int .i64 T, .int .u8 x, .int .i64 by'] w fun e w' => e = .returned (.int .i64 (clampS T ((if es = 0 then xs else T) + r - 4))) ∧ Below w.heap.size w w' := by
  have A0 := below_alloc (Below.refl w.heap.size w) (.cells #[.int .i64 b, .slice p n c, .int .i64 u] 24)
  have HX := Lib.hid (TBox.new w b u n c p 24)
  have HW := Lib.hid (hw.below A0)
  have HS := Lib.hid (hs.below A0)
  have A0 := Lib.hid A0
  have HM := Lib.hid hm
  have HQ := Lib.hid hsec
  obtain ⟨U, hU⟩ : ∃ U, IntKind.u64.wrap by' = U := ⟨_, rfl⟩
  have hub := U_bd by'
  rw [hU] at hub
  have v1 : IntKind.u64.wrap T = T := IntWalk.u64_in _ (by omega)
  have hm1 := Int.emod_nonneg U (show T ≠ 0 by omega)
  have hm2 := Int.emod_lt_of_pos U (show 0 < T by omega)
  have v2 : U.tmod T = U % T := Int.tmod_eq_emod_of_nonneg (by omega)
  obtain ⟨q, hq⟩ : ∃ q, U % T = q := ⟨_, rfl⟩
  rw [hq] at v2 hm1 hm2
  have v3 : x.tmod ((n : Int) + 1) = (i : Int) := by rw [Int.tmod_eq_emod_of_nonneg (by omega)]; exact hk
  have hin : (i : Int) < n := by omega
  have w0 : IntKind.i64.wrap r = r := IntWalk.i64_in _ (by omega)
  obtain ⟨v, hv⟩ : ∃ v, (if es = 0 then xs else T) + r - 4 = v := ⟨_, rfl⟩
  rw [hv]
  obtain ⟨l1, h1⟩ : ∃ m1, (if T - 1 < v then T - 1 else v) = m1 := ⟨_, rfl⟩
  obtain ⟨l2, h2⟩ : ∃ m2, (if l1 < 0 then 0 else l1) = m2 := ⟨_, rfl⟩
  have HV := Lib.hid (show l2 = clampS T v by unfold clampS lowS; rw [h1, h2])
  clear hw hs hm hsec
  go_enter Tryd.func9, Tryd.ntmps9
  go_upto_region 1 with fail
  generalize w.alloc (.cells #[.int .i64 b, .slice p n c, .int .i64 u] 24) = W1 at *
  obtain ⟨x0, x1, x2⟩ := HX.out
  have zx := cell_lt x0
  go_upto_region 4 with fail
  obtain ⟨bb, oo, rfl, hsi⟩ := HS.out.resolve_left (by omega)
  obtain ⟨y0, y1⟩ := hsi i hi
  have zy := cell_lt y0
  generalize (f i).1 = dd at *
  have v7 : IntKind.i64.wrap (dd + 1) = dd + 1 := IntWalk.i64_in _ (by omega)
  rw [← v7] at HM
  clear v7
  have HK := Lib.hid (show ∀ X, Below W1.heap.size W1 X → (fun w' => Below W1.heap.size W1 w' ∧ w'.cell? ⟨w.heap.size, 0, none⟩ = some (.int .i64 b) ∧ w'.cell? ⟨w.heap.size, 1, none⟩ = some (.slice (some ⟨bb, oo, none⟩) n c) ∧ w'.cell? ⟨w.heap.size, 2, none⟩ = some (.int .i64 u) ∧ w'.cell? ⟨bb, oo + i * 2, none⟩ = some (.int .i64 dd)) X from fun X h => ⟨h, cell_below h x0, cell_below h x1, cell_below h x2, cell_below h y0⟩)
  have HB0 := Lib.hid (Below.refl W1.heap.size W1)
  have HM1 := Lib.hid (fun X (h : Below W1.heap.size W1 X) => (HM.out X (HW.out.below h)).mono (fun e w' (q : _ ∧ _) => (⟨q.1, bt h q.2⟩ : _ ∧ Below W1.heap.size W1 w')))
  have HQ1 := Lib.hid (fun X (h : Below W1.heap.size W1 X) => (HQ.out X (HW.out.below h) (HS.out.below h)).mono (fun e w' (q : _ ∧ _) => (⟨q.1, bt h q.2⟩ : _ ∧ Below W1.heap.size W1 w')))
  refine wp_region_held_drew (S := (fun w' => Below W1.heap.size W1 w' ∧ w'.cell? ⟨w.heap.size, 0, none⟩ = some (.int .i64 b) ∧ w'.cell? ⟨w.heap.size, 1, none⟩ = some (.slice (some ⟨bb, oo, none⟩) n c) ∧ w'.cell? ⟨w.heap.size, 2, none⟩ = some (.int .i64 u) ∧ w'.cell? ⟨bb, oo + i * 2, none⟩ = some (.int .i64 dd))) (by kernel_rfl) (HK.out _ (Below.drew (Below.refl _ _))) (fun hHeld => ?_)
  refine wpAnyH_take (i := 0) (v := ?_) rfl (by kernel_rfl) (by kernel_rfl) (by kernel_rfl) (fun _ _ _ h => h) (Or.inl ⟨by rfl, ?_⟩) (by assumption) ?_
  rotate_left
  · intro w hSw; (try dsimp only at hSw); go_simp; try with_reducible rfl
  simp only [Act.put, List.getElem_toArray, List.getElem_cons_zero, List.setIfInBounds_toArray, List.set_cons_zero, List.set_cons_succ]
  refine wpAnyH_take (i := 1) (v := ?_) rfl (by kernel_rfl) (by kernel_rfl) (by kernel_rfl) (fun _ _ _ h => h) (Or.inl ⟨by rfl, ?_⟩) (by assumption) ?_
  rotate_left
  · intro w hSw; (try dsimp only at hSw); go_simp; try with_reducible rfl
  simp only [Act.put, List.getElem_toArray, List.getElem_cons_succ, List.getElem_cons_zero, List.setIfInBounds_toArray, List.set_cons_zero, List.set_cons_succ]
  refine wpAnyH_take (i := 2) (v := ?_) rfl (by kernel_rfl) (by kernel_rfl) (by kernel_rfl) (fun _ _ _ h => h) (Or.inl ⟨by rfl, ?_⟩) (by assumption) ?_
  rotate_left
  · intro w hSw; (try dsimp only at hSw); go_simp; try with_reducible rfl
  simp only [Act.put, List.getElem_toArray, List.getElem_cons_succ, List.getElem_cons_zero, List.setIfInBounds_toArray, List.set_cons_zero, List.set_cons_succ]
  refine wpAnyH_take (i := 3) (v := ?_) rfl (by kernel_rfl) (by kernel_rfl) (by kernel_rfl) (fun _ _ _ h => h) (Or.inl ⟨by rfl, ?_⟩) (by assumption) ?_
  rotate_left
  · intro w hSw; (try dsimp only at hSw); go_simp; try with_reducible rfl
  simp only [Act.put, List.getElem_toArray, List.getElem_cons_succ, List.getElem_cons_zero, List.setIfInBounds_toArray, List.set_cons_zero, List.set_cons_succ]
  refine wpAnyH_take (i := 4) (v := ?_) rfl (by kernel_rfl) (by kernel_rfl) (by kernel_rfl) (fun _ _ _ h => h) (Or.inl ⟨by rfl, ?_⟩) (by assumption) ?_
  rotate_left
  · intro w hSw; (try dsimp only at hSw); go_simp; try with_reducible rfl
  simp only [Act.put, List.getElem_toArray, List.getElem_cons_succ, List.getElem_cons_zero, List.setIfInBounds_toArray, List.set_cons_zero, List.set_cons_succ]
  refine wpAnyH_take (i := 5) (v := ?_) rfl (by kernel_rfl) (by kernel_rfl) (by kernel_rfl) (fun _ _ _ h => h) (Or.inl ⟨by rfl, ?_⟩) (by assumption) ?_
  rotate_left
  · intro w hSw; (try dsimp only at hSw); go_simp; try with_reducible rfl
  simp only [Act.put, List.getElem_toArray, List.getElem_cons_succ, List.getElem_cons_zero, List.setIfInBounds_toArray, List.set_cons_zero, List.set_cons_succ]
  refine wpAnyH_take (i := 6) (v := ?_) rfl (by kernel_rfl) (by kernel_rfl) (by kernel_rfl) (fun _ _ _ h => h) (Or.inl ⟨by rfl, ?_⟩) (by assumption) ?_
  rotate_left
  · intro w hSw; (try dsimp only at hSw); go_simp; try with_reducible rfl
  simp only [Act.put, List.getElem_toArray, List.getElem_cons_succ, List.getElem_cons_zero, List.setIfInBounds_toArray, List.set_cons_zero, List.set_cons_succ]
  refine wpAnyH_take (i := 7) (v := ?_) rfl (by kernel_rfl) (by kernel_rfl) (by kernel_rfl) (fun _ _ _ h => h) (Or.inl ⟨by rfl, ?_⟩) (by assumption) ?_
  rotate_left
  · intro w hSw; (try dsimp only at hSw); go_simp; try with_reducible rfl
  simp only [Act.put, List.getElem_toArray, List.getElem_cons_succ, List.getElem_cons_zero, List.setIfInBounds_toArray, List.set_cons_zero, List.set_cons_succ]
  refine wpAnyH_ready (rs := [8]) (by kernel_rfl) (by simp) ?_
  refine AllReadyH.cons rfl (fun K hK => ?_) AllReadyH.nil
  go_simp
  go_at_call 34
  refine (HM1.out _ (Below.drew HB0.out)).mono ?_
  rintro e w2 ⟨rfl, hbw2⟩
  go_wp2_with fail
  refine hK.out _ _ (HK.out _ hbw2) (fun hHeldw2 => ?_)
  clear hK K
  refine wpAnyH_ready (rs := [9]) (by kernel_rfl) (by simp) ?_
  refine AllReadyH.cons rfl (fun K hK => ?_) AllReadyH.nil
  go_simp
  go_at_call 28
  refine (HQ1.out _ hbw2).mono ?_
  rintro e w3 ⟨rfl, hbw3⟩
  go_wp2_with fail
  refine hK.out _ _ (HK.out _ hbw3) (fun hHeldw3 => ?_)
  clear hK K
  refine wpAnyH_take (i := 10) (v := ?_) rfl (by kernel_rfl) (by kernel_rfl) (by kernel_rfl) (fun _ _ _ h => h) (Or.inl ⟨by rfl, ?_⟩) (by assumption) ?_
  rotate_left
  · intro w hSw; (try dsimp only at hSw); go_simp; try with_reducible rfl
  simp only [Act.put, List.getElem_toArray, List.getElem_cons_succ, List.getElem_cons_zero, List.setIfInBounds_toArray, List.set_cons_zero, List.set_cons_succ]
  refine wpAnyH_take (i := 11) (v := ?_) rfl (by kernel_rfl) (by kernel_rfl) (by kernel_rfl) (fun _ _ _ h => h) (Or.inl ⟨by rfl, ?_⟩) (by assumption) ?_
  rotate_left
  · intro w hSw; (try dsimp only at hSw); go_simp; try with_reducible rfl
  simp only [Act.put, List.getElem_toArray, List.getElem_cons_succ, List.getElem_cons_zero, List.setIfInBounds_toArray, List.set_cons_zero, List.set_cons_succ]
  refine wpAnyH_take (i := 12) (v := ?_) rfl (by kernel_rfl) (by kernel_rfl) (by kernel_rfl) (fun _ _ _ h => h) (Or.inl ⟨by rfl, ?_⟩) (by assumption) ?_
  rotate_left
  · intro w hSw; (try dsimp only at hSw); go_simp; try with_reducible rfl
  simp only [Act.put, List.getElem_toArray, List.getElem_cons_succ, List.getElem_cons_zero, List.setIfInBounds_toArray, List.set_cons_zero, List.set_cons_succ]
  refine wpAnyH_take (i := 13) (v := ?_) rfl (by kernel_rfl) (by kernel_rfl) (by kernel_rfl) (fun _ _ _ h => h) (Or.inl ⟨by rfl, ?_⟩) (by assumption) ?_
  rotate_left
  · intro w hSw; (try dsimp only at hSw); go_simp; try with_reducible rfl
  simp only [Act.put, List.getElem_toArray, List.getElem_cons_succ, List.getElem_cons_zero, List.setIfInBounds_toArray, List.set_cons_zero, List.set_cons_succ]
  refine wpAnyH_take (i := 14) (v := ?_) rfl (by kernel_rfl) (by kernel_rfl) (by kernel_rfl) (fun _ _ _ h => h) (Or.inl ⟨by rfl, ?_⟩) (by assumption) ?_
  rotate_left
  · intro w hSw; (try dsimp only at hSw); go_simp; try with_reducible rfl
  simp only [Act.put, List.getElem_toArray, List.getElem_cons_succ, List.getElem_cons_zero, List.setIfInBounds_toArray, List.set_cons_zero, List.set_cons_succ]
  refine wpAnyH_done (by kernel_rfl) ?_ _
  have HB3 := Lib.hid hbw3
  clear hbw2 hbw3 hHeldw2 hHeldw3
  by_cases he : es = 0
  · rw [if_pos he] at hv
    have w1 : IntKind.i64.wrap (xs + r) = xs + r := IntWalk.i64_in _ (by omega)
    have w2 : IntKind.i64.wrap (xs + r - 4) = v := by rw [← hv]; exact IntWalk.i64_in _ (by omega)
    clear hv
    go_wp2_with fail
    go_ret
    exact ⟨ret_i64 HV.out, bt A0.out HB3.out⟩
  · rw [if_neg he] at hv
    have w1 : IntKind.i64.wrap (T + r) = T + r := IntWalk.i64_in _ (by omega)
    have w2 : IntKind.i64.wrap (T + r - 4) = v := by rw [← hv]; exact IntWalk.i64_in _ (by omega)
    clear hv
    go_wp2_with fail
    go_ret
    exact ⟨ret_i64 HV.out, bt A0.out HB3.out⟩
theorem near_ex {b u : Int} {n : Nat} {f : Nat → Int × Int} (ht : tabE b u n f = 0) (x by' : Int) (hx : 0 ≤ x ∧ x ≤ 255) : ∃ s : Int, (0 ≤ s ∧ s ≤ beginS f n u - 1) ∧
    ∀ X c p, Mon X → LpIn X f n p → n ≤ c → c ≤ maxLen → Calls Tryd.prog 9 #[.agg #[.int .i64 b, .slice p n c, .int .i64 u], .int .i64 (beginS f n u), .int .u8 x, .int .i64 by'] X fun e w' => e = .returned (.int .i64 s) ∧ Below X.heap.size X w' := by
  have HT := tab_ok ht
  have h1 := HT.total_pos
  have h2 := HT.total_bd
  have hn := HT.n1
  have hk0 := Int.emod_nonneg x (show (n : Int) + 1 ≠ 0 by omega)
  have hk1 := Int.emod_lt_of_pos x (show 0 < (n : Int) + 1 by omega)
  by_cases hk : x % ((n : Int) + 1) < n
  · obtain ⟨i, hi⟩ : ∃ i : Nat, x % ((n : Int) + 1) = (i : Int) := ⟨(x % ((n : Int) + 1)).toNat, by omega⟩
    have hin : i < n := by omega
    obtain ⟨y, m, d, hm⟩ := midnight_ex ((f i).1 + 1)
    obtain ⟨xs, es, hxs, hsec⟩ := sec_ex ht y m d
    have hfd := HT.d1 i hin
    have hu2 := HT.u2
    have hr := tmod_bd by' 8 (by decide)
    exact ⟨_, clamp_bd _ _ h1, fun X c p hX hl hc hcm => near_leap by' ⟨h1, h2.2⟩ hx hn i hi hin rfl (by omega) (by omega) hxs c p X hX hl hm (fun Y hY hY2 => hsec Y c p hY hY2 hc hcm)⟩
  · refine ⟨_, ?_, fun X c p hX hl hc hcm => near_far by' ⟨h1, h2.2⟩ rfl hx hn rfl hk c p X⟩
    have := Int.emod_nonneg (IntKind.u64.wrap by') (show beginS f n u ≠ 0 by omega)
    have := Int.emod_lt_of_pos (IntKind.u64.wrap by') (show 0 < beginS f n u by omega)
    omega
end Go.Proofs.YtklhepgpepfgjaaDoor.Cal
