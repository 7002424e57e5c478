/-  -/
import Derived.Test.YtgnfaemnehmgcaaGreatDoorQ22
namespace Go.Proofs.YtgnfaemnehmgcaaGreatDoor.Cal
open Go Go.RowKit
attribute [local go_sem] Oper.semAt_some
theorem minF_congr {near : Int} {f g : Nat → Int} : ∀ k, (∀ i, i ≤ k → f i = g i) → minF near f k = minF near g k
  | 0, h => h 0 (Nat.le_refl _)
  | k + 1, h => by rw [minF, minF, minF_congr k (fun i hi => h i (by omega)), h (k + 1) (Nat.le_refl _)]
theorem dist_abs (near x : Int) : distI near x = if x - near < 0 then -(x - near) else x - near := by
  unfold distI; split <;> split <;> omega
def gpsF (a : Int) (i : Nat) : Int := a + 619315200 * (i : Int)
structure GpsK (a T : Int) (K : Nat) : Prop where
  l : ∀ i, i < K → gpsF a i < T
  h : ¬ gpsF a K < T
theorem gpsK_ex (a T : Int) (ha : 0 ≤ a) (hT : T ≤ 10000000000) : ∃ K, K ≤ 20 ∧ GpsK a T K := by
  have key : ∀ m, m ≤ 20 → (∀ i, i < m → gpsF a i < T) ∨ ∃ K, K < m ∧ GpsK a T K := by
    intro m
    induction m with
    | zero => intro _; left; intro i h; omega
    | succ m ih =>
      intro hm
      rcases ih (by omega) with h | ⟨K, hK, hk⟩
      · by_cases c : gpsF a m < T
        · left
          intro i hi
          by_cases e : i = m
          · subst e; exact c
          · exact h i (by omega)
        · right; exact ⟨m, by omega, h, c⟩
      · right; exact ⟨K, by omega, hk⟩
  rcases key 20 (Nat.le_refl _) with h | ⟨K, hK, hk⟩
  · have h19 := h 19 (by decide)
    unfold gpsF at h19
    omega
  · exact ⟨K, by omega, hk⟩
theorem GpsK.uniq {a T : Int} {K k : Nat} (h : GpsK a T K) (l : ∀ i, i < k → gpsF a i < T) (g : ¬ gpsF a k < T) : k = K := by
  rcases Nat.lt_trichotomy k K with c | c | c
  · exact absurd (h.l k c) g
  · exact c
  · exact absurd (l K c) h.h
def gpsV (near a : Int) (K : Nat) : Int := if K = 0 then 0 else minF near (gpsF a) (K - 1)
def gpsE (K : Nat) : Int := if K = 0 then 4 else 0
set_option maxRecDepth 100000 in
set_option maxHeartbeats 4000000 in
theorem FromGps_all {b u : Int} {n : Nat} {f : Nat → Int × Int} (ht : tabE b u n f = 0) (G S near : Int) (K : Nat) (hG : 0 ≤ G ∧ G ≤ 1023) (hS : 0 ≤ S ∧ S ≤ 604799) (hnb : -1000000000000 ≤ near ∧ near ≤ 1000000000000)
    (hKK : GpsK (beginS f n 44244 + 604800 * G + S) (beginS f n u) K) (c : Nat) (p : Option Addr) (w : World) (hw : Mon w) (hs : LpIn w f n p) (hc : n ≤ c) (hcm : c ≤ maxLen) :
    Calls Tryz.prog 57 #[.agg #[.int .i64 b, .slice p n c, .int .i64 u], .agg #[.int .i64 G, .int .i64 S], .int .i64 near] w fun e w' => e = .returned (.tuple #[.int .i64 (gpsV near (beginS f n 44244 + 604800 * G + S) K), .int .i64 (gpsE K)]) ∧ Below w.heap.size w w' := by
  obtain ⟨i0, hi0, hz0, hz1, hz2⟩ := info_parts infoInt
  have HGB := Lib.hid (gpsb_new w b u n c p G S near)
  have HTO := Lib.hid (tab_ok ht)
  have HCK := Lib.hid (Check_any b u n c p f _ (hw.below HGB.out.bel) (hs.below HGB.out.bel) (by have := HTO.out.n1; omega))
  rw [ht] at HCK
  have HBG0 := Lib.hid (fun X (hL : LpIn X f n p) => begin_any HTO.out 44244 c p X hL hc hcm (by decide))
  have HTL := Lib.hid (fun X (hL : LpIn X f n p) => total_any HTO.out c p X hL hc hcm)
  have HS := Lib.hid (hs.below HGB.out.bel)
  have htb := HTO.out.total_bd
  have hg := HTO.out.grow_bd 44244
  have hv : -1000 ≤ beginS f n 44244 ∧ beginS f n 44244 ≤ 1000000000 := by unfold beginS; omega
  generalize beginS f n 44244 = B at *
  generalize beginS f n u = T at *
  obtain ⟨a, ha⟩ : ∃ a, B + 604800 * G + S = a := ⟨_, rfl⟩
  rw [ha] at hKK ⊢
  have hab : -1000 ≤ a ∧ a ≤ 10000000000 := by omega
  have v1 : IntKind.i64.wrap (604800 * G) = 604800 * G := IntWalk.i64_in _ (by omega)
  have v2 : IntKind.i64.wrap (B + 604800 * G) = B + 604800 * G := IntWalk.i64_in _ (by omega)
  have v3 : IntKind.i64.wrap (B + 604800 * G + S) = a := by rw [ha]; exact IntWalk.i64_in _ (by omega)
  have HIX1 := Lib.hid (fun X => index_any G 1024 X (by omega))
  rw [show (decide (0 ≤ G) && decide (G ≤ 1024 - 1)) = true by simp; omega] at HIX1
  have HIX2 := Lib.hid (fun X => index_any S 604800 X (by omega))
  rw [show (decide (0 ≤ S) && decide (S ≤ 604800 - 1)) = true by simp; omega] at HIX2
  have HWI := Lib.hid (fun X => within_any near (-1000000000000) 1000000000000 X)
  rw [show (decide (-1000000000000 ≤ near) && decide (near ≤ 1000000000000)) = true by simp; omega] at HWI
  have HKK := Lib.hid hKK
  clear hw hs ht hG hS hg hKK ha
  go_enter Tryz.func57, Tryz.ntmps57
  go_upto_region 1 with fail
  generalize ((w.alloc (.cells #[.int .i64 b, .slice p n c, .int .i64 u] 24)).alloc (.cells #[.int .i64 G, .int .i64 S] 44)).alloc (.cells #[.int .i64 near] 3) = W1 at *
  obtain ⟨x0, x1, x2⟩ := HGB.out.t
  have zx := cell_lt x0
  go_upto_region 2 with (go_at_call 33; refine HCK.out.mono ?_; rintro e W2 ⟨rfl, hb2⟩; have HB2 := Lib.hid hb2; clear hb2)
  clear x0 x1 x2 zx
  have HG2 := Lib.hid (HGB.out.below HB2.out)
  have HS2 := Lib.hid (HS.out.below HB2.out)
  obtain ⟨y0, y1⟩ := HG2.out.g
  have y2 := HG2.out.n
  have zy := cell_lt y0
  have zn := cell_lt y2
  go_upto_region 7 with (first | (go_at_call 111; refine (HIX1.out _).mono ?_; rintro e w' ⟨rfl, rfl⟩) | (go_at_call 111; refine (HIX2.out _).mono ?_; rintro e w' ⟨rfl, rfl⟩) | (go_at_call 67; refine (HWI.out _).mono ?_; rintro e w' ⟨rfl, rfl⟩))
  have HBG := Lib.hid (fun X (hX : Below W2.heap.size W2 X) => Calls.bel hX (HBG0.out X (HS2.out.below hX)))
  obtain ⟨x0, x1, x2⟩ := HG2.out.t
  have zx := cell_lt x0
  have HK := Lib.hid (show ∀ X, Below W2.heap.size W2 X → (fun w' => Below W2.heap.size W2 w' ∧ w'.cell? ⟨w.heap.size, 0, none⟩ = some (.int .i64 b) ∧ w'.cell? ⟨w.heap.size, 1, none⟩ = some (.slice p n c) ∧ w'.cell? ⟨w.heap.size, 2, none⟩ = some (.int .i64 u) ∧ w'.cell? ⟨w.heap.size + 1, 0, none⟩ = some (.int .i64 G) ∧ w'.cell? ⟨w.heap.size + 1, 1, none⟩ = some (.int .i64 S)) X from fun X h => ⟨h, cell_below h x0, cell_below h x1, cell_below h x2, cell_below h y0, cell_below h y1⟩)
  clear y2 zn
  refine wp_region_held_drew (S := (fun w' => Below W2.heap.size W2 w' ∧ w'.cell? ⟨w.heap.size, 0, none⟩ = some (.int .i64 b) ∧ w'.cell? ⟨w.heap.size, 1, none⟩ = some (.slice p n c) ∧ w'.cell? ⟨w.heap.size, 2, none⟩ = some (.int .i64 u) ∧ w'.cell? ⟨w.heap.size + 1, 0, none⟩ = some (.int .i64 G) ∧ w'.cell? ⟨w.heap.size + 1, 1, none⟩ = some (.int .i64 S))) (by kernel_rfl) (HK.out _ (Below.drew (Below.refl _ _))) (fun hHeld => ?_)
  refine wpAnyH_take (i := 0) (v := ?_) rfl (by kernel_rfl) (by kernel_rfl) (by kernel_rfl) (fun _ _ _ h => h) (Or.inl ⟨by rfl, ?_⟩) (by assumption) ?_
  rotate_left
  · intro w hSw; (try dsimp only at hSw); go_simp; try with_reducible rfl
  simp only [Act.put, List.getElem_toArray, List.getElem_cons_zero, List.setIfInBounds_toArray, List.set_cons_zero, List.set_cons_succ]
  refine wpAnyH_take (i := 2) (v := ?_) rfl (by kernel_rfl) (by kernel_rfl) (by kernel_rfl) (fun _ _ _ h => h) (Or.inl ⟨by rfl, ?_⟩) (by assumption) ?_
  rotate_left
  · intro w hSw; (try dsimp only at hSw); go_simp; try with_reducible rfl
  simp only [Act.put, List.getElem_toArray, List.getElem_cons_succ, List.getElem_cons_zero, List.setIfInBounds_toArray, List.set_cons_zero, List.set_cons_succ]
  refine wpAnyH_take (i := 3) (v := ?_) rfl (by kernel_rfl) (by kernel_rfl) (by kernel_rfl) (fun _ _ _ h => h) (Or.inl ⟨by rfl, ?_⟩) (by assumption) ?_
  rotate_left
  · intro w hSw; (try dsimp only at hSw); go_simp; try with_reducible rfl
  simp only [Act.put, List.getElem_toArray, List.getElem_cons_succ, List.getElem_cons_zero, List.setIfInBounds_toArray, List.set_cons_zero, List.set_cons_succ]
  refine wpAnyH_take (i := 4) (v := ?_) rfl (by kernel_rfl) (by kernel_rfl) (by kernel_rfl) (fun _ _ _ h => h) (Or.inl ⟨by rfl, ?_⟩) (by assumption) ?_
  rotate_left
  · intro w hSw; (try dsimp only at hSw); go_simp; try with_reducible rfl
  simp only [Act.put, List.getElem_toArray, List.getElem_cons_succ, List.getElem_cons_zero, List.setIfInBounds_toArray, List.set_cons_zero, List.set_cons_succ]
  refine wpAnyH_take (i := 6) (v := ?_) rfl (by kernel_rfl) (by kernel_rfl) (by kernel_rfl) (fun _ _ _ h => h) (Or.inl ⟨by rfl, ?_⟩) (by assumption) ?_
  rotate_left
  · intro w hSw; (try dsimp only at hSw); go_simp; try with_reducible rfl
  simp only [Act.put, List.getElem_toArray, List.getElem_cons_succ, List.getElem_cons_zero, List.setIfInBounds_toArray, List.set_cons_zero, List.set_cons_succ]
  refine wpAnyH_take (i := 7) (v := ?_) rfl (by kernel_rfl) (by kernel_rfl) (by kernel_rfl) (fun _ _ _ h => h) (Or.inl ⟨by rfl, ?_⟩) (by assumption) ?_
  rotate_left
  · intro w hSw; (try dsimp only at hSw); go_simp; try with_reducible rfl
  simp only [Act.put, List.getElem_toArray, List.getElem_cons_succ, List.getElem_cons_zero, List.setIfInBounds_toArray, List.set_cons_zero, List.set_cons_succ]
  refine wpAnyH_ready (rs := [1]) (by kernel_rfl) (by simp) ?_
  refine AllReadyH.cons rfl (fun K hK => ?_) AllReadyH.nil
  go_simp
  go_at_call 113
  refine (HBG.out _ (Below.drew (Below.refl _ _))).mono ?_
  rintro e w3 ⟨rfl, hbw3⟩
  go_wp2_with fail
  refine hK.out _ _ (HK.out _ hbw3) (fun hHeldw3 => ?_)
  clear hK K
  refine wpAnyH_take (i := 5) (v := ?_) rfl (by kernel_rfl) (by kernel_rfl) (by kernel_rfl) (fun _ _ _ h => h) (Or.inl ⟨by rfl, ?_⟩) (by assumption) ?_
  rotate_left
  · intro w hSw; (try dsimp only at hSw); go_simp; try with_reducible rfl
  simp only [Act.put, List.getElem_toArray, List.getElem_cons_succ, List.getElem_cons_zero, List.setIfInBounds_toArray, List.set_cons_zero, List.set_cons_succ]
  refine wpAnyH_take (i := 8) (v := ?_) rfl (by kernel_rfl) (by kernel_rfl) (by kernel_rfl) (fun _ _ _ h => h) (Or.inl ⟨by rfl, ?_⟩) (by assumption) ?_
  rotate_left
  · intro w hSw; (try dsimp only at hSw); go_simp; try with_reducible rfl
  simp only [Act.put, List.getElem_toArray, List.getElem_cons_succ, List.getElem_cons_zero, List.setIfInBounds_toArray, List.set_cons_zero, List.set_cons_succ]
  refine wpAnyH_take (i := 9) (v := ?_) rfl (by kernel_rfl) (by kernel_rfl) (by kernel_rfl) (fun _ _ _ h => h) (Or.inl ⟨by rfl, ?_⟩) (by assumption) ?_
  rotate_left
  · intro w hSw; (try dsimp only at hSw); go_simp; try with_reducible rfl
  simp only [Act.put, List.getElem_toArray, List.getElem_cons_succ, List.getElem_cons_zero, List.setIfInBounds_toArray, List.set_cons_zero, List.set_cons_succ]
  refine wpAnyH_done (by kernel_rfl) ?_ _

  have HB3 := Lib.hid hbw3
  clear x0 x1 x2 y0 y1 zx zy hHeld hHeldw3 hbw3 HK HBG v1 v2 v3
  have HG3 := Lib.hid (HG2.out.below HB3.out)
  have HS3 := Lib.hid (HS2.out.below HB3.out)
  go_upto_region 8 with fail
  go_loopw [9, 10] (fun s9 s10 wr => ∃ (k : Nat) (v9 : Value), s9 = v9 ∧ s10 = .int .i64 (a + 619315200 * (k : Int)) ∧ Hid (∀ i : Nat, i < k → a + 619315200 * (i : Int) < T) ∧ Hid (OL w3 wr v9 (gpsL a k))) (fun _ s _ => (T - intOf s).toNat)
  case atStart => exact ⟨0, _, rfl, by simp, Lib.hid (fun i hi => absurd hi (Nat.not_lt_zero _)), Lib.hid (OL.nil (Below.refl _ _))⟩
  case round =>
    obtain ⟨k, v9, rfl, rfl, HLT, HO⟩ := hrel
    have hkb : k ≤ 1000 := by
      rcases Nat.eq_zero_or_pos k with h | h
      · omega
      · have := HLT.out (k - 1) (by omega); omega
    obtain ⟨x0, x1, x2⟩ := (HG3.out.below HO.out.bel).t
    have zx := cell_lt x0
    have HTT := Lib.hid (HTL.out wr (HS3.out.below HO.out.bel))
    have HLN := Lib.hid (gpsL_len a k)
    by_cases hlt : a + 619315200 * (k : Int) < T
    · have HNX := Lib.hid (show ∀ i : Nat, i < k + 1 → a + 619315200 * (i : Int) < T from fun i hi => by
        by_cases e : i = k
        · subst e; exact hlt
        · exact HLT.out i (by omega))
      have HST : Hid (gpsL a (k + 1) = gpsL a k ++ [a + 619315200 * (k : Int)]) := Lib.hid rfl
      have HVK : Hid (a + 619315200 * (k : Int) + 619315200 = a + 619315200 * ((k + 1 : Nat) : Int)) := Lib.hid (by omega)
      obtain ⟨x, hx⟩ : ∃ x, a + 619315200 * (k : Int) = x := ⟨_, rfl⟩
      rw [hx] at hlt HST HVK ⊢
      have hxb : -1000 ≤ x := by omega
      have vk : IntKind.i64.wrap (x + 619315200) = x + 619315200 := IntWalk.i64_in _ (by omega)
      have HKB := Lib.hid hkb
      clear hx
      generalize gpsL a k = gl at *
      go_wp2_with (first | (go_at_call 99; refine HTT.out.mono ?_; rintro e w4 ⟨rfl, hb4⟩; have HO4 := Lib.hid (HO.out.below hb4); clear hb4) |
        (at_builtin; refine wpList_append_own_at _ rfl _ _ _ rfl w3.heap.size 3 i0 (.int .i64 0) 1 8 Tryz.underlying30 hi0 hz0 hz1 hz2 rfl (by decide) _ gl.length _ rfl (HO4.out.own.alloc _) ⟨w4.heap.size, 0, none⟩ 1 1 [.int .i64 x] rfl rfl (cell_one_new _ _ _) (by simp [Value.oneCell']) (by have := HLN.out; have := HKB.out; unfold maxLen; omega) (by have := HLN.out; have := HKB.out; omega) (by have := HO4.out.bel.size; simp; omega) ?_; intro v9' w9 hown hg _ _; have HO9 := Lib.hid (HO4.out.more hown hg); clear hown hg))
      go_roundw
      case rel => exact ⟨k + 1, _, rfl, by rw [HVK.out], HNX, Lib.hid (by rw [HST.out]; exact HO9.out)⟩
      case measure => simp [intOf]; omega
    · have hkK := HKK.out.uniq (k := k) HLT.out hlt
      subst hkK
      obtain ⟨q, cq, rfl, hlc, hfn⟩ := HO.out.fn
      rw [HLN.out] at hlc hfn ⊢
      by_cases hz : k = 0
      · subst hz
        have HBO := Lib.hid (bt HG3.out.bel HO.out.bel)
        clear hlc hfn HO HLT HLN
        go_wp2_with (go_at_call 99; refine HTT.out.mono ?_; rintro e w4 ⟨rfl, hb4⟩; have HB4 := Lib.hid hb4; clear hb4)
        go_ret2
        exact ⟨rfl, bt HBO.out HB4.out⟩
      · have hkt : ((k : Int) == 0) = false := by simp; omega
        have hnn := (HG3.out.below HO.out.bel).n
        have hmn := Lib.hid (show minF near (atL (gpsL a k)) (k - 1) = gpsV near a k by unfold gpsV; rw [if_neg hz]; exact minF_congr _ (fun i hi => gpsL_at a k i (by omega)))
        have hen := Lib.hid (show (0 : Int) = gpsE k by unfold gpsE; rw [if_neg hz])
        have HMF := Lib.hid (fun X (hX : Below wr.heap.size wr X) => minFunc_any (atL (gpsL a k)) near k cq (w.heap.size + 1 + 1) q X (by omega) (by omega) (hfn.below hX) (cell_below hX hnn) (fun i hi => by rw [gpsL_at a k i hi]; have := HLT.out i hi; unfold gpsF at this; omega) (by omega))
        rw [hmn.out] at HMF
        have HBO := Lib.hid (bt HG3.out.bel HO.out.bel)
        clear hlc hfn hnn HO HLT HLN
        obtain ⟨vv, hvv⟩ : ∃ vv, gpsV near a k = vv := ⟨_, rfl⟩
        rw [hvv] at HMF
        have HVV := Lib.hid hvv
        clear hvv hmn
        go_wp2_with (first | (go_at_call 99; refine HTT.out.mono ?_; rintro e w4 ⟨rfl, hb4⟩; have HB4 := Lib.hid hb4; clear hb4) | (go_at_call 114; refine (HMF.out _ HB4.out).mono ?_; rintro e w5 ⟨rfl, hb5⟩; have HB5 := Lib.hid hb5; clear hb5))
        go_ret2
        exact ⟨by rw [← hen.out, HVV.out]; rfl, bt (bt HBO.out HB4.out) HB5.out⟩
set_option maxHeartbeats 2000000 in
theorem FromGps_tab {b u : Int} {n : Nat} {f : Nat → Int × Int} (G S near : Int) (ht : tabE b u n f ≠ 0) (c : Nat) (p : Option Addr) (w : World) (hw : Mon w) (hs : LpIn w f n p) (hn : n ≤ 1000) :
    Calls Tryz.prog 57 #[.agg #[.int .i64 b, .slice p n c, .int .i64 u], .agg #[.int .i64 G, .int .i64 S], .int .i64 near] w fun e w' => e = .returned (.tuple #[.int .i64 0, .int .i64 (tabE b u n f)]) ∧ Below w.heap.size w w' := by
  have HGB := Lib.hid (gpsb_new w b u n c p G S near)
  have HCK := Lib.hid (Check_any b u n c p f _ (hw.below HGB.out.bel) (hs.below HGB.out.bel) (by omega))
  obtain ⟨er, her⟩ : ∃ er, tabE b u n f = er := ⟨_, rfl⟩
  rw [her] at ht HCK ⊢
  have hne : (er == 0) = false := by simpa using ht
  clear hs hw her
  go_enter Tryz.func57, Tryz.ntmps57
  go_upto_region 1 with fail
  generalize ((w.alloc (.cells #[.int .i64 b, .slice p n c, .int .i64 u] 24)).alloc (.cells #[.int .i64 G, .int .i64 S] 44)).alloc (.cells #[.int .i64 near] 3) = W1 at *
  obtain ⟨x0, x1, x2⟩ := HGB.out.t
  have zx := cell_lt x0
  go_wp2_with (go_at_call 33; refine HCK.out.mono ?_; rintro e W2 ⟨rfl, hb2⟩; have HB2 := Lib.hid hb2; clear hb2)
  go_ret2
  exact ⟨rfl, bt HGB.out.bel HB2.out⟩
set_option maxHeartbeats 2000000 in
theorem FromGps_r1 {b u : Int} {n : Nat} {f : Nat → Int × Int} (G S near : Int) (ht : tabE b u n f = 0) (h1 : ¬ (0 ≤ G ∧ G ≤ 1023)) (c : Nat) (p : Option Addr) (w : World) (hw : Mon w) (hs : LpIn w f n p) (hn : n ≤ 1000) :
    Calls Tryz.prog 57 #[.agg #[.int .i64 b, .slice p n c, .int .i64 u], .agg #[.int .i64 G, .int .i64 S], .int .i64 near] w fun e w' => e = .returned (.tuple #[.int .i64 0, .int .i64 (6)]) ∧ Below w.heap.size w w' := by
  have HGB := Lib.hid (gpsb_new w b u n c p G S near)
  have HCK := Lib.hid (Check_any b u n c p f _ (hw.below HGB.out.bel) (hs.below HGB.out.bel) (by omega))
  rw [ht] at HCK
  have HC1 := Lib.hid (show (decide (0 ≤ G) && decide (G ≤ 1024 - 1)) = false by simp; omega)
  clear hs hw ht h1
  go_enter Tryz.func57, Tryz.ntmps57
  go_upto_region 1 with fail
  generalize ((w.alloc (.cells #[.int .i64 b, .slice p n c, .int .i64 u] 24)).alloc (.cells #[.int .i64 G, .int .i64 S] 44)).alloc (.cells #[.int .i64 near] 3) = W1 at *
  obtain ⟨x0, x1, x2⟩ := HGB.out.t
  have zx := cell_lt x0
  go_upto_region 2 with (go_at_call 33; refine HCK.out.mono ?_; rintro e W2 ⟨rfl, hb2⟩; have HB2 := Lib.hid hb2; clear hb2)
  clear x0 x1 x2 zx
  have HG2 := Lib.hid (HGB.out.below HB2.out)
  obtain ⟨y0, y1⟩ := HG2.out.g
  have y2 := HG2.out.n
  have zy := cell_lt y0
  have zn := cell_lt y2
  go_wp2_with (first | (go_at_call 111; refine (index_any _ _ _ (by omega)).mono ?_; rintro e w' ⟨rfl, rfl⟩; first | rw [HC1.out]) | (go_at_call 67; refine (within_any _ _ _ _).mono ?_; rintro e w' ⟨rfl, rfl⟩; first | rw [HC1.out]))
  go_ret2
  exact ⟨rfl, HG2.out.bel⟩
set_option maxHeartbeats 2000000 in
theorem FromGps_r2 {b u : Int} {n : Nat} {f : Nat → Int × Int} (G S near : Int) (ht : tabE b u n f = 0) (h1 : 0 ≤ G ∧ G ≤ 1023) (h2 : ¬ (0 ≤ S ∧ S ≤ 604799)) (c : Nat) (p : Option Addr) (w : World) (hw : Mon w) (hs : LpIn w f n p) (hn : n ≤ 1000) :
    Calls Tryz.prog 57 #[.agg #[.int .i64 b, .slice p n c, .int .i64 u], .agg #[.int .i64 G, .int .i64 S], .int .i64 near] w fun e w' => e = .returned (.tuple #[.int .i64 0, .int .i64 (6)]) ∧ Below w.heap.size w w' := by
  have HGB := Lib.hid (gpsb_new w b u n c p G S near)
  have HCK := Lib.hid (Check_any b u n c p f _ (hw.below HGB.out.bel) (hs.below HGB.out.bel) (by omega))
  rw [ht] at HCK
  have HC1 := Lib.hid (show (decide (0 ≤ G) && decide (G ≤ 1024 - 1)) = true by simp; omega)
  have HC2 := Lib.hid (show (decide (0 ≤ S) && decide (S ≤ 604800 - 1)) = false by simp; omega)
  clear hs hw ht h1 h2
  go_enter Tryz.func57, Tryz.ntmps57
  go_upto_region 1 with fail
  generalize ((w.alloc (.cells #[.int .i64 b, .slice p n c, .int .i64 u] 24)).alloc (.cells #[.int .i64 G, .int .i64 S] 44)).alloc (.cells #[.int .i64 near] 3) = W1 at *
  obtain ⟨x0, x1, x2⟩ := HGB.out.t
  have zx := cell_lt x0
  go_upto_region 2 with (go_at_call 33; refine HCK.out.mono ?_; rintro e W2 ⟨rfl, hb2⟩; have HB2 := Lib.hid hb2; clear hb2)
  clear x0 x1 x2 zx
  have HG2 := Lib.hid (HGB.out.below HB2.out)
  obtain ⟨y0, y1⟩ := HG2.out.g
  have y2 := HG2.out.n
  have zy := cell_lt y0
  have zn := cell_lt y2
  go_wp2_with (first | (go_at_call 111; refine (index_any _ _ _ (by omega)).mono ?_; rintro e w' ⟨rfl, rfl⟩; first | rw [HC1.out] | rw [HC2.out]) | (go_at_call 67; refine (within_any _ _ _ _).mono ?_; rintro e w' ⟨rfl, rfl⟩; first | rw [HC1.out] | rw [HC2.out]))
  go_ret2
  exact ⟨rfl, HG2.out.bel⟩
set_option maxHeartbeats 2000000 in
theorem FromGps_r3 {b u : Int} {n : Nat} {f : Nat → Int × Int} (G S near : Int) (ht : tabE b u n f = 0) (h1 : 0 ≤ G ∧ G ≤ 1023) (h2 : 0 ≤ S ∧ S ≤ 604799) (h3 : ¬ (-1000000000000 ≤ near ∧ near ≤ 1000000000000)) (c : Nat) (p : Option Addr) (w : World) (hw : Mon w) (hs : LpIn w f n p) (hn : n ≤ 1000) :
    Calls Tryz.prog 57 #[.agg #[.int .i64 b, .slice p n c, .int .i64 u], .agg #[.int .i64 G, .int .i64 S], .int .i64 near] w fun e w' => e = .returned (.tuple #[.int .i64 0, .int .i64 (6)]) ∧ Below w.heap.size w w' := by
  have HGB := Lib.hid (gpsb_new w b u n c p G S near)
  have HCK := Lib.hid (Check_any b u n c p f _ (hw.below HGB.out.bel) (hs.below HGB.out.bel) (by omega))
  rw [ht] at HCK
  have HC1 := Lib.hid (show (decide (0 ≤ G) && decide (G ≤ 1024 - 1)) = true by simp; omega)
  have HC2 := Lib.hid (show (decide (0 ≤ S) && decide (S ≤ 604800 - 1)) = true by simp; omega)
  have HC3 := Lib.hid (show (decide (-1000000000000 ≤ near) && decide (near ≤ 1000000000000)) = false by simp; omega)
  clear hs hw ht h1 h2 h3
  go_enter Tryz.func57, Tryz.ntmps57
  go_upto_region 1 with fail
  generalize ((w.alloc (.cells #[.int .i64 b, .slice p n c, .int .i64 u] 24)).alloc (.cells #[.int .i64 G, .int .i64 S] 44)).alloc (.cells #[.int .i64 near] 3) = W1 at *
  obtain ⟨x0, x1, x2⟩ := HGB.out.t
  have zx := cell_lt x0
  go_upto_region 2 with (go_at_call 33; refine HCK.out.mono ?_; rintro e W2 ⟨rfl, hb2⟩; have HB2 := Lib.hid hb2; clear hb2)
  clear x0 x1 x2 zx
  have HG2 := Lib.hid (HGB.out.below HB2.out)
  obtain ⟨y0, y1⟩ := HG2.out.g
  have y2 := HG2.out.n
  have zy := cell_lt y0
  have zn := cell_lt y2
  go_wp2_with (first | (go_at_call 111; refine (index_any _ _ _ (by omega)).mono ?_; rintro e w' ⟨rfl, rfl⟩; first | rw [HC1.out] | rw [HC2.out] | rw [HC3.out]) | (go_at_call 67; refine (within_any _ _ _ _).mono ?_; rintro e w' ⟨rfl, rfl⟩; first | rw [HC1.out] | rw [HC2.out] | rw [HC3.out]))
  go_ret2
  exact ⟨rfl, HG2.out.bel⟩
end Go.Proofs.YtgnfaemnehmgcaaGreatDoor.Cal
