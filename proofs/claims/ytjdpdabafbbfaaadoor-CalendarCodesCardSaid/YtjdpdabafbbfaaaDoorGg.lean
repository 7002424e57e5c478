/- Layer 9 (calendar): FromNtp, FromGps. (by gen_gg.py) -/
import Derived.Test.YtjdpdabafbbfaaaDoorGf
namespace Go.Proofs.YtjdpdabafbbfaaaDoor.Cal
open Go Go.RowKit
attribute [local go_sem] Oper.semAt_some
theorem two_cells (w : World) (x y : Value) (t : TypeId) : (w.alloc (.cells #[x, y] t)).cell? ⟨w.heap.size, 0, none⟩ = some x ∧ (w.alloc (.cells #[x, y] t)).cell? ⟨w.heap.size, 1, none⟩ = some y := by constructor <;> simp
set_option maxHeartbeats 2000000 in
theorem FromNtp_ok {b u : Int} {n : Nat} {f : Nat → Int × Int} (ht : tabE b u n f = 0) (E S U : Int) (hE : 0 ≤ E ∧ E ≤ 1000) (hS : 0 ≤ S ∧ S ≤ 4294967295) (hU : E * 4294967296 + S - 2208988800 = U) (c : Nat) (p : Option Addr) (w : World) (hw : Mon w) (hs : LpIn w f n p) (hc : n ≤ c) (hcm : c ≤ maxLen) (hne : 1 ≤ (foundL u f n (58445280 + U / 60) (U % 60) 2).length) :
    Calls Tryd.prog 14 #[.agg #[.int .i64 b, .slice p n c, .int .i64 u], .agg #[.int .i64 E, .int .i64 S]] w fun e w' => ∃ q cq, e = .returned (.tuple #[.slice q (foundL u f n (58445280 + U / 60) (U % 60) 2).length cq, .int .i64 0]) ∧ FnIn w' (atL (foundL u f n (58445280 + U / 60) (U % 60) 2)) (foundL u f n (58445280 + U / 60) (U % 60) 2).length q ∧ Below w.heap.size w w' := by
  have B1 := below_alloc (Below.refl w.heap.size w) (.cells #[.int .i64 b, .slice p n c, .int .i64 u] 24)
  have A0 := below_alloc B1 (.cells #[.int .i64 E, .int .i64 S] 26)
  have HX := Lib.hid ((TBox.new w b u n c p 24).below (below_alloc (Below.refl _ _) (.cells #[.int .i64 E, .int .i64 S] 26)))
  have e1 : (w.alloc (.cells #[.int .i64 b, .slice p n c, .int .i64 u] 24)).heap.size = w.heap.size + 1 := by simp
  have hN := two_cells (w.alloc (.cells #[.int .i64 b, .slice p n c, .int .i64 u] 24)) (.int .i64 E) (.int .i64 S) 26
  rw [e1] at hN
  have HN := Lib.hid hN
  have HTO := Lib.hid (tab_ok ht)
  have HCK := Lib.hid (Check_any b u n c p f _ (hw.below A0) (hs.below A0) (by have := HTO.out.n1; omega))
  rw [ht] at HCK
  have HW := Lib.hid (hw.below A0)
  have HS := Lib.hid (hs.below A0)
  have A0 := Lib.hid A0
  have v1 : IntKind.i64.wrap (E * 4294967296) = E * 4294967296 := IntWalk.i64_in _ (by omega)
  have v2 : IntKind.i64.wrap (E * 4294967296 + S) = E * 4294967296 + S := IntWalk.i64_in _ (by omega)
  have v3 : IntKind.i64.wrap (E * 4294967296 + S - 2208988800) = U := by rw [IntWalk.i64_in _ (by omega)]; exact hU
  have HUB := Lib.hid (show -10000000000000 ≤ U ∧ U ≤ 10000000000000 by omega)
  have HUN := Lib.hid (fun X (hX : Mon X) (hL : LpIn X f n p) => FromUnix_ok ht U HUB.out c p X hX hL hc hcm hne)
  have HIX := Lib.hid (fun X => index_any S 4294967296 X (by omega))
  rw [show (decide (0 ≤ S) && decide (S ≤ 4294967296 - 1)) = true by simp; omega] at HIX
  have HWI := Lib.hid (fun X => within_any E 0 1000 X)
  rw [show (decide (0 ≤ E) && decide (E ≤ 1000)) = true by simp; omega] at HWI
  generalize foundL u f n (58445280 + U / 60) (U % 60) 2 = FL at *
  clear hw hs ht hE hS hU hne B1 e1 hN
  go_enter Tryd.func14, Tryd.ntmps14
  go_upto_region 1 with fail
  generalize (w.alloc (.cells #[.int .i64 b, .slice p n c, .int .i64 u] 24)).alloc (.cells #[.int .i64 E, .int .i64 S] 26) = W1 at *
  obtain ⟨x0, x1, x2⟩ := HX.out
  have zx := cell_lt x0
  go_upto_region 2 with (go_at_call 41; refine HCK.out.mono ?_; rintro e w2 ⟨rfl, hb2⟩; have HB2 := Lib.hid hb2; clear hb2)
  clear x0 x1 x2 zx
  obtain ⟨y0, y1⟩ := HN.out
  have y0 := cell_below HB2.out y0
  have y1 := cell_below HB2.out y1
  have zy := cell_lt y0
  go_upto_region 6 with (first | (go_at_call 42; refine (HIX.out _).mono ?_; rintro e w' ⟨rfl, rfl⟩) | (go_at_call 43; refine (HWI.out _).mono ?_; rintro e w' ⟨rfl, rfl⟩))
  obtain ⟨x0, x1, x2⟩ := HX.out.below HB2.out
  have zx := cell_lt x0
  go_wp2_with (go_at_call 9; refine (HUN.out _ (HW.out.below HB2.out) (HS.out.below HB2.out)).mono ?_; rintro e w3 ⟨q, cq, rfl, hf, hb3⟩; have HF := Lib.hid hf; have HB3 := Lib.hid hb3; clear hf hb3)
  go_ret2
  exact ⟨q, cq, rfl, HF.out, bt (bt A0.out HB2.out) HB3.out⟩
/-- the seconds with one GPS time, from the first one on -/
def gpsL (a : Int) : Nat → List Int
  | 0 => []
  | k + 1 => gpsL a k ++ [a + 619315200 * k]
theorem gpsL_len (a : Int) : ∀ k, (gpsL a k).length = k
  | 0 => rfl
  | k + 1 => by rw [gpsL, List.length_append, gpsL_len a k]; rfl
theorem gpsL_at (a : Int) : ∀ k i, i < k → atL (gpsL a k) i = a + 619315200 * i := by
  intro k
  induction k with
  | zero => intro i h; omega
  | succ k ih =>
    intro i hi
    have hl := gpsL_len a k
    unfold atL
    rw [gpsL]
    by_cases e : i = k
    · subst e
      rw [List.getElem?_append_right (by omega), hl]
      simp
    · have := ih i (by omega)
      unfold atL at this
      rw [List.getElem?_append_left (by omega)]
      exact this
theorem dist_far {near s a : Int} {i j : Nat} (h : s = a + 619315200 * (j : Int)) (hd : -300000000 ≤ near - s ∧ near - s ≤ 300000000) (hij : i ≠ j) : distI near s < distI near (a + 619315200 * (i : Int)) := by
  have h1 : distI near s ≤ 300000000 := by unfold distI; split <;> omega
  have h2 : 300000000 < distI near (a + 619315200 * (i : Int)) := by
    rcases Nat.lt_or_gt_of_ne hij with g | g
    · unfold distI; split <;> omega
    · unfold distI; split <;> omega
  omega
theorem minF_near {near s a : Int} {f : Nat → Int} {j K : Nat} (h : s = a + 619315200 * (j : Int)) (hd : -300000000 ≤ near - s ∧ near - s ≤ 300000000) (hf : ∀ i, i < K → f i = a + 619315200 * (i : Int)) :
    ∀ k, k < K → (j ≤ k → minF near f k = s) ∧ (k < j → ∃ i, i < j ∧ minF near f k = a + 619315200 * (i : Int)) := by
  intro k
  induction k with
  | zero =>
    intro hk
    have h0 := hf 0 hk
    constructor
    · intro hj
      obtain rfl : j = 0 := by omega
      rw [minF, h0, h]
    · intro hj
      exact ⟨0, hj, by rw [minF, h0]⟩
  | succ k ih =>
    intro hk
    obtain ⟨h1, h2⟩ := ih (by omega)
    have hn := hf (k + 1) hk
    rw [minF, hn]
    constructor
    · intro hj
      by_cases e : k + 1 = j
      · obtain ⟨i, hi, hm⟩ := h2 (by omega)
        have := dist_far (i := i) h hd (by omega)
        rw [hm, e, ← h, if_pos this]
      · rw [h1 (by omega)]
        have := dist_far (i := k + 1) h hd e
        rw [if_neg (by omega)]
    · intro hj
      obtain ⟨i, hi, hm⟩ := h2 (by omega)
      rw [hm]
      split
      · exact ⟨k + 1, hj, rfl⟩
      · exact ⟨i, hi, rfl⟩
/-- what FromGps keeps in memory -/
structure GpsB (w X : World) (b u : Int) (n c : Nat) (p : Option Addr) (G S near : Int) : Prop where
  t : TBox X w.heap.size b u n c p
  g : X.cell? ⟨w.heap.size + 1, 0, none⟩ = some (.int .i64 G) ∧ X.cell? ⟨w.heap.size + 1, 1, none⟩ = some (.int .i64 S)
  n : X.cell? ⟨w.heap.size + 1 + 1, 0, none⟩ = some (.int .i64 near)
  bel : Below w.heap.size w X
theorem GpsB.below {w X Y : World} {b u : Int} {n c : Nat} {p : Option Addr} {G S near : Int} (h : GpsB w X b u n c p G S near) (hb : Below X.heap.size X Y) : GpsB w Y b u n c p G S near :=
  ⟨h.t.below hb, ⟨cell_below hb h.g.1, cell_below hb h.g.2⟩, cell_below hb h.n, bt h.bel hb⟩
theorem gpsb_new (w : World) (b u : Int) (n c : Nat) (p : Option Addr) (G S near : Int) : GpsB w (((w.alloc (.cells #[.int .i64 b, .slice p n c, .int .i64 u] 24)).alloc (.cells #[.int .i64 G, .int .i64 S] 28)).alloc (.cells #[.int .i64 near] 3)) b u n c p G S near := by
  have b1 := below_alloc (Below.refl w.heap.size w) (.cells #[.int .i64 b, .slice p n c, .int .i64 u] 24)
  have h1 := TBox.new w b u n c p 24
  have e1 : (w.alloc (.cells #[.int .i64 b, .slice p n c, .int .i64 u] 24)).heap.size = w.heap.size + 1 := by simp
  generalize w.alloc (.cells #[.int .i64 b, .slice p n c, .int .i64 u] 24) = W1 at *
  have b2 := below_alloc (Below.refl W1.heap.size W1) (.cells #[.int .i64 G, .int .i64 S] 28)
  have h2 := two_cells W1 (.int .i64 G) (.int .i64 S) 28
  have e2 : (W1.alloc (.cells #[.int .i64 G, .int .i64 S] 28)).heap.size = w.heap.size + 1 + 1 := by simp [e1]
  rw [e1] at h2
  have h1' := h1.below b2
  have b2' := bt b1 b2
  generalize W1.alloc (.cells #[.int .i64 G, .int .i64 S] 28) = W2 at *
  have b3 := below_alloc (Below.refl W2.heap.size W2) (.cells #[.int .i64 near] 3)
  have h3 : (W2.alloc (.cells #[.int .i64 near] 3)).cell? ⟨W2.heap.size, 0, none⟩ = some (.int .i64 near) := by simp
  rw [e2] at h3
  exact ⟨h1'.below b3, ⟨cell_below b3 h2.1, cell_below b3 h2.2⟩, h3, bt b2' b3⟩
set_option maxRecDepth 100000 in
set_option maxHeartbeats 4000000 in
theorem FromGps_ok {b u : Int} {n : Nat} {f : Nat → Int × Int} (ht : tabE b u n f = 0) (G S near s : Int) (j : Nat) (hG : 0 ≤ G ∧ G ≤ 1023) (hS : 0 ≤ S ∧ S ≤ 604799) (hnb : -1000000000000 ≤ near ∧ near ≤ 1000000000000)
    (hs1 : s = beginS f n 44244 + 604800 * G + S + 619315200 * (j : Int)) (hs2 : s < beginS f n u) (hd : -300000000 ≤ near - s ∧ near - s ≤ 300000000) (c : Nat) (p : Option Addr) (w : World) (hw : Mon w) (hs : LpIn w f n p) (hc : n ≤ c) (hcm : c ≤ maxLen) :
    Calls Tryd.prog 18 #[.agg #[.int .i64 b, .slice p n c, .int .i64 u], .agg #[.int .i64 G, .int .i64 S], .int .i64 near] w fun e w' => e = .returned (.tuple #[.int .i64 s, .int .i64 0]) ∧ Below w.heap.size w w' := by
  obtain ⟨i0, hi0, hz0, hz1, hz2⟩ := info_parts infoInt
  have HGB := Lib.hid (gpsb_new w b u n c p G S near)
  have HTO := Lib.hid (tab_ok ht)
  have HCK := Lib.hid (Check_any b u n c p f _ (hw.below HGB.out.bel) (hs.below HGB.out.bel) (by have := HTO.out.n1; omega))
  rw [ht] at HCK
  have HBG0 := Lib.hid (fun X (hL : LpIn X f n p) => begin_any HTO.out 44244 c p X hL hc hcm (by decide))
  have HTL := Lib.hid (fun X (hL : LpIn X f n p) => total_any HTO.out c p X hL hc hcm)
  have HS := Lib.hid (hs.below HGB.out.bel)
  have htb := HTO.out.total_bd
  have hg := HTO.out.grow_bd 44244
  have hv : -1000 ≤ beginS f n 44244 ∧ beginS f n 44244 ≤ 1000000000 := by unfold beginS; omega
  generalize beginS f n 44244 = B at *
  generalize beginS f n u = T at *
  obtain ⟨a, ha⟩ : ∃ a, B + 604800 * G + S = a := ⟨_, rfl⟩
  rw [ha] at hs1
  have hab : -1000 ≤ a ∧ a ≤ 10000000000 := by omega
  have v1 : IntKind.i64.wrap (604800 * G) = 604800 * G := IntWalk.i64_in _ (by omega)
  have v2 : IntKind.i64.wrap (B + 604800 * G) = B + 604800 * G := IntWalk.i64_in _ (by omega)
  have v3 : IntKind.i64.wrap (B + 604800 * G + S) = a := by rw [ha]; exact IntWalk.i64_in _ (by omega)
  have HIX1 := Lib.hid (fun X => index_any G 1024 X (by omega))
  rw [show (decide (0 ≤ G) && decide (G ≤ 1024 - 1)) = true by simp; omega] at HIX1
  have HIX2 := Lib.hid (fun X => index_any S 604800 X (by omega))
  rw [show (decide (0 ≤ S) && decide (S ≤ 604800 - 1)) = true by simp; omega] at HIX2
  have HWI := Lib.hid (fun X => within_any near (-1000000000000) 1000000000000 X)
  rw [show (decide (-1000000000000 ≤ near) && decide (near ≤ 1000000000000)) = true by simp; omega] at HWI
  have HSJ := Lib.hid hs1
  clear hw hs ht hG hS hg hs1 ha
  go_enter Tryd.func18, Tryd.ntmps18
  go_upto_region 1 with fail
  generalize ((w.alloc (.cells #[.int .i64 b, .slice p n c, .int .i64 u] 24)).alloc (.cells #[.int .i64 G, .int .i64 S] 28)).alloc (.cells #[.int .i64 near] 3) = W1 at *
  obtain ⟨x0, x1, x2⟩ := HGB.out.t
  have zx := cell_lt x0
  go_upto_region 2 with (go_at_call 41; refine HCK.out.mono ?_; rintro e W2 ⟨rfl, hb2⟩; have HB2 := Lib.hid hb2; clear hb2)
  clear x0 x1 x2 zx
  have HG2 := Lib.hid (HGB.out.below HB2.out)
  have HS2 := Lib.hid (HS.out.below HB2.out)
  obtain ⟨y0, y1⟩ := HG2.out.g
  have y2 := HG2.out.n
  have zy := cell_lt y0
  have zn := cell_lt y2
  go_upto_region 7 with (first | (go_at_call 42; refine (HIX1.out _).mono ?_; rintro e w' ⟨rfl, rfl⟩) | (go_at_call 42; refine (HIX2.out _).mono ?_; rintro e w' ⟨rfl, rfl⟩) | (go_at_call 43; refine (HWI.out _).mono ?_; rintro e w' ⟨rfl, rfl⟩))
  have HBG := Lib.hid (fun X (hX : Below W2.heap.size W2 X) => Calls.bel hX (HBG0.out X (HS2.out.below hX)))
  obtain ⟨x0, x1, x2⟩ := HG2.out.t
  have zx := cell_lt x0
  have HK := Lib.hid (show ∀ X, Below W2.heap.size W2 X → (fun w' => Below W2.heap.size W2 w' ∧ w'.cell? ⟨w.heap.size, 0, none⟩ = some (.int .i64 b) ∧ w'.cell? ⟨w.heap.size, 1, none⟩ = some (.slice p n c) ∧ w'.cell? ⟨w.heap.size, 2, none⟩ = some (.int .i64 u) ∧ w'.cell? ⟨w.heap.size + 1, 0, none⟩ = some (.int .i64 G) ∧ w'.cell? ⟨w.heap.size + 1, 1, none⟩ = some (.int .i64 S)) X from fun X h => ⟨h, cell_below h x0, cell_below h x1, cell_below h x2, cell_below h y0, cell_below h y1⟩)
  clear y2 zn
  refine wp_region_held_drew (S := (fun w' => Below W2.heap.size W2 w' ∧ w'.cell? ⟨w.heap.size, 0, none⟩ = some (.int .i64 b) ∧ w'.cell? ⟨w.heap.size, 1, none⟩ = some (.slice p n c) ∧ w'.cell? ⟨w.heap.size, 2, none⟩ = some (.int .i64 u) ∧ w'.cell? ⟨w.heap.size + 1, 0, none⟩ = some (.int .i64 G) ∧ w'.cell? ⟨w.heap.size + 1, 1, none⟩ = some (.int .i64 S))) (by kernel_rfl) (HK.out _ (Below.drew (Below.refl _ _))) (fun hHeld => ?_)
  refine wpAnyH_take (i := 0) (v := ?_) rfl (by kernel_rfl) (by kernel_rfl) (by kernel_rfl) (fun _ _ _ h => h) (Or.inl ⟨by rfl, ?_⟩) (by assumption) ?_
  rotate_left
  · intro w hSw; (try dsimp only at hSw); go_simp; try with_reducible rfl
  simp only [Act.put, List.getElem_toArray, List.getElem_cons_zero, List.setIfInBounds_toArray, List.set_cons_zero, List.set_cons_succ]
  refine wpAnyH_take (i := 2) (v := ?_) rfl (by kernel_rfl) (by kernel_rfl) (by kernel_rfl) (fun _ _ _ h => h) (Or.inl ⟨by rfl, ?_⟩) (by assumption) ?_
  rotate_left
  · intro w hSw; (try dsimp only at hSw); go_simp; try with_reducible rfl
  simp only [Act.put, List.getElem_toArray, List.getElem_cons_succ, List.getElem_cons_zero, List.setIfInBounds_toArray, List.set_cons_zero, List.set_cons_succ]
  refine wpAnyH_take (i := 3) (v := ?_) rfl (by kernel_rfl) (by kernel_rfl) (by kernel_rfl) (fun _ _ _ h => h) (Or.inl ⟨by rfl, ?_⟩) (by assumption) ?_
  rotate_left
  · intro w hSw; (try dsimp only at hSw); go_simp; try with_reducible rfl
  simp only [Act.put, List.getElem_toArray, List.getElem_cons_succ, List.getElem_cons_zero, List.setIfInBounds_toArray, List.set_cons_zero, List.set_cons_succ]
  refine wpAnyH_take (i := 4) (v := ?_) rfl (by kernel_rfl) (by kernel_rfl) (by kernel_rfl) (fun _ _ _ h => h) (Or.inl ⟨by rfl, ?_⟩) (by assumption) ?_
  rotate_left
  · intro w hSw; (try dsimp only at hSw); go_simp; try with_reducible rfl
  simp only [Act.put, List.getElem_toArray, List.getElem_cons_succ, List.getElem_cons_zero, List.setIfInBounds_toArray, List.set_cons_zero, List.set_cons_succ]
  refine wpAnyH_take (i := 6) (v := ?_) rfl (by kernel_rfl) (by kernel_rfl) (by kernel_rfl) (fun _ _ _ h => h) (Or.inl ⟨by rfl, ?_⟩) (by assumption) ?_
  rotate_left
  · intro w hSw; (try dsimp only at hSw); go_simp; try with_reducible rfl
  simp only [Act.put, List.getElem_toArray, List.getElem_cons_succ, List.getElem_cons_zero, List.setIfInBounds_toArray, List.set_cons_zero, List.set_cons_succ]
  refine wpAnyH_take (i := 7) (v := ?_) rfl (by kernel_rfl) (by kernel_rfl) (by kernel_rfl) (fun _ _ _ h => h) (Or.inl ⟨by rfl, ?_⟩) (by assumption) ?_
  rotate_left
  · intro w hSw; (try dsimp only at hSw); go_simp; try with_reducible rfl
  simp only [Act.put, List.getElem_toArray, List.getElem_cons_succ, List.getElem_cons_zero, List.setIfInBounds_toArray, List.set_cons_zero, List.set_cons_succ]
  refine wpAnyH_ready (rs := [1]) (by kernel_rfl) (by simp) ?_
  refine AllReadyH.cons rfl (fun K hK => ?_) AllReadyH.nil
  go_simp
  go_at_call 47
  refine (HBG.out _ (Below.drew (Below.refl _ _))).mono ?_
  rintro e w3 ⟨rfl, hbw3⟩
  go_wp2_with fail
  refine hK.out _ _ (HK.out _ hbw3) (fun hHeldw3 => ?_)
  clear hK K
  refine wpAnyH_take (i := 5) (v := ?_) rfl (by kernel_rfl) (by kernel_rfl) (by kernel_rfl) (fun _ _ _ h => h) (Or.inl ⟨by rfl, ?_⟩) (by assumption) ?_
  rotate_left
  · intro w hSw; (try dsimp only at hSw); go_simp; try with_reducible rfl
  simp only [Act.put, List.getElem_toArray, List.getElem_cons_succ, List.getElem_cons_zero, List.setIfInBounds_toArray, List.set_cons_zero, List.set_cons_succ]
  refine wpAnyH_take (i := 8) (v := ?_) rfl (by kernel_rfl) (by kernel_rfl) (by kernel_rfl) (fun _ _ _ h => h) (Or.inl ⟨by rfl, ?_⟩) (by assumption) ?_
  rotate_left
  · intro w hSw; (try dsimp only at hSw); go_simp; try with_reducible rfl
  simp only [Act.put, List.getElem_toArray, List.getElem_cons_succ, List.getElem_cons_zero, List.setIfInBounds_toArray, List.set_cons_zero, List.set_cons_succ]
  refine wpAnyH_take (i := 9) (v := ?_) rfl (by kernel_rfl) (by kernel_rfl) (by kernel_rfl) (fun _ _ _ h => h) (Or.inl ⟨by rfl, ?_⟩) (by assumption) ?_
  rotate_left
  · intro w hSw; (try dsimp only at hSw); go_simp; try with_reducible rfl
  simp only [Act.put, List.getElem_toArray, List.getElem_cons_succ, List.getElem_cons_zero, List.setIfInBounds_toArray, List.set_cons_zero, List.set_cons_succ]
  refine wpAnyH_done (by kernel_rfl) ?_ _

  have HB3 := Lib.hid hbw3
  clear x0 x1 x2 y0 y1 zx zy hHeld hHeldw3 hbw3 HK HBG v1 v2 v3
  have HG3 := Lib.hid (HG2.out.below HB3.out)
  have HS3 := Lib.hid (HS2.out.below HB3.out)
  go_upto_region 8 with fail
  go_loopw [9, 10] (fun s9 s10 wr => ∃ (k : Nat) (v9 : Value), s9 = v9 ∧ s10 = .int .i64 (a + 619315200 * (k : Int)) ∧ Hid (∀ i : Nat, i < k → a + 619315200 * (i : Int) < T) ∧ Hid (OL w3 wr v9 (gpsL a k))) (fun _ s _ => (T - intOf s).toNat)
  case atStart => exact ⟨0, _, rfl, by simp, Lib.hid (fun i hi => absurd hi (Nat.not_lt_zero _)), Lib.hid (OL.nil (Below.refl _ _))⟩
  case round =>
    obtain ⟨k, v9, rfl, rfl, HLT, HO⟩ := hrel
    have hkb : k ≤ 1000 := by
      rcases Nat.eq_zero_or_pos k with h | h
      · omega
      · have := HLT.out (k - 1) (by omega); omega
    obtain ⟨x0, x1, x2⟩ := (HG3.out.below HO.out.bel).t
    have zx := cell_lt x0
    have HTT := Lib.hid (HTL.out wr (HS3.out.below HO.out.bel))
    have HLN := Lib.hid (gpsL_len a k)
    by_cases hlt : a + 619315200 * (k : Int) < T
    · have HNX := Lib.hid (show ∀ i : Nat, i < k + 1 → a + 619315200 * (i : Int) < T from fun i hi => by
        by_cases e : i = k
        · subst e; exact hlt
        · exact HLT.out i (by omega))
      have HST : Hid (gpsL a (k + 1) = gpsL a k ++ [a + 619315200 * (k : Int)]) := Lib.hid rfl
      have HVK : Hid (a + 619315200 * (k : Int) + 619315200 = a + 619315200 * ((k + 1 : Nat) : Int)) := Lib.hid (by omega)
      obtain ⟨x, hx⟩ : ∃ x, a + 619315200 * (k : Int) = x := ⟨_, rfl⟩
      rw [hx] at hlt HST HVK ⊢
      have hxb : -1000 ≤ x := by omega
      have vk : IntKind.i64.wrap (x + 619315200) = x + 619315200 := IntWalk.i64_in _ (by omega)
      have HKB := Lib.hid hkb
      clear hx
      generalize gpsL a k = gl at *
      go_wp2_with (first | (go_at_call 48; refine HTT.out.mono ?_; rintro e w4 ⟨rfl, hb4⟩; have HO4 := Lib.hid (HO.out.below hb4); clear hb4) |
        (at_builtin; refine wpList_append_own_at _ rfl _ _ _ rfl w3.heap.size 3 i0 (.int .i64 0) 1 8 Tryd.underlying40 hi0 hz0 hz1 hz2 rfl (by decide) _ gl.length _ rfl (HO4.out.own.alloc _) ⟨w4.heap.size, 0, none⟩ 1 1 [.int .i64 x] rfl rfl (cell_one_new _ _ _) (by simp [Value.oneCell']) (by have := HLN.out; have := HKB.out; unfold maxLen; omega) (by have := HLN.out; have := HKB.out; omega) (by have := HO4.out.bel.size; simp; omega) ?_; intro v9' w9 hown hg _ _; have HO9 := Lib.hid (HO4.out.more hown hg); clear hown hg))
      go_roundw
      case rel => exact ⟨k + 1, _, rfl, by rw [HVK.out], HNX, Lib.hid (by rw [HST.out]; exact HO9.out)⟩
      case measure => simp [intOf]; omega
    · have hjk : j < k := by
        by_cases h : j < k
        · exact h
        · have hm : a + 619315200 * (k : Int) ≤ s := by rw [HSJ.out]; omega
          omega
      obtain ⟨q, cq, rfl, hlc, hfn⟩ := HO.out.fn
      have hmn := (minF_near (K := k) HSJ.out hd (fun i hi => gpsL_at a k i hi) (k - 1) (by omega)).1 (by omega)
      rw [HLN.out] at hlc hfn ⊢
      have hkt : ((k : Int) == 0) = false := by simp; omega
      have hnn := (HG3.out.below HO.out.bel).n
      have HMF := Lib.hid (fun X (hX : Below wr.heap.size wr X) => minFunc_any (atL (gpsL a k)) near k cq (w.heap.size + 1 + 1) q X (by omega) (by omega) (hfn.below hX) (cell_below hX hnn) (fun i hi => by rw [gpsL_at a k i hi]; have := HLT.out i hi; omega) (by omega))
      rw [hmn] at HMF
      have HBO := Lib.hid (bt HG3.out.bel HO.out.bel)
      clear hlc hfn hnn HSJ hmn HO HLT HLN hjk
      go_wp2_with (first | (go_at_call 48; refine HTT.out.mono ?_; rintro e w4 ⟨rfl, hb4⟩; have HB4 := Lib.hid hb4; clear hb4) | (go_at_call 49; refine (HMF.out _ HB4.out).mono ?_; rintro e w5 ⟨rfl, hb5⟩; have HB5 := Lib.hid hb5; clear hb5))
      go_ret2
      exact ⟨rfl, bt (bt HBO.out HB4.out) HB5.out⟩
end Go.Proofs.YtjdpdabafbbfaaaDoor.Cal
