/- Contract of the reference: the second that belongs to a moment. -/
import Derived.Test.YthegamfbigphkaaDoorRefN
namespace Go.Proofs.YthegamfbigphkaaDoor
open Go Go.RowKit
theorem running_keep (z : World) (c : Clk) (v : Value) (s : Int) (b : Bool) (X : World) (hb : Below z.heap.size z X) (hv : EvSlice z c.evs v) (he : evsOk c.evs = true) (hr : runsS c s = b) :
    Calls Tryd.prog 66 #[.agg #[.int .i64 c.kind, .int .i64 c.phase, .int .i64 c.rate, .int .i64 c.drift, .int .i64 c.white, .int .i64 c.walk, .int .i64 c.heat, .int .i64 c.room, v], .int .i64 s] X fun e Y => e = .returned (.bool b) ∧ Below z.heap.size z Y :=
  (running_any c.kind c.phase c.rate c.drift c.white c.walk c.heat c.room c.evs v s X (hv.below hb) he).mono fun _ _ ⟨x, y⟩ => ⟨by rw [x, ← hr]; rfl, hb.trans (y.mono hb.size)⟩
theorem rshown_keep (z : World) (W : Wld) (k s : Int) (p1 p2 : Option Addr) (c1 c2 : Nat) (X : World) (hb : Below z.heap.size z X) (hW : WldIn z W p1 p2) (al : Allowed W k) (h0 : 0 ≤ s) (h1 : s ≤ 1000000) :
    Calls Tryd.prog 71 #[.agg #[.int .u64 W.seed, .slice p1 W.chs.length c1, .slice p2 W.cls.length c2], .int .i64 k, .int .i64 s] X fun e Y => e = .returned (.int .i64 (shownS W.seed k (clkOf W k) (roomOf W k) s)) ∧ Below z.heap.size z Y :=
  (rshown_any W k s p1 p2 c1 c2 X (hW.below hb) al h0 h1).mono fun _ _ ⟨x, y⟩ => ⟨x, hb.trans (y.mono hb.size)⟩
theorem rAt_keep (z : World) (s n : Int) (X : World) (hb : Below z.heap.size z X) (hs : -10000000 ≤ s ∧ s ≤ 10000000) (hn : -1000000000000000 < n ∧ n < 1000000000000000) :
    Calls Tryd.prog 77 #[.int .i64 s, .int .i64 n] X fun e Y => e = .returned (.agg #[.int .i64 (readSec s n), .int .i64 (readFs n)]) ∧ Below z.heap.size z Y :=
  (rAt_any s n X hs hn).mono fun _ _ ⟨x, y⟩ => ⟨x, hb.trans (y.mono hb.size)⟩
theorem rLate_keep (z : World) (s n ms mf : Int) (b : Bool) (X : World) (hb : Below z.heap.size z X) (h : afterS (readSec s n) (readFs n) ms mf = b) :
    Calls Tryd.prog 80 #[.agg #[.int .i64 (readSec s n), .int .i64 (readFs n)], .agg #[.int .i64 ms, .int .i64 mf]] X fun e Y => e = .returned (.bool b) ∧ Below z.heap.size z Y :=
  (rAfter_any _ _ ms mf X).mono fun _ _ ⟨x, y⟩ => ⟨by rw [x, h], hb.trans (y.mono hb.size)⟩
/-- what is known at each round -/
structure BackIn (X : World) (b : Nat) (W : Wld) (p1 : Option Addr) (b2 o2 : Nat) (c1 c2 : Nat) (j : Nat) (c : Clk) (pv : Option Addr) (cv : Nat) (ms mf : Int) : Prop where
  w0 : X.cell? ⟨b, 0, none⟩ = some (.int .u64 W.seed)
  w1 : X.cell? ⟨b, 1, none⟩ = some (.slice p1 W.chs.length c1)
  w2 : X.cell? ⟨b, 2, none⟩ = some (.slice (some ⟨b2, o2, none⟩) W.cls.length c2)
  m0 : X.cell? ⟨b + 1, 0, none⟩ = some (.int .i64 ms)
  m1 : X.cell? ⟨b + 1, 1, none⟩ = some (.int .i64 mf)
  k0 : X.cell? ⟨b2, o2 + j * 9, none⟩ = some (.int .i64 c.kind)
  k1 : X.cell? ⟨b2, o2 + j * 9 + 1, none⟩ = some (.int .i64 c.phase)
  k2 : X.cell? ⟨b2, o2 + j * 9 + 2, none⟩ = some (.int .i64 c.rate)
  k3 : X.cell? ⟨b2, o2 + j * 9 + 3, none⟩ = some (.int .i64 c.drift)
  k4 : X.cell? ⟨b2, o2 + j * 9 + 4, none⟩ = some (.int .i64 c.white)
  k5 : X.cell? ⟨b2, o2 + j * 9 + 5, none⟩ = some (.int .i64 c.walk)
  k6 : X.cell? ⟨b2, o2 + j * 9 + 6, none⟩ = some (.int .i64 c.heat)
  k7 : X.cell? ⟨b2, o2 + j * 9 + 7, none⟩ = some (.int .i64 c.room)
  k8 : X.cell? ⟨b2, o2 + j * 9 + 8, none⟩ = some (.slice pv c.evs.length cv)
theorem BackIn.below {X Y : World} {b : Nat} {W : Wld} {p1 : Option Addr} {b2 o2 c1 c2 j : Nat} {c : Clk} {pv : Option Addr} {cv : Nat} {ms mf : Int} (h : BackIn X b W p1 b2 o2 c1 c2 j c pv cv ms mf) (hb : Below X.heap.size X Y) : BackIn Y b W p1 b2 o2 c1 c2 j c pv cv ms mf :=
  ⟨cell_below hb h.w0, cell_below hb h.w1, cell_below hb h.w2, cell_below hb h.m0, cell_below hb h.m1, cell_below hb h.k0, cell_below hb h.k1, cell_below hb h.k2, cell_below hb h.k3, cell_below hb h.k4, cell_below hb h.k5, cell_below hb h.k6, cell_below hb h.k7, cell_below hb h.k8⟩
set_option maxRecDepth 100000 in
set_option maxHeartbeats 4000000 in
theorem rBack_ok (W : Wld) (k ms mf : Int) (p1 p2 : Option Addr) (c1 c2 : Nat) (w : World) (hW : WldIn w W p1 p2) (hms : -9223372036854775808 ≤ ms ∧ ms ≤ 9223372036854775807) (he : findErr W k [] = 0) (hmf : 0 ≤ mf ∧ mf < 1000000000000000) :
    Calls Tryd.prog 34 #[.agg #[.int .u64 W.seed, .slice p1 W.chs.length c1, .slice p2 W.cls.length c2], .int .i64 k, .agg #[.int .i64 ms, .int .i64 mf]] w fun e w' => e = .returned (.tuple #[.int .i64 (backS W.seed k (clkOf W k) (roomOf W k) ms mf).v, .int .i64 (backS W.seed k (clkOf W k) (roomOf W k) ms mf).e]) ∧ Below w.heap.size w w' := by
  have hm2 := hW.2.1
  unfold maxLen at hm2
  have al := allowed_find he
  have hfz := find_zero W k
  rw [he] at hfz
  obtain ⟨b2, o2, rfl, hkl, hkk, ⟨⟨n0, n1, n2, n3, n4, n5, n6, n7⟩, v, n8, hv⟩⟩ := clk_at hW al
  obtain ⟨jk, hjk⟩ : ∃ jk, jk = k.toNat := ⟨_, rfl⟩
  rw [← hjk] at hkl hkk n0 n1 n2 n3 n4 n5 n6 n7 n8
  obtain ⟨pv, cv, rfl, hv1, hv2⟩ := hv
  have hv : EvSlice w (clkOf W k).evs (.slice pv (clkOf W k).evs.length cv) := ⟨pv, cv, rfl, hv1, hv2⟩
  have a0 := below_alloc' (below_alloc' (Below.refl w.heap.size w) (.cells #[.int .u64 W.seed, .slice p1 W.chs.length c1, .slice (some ⟨b2, o2, none⟩) W.cls.length c2] 26)) (.cells #[.int .i64 ms, .int .i64 mf] 52)
  have hbi : BackIn ((w.alloc (.cells #[.int .u64 W.seed, .slice p1 W.chs.length c1, .slice (some ⟨b2, o2, none⟩) W.cls.length c2] 26)).alloc (.cells #[.int .i64 ms, .int .i64 mf] 52)) w.heap.size W p1 b2 o2 c1 c2 jk (clkOf W k) pv cv ms mf :=
    ⟨by simp, by simp, by simp, by simp, by simp, cell_below a0 n0, cell_below a0 n1, cell_below a0 n2, cell_below a0 n3, cell_below a0 n4, cell_below a0 n5, cell_below a0 n6, cell_below a0 n7, cell_below a0 n8⟩
  have HW0 := Lib.hid (hW.below a0)
  have HV0 := Lib.hid (hv.below a0)
  have HBI := Lib.hid hbi
  have A0 := Lib.hid a0
  have AL := Lib.hid al
  have HFZ := Lib.hid hfz
  have htop := capS_bd ms
  have hmono := fun (a b : Int) (x1 : 0 ≤ a) (x2 : a ≤ b) (x3 : b ≤ capS ms + 1) => late_mono (seed := W.seed) (k := k) (ms := ms) (mf := mf) al.cin al.rok hmf a b x1 x2 (Int.le_trans x3 htop)
  have HMO := Lib.hid hmono
  have hcap : capS ms = if ms ≤ 999999 then ms else 999999 := rfl
  have HCAP := Lib.hid hcap
  have hcc : -9223372036854775808 ≤ capS ms ∧ capS ms ≤ ms := by unfold capS; split <;> omega
  have k16 := al.k16
  clear n0 n1 n2 n3 n4 n5 n6 n7 n8 hv hv1 hv2 a0 hbi al he hfz hmono hcap hW hjk
  subst hkk
  have hjl : (jk : Int) < (W.cls.length : Int) := by omega
  have hj0 : (0 : Int) ≤ (jk : Int) := by omega
  go_enter Tryd.func34, Tryd.ntmps34
  go_wp2_with fail
  refine (clocked_any W jk 0 p1 (some ⟨b2, o2, none⟩) c1 c2 _ HW0.out).mono ?_
  rintro e z ⟨rfl, hb1⟩
  rw [HFZ.out]
  have HB1 := Lib.hid (A0.out.trans (hb1.mono A0.out.size))
  have HWZ := Lib.hid (HW0.out.below hb1)
  have HVZ := Lib.hid (HV0.out.below hb1)
  have HBZ := Lib.hid (HBI.out.below hb1)
  clear hb1 HW0 HV0 HBI
  obtain ⟨-, -, -, m0, m1, -, -, -, -, -, -, -, -, -⟩ := HBZ.out
  have hzz := cell_lt m0
  have d1 : decide (mf < 0) = false := by simp; omega
  have d2 : decide (1000000000000000 ≤ mf) = false := by simp; omega
  have HTV0 := Lib.hid (show capS ms + 1 = if ms < 1000000 then ms + 1 else 1000000 by
    rw [HCAP.out]
    by_cases q : ms ≤ 999999
    · rw [if_pos q, if_pos (by omega)]
    · rw [if_neg q, if_neg (by omega)]; rfl)
  by_cases hle : ms < 1000000
  all_goals
    have htv := HTV0.out
    first | rw [if_pos hle] at htv | rw [if_neg hle] at htv
    have HTV := Lib.hid htv
    clear htv
    go_wp2
    clear m0 m1 hzz
    go_loopw [9] (fun i wr => ∃ t : Int, i = .int .i64 t ∧ -9223372036854775807 ≤ t ∧ t ≤ capS ms + 1 ∧ Hid (NoneAbove (clkOf W jk) (lateS W.seed jk (clkOf W jk) (roomOf W jk) ms mf) (capS ms + 1) t) ∧ Hid (Below z.heap.size z wr)) (fun i _ => (intOf i + 1).toNat)
    case atStart => exact ⟨capS ms + 1, by rw [HTV.out], by omega, by omega, Lib.hid (fun t h1 h2 => by omega), Lib.hid (Below.refl _ _)⟩
    case round =>
      obtain ⟨t, rfl, t0, t1, HN, HB⟩ := hrel
      by_cases h0 : 0 ≤ t
      · have tm : t ≤ 1000000 := by omega
        have hms0 : -1 ≤ ms := by omega
        have hsb := shown_bd W.seed jk AL.out.cin AL.out.rok t h0 tm
        have hk : ∀ X, Below z.heap.size z X → (fun w' => Below z.heap.size z w' ∧ w'.cell? ⟨w.heap.size, 0, none⟩ = some (.int .u64 W.seed) ∧ w'.cell? ⟨w.heap.size, 1, none⟩ = some (.slice p1 W.chs.length c1) ∧ w'.cell? ⟨w.heap.size, 2, none⟩ = some (.slice (some ⟨b2, o2, none⟩) W.cls.length c2) ∧ w'.cell? ⟨w.heap.size + 1, 0, none⟩ = some (.int .i64 ms) ∧ w'.cell? ⟨w.heap.size + 1, 1, none⟩ = some (.int .i64 mf) ∧ w'.cell? ⟨b2, o2 + jk * 9, none⟩ = some (.int .i64 (clkOf W jk).kind) ∧ w'.cell? ⟨b2, o2 + jk * 9 + 1, none⟩ = some (.int .i64 (clkOf W jk).phase) ∧ w'.cell? ⟨b2, o2 + jk * 9 + 2, none⟩ = some (.int .i64 (clkOf W jk).rate) ∧ w'.cell? ⟨b2, o2 + jk * 9 + 3, none⟩ = some (.int .i64 (clkOf W jk).drift) ∧ w'.cell? ⟨b2, o2 + jk * 9 + 4, none⟩ = some (.int .i64 (clkOf W jk).white) ∧ w'.cell? ⟨b2, o2 + jk * 9 + 5, none⟩ = some (.int .i64 (clkOf W jk).walk) ∧ w'.cell? ⟨b2, o2 + jk * 9 + 6, none⟩ = some (.int .i64 (clkOf W jk).heat) ∧ w'.cell? ⟨b2, o2 + jk * 9 + 7, none⟩ = some (.int .i64 (clkOf W jk).room) ∧ w'.cell? ⟨b2, o2 + jk * 9 + 8, none⟩ = some (.slice pv (clkOf W jk).evs.length cv)) X :=
          fun X h => by
            obtain ⟨a0, a1, a2, a3, a4, a5, a6, a7, a8, a9, a10, a11, a12, a13⟩ := HBZ.out.below h
            exact ⟨h, a0, a1, a2, a3, a4, a5, a6, a7, a8, a9, a10, a11, a12, a13⟩
        have HK := Lib.hid hk
        clear hk
        cases hrn : runsS (clkOf W jk) t
        · have HRN := Lib.hid hrn
          obtain ⟨⟨st1, st2⟩, hnb⟩ := noneAbove_before AL.out.cin.evs hrn HN.out
          have HNB := Lib.hid hnb
          have HNS := Lib.hid (noneAbove_stop hrn HN.out)
          clear hrn hnb
          go_wp2_with fail
          refine wp_region_held_drew (S := (fun w' => Below z.heap.size z w' ∧ w'.cell? ⟨w.heap.size, 0, none⟩ = some (.int .u64 W.seed) ∧ w'.cell? ⟨w.heap.size, 1, none⟩ = some (.slice p1 W.chs.length c1) ∧ w'.cell? ⟨w.heap.size, 2, none⟩ = some (.slice (some ⟨b2, o2, none⟩) W.cls.length c2) ∧ w'.cell? ⟨w.heap.size + 1, 0, none⟩ = some (.int .i64 ms) ∧ w'.cell? ⟨w.heap.size + 1, 1, none⟩ = some (.int .i64 mf) ∧ w'.cell? ⟨b2, o2 + jk * 9, none⟩ = some (.int .i64 (clkOf W jk).kind) ∧ w'.cell? ⟨b2, o2 + jk * 9 + 1, none⟩ = some (.int .i64 (clkOf W jk).phase) ∧ w'.cell? ⟨b2, o2 + jk * 9 + 2, none⟩ = some (.int .i64 (clkOf W jk).rate) ∧ w'.cell? ⟨b2, o2 + jk * 9 + 3, none⟩ = some (.int .i64 (clkOf W jk).drift) ∧ w'.cell? ⟨b2, o2 + jk * 9 + 4, none⟩ = some (.int .i64 (clkOf W jk).white) ∧ w'.cell? ⟨b2, o2 + jk * 9 + 5, none⟩ = some (.int .i64 (clkOf W jk).walk) ∧ w'.cell? ⟨b2, o2 + jk * 9 + 6, none⟩ = some (.int .i64 (clkOf W jk).heat) ∧ w'.cell? ⟨b2, o2 + jk * 9 + 7, none⟩ = some (.int .i64 (clkOf W jk).room) ∧ w'.cell? ⟨b2, o2 + jk * 9 + 8, none⟩ = some (.slice pv (clkOf W jk).evs.length cv))) (by kernel_rfl) (HK.out _ (Below.drew HB.out)) (fun hHeld => ?_)
          refine wpAnyH_take (i := 0) (v := ?_) rfl (by kernel_rfl) (by kernel_rfl) (by kernel_rfl) (fun _ _ _ h => h) (Or.inl ⟨by rfl, ?_⟩) (by assumption) ?_
          rotate_left
          · intro w hSw; (try dsimp only at hSw); go_simp; try with_reducible rfl
          simp only [Act.put, List.getElem_toArray, List.getElem_cons_zero, List.setIfInBounds_toArray, List.set_cons_zero, List.set_cons_succ]
          refine wpAnyH_take (i := 1) (v := ?_) rfl (by kernel_rfl) (by kernel_rfl) (by kernel_rfl) (fun _ _ _ h => h) (Or.inl ⟨by rfl, ?_⟩) (by assumption) ?_
          rotate_left
          · intro w hSw; (try dsimp only at hSw); go_simp; try with_reducible rfl
          simp only [Act.put, List.getElem_toArray, List.getElem_cons_succ, List.getElem_cons_zero, List.setIfInBounds_toArray, List.set_cons_zero, List.set_cons_succ]
          refine wpAnyH_take (i := 2) (v := ?_) rfl (by kernel_rfl) (by kernel_rfl) (by kernel_rfl) (fun _ _ _ h => h) (Or.inl ⟨by rfl, ?_⟩) (by assumption) ?_
          rotate_left
          · intro w hSw; (try dsimp only at hSw); go_simp; try with_reducible rfl
          simp only [Act.put, List.getElem_toArray, List.getElem_cons_succ, List.getElem_cons_zero, List.setIfInBounds_toArray, List.set_cons_zero, List.set_cons_succ]
          refine wpAnyH_take (i := 3) (v := ?_) rfl (by kernel_rfl) (by kernel_rfl) (by kernel_rfl) (fun _ _ _ h => h) (Or.inl ⟨by rfl, ?_⟩) (by assumption) ?_
          rotate_left
          · intro w hSw; (try dsimp only at hSw); go_simp; try with_reducible rfl
          simp only [Act.put, List.getElem_toArray, List.getElem_cons_succ, List.getElem_cons_zero, List.setIfInBounds_toArray, List.set_cons_zero, List.set_cons_succ]
          refine wpAnyH_take (i := 4) (v := ?_) rfl (by kernel_rfl) (by kernel_rfl) (by kernel_rfl) (fun _ _ _ h => h) (Or.inl ⟨by rfl, ?_⟩) (by assumption) ?_
          rotate_left
          · intro w hSw; (try dsimp only at hSw); go_simp; try with_reducible rfl
          simp only [Act.put, List.getElem_toArray, List.getElem_cons_succ, List.getElem_cons_zero, List.setIfInBounds_toArray, List.set_cons_zero, List.set_cons_succ]
          refine wpAnyH_take (i := 5) (v := ?_) rfl (by kernel_rfl) (by kernel_rfl) (by kernel_rfl) (fun _ _ _ h => h) (Or.inl ⟨by rfl, ?_⟩) (by assumption) ?_
          rotate_left
          · intro w hSw; (try dsimp only at hSw); go_simp; try with_reducible rfl
          simp only [Act.put, List.getElem_toArray, List.getElem_cons_succ, List.getElem_cons_zero, List.setIfInBounds_toArray, List.set_cons_zero, List.set_cons_succ]
          refine wpAnyH_ready (rs := [6]) (by kernel_rfl) (by simp) ?_
          refine AllReadyH.cons rfl (fun K hK => ?_) AllReadyH.nil
          go_simp
          go_at_call 66
          refine (running_keep z (clkOf W jk) _ t false _ (Below.drew HB.out) HVZ.out AL.out.cin.evs HRN.out).mono ?_
          rintro e w2 ⟨rfl, hb2⟩
          go_wp2_with fail
          refine hK.out _ _ (HK.out _ hb2) (fun hHeld2 => ?_)
          clear hK K hHeld
          refine wpAnyH_take (i := 7) (v := ?_) rfl (by kernel_rfl) (by kernel_rfl) (by kernel_rfl) (fun _ _ _ h => h) (Or.inl ⟨by rfl, ?_⟩) (by assumption) ?_
          rotate_left
          · intro w hSw; (try dsimp only at hSw); go_simp; try with_reducible rfl
          simp only [Act.put, List.getElem_toArray, List.getElem_cons_succ, List.getElem_cons_zero, List.setIfInBounds_toArray, List.set_cons_zero, List.set_cons_succ]
          refine wpAnyH_take (i := 8) (v := undef) rfl (by kernel_rfl) (by kernel_rfl) (by kernel_rfl) (fun _ _ _ h => h) (Or.inr ⟨by rfl, rfl⟩) (by assumption) ?_
          simp only [Act.put, List.getElem_toArray, List.getElem_cons_succ, List.getElem_cons_zero, List.setIfInBounds_toArray, List.set_cons_zero, List.set_cons_succ]
          refine wpAnyH_take (i := 9) (v := undef) rfl (by kernel_rfl) (by kernel_rfl) (by kernel_rfl) (fun _ _ _ h => h) (Or.inr ⟨by rfl, rfl⟩) (by assumption) ?_
          simp only [Act.put, List.getElem_toArray, List.getElem_cons_succ, List.getElem_cons_zero, List.setIfInBounds_toArray, List.set_cons_zero, List.set_cons_succ]
          refine wpAnyH_take (i := 10) (v := undef) rfl (by kernel_rfl) (by kernel_rfl) (by kernel_rfl) (fun _ _ _ h => h) (Or.inr ⟨by rfl, rfl⟩) (by assumption) ?_
          simp only [Act.put, List.getElem_toArray, List.getElem_cons_succ, List.getElem_cons_zero, List.setIfInBounds_toArray, List.set_cons_zero, List.set_cons_succ]
          refine wpAnyH_take (i := 11) (v := undef) rfl (by kernel_rfl) (by kernel_rfl) (by kernel_rfl) (fun _ _ _ h => h) (Or.inr ⟨by rfl, rfl⟩) (by assumption) ?_
          simp only [Act.put, List.getElem_toArray, List.getElem_cons_succ, List.getElem_cons_zero, List.setIfInBounds_toArray, List.set_cons_zero, List.set_cons_succ]
          refine wpAnyH_take (i := 12) (v := undef) rfl (by kernel_rfl) (by kernel_rfl) (by kernel_rfl) (fun _ _ _ h => h) (Or.inr ⟨by rfl, rfl⟩) (by assumption) ?_
          simp only [Act.put, List.getElem_toArray, List.getElem_cons_succ, List.getElem_cons_zero, List.setIfInBounds_toArray, List.set_cons_zero, List.set_cons_succ]
          refine wpAnyH_take (i := 13) (v := undef) rfl (by kernel_rfl) (by kernel_rfl) (by kernel_rfl) (fun _ _ _ h => h) (Or.inr ⟨by rfl, rfl⟩) (by assumption) ?_
          simp only [Act.put, List.getElem_toArray, List.getElem_cons_succ, List.getElem_cons_zero, List.setIfInBounds_toArray, List.set_cons_zero, List.set_cons_succ]
          refine wpAnyH_take (i := 14) (v := undef) rfl (by kernel_rfl) (by kernel_rfl) (by kernel_rfl) (fun _ _ _ h => h) (Or.inr ⟨by rfl, rfl⟩) (by assumption) ?_
          simp only [Act.put, List.getElem_toArray, List.getElem_cons_succ, List.getElem_cons_zero, List.setIfInBounds_toArray, List.set_cons_zero, List.set_cons_succ]
          refine wpAnyH_take (i := 15) (v := undef) rfl (by kernel_rfl) (by kernel_rfl) (by kernel_rfl) (fun _ _ _ h => h) (Or.inr ⟨by rfl, rfl⟩) (by assumption) ?_
          simp only [Act.put, List.getElem_toArray, List.getElem_cons_succ, List.getElem_cons_zero, List.setIfInBounds_toArray, List.set_cons_zero, List.set_cons_succ]
          refine wpAnyH_take (i := 16) (v := undef) rfl (by kernel_rfl) (by kernel_rfl) (by kernel_rfl) (fun _ _ _ h => h) (Or.inr ⟨by rfl, rfl⟩) (by assumption) ?_
          simp only [Act.put, List.getElem_toArray, List.getElem_cons_succ, List.getElem_cons_zero, List.setIfInBounds_toArray, List.set_cons_zero, List.set_cons_succ]
          refine wpAnyH_take (i := 17) (v := ?_) rfl (by kernel_rfl) (by kernel_rfl) (by kernel_rfl) (fun _ _ _ h => h) (Or.inl ⟨by rfl, ?_⟩) (by assumption) ?_
          rotate_left
          · intro w hSw; (try dsimp only at hSw); go_simp; try with_reducible rfl
          simp only [Act.put, List.getElem_toArray, List.getElem_cons_succ, List.getElem_cons_zero, List.setIfInBounds_toArray, List.set_cons_zero, List.set_cons_succ]
          refine wpAnyH_done (by kernel_rfl) ?_ _
          clear hHeld2
          have HB2 := Lib.hid hb2
          obtain ⟨a0, a1, a2, a3, a4, a5, a6, a7, a8, a9, a10, a11, a12, a13⟩ := HBZ.out.below hb2
          have HV2 := Lib.hid (HVZ.out.below hb2)
          have hza := cell_lt a0
          have hzb := cell_lt a5
          clear hb2
          by_cases hlt : t < ms - 2
          · have d3 : decide (t < ms - 2) = true := by simpa using hlt
            go_wp2_with (go_at_call 66; refine (running_keep _ (clkOf W jk) _ t false _ (Below.refl _ _) HV2.out AL.out.cin.evs HRN.out).mono ?_; rintro e w3 ⟨rfl, hb3⟩; obtain ⟨g0, g1, g2, g3, g4, g5, g6, g7, g8, g9, g10, g11, g12, g13⟩ := (HBZ.out.below HB2.out).below hb3; have HB3 := Lib.hid (HB2.out.trans (hb3.mono HB2.out.size)); have HV3 := Lib.hid (HV2.out.below hb3); have hzc := cell_lt g0; have hzd := cell_lt g5; clear hb3 a0 a1 a2 a3 a4 a5 a6 a7 a8 a9 a10 a11 a12 a13 hza hzb)
            refine (rbefore_any (clkOf W jk).kind (clkOf W jk).phase (clkOf W jk).rate (clkOf W jk).drift (clkOf W jk).white (clkOf W jk).walk (clkOf W jk).heat (clkOf W jk).room (clkOf W jk).evs _ t _ HV3.out ⟨st1, st2⟩ tm).mono ?_
            rintro e w4 ⟨rfl, hb4⟩
            have HB4 := Lib.hid (HB3.out.trans (hb4.mono HB3.out.size))
            clear hb4 g0 g1 g2 g3 g4 g5 g6 g7 g8 g9 g10 g11 g12 g13 hzc hzd
            go_wp2
            go_roundw
            case rel => exact ⟨_, rfl, by omega, by omega, HNB, HB4⟩
            case measure => simp [intOf]; omega
          · have d3 : decide (t < ms - 2) = false := by simpa using hlt
            go_wp2
            go_roundw
            case rel => exact ⟨t - 1, rfl, by omega, by omega, HNS, HB2⟩
            case measure => simp [intOf]; omega
        · have HRN := Lib.hid hrn
          cases hl : lateS W.seed jk (clkOf W jk) (roomOf W jk) ms mf t
          · have HM := Lib.hid (back_hit (capS ms + 1) t AL.out.cin.evs HMO.out h0 t1 hrn hl HN.out)
            have hl2 : afterS (readSec t (shownS W.seed jk (clkOf W jk) (roomOf W jk) t)) (readFs (shownS W.seed jk (clkOf W jk) (roomOf W jk) t)) ms mf = false := hl
            have HL := Lib.hid hl2
            clear hrn hl hl2
            go_wp2_with fail
            go_region_held3 (fun w' => Below z.heap.size z w' ∧ w'.cell? ⟨w.heap.size, 0, none⟩ = some (.int .u64 W.seed) ∧ w'.cell? ⟨w.heap.size, 1, none⟩ = some (.slice p1 W.chs.length c1) ∧ w'.cell? ⟨w.heap.size, 2, none⟩ = some (.slice (some ⟨b2, o2, none⟩) W.cls.length c2) ∧ w'.cell? ⟨w.heap.size + 1, 0, none⟩ = some (.int .i64 ms) ∧ w'.cell? ⟨w.heap.size + 1, 1, none⟩ = some (.int .i64 mf) ∧ w'.cell? ⟨b2, o2 + jk * 9, none⟩ = some (.int .i64 (clkOf W jk).kind) ∧ w'.cell? ⟨b2, o2 + jk * 9 + 1, none⟩ = some (.int .i64 (clkOf W jk).phase) ∧ w'.cell? ⟨b2, o2 + jk * 9 + 2, none⟩ = some (.int .i64 (clkOf W jk).rate) ∧ w'.cell? ⟨b2, o2 + jk * 9 + 3, none⟩ = some (.int .i64 (clkOf W jk).drift) ∧ w'.cell? ⟨b2, o2 + jk * 9 + 4, none⟩ = some (.int .i64 (clkOf W jk).white) ∧ w'.cell? ⟨b2, o2 + jk * 9 + 5, none⟩ = some (.int .i64 (clkOf W jk).walk) ∧ w'.cell? ⟨b2, o2 + jk * 9 + 6, none⟩ = some (.int .i64 (clkOf W jk).heat) ∧ w'.cell? ⟨b2, o2 + jk * 9 + 7, none⟩ = some (.int .i64 (clkOf W jk).room) ∧ w'.cell? ⟨b2, o2 + jk * 9 + 8, none⟩ = some (.slice pv (clkOf W jk).evs.length cv))
            (exact HK.out _ (by first | assumption | exact HB.out | exact Below.drew HB.out))
            (first | (go_at_call 66; refine (running_keep z (clkOf W jk) _ t true _ (by first | assumption | exact Below.drew HB.out) HVZ.out AL.out.cin.evs HRN.out).mono ?_; rintro e w2 ⟨rfl, hb2⟩) |
              (go_at_call 71; refine (rshown_keep z W jk t p1 (some ⟨b2, o2, none⟩) c1 c2 _ (by first | assumption | exact Below.drew HB.out) HWZ.out AL.out h0 tm).mono ?_; rintro e w2 ⟨rfl, hb2⟩) |
              (go_at_call 77; refine (rAt_keep z t _ _ (by first | assumption | exact Below.drew HB.out) (by omega) (by omega)).mono ?_; rintro e w2 ⟨rfl, hb2⟩) |
              (go_at_call 80; refine (rLate_keep z t _ ms mf false _ (by first | assumption | exact Below.drew HB.out) HL.out).mono ?_; rintro e w2 ⟨rfl, hb2⟩))
            have HB2 := Lib.hid hb2
            clear hb2
            go_wp2
            go_ret2
            exact ⟨by unfold backS; rw [HM.out]; rfl, HB1.out.trans (HB2.out.mono HB1.out.size)⟩
          · have HNS := Lib.hid (noneAbove_late hl HN.out)
            have hl2 : afterS (readSec t (shownS W.seed jk (clkOf W jk) (roomOf W jk) t)) (readFs (shownS W.seed jk (clkOf W jk) (roomOf W jk) t)) ms mf = true := hl
            have HL := Lib.hid hl2
            clear hrn hl hl2
            go_wp2_with fail
            go_region_held3 (fun w' => Below z.heap.size z w' ∧ w'.cell? ⟨w.heap.size, 0, none⟩ = some (.int .u64 W.seed) ∧ w'.cell? ⟨w.heap.size, 1, none⟩ = some (.slice p1 W.chs.length c1) ∧ w'.cell? ⟨w.heap.size, 2, none⟩ = some (.slice (some ⟨b2, o2, none⟩) W.cls.length c2) ∧ w'.cell? ⟨w.heap.size + 1, 0, none⟩ = some (.int .i64 ms) ∧ w'.cell? ⟨w.heap.size + 1, 1, none⟩ = some (.int .i64 mf) ∧ w'.cell? ⟨b2, o2 + jk * 9, none⟩ = some (.int .i64 (clkOf W jk).kind) ∧ w'.cell? ⟨b2, o2 + jk * 9 + 1, none⟩ = some (.int .i64 (clkOf W jk).phase) ∧ w'.cell? ⟨b2, o2 + jk * 9 + 2, none⟩ = some (.int .i64 (clkOf W jk).rate) ∧ w'.cell? ⟨b2, o2 + jk * 9 + 3, none⟩ = some (.int .i64 (clkOf W jk).drift) ∧ w'.cell? ⟨b2, o2 + jk * 9 + 4, none⟩ = some (.int .i64 (clkOf W jk).white) ∧ w'.cell? ⟨b2, o2 + jk * 9 + 5, none⟩ = some (.int .i64 (clkOf W jk).walk) ∧ w'.cell? ⟨b2, o2 + jk * 9 + 6, none⟩ = some (.int .i64 (clkOf W jk).heat) ∧ w'.cell? ⟨b2, o2 + jk * 9 + 7, none⟩ = some (.int .i64 (clkOf W jk).room) ∧ w'.cell? ⟨b2, o2 + jk * 9 + 8, none⟩ = some (.slice pv (clkOf W jk).evs.length cv))
            (exact HK.out _ (by first | assumption | exact HB.out | exact Below.drew HB.out))
            (first | (go_at_call 66; refine (running_keep z (clkOf W jk) _ t true _ (by first | assumption | exact Below.drew HB.out) HVZ.out AL.out.cin.evs HRN.out).mono ?_; rintro e w2 ⟨rfl, hb2⟩) |
              (go_at_call 71; refine (rshown_keep z W jk t p1 (some ⟨b2, o2, none⟩) c1 c2 _ (by first | assumption | exact Below.drew HB.out) HWZ.out AL.out h0 tm).mono ?_; rintro e w2 ⟨rfl, hb2⟩) |
              (go_at_call 77; refine (rAt_keep z t _ _ (by first | assumption | exact Below.drew HB.out) (by omega) (by omega)).mono ?_; rintro e w2 ⟨rfl, hb2⟩) |
              (go_at_call 80; refine (rLate_keep z t _ ms mf true _ (by first | assumption | exact Below.drew HB.out) HL.out).mono ?_; rintro e w2 ⟨rfl, hb2⟩))
            have HB2 := Lib.hid hb2
            obtain ⟨a0, a1, a2, a3, a4, a5, a6, a7, a8, a9, a10, a11, a12, a13⟩ := HBZ.out.below hb2
            have HV2 := Lib.hid (HVZ.out.below hb2)
            have hza := cell_lt a0
            have hzb := cell_lt a5
            clear hb2
            by_cases hlt : t < ms - 2
            · have d3 : decide (t < ms - 2) = true := by simpa using hlt
              go_wp2_with (go_at_call 66; refine (running_keep _ (clkOf W jk) _ t true _ (Below.refl _ _) HV2.out AL.out.cin.evs HRN.out).mono ?_; rintro e w3 ⟨rfl, hb3⟩; have HB3 := Lib.hid (HB2.out.trans (hb3.mono HB2.out.size)); clear hb3 a0 a1 a2 a3 a4 a5 a6 a7 a8 a9 a10 a11 a12 a13 hza hzb)
              go_roundw
              case rel => exact ⟨t - 1, rfl, by omega, by omega, HNS, HB3⟩
              case measure => simp [intOf]; omega
            · have d3 : decide (t < ms - 2) = false := by simpa using hlt
              go_wp2
              go_roundw
              case rel => exact ⟨t - 1, rfl, by omega, by omega, HNS, HB2⟩
              case measure => simp [intOf]; omega
      · have HM := Lib.hid (back_miss (capS ms + 1) AL.out.cin.evs HMO.out (fun u x1 x2 => HN.out u (by omega) x2))
        go_wp2
        go_ret2
        exact ⟨by unfold backS; rw [HM.out]; rfl, HB1.out.trans (HB.out.mono HB1.out.size)⟩
end Go.Proofs.YthegamfbigphkaaDoor
