/- Contracts of the reference of layer 3: Allan, Overlapping. -/
import Derived.Test.YthkndjkgokojmaaRb
import Derived.Test.YthkndjkgokojmaaSb
import Derived.Test.YthkndjkgokojmaaStP
namespace Go.Proofs.Ythkndjkgokojmaa
open Go Go.RowKit Go.Shelf
theorem grown_of_below {X Y : World} (hb : Below X.heap.size X Y) : X.grownBy Y none := ⟨hb.os, hb.tape, hb.output, hb.size, fun k hk _ => hb.block k hk⟩
theorem own_of_below {X Y : World} {b s n : Nat} {t : TypeId} {v : Value} {xs : List Value} (h : X.ownsRow b t s v n xs) (hb : Below X.heap.size X Y) : Y.ownsRow b t s v n xs :=
  World.ownsRow.kept h (grown_of_below hb) (by cases e : v.ownBlock with | none => exact .inl rfl | some k => exact .inr (by simp))
/-- what a variance of the reference keeps while its list grows -/
structure RefAt (w W : World) (tau : Int) (sv v : Value) (xs : List SInt) : Prop where
  own : W.ownsRow (w.heap.size + 2) 3 1 v xs.length (xs.map encI)
  s0 : W.cell? ⟨w.heap.size, 0, none⟩ = some (.int .i64 tau)
  s1 : W.cell? ⟨w.heap.size, 1, none⟩ = some sv
  r0 : W.cell? ⟨w.heap.size + 1, 0, none⟩ = some (.int .i64 0)
  r1 : W.cell? ⟨w.heap.size + 1, 1, none⟩ = some (.int .i64 0)
  q0 : W.frozen? ⟨w.heap.size + 1, 0, none⟩ = false
  q1 : W.frozen? ⟨w.heap.size + 1, 1, none⟩ = false
  bel : Below w.heap.size w W
  sz : w.heap.size + 2 ≤ W.heap.size
variable {w W Y : World} {tau : Int} {sv v v' : Value} {xs : List SInt} {o : Obj}
theorem RefAt.below (h : RefAt w W tau sv v xs) (hb : Below W.heap.size W Y) : RefAt w Y tau sv v xs :=
  ⟨own_of_below h.own hb, cell_below hb h.s0, cell_below hb h.s1, cell_below hb h.r0, cell_below hb h.r1, (hb.frozen (p := ⟨w.heap.size + 1, 0, none⟩) (cell_lt h.r0)).trans h.q0, (hb.frozen (p := ⟨w.heap.size + 1, 1, none⟩) (cell_lt h.r1)).trans h.q1,
    h.bel.trans (hb.mono h.bel.size), Nat.le_trans h.sz hb.size⟩
theorem RefAt.step (h : RefAt w W tau sv v xs) (d : SInt) (hown : Y.ownsRow (w.heap.size + 2) 3 1 v' (xs.length + 1) (xs.map encI ++ [.int .i64 d.1])) (hg : (W.alloc o).grownBy Y v.ownBlock) : RefAt w Y tau sv v' (xs ++ [d]) := by
  have hne : ∀ k, k < w.heap.size + 2 → v.ownBlock ≠ some k := fun k hk e => by have := (World.ownsRow.lt h.own k e).1; omega
  have hsz := h.sz
  have hs2 := hg.size
  refine ⟨by simpa [encI] using hown, grown_cell hg (hne _ (by omega)) h.s0, grown_cell hg (hne _ (by omega)) h.s1, grown_cell hg (hne _ (by omega)) h.r0, grown_cell hg (hne _ (by omega)) h.r1,
    (grown_frozen (cell_lt h.r0) hg (hne _ (by omega))).trans h.q0, (grown_frozen (cell_lt h.r1) hg (hne _ (by omega))).trans h.q1, ?_, by simp at hs2; omega⟩
  exact (h.bel.alloc h.bel.size o).grown hg (by have := h.bel.size; simp; omega) (fun k e => by have := (World.ownsRow.lt h.own k e).1; omega)
theorem RefAt.start (w : World) (tau : Int) (sv : Value) : RefAt w ((w.alloc (.cells #[.int .i64 tau, sv] 63)).alloc (.cells #[.int .i64 0, .int .i64 0] 24)) tau sv (.slice none 0 0) [] :=
  ⟨World.ownsRow_nil _ _ _ _, by simp [go_sem], by simp [go_sem], by simp [go_sem], by simp [go_sem], by simp [go_sem], by simp [go_sem], below_alloc (below_alloc (Below.refl _ _) _) _, by simp⟩
theorem RefAt.ret (h : RefAt w W tau sv v xs) (a b : Int) : Below w.heap.size w ((W.setCell ⟨w.heap.size + 1, 0, none⟩ (.int .i64 a)).setCell ⟨w.heap.size + 1, 1, none⟩ (.int .i64 b)) :=
  (h.bel.setCell (p := ⟨w.heap.size + 1, 0, none⟩) (by show w.heap.size ≤ w.heap.size + 1; omega) _).setCell (p := ⟨w.heap.size + 1, 1, none⟩) (by show w.heap.size ≤ w.heap.size + 1; omega) _
theorem encI_ser {B : Nat} (h : W.ownsRow B 3 1 v xs.length (xs.map encI)) : ∃ p cap, v = .slice p xs.length cap ∧ SliceIn p xs.length (IntsAt W (xs.map fun d => d.1)) := by
  have h' : W.ownsRow B 3 1 v (xs.map fun d : SInt => d.1).length ((xs.map fun d : SInt => d.1).map (Value.int .i64)) := by rw [List.length_map, List.map_map]; exact h
  obtain ⟨p, cap, hv, hs, -⟩ := ints_own h'
  rw [List.length_map] at hv hs
  exact ⟨p, cap, hv, hs⟩
theorem cntS_le (len a M : Nat) (hM : 1 ≤ M) (h : len ≤ 128) : cntS len a M ≤ 128 := by
  rcases Nat.lt_or_ge 128 (cntS len a M) with h1 | h1
  · have h2 := (cntS_lt hM).1 h1
    have h3 := Nat.le_mul_of_pos_right 128 (show 0 < M by omega)
    omega
  · exact h1
theorem rallan_err (tau : Int) (l : List Int) (p : Option Addr) (cap : Nat) (m : Int) (w : World) (hs : SerIn w l p) (he : stepErr tau l m ≠ 0) :
    Calls Try.prog 28 #[.agg #[.int .i64 tau, .slice p l.length cap], .int .i64 m] w fun e w' => e = .returned (varVal ⟨0, 0, stepErr tau l m⟩) ∧ Below w.heap.size w w' := by
  have a0 : Below w.heap.size w ((w.alloc (.cells #[.int .i64 tau, .slice p l.length cap] 63)).alloc (.cells #[.int .i64 0, .int .i64 0] 24)) := below_alloc (below_alloc (Below.refl _ _) _) _
  have HC := Lib.hid (rchecked_any tau l p cap m _ (hs.below a0))
  have HR0 := Lib.hid (RefAt.start w tau (.slice p l.length cap))
  have hne : (stepErr tau l m != 0) = true := by simpa using he
  clear hs a0 he
  go_enter Try.func28, Try.ntmps28
  go_wp2_with fail
  refine HC.out.mono ?_
  rintro e w1 ⟨rfl, hb⟩
  have HR1 := Lib.hid (HR0.out.below hb)
  obtain ⟨-, -, -, b0, b1, b2, b3, -, -⟩ := HR1.out
  have hz := cell_lt b0
  obtain ⟨r0, r1⟩ := set2 (.int .i64 0) (.int .i64 0) b0 b1
  clear hb
  go_wp2
  exact bodyPost_ret (v := .tuple #[.agg #[.int .i64 0, .int .i64 0], .int .i64 (stepErr tau l m)]) (by simp [results, Try.results28, go_sem, r0, r1]) rfl ⟨rfl, HR1.out.ret 0 0⟩
set_option maxRecDepth 100000 in
set_option maxHeartbeats 4000000 in
theorem rallan_ok (tau : Int) (l : List Int) (p : Option Addr) (cap M : Nat) (w : World) (hs : SerIn w l p) (hp : phasesOk l = true) (h128 : l.length ≤ 128) (hm : 1 ≤ M ∧ M ≤ 32) (ht : 1 ≤ tau ∧ tau ≤ 1000) (he : stepErr tau l M = 0) :
    Calls Try.prog 28 #[.agg #[.int .i64 tau, .slice p l.length cap], .int .i64 M] w fun e w' => e = .returned (varVal (varE (secL l hp M M (cntS l.length (2 * M) M)) (divTwo M tau))) ∧ Below w.heap.size w w' := by
  obtain ⟨i0, hi0, hz0, hz1, hz2⟩ := info_parts infoInt
  have a0 : Below w.heap.size w ((w.alloc (.cells #[.int .i64 tau, .slice p l.length cap] 63)).alloc (.cells #[.int .i64 0, .int .i64 0] 24)) := below_alloc (below_alloc (Below.refl _ _) _) _
  have HC := Lib.hid (rchecked_any tau l p cap M _ (hs.below a0))
  have HR0 := Lib.hid (RefAt.start w tau (.slice p l.length cap))
  have HS := Lib.hid hs
  obtain ⟨K, hK⟩ : ∃ K, K = cntS l.length (2 * M) M := ⟨_, rfl⟩
  have hK128 : K ≤ 128 := by rw [hK]; exact cntS_le _ _ _ (by omega) h128
  have HLT := Lib.hid (fun j => (hK ▸ cntS_lt (len := l.length) (m := 2 * M) (st := M) (j := j) (by omega) : j < K ↔ _))
  rw [← hK]
  clear hs a0 hK
  obtain ⟨D, hD⟩ : ∃ D, D = divTwo M tau := ⟨_, rfl⟩
  have hDV := divTwo_bd M tau (by omega) ht
  rw [← hD] at hDV ⊢
  obtain ⟨hd1, hd2, hd3⟩ := hDV
  have w1 : IntKind.i64.wrap (2 * (M : Int)) = 2 * (M : Int) := IntWalk.i64_in _ (by omega)
  have w2 : IntKind.i64.wrap (2 * (M : Int) * M) = 2 * (M : Int) * M := IntWalk.i64_in _ (by omega)
  have w3 : IntKind.i64.wrap (2 * (M : Int) * M * tau) = 2 * (M : Int) * M * tau := IntWalk.i64_in _ (by omega)
  have w4 : IntKind.i64.wrap (2 * (M : Int) * M * tau * tau) = D := by rw [IntWalk.i64_in _ (by unfold divTwo at hD; omega)]; exact hD.symm
  have HD := Lib.hid hd3
  clear hd1 hd2 hd3 hD
  go_enter Try.func28, Try.ntmps28
  go_wp2_with fail
  refine HC.out.mono ?_
  rintro e x1 ⟨rfl, hb⟩
  rw [he]
  have HR1 := Lib.hid (HR0.out.below hb)
  clear hb HC HR0
  go_wp2
  go_loopw [7, 8] (fun s i wr => ∃ (j q : Nat) (v : Value), j ≤ K ∧ q = j * M ∧ q ≤ 4096 ∧ s = v ∧ i = .int .i64 (q : Int) ∧ Hid (RefAt w wr tau (.slice p l.length cap) v (secL l hp M M j))) (fun _ i _ => (5000 - intOf i).toNat)
  case atStart => exact ⟨0, 0, _, Nat.zero_le _, by simp, by omega, rfl, rfl, HR1⟩
  case round =>
    obtain ⟨j, q, v, hj, hq, hq2, rfl, rfl, HT⟩ := hrel
    have hc := HLT.out j
    obtain ⟨u, hu⟩ : ∃ u : Nat, u = q + 2 * M := ⟨_, rfl⟩
    have w5 : IntKind.i64.wrap ((q : Int) + 2 * (M : Int)) = (u : Int) := by rw [IntWalk.i64_in _ (by omega)]; omega
    obtain ⟨-, c0, c1, -, -, -, -, -, -⟩ := HT.out
    have hz := cell_lt c0
    by_cases hlt : j < K
    · have hul : u < l.length := by have := hc.1 hlt; omega
      have hul2 : (u : Int) < (l.length : Int) := by omega
      have hq3 : q + 2 * M < l.length := by omega
      have HQ := Lib.hid hq
      have HL : Hid (secL l hp M M (j + 1) = secL l hp M M j ++ [secD l hp M q]) := Lib.hid (by rw [secL_succ, hq])
      have hlen : (secL l hp M M j).length = j := secL_len _ _ _ _ _
      have w6 : IntKind.i64.wrap ((q : Int) + (M : Int)) = (q : Int) + (M : Int) := IntWalk.i64_in _ (by omega)
      have HSW : Hid (SerIn wr l p) := Lib.hid (HS.out.below HT.out.bel)
      have hrs := rsecond_any tau l p cap M q wr HSW.out hp h128 hq3
      have HRS := Lib.hid hrs
      have hq5 : q + M ≤ 4096 := by omega
      clear hrs hc hq hu hq3
      go_wp2_with fail
      refine HRS.out.mono ?_
      rintro e x2 ⟨rfl, hb⟩
      have HT2 := Lib.hid (HT.out.below hb)
      clear hb c0 c1 hz HT HSW HRS
      go_wp2_with (at_builtin; refine wpList_append_own_at _ rfl (.tmp 27) (.tmp 32) _ rfl (w.heap.size + 2) 3 i0 (.int .i64 0) 1 8 Try.underlying22 hi0 hz0 hz1 hz2 rfl (by decide) _ _ _ rfl (World.ownsRow.alloc HT2.out.own _) ⟨_, 0, none⟩ 1 1 [.int .i64 (secAt l M q)] rfl rfl (cell_one_new _ _ _) (by simp [Value.oneCell']) (by rw [hlen]; unfold maxLen; omega) (by rw [hlen]; omega) (by have := HT2.out.sz; simp; omega) ?_; intro v' z1 hown hg _ _; have HT3 := Lib.hid (HT2.out.step (secD l hp M q) hown hg); clear hown hg)
      rw [← HL.out] at HT3
      go_roundw
      case rel => exact ⟨j + 1, q + M, _, by omega, by rw [HQ.out, Nat.add_mul, Nat.one_mul], hq5, rfl, by first | (congr 1; omega) | simp, HT3⟩
      case measure => simp [intOf]; omega
    · have hul : ¬ (u < l.length) := fun h => hlt (hc.2 (by omega))
      have hul2 : ¬ ((u : Int) < (l.length : Int)) := by omega
      obtain rfl : j = K := by omega
      have hlen : (secL l hp M M j).length ≤ 128 := by rw [secL_len]; omega
      obtain ⟨p', cap', rfl, hsl⟩ := encI_ser HT.out.own
      have HM := Lib.hid (rmean_any (secL l hp M M j) p' cap' D wr hsl hlen ⟨by have := HD.out; omega, by have := HD.out; omega⟩)
      clear hc hlt hsl hq
      go_wp2_with fail
      refine HM.out.mono ?_
      rintro e x2 ⟨rfl, hb⟩
      have HT2 := Lib.hid (HT.out.below hb)
      obtain ⟨N0, hN⟩ : ∃ N0, N0 = varE (secL l hp M M j) D := ⟨_, rfl⟩
      rw [← hN]
      obtain ⟨vn, vd, ve⟩ := N0
      have HN := Lib.hid hN
      unfold varVal
      dsimp only
      obtain ⟨-, -, -, b0, b1, b2, b3, -, -⟩ := HT2.out
      have hz' := cell_lt b0
      obtain ⟨r0, r1⟩ := set2 (.int .i64 vn) (.int .i64 vd) b0 b1
      clear hb hN c0 c1 hz HM
      go_wp2
      exact bodyPost_ret (v := .tuple #[.agg #[.int .i64 vn, .int .i64 vd], .int .i64 ve]) (by simp [results, Try.results28, go_sem, r0, r1]) rfl ⟨by rw [← HN.out]; rfl, HT2.out.ret vn vd⟩
theorem rallan_any (tau : Int) (l : List Int) (p : Option Addr) (cap : Nat) (m : Int) (w : World) (hs : SerIn w l p) :
    Calls Try.prog 28 #[.agg #[.int .i64 tau, .slice p l.length cap], .int .i64 m] w fun e w' => e = .returned (varVal (allanE tau l m)) ∧ Below w.heap.size w w' := by
  by_cases he : stepErr tau l m = 0
  · obtain ⟨h128, ht, hp, hm⟩ := stepErr_zero he
    obtain ⟨M, rfl⟩ : ∃ M : Nat, m = M := ⟨m.toNat, by omega⟩
    have hV : allanE tau l M = varE (secL l hp M M (cntS l.length (2 * M) M)) (divTwo M tau) := by unfold allanE outE; rw [dif_pos he]; rfl
    rw [hV]
    exact rallan_ok tau l p cap M w hs hp h128 (by omega) ht he
  · have hV : allanE tau l m = ⟨0, 0, stepErr tau l m⟩ := by unfold allanE outE; rw [dif_neg he]
    rw [hV]
    exact rallan_err tau l p cap m w hs he
theorem roverlapping_err (tau : Int) (l : List Int) (p : Option Addr) (cap : Nat) (m : Int) (w : World) (hs : SerIn w l p) (he : stepErr tau l m ≠ 0) :
    Calls Try.prog 29 #[.agg #[.int .i64 tau, .slice p l.length cap], .int .i64 m] w fun e w' => e = .returned (varVal ⟨0, 0, stepErr tau l m⟩) ∧ Below w.heap.size w w' := by
  have a0 : Below w.heap.size w ((w.alloc (.cells #[.int .i64 tau, .slice p l.length cap] 63)).alloc (.cells #[.int .i64 0, .int .i64 0] 24)) := below_alloc (below_alloc (Below.refl _ _) _) _
  have HC := Lib.hid (rchecked_any tau l p cap m _ (hs.below a0))
  have HR0 := Lib.hid (RefAt.start w tau (.slice p l.length cap))
  have hne : (stepErr tau l m != 0) = true := by simpa using he
  clear hs a0 he
  go_enter Try.func29, Try.ntmps29
  go_wp2_with fail
  refine HC.out.mono ?_
  rintro e w1 ⟨rfl, hb⟩
  have HR1 := Lib.hid (HR0.out.below hb)
  obtain ⟨-, -, -, b0, b1, b2, b3, -, -⟩ := HR1.out
  have hz := cell_lt b0
  obtain ⟨r0, r1⟩ := set2 (.int .i64 0) (.int .i64 0) b0 b1
  clear hb
  go_wp2
  exact bodyPost_ret (v := .tuple #[.agg #[.int .i64 0, .int .i64 0], .int .i64 (stepErr tau l m)]) (by simp [results, Try.results29, go_sem, r0, r1]) rfl ⟨rfl, HR1.out.ret 0 0⟩
set_option maxRecDepth 100000 in
set_option maxHeartbeats 4000000 in
theorem roverlapping_ok (tau : Int) (l : List Int) (p : Option Addr) (cap M : Nat) (w : World) (hs : SerIn w l p) (hp : phasesOk l = true) (h128 : l.length ≤ 128) (hm : 1 ≤ M ∧ M ≤ 32) (ht : 1 ≤ tau ∧ tau ≤ 1000) (he : stepErr tau l M = 0) :
    Calls Try.prog 29 #[.agg #[.int .i64 tau, .slice p l.length cap], .int .i64 M] w fun e w' => e = .returned (varVal (varE (secL l hp M 1 (cntS l.length (2 * M) 1)) (divTwo M tau))) ∧ Below w.heap.size w w' := by
  obtain ⟨i0, hi0, hz0, hz1, hz2⟩ := info_parts infoInt
  have a0 : Below w.heap.size w ((w.alloc (.cells #[.int .i64 tau, .slice p l.length cap] 63)).alloc (.cells #[.int .i64 0, .int .i64 0] 24)) := below_alloc (below_alloc (Below.refl _ _) _) _
  have HC := Lib.hid (rchecked_any tau l p cap M _ (hs.below a0))
  have HR0 := Lib.hid (RefAt.start w tau (.slice p l.length cap))
  have HS := Lib.hid hs
  obtain ⟨K, hK⟩ : ∃ K, K = cntS l.length (2 * M) 1 := ⟨_, rfl⟩
  have hK128 : K ≤ 128 := by rw [hK]; exact cntS_le _ _ _ (by omega) h128
  have HLT := Lib.hid (fun j => (hK ▸ cntS_lt (len := l.length) (m := 2 * M) (st := 1) (j := j) (by omega) : j < K ↔ _))
  rw [← hK]
  clear hs a0 hK
  obtain ⟨D, hD⟩ : ∃ D, D = divTwo M tau := ⟨_, rfl⟩
  have hDV := divTwo_bd M tau (by omega) ht
  rw [← hD] at hDV ⊢
  obtain ⟨hd1, hd2, hd3⟩ := hDV
  have w1 : IntKind.i64.wrap (2 * (M : Int)) = 2 * (M : Int) := IntWalk.i64_in _ (by omega)
  have w2 : IntKind.i64.wrap (2 * (M : Int) * M) = 2 * (M : Int) * M := IntWalk.i64_in _ (by omega)
  have w3 : IntKind.i64.wrap (2 * (M : Int) * M * tau) = 2 * (M : Int) * M * tau := IntWalk.i64_in _ (by omega)
  have w4 : IntKind.i64.wrap (2 * (M : Int) * M * tau * tau) = D := by rw [IntWalk.i64_in _ (by unfold divTwo at hD; omega)]; exact hD.symm
  have HD := Lib.hid hd3
  clear hd1 hd2 hd3 hD
  go_enter Try.func29, Try.ntmps29
  go_wp2_with fail
  refine HC.out.mono ?_
  rintro e x1 ⟨rfl, hb⟩
  rw [he]
  have HR1 := Lib.hid (HR0.out.below hb)
  clear hb HC HR0
  go_wp2
  go_loopw [7, 8] (fun s i wr => ∃ (j q : Nat) (v : Value), j ≤ K ∧ q = j ∧ q ≤ 4096 ∧ s = v ∧ i = .int .i64 (q : Int) ∧ Hid (RefAt w wr tau (.slice p l.length cap) v (secL l hp M 1 j))) (fun _ i _ => (5000 - intOf i).toNat)
  case atStart => exact ⟨0, 0, _, Nat.zero_le _, by simp, by omega, rfl, rfl, HR1⟩
  case round =>
    obtain ⟨j, q, v, hj, hq, hq2, rfl, rfl, HT⟩ := hrel
    have hc := HLT.out j
    obtain ⟨u, hu⟩ : ∃ u : Nat, u = q + 2 * M := ⟨_, rfl⟩
    have w5 : IntKind.i64.wrap ((q : Int) + 2 * (M : Int)) = (u : Int) := by rw [IntWalk.i64_in _ (by omega)]; omega
    obtain ⟨-, c0, c1, -, -, -, -, -, -⟩ := HT.out
    have hz := cell_lt c0
    by_cases hlt : j < K
    · have hul : u < l.length := by have := hc.1 hlt; omega
      have hul2 : (u : Int) < (l.length : Int) := by omega
      have hq3 : q + 2 * M < l.length := by omega
      have HQ := Lib.hid hq
      have HL : Hid (secL l hp M 1 (j + 1) = secL l hp M 1 j ++ [secD l hp M q]) := Lib.hid (by rw [secL_succ, hq, Nat.mul_one])
      have hlen : (secL l hp M 1 j).length = j := secL_len _ _ _ _ _
      have w6 : IntKind.i64.wrap ((q : Int) + 1) = (q : Int) + 1 := IntWalk.i64_in _ (by omega)
      have HSW : Hid (SerIn wr l p) := Lib.hid (HS.out.below HT.out.bel)
      have hrs := rsecond_any tau l p cap M q wr HSW.out hp h128 hq3
      have HRS := Lib.hid hrs
      have hq5 : q + 1 ≤ 4096 := by omega
      clear hrs hc hq hu hq3
      go_wp2_with fail
      refine HRS.out.mono ?_
      rintro e x2 ⟨rfl, hb⟩
      have HT2 := Lib.hid (HT.out.below hb)
      clear hb c0 c1 hz HT HSW HRS
      go_wp2_with (at_builtin; refine wpList_append_own_at _ rfl (.tmp 26) (.tmp 31) _ rfl (w.heap.size + 2) 3 i0 (.int .i64 0) 1 8 Try.underlying22 hi0 hz0 hz1 hz2 rfl (by decide) _ _ _ rfl (World.ownsRow.alloc HT2.out.own _) ⟨_, 0, none⟩ 1 1 [.int .i64 (secAt l M q)] rfl rfl (cell_one_new _ _ _) (by simp [Value.oneCell']) (by rw [hlen]; unfold maxLen; omega) (by rw [hlen]; omega) (by have := HT2.out.sz; simp; omega) ?_; intro v' z1 hown hg _ _; have HT3 := Lib.hid (HT2.out.step (secD l hp M q) hown hg); clear hown hg)
      rw [← HL.out] at HT3
      go_roundw
      case rel => exact ⟨j + 1, q + 1, _, by omega, by rw [HQ.out], hq5, rfl, by first | (congr 1; omega) | simp, HT3⟩
      case measure => simp [intOf]; omega
    · have hul : ¬ (u < l.length) := fun h => hlt (hc.2 (by omega))
      have hul2 : ¬ ((u : Int) < (l.length : Int)) := by omega
      obtain rfl : j = K := by omega
      have hlen : (secL l hp M 1 j).length ≤ 128 := by rw [secL_len]; omega
      obtain ⟨p', cap', rfl, hsl⟩ := encI_ser HT.out.own
      have HM := Lib.hid (rmean_any (secL l hp M 1 j) p' cap' D wr hsl hlen ⟨by have := HD.out; omega, by have := HD.out; omega⟩)
      clear hc hlt hsl hq
      go_wp2_with fail
      refine HM.out.mono ?_
      rintro e x2 ⟨rfl, hb⟩
      have HT2 := Lib.hid (HT.out.below hb)
      obtain ⟨N0, hN⟩ : ∃ N0, N0 = varE (secL l hp M 1 j) D := ⟨_, rfl⟩
      rw [← hN]
      obtain ⟨vn, vd, ve⟩ := N0
      have HN := Lib.hid hN
      unfold varVal
      dsimp only
      obtain ⟨-, -, -, b0, b1, b2, b3, -, -⟩ := HT2.out
      have hz' := cell_lt b0
      obtain ⟨r0, r1⟩ := set2 (.int .i64 vn) (.int .i64 vd) b0 b1
      clear hb hN c0 c1 hz HM
      go_wp2
      exact bodyPost_ret (v := .tuple #[.agg #[.int .i64 vn, .int .i64 vd], .int .i64 ve]) (by simp [results, Try.results29, go_sem, r0, r1]) rfl ⟨by rw [← HN.out]; rfl, HT2.out.ret vn vd⟩
theorem roverlapping_any (tau : Int) (l : List Int) (p : Option Addr) (cap : Nat) (m : Int) (w : World) (hs : SerIn w l p) :
    Calls Try.prog 29 #[.agg #[.int .i64 tau, .slice p l.length cap], .int .i64 m] w fun e w' => e = .returned (varVal (overlappingE tau l m)) ∧ Below w.heap.size w w' := by
  by_cases he : stepErr tau l m = 0
  · obtain ⟨h128, ht, hp, hm⟩ := stepErr_zero he
    obtain ⟨M, rfl⟩ : ∃ M : Nat, m = M := ⟨m.toNat, by omega⟩
    have hV : overlappingE tau l M = varE (secL l hp M 1 (cntS l.length (2 * M) 1)) (divTwo M tau) := by unfold overlappingE outE; rw [dif_pos he]; rfl
    rw [hV]
    exact roverlapping_ok tau l p cap M w hs hp h128 (by omega) ht he
  · have hV : overlappingE tau l m = ⟨0, 0, stepErr tau l m⟩ := by unfold overlappingE outE; rw [dif_neg he]
    rw [hV]
    exact roverlapping_err tau l p cap m w hs he
end Go.Proofs.Ythkndjkgokojmaa
