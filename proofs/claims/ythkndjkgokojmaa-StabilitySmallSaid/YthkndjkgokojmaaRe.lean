/- Contracts of the reference of layer 3: modified, Modified, Time. -/
import Derived.Test.YthkndjkgokojmaaRd
import Derived.Test.YthkndjkgokojmaaPc
namespace Go.Proofs.Ythkndjkgokojmaa
open Go Go.RowKit Go.Shelf
/-- what modified keeps while its list grows -/
structure ModAt (w W : World) (tau : Int) (sv v : Value) (xs : List SInt) : Prop where
  own : W.ownsRow (w.heap.size + 1) 3 1 v xs.length (xs.map encI)
  s0 : W.cell? ⟨w.heap.size, 0, none⟩ = some (.int .i64 tau)
  s1 : W.cell? ⟨w.heap.size, 1, none⟩ = some sv
  bel : Below w.heap.size w W
  sz : w.heap.size + 1 ≤ W.heap.size
variable {w W Y : World} {tau : Int} {sv v v' : Value} {xs : List SInt} {o : Obj}
theorem ModAt.below (h : ModAt w W tau sv v xs) (hb : Below W.heap.size W Y) : ModAt w Y tau sv v xs :=
  ⟨own_of_below h.own hb, cell_below hb h.s0, cell_below hb h.s1, h.bel.trans (hb.mono h.bel.size), Nat.le_trans h.sz hb.size⟩
theorem ModAt.step (h : ModAt w W tau sv v xs) (d : SInt) (hown : Y.ownsRow (w.heap.size + 1) 3 1 v' (xs.length + 1) (xs.map encI ++ [.int .i64 d.1])) (hg : (W.alloc o).grownBy Y v.ownBlock) : ModAt w Y tau sv v' (xs ++ [d]) := by
  have hne : ∀ k, k < w.heap.size + 1 → v.ownBlock ≠ some k := fun k hk e => by have := (World.ownsRow.lt h.own k e).1; omega
  have hsz := h.sz
  have hs2 := hg.size
  refine ⟨by simpa [encI] using hown, grown_cell hg (hne _ (by omega)) h.s0, grown_cell hg (hne _ (by omega)) h.s1, ?_, by simp at hs2; omega⟩
  exact (h.bel.alloc h.bel.size o).grown hg (by have := h.bel.size; simp; omega) (fun k e => by have := (World.ownsRow.lt h.own k e).1; omega)
theorem ModAt.start (w : World) (tau : Int) (sv : Value) : ModAt w (w.alloc (.cells #[.int .i64 tau, sv] 63)) tau sv (.slice none 0 0) [] :=
  ⟨World.ownsRow_nil _ _ _ _, by simp [go_sem], by simp [go_sem], below_alloc (Below.refl _ _) _, by simp⟩
theorem sec_bd {l : List Int} (hp : phasesOk l = true) (m i : Nat) : -4000000 ≤ secAt l m i ∧ secAt l m i ≤ 4000000 := by
  have h1 := atL_bd hp (i + 2 * m); have h2 := atL_bd hp (i + m); have h3 := atL_bd hp i
  unfold secAt; omega
set_option maxRecDepth 100000 in
set_option maxHeartbeats 4000000 in
theorem rmodified_list (tau : Int) (l : List Int) (p : Option Addr) (cap M : Nat) (w : World) (hs : SerIn w l p) (hp : phasesOk l = true) (h128 : l.length ≤ 128) (hm : 1 ≤ M ∧ M ≤ 32) :
    Calls Try.prog 70 #[.agg #[.int .i64 tau, .slice p l.length cap], .int .i64 M] w fun e w' => ∃ p' c', e = .returned (.slice p' (sumsL l hp M).length c') ∧ SliceIn p' (sumsL l hp M).length (IntsAt w' ((sumsL l hp M).map fun d => d.1)) ∧ Below w.heap.size w w' := by
  obtain ⟨i0, hi0, hz0, hz1, hz2⟩ := info_parts infoInt
  have HR0 := Lib.hid (ModAt.start w tau (.slice p l.length cap))
  have HS := Lib.hid hs
  obtain ⟨K, hK⟩ : ∃ K, K = l.length - 2 * M + 1 - M := ⟨_, rfl⟩
  have hK128 : K ≤ 128 := by omega
  have HLT := Lib.hid (fun j => show j < K ↔ j + 3 * M ≤ l.length by omega)
  have hxs : sumsL l hp M = sumsK l hp M K := by rw [hK]; rfl
  rw [hxs]
  clear hs hK hxs
  have w1 : IntKind.i64.wrap (3 * (M : Int)) = 3 * (M : Int) := IntWalk.i64_in _ (by omega)
  have w2 : IntKind.i64.wrap (2 * (M : Int)) = 2 * (M : Int) := IntWalk.i64_in _ (by omega)
  go_enter Try.func70, Try.ntmps70
  go_wp2
  go_loopw [5, 6] (fun s i wr => ∃ (q : Nat) (v : Value), q ≤ K ∧ s = v ∧ i = .int .i64 (q : Int) ∧ Hid (ModAt w wr tau (.slice p l.length cap) v (sumsK l hp M q))) (fun _ i _ => (5000 - intOf i).toNat)
  case atStart => exact ⟨0, _, Nat.zero_le _, rfl, rfl, HR0⟩
  case round =>
    obtain ⟨q, v, hj, rfl, rfl, HT⟩ := hrel
    have hc := HLT.out q
    obtain ⟨u, hu⟩ : ∃ u : Nat, u = q + 3 * M := ⟨_, rfl⟩
    have w5 : IntKind.i64.wrap ((q : Int) + 3 * (M : Int)) = (u : Int) := by rw [IntWalk.i64_in _ (by omega)]; omega
    obtain ⟨-, c0, c1, -, -⟩ := HT.out
    have hz := cell_lt c0
    by_cases hlt : q < K
    · have hul : u ≤ l.length := by have := hc.1 hlt; omega
      have hul2 : (u : Int) ≤ (l.length : Int) := by omega
      obtain ⟨b, o, rfl, hi⟩ := HS.out.2.resolve_left (by omega)
      obtain ⟨t, htt⟩ : ∃ t : Nat, t = q + M := ⟨_, rfl⟩
      have w6 : IntKind.i64.wrap ((q : Int) + (M : Int)) = (t : Int) := by rw [IntWalk.i64_in _ (by omega)]; omega
      have w7 : IntKind.i64.wrap ((q : Int) + 1) = (q : Int) + 1 := IntWalk.i64_in _ (by omega)
      have HI := Lib.hid hi
      have HL : Hid (sumsK l hp M (q + 1) = sumsK l hp M q ++ [sumsD l hp M q]) := Lib.hid (sumsK_succ _ _ _ _)
      have HV : Hid (sumF (fun j => secAt l M (q + j)) M = (sumsD l hp M q).1) := Lib.hid (sumsV_eq l hp M q hm.2 (by omega)).symm
      have hlen : (sumsK l hp M q).length = q := sumsK_len _ _ _ _
      have HBS := Lib.hid (fun k (hk : k ≤ M) => sumF_bd (fun j => secAt l M (q + j)) 4000000 k (fun j _ => sec_bd hp M (q + j)))
      have HTT := Lib.hid htt
      have HU := Lib.hid hu
      have HUL := Lib.hid hul
      clear hi hc hu htt
      go_wp2
      go_loopw [7, 8] (fun n i wx => ∃ k g : Nat, k ≤ M ∧ g = q + k ∧ i = .int .i64 (g : Int) ∧ n = .int .i64 (sumF (fun j => secAt l M (q + j)) k) ∧ Hid (Below wr.heap.size wr wx)) (fun _ i _ => (5000 - intOf i).toNat)
      case atStart => exact ⟨0, q, Nat.zero_le _, by omega, rfl, rfl, Lib.hid (Below.refl _ _)⟩
      case round =>
        obtain ⟨k, g, hk, hg, rfl, rfl, HB⟩ := hrel
        have d0 := cell_below HB.out c0
        have d1 := cell_below HB.out c1
        have hzd := cell_lt d0
        by_cases hlk : k < M
        · have hgt : (g : Int) < (t : Int) := by have := HTT.out; omega
          obtain ⟨g1, hg1⟩ : ∃ g1 : Nat, g1 = g + M := ⟨_, rfl⟩
          obtain ⟨g2, hg2⟩ : ∃ g2 : Nat, g2 = g + 2 * M := ⟨_, rfl⟩
          have hg2l : g2 < l.length := by have := HU.out; have := HUL.out; omega
          have hg1l : g1 < l.length := by omega
          have hgl : g < l.length := by omega
          have hbe := HT.out.bel.trans (HB.out.mono HT.out.bel.size)
          have y0 := cell_below hbe (HI.out g hgl)
          have y1 := cell_below hbe (HI.out g1 hg1l)
          have y2 := cell_below hbe (HI.out g2 hg2l)
          rw [atL_get] at y0 y1 y2
          have b0 := atL_bd hp g
          have b1 := atL_bd hp g1
          have b2 := atL_bd hp g2
          have bs := HBS.out k hk
          have HSS := Lib.hid (show sumF (fun j => secAt l M (q + j)) (k + 1) = sumF (fun j => secAt l M (q + j)) k + atL l g - 2 * atL l g1 + atL l g2 by
            show sumF (fun j => secAt l M (q + j)) k + secAt l M (q + k) = _
            unfold secAt
            rw [hg2, hg1, hg]; omega)
          have v1 : IntKind.i64.wrap ((g : Int) + (M : Int)) = (g1 : Int) := by rw [IntWalk.i64_in _ (by omega)]; omega
          have v2 : IntKind.i64.wrap ((g : Int) + 2 * (M : Int)) = (g2 : Int) := by rw [IntWalk.i64_in _ (by omega)]; omega
          have v3 : IntKind.i64.wrap ((g : Int) + 1) = (g : Int) + 1 := IntWalk.i64_in _ (by omega)
          have l0 : (g : Int) < (l.length : Int) := by omega
          have l1 : (g1 : Int) < (l.length : Int) := by omega
          have l2 : (g2 : Int) < (l.length : Int) := by omega
          have HG := Lib.hid hg
          clear hg1 hg2 hbe hg
          generalize atL l g = x0 at *
          generalize atL l g1 = x1 at *
          generalize atL l g2 = x2 at *
          generalize sumF (fun j => secAt l M (q + j)) k = S at *
          have v4 : IntKind.i64.wrap (S + x0) = S + x0 := IntWalk.i64_in _ (by omega)
          have v5 : IntKind.i64.wrap (2 * x1) = 2 * x1 := IntWalk.i64_in _ (by omega)
          have v6 : IntKind.i64.wrap (S + x0 - 2 * x1) = S + x0 - 2 * x1 := IntWalk.i64_in _ (by omega)
          have v7 : IntKind.i64.wrap (S + x0 - 2 * x1 + x2) = S + x0 - 2 * x1 + x2 := IntWalk.i64_in _ (by omega)
          clear b0 b1 b2 bs
          go_wp2
          go_quiet (fail)
          go_wp2
          go_roundw
          case rel => exact ⟨k + 1, g + 1, by omega, by have := HG.out; omega, by simp, by rw [HSS.out], Lib.hid (below_drewN HB.out _)⟩
          case measure => simp [intOf]; omega
        · obtain rfl : k = M := by omega
          have hgt : ¬ ((g : Int) < (t : Int)) := by have := HTT.out; omega
          have HT2 := Lib.hid (HT.out.below HB.out)
          rw [HV.out]
          clear HT d0 d1 hzd c0 c1 hz hg
          go_wp2_with (at_builtin; refine wpList_append_own_at _ rfl (.tmp 52) (.tmp 54) _ rfl (w.heap.size + 1) 3 i0 (.int .i64 0) 1 8 Try.underlying22 hi0 hz0 hz1 hz2 rfl (by decide) _ _ _ rfl (World.ownsRow.alloc HT2.out.own _) ⟨_, 0, none⟩ 1 1 [.int .i64 (sumsD l hp k q).1] rfl rfl (cell_one_new _ _ _) (by simp [Value.oneCell']) (by rw [hlen]; unfold maxLen; omega) (by rw [hlen]; omega) (by have := HT2.out.sz; simp; omega) ?_; intro v' z1 hown hgg _ _; have HT3 := Lib.hid (HT2.out.step (sumsD l hp k q) hown hgg); clear hown hgg)
          rw [← HL.out] at HT3
          go_roundw
          case rel => exact ⟨q + 1, _, by omega, rfl, by simp, HT3⟩
          case measure => simp [intOf]; omega
    · have hul : ¬ (u ≤ l.length) := fun h => hlt (hc.2 (by omega))
      have hul2 : ¬ ((u : Int) ≤ (l.length : Int)) := by omega
      obtain rfl : q = K := by omega
      obtain ⟨p', cap', rfl, hsl⟩ := encI_ser HT.out.own
      have HSL := Lib.hid hsl
      clear hsl hc
      go_wp2
      go_ret
      exact ⟨p', ⟨cap', rfl⟩, HSL.out, HT.out.bel⟩
theorem rmod_keep (X : World) (tau : Int) (l : List Int) (p : Option Addr) (cap M : Nat) (w : World) (hX : Below X.heap.size X w) (hs : SerIn X l p) (hp : phasesOk l = true) (h128 : l.length ≤ 128) (hm : 1 ≤ M ∧ M ≤ 32) :
    Calls Try.prog 70 #[.agg #[.int .i64 tau, .slice p l.length cap], .int .i64 M] w fun e w' => ∃ p' c', e = .returned (.slice p' (sumsL l hp M).length c') ∧ SliceIn p' (sumsL l hp M).length (IntsAt w' ((sumsL l hp M).map fun d => d.1)) ∧ Below X.heap.size X w' :=
  (rmodified_list tau l p cap M w (hs.below hX) hp h128 hm).mono fun _ _ ⟨a, b, h1, h2, h3⟩ => ⟨a, b, h1, h2, hX.trans (h3.mono hX.size)⟩
theorem rmean_keep (X : World) (xs : List SInt) (p : Option Addr) (cap : Nat) (dv : Int) (w : World) (hX : Below X.heap.size X w) (hs : SliceIn p xs.length (IntsAt w (xs.map fun d => d.1))) (h128 : xs.length ≤ 128) (hd : 1 ≤ dv ∧ dv ≤ 10000000000000000) (V : VarE) (hV : varE xs dv = V) :
    Calls Try.prog 69 #[.slice p xs.length cap, .int .i64 dv] w fun e w' => e = .returned (.tuple #[.agg #[.int .i64 V.n, .int .i64 V.d], .int .i64 V.e]) ∧ Below X.heap.size X w' := by
  subst hV
  exact (rmean_any xs p cap dv w hs h128 hd).mono fun _ _ ⟨h1, h2⟩ => ⟨h1, hX.trans (h2.mono hX.size)⟩
theorem rmodified_err (tau : Int) (l : List Int) (p : Option Addr) (cap : Nat) (m : Int) (w : World) (hs : SerIn w l p) (he : stepErr tau l m ≠ 0) :
    Calls Try.prog 31 #[.agg #[.int .i64 tau, .slice p l.length cap], .int .i64 m] w fun e w' => e = .returned (varVal ⟨0, 0, stepErr tau l m⟩) ∧ Below w.heap.size w w' := by
  have a0 : Below w.heap.size w ((w.alloc (.cells #[.int .i64 tau, .slice p l.length cap] 63)).alloc (.cells #[.int .i64 0, .int .i64 0] 24)) := below_alloc (below_alloc (Below.refl _ _) _) _
  have HC := Lib.hid (rchecked_any tau l p cap m _ (hs.below a0))
  have HR0 := Lib.hid (RefAt.start w tau (.slice p l.length cap))
  have hne : (stepErr tau l m != 0) = true := by simpa using he
  clear hs a0 he
  go_enter Try.func31, Try.ntmps31
  go_wp2_with fail
  refine HC.out.mono ?_
  rintro e w1 ⟨rfl, hb⟩
  have HR1 := Lib.hid (HR0.out.below hb)
  obtain ⟨-, -, -, b0, b1, b2, b3, -, -⟩ := HR1.out
  have hz := cell_lt b0
  obtain ⟨r0, r1⟩ := set2 (.int .i64 0) (.int .i64 0) b0 b1
  clear hb
  go_wp2
  exact bodyPost_ret (v := .tuple #[.agg #[.int .i64 0, .int .i64 0], .int .i64 (stepErr tau l m)]) (by simp [results, Try.results31, go_sem, r0, r1]) rfl ⟨rfl, HR1.out.ret 0 0⟩
set_option maxRecDepth 100000 in
set_option maxHeartbeats 4000000 in
theorem rmodified_ok (tau : Int) (l : List Int) (p : Option Addr) (cap M : Nat) (w : World) (hs : SerIn w l p) (hp : phasesOk l = true) (h128 : l.length ≤ 128) (hm : 1 ≤ M ∧ M ≤ 32) (ht : 1 ≤ tau ∧ tau ≤ 1000) (he : stepErr tau l M = 0) :
    Calls Try.prog 31 #[.agg #[.int .i64 tau, .slice p l.length cap], .int .i64 M] w fun e w' => e = .returned (varVal (varE (sumsL l hp M) (divMod M tau))) ∧ Below w.heap.size w w' := by
  have a0 : Below w.heap.size w ((w.alloc (.cells #[.int .i64 tau, .slice p l.length cap] 63)).alloc (.cells #[.int .i64 0, .int .i64 0] 24)) := below_alloc (below_alloc (Below.refl _ _) _) _
  have HC := Lib.hid (rchecked_any tau l p cap M _ (hs.below a0))
  have HR0 := Lib.hid (RefAt.start w tau (.slice p l.length cap))
  have HS := Lib.hid hs
  have hlen := sumsL_len l hp M h128 hm.1
  obtain ⟨D, hD⟩ : ∃ D, D = divMod M tau := ⟨_, rfl⟩
  have hDV := divMod_last M tau (by omega) ht
  obtain ⟨e1, e2, e3, e4, e5⟩ := divMod_bd M tau (by omega) ht
  have m1 : IntKind.i64.wrap (2 * (M : Int)) = 2 * (M : Int) := IntWalk.i64_in _ (by omega)
  have m2 : IntKind.i64.wrap (2 * (M : Int) * M) = 2 * (M : Int) * M := IntWalk.i64_in _ (by omega)
  have m3 : IntKind.i64.wrap (2 * (M : Int) * M * M) = 2 * (M : Int) * M * M := IntWalk.i64_in _ (by omega)
  have m4 : IntKind.i64.wrap (2 * (M : Int) * M * M * M) = 2 * (M : Int) * M * M * M := IntWalk.i64_in _ (by omega)
  have m5 : IntKind.i64.wrap (2 * (M : Int) * M * M * M * tau) = 2 * (M : Int) * M * M * M * tau := IntWalk.i64_in _ (by omega)
  have m6 : IntKind.i64.wrap (2 * (M : Int) * M * M * M * tau * tau) = D := by rw [hD]; exact IntWalk.i64_in _ (by unfold divMod at e5; omega)
  clear e1 e2 e3 e4 e5
  rw [← hD] at hDV ⊢
  have HD := Lib.hid (show 1 ≤ D ∧ D ≤ 10000000000000000 by omega)
  obtain ⟨⟨vn, vd, ve⟩, hV⟩ : ∃ V, varE (sumsL l hp M) D = V := ⟨_, rfl⟩
  have HV := Lib.hid hV
  have HVV : Hid (varVal (varE (sumsL l hp M) D) = .tuple #[.agg #[.int .i64 vn, .int .i64 vd], .int .i64 ve]) := Lib.hid (by rw [hV]; rfl)
  rw [HVV.out]
  clear hs a0 hD hDV hV
  go_enter Try.func31, Try.ntmps31
  go_wp2_with fail
  refine HC.out.mono ?_
  rintro e x1 ⟨rfl, hb⟩
  rw [he]
  have HR1 := Lib.hid (HR0.out.below hb)
  clear hb HC HR0
  have HSW : Hid (SerIn x1 l p) := Lib.hid (HS.out.below HR1.out.bel)
  obtain ⟨-, c0, c1, -, -, -, -, -, -⟩ := HR1.out
  have hz := cell_lt c0
  have hB0 : Below x1.heap.size x1 x1.drew := Below.drew (Below.refl _ _)
  go_upto_region 4 with fail
  go_region_held3 (fun w' => w'.cell? ⟨w.heap.size, 0, none⟩ = some (.int .i64 tau) ∧ w'.cell? ⟨w.heap.size, 1, none⟩ = some (.slice p l.length cap))
    (first | exact ⟨c0, c1⟩ | exact ⟨hk0, hk1⟩ | exact ⟨cell_below hb3 c0, cell_below hb3 c1⟩ | exact ⟨cell_below hb2 c0, cell_below hb2 c1⟩)
    (first | (go_at_call 70; refine (rmod_keep x1 tau l p cap M _ hB0 HSW.out hp h128 hm).mono ?_; rintro e w2 ⟨p', c', rfl, hsl, hb2⟩) |
      (go_at_call 69; refine (rmean_keep x1 (sumsL l hp M) p' c' D _ hb2 hsl hlen HD.out _ HV.out).mono ?_; rintro e w3 ⟨rfl, hb3⟩; have HT2 := Lib.hid (HR1.out.below hb3); obtain ⟨-, f0, f1, b0, b1, b2, b3, -, -⟩ := HT2.out; have hz' := cell_lt b0; obtain ⟨r0, r1⟩ := set2 (.int .i64 vn) (.int .i64 vd) b0 b1; have hk0 : ((w3.setCell ⟨w.heap.size + 1, 0, none⟩ (.int .i64 vn)).setCell ⟨w.heap.size + 1, 1, none⟩ (.int .i64 vd)).cell? ⟨w.heap.size, 0, none⟩ = some (.int .i64 tau) := (by rw [World.cell?_setCell_far _ _ _ _ (by show w.heap.size + 1 ≠ w.heap.size; omega), World.cell?_setCell_far _ _ _ _ (by show w.heap.size + 1 ≠ w.heap.size; omega)]; exact f0); have hk1 : ((w3.setCell ⟨w.heap.size + 1, 0, none⟩ (.int .i64 vn)).setCell ⟨w.heap.size + 1, 1, none⟩ (.int .i64 vd)).cell? ⟨w.heap.size, 1, none⟩ = some (.slice p l.length cap) := (by rw [World.cell?_setCell_far _ _ _ _ (by show w.heap.size + 1 ≠ w.heap.size; omega), World.cell?_setCell_far _ _ _ _ (by show w.heap.size + 1 ≠ w.heap.size; omega)]; exact f1)))
  go_wp2
  exact bodyPost_ret (v := .tuple #[.agg #[.int .i64 vn, .int .i64 vd], .int .i64 ve]) (by simp [results, Try.results31, go_sem, r0, r1]) rfl ⟨rfl, HT2.out.ret vn vd⟩
theorem rmodified_any (tau : Int) (l : List Int) (p : Option Addr) (cap : Nat) (m : Int) (w : World) (hs : SerIn w l p) :
    Calls Try.prog 31 #[.agg #[.int .i64 tau, .slice p l.length cap], .int .i64 m] w fun e w' => e = .returned (varVal (modifiedE tau l m)) ∧ Below w.heap.size w w' := by
  by_cases he : stepErr tau l m = 0
  · obtain ⟨h128, ht, hp, hm⟩ := stepErr_zero he
    obtain ⟨M, rfl⟩ : ∃ M : Nat, m = M := ⟨m.toNat, by omega⟩
    have hV : modifiedE tau l M = varE (sumsL l hp M) (divMod M tau) := by unfold modifiedE outE; rw [dif_pos he]; rfl
    rw [hV]
    exact rmodified_ok tau l p cap M w hs hp h128 (by omega) ht he
  · have hV : modifiedE tau l m = ⟨0, 0, stepErr tau l m⟩ := by unfold modifiedE outE; rw [dif_neg he]
    rw [hV]
    exact rmodified_err tau l p cap m w hs he
theorem rtime_err (tau : Int) (l : List Int) (p : Option Addr) (cap : Nat) (m : Int) (w : World) (hs : SerIn w l p) (he : stepErr tau l m ≠ 0) :
    Calls Try.prog 35 #[.agg #[.int .i64 tau, .slice p l.length cap], .int .i64 m] w fun e w' => e = .returned (varVal ⟨0, 0, stepErr tau l m⟩) ∧ Below w.heap.size w w' := by
  have a0 : Below w.heap.size w ((w.alloc (.cells #[.int .i64 tau, .slice p l.length cap] 63)).alloc (.cells #[.int .i64 0, .int .i64 0] 24)) := below_alloc (below_alloc (Below.refl _ _) _) _
  have HC := Lib.hid (rchecked_any tau l p cap m _ (hs.below a0))
  have HR0 := Lib.hid (RefAt.start w tau (.slice p l.length cap))
  have hne : (stepErr tau l m != 0) = true := by simpa using he
  clear hs a0 he
  go_enter Try.func35, Try.ntmps35
  go_wp2_with fail
  refine HC.out.mono ?_
  rintro e w1 ⟨rfl, hb⟩
  have HR1 := Lib.hid (HR0.out.below hb)
  obtain ⟨-, -, -, b0, b1, b2, b3, -, -⟩ := HR1.out
  have hz := cell_lt b0
  obtain ⟨r0, r1⟩ := set2 (.int .i64 0) (.int .i64 0) b0 b1
  clear hb
  go_wp2
  exact bodyPost_ret (v := .tuple #[.agg #[.int .i64 0, .int .i64 0], .int .i64 (stepErr tau l m)]) (by simp [results, Try.results35, go_sem, r0, r1]) rfl ⟨rfl, HR1.out.ret 0 0⟩
set_option maxRecDepth 100000 in
set_option maxHeartbeats 4000000 in
theorem rtime_ok (tau : Int) (l : List Int) (p : Option Addr) (cap M : Nat) (w : World) (hs : SerIn w l p) (hp : phasesOk l = true) (h128 : l.length ≤ 128) (hm : 1 ≤ M ∧ M ≤ 32) (ht : 1 ≤ tau ∧ tau ≤ 1000) (he : stepErr tau l M = 0) :
    Calls Try.prog 35 #[.agg #[.int .i64 tau, .slice p l.length cap], .int .i64 M] w fun e w' => e = .returned (varVal (varE (sumsL l hp M) (divTime M tau))) ∧ Below w.heap.size w w' := by
  have a0 : Below w.heap.size w ((w.alloc (.cells #[.int .i64 tau, .slice p l.length cap] 63)).alloc (.cells #[.int .i64 0, .int .i64 0] 24)) := below_alloc (below_alloc (Below.refl _ _) _) _
  have HC := Lib.hid (rchecked_any tau l p cap M _ (hs.below a0))
  have HR0 := Lib.hid (RefAt.start w tau (.slice p l.length cap))
  have HS := Lib.hid hs
  have hlen := sumsL_len l hp M h128 hm.1
  obtain ⟨D, hD⟩ : ∃ D, D = divTime M tau := ⟨_, rfl⟩
  have hDV := divTime_last M tau (by omega) ht
  have m1 : IntKind.i64.wrap (6 * (M : Int)) = 6 * (M : Int) := IntWalk.i64_in _ (by omega)
  have m2 : IntKind.i64.wrap (6 * (M : Int) * M) = D := by rw [hD]; exact IntWalk.i64_in _ (by unfold divTime at hDV; omega)
  rw [← hD] at hDV ⊢
  have HD := Lib.hid (show 1 ≤ D ∧ D ≤ 10000000000000000 by omega)
  obtain ⟨⟨vn, vd, ve⟩, hV⟩ : ∃ V, varE (sumsL l hp M) D = V := ⟨_, rfl⟩
  have HV := Lib.hid hV
  have HVV : Hid (varVal (varE (sumsL l hp M) D) = .tuple #[.agg #[.int .i64 vn, .int .i64 vd], .int .i64 ve]) := Lib.hid (by rw [hV]; rfl)
  rw [HVV.out]
  clear hs a0 hD hDV hV
  go_enter Try.func35, Try.ntmps35
  go_wp2_with fail
  refine HC.out.mono ?_
  rintro e x1 ⟨rfl, hb⟩
  rw [he]
  have HR1 := Lib.hid (HR0.out.below hb)
  clear hb HC HR0
  have HSW : Hid (SerIn x1 l p) := Lib.hid (HS.out.below HR1.out.bel)
  obtain ⟨-, c0, c1, -, -, -, -, -, -⟩ := HR1.out
  have hz := cell_lt c0
  have hB0 : Below x1.heap.size x1 x1.drew := Below.drew (Below.refl _ _)
  clear hB0
  go_wp2_with fail
  refine (rmod_keep x1 tau l p cap M _ (Below.refl _ _) HSW.out hp h128 hm).mono ?_
  rintro e w2 ⟨p', c', rfl, hsl, hb2⟩
  have HSL := Lib.hid hsl
  have HB2 := Lib.hid hb2
  clear hsl hb2 c0 c1 hz
  go_wp2_with fail
  refine (rmean_keep x1 (sumsL l hp M) p' c' D _ HB2.out HSL.out hlen HD.out _ HV.out).mono ?_
  rintro e w3 ⟨rfl, hb3⟩
  have HT2 := Lib.hid (HR1.out.below hb3)
  obtain ⟨-, -, -, b0, b1, b2, b3, -, -⟩ := HT2.out
  have hz' := cell_lt b0
  obtain ⟨r0, r1⟩ := set2 (.int .i64 vn) (.int .i64 vd) b0 b1
  clear hb3
  go_wp2
  exact bodyPost_ret (v := .tuple #[.agg #[.int .i64 vn, .int .i64 vd], .int .i64 ve]) (by simp [results, Try.results35, go_sem, r0, r1]) rfl ⟨rfl, HT2.out.ret vn vd⟩
theorem rtime_any (tau : Int) (l : List Int) (p : Option Addr) (cap : Nat) (m : Int) (w : World) (hs : SerIn w l p) :
    Calls Try.prog 35 #[.agg #[.int .i64 tau, .slice p l.length cap], .int .i64 m] w fun e w' => e = .returned (varVal (timeE tau l m)) ∧ Below w.heap.size w w' := by
  by_cases he : stepErr tau l m = 0
  · obtain ⟨h128, ht, hp, hm⟩ := stepErr_zero he
    obtain ⟨M, rfl⟩ : ∃ M : Nat, m = M := ⟨m.toNat, by omega⟩
    have hV : timeE tau l M = varE (sumsL l hp M) (divTime M tau) := by unfold timeE outE; rw [dif_pos he]; rfl
    rw [hV]
    exact rtime_ok tau l p cap M w hs hp h128 (by omega) ht he
  · have hV : timeE tau l m = ⟨0, 0, stepErr tau l m⟩ := by unfold timeE outE; rw [dif_neg he]
    rw [hV]
    exact rtime_err tau l p cap m w hs he
end Go.Proofs.Ythkndjkgokojmaa
