/- Contracts of layer 3: Median, where its arguments are allowed. -/
import Derived.Test.YtemblamamgfodaaGreatDoorStT
import Derived.Test.YtemblamamgfodaaGreatDoorStU
import Derived.Test.YtemblamamgfodaaGreatDoorStV
import Derived.Test.YtemblamamgfodaaGreatDoorStW
import Derived.Test.YtemblamamgfodaaGreatDoorStB
namespace Go.Proofs.YtemblamamgfodaaGreatDoor
open Go Go.RowKit Go.Shelf
theorem chN_bd {n k : Nat} (hn : n ≤ 40) (hk : 2 * k ≤ n) : 0 ≤ chN n k ∧ chN n k ≤ 1099511627776 := by
  have h := List.all_eq_true.1 chB_yes n (by simp; omega)
  have h := List.all_eq_true.1 h k (by simp; omega)
  simp only [Bool.and_eq_true, Bool.or_eq_true, decide_eq_true_eq] at h
  have h1 := pow_bd hn
  have h2 := (ch_bd (n := n) (i := k) hn (by omega)).2
  unfold chN
  omega
theorem low_le (n d : Int) (hn : 0 ≤ n) (hd : 1 ≤ d) : (0 ≤ lowN n d ∧ lowN n d ≤ n) ∧ (1 ≤ lowD n d ∧ lowD n d ≤ d) := by
  have hg := gcdS_pos n d hd
  refine ⟨⟨Int.ediv_nonneg hn (by omega), Int.ediv_le_self _ hn⟩, lowD_pos n d hd, Int.ediv_le_self _ (by omega)⟩
def mN (n q : Nat) : Int := lowN (chN n q) (2 ^ n)
def mD (n q : Nat) : Int := lowD (chN n q) (2 ^ n)
theorem m_bd {n q : Nat} (hn : n ≤ 40) (hk : 2 * q ≤ n) : (0 ≤ mN n q ∧ mN n q ≤ 1099511627776) ∧ (1 ≤ mD n q ∧ mD n q ≤ 1099511627776) := by
  have h1 := chN_bd hn hk
  have h2 := pow_bd hn
  have h3 := low_le (chN n q) (2 ^ n) h1.1 h2.1
  unfold mN mD
  omega
def medFind (n : Nat) (N D : Int) : Nat → Nat
  | 0 => 0
  | q + 1 => if N * mD n (q + 1) ≤ mN n (q + 1) * D then q + 1 else medFind n N D q
structure MedAt (w : World) (N D : Int) (S : List Int) (g : Nat) (W : World) : Prop where
  n0 : W.cell? ⟨w.heap.size, 0, none⟩ = some (.int .i64 N)
  d0 : W.cell? ⟨w.heap.size, 1, none⟩ = some (.int .i64 D)
  four : Four W (w.heap.size + 1)
  ints : IntsAt W S g 0
  below : Below w.heap.size w W
theorem MedAt.later {w : World} {N D : Int} {S : List Int} {g : Nat} {W C : World} (h : MedAt w N D S g W) (hb : Below W.heap.size W C) : MedAt w N D S g C :=
  ⟨cell_below hb h.n0, cell_below hb h.d0, h.four.below hb, h.ints.below hb, h.below.trans (hb.mono h.below.size)⟩
set_option maxRecDepth 100000 in
set_option maxHeartbeats 2000000 in
theorem median_ok (l : List Int) (b o cap : Nat) (N D : Int) (w : World) (hl : 2 ≤ l.length ∧ l.length ≤ 40) (hi : IntsAt w l b o) (hN : I64 N) (hD : I64 D) (hp : partB N D = true) :
    Calls Tryz.prog 47 #[.slice (some ⟨b, o, none⟩) l.length cap, .agg #[.int .i64 N, .int .i64 D]] w fun e w' =>
      e = .returned (.tuple (if medFind l.length N D (l.length / 2) = 0 then #[.agg #[.int .i64 0, .int .i64 0, .int .i64 0, .int .i64 0], .int .i64 4] else
        #[.agg #[.int .i64 (atL (sortL l) (medFind l.length N D (l.length / 2) - 1)), .int .i64 (atL (sortL l) (l.length - medFind l.length N D (l.length / 2))), .int .i64 (mN l.length (medFind l.length N D (l.length / 2))), .int .i64 (mD l.length (medFind l.length N D (l.length / 2)))], .int .i64 0])) ∧ Below w.heap.size w w' := by
  obtain ⟨R, hR⟩ : ∃ R, R = medFind l.length N D (l.length / 2) := ⟨_, rfl⟩
  rw [← hR]
  obtain ⟨V, hV⟩ : ∃ V : Value, V = .tuple (if R = 0 then #[.agg #[.int .i64 0, .int .i64 0, .int .i64 0, .int .i64 0], .int .i64 4] else #[.agg #[.int .i64 (atL (sortL l) (R - 1)), .int .i64 (atL (sortL l) (l.length - R)), .int .i64 (mN l.length R), .int .i64 (mD l.length R)], .int .i64 0]) := ⟨_, rfl⟩
  rw [← hV]
  have HV := Lib.hid hV
  have HR := Lib.hid hR
  clear hV hR
  have a0 := below_alloc (below_alloc (Below.refl w.heap.size w) (.cells #[.int .i64 N, .int .i64 D] 58)) (.cells #[.int .i64 0, .int .i64 0, .int .i64 0, .int .i64 0] 123)
  have hM : MedAt w N D [] 0 ((w.alloc (.cells #[.int .i64 N, .int .i64 D] 58)).alloc (.cells #[.int .i64 0, .int .i64 0, .int .i64 0, .int .i64 0] 123)) :=
    ⟨by simp, by simp, ⟨by simp, by simp, by simp, by simp, by simp, by simp, by simp, by simp⟩, (fun i hi => absurd hi (Nat.not_lt_zero i)), a0⟩
  have HM := Lib.hid hM
  have HI := Lib.hid (hi.below a0)
  have HW := Lib.hid (fun W => within_yes (l.length : Int) 2 40 W (by omega))
  have HP := Lib.hid (isPart_any N D ((w.alloc (.cells #[.int .i64 N, .int .i64 D] 58)).alloc (.cells #[.int .i64 0, .int .i64 0, .int .i64 0, .int .i64 0] 123)) hN hD)
  rw [hp] at HP
  have HPB := Lib.hid hp
  clear hi a0 hM hp
  go_enter Tryz.func47, Tryz.ntmps47
  go_wp2_with (first | (go_at_call 27; refine (HW.out _).mono ?_; rintro e w1 ⟨rfl, rfl⟩) | (go_at_call 85; refine HP.out.mono ?_; rintro e w2 ⟨rfl, hb2⟩; have HM2 := Lib.hid (HM.out.later hb2); have HI2 := Lib.hid (HI.out.below hb2); clear hb2))
  refine (clone_some l b o cap w2 (by omega) HI2.out).mono ?_
  rintro e w3 ⟨v, rfl, hrow, hb3⟩
  obtain ⟨g, cap', hv⟩ := ownsRow_succ (k := l.length - 1) (by rw [Nat.sub_add_cancel (by omega)]; exact hrow)
  rw [Nat.sub_add_cancel (by omega)] at hv
  subst hv
  have HSO := Lib.hid (sort_own l _ w2.heap.size w3 hrow (by omega) (by omega) hb3.size)
  have HB3 := Lib.hid hb3
  clear hrow hb3 HI HI2 HW HP HM
  go_wp2_with fail
  refine HSO.out.mono ?_
  rintro e w4 ⟨rfl, hrow4, hb4⟩
  have hM4 := HM2.out.later (HB3.out.trans hb4)
  have hrow5 : w4.ownsRow w2.heap.size 3 1 (.slice (some ⟨g, 0, none⟩) l.length cap') (sortL l).length ((sortL l).map (Value.int .i64)) := by rw [sortL_len]; exact hrow4
  obtain ⟨p', cap'', hev, hS, -, hcap⟩ := ints_own hrow5
  simp only [Value.slice.injEq] at hev
  obtain ⟨rfl, -, rfl⟩ := hev
  obtain ⟨b', o', hpp, hi5⟩ := hS.resolve_left (by rw [sortL_len]; omega)
  cases hpp
  have HM5 := Lib.hid (show MedAt w N D (sortL l) g w4 from ⟨hM4.n0, hM4.d0, hM4.four, hi5, hM4.below⟩)
  have hsl := sortL_len l
  have hq : IntKind.i64.wrap ((l.length : Int).tdiv 2) = ((l.length / 2 : Nat) : Int) := by rw [IntWalk.i64_quo _ _ (by omega)]; omega
  have hh : 2 * (l.length / 2) ≤ l.length := by omega
  obtain ⟨h2, hh2⟩ : ∃ h2, h2 = l.length / 2 := ⟨_, rfl⟩
  rw [← hh2] at hq hh HR
  have HH2 := Lib.hid (show (l.length : Int) / 2 = (h2 : Int) by omega)
  have hpb := HPB.out
  simp only [partB, lowB, Bool.and_eq_true, decide_eq_true_eq] at hpb
  obtain ⟨⟨⟨hp1, -⟩, hp2⟩, hp3, hp4⟩ := hpb
  have HSL := Lib.hid hsl
  clear hrow4 hb4 hM4 hrow5 hS hi5 hcap HSO HB3 HM2 hh2 hsl
  go_wp2
  clear hq
  go_loopw [8] (fun k wr => ∃ q : Nat, q ≤ h2 ∧ k = .int .i64 (q : Int) ∧ Hid (R = medFind l.length N D q) ∧ Hid (MedAt w N D (sortL l) g wr)) (fun k _ => (intOf k).toNat)
  case atStart => exact ⟨h2, Nat.le_refl _, by rw [HH2.out], HR, HM5⟩
  case round =>
    obtain ⟨q, hqh, rfl, HQ, HE⟩ := hrel
    by_cases hq1 : 1 ≤ q
    · have hbd := m_bd (n := l.length) (q := q) (by omega) (by omega)
      have hm1 := mul_bd2 (x := mN l.length q) (y := D) (a := 1099511627776) (b := 1000000) hbd.1 (by omega)
      have hm2 := mul_bd2 (x := N) (y := mD l.length q) (a := 1000000) (b := 1099511627776) (by omega) (by omega)
      have HC := Lib.hid (show Calls Tryz.prog 88 #[.int .i64 l.length, .int .i64 q] wr fun e w' => e = .returned (.agg #[.int .i64 (mN l.length q), .int .i64 (mD l.length q)]) ∧ Below wr.heap.size wr w' from chance_any l.length q wr hl (by omega))
      have w1' : IntKind.i64.wrap (mN l.length q * D) = mN l.length q * D := IntWalk.i64_in _ (by omega)
      have w2' : IntKind.i64.wrap (N * mD l.length q) = N * mD l.length q := IntWalk.i64_in _ (by omega)
      have hstep : medFind l.length N D q = if N * mD l.length q ≤ mN l.length q * D then q else medFind l.length N D (q - 1) := by
        obtain ⟨r, rfl⟩ : ∃ r, q = r + 1 := ⟨q - 1, by omega⟩
        rfl
      have hqi : (1 : Int) ≤ (q : Int) := by omega
      by_cases hc : N * mD l.length q ≤ mN l.length q * D
      · have hRq : R = q := by rw [HQ.out, hstep, if_pos hc]
        have HVV := Lib.hid (show V = .tuple #[.agg #[.int .i64 (atL (sortL l) (q - 1)), .int .i64 (atL (sortL l) (l.length - q)), .int .i64 (mN l.length q), .int .i64 (mD l.length q)], .int .i64 0] by rw [HV.out, hRq, if_neg (by omega)])
        obtain ⟨u1, hu1⟩ : ∃ u, u = q - 1 := ⟨_, rfl⟩
        obtain ⟨u2, hu2⟩ : ∃ u, u = l.length - q := ⟨_, rfl⟩
        have w3' : IntKind.i64.wrap ((q : Int) - 1) = (u1 : Int) := by rw [IntWalk.i64_in _ (by omega)]; omega
        have w4' : IntKind.i64.wrap ((l.length : Int) - q) = (u2 : Int) := by rw [IntWalk.i64_in _ (by omega)]; omega
        have l1 : (u1 : Int) < l.length := by omega
        have l2 : (u2 : Int) < l.length := by omega
        have HU := Lib.hid (show u1 < (sortL l).length ∧ u2 < (sortL l).length by rw [HSL.out]; omega)
        rw [← hu1, ← hu2] at HVV
        clear hstep hRq hu1 hu2 hm1 hm2 hbd
        generalize mN l.length q = cn at *
        generalize mD l.length q = cd at *
        go_wp2_with fail
        refine HC.out.mono ?_
        rintro e w5 ⟨rfl, hb5⟩
        have HE5 := Lib.hid (HE.out.later hb5)
        obtain ⟨n0, d0, hfour, hints, -⟩ := HE5.out
        have x1 := hints u1 HU.out.1
        have x2 := hints u2 HU.out.2
        rw [atL_get, Nat.zero_add] at x1 x2
        have z0 := cell_lt n0
        have z1 := cell_lt x1
        obtain ⟨y0, y1, y2, y3, f0, f1, f2, f3⟩ := id hfour
        have z2 := cell_lt y0
        clear hb5 hints hfour
        go_wp2
        refine (wpIn_wide (n := 9)).1 ?_
        refine wpIn_region_pre_lit 13 2 rfl (by kernel_rfl) (by kernel_rfl) (by kernel_rfl) (by kernel_rfl) rfl ?_
        simp only [List.take_succ_cons, List.take_zero]
        repeat (refine wpQuietIn_step (by first | exact fun _ _ _ _ => trivial | quiet_asked_in) (fun KQ hKQ => ?_); go_simp; first | (refine hKQ _ ?_; clear hKQ KQ) | (apply Exists.intro; refine ⟨fun _ => ?_, hKQ _ ?_⟩; (fail); clear hKQ KQ))
        refine wpQuietIn_nil ?_
        intro _ hwq1
        obtain ⟨nq, hwq2⟩ := hwq1
        subst hwq2
        simp only [List.replicate_succ, List.replicate_zero, List.cons_append, List.nil_append]
        have H6 := Lib.hid (HE5.out.later (below_drewN (below_alloc (Below.refl w5.heap.size w5) (.cells #[.int .i64 cn, .int .i64 cd] 58)) nq))
        have hf6 := H6.out.four
        refine wpAnyIn_ready (rs := [13]) (by kernel_rfl) (by simp) (AllReadyIn.cons rfl (fun K' hKK => ?_) AllReadyIn.nil)
        go_simp
        refine hKK _ _ ?_
        clear hKK
        refine wpAnyIn_ready (rs := [14]) (by kernel_rfl) (by simp) (AllReadyIn.cons rfl (fun K' hKK => ?_) AllReadyIn.nil)
        go_simp
        refine hKK _ _ ?_
        clear hKK
        refine wpAnyIn_done (by kernel_rfl) ?_ _
        have c0 := hf6.s0 (.int .i64 (atL (sortL l) u1))
        have c1 := hf6.s1 (.int .i64 (atL (sortL l) u1)) (.int .i64 (atL (sortL l) u2))
        have c2 := hf6.s2 (.int .i64 (atL (sortL l) u1)) (.int .i64 (atL (sortL l) u2)) (.int .i64 cn)
        have c3 := hf6.s3 (.int .i64 (atL (sortL l) u1)) (.int .i64 (atL (sortL l) u2)) (.int .i64 cn) (.int .i64 cd)
        have HB6 := Lib.hid (below4 (.int .i64 (atL (sortL l) u1)) (.int .i64 (atL (sortL l) u2)) (.int .i64 cn) (.int .i64 cd) H6.out.below (show w.heap.size ≤ w.heap.size + 1 by omega))
        go_wp2
        refine bodyPost_ret (v := .tuple #[.agg #[.int .i64 (atL (sortL l) u1), .int .i64 (atL (sortL l) u2), .int .i64 cn, .int .i64 cd], .int .i64 0]) (by simp [results, Tryz.results47, go_sem, c0, c1, c2, c3]) rfl ?_
        exact ⟨by rw [HVV.out], HB6.out⟩
      · have hRq : R = medFind l.length N D (q - 1) := by rw [HQ.out, hstep, if_neg hc]
        have HRQ := Lib.hid hRq
        have hci : mN l.length q * D < N * mD l.length q := by omega
        have w3' : IntKind.i64.wrap ((q : Int) - 1) = ((q - 1 : Nat) : Int) := by rw [IntWalk.i64_in _ (by omega)]; omega
        obtain ⟨u1, hu1⟩ : ∃ u, u = q - 1 := ⟨_, rfl⟩
        have HU := Lib.hid (show u1 ≤ h2 ∧ u1 < q by omega)
        rw [← hu1] at w3' HRQ
        clear hstep hRq hu1 hm1 hm2 hbd hc
        generalize mN l.length q = cn at *
        generalize mD l.length q = cd at *
        go_wp2_with fail
        refine HC.out.mono ?_
        rintro e w5 ⟨rfl, hb5⟩
        have HE5 := Lib.hid (HE.out.later hb5)
        obtain ⟨n0, d0, -, -, -⟩ := HE5.out
        have z0 := cell_lt n0
        have HE6 := Lib.hid (HE5.out.later (below_alloc (Below.refl w5.heap.size w5) (.cells #[.int .i64 cn, .int .i64 cd] 58)))
        clear hb5
        go_wp2
        go_roundw
        case rel => exact ⟨u1, HU.out.1, rfl, HRQ, HE6⟩
        case measure => have := HU.out.2; simp [intOf]; omega
    · have hq0 : q = 0 := by omega
      subst hq0
      have HVV := Lib.hid (show V = .tuple #[.agg #[.int .i64 0, .int .i64 0, .int .i64 0, .int .i64 0], .int .i64 4] by rw [HV.out, if_pos (by rw [HQ.out]; rfl)])
      have hfour := HE.out.four
      obtain ⟨y0, y1, y2, y3, f0, f1, f2, f3⟩ := id hfour
      have c0 := hfour.s0 (.int .i64 0)
      have c1 := hfour.s1 (.int .i64 0) (.int .i64 0)
      have c2 := hfour.s2 (.int .i64 0) (.int .i64 0) (.int .i64 0)
      have c3 := hfour.s3 (.int .i64 0) (.int .i64 0) (.int .i64 0) (.int .i64 0)
      have HB6 := Lib.hid (below4 (.int .i64 0) (.int .i64 0) (.int .i64 0) (.int .i64 0) HE.out.below (show w.heap.size ≤ w.heap.size + 1 by omega))
      clear hfour hq1
      go_wp2
      refine bodyPost_ret (v := .tuple #[.agg #[.int .i64 0, .int .i64 0, .int .i64 0, .int .i64 0], .int .i64 4]) (by simp [results, Tryz.results47, go_sem, c0, c1, c2, c3]) rfl ?_
      exact ⟨by rw [HVV.out], HB6.out⟩
end Go.Proofs.YtemblamamgfodaaGreatDoor
