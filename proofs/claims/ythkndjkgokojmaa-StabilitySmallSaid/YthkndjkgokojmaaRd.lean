/- Contracts of the reference of layer 3: Hadamard. -/
import Derived.Test.YthkndjkgokojmaaRc
import Derived.Deep.AppendLies
import Derived.Deep.CutRange
namespace Go.Proofs.Ythkndjkgokojmaa
open Go Go.RowKit Go.Shelf
theorem rsecond_keep (X : World) (tau : Int) (l : List Int) (p : Option Addr) (cap M i : Nat) (w : World) (hX : Below X.heap.size X w) (hs : SerIn X l p) (hp : phasesOk l = true) (h128 : l.length ≤ 128) (h : i + 2 * M < l.length) :
    Calls Try.prog 68 #[.agg #[.int .i64 tau, .slice p l.length cap], .int .i64 M, .int .i64 i] w fun e w' => e = .returned (.int .i64 (secAt l M i)) ∧ Below X.heap.size X w' :=
  (rsecond_any tau l p cap M i w (hs.below hX) hp h128 h).mono fun _ _ ⟨h1, h2⟩ => ⟨h1, hX.trans (h2.mono hX.size)⟩
theorem thi_of_sec (l : List Int) (M i : Nat) : secAt l M (i + M) - secAt l M i = thiAt l M i := by
  unfold secAt thiAt
  rw [show i + M + 2 * M = i + 3 * M by omega, show i + M + M = i + 2 * M by omega]
  omega
theorem rhadamard_err (tau : Int) (l : List Int) (p : Option Addr) (cap : Nat) (m : Int) (w : World) (hs : SerIn w l p) (he : stepErr tau l m ≠ 0) :
    Calls Try.prog 33 #[.agg #[.int .i64 tau, .slice p l.length cap], .int .i64 m] w fun e w' => e = .returned (varVal ⟨0, 0, stepErr tau l m⟩) ∧ Below w.heap.size w w' := by
  have a0 : Below w.heap.size w ((w.alloc (.cells #[.int .i64 tau, .slice p l.length cap] 63)).alloc (.cells #[.int .i64 0, .int .i64 0] 24)) := below_alloc (below_alloc (Below.refl _ _) _) _
  have HC := Lib.hid (rchecked_any tau l p cap m _ (hs.below a0))
  have HR0 := Lib.hid (RefAt.start w tau (.slice p l.length cap))
  have hne : (stepErr tau l m != 0) = true := by simpa using he
  clear hs a0 he
  go_enter Try.func33, Try.ntmps33
  go_wp2_with fail
  refine HC.out.mono ?_
  rintro e w1 ⟨rfl, hb⟩
  have HR1 := Lib.hid (HR0.out.below hb)
  obtain ⟨-, -, -, b0, b1, b2, b3, -, -⟩ := HR1.out
  have hz := cell_lt b0
  obtain ⟨r0, r1⟩ := set2 (.int .i64 0) (.int .i64 0) b0 b1
  clear hb
  go_wp2
  exact bodyPost_ret (v := .tuple #[.agg #[.int .i64 0, .int .i64 0], .int .i64 (stepErr tau l m)]) (by simp [results, Try.results33, go_sem, r0, r1]) rfl ⟨rfl, HR1.out.ret 0 0⟩
set_option maxRecDepth 100000 in
set_option maxHeartbeats 4000000 in
theorem rhadamard_ok (tau : Int) (l : List Int) (p : Option Addr) (cap M : Nat) (w : World) (hs : SerIn w l p) (hp : phasesOk l = true) (h128 : l.length ≤ 128) (hm : 1 ≤ M ∧ M ≤ 32) (ht : 1 ≤ tau ∧ tau ≤ 1000) (he : stepErr tau l M = 0) :
    Calls Try.prog 33 #[.agg #[.int .i64 tau, .slice p l.length cap], .int .i64 M] w fun e w' => e = .returned (varVal (varE (thiL l hp M (l.length - 3 * M)) (divSix M tau))) ∧ Below w.heap.size w w' := by
  obtain ⟨i0, hi0, hz0, hz1, hz2⟩ := info_parts infoInt
  have a0 : Below w.heap.size w ((w.alloc (.cells #[.int .i64 tau, .slice p l.length cap] 63)).alloc (.cells #[.int .i64 0, .int .i64 0] 24)) := below_alloc (below_alloc (Below.refl _ _) _) _
  have HC := Lib.hid (rchecked_any tau l p cap M _ (hs.below a0))
  have HR0 := Lib.hid (RefAt.start w tau (.slice p l.length cap))
  have HS := Lib.hid hs
  obtain ⟨K, hK⟩ : ∃ K, K = l.length - 3 * M := ⟨_, rfl⟩
  have hK128 : K ≤ 128 := by omega
  have HLT := Lib.hid (fun j => show j < K ↔ j + 3 * M < l.length by omega)
  rw [← hK]
  clear hs a0 hK
  obtain ⟨D, hD⟩ : ∃ D, D = divSix M tau := ⟨_, rfl⟩
  have hDV := divSix_bd M tau (by omega) ht
  rw [← hD] at hDV ⊢
  obtain ⟨hd1, hd2, hd3⟩ := hDV
  have w1 : IntKind.i64.wrap (6 * (M : Int)) = 6 * (M : Int) := IntWalk.i64_in _ (by omega)
  have w1' : IntKind.i64.wrap (3 * (M : Int)) = 3 * (M : Int) := IntWalk.i64_in _ (by omega)
  have w2 : IntKind.i64.wrap (6 * (M : Int) * M) = 6 * (M : Int) * M := IntWalk.i64_in _ (by omega)
  have w3 : IntKind.i64.wrap (6 * (M : Int) * M * tau) = 6 * (M : Int) * M * tau := IntWalk.i64_in _ (by omega)
  have w4 : IntKind.i64.wrap (6 * (M : Int) * M * tau * tau) = D := by rw [IntWalk.i64_in _ (by unfold divSix at hD; omega)]; exact hD.symm
  have HD := Lib.hid hd3
  clear hd1 hd2 hd3 hD
  go_enter Try.func33, Try.ntmps33
  go_wp2_with fail
  refine HC.out.mono ?_
  rintro e x1 ⟨rfl, hb⟩
  rw [he]
  have HR1 := Lib.hid (HR0.out.below hb)
  clear hb HC HR0
  go_wp2
  go_loopw [7, 8] (fun s i wr => ∃ (q : Nat) (v : Value), q ≤ K ∧ s = v ∧ i = .int .i64 (q : Int) ∧ Hid (RefAt w wr tau (.slice p l.length cap) v (thiL l hp M q))) (fun _ i _ => (5000 - intOf i).toNat)
  case atStart => exact ⟨0, _, Nat.zero_le _, rfl, rfl, HR1⟩
  case round =>
    obtain ⟨q, v, hj, rfl, rfl, HT⟩ := hrel
    have hc := HLT.out q
    obtain ⟨u, hu⟩ : ∃ u : Nat, u = q + 3 * M := ⟨_, rfl⟩
    have w5 : IntKind.i64.wrap ((q : Int) + 3 * (M : Int)) = (u : Int) := by rw [IntWalk.i64_in _ (by omega)]; omega
    obtain ⟨-, c0, c1, -, -, -, -, -, -⟩ := HT.out
    have hz := cell_lt c0
    by_cases hlt : q < K
    · have hul : u < l.length := by have := hc.1 hlt; omega
      have hul2 : (u : Int) < (l.length : Int) := by omega
      have hq3 : q + 2 * M < l.length := by omega
      have hq4 : q + M + 2 * M < l.length := by omega
      have HL : Hid (thiL l hp M (q + 1) = thiL l hp M q ++ [thiD l hp M q]) := Lib.hid (thiL_succ _ _ _ _)
      have hlen : (thiL l hp M q).length = q := thiL_len _ _ _ _
      have w6 : IntKind.i64.wrap ((q : Int) + 1) = (q : Int) + 1 := IntWalk.i64_in _ (by omega)
      have HSW : Hid (SerIn wr l p) := Lib.hid (HS.out.below HT.out.bel)
      have wT : IntKind.i64.wrap (secAt l M (q + M) - secAt l M q) = thiAt l M q := by rw [thi_of_sec]; exact IntWalk.i64_in _ (by have := (thiD l hp M q).2; simp only [thiD] at this; omega)
      obtain ⟨v2, hv2⟩ : ∃ v2 : Nat, v2 = q + M := ⟨_, rfl⟩
      have w7 : IntKind.i64.wrap ((q : Int) + (M : Int)) = (v2 : Int) := by rw [IntWalk.i64_in _ (by omega)]; omega
      rw [← hv2] at wT hq4
      have hB0 : Below wr.heap.size wr wr.drew := Below.drew (Below.refl _ _)
      clear hc hu hv2
      go_upto_region 8 with fail
      go_region_held3 (fun w' => w'.cell? ⟨w.heap.size, 0, none⟩ = some (.int .i64 tau) ∧ w'.cell? ⟨w.heap.size, 1, none⟩ = some (.slice p l.length cap))
        (first | exact ⟨c0, c1⟩ | exact ⟨HT3.out.s0, HT3.out.s1⟩ | exact ⟨cell_below hbk c0, cell_below hbk c1⟩ | exact ⟨cell_below (below_alloc hbk _) c0, cell_below (below_alloc hbk _) c1⟩)
        (first | (go_at_call 68; refine (rsecond_keep wr tau l p cap M _ _ (by first | exact hbk | exact hB0) HSW.out hp h128 (by first | exact hq4 | exact hq3)).mono ?_; rintro e wk ⟨rfl, hbk⟩) |
          (refine step_append_lies _ rfl (.tmp 26) (.tmp 38) _ rfl (w.heap.size + 2) 3 i0 (.int .i64 0) 1 8 Try.underlying22 hi0 hz0 hz1 hz2 rfl (by decide) _ _ _ rfl (World.ownsRow.alloc (own_of_below HT.out.own hbk) _) ⟨_, 0, none⟩ 1 1 [.int .i64 (thiAt l M q)] rfl rfl (cell_one_new _ _ _) (by simp [Value.oneCell']) (by decide) (by rw [hlen]; unfold maxLen; omega) (by rw [hlen]; omega) (by have := HT.out.sz; have := hbk.size; simp; omega) _ rfl ?_; intro gn cn z1 hown hg _ _; have HT3 := Lib.hid ((HT.out.below hbk).step (thiD l hp M q) hown hg); clear hown hg))
      all_goals
        go_wp2_with fail
        rw [← HL.out, hlen] at HT3
        go_roundw
        all_goals first
          | exact ⟨q + 1, _, by omega, rfl, by simp, HT3⟩
          | (simp [intOf]; omega)
    · have hul : ¬ (u < l.length) := fun h => hlt (hc.2 (by omega))
      have hul2 : ¬ ((u : Int) < (l.length : Int)) := by omega
      obtain rfl : q = K := by omega
      have hlen : (thiL l hp M q).length ≤ 128 := by rw [thiL_len]; omega
      obtain ⟨p', cap', rfl, hsl⟩ := encI_ser HT.out.own
      have HM := Lib.hid (rmean_any (thiL l hp M q) p' cap' D wr hsl hlen ⟨by have := HD.out; omega, by have := HD.out; omega⟩)
      clear hc hlt hsl
      go_wp2_with fail
      refine HM.out.mono ?_
      rintro e x2 ⟨rfl, hb⟩
      have HT2 := Lib.hid (HT.out.below hb)
      obtain ⟨N0, hN⟩ : ∃ N0, N0 = varE (thiL l hp M q) D := ⟨_, rfl⟩
      rw [← hN]
      obtain ⟨vn, vd, ve⟩ := N0
      have HN := Lib.hid hN
      unfold varVal
      dsimp only
      obtain ⟨-, -, -, b0, b1, b2, b3, -, -⟩ := HT2.out
      have hz' := cell_lt b0
      obtain ⟨r0, r1⟩ := set2 (.int .i64 vn) (.int .i64 vd) b0 b1
      clear hb hN c0 c1 hz HM
      go_wp2
      exact bodyPost_ret (v := .tuple #[.agg #[.int .i64 vn, .int .i64 vd], .int .i64 ve]) (by simp [results, Try.results33, go_sem, r0, r1]) rfl ⟨by rw [← HN.out]; rfl, HT2.out.ret vn vd⟩
theorem rhadamard_any (tau : Int) (l : List Int) (p : Option Addr) (cap : Nat) (m : Int) (w : World) (hs : SerIn w l p) :
    Calls Try.prog 33 #[.agg #[.int .i64 tau, .slice p l.length cap], .int .i64 m] w fun e w' => e = .returned (varVal (hadamardE tau l m)) ∧ Below w.heap.size w w' := by
  by_cases he : stepErr tau l m = 0
  · obtain ⟨h128, ht, hp, hm⟩ := stepErr_zero he
    obtain ⟨M, rfl⟩ : ∃ M : Nat, m = M := ⟨m.toNat, by omega⟩
    have hV : hadamardE tau l M = varE (thiL l hp M (l.length - 3 * M)) (divSix M tau) := by unfold hadamardE outE; rw [dif_pos he]; rfl
    rw [hV]
    exact rhadamard_ok tau l p cap M w hs hp h128 (by omega) ht he
  · have hV : hadamardE tau l m = ⟨0, 0, stepErr tau l m⟩ := by unfold hadamardE outE; rw [dif_neg he]
    rw [hV]
    exact rhadamard_err tau l p cap m w hs he
end Go.Proofs.Ythkndjkgokojmaa
