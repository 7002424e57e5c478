/- The law CounterSolves: where there is an error, where there is no matrix. -/
import Derived.Test.YtmfpnfdoidihcaaBo
import Derived.Test.YtmfpnfdoidihcaaAk
import Derived.Test.YtmfpnfdoidihcaaWr
import Derived.Test.YtmfpnfdoidihcaaNy
import Derived.Test.YtmfpnfdoidihcaaNh
namespace Go.Proofs.Ytmfpnfdoidihcaa.Ct
open Go Go.RowKit Go.Shelf
attribute [local go_sem] Oper.semAt_some
theorem useCells_len : ∀ u : List (Int × Bool), (useCells u).length = u.length * 2
  | [] => rfl
  | d :: u => by
    have e : useCells (d :: u) = .int .i64 d.1 :: .bool d.2 :: useCells u := by simp [useCells]
    rw [e, List.length_cons, List.length_cons, useCells_len u, List.length_cons]; omega
theorem useCells_app (a b : List (Int × Bool)) : useCells (a ++ b) = useCells a ++ useCells b := by simp [useCells]
theorem useCells_one : ∀ (u : List (Int × Bool)), ∀ x ∈ useCells u, x.oneCell' = true
  | [], x, h => by simp [useCells] at h
  | d :: u, x, h => by
    have e : useCells (d :: u) = .int .i64 d.1 :: .bool d.2 :: useCells u := by simp [useCells]
    rw [e] at h
    rcases List.mem_cons.1 h with rfl | h
    · rfl
    · rcases List.mem_cons.1 h with rfl | h
      · rfl
      · exact useCells_one u x h
/-- uses that lie in memory -/
def UseAts (w : World) (u : List (Int × Bool)) (b o : Nat) : Prop := ∀ i, i < u.length → w.cell? ⟨b, o + i * 2, none⟩ = some (.int .i64 (useAt u i).1) ∧ w.cell? ⟨b, o + i * 2 + 1, none⟩ = some (.bool (useAt u i).2)
theorem UseAts.cells {w : World} {b : Nat} : ∀ (u : List (Int × Bool)) (o : Nat), UseAts w u b o → ∀ j v, (useCells u)[j]? = some v → w.cell? ⟨b, o + j, none⟩ = some v
  | [], o, _, j, v, h => by simp [useCells] at h
  | d :: u, o, H, j, v, h => by
    have e : useCells (d :: u) = .int .i64 d.1 :: .bool d.2 :: useCells u := by simp [useCells]
    rw [e] at h
    match j, h with
    | 0, h =>
      have := (H 0 (by simp)).1
      simp [useAt] at this h
      rw [← h]; exact this
    | 1, h =>
      have := (H 0 (by simp)).2
      simp [useAt] at this h
      rw [← h]; exact this
    | j + 2, h =>
      have := UseAts.cells u (o + 2) (fun i hi => by
        have := H (i + 1) (by simp; omega)
        have e2 : useAt (d :: u) (i + 1) = useAt u i := by simp [useAt]
        rw [e2, show o + (i + 1) * 2 = o + 2 + i * 2 by omega] at this
        exact this) j v (by simpa using h)
      rw [show o + (j + 2) = o + 2 + j by omega]
      exact this
theorem UseAts.take {w : World} {u : List (Int × Bool)} {b o : Nat} (h : UseAts w u b o) (k : Nat) : UseAts w (u.take k) b o := fun i hi => by
  have hk : i < k ∧ i < u.length := by simp at hi; omega
  have := h i hk.2
  rwa [show useAt u i = useAt (u.take k) i by simp [useAt, hk.1]] at this
theorem UseAts.drop {w : World} {u : List (Int × Bool)} {b o : Nat} (h : UseAts w u b o) (k : Nat) : UseAts w (u.drop k) b (o + k * 2) := fun i hi => by
  have hk : k + i < u.length := by simp at hi; omega
  have := h (k + i) hk
  rw [show useAt u (k + i) = useAt (u.drop k) i by simp [useAt], show o + (k + i) * 2 = o + k * 2 + i * 2 by omega] at this
  exact this
theorem UseAts.adds {w : World} {u : List (Int × Bool)} {b o : Nat} (h : UseAts w u b o) : ∀ j v, (useCells u)[j]? = some v → w.cell? ((⟨b, o, none⟩ : Addr).add j) = some v := fun j v hj => by
  have := UseAts.cells u o h j v hj
  rwa [show (⟨b, o, none⟩ : Addr).add j = ⟨b, o + j, none⟩ by unfold Addr.add; split <;> simp_all]
theorem UseAts.below {w w' : World} {u : List (Int × Bool)} {b o : Nat} (h : UseAts w u b o) (hb : Below w.heap.size w w') : UseAts w' u b o := fun i hi => ⟨cell_below hb (h i hi).1, cell_below hb (h i hi).2⟩
theorem CycAt.cat {W3 X Y : World} {v v' : Value} {u d : List (Int × Bool)} (h : CycAt W3 X v u) (hown : Y.ownsRow W3.heap.size 41 2 v' (u.length + d.length) (useCells u ++ useCells d)) (hg : X.grownBy Y v.ownBlock) : CycAt W3 Y v' (u ++ d) :=
  ⟨by rw [useCells_app, List.length_append]; exact hown, h.bel.grown hg h.bel.size (fun k hk => (World.ownsRow.lt h.own k hk).1)⟩
theorem CycAt.rm {W3 X Y : World} {v v' : Value} {u : List (Int × Bool)} {k m : Nat} (h : CycAt W3 X v (u.take k)) (hown : Y.ownsRow W3.heap.size 41 2 v' ((u.take k).length + m) (useCells (u.take k) ++ useCells (u.drop (k + 1)))) (hm : m = u.length - (k + 1)) (hg : X.grownBy Y v.ownBlock) : CycAt W3 Y v' (rmU u k) :=
  h.cat (d := u.drop (k + 1)) (by rw [List.length_drop, ← hm]; exact hown) hg
theorem CycAt.nil (W : World) : CycAt W W (.slice none 0 0) [] := ⟨World.ownsRow_nil _ _ _ _, Below.refl _ _⟩
set_option maxRecDepth 100000 in
set_option maxHeartbeats 4000000 in
theorem solves_far (n : Int) (l : List Bnd) (p : Option Addr) (cap : Nat) (w : World) (hl : ¬ (l.length ≤ 40 ∧ 1 ≤ n ∧ n ≤ 16)) :
    Calls Try.prog 4 #[.int .i64 n, .slice p l.length cap] w fun e w' => e = .returned (.bool true) ∧ Below w.heap.size w w' := by
  by_cases h40 : 40 < (l.length : Int)
  · clear hl
    go_enter Try.func4, Try.ntmps4
    go_wp2_with (go_at_call 5; refine (awake2_any _).mono ?_; rintro e w2 ⟨rfl, hb2⟩; have HB2 := Lib.hid hb2; clear hb2)
    go_ret
    exact ⟨rfl, HB2.out⟩
  · by_cases h1 : n < 1
    · clear hl
      go_enter Try.func4, Try.ntmps4
      go_wp2_with (go_at_call 5; refine (awake2_any _).mono ?_; rintro e w2 ⟨rfl, hb2⟩; have HB2 := Lib.hid hb2; clear hb2)
      go_ret
      exact ⟨rfl, HB2.out⟩
    · have h16 : 16 < n := by omega
      clear hl
      go_enter Try.func4, Try.ntmps4
      go_wp2_with (go_at_call 5; refine (awake2_any _).mono ?_; rintro e w2 ⟨rfl, hb2⟩; have HB2 := Lib.hid hb2; clear hb2)
      go_ret
      exact ⟨rfl, HB2.out⟩
set_option maxRecDepth 100000 in
set_option maxHeartbeats 4000000 in
theorem solves_err (n : Int) (l : List Bnd) (p : Option Addr) (cap : Nat) (w : World) (hl : l.length ≤ 40) (hn : 1 ≤ n ∧ n ≤ 16) (hs : BndsIn w l p) (he : netErr n l ≠ 0) :
    Calls Try.prog 4 #[.int .i64 n, .slice p l.length cap] w fun e w' => e = .returned (.bool true) ∧ Below w.heap.size w w' := by
  have he6 : netErr n l = 6 := by
    unfold netErr at he ⊢
    rw [if_pos hn, if_pos (by omega)] at he ⊢
    split at he
    · exact absurd rfl he
    · rw [if_neg (by assumption)]
  have HBO := Lib.hid (bounds_any l p cap w hl hs)
  have HN : Hid (∀ p c W, BndsIn W l p → Calls Try.prog 7 #[.int .i64 n, .slice p l.length c] W fun e w' => e = .returned (.tuple #[.slice none 0 0, .int .i64 6]) ∧ Below W.heap.size W w') :=
    Lib.hid fun p c W hb => by have := narrow_err n l p c W (by unfold maxLen; omega) hb he; rwa [he6] at this
  have HC : Hid (∀ p c W, BndsIn W l p → Calls Try.prog 13 #[.int .i64 n, .slice p l.length c] W fun e w' => e = .returned (.tuple #[.slice none 0 0, .int .i64 6]) ∧ Below W.heap.size W w') :=
    Lib.hid fun p c W hb => by have := contradict_err n l p c W (by unfold maxLen; omega) hb he; rwa [he6] at this
  have h40 : ¬ 40 < (l.length : Int) := by omega
  have h1 : ¬ n < 1 := by omega
  have h16 : ¬ 16 < n := by omega
  clear hs he he6 hl hn
  go_enter Try.func4, Try.ntmps4
  go_wp2_with (first
    | (go_at_call 6; refine HBO.out.mono ?_; rintro e w1 ⟨⟨p', cap', rfl, hs'⟩, hb1⟩; have HB1 := Lib.hid hb1; have HS1 := Lib.hid hs'; clear hb1 hs')
    | (go_at_call 7; refine (HN.out _ _ _ HS1.out).mono ?_; rintro e w2 ⟨rfl, hb2⟩; have HB2 := Lib.hid (bt HB1.out hb2); have HS2 := Lib.hid (HS1.out.below hb2); clear hb2)
    | (go_at_call 13; refine (HC.out _ _ _ HS2.out).mono ?_; rintro e w3 ⟨rfl, hb3⟩; have HB3 := Lib.hid (bt HB2.out hb3); clear hb3)
    | (go_at_call 5; refine (awake2_any _).mono ?_; rintro e w4 ⟨rfl, hb4⟩; have HB4 := Lib.hid (bt HB3.out hb4); clear hb4))
  go_ret
  exact ⟨rfl, HB4.out⟩
set_option maxRecDepth 100000 in
set_option maxHeartbeats 4000000 in
theorem solves_no (n : Nat) (l : List Bnd) (p : Option Addr) (cap : Nat) (w : World) (hl : l.length ≤ 40) (hs : BndsIn w l p) (he : netErr n l = 0) (h0 : (narrowS n l).2 = false) :
    Calls Try.prog 4 #[.int .i64 n, .slice p l.length cap] w fun e w' => e = .returned (.bool true) ∧ Below w.heap.size w w' := by
  obtain ⟨hn, hls⟩ := lims_of he
  have HBO := Lib.hid (bounds_any l p cap w hl hs)
  have HN := Lib.hid (fun p c W (hb : BndsIn W l p) => narrow_no n l p c W hb he (calm_all hn.2 hls) h0)
  have HC := Lib.hid (fun p c W (hb : BndsIn W l p) => contradict_any n l p c W hb he)
  have HR := Lib.hid (fun u p q cp cq W (hb : BndsIn W l p) (hu : UsesIn W u q) (hk : u.length ≤ 240) => refute_any n l u p q cp cq W he hk hb hu)
  have HCO := Lib.hid (fun u (h : ConOf n l u) => And.intro (con_iff hn hls h) (con_all hn hls h))
  rw [h0] at HCO
  obtain ⟨i1, hi1, hy0, hy1, hy2⟩ := info_parts infoUse
  have h40 : ¬ 40 < (l.length : Int) := by omega
  have h1 : ¬ (n : Int) < 1 := by omega
  have h16 : ¬ 16 < (n : Int) := by omega
  clear hs he hl hn hls h0
  go_enter Try.func4, Try.ntmps4
  go_upto_region 5 with (first
    | (go_at_call 6; refine HBO.out.mono ?_; rintro e w1 ⟨⟨p', cap', rfl, hs'⟩, hb1⟩; have HB1 := Lib.hid hb1; have HS1 := Lib.hid hs'; clear hb1 hs')
    | (go_at_call 7; refine (HN.out _ _ _ HS1.out).mono ?_; rintro e w2 ⟨rfl, hb2⟩; have HB2 := Lib.hid (bt HB1.out hb2); have HS2 := Lib.hid (HS1.out.below hb2); clear hb2))
  go_upto_region 6 with (go_at_call 13; refine (HC.out _ _ _ HS2.out).mono ?_; rintro e w3 ⟨⟨u, q, cq, rfl, hu, hcon, hcap⟩, hb3⟩; have HB3 := Lib.hid (bt HB2.out hb3); have HS3 := Lib.hid (HS2.out.below hb3); have HU := Lib.hid hu; have HCA := Lib.hid hcap; have hc := HCO.out u hcon; have hne : u ≠ [] := (fun e => by have := hc.1.1 e; cases this); have hu0 : ¬ u.length = 0 := (fun e => hne (List.length_eq_zero_iff.1 e)); rw [if_neg hu0]; have HHC := Lib.hid (hc.2 hne); have HU0 := Lib.hid hu0; clear hb3 hu hcon hcap hc hne hu0)
  obtain ⟨hu16, hcut, hless⟩ := HHC.out
  have hu0 := HU0.out
  have HL16 := Lib.hid hu16
  have HLE := Lib.hid hless
  have HRU := Lib.hid (HR.out u p' q cap' cq w3 HS3.out HU.out (by omega))
  rw [if_pos hcut] at HRU
  obtain ⟨b, o, rfl, hat⟩ := HU.out.resolve_left hu0
  have HAT : Hid (UseAts w3 u b o) := Lib.hid hat
  clear hu16 hcut hless hu0 hat HCO HBO HN HC HHC
  go_upto_region 9 with (go_at_call 10; refine HRU.out.mono ?_; rintro e w4 ⟨rfl, hb4⟩; have HB4 := Lib.hid (bt HB3.out hb4); have HS4 := Lib.hid (HS3.out.below hb4); have HA4 := Lib.hid (HAT.out.below hb4); clear hb4)
  go_wp2_with fail
  generalize w4 = W4 at *
  have hu1 := HU0.out
  by_cases hgt : 1 < u.length
  · have hg1 : (1 : Int) < u.length := by omega
    have HGT := Lib.hid hgt
    clear hgt
    go_loopw [4, 10, 11] (fun s4 s10 s11 wx => ∃ (k : Nat) (v : Value), k ≤ u.length ∧ s4 = .bool false ∧ s10 = .int .i64 (k : Int) ∧ s11 = v ∧ Hid (Below W4.heap.size W4 wx)) (fun _ s10 _ _ => u.length - (intOf s10).toNat)
    case atStart => exact ⟨0, _, Nat.zero_le _, rfl, rfl, rfl, Lib.hid (Below.refl _ _)⟩
    case round =>
      obtain ⟨k, v, hk, rfl, rfl, rfl, HB⟩ := hrel
      by_cases hlt : k < u.length
      · have hki : (k : Int) < u.length := by omega
        have HK := Lib.hid hlt
        have HA := Lib.hid (HA4.out.below HB.out)
        have HSW := Lib.hid (HS4.out.below HB.out)
        have hcc := HCA.out
        have hl16 := HL16.out
        have w1' : IntKind.i64.wrap ((k : Int) + 1) = (k : Int) + 1 := IntWalk.i64_in _ (by omega)
        have q0 : ¬ (k : Int) < 0 := by omega
        have q1 : (k : Int) ≤ cq := by omega
        have q2 : (u.length : Int) ≤ cq := by omega
        have q3 : (k : Int) + 1 ≤ u.length := by omega
        have H0 : Hid (CycAt wr wr (.slice none 0 0) []) := Lib.hid (CycAt.nil wr)
        clear hlt hk hcc hl16 hu1
        go_upto_region 14 with (at_builtin; refine wpList_append_own_at _ rfl (.tmp 67) (.tmp 70) _ rfl wr.heap.size 41 i1 (.agg #[.int .i64 0, .bool false]) 2 16 Try.underlying34 hi1 hy0 hy1 hy2 rfl (by decide) _ 0 _ rfl H0.out.own _ _ _ (useCells (u.take k)) rfl (by have := HK.out; rw [useCells_len, List.length_take]; omega) (HA.out.take k).adds (useCells_one _) (by have := HL16.out; have := HK.out; unfold maxLen; omega) (by have := HL16.out; have := HK.out; omega) (Nat.le_refl _) ?_; intro v1 z1 hown hg _ _; have H1 : Hid (CycAt wr z1 v1 (u.take k)) := Lib.hid (H0.out.cat (d := u.take k) (by rw [show (u.take k).length = k by have := HK.out; rw [List.length_take]; omega]; exact hown) hg); clear hown hg)
        by_cases hq : cq = k + 1
        · subst hq
          go_upto_region 15 with (at_builtin; refine wpList_append_own_at _ rfl (.tmp 72) (.tmp 76) _ rfl wr.heap.size 41 i1 (.agg #[.int .i64 0, .bool false]) 2 16 Try.underlying34 hi1 hy0 hy1 hy2 rfl (by decide) _ _ _ rfl H1.out.own _ _ _ (useCells (u.drop (k + 1))) rfl (by have := HK.out; rw [useCells_len, List.length_drop] <;> omega) (fun j x hj => by have := HK.out; have := HCA.out; rw [List.drop_of_length_le (by omega)] at hj; simp [useCells] at hj) (useCells_one _) (by have := HL16.out; have := HK.out; rw [List.length_take]; unfold maxLen; omega) (by have := HL16.out; have := HK.out; rw [List.length_take]; omega) H1.out.bel.size ?_; intro v2 z2 hown hg _ _; have H2 : Hid (CycAt wr z2 v2 (rmU u k)) := Lib.hid (H1.out.rm hown (by have := HK.out; have := HCA.out; omega) hg); clear hown hg)
          obtain ⟨p2, c2, rfl, hu2, -⟩ := H2.out.uses
          have HRZ := Lib.hid (HR.out (rmU u k) p' p2 cap' c2 z2 (HSW.out.below H2.out.bel) hu2 (by rw [rmU_len HK.out]; have := HL16.out; omega))
          rw [HLE.out k HK.out HGT.out, if_neg (by decide)] at HRZ
          have HB2' := Lib.hid (bt HB.out H2.out.bel)
          clear hu2
          go_wp2_with (go_at_call 10; refine HRZ.out.mono ?_; rintro e w5 ⟨rfl, hb5⟩; have HB5 := Lib.hid (bt HB2'.out hb5); clear hb5)
          go_roundw
          case rel => exact ⟨k + 1, _, HK.out, rfl, by simp, rfl, HB5⟩
          case measure => have := HK.out; simp [intOf]; omega
        · go_upto_region 15 with (at_builtin; refine wpList_append_own_at _ rfl (.tmp 72) (.tmp 76) _ rfl wr.heap.size 41 i1 (.agg #[.int .i64 0, .bool false]) 2 16 Try.underlying34 hi1 hy0 hy1 hy2 rfl (by decide) _ _ _ rfl H1.out.own _ _ _ (useCells (u.drop (k + 1))) rfl (by have := HK.out; rw [useCells_len, List.length_drop] <;> omega) (((HA.out.below H1.out.bel).drop (k + 1)).adds) (useCells_one _) (by have := HL16.out; have := HK.out; rw [List.length_take]; unfold maxLen; omega) (by have := HL16.out; have := HK.out; rw [List.length_take]; omega) H1.out.bel.size ?_; intro v2 z2 hown hg _ _; have H2 : Hid (CycAt wr z2 v2 (rmU u k)) := Lib.hid (H1.out.rm hown (by have := HK.out; have := HCA.out; omega) hg); clear hown hg)
          obtain ⟨p2, c2, rfl, hu2, -⟩ := H2.out.uses
          have HRZ := Lib.hid (HR.out (rmU u k) p' p2 cap' c2 z2 (HSW.out.below H2.out.bel) hu2 (by rw [rmU_len HK.out]; have := HL16.out; omega))
          rw [HLE.out k HK.out HGT.out, if_neg (by decide)] at HRZ
          have HB2' := Lib.hid (bt HB.out H2.out.bel)
          clear hu2
          go_wp2_with (go_at_call 10; refine HRZ.out.mono ?_; rintro e w5 ⟨rfl, hb5⟩; have HB5 := Lib.hid (bt HB2'.out hb5); clear hb5)
          go_roundw
          case rel => exact ⟨k + 1, _, HK.out, rfl, by simp, rfl, HB5⟩
          case measure => have := HK.out; simp [intOf]; omega
      · obtain rfl : k = u.length := by omega
        have hki : ¬ (u.length : Int) < u.length := by omega
        have HB5 := Lib.hid (bt HB4.out HB.out)
        go_wp2_with (go_at_call 5; refine (awake2_any _).mono ?_; rintro e w6 ⟨rfl, hb6⟩; have HB6 := Lib.hid (bt HB5.out hb6); clear hb6)
        go_ret
        exact ⟨rfl, HB6.out⟩
  · have hg1 : (u.length : Int) = 1 := by omega
    clear hgt hu1
    go_loopw [4, 10, 11] (fun s4 s10 s11 wx => ∃ (v : Value), s4 = .bool false ∧ s10 = .int .i64 0 ∧ s11 = v ∧ wx = W4) (fun _ s10 _ _ => 1 - (intOf s10).toNat)
    case atStart => exact ⟨_, rfl, rfl, rfl, rfl⟩
    case round =>
      obtain ⟨v, rfl, rfl, rfl, rfl⟩ := hrel
      go_wp2_with (go_at_call 5; refine (awake2_any _).mono ?_; rintro e w6 ⟨rfl, hb6⟩; have HB6 := Lib.hid (bt HB4.out hb6); clear hb6)
      go_ret
      exact ⟨rfl, HB6.out⟩
end Go.Proofs.Ytmfpnfdoidihcaa.Ct
