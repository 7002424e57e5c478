/- Contracts of the reference of layer 3: Thin. -/
import Derived.Test.YtpmhphdpomiacaaRj
import Derived.Test.YtpmhphdpomiacaaAl
import Derived.Deep.CutRange
namespace Go.Proofs.Ytpmhphdpomiacaa
open Go Go.RowKit Go.Shelf
theorem SAt.app {W Y : World} {b bx : Nat} {tau : Int} {sv v' : Value} {o : Obj} {row : Option Nat} (h : SAt W b tau sv) (hg : (W.alloc o).grownBy Y row) (hne : row ≠ some b) (hbx : bx ≠ b) : SAt (Y.setCell ⟨bx, 1, none⟩ v') b tau sv :=
  ⟨by rw [World.cell?_setCell_far _ _ _ _ hbx]; exact grown_cell hg hne h.1, by rw [World.cell?_setCell_far _ _ _ _ hbx]; exact grown_cell hg hne h.2⟩
theorem rthin_err (tau : Int) (l : List Int) (p : Option Addr) (cap : Nat) (m : Int) (w : World) (hs : SerIn w l p) (he : thinErr tau l m ≠ 0) :
    Calls Try.prog 49 #[.agg #[.int .i64 tau, .slice p l.length cap], .int .i64 m] w fun e w' => e = .returned (.tuple #[.agg #[.int .i64 0, .slice none 0 0], .int .i64 (thinErr tau l m)]) ∧ Below w.heap.size w w' := by
  have a0 : Below w.heap.size w ((w.alloc (.cells #[.int .i64 tau, .slice p l.length cap] 74)).alloc (.cells #[.int .i64 0, .slice none 0 0] 74)) := below_alloc (below_alloc (Below.refl _ _) _) _
  have HC := Lib.hid (rchecked_any tau l p cap m _ (hs.below a0))
  have A0 := Lib.hid a0
  have C0 : Hid (((w.alloc (.cells #[.int .i64 tau, .slice p l.length cap] 74)).alloc (.cells #[.int .i64 0, .slice none 0 0] 74)).cell? ⟨w.heap.size, 0, none⟩ = some (.int .i64 tau)) := Lib.hid (by simp [go_sem])
  have HR0 : Hid (((w.alloc (.cells #[.int .i64 tau, .slice p l.length cap] 74)).alloc (.cells #[.int .i64 0, .slice none 0 0] 74)).cell? ⟨w.heap.size + 1, 0, none⟩ = some (.int .i64 0)) := Lib.hid (by simp [go_sem])
  have HR1 : Hid (((w.alloc (.cells #[.int .i64 tau, .slice p l.length cap] 74)).alloc (.cells #[.int .i64 0, .slice none 0 0] 74)).cell? ⟨w.heap.size + 1, 1, none⟩ = some (.slice none 0 0)) := Lib.hid (by simp [go_sem])
  have HQ0 : Hid (((w.alloc (.cells #[.int .i64 tau, .slice p l.length cap] 74)).alloc (.cells #[.int .i64 0, .slice none 0 0] 74)).frozen? ⟨w.heap.size + 1, 0, none⟩ = false) := Lib.hid (by simp [go_sem])
  have HQ1 : Hid (((w.alloc (.cells #[.int .i64 tau, .slice p l.length cap] 74)).alloc (.cells #[.int .i64 0, .slice none 0 0] 74)).frozen? ⟨w.heap.size + 1, 1, none⟩ = false) := Lib.hid (by simp [go_sem])
  clear hs a0
  by_cases h0 : stepErr tau l m = 0
  · obtain ⟨h128, ht, hp, hm⟩ := stepErr_zero h0
    have hfar : (1000 : Int) < m * tau := by
      unfold thinErr at he
      rw [if_pos h0] at he
      by_cases h1 : m * tau ≤ 1000
      · rw [if_pos h1] at he; exact absurd rfl he
      · omega
    have e6 : thinErr tau l m = 6 := by unfold thinErr; rw [if_pos h0, if_neg (by omega)]
    have wmt : IntKind.i64.wrap (m * tau) = m * tau := IntWalk.i64_in _ (by have := mul_bd2 (x := m) (y := tau) (a := 32) (b := 1000) (by omega) (by omega); omega)
    rw [e6]
    have H0 := Lib.hid h0
    clear he e6 h0
    go_enter Try.func49, Try.ntmps49
    go_wp2_with fail
    refine HC.out.mono ?_
    rintro e w1 ⟨rfl, hb⟩
    rw [H0.out]
    have d0 := cell_below hb C0.out
    have r0 := cell_below hb HR0.out
    have r1 := cell_below hb HR1.out
    have q0 := (hb.frozen (p := ⟨w.heap.size + 1, 0, none⟩) (cell_lt HR0.out)).trans HQ0.out
    have q1 := (hb.frozen (p := ⟨w.heap.size + 1, 1, none⟩) (cell_lt HR1.out)).trans HQ1.out
    have hz := cell_lt r0
    have hz0 := cell_lt d0
    have HB := Lib.hid (((A0.out.trans (hb.mono A0.out.size)).setCell (p := ⟨w.heap.size + 1, 0, none⟩) (by show w.heap.size ≤ w.heap.size + 1; omega) (.int .i64 0)).setCell (p := ⟨w.heap.size + 1, 1, none⟩) (by show w.heap.size ≤ w.heap.size + 1; omega) (.slice none 0 0))
    have e0 := pair_c0 (.int .i64 0) (.slice none 0 0) r0
    have e1 := two_c1 (.int .i64 0) (.slice none 0 0) r1
    clear hb
    go_wp2
    exact bodyPost_ret (v := .tuple #[.agg #[.int .i64 0, .slice none 0 0], .int .i64 6]) (by simp [results, Try.results49, go_sem, e0, e1]) rfl ⟨rfl, HB.out⟩
  · have e6 : thinErr tau l m = stepErr tau l m := by unfold thinErr; rw [if_neg h0]
    rw [e6]
    have hne : (stepErr tau l m != 0) = true := by simpa using h0
    clear he e6 h0
    go_enter Try.func49, Try.ntmps49
    go_wp2_with fail
    refine HC.out.mono ?_
    rintro e w1 ⟨rfl, hb⟩
    have r0 := cell_below hb HR0.out
    have r1 := cell_below hb HR1.out
    have q0 := (hb.frozen (p := ⟨w.heap.size + 1, 0, none⟩) (cell_lt HR0.out)).trans HQ0.out
    have q1 := (hb.frozen (p := ⟨w.heap.size + 1, 1, none⟩) (cell_lt HR1.out)).trans HQ1.out
    have hz := cell_lt r0
    have HB := Lib.hid (((A0.out.trans (hb.mono A0.out.size)).setCell (p := ⟨w.heap.size + 1, 0, none⟩) (by show w.heap.size ≤ w.heap.size + 1; omega) (.int .i64 0)).setCell (p := ⟨w.heap.size + 1, 1, none⟩) (by show w.heap.size ≤ w.heap.size + 1; omega) (.slice none 0 0))
    have e0 := pair_c0 (.int .i64 0) (.slice none 0 0) r0
    have e1 := two_c1 (.int .i64 0) (.slice none 0 0) r1
    clear hb
    go_wp2
    exact bodyPost_ret (v := .tuple #[.agg #[.int .i64 0, .slice none 0 0], .int .i64 (stepErr tau l m)]) (by simp [results, Try.results49, go_sem, e0, e1]) rfl ⟨rfl, HB.out⟩
theorem thinTo_len (l : List Int) (M : Nat) (hM : 1 ≤ M) : ∀ k, (thinTo l M k).length ≤ k
  | 0 => Nat.le_refl _
  | k + 1 => by
    have ih := thinTo_len l M hM k
    show (if k % M = 0 then thinTo l M k ++ [atL l k] else thinTo l M k).length ≤ k + 1
    split
    · rw [List.length_append]; simp; omega
    · omega
set_option maxRecDepth 100000 in
set_option maxHeartbeats 4000000 in
theorem rthin_ok (tau : Int) (l : List Int) (p : Option Addr) (cap M : Nat) (w : World) (hs : SerIn w l p) (hm : 1 ≤ M ∧ M ≤ 32) (h128 : l.length ≤ 128) (ht : 1 ≤ tau ∧ tau ≤ 1000) (he : stepErr tau l M = 0) (hmt : (M : Int) * tau ≤ 1000) :
    Calls Try.prog 49 #[.agg #[.int .i64 tau, .slice p l.length cap], .int .i64 M] w fun e w' => ∃ q c, e = .returned (.tuple #[.agg #[.int .i64 ((M : Int) * tau), .slice q (thinTo l M l.length).length c], .int .i64 0]) ∧
      SliceIn q (thinTo l M l.length).length (IntsAt w' (thinTo l M l.length)) ∧ Below w.heap.size w w' := by
  obtain ⟨i0, hi0, hz0, hz1, hz2⟩ := info_parts infoInt
  have a0 : Below w.heap.size w ((w.alloc (.cells #[.int .i64 tau, .slice p l.length cap] 74)).alloc (.cells #[.int .i64 0, .slice none 0 0] 74)) := below_alloc (below_alloc (Below.refl _ _) _) _
  have HC := Lib.hid (rchecked_any tau l p cap M _ (hs.below a0))
  have HS := Lib.hid hs
  have A0 := Lib.hid a0
  have C0 : Hid (SAt ((w.alloc (.cells #[.int .i64 tau, .slice p l.length cap] 74)).alloc (.cells #[.int .i64 0, .slice none 0 0] 74)) w.heap.size tau (.slice p l.length cap)) := Lib.hid ⟨by simp [go_sem], by simp [go_sem]⟩
  have wmt : IntKind.i64.wrap ((M : Int) * tau) = M * tau := IntWalk.i64_in _ (by have := mul_bd2 (x := (M : Int)) (y := tau) (a := 32) (b := 1000) (by omega) (by omega); omega)
  have hmt' : ¬ (1000 < (M : Int) * tau) := by omega
  have hM0 : ((M : Int) == 0) = false := by simp; omega
  have hM1 : ¬ ((M : Int) = 0) := by omega
  clear hs a0 hmt
  go_enter Try.func49, Try.ntmps49
  go_wp2_with fail
  refine HC.out.mono ?_
  rintro e w1 ⟨rfl, hb⟩
  rw [he]
  have HSA := Lib.hid (C0.out.below hb)
  have A1 := Lib.hid (A0.out.trans (hb.mono A0.out.size))
  have HW0 := Lib.hid (show w.heap.size + 2 ≤ w1.heap.size by have := hb.size; simp at this; omega)
  have HR0 : Hid (w1.cell? ⟨w.heap.size + 1, 0, none⟩ = some (.int .i64 0)) := Lib.hid (cell_below hb (by simp [go_sem]))
  have HR1 : Hid (w1.cell? ⟨w.heap.size + 1, 1, none⟩ = some (.slice none 0 0)) := Lib.hid (cell_below hb (by simp [go_sem]))
  have HQ0 : Hid (w1.frozen? ⟨w.heap.size + 1, 0, none⟩ = false) := Lib.hid ((hb.frozen (p := ⟨w.heap.size + 1, 0, none⟩) (by simp)).trans (by simp [go_sem]))
  have HQ1 : Hid (w1.frozen? ⟨w.heap.size + 1, 1, none⟩ = false) := Lib.hid ((hb.frozen (p := ⟨w.heap.size + 1, 1, none⟩) (by simp)).trans (by simp [go_sem]))
  obtain ⟨c0, c1⟩ := HSA.out
  have hz := cell_lt c0
  clear hb HC C0
  have b2 := below_alloc (Below.refl w1.heap.size w1) (.cells #[.int .i64 ((M : Int) * tau), .slice none 0 0] 74)
  have hT0 : ThAt w (w1.heap.size + 1) w1.heap.size ((M : Int) * tau) [] (.slice none 0 0) (w1.alloc (.cells #[.int .i64 ((M : Int) * tau), .slice none 0 0] 74)) :=
    ⟨World.ownsRow_nil _ _ _ _, by simp, by simp, by simp, ⟨by have := HW0.out; omega, by omega⟩,
      cell_below b2 HR0.out, cell_below b2 HR1.out, (b2.frozen (p := ⟨w.heap.size + 1, 0, none⟩) (by show w.heap.size + 1 < _; have := HW0.out; omega)).trans HQ0.out, (b2.frozen (p := ⟨w.heap.size + 1, 1, none⟩) (by show w.heap.size + 1 < _; have := HW0.out; omega)).trans HQ1.out, A1.out.trans (b2.mono A1.out.size), by simp⟩
  have HT0 := Lib.hid hT0
  have HSB := Lib.hid (HSA.out.below b2)
  clear hT0 b2
  go_upto_region 7 with fail
  generalize w1.alloc (.cells #[.int .i64 ((M : Int) * tau), .slice none 0 0] 74) = X1 at *
  clear c0 c1 hz
  go_wp2
  go_loopw [8] (fun i wr => ∃ (k : Nat) (v : Value), k ≤ l.length ∧ i = .int .i64 (k : Int) ∧ Hid (ThAt w (w1.heap.size + 1) w1.heap.size ((M : Int) * tau) (thinTo l M k) v wr) ∧ Hid (SAt wr w.heap.size tau (.slice p l.length cap))) (fun i _ => l.length - (intOf i).toNat)
  case atStart => exact ⟨0, _, Nat.zero_le _, rfl, HT0, HSB⟩
  case round =>
    obtain ⟨k, v, hk, rfl, HT, HA⟩ := hrel
    obtain ⟨c0, c1⟩ := HA.out
    have hz := cell_lt c0
    have hmd := Nat.mod_lt k (show 0 < M by omega)
    obtain ⟨r, hr⟩ : ∃ r : Nat, r = k % M := ⟨_, rfl⟩
    have v3 : IntKind.i64.wrap ((k : Int) + 1) = (k : Int) + 1 := IntWalk.i64_in _ (by omega)
    have hr' : (k : Int) % (M : Int) = (r : Int) := by rw [hr, Int.natCast_emod]
    have HRR := Lib.hid hr
    have HRI := Lib.hid hr'
    have hr32 : r < 32 := by omega
    clear hr hr' hmd
    by_cases hlt : k < l.length
    · have hkl : (k : Int) < (l.length : Int) := by omega
      by_cases h0 : r = 0
      · have hrr := HRR.out
        have hri := HRI.out
        subst h0
        have f1 : (k : Int) % (M : Int) = 0 := hri
        have f2 : (k : Int).tmod (M : Int) = 0 := by rw [Int.tmod_eq_emod_of_nonneg (by omega)]; exact hri
        have f3 : k % M = 0 := hrr.symm
        have f4 : IntKind.i64.wrap ((k : Int) % (M : Int)) = 0 := by rw [f1]; decide
        obtain ⟨b, o, rfl, hi⟩ := HS.out.2.resolve_left (by omega)
        have x0 := cell_below HT.out.bel (hi k hlt)
        rw [atL_get] at x0
        have HL := Lib.hid (show thinTo l M (k + 1) = thinTo l M k ++ [atL l k] from if_pos hrr.symm)
        have hlen := thinTo_len l M hm.1 k
        have t1 := HT.out.c1
        have t2 := HT.out.f1
        have hz3 := cell_lt t1
        clear hi hrr hri
        go_wp2_with (at_builtin; refine wpList_append_own_at _ rfl (.tmp 41) (.tmp 47) _ rfl (w1.heap.size + 1) 3 i0 (.int .i64 0) 1 8 Try.underlying22 hi0 hz0 hz1 hz2 rfl (by decide) _ _ _ rfl (HT.out.own.alloc _) ⟨_, 0, none⟩ 1 1 [.int .i64 (atL l k)] rfl rfl (cell_one_new _ _ _) (by simp [Value.oneCell']) (by unfold maxLen; omega) (by omega) (by have := HT.out.sz; simp; omega) ?_; intro v' z1 hown hg _ hb; have HT2 := Lib.hid (HT.out.step hown hg hb); obtain ⟨e1, e2, e3, -, -⟩ := HT.out.mid hown hg hb; obtain ⟨gn, cn, rfl⟩ := ownsRow_succ hown; have HA2 := Lib.hid (HA.out.app (bx := w1.heap.size) (v' := .slice (some ⟨gn, 0, none⟩) ((thinTo l M k).length + 1) cn) hg (fun e => by have := (World.ownsRow.lt HT.out.own _ e).1; have := HW0.out; omega) (by have := HW0.out; omega)); clear hown hg hb)
        rw [← HL.out] at HT2
        go_roundw
        case rel => exact ⟨k + 1, _, by omega, by simp, HT2, HA2⟩
        case measure => simp [intOf]; omega
      · have hrr := HRR.out
        have HL := Lib.hid (show thinTo l M (k + 1) = thinTo l M k from if_neg (by omega))
        have hri := HRI.out
        have h0b : ((r : Int) == 0) = false := by simp; omega
        have h0d : ¬ ((r : Int) = 0) := by omega
        have f1 : (k : Int) % (M : Int) = (r : Int) := hri
        have f2 : (k : Int).tmod (M : Int) = (r : Int) := by rw [Int.tmod_eq_emod_of_nonneg (by omega)]; exact hri
        have f4 : IntKind.i64.wrap (r : Int) = (r : Int) := IntWalk.i64_in _ (by omega)
        have HT2 := HT
        rw [← HL.out] at HT2
        clear hrr hri
        go_wp2
        go_roundw
        case rel => exact ⟨k + 1, _, by omega, by simp, HT2, HA⟩
        case measure => simp [intOf]; omega
    · obtain rfl : k = l.length := by omega
      obtain ⟨q, qc, rfl, hsl, hqb⟩ := HT.out.own.ser
      have t0 := HT.out.c0
      have t1 := HT.out.c1
      have r0 := HT.out.r0
      have r1 := HT.out.r1
      have q0 := HT.out.g0
      have q1 := HT.out.g1
      have hz3 := cell_lt t0
      have hz4 := cell_lt r0
      have HSL := Lib.hid hsl
      have HQB := Lib.hid (show ∀ k o, q = some ⟨k, o, none⟩ → w.heap.size + 1 < k from fun k o e => by have := hqb k o e; have := HW0.out; omega)
      have e0 := pair_c0 (.int .i64 ((M : Int) * tau)) (.slice q (thinTo l M l.length).length qc) r0
      have e1 := two_c1 (.int .i64 ((M : Int) * tau)) (.slice q (thinTo l M l.length).length qc) r1
      clear hsl hqb
      go_wp2
      refine bodyPost_ret (v := .tuple #[.agg #[.int .i64 ((M : Int) * tau), .slice q (thinTo l M l.length).length qc], .int .i64 0]) (by simp [results, Try.results49, go_sem, e0, e1]) rfl ⟨_, _, rfl, (HSL.out.set HQB.out).set HQB.out, ?_⟩
      exact (HT.out.bel.setCell (p := ⟨w.heap.size + 1, 0, none⟩) (by show w.heap.size ≤ w.heap.size + 1; omega) _).setCell (p := ⟨w.heap.size + 1, 1, none⟩) (by show w.heap.size ≤ w.heap.size + 1; omega) _
theorem rthin_all (tau : Int) (l : List Int) (p : Option Addr) (cap : Nat) (m : Int) (w : World) (hs : SerIn w l p) :
    Calls Try.prog 49 #[.agg #[.int .i64 tau, .slice p l.length cap], .int .i64 m] w fun e w' => ∃ q c, e = .returned (.tuple #[.agg #[.int .i64 (thinTau tau l m), .slice q (thinLs tau l m).length c], .int .i64 (thinErr tau l m)]) ∧
      SliceIn q (thinLs tau l m).length (IntsAt w' (thinLs tau l m)) ∧ Below w.heap.size w w' := by
  by_cases he : thinErr tau l m = 0
  · obtain ⟨h0, hmt⟩ := thinErr_zero he
    obtain ⟨h128, ht, hp, hm⟩ := stepErr_zero h0
    obtain ⟨M, rfl⟩ : ∃ M : Nat, m = M := ⟨m.toNat, by omega⟩
    have e2 : thinLs tau l M = thinTo l M l.length := by unfold thinLs; rw [if_pos he]; rfl
    have e3 : thinTau tau l M = M * tau := by unfold thinTau; rw [if_pos he]
    rw [he, e2, e3]
    exact rthin_ok tau l p cap M w hs (by omega) h128 ht h0 hmt
  · have e2 : thinLs tau l m = [] := by unfold thinLs; rw [if_neg he]
    have e3 : thinTau tau l m = 0 := by unfold thinTau; rw [if_neg he]
    rw [e2, e3]
    refine (rthin_err tau l p cap m w hs he).mono ?_
    rintro e w' ⟨rfl, hb⟩
    exact ⟨none, 0, rfl, .inl rfl, hb⟩
end Go.Proofs.Ytpmhphdpomiacaa
