/- Contracts of the reference of layer 3: Squares; slices.Equal of equal lists, slices.Clone of whatever list. -/
import Derived.Test.YthkndjkgokojmaaRe
import Derived.Test.YthkndjkgokojmaaStT
namespace Go.Proofs.Ythkndjkgokojmaa
open Go Go.RowKit Go.Shelf
/-- what Squares keeps while its list grows -/
structure SqAt (w W : World) (tau : Int) (sv v : Value) (L : List Int) : Prop where
  own : OwnI (w.heap.size + 1) W v L
  s0 : W.cell? ⟨w.heap.size, 0, none⟩ = some (.int .i64 tau)
  s1 : W.cell? ⟨w.heap.size, 1, none⟩ = some sv
  bel : Below w.heap.size w W
  sz : w.heap.size + 1 ≤ W.heap.size
variable {w W Y : World} {tau : Int} {sv v v' : Value} {L : List Int} {o : Obj}
theorem SqAt.below (h : SqAt w W tau sv v L) (hb : Below W.heap.size W Y) : SqAt w Y tau sv v L :=
  ⟨own_of_below h.own hb, cell_below hb h.s0, cell_below hb h.s1, h.bel.trans (hb.mono h.bel.size), Nat.le_trans h.sz hb.size⟩
theorem SqAt.step (h : SqAt w W tau sv v L) (x : Int) (hown : Y.ownsRow (w.heap.size + 1) 3 1 v' (L.length + 1) (ints L ++ [.int .i64 x])) (hg : (W.alloc o).grownBy Y v.ownBlock) : SqAt w Y tau sv v' (L ++ [x]) := by
  have hne : ∀ k, k < w.heap.size + 1 → v.ownBlock ≠ some k := fun k hk e => by have := (World.ownsRow.lt h.own k e).1; omega
  have hsz := h.sz
  have hs2 := hg.size
  refine ⟨OwnI.snoc hown, grown_cell hg (hne _ (by omega)) h.s0, grown_cell hg (hne _ (by omega)) h.s1, ?_, by simp at hs2; omega⟩
  exact (h.bel.alloc h.bel.size o).grown hg (by have := h.bel.size; simp; omega) (fun k e => by have := (World.ownsRow.lt h.own k e).1; omega)
theorem sq2_succ (l : List Int) (hp : phasesOk l = true) (M q : Nat) : sqL2 (secL l hp M 1 (q + 1)) = sqL2 (secL l hp M 1 q) ++ [secAt l M q * secAt l M q] := by
  rw [secL_succ, Nat.mul_one]
  unfold sqL2
  rw [List.map_append]
  rfl
theorem sq2_len (l : List Int) (hp : phasesOk l = true) (M q : Nat) : (sqL2 (secL l hp M 1 q)).length = q := by simp [sqL2, secL_len]
theorem sec_sq {l : List Int} (hp : phasesOk l = true) (m i : Nat) : IntKind.i64.wrap (secAt l m i * secAt l m i) = secAt l m i * secAt l m i := by
  have h := sq_bd (secD l hp m i)
  exact IntWalk.i64_in _ (by simp only [secD] at h; omega)
theorem squaresErr_eq (tau : Int) (l : List Int) (m : Int) : (overlappingE tau l m).e = squaresErr tau l m := by
  unfold overlappingE outE squaresErr
  by_cases h : stepErr tau l m = 0
  · rw [dif_pos h, dif_pos h]
    unfold varE
    split <;> rfl
  · rw [dif_neg h, dif_neg h]
theorem squaresL_nil {tau : Int} {l : List Int} {m : Int} (h : squaresErr tau l m ≠ 0) : squaresL tau l m = [] := by
  unfold squaresErr at h
  unfold squaresL
  by_cases he : stepErr tau l m = 0
  · rw [dif_pos he] at h ⊢
    by_cases hx : secL l (stepErr_zero he).2.2.1 m.toNat 1 (cntS l.length (2 * m.toNat) 1) = []
    · rw [hx]; rfl
    · rw [if_neg hx] at h; exact absurd rfl h
  · rw [dif_neg he]
theorem roverlapping_at (tau : Int) (l : List Int) (p : Option Addr) (cap : Nat) (m : Int) (w : World) (hs : SerIn w l p) (V : VarE) (hV : overlappingE tau l m = V) :
    Calls Try.prog 29 #[.agg #[.int .i64 tau, .slice p l.length cap], .int .i64 m] w fun e w' => e = .returned (.tuple #[.agg #[.int .i64 V.n, .int .i64 V.d], .int .i64 V.e]) ∧ Below w.heap.size w w' := by
  subst hV
  exact roverlapping_any tau l p cap m w hs
theorem rsquares_err (tau : Int) (l : List Int) (p : Option Addr) (cap : Nat) (m : Int) (w : World) (hs : SerIn w l p) (he : squaresErr tau l m ≠ 0) :
    Calls Try.prog 37 #[.agg #[.int .i64 tau, .slice p l.length cap], .int .i64 m] w fun e w' => e = .returned (.tuple #[.slice none 0 0, .int .i64 (squaresErr tau l m)]) ∧ Below w.heap.size w w' := by
  have a0 := below_alloc (Below.refl w.heap.size w) (.cells #[.int .i64 tau, .slice p l.length cap] 63)
  obtain ⟨⟨vn, vd, ve⟩, hV⟩ : ∃ V, overlappingE tau l m = V := ⟨_, rfl⟩
  have HC := Lib.hid (roverlapping_at tau l p cap m _ (hs.below a0) _ hV)
  have A0 := Lib.hid a0
  have hE : ve = squaresErr tau l m := by rw [← squaresErr_eq, hV]
  rw [← hE] at he ⊢
  have hne : (ve != 0) = true := by simpa using he
  have hne2 : (ve == 0) = false := by simpa using he
  clear hs a0 he hE hV
  go_enter Try.func37, Try.ntmps37
  go_wp2_with fail
  refine HC.out.mono ?_
  rintro e w1 ⟨rfl, hb⟩
  have HB := Lib.hid (A0.out.trans ((hb.trans ((below_alloc (Below.refl w1.heap.size w1) (.cells #[.int .i64 vn, .int .i64 vd] 24)).mono hb.size)).mono A0.out.size))
  clear hb
  go_wp2
  exact bodyPost_ret (v := .tuple #[.slice none 0 0, .int .i64 ve]) (by simp [results, Try.results37, go_sem]) rfl ⟨rfl, HB.out⟩
set_option maxRecDepth 100000 in
set_option maxHeartbeats 4000000 in
theorem rsquares_ok (tau : Int) (l : List Int) (p : Option Addr) (cap M : Nat) (w : World) (hs : SerIn w l p) (hp : phasesOk l = true) (h128 : l.length ≤ 128) (hm : 1 ≤ M ∧ M ≤ 32) (he : squaresErr tau l M = 0) :
    Calls Try.prog 37 #[.agg #[.int .i64 tau, .slice p l.length cap], .int .i64 M] w fun e w' => ∃ p' c', e = .returned (.tuple #[.slice p' (l.length - 2 * M) c', .int .i64 0]) ∧ SliceIn p' (l.length - 2 * M) (IntsAt w' (sqL2 (secL l hp M 1 (l.length - 2 * M)))) ∧ Below w.heap.size w w' := by
  obtain ⟨i0, hi0, hz0, hz1, hz2⟩ := info_parts infoInt
  have a0 := below_alloc (Below.refl w.heap.size w) (.cells #[.int .i64 tau, .slice p l.length cap] 63)
  obtain ⟨⟨vn, vd, ve⟩, hV⟩ : ∃ V, overlappingE tau l M = V := ⟨_, rfl⟩
  have HC := Lib.hid (roverlapping_at tau l p cap M _ (hs.below a0) _ hV)
  have HS := Lib.hid hs
  have A0 := Lib.hid a0
  obtain rfl : ve = 0 := by rw [← squaresErr_eq, hV] at he; exact he
  obtain ⟨K, hK⟩ : ∃ K, K = l.length - 2 * M := ⟨_, rfl⟩
  have hK128 : K ≤ 128 := by omega
  have HLT := Lib.hid (fun j => show j < K ↔ j + 2 * M < l.length by omega)
  rw [← hK]
  have c0' : (w.alloc (.cells #[.int .i64 tau, .slice p l.length cap] 63)).cell? ⟨w.heap.size, 0, none⟩ = some (.int .i64 tau) := by simp
  have c1' : (w.alloc (.cells #[.int .i64 tau, .slice p l.length cap] 63)).cell? ⟨w.heap.size, 1, none⟩ = some (.slice p l.length cap) := by simp
  have HC0 := Lib.hid c0'
  have HC1 := Lib.hid c1'
  have w1 : IntKind.i64.wrap (2 * (M : Int)) = 2 * (M : Int) := IntWalk.i64_in _ (by omega)
  clear hs a0 he hK hV c0' c1'
  go_enter Try.func37, Try.ntmps37
  go_wp2_with fail
  refine HC.out.mono ?_
  rintro e x1 ⟨rfl, hb⟩
  have hby := hb.trans ((below_alloc (Below.refl x1.heap.size x1) (.cells #[.int .i64 vn, .int .i64 vd] 24)).mono hb.size)
  have hlow : w.heap.size + 1 ≤ (x1.alloc (.cells #[.int .i64 vn, .int .i64 vd] 24)).heap.size := by have := hby.size; simp at this ⊢; omega
  have HR1 : Hid (SqAt w (x1.alloc (.cells #[.int .i64 vn, .int .i64 vd] 24)) tau (.slice p l.length cap) (.slice none 0 0) []) :=
    Lib.hid ⟨World.ownsRow_nil _ _ _ _, cell_below hby HC0.out, cell_below hby HC1.out, A0.out.trans (hby.mono A0.out.size), hlow⟩
  clear hb hby hlow HC HC0 HC1
  go_wp2
  generalize x1.alloc (.cells #[.int .i64 vn, .int .i64 vd] 24) = X1 at *
  go_loopw [8, 9] (fun s i wr => ∃ (q : Nat) (v : Value), q ≤ K ∧ s = v ∧ i = .int .i64 (q : Int) ∧ Hid (SqAt w wr tau (.slice p l.length cap) v (sqL2 (secL l hp M 1 q)))) (fun _ i _ => (5000 - intOf i).toNat)
  case atStart => exact ⟨0, _, Nat.zero_le _, rfl, rfl, HR1⟩
  case round =>
    obtain ⟨q, v, hj, rfl, rfl, HT⟩ := hrel
    have hc := HLT.out q
    obtain ⟨u, hu⟩ : ∃ u : Nat, u = q + 2 * M := ⟨_, rfl⟩
    have w5 : IntKind.i64.wrap ((q : Int) + 2 * (M : Int)) = (u : Int) := by rw [IntWalk.i64_in _ (by omega)]; omega
    obtain ⟨-, c0, c1, -, -⟩ := HT.out
    have hz := cell_lt c0
    by_cases hlt : q < K
    · have hul : u < l.length := by have := hc.1 hlt; omega
      have hul2 : (u : Int) < (l.length : Int) := by omega
      have hq3 : q + 2 * M < l.length := by omega
      have HL := Lib.hid (sq2_succ l hp M q)
      have hlen := sq2_len l hp M q
      have w6 : IntKind.i64.wrap ((q : Int) + 1) = (q : Int) + 1 := IntWalk.i64_in _ (by omega)
      have HSW : Hid (SerIn wr l p) := Lib.hid (HS.out.below HT.out.bel)
      have wT := sec_sq hp M q
      have hB0 : Below wr.heap.size wr wr.drew := Below.drew (Below.refl _ _)
      clear hc hu
      go_upto_region 8 with fail
      go_region_held3 (fun w' => w'.cell? ⟨w.heap.size, 0, none⟩ = some (.int .i64 tau) ∧ w'.cell? ⟨w.heap.size, 1, none⟩ = some (.slice p l.length cap))
        (first | exact ⟨c0, c1⟩ | exact ⟨HT3.out.s0, HT3.out.s1⟩ | exact ⟨cell_below hbk c0, cell_below hbk c1⟩ | exact ⟨cell_below (below_alloc hbk _) c0, cell_below (below_alloc hbk _) c1⟩)
        (first | (go_at_call 68; refine (rsecond_keep wr tau l p cap M _ _ (by first | exact hbk | exact hB0) HSW.out hp h128 hq3).mono ?_; rintro e wk ⟨rfl, hbk⟩) |
          (refine step_append_lies _ rfl (.tmp 29) (.tmp 39) _ rfl (w.heap.size + 1) 3 i0 (.int .i64 0) 1 8 Try.underlying22 hi0 hz0 hz1 hz2 rfl (by decide) _ _ _ rfl (World.ownsRow.alloc (own_of_below HT.out.own hbk) _) ⟨_, 0, none⟩ 1 1 [.int .i64 (secAt l M q * secAt l M q)] rfl rfl (cell_one_new _ _ _) (by simp [Value.oneCell']) (by decide) (by rw [hlen]; unfold maxLen; omega) (by rw [hlen]; omega) (by have := HT.out.sz; have := hbk.size; simp; omega) _ rfl ?_; intro gn cn z1 hown hg _ _; have HT3 := Lib.hid ((HT.out.below hbk).step (secAt l M q * secAt l M q) hown hg); clear hown hg))
      all_goals
        go_wp2_with fail
        rw [← HL.out, hlen] at HT3
        go_roundw
        all_goals first
          | exact ⟨q + 1, _, by omega, rfl, by simp, HT3⟩
          | (simp [intOf]; omega)
    · have hul : ¬ (u < l.length) := fun h => hlt (hc.2 (by omega))
      have hul2 : ¬ ((u : Int) < (l.length : Int)) := by omega
      obtain rfl : q = K := by omega
      obtain ⟨p', cap', rfl, hsl, -⟩ := HT.out.own.ser
      have hlen := sq2_len l hp M q
      rw [hlen] at hsl ⊢
      have HSL := Lib.hid hsl
      clear hsl hc
      go_wp2
      exact bodyPost_ret (v := .tuple #[.slice p' q cap', .int .i64 0]) (by simp [results, Try.results37, go_sem]) rfl ⟨_, ⟨_, rfl⟩, HSL.out, HT.out.bel⟩
theorem rsquares_any (tau : Int) (l : List Int) (p : Option Addr) (cap : Nat) (m : Int) (w : World) (hs : SerIn w l p) :
    Calls Try.prog 37 #[.agg #[.int .i64 tau, .slice p l.length cap], .int .i64 m] w fun e w' => ∃ p' cap', e = .returned (.tuple #[.slice p' (squaresL tau l m).length cap', .int .i64 (squaresErr tau l m)]) ∧
      SliceIn p' (squaresL tau l m).length (IntsAt w' (squaresL tau l m)) ∧ Below w.heap.size w w' := by
  by_cases he : squaresErr tau l m = 0
  · have h0 : stepErr tau l m = 0 := by
      unfold squaresErr at he
      by_cases h : stepErr tau l m = 0
      · exact h
      · rw [dif_neg h] at he; exact absurd he h
    obtain ⟨h128, ht, hp, hm⟩ := stepErr_zero h0
    obtain ⟨M, rfl⟩ : ∃ M : Nat, m = M := ⟨m.toNat, by omega⟩
    have hL : squaresL tau l M = sqL2 (secL l hp M 1 (l.length - 2 * M)) := by
      unfold squaresL
      rw [dif_pos h0, cntS_one]; rfl
    rw [hL, sq2_len, he]
    exact rsquares_ok tau l p cap M w hs hp h128 (by omega) he
  · rw [squaresL_nil he]
    refine (rsquares_err tau l p cap m w hs he).mono ?_
    rintro e w1 ⟨rfl, hb⟩
    exact ⟨none, 0, rfl, .inl rfl, hb⟩
/-! slices -/
set_option maxRecDepth 100000 in
set_option maxHeartbeats 1000000 in
theorem equal_yes (l : List Int) (p q : Option Addr) (c c' : Nat) (w : World) (hp : SliceIn p l.length (IntsAt w l)) (hq : SliceIn q l.length (IntsAt w l)) (hl : l.length ≤ maxLen) :
    Calls Try.prog 22 #[.slice p l.length c, .slice q l.length c'] w fun e w' => e = .returned (.bool true) ∧ Below w.heap.size w w' := by
  unfold maxLen at hl
  have HP := Lib.hid hp
  have HQ := Lib.hid hq
  clear hp hq
  go_enter Try.func22, Try.ntmps22
  go_wp2
  go_loopw [13] (fun i wr => ∃ k : Nat, k ≤ l.length ∧ i = .int .i64 (k : Int) ∧ Hid (Below w.heap.size w wr)) (fun i _ => l.length - (intOf i).toNat)
  case atStart => exact ⟨0, Nat.zero_le _, rfl, Lib.hid (Below.refl _ _)⟩
  case round =>
    obtain ⟨k, hk, rfl, HB⟩ := hrel
    by_cases hlt : k < l.length
    · have hkl : (k : Int) < (l.length : Int) := by omega
      obtain ⟨b, o, rfl, hi⟩ := HP.out.resolve_left (by omega)
      obtain ⟨b', o', rfl, hi'⟩ := HQ.out.resolve_left (by omega)
      have y0 := cell_below HB.out (hi k hlt)
      have y1 := cell_below HB.out (hi' k hlt)
      have w1 : IntKind.i64.wrap ((k : Int) + 1) = (k : Int) + 1 := IntWalk.i64_in _ (by omega)
      clear hi hi'
      generalize l[k] = x at *
      go_wp2
      go_quiet (fail)
      go_wp2
      go_roundw
      case rel => exact ⟨k + 1, by omega, by simp, Lib.hid (below_drewN HB.out _)⟩
      case measure => simp [intOf]; omega
    · obtain rfl : k = l.length := by omega
      go_wp2
      go_ret
      exact ⟨rfl, HB.out⟩
attribute [local go_sem] eql_nil in
set_option maxRecDepth 100000 in
theorem clone_empty (a : Addr) (cap : Nat) (w : World) :
    Calls Try.prog 17 #[.slice (some a) 0 cap] w fun e w' => ∃ v, e = .returned v ∧ w'.ownsRow w.heap.size 3 1 v 0 [] ∧ Below w.heap.size w w' := by
  refine (callsIn_wide (n := 9)).1 ?_
  have hro : Fence.wide.round = none := rfl
  obtain ⟨i0, hi0, hz0, hz1, hz2⟩ := info_parts infoInt
  have hE := empty_own w
  refine callsIn_of_wp Try.func17 rfl trivial ?_ hro
  simp only [Try.ntmps17, List.size_toArray, List.length_cons, List.length_nil, Nat.reduceAdd, Nat.reduceSub, Array.replicate_succ, Array.replicate_zero, List.push_toArray, List.append_toArray, List.nil_append, List.cons_append]
  gi_wp2_with (gi_at_builtin; refine wpListIn_append_own _ rfl _ _ 22 rfl w.heap.size 3 i0 (.int .i64 0) 1 8 Try.underlying22 hi0 hz0 hz1 hz2 rfl (by decide) _ 0 [] rfl hE a 0 cap [] rfl (by simp) (by simp) (by simp) (by simp [maxLen]) (by omega) (by simp) ?_; intro v' w1 hown' hgrow _)
  have hB := (below_alloc (Below.refl w.heap.size w) (.cells #[] 3)).grown hgrow (by simp) (fun k hk => by
    have e : (some w.heap.size : Option Nat) = some k := hk
    cases e
    exact Nat.le_refl _)
  go_ret
  exact ⟨v', rfl, by simpa using hown', hB⟩
/-- a copy of whatever list -/
theorem clone_all (l : List Int) (p : Option Addr) (cap : Nat) (w : World) (hs : SliceIn p l.length (IntsAt w l)) (hl : l.length ≤ 1000000) :
    Calls Try.prog 17 #[.slice p l.length cap] w fun e w' => ∃ p' c', e = .returned (.slice p' l.length c') ∧ SliceIn p' l.length (IntsAt w' l) ∧ (∀ k o, p' = some ⟨k, o, none⟩ → w.heap.size ≤ k) ∧ Below w.heap.size w w' ∧ l.length ≤ c' := by
  by_cases h0 : l = []
  · subst h0
    cases p with
    | none =>
      refine (clone_nil cap w).mono ?_
      rintro e w' ⟨rfl, rfl⟩
      exact ⟨none, 0, rfl, .inl rfl, (fun _ _ h => by cases h), Below.refl _ _, Nat.le_refl _⟩
    | some a =>
      refine (clone_empty a cap w).mono ?_
      rintro e w' ⟨v, rfl, hown, hb⟩
      obtain ⟨p', c', rfl, hs', hk, hc⟩ := ints_own (l := []) hown
      exact ⟨p', c', rfl, hs', hk, hb, hc⟩
  · obtain ⟨b, o, rfl, hi⟩ := hs.resolve_left (fun h => h0 (List.eq_nil_of_length_eq_zero h))
    refine (clone_some l b o cap w hl hi).mono ?_
    rintro e w' ⟨v, rfl, hown, hb⟩
    obtain ⟨p', c', rfl, hs', hk, hc⟩ := ints_own hown
    exact ⟨p', c', rfl, hs', hk, hb, hc⟩
end Go.Proofs.Ythkndjkgokojmaa
