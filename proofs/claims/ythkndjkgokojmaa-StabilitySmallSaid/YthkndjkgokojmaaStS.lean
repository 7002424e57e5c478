/- Contracts of layer 3: Squares. -/
import Derived.Test.YthkndjkgokojmaaStH
import Derived.Test.YthkndjkgokojmaaStN
namespace Go.Proofs.Ythkndjkgokojmaa
open Go Go.RowKit Go.Shelf
attribute [local go_sem] Oper.semAt_some
theorem own_low {w : World} {b b' : Nat} {e : TypeId} {s : Nat} {v : Value} {n : Nat} {xs : List Value} (h : w.ownsRow b e s v n xs) (hb : b' ≤ b) : w.ownsRow b' e s v n xs := by
  refine ⟨h.1, ?_⟩
  rcases h.2 with h0 | ⟨g, cap, cur, hv, hg, r⟩
  · exact .inl h0
  · exact .inr ⟨g, cap, cur, hv, Nat.le_trans hb hg, r⟩
theorem own_beyond {w : World} {b : Nat} {e : TypeId} {s : Nat} {v : Value} {n : Nat} {xs : List Value} (h : w.ownsRow b e s v n xs) {k : Nat} (hk : k < b) : v.ownBlock ≠ some k := by
  rcases h.2 with ⟨rfl, _⟩ | ⟨g, cap, cur, rfl, hg, r⟩
  · simp [Value.ownBlock]
  · simp [Value.ownBlock]; omega
def encQ (d : SInt) : Value := .int .i64 (d.1 * d.1)
def sqL2 (xs : List SInt) : List Int := xs.map fun d => d.1 * d.1
set_option maxRecDepth 100000 in
set_option maxHeartbeats 2000000 in
theorem squares_ok (tau : Int) (l : List Int) (p : Option Addr) (cap M : Nat) (w : World) (hs : SerIn w l p) (hp : phasesOk l = true) (h128 : l.length ≤ 128) (hm : 1 ≤ M ∧ M ≤ 32) (he : stepErr tau l M = 0) :
    Calls Try.prog 36 #[.agg #[.int .i64 tau, .slice p l.length cap], .int .i64 M] w fun e w' => ∃ v, e = .returned (.tuple #[v, .int .i64 (if secL l hp M 1 (cntS l.length (2 * M) 1) = [] then 4 else 0)]) ∧
      w'.ownsRow w.heap.size 3 1 v (secL l hp M 1 (cntS l.length (2 * M) 1)).length ((secL l hp M 1 (cntS l.length (2 * M) 1)).map encQ) ∧ Below w.heap.size w w' := by
  obtain ⟨xs, hxs⟩ : ∃ xs, xs = secL l hp M 1 (cntS l.length (2 * M) 1) := ⟨_, rfl⟩
  rw [← hxs]
  have hN : xs.length ≤ 128 := by rw [hxs, secL_len]; unfold cntS; exact Nat.le_trans (Nat.div_le_self _ _) (by omega)
  obtain ⟨E, hE⟩ : ∃ E : Int, E = if xs = [] then 4 else 0 := ⟨_, rfl⟩
  rw [← hE]
  have HXS := Lib.hid hxs
  have HEE := Lib.hid hE
  clear hxs hE
  refine (callsIn_wide (n := 9)).1 ?_
  have hro : Fence.wide.round = none := rfl
  obtain ⟨i0, hi, hz0, hz1, hz2⟩ := info_parts infoInt
  have a0 := below_alloc (Below.refl w.heap.size w) (.cells #[.int .i64 tau, .slice p l.length cap] 28)
  have HC := Lib.hid (checkStep_any tau l p cap M _ (hs.below a0))
  have HS := Lib.hid (hs.below a0)
  have HS0 := Lib.hid hs
  have A0 := Lib.hid a0
  have c0 : (w.alloc (.cells #[.int .i64 tau, .slice p l.length cap] 28)).cell? ⟨w.heap.size, 0, none⟩ = some (.int .i64 tau) := by simp
  have c1 : (w.alloc (.cells #[.int .i64 tau, .slice p l.length cap] 28)).cell? ⟨w.heap.size, 1, none⟩ = some (.slice p l.length cap) := by simp
  have C0 := Lib.hid c0
  have C1 := Lib.hid c1
  clear hs a0 c0 c1
  refine callsIn_of_wp_marks Try.func36 rfl trivial ?_ hro
  simp only [Try.ntmps36, List.size_toArray, List.length_cons, List.length_nil, Nat.reduceAdd, Nat.reduceSub, Array.replicate_succ, Array.replicate_zero, List.push_toArray, List.append_toArray, List.nil_append, List.cons_append]
  gi_wp2
  refine ⟨trivial, (callsIn_wide.2 HC.out).mono ?_⟩
  rintro e w1 ⟨rfl, hb⟩
  rw [he]
  have d0 := cell_below hb C0.out
  have d1 := cell_below hb C1.out
  have hz := cell_lt d0
  have HS1 := Lib.hid (HS.out.below hb)
  have A1 := Lib.hid (A0.out.trans (hb.mono A0.out.size))
  clear hb
  gi_wp2
  have b2 := below_alloc (Below.refl w1.heap.size w1) (.cells #[.slice none 0 0] 22)
  have HG := Lib.hid (seconds_gives tau l p cap M 1 _ (HS1.out.below b2) hp h128 (by omega) (by omega))
  refine ⟨trivial, (callsIn_wide.2 HG.out).mono ?_⟩
  rintro e w3 ⟨lb, f, rfl, hb3, hf, hseq⟩
  have hA : Below w.heap.size w w3 := A1.out.trans ((b2.mono A1.out.size).trans (hb3.mono (Nat.le_trans A1.out.size b2.size)))
  have hbx : Boxed w3 w1.heap.size 22 (.slice none 0 0) := by
    have h1 : Boxed (w1.alloc (.cells #[.slice none 0 0] 22)) w1.heap.size 22 (.slice none 0 0) := Boxed.new w1 _ _
    exact (hb3.block _ h1.lt).trans h1
  have hf1 : ∀ k, f k → k < w3.heap.size := fun k hk => (hf k hk).1
  have hf2 : ∀ k, f k → k ≠ w1.heap.size := fun k hk => by
    rcases (hf k hk).2 with h | ⟨hn, o, h⟩
    · simp at h; omega
    · have := HS0.out.blk hn h; have := A1.out.size; omega
  have hf3 : ∀ k, f k → k < w.heap.size ∨ w1.heap.size + 1 ≤ k := fun k hk => by
    rcases (hf k hk).2 with h | ⟨hn, o, h⟩
    · simp at h; omega
    · exact .inl (HS0.out.blk hn h)
  rw [← HXS.out] at hseq
  have HL1 := Lib.hid (show w.heap.size ≤ w1.heap.size from A1.out.size)
  clear d0 d1 hz HG hf hb3 b2 HS1 A1 HC HS A0 C0 C1
  gi_wp2
  refine wpIn_rangeFunc_ownF hro (by decide) (gf := 97) (lb := lb) rfl trivial (enters_of Try.func97 (by kernel_rfl) rfl)
    (hseq 8 (by decide)) (fun h k => h.trans k) (Stay.putObj hf1) (Below.refl _ _) (fun _ => rfl)
    (fun (pre : List SInt) W => (∃ v, Boxed W w1.heap.size 22 v ∧ W.ownsRow w3.heap.size 3 1 v pre.length (pre.map encQ) ∧ (v = .slice none 0 0 ↔ pre = [])) ∧ (Below w.heap.size w W ∧ w3.heap.size ≤ W.heap.size))
    (fun _ _ _ => False)
    (OwnFrom.and (Own.from (holdsRow_own w3.heap.size w1.heap.size 22 3 1 (fun (pre : List SInt) => pre.length) (fun pre => pre.map encQ) (fun pre v => v = .slice none 0 0 ↔ pre = [])) _) (OwnFrom.and (ownFrom_below (Nat.le_refl _) hA.size) (fun _ _ _ _ h hg _ => Nat.le_trans h hg.size)))
    (fun _ _ _ _ _ hs _ _ => hs)
    ⟨⟨_, hbx, World.ownsRow_nil _ _ _ _, by simp⟩, hA, Nat.le_refl _⟩
    (fun d => { tmps := #[.agg #[.int .i64 tau, .slice p l.length cap], .int .i64 M, .pointer (some ⟨w.heap.size, 0, none⟩), undef, .slice none 0 0, .int .i64 0, .int .i64 0, .pointer (some ⟨w1.heap.size, 0, none⟩), .int .i64 d.1, .agg #[.int .i64 tau, .slice p l.length cap], .int .i64 M, .int .i64 0, .int .i64 0, .bool false, undef, .agg #[.int .i64 tau, .slice p l.length cap], .int .i64 M, .func (.func 97) #[] lb, .int .i64 d.1, undef, undef, undef, undef, undef, undef, undef, undef, undef, undef], defers := [] }) ?assign ?body ?done ?stop
  case assign =>
    intro l x W K hK
    gi_wp2
    exact hK
  case body =>
    rintro l2 pre x W ⟨⟨v, hv, hrow, -⟩, hB, hW3⟩ hlt
    have hc := hv.cell
    have hml : pre.length + 1 ≤ maxLen := by unfold maxLen; omega
    have hsq := sq_bd x
    have w1' : IntKind.i64.wrap (x.1 * x.1) = x.1 * x.1 := IntWalk.i64_in _ (by omega)
    have h13 : w1.heap.size ≤ w3.heap.size := Nat.le_of_lt hbx.lt
    gi_wp2_with (gi_at_builtin; refine wpListIn_append_own _ rfl _ _ 22 rfl w3.heap.size 3 i0 (.int .i64 0) 1 8 Try.underlying22 hi hz0 hz1 hz2 rfl (by decide) _ _ _ rfl (hrow.alloc _) ⟨W.heap.size, 0, none⟩ 1 1 [.int .i64 (x.1 * x.1)] rfl rfl (cell_one_new _ _ _) (by simp [Value.oneCell']) hml (by omega) (by simp; omega) ?_; intro v' w4 hown' hgrow _; obtain ⟨g', cap', rfl⟩ := ownsRow_succ hown'; obtain ⟨hv1, hv2, -, hk2, hb2⟩ := hv.appended (n₀ := w1.heap.size) (by decide) (own_low hrow h13) (by omega) (Nat.le_refl _) (own_low hown' h13) hgrow; have hc1 := hv1.cell; have hf1' := hv1.frozen)
    refine ⟨hk2, ⟨hb2.size, fun k hk => ?_⟩, ⟨_, hv2, ?_, by simp⟩, hB.trans (hb2.mono HL1.out), Nat.le_trans hW3 hb2.size⟩
    · have hkl := hf1 k hk
      rw [Below.heap_setCell _ _ _ _ (by show k ≠ w1.heap.size; exact hf2 k hk), hgrow.block k (by simp; omega) (own_beyond hrow hkl).symm]
      exact Below.heap_alloc _ _ _ (by omega)
    · have := hown'.kept (grownBy_setCell' w4 w1.heap.size (.slice (some ⟨g', 0, none⟩) (pre.length + 1) cap')) (.inr (hv1.not_row (by decide) hown').symm)
      simpa [encQ] using this
  case done =>
    rintro D ys W hD hys ⟨⟨v, hv, hrow, hnil⟩, hB, hW3⟩ hK
    rw [hys] at hrow hnil
    clear hys
    have hc := hv.cell
    have HF := Lib.hid (hB.trans (belowK_b (w := w) (Nat.le_refl _) W D _ (.deferred none) (Nat.le_trans hA.size hD) hK rfl rfl))
    have HR := Lib.hid (own_low (ownsRow_putObj hrow (.deferred none) hK rfl) (Nat.le_trans HL1.out (Nat.le_of_lt hbx.lt)))
    by_cases hx : xs = []
    · have hv0 := hnil.2 hx
      subst hv0
      have HE4 := Lib.hid (show E = 4 by rw [HEE.out, if_pos hx])
      clear hnil hrow hx
      gi_wp2
      refine ⟨by simp, .inl ⟨_, _, rfl, run_takeDeferred hK, ?_⟩⟩
      refine ⟨.tuple #[.slice none 0 0, .int .i64 4], by simp [results, Try.results36, go_sem], ?_⟩
      exact ⟨_, by rw [HE4.out], HR.out, HF.out⟩
    · have hl0 : 1 ≤ xs.length := List.length_pos_iff.2 hx
      obtain ⟨g', cap', hv'⟩ := ownsRow_succ (k := xs.length - 1) (by rw [Nat.sub_add_cancel hl0]; exact hrow)
      rw [Nat.sub_add_cancel hl0] at hv'
      subst hv'
      have HE0 := Lib.hid (show E = 0 by rw [HEE.out, if_neg hx])
      have hne0 : ((xs.length : Int) == 0) = false := by simp; omega
      clear hnil hrow hx
      gi_wp2
      refine ⟨by simp, .inl ⟨_, _, rfl, run_takeDeferred hK, ?_⟩⟩
      refine ⟨.tuple #[.slice (some ⟨g', 0, none⟩) xs.length cap', .int .i64 0], by simp [results, Try.results36, go_sem], ?_⟩
      exact ⟨_, by rw [HE0.out], HR.out, HF.out⟩
  case stop =>
    rintro D c pre W _ _ h _
    exact h.elim
theorem squares_err (tau : Int) (l : List Int) (p : Option Addr) (cap : Nat) (m : Int) (w : World) (hs : SerIn w l p) (he : stepErr tau l m ≠ 0) :
    Calls Try.prog 36 #[.agg #[.int .i64 tau, .slice p l.length cap], .int .i64 m] w fun e w' => e = .returned (.tuple #[.slice none 0 0, .int .i64 (stepErr tau l m)]) ∧ Below w.heap.size w w' := by
  have a0 := below_alloc (Below.refl w.heap.size w) (.cells #[.int .i64 tau, .slice p l.length cap] 28)
  have HC := Lib.hid (checkStep_any tau l p cap m _ (hs.below a0))
  have A0 := Lib.hid a0
  have hne : (stepErr tau l m != 0) = true := by simpa using he
  clear hs a0 he
  go_enter Try.func36, Try.ntmps36
  go_wp2_with fail
  refine HC.out.mono ?_
  rintro e w1 ⟨rfl, hb⟩
  have HB := Lib.hid (A0.out.trans (hb.mono A0.out.size))
  clear hb
  go_wp2
  exact bodyPost_ret (v := .tuple #[.slice none 0 0, .int .i64 (stepErr tau l m)]) (by simp [results, Try.results36, go_sem]) rfl ⟨rfl, HB.out⟩
def squaresErr (tau : Int) (l : List Int) (m : Int) : Int := if h : stepErr tau l m = 0 then (if secL l (stepErr_zero h).2.2.1 m.toNat 1 (cntS l.length (2 * m.toNat) 1) = [] then 4 else 0) else stepErr tau l m
def squaresL (tau : Int) (l : List Int) (m : Int) : List Int := if h : stepErr tau l m = 0 then sqL2 (secL l (stepErr_zero h).2.2.1 m.toNat 1 (cntS l.length (2 * m.toNat) 1)) else []
theorem squares_any (tau : Int) (l : List Int) (p : Option Addr) (cap : Nat) (m : Int) (w : World) (hs : SerIn w l p) :
    Calls Try.prog 36 #[.agg #[.int .i64 tau, .slice p l.length cap], .int .i64 m] w fun e w' => ∃ p' cap', e = .returned (.tuple #[.slice p' (squaresL tau l m).length cap', .int .i64 (squaresErr tau l m)]) ∧
      SliceIn p' (squaresL tau l m).length (IntsAt w' (squaresL tau l m)) ∧ (∀ k o, p' = some ⟨k, o, none⟩ → w.heap.size ≤ k) ∧ (squaresL tau l m).length ≤ cap' ∧ Below w.heap.size w w' := by
  by_cases he : stepErr tau l m = 0
  · obtain ⟨h128, ht, hp, hm⟩ := stepErr_zero he
    have h1 : squaresErr tau l m = _ := dif_pos he
    have h2 : squaresL tau l m = _ := dif_pos he
    rw [h1, h2]
    obtain ⟨M, rfl⟩ : ∃ M : Nat, m = M := ⟨m.toNat, by omega⟩
    rw [Int.toNat_natCast]
    refine (squares_ok tau l p cap M w hs hp h128 (by omega) he).mono ?_
    rintro e w1 ⟨v, rfl, hrow, hb⟩
    have hrow' : w1.ownsRow w.heap.size 3 1 v (sqL2 (secL l hp M 1 (cntS l.length (2 * M) 1))).length ((sqL2 (secL l hp M 1 (cntS l.length (2 * M) 1))).map (Value.int .i64)) := by
      unfold sqL2; rw [List.length_map, List.map_map]; exact hrow
    obtain ⟨p', cap', rfl, g1, g2, g3⟩ := ints_own hrow'
    exact ⟨p', cap', rfl, g1, g2, g3, hb⟩
  · have h1 : squaresErr tau l m = _ := dif_neg he
    have h2 : squaresL tau l m = _ := dif_neg he
    rw [h1, h2]
    refine (squares_err tau l p cap m w hs he).mono ?_
    rintro e w1 ⟨rfl, hb⟩
    exact ⟨none, 0, rfl, .inl rfl, (fun _ _ h => by cases h), Nat.le_refl _, hb⟩
end Go.Proofs.Ythkndjkgokojmaa
