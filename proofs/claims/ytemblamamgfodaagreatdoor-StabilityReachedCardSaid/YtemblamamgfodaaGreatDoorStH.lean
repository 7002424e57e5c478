/- Contracts of layer 3: an iterator's numbers as a slice. -/
import Derived.Test.YtemblamamgfodaaGreatDoorStF
import Derived.Maps.AppendAt
namespace Go.Proofs.YtemblamamgfodaaGreatDoor
open Go Go.RowKit Go.Shelf
attribute [local go_sem] Oper.semAt_some
theorem infoInt : (Tryz.prog.info? 3).map (fun i => (i.zero, i.size, i.bytes)) = some (some (.int .i64 0), 1, 8) := by kernel_rfl
def encI (d : SInt) : Value := .int .i64 d.1
theorem ints_own {w : World} {b : Nat} {v : Value} {l : List Int} (h : w.ownsRow b 3 1 v l.length (l.map (Value.int .i64))) : ∃ p cap, v = .slice p l.length cap ∧ SliceIn p l.length (IntsAt w l) ∧ (∀ k o, p = some ⟨k, o, none⟩ → b ≤ k) ∧ l.length ≤ cap := by
  rcases h.2 with ⟨rfl, h0⟩ | ⟨g, cap, cur, rfl, hb, hg, h1, h2, h3, h4⟩
  · exact ⟨none, 0, by rw [h0], .inl h0, (fun _ _ h => by cases h), by omega⟩
  · refine ⟨_, cap, rfl, .inr ⟨g, 0, rfl, fun i hi => ?_⟩, (fun k o h => by cases h; exact hb), h1⟩
    have e : cur[i]? = some (.int .i64 l[i]) := by
      have : (cur.toList.take (l.length * 1))[i]? = some (.int .i64 l[i]) := by rw [h4]; simp [hi]
      rw [List.getElem?_take] at this
      split at this
      · simpa using this
      · cases this
    simp [World.cell?, hg, e]
set_option maxRecDepth 100000 in
set_option maxHeartbeats 2000000 in
theorem appendSeq_any (gf : Nat) (lb : Array Value) (f : Nat → Prop) (xs : List SInt) (w : World) (eg : ∀ args w, (callFunc gf args).run Tryz.prog w = .ok (.enter gf args) w) (hf : ∀ k, f k → k < w.heap.size) (h128 : xs.length ≤ 128)
    (hseq : ∀ n, 1 ≤ n → SeqStopsK Fence.wide n Tryz.prog gf lb (fun d : SInt => #[.int .i64 d.1]) (Stay f) (fun ys => ys = xs) (fun pre => pre <+: xs) xs.length w) :
    Calls Tryz.prog 161 #[.slice none 0 0, .func (.func gf) #[] lb] w fun e w' => ∃ v, e = .returned v ∧ w'.ownsRow w.heap.size 3 1 v xs.length (xs.map encI) ∧ Below w.heap.size w w' := by
  refine (callsIn_wide (n := 9)).1 ?_
  have hro : Fence.wide.round = none := rfl
  obtain ⟨i0, hi, hz0, hz1, hz2⟩ := info_parts infoInt
  have hB0 := below_alloc (Below.refl w.heap.size w) (.cells #[.slice none 0 0] 38)
  have hbx : Boxed (w.alloc (.cells #[.slice none 0 0] 38)) w.heap.size 38 (.slice none 0 0) := Boxed.new w _ _
  refine callsIn_of_wp_marks Tryz.func161 rfl trivial ?_ hro
  simp only [Tryz.ntmps161, List.size_toArray, List.length_cons, List.length_nil, Nat.reduceAdd, Nat.reduceSub, Array.replicate_succ, Array.replicate_zero, List.push_toArray, List.append_toArray, List.nil_append, List.cons_append]
  gi_wp2
  refine wpIn_rangeFunc_ownF hro (by decide) (gf := gf) (lb := lb) rfl trivial eg
    (hseq 8 (by decide)) (fun h k => h.trans k) (Stay.putObj (fun k hk => by have := hf k hk; simp; omega)) hB0 (fun _ => rfl)
    (fun (pre : List SInt) W => (∃ v, Boxed W w.heap.size 38 v ∧ W.ownsRow w.heap.size 3 1 v pre.length (pre.map encI) ∧ True) ∧ Below w.heap.size w W)
    (fun _ _ _ => False)
    (OwnFrom.and (Own.from (holdsRow_own w.heap.size w.heap.size 38 3 1 (fun (pre : List SInt) => pre.length) (fun pre => pre.map encI) (fun _ _ => True)) _) (ownFrom_below (Nat.le_refl _) (by simp)))
    (fun _ _ _ _ _ hs _ _ => hs)
    ⟨⟨_, hbx, World.ownsRow_nil _ _ _ _, trivial⟩, hB0⟩
    (fun d => { tmps := #[.slice none 0 0, .func (.func gf) #[] lb, .pointer (some ⟨w.heap.size, 0, none⟩), undef, .slice none 0 0, .int .i64 d.1, .func (.func gf) #[] lb, .int .i64 d.1, undef, undef, undef, undef, undef], defers := [] }) ?assign ?body ?done ?stop
  case assign =>
    intro l x W K hK
    gi_wp2
    exact hK
  case body =>
    rintro l pre x W ⟨⟨v, hv, hrow, -⟩, hB⟩ hlt
    have hc := hv.cell
    have hml : pre.length + 1 ≤ maxLen := by unfold maxLen; omega
    gi_wp2_with (gi_at_builtin; refine wpListIn_append_own _ rfl _ _ 38 rfl w.heap.size 3 i0 (.int .i64 0) 1 8 Tryz.underlying38 hi hz0 hz1 hz2 rfl (by decide) _ _ _ rfl (hrow.alloc _) ⟨W.heap.size, 0, none⟩ 1 1 [.int .i64 x.1] rfl rfl (cell_one_new _ _ _) (by simp [Value.oneCell']) hml (by omega) (by have := hB.size; simp; omega) ?_; intro v' w1 hown' hgrow _; obtain ⟨g', cap', rfl⟩ := ownsRow_succ hown'; obtain ⟨hv1, hv2, hr2, hk2, hb2⟩ := hv.appended (by decide) hrow hB.size (Nat.le_refl _) hown' hgrow; have hc1 := hv1.cell; have hf1 := hv1.frozen)
    exact ⟨hk2, ⟨hb2.size, fun k hk => hb2.block k (hf k hk)⟩, ⟨_, hv2, by simpa [encI] using hr2, trivial⟩, hB.trans hb2⟩
  case done =>
    rintro D ys W hD hys ⟨⟨v, hv, hrow, -⟩, hB⟩ hK
    rw [hys] at hrow
    have hc := hv.cell
    gi_wp2
    refine ⟨by simp, .inl ⟨_, _, rfl, run_takeDeferred hK, ?_⟩⟩
    exact ⟨_, results_tmp rfl _ _ _, v, rfl, ownsRow_putObj hrow _ hK rfl, hB.trans (belowK_b (w := w) (Nat.le_refl _) W D _ _ (by simp at hD; omega) hK rfl rfl)⟩
  case stop =>
    rintro D c pre W _ _ h _
    exact h.elim
theorem collect_any (gf : Nat) (lb : Array Value) (f : Nat → Prop) (xs : List SInt) (w : World) (eg : ∀ args w, (callFunc gf args).run Tryz.prog w = .ok (.enter gf args) w) (hf : ∀ k, f k → k < w.heap.size) (h128 : xs.length ≤ 128)
    (hseq : ∀ n, 1 ≤ n → SeqStopsK Fence.wide n Tryz.prog gf lb (fun d : SInt => #[.int .i64 d.1]) (Stay f) (fun ys => ys = xs) (fun pre => pre <+: xs) xs.length w) :
    Calls Tryz.prog 143 #[.func (.func gf) #[] lb] w fun e w' => ∃ p cap, e = .returned (.slice p xs.length cap) ∧ SliceIn p xs.length (IntsAt w' (xs.map (·.1))) ∧ (∀ k o, p = some ⟨k, o, none⟩ → w.heap.size ≤ k) ∧ xs.length ≤ cap ∧ Below w.heap.size w w' := by
  have HC := Lib.hid (appendSeq_any gf lb f xs w eg hf h128 hseq)
  clear eg hf hseq
  go_enter Tryz.func143, Tryz.ntmps143
  go_wp2_with fail
  refine HC.out.mono ?_
  rintro e w1 ⟨v, rfl, hrow, hb⟩
  have hrow' : w1.ownsRow w.heap.size 3 1 v (xs.map (·.1)).length ((xs.map (·.1)).map (Value.int .i64)) := by
    rw [List.length_map, List.map_map]; exact hrow
  obtain ⟨p, cap, rfl, h1, h2, h3⟩ := ints_own hrow'
  rw [List.length_map] at h1 h3
  have H3 := Lib.hid h3
  have H1 := Lib.hid h1
  have H2 := Lib.hid h2
  have HB := Lib.hid hb
  clear hrow hrow' h1 h2 h3 hb HC
  rw [List.length_map]
  go_wp2
  go_ret
  exact ⟨p, cap, rfl, H1.out, H2.out, H3.out, HB.out⟩
end Go.Proofs.YtemblamamgfodaaGreatDoor
