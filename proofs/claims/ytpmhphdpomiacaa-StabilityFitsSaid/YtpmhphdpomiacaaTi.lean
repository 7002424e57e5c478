/- Contracts of layer 3: Thin of whatever arguments. -/
import Derived.Test.YtpmhphdpomiacaaTh
import Derived.Test.YtpmhphdpomiacaaPc
namespace Go.Proofs.Ytpmhphdpomiacaa
open Go Go.RowKit Go.Shelf
attribute [local go_sem] Oper.semAt_some
theorem pair_c0 {w : World} {b : Nat} {x : Value} (u v : Value) (h : w.cell? ⟨b, 0, none⟩ = some x) : ((w.setCell ⟨b, 0, none⟩ u).setCell ⟨b, 1, none⟩ v).cell? ⟨b, 0, none⟩ = some u := by
  rw [World.cell?_setCell_other _ ⟨b, 1, none⟩ ⟨b, 0, none⟩ _ (fun e => by cases e)]
  exact World.cell?_setCell_same _ _ _ h
set_option maxRecDepth 100000 in
set_option maxHeartbeats 2000000 in
theorem thin_err (tau : Int) (l : List Int) (p : Option Addr) (cap : Nat) (m : Int) (w : World) (hs : SerIn w l p) (he : stepErr tau l m ≠ 0) :
    Calls Try.prog 23 #[.agg #[.int .i64 tau, .slice p l.length cap], .int .i64 m] w fun e w' => e = .returned (.tuple #[.agg #[.int .i64 0, .slice none 0 0], .int .i64 (stepErr tau l m)]) ∧ Below w.heap.size w w' := by
  have a0 : Below w.heap.size w ((w.alloc (.cells #[.int .i64 tau, .slice p l.length cap] 24)).alloc (.cells #[.int .i64 0, .slice none 0 0] 24)) := below_alloc (below_alloc (Below.refl _ _) _) _
  have HC := Lib.hid (checkStep_any tau l p cap m _ (hs.below a0))
  have A0 := Lib.hid a0
  have C0 : Hid ((((w.alloc (.cells #[.int .i64 tau, .slice p l.length cap] 24)).alloc (.cells #[.int .i64 0, .slice none 0 0] 24))).cell? ⟨w.heap.size, 0, none⟩ = some (.int .i64 tau)) := Lib.hid (by simp [go_sem])
  have HR0 : Hid ((((w.alloc (.cells #[.int .i64 tau, .slice p l.length cap] 24)).alloc (.cells #[.int .i64 0, .slice none 0 0] 24))).cell? ⟨w.heap.size + 1, 0, none⟩ = some (.int .i64 0)) := Lib.hid (by simp [go_sem])
  have HR1 : Hid ((((w.alloc (.cells #[.int .i64 tau, .slice p l.length cap] 24)).alloc (.cells #[.int .i64 0, .slice none 0 0] 24))).cell? ⟨w.heap.size + 1, 1, none⟩ = some (.slice none 0 0)) := Lib.hid (by simp [go_sem])
  have HQ0 : Hid ((((w.alloc (.cells #[.int .i64 tau, .slice p l.length cap] 24)).alloc (.cells #[.int .i64 0, .slice none 0 0] 24))).frozen? ⟨w.heap.size + 1, 0, none⟩ = false) := Lib.hid (by simp [go_sem])
  have HQ1 : Hid ((((w.alloc (.cells #[.int .i64 tau, .slice p l.length cap] 24)).alloc (.cells #[.int .i64 0, .slice none 0 0] 24))).frozen? ⟨w.heap.size + 1, 1, none⟩ = false) := Lib.hid (by simp [go_sem])
  have hne : (stepErr tau l m != 0) = true := by simpa using he
  clear hs a0 he
  go_enter Try.func23, Try.ntmps23
  go_wp2_with fail
  refine HC.out.mono ?_
  rintro e w1 ⟨rfl, hb⟩
  have d0 := cell_below hb C0.out
  have r0 := cell_below hb HR0.out
  have r1 := cell_below hb HR1.out
  have q0 := (hb.frozen (p := ⟨w.heap.size + 1, 0, none⟩) (cell_lt HR0.out)).trans HQ0.out
  have q1 := (hb.frozen (p := ⟨w.heap.size + 1, 1, none⟩) (cell_lt HR1.out)).trans HQ1.out
  have hz := cell_lt r0
  have hz0 := cell_lt d0
  have HB := Lib.hid (((A0.out.trans (hb.mono A0.out.size)).setCell (p := ⟨w.heap.size + 1, 0, none⟩) (by show w.heap.size ≤ w.heap.size + 1; omega) (.int .i64 0)).setCell (p := ⟨w.heap.size + 1, 1, none⟩) (by show w.heap.size ≤ w.heap.size + 1; omega) (.slice none 0 0))
  have e0 := pair_c0 (.int .i64 0) (.slice none 0 0) r0
  have e1 := two_c1 (.int .i64 0) (.slice none 0 0) r1
  clear hb
  go_wp2
  exact bodyPost_ret (v := .tuple #[.agg #[.int .i64 0, .slice none 0 0], .int .i64 (stepErr tau l m)]) (by simp [results, Try.results23, go_sem, e0, e1]) rfl ⟨rfl, HB.out⟩
set_option maxRecDepth 100000 in
set_option maxHeartbeats 2000000 in
theorem thin_far (tau : Int) (l : List Int) (p : Option Addr) (cap : Nat) (M : Nat) (w : World) (hs : SerIn w l p) (hm : 1 ≤ M ∧ M ≤ 32) (ht : 1 ≤ tau ∧ tau ≤ 1000) (he : stepErr tau l M = 0) (hmt : 1000 < (M : Int) * tau) :
    Calls Try.prog 23 #[.agg #[.int .i64 tau, .slice p l.length cap], .int .i64 M] w fun e w' => e = .returned (.tuple #[.agg #[.int .i64 0, .slice none 0 0], .int .i64 (6)]) ∧ Below w.heap.size w w' := by
  have a0 : Below w.heap.size w ((w.alloc (.cells #[.int .i64 tau, .slice p l.length cap] 24)).alloc (.cells #[.int .i64 0, .slice none 0 0] 24)) := below_alloc (below_alloc (Below.refl _ _) _) _
  have HC := Lib.hid (checkStep_any tau l p cap M _ (hs.below a0))
  have A0 := Lib.hid a0
  have C0 : Hid ((((w.alloc (.cells #[.int .i64 tau, .slice p l.length cap] 24)).alloc (.cells #[.int .i64 0, .slice none 0 0] 24))).cell? ⟨w.heap.size, 0, none⟩ = some (.int .i64 tau)) := Lib.hid (by simp [go_sem])
  have HR0 : Hid ((((w.alloc (.cells #[.int .i64 tau, .slice p l.length cap] 24)).alloc (.cells #[.int .i64 0, .slice none 0 0] 24))).cell? ⟨w.heap.size + 1, 0, none⟩ = some (.int .i64 0)) := Lib.hid (by simp [go_sem])
  have HR1 : Hid ((((w.alloc (.cells #[.int .i64 tau, .slice p l.length cap] 24)).alloc (.cells #[.int .i64 0, .slice none 0 0] 24))).cell? ⟨w.heap.size + 1, 1, none⟩ = some (.slice none 0 0)) := Lib.hid (by simp [go_sem])
  have HQ0 : Hid ((((w.alloc (.cells #[.int .i64 tau, .slice p l.length cap] 24)).alloc (.cells #[.int .i64 0, .slice none 0 0] 24))).frozen? ⟨w.heap.size + 1, 0, none⟩ = false) := Lib.hid (by simp [go_sem])
  have HQ1 : Hid ((((w.alloc (.cells #[.int .i64 tau, .slice p l.length cap] 24)).alloc (.cells #[.int .i64 0, .slice none 0 0] 24))).frozen? ⟨w.heap.size + 1, 1, none⟩ = false) := Lib.hid (by simp [go_sem])
  have wmt : IntKind.i64.wrap ((M : Int) * tau) = M * tau := IntWalk.i64_in _ (by have := mul_bd2 (x := (M : Int)) (y := tau) (a := 32) (b := 1000) (by omega) (by omega); omega)
  have hfar : (1000 : Int) < (M : Int) * tau := hmt
  clear hs a0 hmt hm ht
  go_enter Try.func23, Try.ntmps23
  go_wp2_with fail
  refine HC.out.mono ?_
  rintro e w1 ⟨rfl, hb⟩
  rw [he]
  have d0 := cell_below hb C0.out
  have r0 := cell_below hb HR0.out
  have r1 := cell_below hb HR1.out
  have q0 := (hb.frozen (p := ⟨w.heap.size + 1, 0, none⟩) (cell_lt HR0.out)).trans HQ0.out
  have q1 := (hb.frozen (p := ⟨w.heap.size + 1, 1, none⟩) (cell_lt HR1.out)).trans HQ1.out
  have hz := cell_lt r0
  have hz0 := cell_lt d0
  have HB := Lib.hid (((A0.out.trans (hb.mono A0.out.size)).setCell (p := ⟨w.heap.size + 1, 0, none⟩) (by show w.heap.size ≤ w.heap.size + 1; omega) (.int .i64 0)).setCell (p := ⟨w.heap.size + 1, 1, none⟩) (by show w.heap.size ≤ w.heap.size + 1; omega) (.slice none 0 0))
  have e0 := pair_c0 (.int .i64 0) (.slice none 0 0) r0
  have e1 := two_c1 (.int .i64 0) (.slice none 0 0) r1
  clear hb
  go_wp2
  exact bodyPost_ret (v := .tuple #[.agg #[.int .i64 0, .slice none 0 0], .int .i64 (6)]) (by simp [results, Try.results23, go_sem, e0, e1]) rfl ⟨rfl, HB.out⟩
/-! a series without phases -/
set_option maxRecDepth 100000 in
set_option maxHeartbeats 2000000 in
theorem chunk1_nil (n lp Bs Bn m cap : Nat) (p : Option Addr) (J : List Unit → World → Prop) (P : Prop) (Q : World → Prop) (W : World)
    (h0 : W.cell? ⟨Bs, 0, none⟩ = some (.slice p 0 cap)) (h1 : W.cell? ⟨Bn, 0, none⟩ = some (.int .i64 m)) (hJ0 : J [] W) :
    CallsIn Fence.wide n Try.prog 87 #[.func (.yield lp) #[] #[], .pointer (some ⟨Bs, 0, none⟩), .pointer (some ⟨Bn, 0, none⟩)] W fun e W' => (∃ v, e = .returned v) ∧
      ((∃ ys, ys = ([] : List Unit) ∧ J ys W') ∨ (P ∧ Q W')) := by
  have hro : Fence.wide.round = none := rfl
  refine callsIn_of_wp Try.func87 rfl trivial ?_ hro
  simp only [Try.ntmps87, List.size_toArray, List.length_cons, List.length_nil, Nat.reduceAdd, Nat.reduceSub, Array.replicate_succ, Array.replicate_zero, List.push_toArray, List.append_toArray, List.nil_append, List.cons_append]
  gi_wp2
  gi_loopw [4] (fun i wr => i = .int .i64 0 ∧ wr = W) (fun _ _ => 0)
  case atStart => exact ⟨rfl, rfl⟩
  case round =>
    obtain ⟨rfl, rfl⟩ := hrel
    gi_wp2
    go_end0
    exact ⟨⟨_, rfl⟩, .inl ⟨_, rfl, hJ0⟩⟩
theorem chunk_nil (m cap : Nat) (p : Option Addr) (w : World) (hm : 1 ≤ m ∧ m ≤ 1000) :
    Calls Try.prog 56 #[.slice p 0 cap, .int .i64 m] w fun e w1 => ∃ lb, e = .returned (.func (.func 87) #[] lb) ∧ Below w.heap.size w w1 ∧ w1.heap.size = w.heap.size + 2 ∧
      ∀ n, 1 ≤ n → SeqStopsK Fence.wide n Try.prog 87 lb (fun _ : Unit => #[.slice none 0 0]) (Stay (fun k => w.heap.size ≤ k ∧ k < w.heap.size + 2)) (fun ys => ys = []) (fun pre => pre <+: []) ([] : List Unit).length w1 := by
  have hB0 : Below w.heap.size w ((w.alloc (.cells #[.slice p 0 cap] 22)).alloc (.cells #[.int .i64 m] 3)) := below_alloc (below_alloc (Below.refl _ _) _) _
  have hS0 : ((w.alloc (.cells #[.slice p 0 cap] 22)).alloc (.cells #[.int .i64 m] 3)).cell? ⟨w.heap.size, 0, none⟩ = some (.slice p 0 cap) := by simp [go_sem]
  have hS1 : ((w.alloc (.cells #[.slice p 0 cap] 22)).alloc (.cells #[.int .i64 m] 3)).cell? ⟨w.heap.size + 1, 0, none⟩ = some (.int .i64 m) := by simp [go_sem]
  have HB := Lib.hid hB0
  have HS0 := Lib.hid hS0
  have HS1 := Lib.hid hS1
  have hm1 : ¬ ((m : Int) < 1) := by omega
  clear hB0 hS0 hS1
  go_enter Try.func56, Try.ntmps56
  go_wp2
  go_ret
  refine ⟨_, rfl, HB.out, by simp, ?_⟩
  intro n hn lp J Jx W hW _ _ _ hJ0
  refine (chunk1_nil n lp _ _ m cap p J False (fun _ => False) W (cell_below hW HS0.out) (cell_below hW HS1.out) hJ0).mono ?_
  rintro e W' ⟨h1, h2 | h2⟩
  · exact ⟨h1, .inl h2⟩
  · exact h2.1.elim
set_option maxRecDepth 100000 in
set_option maxHeartbeats 2000000 in
theorem thin_nil (tau : Int) (p : Option Addr) (cap M : Nat) (w : World) (hm : 1 ≤ M ∧ M ≤ 32) (ht : 1 ≤ tau ∧ tau ≤ 1000) (hmt : (M : Int) * tau ≤ 1000) :
    Calls Try.prog 23 #[.agg #[.int .i64 tau, .slice p 0 cap], .int .i64 M] w fun e w' => e = .returned (.tuple #[.agg #[.int .i64 ((M : Int) * tau), .slice none 0 0], .int .i64 0]) ∧ Below w.heap.size w w' := by
  have he : stepErr tau [] M = 0 := by
    have hc : checkSt tau [] = 0 := by
      unfold checkSt
      rw [if_neg (by simp), if_pos ⟨ht, by simp [phasesOk]⟩]
    unfold stepErr
    rw [if_pos hc, if_pos (by omega)]
  refine (callsIn_wide (n := 9)).1 ?_
  have hro : Fence.wide.round = none := rfl
  have a0 : Below w.heap.size w ((w.alloc (.cells #[.int .i64 tau, .slice p 0 cap] 24)).alloc (.cells #[.int .i64 0, .slice none 0 0] 24)) := below_alloc (below_alloc (Below.refl _ _) _) _
  have HC := Lib.hid (show Calls Try.prog 55 #[.agg #[.int .i64 tau, .slice p 0 cap], .int .i64 M] ((w.alloc (.cells #[.int .i64 tau, .slice p 0 cap] 24)).alloc (.cells #[.int .i64 0, .slice none 0 0] 24)) _ from checkStep_any tau [] p cap M _ ⟨by simp [maxLen], .inl rfl⟩)
  have A0 := Lib.hid a0
  have C0 : Hid (SRd ((w.alloc (.cells #[.int .i64 tau, .slice p 0 cap] 24)).alloc (.cells #[.int .i64 0, .slice none 0 0] 24)) w.heap.size tau (.slice p 0 cap)) := Lib.hid ⟨by simp [go_sem], by simp [go_sem]⟩
  have wmt : IntKind.i64.wrap ((M : Int) * tau) = M * tau := IntWalk.i64_in _ (by have := mul_bd2 (x := (M : Int)) (y := tau) (a := 32) (b := 1000) (by omega) (by omega); omega)
  have hmt' : ¬ (1000 < (M : Int) * tau) := by omega
  clear a0
  refine callsIn_of_wp_marks Try.func23 rfl trivial ?_ hro
  simp only [Try.ntmps23, List.size_toArray, List.length_cons, List.length_nil, Nat.reduceAdd, Nat.reduceSub, Array.replicate_succ, Array.replicate_zero, List.push_toArray, List.append_toArray, List.nil_append, List.cons_append]
  gi_wp2
  refine ⟨trivial, (callsIn_wide.2 HC.out).mono ?_⟩
  rintro e w1 ⟨rfl, hb⟩
  rw [he]
  obtain ⟨d0, d1⟩ := C0.out.below hb
  have hz := cell_lt d0
  have A1 := Lib.hid (A0.out.trans (hb.mono A0.out.size))
  have HW0 := Lib.hid (show w.heap.size + 2 ≤ w1.heap.size by have := hb.size; simp at this; omega)
  have HR0 : Hid (w1.cell? ⟨w.heap.size + 1, 0, none⟩ = some (.int .i64 0)) := Lib.hid (cell_below hb (by simp [go_sem]))
  have HR1 : Hid (w1.cell? ⟨w.heap.size + 1, 1, none⟩ = some (.slice none 0 0)) := Lib.hid (cell_below hb (by simp [go_sem]))
  have HQ0 : Hid (w1.frozen? ⟨w.heap.size + 1, 0, none⟩ = false) := Lib.hid ((hb.frozen (p := ⟨w.heap.size + 1, 0, none⟩) (by simp)).trans (by simp [go_sem]))
  have HQ1 : Hid (w1.frozen? ⟨w.heap.size + 1, 1, none⟩ = false) := Lib.hid ((hb.frozen (p := ⟨w.heap.size + 1, 1, none⟩) (by simp)).trans (by simp [go_sem]))
  clear hb
  gi_wp2
  have b2 := below_alloc (Below.refl w1.heap.size w1) (.cells #[.int .i64 ((M : Int) * tau), .slice none 0 0] 24)
  have HG := Lib.hid (fun W => chunk_nil M cap p W (by omega))
  refine ⟨trivial, (callsIn_wide.2 (HG.out (w1.alloc (.cells #[.int .i64 ((M : Int) * tau), .slice none 0 0] 24)))).mono ?_⟩
  rintro e w3 ⟨lb, rfl, hb3, hsz3, hseq⟩
  have hA : Below w.heap.size w w3 := A1.out.trans ((b2.mono A1.out.size).trans (hb3.mono (Nat.le_trans A1.out.size b2.size)))
  have hW1 := HW0.out
  have b23 : Below w1.heap.size w1 w3 := b2.trans (hb3.mono b2.size)
  have hJ0 : ThAt w w3.heap.size w1.heap.size ((M : Int) * tau) [] (.slice none 0 0) w3 :=
    ⟨World.ownsRow_nil _ _ _ _, cell_below hb3 (by simp [go_sem]), cell_below hb3 (by simp [go_sem]), (hb3.frozen (p := ⟨w1.heap.size, 1, none⟩) (by simp)).trans (by simp [go_sem]), ⟨by omega, by rw [hsz3]; simp; omega⟩,
      cell_below b23 HR0.out, cell_below b23 HR1.out, (b23.frozen (p := ⟨w.heap.size + 1, 0, none⟩) (by show w.heap.size + 1 < _; omega)).trans HQ0.out, (b23.frozen (p := ⟨w.heap.size + 1, 1, none⟩) (by show w.heap.size + 1 < _; omega)).trans HQ1.out, hA, Nat.le_refl _⟩
  have hf1 : ∀ k, (w1.alloc (.cells #[.int .i64 ((M : Int) * tau), .slice none 0 0] 24)).heap.size ≤ k ∧ k < (w1.alloc (.cells #[.int .i64 ((M : Int) * tau), .slice none 0 0] 24)).heap.size + 2 → k < w3.heap.size := fun k hk => by rw [hsz3]; exact hk.2
  have HAA := Lib.hid hA
  clear d0 d1 hz HG hb3 b2 b23 A1 HC A0 C0 HR0 HR1 HQ0 HQ1 he
  gi_wp2
  have HOF : OwnFrom w3.heap.size (fun (_ : List Unit) W => ThAt w w3.heap.size w1.heap.size ((M : Int) * tau) [] (.slice none 0 0) W) := by
    rintro s W W' row h hg hr
    exact h.grown hg hr
  refine wpIn_rangeFunc_ownF hro (by decide) (gf := 87) (lb := lb) rfl trivial (enters_of Try.func87 (by kernel_rfl) rfl)
    (hseq 8 (by decide)) (fun h k => h.trans k) (Stay.putObj hf1) (Below.refl _ _) (fun _ => rfl)
    (fun (_ : List Unit) W => ThAt w w3.heap.size w1.heap.size ((M : Int) * tau) [] (.slice none 0 0) W)
    (fun _ _ _ => False)
    HOF
    (fun _ _ _ _ _ hs _ _ => hs)
    hJ0
    (fun _ => { tmps := #[.agg #[.int .i64 tau, .slice p 0 cap], .int .i64 M, .pointer (some ⟨w.heap.size, 0, none⟩), undef, .pointer (some ⟨w.heap.size + 1, 0, none⟩), .int .i64 0, .int .i64 0, .pointer (some ⟨w1.heap.size, 0, none⟩), .slice none 0 0, .agg #[.int .i64 tau, .slice p 0 cap], .int .i64 M, .int .i64 0, .int .i64 0, .bool false, undef, undef, .int .i64 M, .pointer (some ⟨w.heap.size, 0, none⟩), .int .i64 tau, .int .i64 ((M : Int) * tau), .bool (decide (1000 < (M : Int) * tau)), undef, .int .i64 M, .pointer (some ⟨w.heap.size, 0, none⟩), .int .i64 tau, .int .i64 ((M : Int) * tau), .agg #[.int .i64 ((M : Int) * tau), .slice none 0 0], .pointer (some ⟨w.heap.size, 1, none⟩), .slice p 0 cap, .int .i64 M, .func (.func 87) #[] lb, .slice none 0 0, undef, undef, undef, undef, undef, undef, undef, undef, undef], defers := [] }) ?assign ?body ?done ?stop
  case assign =>
    intro l2 x W K hK
    gi_wp2
    exact hK
  case body =>
    rintro l2 pre x W _ hlt
    exact absurd hlt (by simp)
  case done =>
    rintro D ys W hD hys hT hK
    clear hys
    have c0 := hT.c0
    have c1 := hT.c1
    have hz := cell_lt c0
    have r0 := hT.r0
    have r1 := hT.r1
    have q0 := hT.g0
    have q1 := hT.g1
    have hz' := cell_lt r0
    have HT := Lib.hid hT
    have HK := Lib.hid hK
    have HD := Lib.hid hD
    clear hT hK hD
    gi_wp2
    obtain ⟨Y, hY⟩ : ∃ Y, Y = (W.setCell ⟨w.heap.size + 1, 0, none⟩ (.int .i64 ((M : Int) * tau))).setCell ⟨w.heap.size + 1, 1, none⟩ (.slice none 0 0) := ⟨_, rfl⟩
    rw [← hY]
    have hlt := HT.out.lt
    have hDn : D ≠ w.heap.size + 1 := by have := HD.out; omega
    have hKY : Y.heap[D]? = some (.deferred (some [])) := by
      rw [hY, Below.heap_setCell _ _ _ _ (by show D ≠ w.heap.size + 1; exact hDn), Below.heap_setCell _ _ _ _ (by show D ≠ w.heap.size + 1; exact hDn)]
      exact HK.out
    have hBY : Below w.heap.size w Y := by
      rw [hY]
      exact (HT.out.bel.setCell (by show w.heap.size ≤ w.heap.size + 1; omega) _).setCell (by show w.heap.size ≤ w.heap.size + 1; omega) _
    have hBZ := hBY.trans (belowK_b (w := w) (Nat.le_refl _) Y D _ (.deferred none) (by have := HD.out; omega) hKY rfl rfl)
    have y0 : Y.cell? ⟨w.heap.size + 1, 0, none⟩ = some (.int .i64 ((M : Int) * tau)) := by rw [hY]; exact pair_c0 _ _ r0
    have y1 : Y.cell? ⟨w.heap.size + 1, 1, none⟩ = some (.slice none 0 0) := by rw [hY]; exact two_c1 _ _ r1
    have hblk : (Y.putObj D (.deferred none)).heap[w.heap.size + 1]? = Y.heap[w.heap.size + 1]? := World.putObj_heap_other (fun e => hDn e.symm)
    have z0 := (World.cell?_of_block (a := ⟨w.heap.size + 1, 0, none⟩) hblk).trans y0
    have z1 := (World.cell?_of_block (a := ⟨w.heap.size + 1, 1, none⟩) hblk).trans y1
    refine ⟨by simp, .inl ⟨_, _, rfl, run_takeDeferred hKY, ?_⟩⟩
    refine ⟨.tuple #[.agg #[.int .i64 ((M : Int) * tau), .slice none 0 0], .int .i64 0], by simp [results, Try.results23, go_sem, z0, z1], ?_⟩
    exact ⟨rfl, hBZ⟩
  case stop =>
    rintro D c pre W _ _ h _
    exact h.elim
/-! all of it -/
theorem starts_thinned {l : List Int} {M : Nat} (hM : 1 ≤ M) (h0 : 0 < l.length) : Thinned l ((startsL l.length M h0 (cntS l.length 0 M)).map fun d => atL l d.1) M := by
  refine ⟨?_, fun i hi => ?_⟩
  · rw [List.length_map, startsL_len]; simp [cntS]
  · have hc := (cntS_lt (len := l.length) (m := 0) (st := M) (j := i) hM).2 (by omega)
    unfold startsL
    simp only [List.map_map]
    unfold atL
    rw [List.getElem?_map, List.getElem?_range hc]
    simp only [Option.map_some, Function.comp, Option.getD_some]
    rw [startAt_val l.length M h0 i hi]
/-- what Thin hands back of a series and a step that are allowed -/
theorem thin_any (tau : Int) (l : List Int) (p : Option Addr) (cap M : Nat) (w : World) (hs : SerIn w l p) (hcap : l.length ≤ cap) (hm : 1 ≤ M ∧ M ≤ 32) (he : stepErr tau l M = 0) (hmt : (M : Int) * tau ≤ 1000) :
    Calls Try.prog 23 #[.agg #[.int .i64 tau, .slice p l.length cap], .int .i64 M] w fun e w' => ∃ l' q c, e = .returned (.tuple #[.agg #[.int .i64 ((M : Int) * tau), .slice q (List.length l') c], .int .i64 0]) ∧
      Thinned l l' M ∧ SerIn w' l' q ∧ stepErr (M * tau) l' 1 = 0 ∧ Below w.heap.size w w' := by
  obtain ⟨h128, ht, hp, _⟩ := stepErr_zero he
  have hMt : 1 ≤ (M : Int) * tau := by have := Int.mul_pos (show (0 : Int) < M by omega) (show 0 < tau by omega); omega
  have ok : ∀ l' : List Int, l'.length ≤ 128 → phasesOk l' = true → stepErr (M * tau) l' 1 = 0 := fun l' h1 h2 => by
    have hc : checkSt (M * tau) l' = 0 := by
      unfold checkSt
      rw [if_neg (by omega), if_pos ⟨⟨hMt, hmt⟩, h2⟩]
    unfold stepErr
    rw [if_pos hc, if_pos (by omega)]
  by_cases h0 : l = []
  · subst h0
    refine (thin_nil tau p cap M w hm ht hmt).mono ?_
    rintro e w' ⟨rfl, hb⟩
    refine ⟨[], none, 0, rfl, ⟨?_, fun i hi => by simp at hi⟩, ⟨by simp [maxLen], .inl rfl⟩, ok [] (by simp) (by simp [phasesOk]), hb⟩
    show 0 = (0 + M - 1) / M
    rw [Nat.div_eq_of_lt (by omega)]
  · have h0' : 0 < l.length := List.length_pos_iff.2 h0
    obtain ⟨b, o, rfl, hI⟩ := hs.2.resolve_left (by omega)
    refine (thin_ok tau l b o cap M w hs hcap h0' h128 hm ht he hmt).mono ?_
    rintro e w' ⟨q, c, rfl, hs', hb⟩
    have hll : ((startsL l.length M h0' (cntS l.length 0 M)).map fun d : PIx l.length => atL l d.1).length = cntS l.length 0 M := by rw [List.length_map, startsL_len]
    refine ⟨_, q, c, by rw [hll], starts_thinned hm.1 h0', hs', ok _ (by rw [hll]; exact cntS_le128 h128 hm.1) ?_, hb⟩
    refine List.all_eq_true.2 fun x hx => ?_
    obtain ⟨d, _, rfl⟩ := List.mem_map.1 hx
    have := atL_bd hp d.1
    simp only [Bool.and_eq_true, decide_eq_true_eq]
    exact this
end Go.Proofs.Ytpmhphdpomiacaa
