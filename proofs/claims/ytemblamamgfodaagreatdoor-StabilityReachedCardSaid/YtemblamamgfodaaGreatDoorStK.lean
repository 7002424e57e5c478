/- Contracts of layer 3: the sets of an exchange. -/
import Derived.Test.YtemblamamgfodaaGreatDoorStN
import Derived.Laws.EntriesVeiled
namespace Go.Proofs.YtemblamamgfodaaGreatDoor
open Go Go.RowKit Go.Shelf
def exS (len : Nat) : Nat → Nat → Int
  | 0, _ => 1
  | left + 1, from_ => sumF (fun j => exS len left (from_ + j + 1)) (len - left - from_)
def exG (P : List Int) (least : Int) : Nat → Nat → Int → Int
  | 0, _, total => if least ≤ total then 1 else 0
  | left + 1, from_, total => sumF (fun j => exG P least left (from_ + j + 1) (total + atL P (from_ + j))) (P.length - left - from_)
theorem sumF_nn {f : Nat → Int} (h : ∀ i, 0 ≤ f i) : ∀ k, 0 ≤ sumF f k
  | 0 => by simp [sumF]
  | k + 1 => by have := sumF_nn h k; have := h k; show 0 ≤ sumF f k + f k; omega
theorem sumF_mono {f : Nat → Int} (h : ∀ i, 0 ≤ f i) {j k : Nat} (hjk : j ≤ k) : sumF f j ≤ sumF f k := by
  induction hjk with
  | refl => exact Int.le_refl _
  | step _ ih => rename_i k _; have := h k; show _ ≤ sumF f k + f k; omega
theorem sumF_le {f g : Nat → Int} (h : ∀ i, f i ≤ g i) : ∀ k, sumF f k ≤ sumF g k
  | 0 => by simp [sumF]
  | k + 1 => by have := sumF_le h k; have := h k; show sumF f k + f k ≤ sumF g k + g k; omega
theorem exS_nonneg (len : Nat) : ∀ left from_, 0 ≤ exS len left from_
  | 0, _ => by simp [exS]
  | left + 1, from_ => by unfold exS; exact sumF_nn (fun j => exS_nonneg len left _) _
theorem exG_bd (P : List Int) (least : Int) : ∀ left from_ total, 0 ≤ exG P least left from_ total ∧ exG P least left from_ total ≤ exS P.length left from_
  | 0, _, total => by unfold exG exS; split <;> decide
  | left + 1, from_, total => by
    unfold exG exS
    exact ⟨sumF_nn (fun j => (exG_bd P least left _ _).1) _, sumF_le (fun j => (exG_bd P least left _ _).2) _⟩
/-- the blocks of a search, all told apart -/
structure ExNe (n₀ bS bL bG bP bC : Nat) (p : Option Addr) : Prop where
  nS : n₀ ≤ bS
  nG : n₀ ≤ bG
  sg : bS ≠ bG
  sl : bS ≠ bL
  sp : bS ≠ bP
  sc : bS ≠ bC
  gl : bG ≠ bL
  gp : bG ≠ bP
  gc : bG ≠ bC
  pp : ∀ b o, p = some ⟨b, o, none⟩ → b ≠ bS ∧ b ≠ bG
structure ExAt (W : World) (bS bL bG bP bC : Nat) (P : List Int) (p : Option Addr) (cap : Nat) (least s g : Int) : Prop where
  s0 : W.cell? ⟨bS, 0, none⟩ = some (.int .i64 s)
  s1 : W.frozen? ⟨bS, 0, none⟩ = false
  g0 : W.cell? ⟨bG, 0, none⟩ = some (.int .i64 g)
  g1 : W.frozen? ⟨bG, 0, none⟩ = false
  l0 : W.cell? ⟨bL, 0, none⟩ = some (.int .i64 least)
  p0 : W.cell? ⟨bP, 0, none⟩ = some (.slice p P.length cap)
  c0 : W.cell? ⟨bC, 0, none⟩ = some (.func (.func 135) #[] #[.pointer (some ⟨bS, 0, none⟩), .pointer (some ⟨bL, 0, none⟩), .pointer (some ⟨bG, 0, none⟩), .pointer (some ⟨bP, 0, none⟩), .pointer (some ⟨bC, 0, none⟩)])
  ints : SliceIn p P.length (IntsAt W P)
theorem ExAt.drewN {W : World} {bS bL bG bP bC : Nat} {P : List Int} {p : Option Addr} {cap : Nat} {least s g : Int} (h : ExAt W bS bL bG bP bC P p cap least s g) (n : Nat) : ExAt (W.drewN n) bS bL bG bP bC P p cap least s g :=
  ⟨h.s0, h.s1, h.g0, h.g1, h.l0, h.p0, h.c0, h.ints⟩
theorem ExAt.setS {n₀ : Nat} {W : World} {bS bL bG bP bC : Nat} {P : List Int} {p : Option Addr} {cap : Nat} {least s g : Int} (h : ExAt W bS bL bG bP bC P p cap least s g) (hn : ExNe n₀ bS bL bG bP bC p) (u : Int) : ExAt (W.setCell ⟨bS, 0, none⟩ (.int .i64 u)) bS bL bG bP bC P p cap least u g := by
  refine ⟨World.cell?_setCell_same _ _ _ (u := .int .i64 s) h.s0, by rw [World.frozen?_setCell]; exact h.s1, ?_, by rw [World.frozen?_setCell]; exact h.g1, ?_, ?_, ?_, ?_⟩
  · rw [World.cell?_setCell_far _ _ _ _ (show bS ≠ bG from hn.sg)]; exact h.g0
  · rw [World.cell?_setCell_far _ _ _ _ (show bS ≠ bL from hn.sl)]; exact h.l0
  · rw [World.cell?_setCell_far _ _ _ _ (show bS ≠ bP from hn.sp)]; exact h.p0
  · rw [World.cell?_setCell_far _ _ _ _ (show bS ≠ bC from hn.sc)]; exact h.c0
  · rcases h.ints with h0 | ⟨b, o, hp, hi⟩
    · exact .inl h0
    · exact .inr ⟨b, o, hp, fun i hi' => by rw [World.cell?_setCell_far _ _ _ _ (show bS ≠ b from (hn.pp b o hp).1.symm)]; exact hi i hi'⟩
theorem ExAt.setG {n₀ : Nat} {W : World} {bS bL bG bP bC : Nat} {P : List Int} {p : Option Addr} {cap : Nat} {least s g : Int} (h : ExAt W bS bL bG bP bC P p cap least s g) (hn : ExNe n₀ bS bL bG bP bC p) (u : Int) : ExAt (W.setCell ⟨bG, 0, none⟩ (.int .i64 u)) bS bL bG bP bC P p cap least s u := by
  refine ⟨?_, by rw [World.frozen?_setCell]; exact h.s1, World.cell?_setCell_same _ _ _ (u := .int .i64 g) h.g0, by rw [World.frozen?_setCell]; exact h.g1, ?_, ?_, ?_, ?_⟩
  · rw [World.cell?_setCell_far _ _ _ _ (show bG ≠ bS from hn.sg.symm)]; exact h.s0
  · rw [World.cell?_setCell_far _ _ _ _ (show bG ≠ bL from hn.gl)]; exact h.l0
  · rw [World.cell?_setCell_far _ _ _ _ (show bG ≠ bP from hn.gp)]; exact h.p0
  · rw [World.cell?_setCell_far _ _ _ _ (show bG ≠ bC from hn.gc)]; exact h.c0
  · rcases h.ints with h0 | ⟨b, o, hp, hi⟩
    · exact .inl h0
    · exact .inr ⟨b, o, hp, fun i hi' => by rw [World.cell?_setCell_far _ _ _ _ (show bG ≠ b from (hn.pp b o hp).2.symm)]; exact hi i hi'⟩
set_option maxRecDepth 100000 in
set_option maxHeartbeats 2000000 in
theorem choose_any (n₀ bS bL bG bP bC : Nat) (P : List Int) (p : Option Addr) (cap : Nat) (least : Int) (hn : ExNe n₀ bS bL bG bP bC p) (h16 : P.length ≤ 16) (hP : ∀ i, -1000000000000 ≤ atL P i ∧ atL P i ≤ 1000000000000) :
    ∀ (left from_ : Nat) (total s g : Int) (W : World), left ≤ 16 → from_ ≤ 32 → (-(16 - left) * 1000000000000 ≤ total ∧ total ≤ (16 - left) * 1000000000000) → ExAt W bS bL bG bP bC P p cap least s g →
      0 ≤ s → 0 ≤ g → g ≤ s → s + exS P.length left from_ ≤ 1000000000000 →
      Calls Tryz.prog 135 #[.int .i64 from_, .int .i64 left, .int .i64 total, .pointer (some ⟨bS, 0, none⟩), .pointer (some ⟨bL, 0, none⟩), .pointer (some ⟨bG, 0, none⟩), .pointer (some ⟨bP, 0, none⟩), .pointer (some ⟨bC, 0, none⟩)] W fun e w' =>
        (∃ v, e = .returned v) ∧ ExAt w' bS bL bG bP bC P p cap least (s + exS P.length left from_) (g + exG P least left from_ total) ∧ Below n₀ W w' := by
  intro left
  induction left with
  | zero =>
    intro from_ total s g W _ _ ht hE hs hg hgs hb
    simp only [exS] at hb
    have hE1 := hE.setS hn (s + 1)
    have HB1 := (Below.refl n₀ W).setCell (p := ⟨bS, 0, none⟩) hn.nS (.int .i64 (s + 1))
    obtain ⟨a0, a1, a2, a3, a4, a5, a6, a7⟩ := id hE
    have l1 := hE1.l0
    have g1 := hE1.g0
    have g2 := hE1.g1
    by_cases hle : least ≤ total
    · have HF := Lib.hid (hE1.setG hn (g + 1))
      have HB := Lib.hid (HB1.setCell (p := ⟨bG, 0, none⟩) hn.nG (.int .i64 (g + 1)))
      have HX := Lib.hid (show exG P least 0 from_ total = 1 by simp [exG, hle])
      clear hE hE1 HB1 a7
      go_enter Tryz.func135, Tryz.ntmps135
      go_wp2
      refine bodyPost_ret (results_none rfl _ _ _) rfl ?_
      exact ⟨⟨_, rfl⟩, by rw [HX.out]; exact HF.out, HB.out⟩
    · have HF := Lib.hid hE1
      have HB := Lib.hid HB1
      have HX := Lib.hid (show exG P least 0 from_ total = 0 by simp [exG, hle])
      clear hE hE1 HB1 a7
      go_enter Tryz.func135, Tryz.ntmps135
      go_wp2
      refine bodyPost_ret (results_none rfl _ _ _) rfl ?_
      exact ⟨⟨_, rfl⟩, by rw [HX.out, Int.add_zero]; exact HF.out, HB.out⟩
  | succ left ih =>
    intro from_ total s g W hl hf ht hE hs hg hgs hb
    obtain ⟨Li, hLi⟩ : ∃ Li : Int, Li = ((left + 1 : Nat) : Int) := ⟨_, rfl⟩
    rw [← hLi] at ht ⊢
    have hS : exS P.length (left + 1) from_ = sumF (fun j => exS P.length left (from_ + j + 1)) (P.length - left - from_) := rfl
    have hG : exG P least (left + 1) from_ total = sumF (fun j => exG P least left (from_ + j + 1) (total + atL P (from_ + j))) (P.length - left - from_) := rfl
    rw [hS] at hb ⊢
    rw [hG]
    have hmono := fun {a b : Nat} (h : a ≤ b) => sumF_mono (f := fun j => exS P.length left (from_ + j + 1)) (fun i => exS_nonneg _ _ _) h
    have hnn := sumF_nn (f := fun j => exS P.length left (from_ + j + 1)) (fun i => exS_nonneg _ _ _)
    have hgn := sumF_nn (f := fun j => exG P least left (from_ + j + 1) (total + atL P (from_ + j))) (fun i => (exG_bd P least left _ _).1)
    have hgl := sumF_le (f := fun j => exG P least left (from_ + j + 1) (total + atL P (from_ + j))) (g := fun j => exS P.length left (from_ + j + 1)) (fun i => (exG_bd P least left _ _).2)
    generalize hfS : (fun j => exS P.length left (from_ + j + 1)) = fS at *
    generalize hfG : (fun j => exG P least left (from_ + j + 1) (total + atL P (from_ + j))) = fG at *
    have HfS := Lib.hid hfS
    have HfG := Lib.hid hfG
    have HE0 := Lib.hid hE
    have HIH := Lib.hid ih
    have HM := Lib.hid (show ∀ j, j + 1 ≤ P.length - left - from_ → sumF fS j + fS j ≤ sumF fS (P.length - left - from_) from fun j h => hmono h)
    have HN := Lib.hid (show ∀ j, 0 ≤ sumF fS j ∧ 0 ≤ sumF fG j ∧ sumF fG j ≤ sumF fS j from fun j => ⟨hnn j, hgn j, hgl j⟩)
    have HB0 := Lib.hid hb
    have hLe : (Li == 0) = false := by simp; omega
    have HLI := Lib.hid hLi
    have hLb : 1 ≤ Li ∧ Li ≤ 16 := by omega
    obtain ⟨a0, a1, a2, a3, a4, a5, a6, a7⟩ := id hE
    clear hE ih hS hG hmono hnn hgn hgl hfS hfG hb hLi
    go_enter Tryz.func135, Tryz.ntmps135
    go_wp2
    clear a0 a1 a2 a3 a4 a5 a6 a7
    go_loopw [11] (fun i wr => ∃ j q : Nat, j ≤ P.length - left - from_ ∧ q = from_ + j ∧ i = .int .i64 (q : Int) ∧ Hid (ExAt wr bS bL bG bP bC P p cap least (s + sumF fS j) (g + sumF fG j)) ∧ Hid (Below n₀ W wr)) (fun i _ => (300 - intOf i).toNat)
    case atStart => exact ⟨0, from_, Nat.zero_le _, rfl, rfl, by simpa [sumF] using HE0, Lib.hid (Below.refl _ _)⟩
    case round =>
      obtain ⟨j, q, hj, hq, rfl, HE, HB⟩ := hrel
      obtain ⟨a0, a1, a2, a3, a4, a5, a6, a7⟩ := id HE.out
      have hLi := HLI.out
      have HQ := Lib.hid hq
      have w1 : IntKind.i64.wrap ((q : Int) + Li) = q + Li := IntWalk.i64_in _ (by omega)
      by_cases hlt : j < P.length - left - from_
      · have hql : (q : Int) + Li ≤ P.length := by omega
        obtain ⟨b, o, rfl, hi⟩ := a7.resolve_left (by omega)
        have x0 := hi q (by omega)
        rw [atL_get] at x0
        have hPq := hP q
        have w2 : IntKind.i64.wrap ((q : Int) + 1) = q + 1 := IntWalk.i64_in _ (by omega)
        have w3 : IntKind.i64.wrap (Li - 1) = left := by rw [IntWalk.i64_in _ (by omega)]; omega
        have w4 : IntKind.i64.wrap (total + atL P q) = total + atL P q := IntWalk.i64_in _ (by omega)
        have l0 : (q : Int) < P.length := by omega
        have hfq : fS j = exS P.length left (q + 1) := by rw [← HfS.out, hq]
        have hgq : fG j = exG P least left (q + 1) (total + atL P q) := by rw [← HfG.out, hq]
        have hm := HM.out j (by omega)
        obtain ⟨n1, n2, n3⟩ := HN.out j
        have hbb := HB0.out
        have HC := Lib.hid (fun W' hE' => HIH.out (q + 1) (total + atL P q) (s + sumF fS j) (g + sumF fG j) W' (by omega) (by omega) (by omega) hE' (by omega) (by omega) (by omega) (by rw [← hfq]; omega))
        rw [← hfq, ← hgq, show ((q + 1 : Nat) : Int) = (q : Int) + 1 by omega] at HC
        have hj4 := Lib.hid (show j + 1 ≤ P.length - left - from_ by omega)
        clear hi hm n1 n2 n3 hbb hfq hgq a7 hLi hq hj hlt
        go_wp2
        refine (wpIn_wide (n := 9)).1 ?_
        refine wpIn_region_pre_lit 11 1 rfl (by kernel_rfl) (by kernel_rfl) (by kernel_rfl) (by kernel_rfl) rfl ?_
        simp only [List.take_succ_cons, List.take_zero]
        repeat (refine wpQuietIn_step (by first | exact fun _ _ _ _ => trivial | quiet_asked_in) (fun KQ hKQ => ?_); go_simp; first | (refine hKQ _ ?_; clear hKQ KQ) | (apply Exists.intro; refine ⟨fun _ => ?_, hKQ _ ?_⟩; (fail); clear hKQ KQ))
        refine wpQuietIn_nil ?_
        intro _ hwq1
        obtain ⟨nq, hwq2⟩ := hwq1
        subst hwq2
        simp only [List.replicate_succ, List.replicate_zero, List.cons_append, List.nil_append]
        refine wpAnyIn_ready (rs := [11]) (by kernel_rfl) (by simp) (AllReadyIn.cons rfl (fun K' hKK => ?_) AllReadyIn.nil)
        go_simp
        refine ⟨trivial, (callsIn_wide.2 (HC.out _ (HE.out.drewN nq))).mono ?_⟩
        rintro e w3 ⟨⟨v, rfl⟩, hE3, hb3⟩
        rw [Int.add_assoc, Int.add_assoc] at hE3
        have HE3 := Lib.hid (show ExAt w3 bS bL bG bP bC P _ cap least (s + sumF fS (j + 1)) (g + sumF fG (j + 1)) from hE3)
        have HB3 := Lib.hid ((HB.out.trans (show Below n₀ wr (wr.drewN nq) from ⟨rfl, rfl, rfl, Nat.le_refl _, fun _ _ => rfl⟩)).trans hb3)
        clear hE3 hb3 a0 a1 a2 a3 a4 a5 a6 x0
        go_simp
        refine hKK _ _ ?_
        clear hKK
        refine wpAnyIn_done (by kernel_rfl) ?_ _
        go_wp2
        go_roundw
        case rel => exact ⟨j + 1, q + 1, hj4.out, by have := HQ.out; omega, by simp, HE3, HB3⟩
        case measure => simp [intOf]; omega
      · obtain rfl : j = P.length - left - from_ := by omega
        have hql : ¬ ((q : Int) + Li ≤ P.length) := by omega
        clear hlt hLi hq hj
        go_wp2
        go_end0
        exact ⟨⟨_, rfl⟩, HE.out, HB.out⟩
end Go.Proofs.YtemblamamgfodaaGreatDoor
