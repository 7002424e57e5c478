/- Stage 6 (steer): plain facts: the safe set is the greatest one; opposite states; escapes. -/
import Derived.Test.YtiapimfmnmegpaaZaw
namespace Go.Proofs.Ytiapimfmnmegpaa.St
open Go Go.RowKit Go.Shelf
theorem bs_ok {l r s z : Int} (h : PlanOk l r s z) {f : Nat → Int} {e q : Int} (hh : hasP l r e q = true) :
    (bsK l r s z f (2 * z + 1).toNat (2 * r + 1).toNat (idxP l r e q).toNat).2.2 = true ↔ ∃ q', allP r s q q' = true ∧ hldP l r z f e q' (2 * z + 1).toNat = true := by
  obtain ⟨e1, e2⟩ := st_of h hh
  unfold bsK
  rw [e1, e2]
  constructor
  · intro hb
    exact ⟨_, bestQ_true hb⟩
  · rintro ⟨q', h1, h2⟩
    cases hb : (bestQ l r s z f e q (2 * z + 1).toNat (2 * r + 1).toNat).2.2
    · rw [bestQ_false h.siz.v hb q' h1] at h2
      cases h2
    · rfl
theorem mea_zero {l r s z e q : Int} : meaP l r (itP l r s z 0) e q = hasP l r e q := by
  cases hh : hasP l r e q
  · unfold meaP; rw [at_not hh]; rfl
  · rw [mea_at hh]; rfl
theorem mea_succ {l r s z : Int} (h : PlanOk l r s z) (n : Nat) {e q : Int} :
    meaP l r (itP l r s z (n + 1)) e q = true ↔ meaP l r (itP l r s z n) e q = true ∧ ∃ q', allP r s q q' = true ∧ hldP l r z (itP l r s z n) e q' (2 * z + 1).toNat = true := by
  cases hh : hasP l r e q
  · have : ∀ f, meaP l r f e q = false := fun f => by unfold meaP; rw [at_not hh]; rfl
    rw [this, this]
    simp
  · rw [mea_at hh, mea_at hh, decide_eq_true_eq, decide_eq_true_eq]
    rw [show itP l r s z (n + 1) = rndF l r s z (itP l r s z n) (2 * z + 1).toNat (2 * r + 1).toNat n from rfl, rnd_lt h, bs_ok h hh]
/-- the greatest set from which each step stays -/
theorem coind {l r s z : Int} (h : PlanOk l r s z) (M : Int → Int → Prop) (hM : ∀ e q, M e q → hasP l r e q = true ∧ ∃ q', allP r s q q' = true ∧ ∀ d, -z ≤ d → d ≤ z → M (e + q' + d) q') : ∀ n e q, M e q → meaP l r (itP l r s z n) e q = true
  | 0, e, q, hm => by rw [mea_zero]; exact (hM e q hm).1
  | n + 1, e, q, hm => by
    obtain ⟨-, q', h1, h2⟩ := hM e q hm
    exact (mea_succ h n).2 ⟨coind h M hM n e q hm, q', h1, (hld_iff h.siz.d).2 fun d h3 h4 => coind h M hM n _ _ (h2 d h3 h4)⟩
theorem mea_chart {l r s z : Int} (h : PlanOk l r s z) (e q : Int) : meaP l r (chartF l r s z) e q = meaP l r (itP l r s z (stopN l r s z)) e q :=
  (mea_same h h.siz.n (chart_same h _) e q).symm
theorem safe_max {l r s z : Int} (h : PlanOk l r s z) (M : Int → Int → Prop) (hM : ∀ e q, M e q → hasP l r e q = true ∧ ∃ q', allP r s q q' = true ∧ ∀ d, -z ≤ d → d ≤ z → M (e + q' + d) q') (e q : Int) (hm : M e q) : meaP l r (chartF l r s z) e q = true := by
  rw [mea_chart h]
  exact coind h M hM _ e q hm
/-- a plan that allows more -/
structure Wider (l r s z l' r' s' z' : Int) : Prop where
  l : l ≤ l'
  r : r ≤ r'
  s : s ≤ s'
  z : z' ≤ z
theorem safe_wider {l r s z l' r' s' z' : Int} (h : PlanOk l r s z) (h' : PlanOk l' r' s' z') (hw : Wider l r s z l' r' s' z') {e q : Int} (hm : meaP l r (chartF l r s z) e q = true) : meaP l' r' (chartF l' r' s' z') e q = true := by
  obtain ⟨w1, w2, w3, w4⟩ := hw
  refine safe_max h' (fun e q => meaP l r (chartF l r s z) e q = true) (fun e q hm => ⟨?_, atP l r (chartF l r s z) e q, ?_, fun d h1 h2 => chart_next h hm ⟨by omega, by omega⟩⟩) e q hm
  · have := has_iff.1 (mea_has hm)
    exact has_iff.2 (by omega)
  · have := (chart_safe h hm).1
    unfold allP at this ⊢
    simp only [Bool.and_eq_true, decide_eq_true_eq] at this ⊢
    omega
theorem has_neg {l r e q : Int} : hasP l r (-e) (-q) = hasP l r e q := by
  rw [Bool.eq_iff_iff, has_iff, has_iff]
  omega
theorem all_neg {r s g q : Int} : allP r s (-g) (-q) = allP r s g q := by
  unfold allP
  rw [Bool.eq_iff_iff]
  simp only [Bool.and_eq_true, decide_eq_true_eq]
  omega
theorem mea_neg {l r s z : Int} (h : PlanOk l r s z) : ∀ n e q, meaP l r (itP l r s z n) e q = true → meaP l r (itP l r s z n) (-e) (-q) = true
  | 0, e, q, hm => by rw [mea_zero] at hm ⊢; rw [has_neg]; exact hm
  | n + 1, e, q, hm => by
    obtain ⟨h1, q', h2, h3⟩ := (mea_succ h n).1 hm
    refine (mea_succ h n).2 ⟨mea_neg h n e q h1, -q', by rw [all_neg]; exact h2, (hld_iff h.siz.d).2 fun d h4 h5 => ?_⟩
    have := mea_neg h n _ _ ((hld_iff h.siz.d).1 h3 (-d) (by omega) (by omega))
    rw [show -e + -q' + d = -(e + q' + -d) by omega]
    exact this
theorem mea_neg_iff {l r s z : Int} (h : PlanOk l r s z) (n : Nat) (e q : Int) : meaP l r (itP l r s z n) (-e) (-q) = meaP l r (itP l r s z n) e q := by
  rw [Bool.eq_iff_iff]
  refine ⟨fun hm => ?_, mea_neg h n e q⟩
  have := mea_neg h n _ _ hm
  rwa [Int.neg_neg, Int.neg_neg] at this
theorem mea_dec {l r s z : Int} (h : PlanOk l r s z) {e q : Int} {m : Nat} : ∀ k, meaP l r (itP l r s z (m + k)) e q = true → meaP l r (itP l r s z m) e q = true
  | 0, hm => hm
  | k + 1, hm => mea_dec h k ((mea_succ h (m + k)).1 hm).1
theorem rnd_keep {l r s z : Int} {f : Nat → Int} {D V n k : Nat} (h : ¬ f k < 1000) : rndF l r s z f D V n k = f k := by
  unfold rndF isLost
  simp only [h, decide_false, Bool.false_and, if_neg (show ¬ (false = true) by decide)]
  exact ren_ge h
theorem it_keep {l r s z : Int} {k m : Nat} (h : ¬ itP l r s z m k < 1000) : ∀ j, itP l r s z (m + j) k = itP l r s z m k
  | 0 => rfl
  | j + 1 => by
    have ih := it_keep h j
    rw [show itP l r s z (m + (j + 1)) = rndF l r s z (itP l r s z (m + j)) (2 * z + 1).toNat (2 * r + 1).toNat (m + j) from rfl, rnd_keep (by rw [ih]; exact h), ih]
/-- the round in which a state is lost -/
theorem it_lost {l r s z : Int} (h : PlanOk l r s z) {k : Nat} : ∀ m, ¬ itP l r s z m k < 1000 → ∃ n, n < m ∧ itP l r s z n k < 1000 ∧ itP l r s z (n + 1) k = 1001 + (n : Int)
  | 0, hm => absurd (show (0 : Int) < 1000 by decide) hm
  | m + 1, hm => by
    by_cases hf : itP l r s z m k < 1000
    · refine ⟨m, Nat.lt_succ_self _, hf, ?_⟩
      have e : itP l r s z (m + 1) k = rndF l r s z (itP l r s z m) (2 * z + 1).toNat (2 * r + 1).toNat m k := rfl
      rw [e] at hm ⊢
      rw [rnd_lt h] at hm
      have hb : (bsK l r s z (itP l r s z m) (2 * z + 1).toNat (2 * r + 1).toNat k).2.2 = false := by
        cases e : (bsK l r s z (itP l r s z m) (2 * z + 1).toNat (2 * r + 1).toNat k).2.2
        · rfl
        · exact absurd ⟨hf, e⟩ hm
      unfold rndF isLost
      simp [hf, hb]
    · obtain ⟨n, h1, h2, h3⟩ := it_lost h m hf
      exact ⟨n, by omega, h2, h3⟩
/-- an escape is the number of the round that loses the state -/
theorem chart_lost {l r s z : Int} (h : PlanOk l r s z) {e q : Int} (hh : hasP l r e q = true) (hc : ¬ chartF l r s z (idxP l r e q).toNat < 1000) :
    ∃ n : Nat, chartF l r s z (idxP l r e q).toNat = 1001 + (n : Int) ∧ meaP l r (itP l r s z n) e q = true ∧ meaP l r (itP l r s z (n + 1)) e q = false := by
  have hb := idx_bd h hh
  have hN := h.siz.n
  have hs := chart_same h (sizP l r).toNat (idxP l r e q).toNat (by omega)
  have hi : ¬ itP l r s z (stopN l r s z) (idxP l r e q).toNat < 1000 := fun hx => hc (hs.1 hx)
  obtain ⟨n, h1, h2, h3⟩ := it_lost h _ hi
  have h4 : itP l r s z (stopN l r s z) (idxP l r e q).toNat = 1001 + (n : Int) := by
    have := it_keep (l := l) (r := r) (s := s) (z := z) (k := (idxP l r e q).toNat) (m := n + 1) (by rw [h3]; omega) (stopN l r s z - (n + 1))
    rw [show n + 1 + (stopN l r s z - (n + 1)) = stopN l r s z by omega, h3] at this
    exact this
  refine ⟨n, ?_, by rw [mea_at hh]; simpa using h2, by rw [mea_at hh, h3]; simp; omega⟩
  rw [chart_eq, ren_ge hi, h4]
/-- the escape of the opposite state -/
theorem chart_neg {l r s z : Int} (h : PlanOk l r s z) {e q : Int} (hh : hasP l r e q = true) :
    (chartF l r s z (idxP l r e q).toNat < 1000 ∧ chartF l r s z (idxP l r (-e) (-q)).toNat < 1000) ∨
    (¬ chartF l r s z (idxP l r e q).toNat < 1000 ∧ chartF l r s z (idxP l r (-e) (-q)).toNat = chartF l r s z (idxP l r e q).toNat) := by
  have hh' : hasP l r (-e) (-q) = true := by rw [has_neg]; exact hh
  have hm : meaP l r (chartF l r s z) (-e) (-q) = meaP l r (chartF l r s z) e q := by rw [mea_chart h, mea_chart h, mea_neg_iff h]
  rw [mea_at hh, mea_at hh'] at hm
  by_cases hc : chartF l r s z (idxP l r e q).toNat < 1000
  · left
    rw [decide_eq_true hc] at hm
    exact ⟨hc, by simpa using hm⟩
  · right
    refine ⟨hc, ?_⟩
    have hc' : ¬ chartF l r s z (idxP l r (-e) (-q)).toNat < 1000 := by
      rw [decide_eq_false hc] at hm
      simpa using hm
    obtain ⟨n, h1, h2, h3⟩ := chart_lost h hh hc
    obtain ⟨m, g1, g2, g3⟩ := chart_lost h hh' hc'
    rw [mea_neg_iff h] at g2 g3
    rw [h1, g1]
    have a1 : ¬ n < m := fun hx => by
      have := mea_dec h (m := n + 1) (e := e) (q := q) (m - (n + 1)) (by rw [show n + 1 + (m - (n + 1)) = m by omega]; exact g2)
      rw [h3] at this; cases this
    have a2 : ¬ m < n := fun hx => by
      have := mea_dec h (m := m + 1) (e := e) (q := q) (n - (m + 1)) (by rw [show m + 1 + (n - (m + 1)) = n by omega]; exact h2)
      rw [g3] at this; cases this
    omega
end Go.Proofs.Ytiapimfmnmegpaa.St
