/- Stage 6 (steer): plain facts: what the chart says. -/
import Derived.Test.YtiapimfmnmegpaaZex
namespace Go.Proofs.Ytiapimfmnmegpaa.St
open Go Go.RowKit Go.Shelf
theorem mea_nil_ren {l r s z : Int} {f : Nat → Int} {D V N : Nat} (h : meaL f N = []) : renL l r s z f D V N = [] := by unfold renL; rw [h]; rfl
theorem rndN_stops {l r s z : Int} (h : PlanOk l r s z) (D V N : Nat) : ∀ k n, (meaL (itC l r s z D V n) N).length ≤ k → renL l r s z (itC l r s z D V (rndN l r s z D V N k n)) D V N = []
  | 0, n, h0 => mea_nil_ren (by
    show meaL (itC l r s z D V n) N = []
    exact List.eq_nil_of_length_eq_zero (by omega))
  | k + 1, n, h0 => by
    unfold rndN
    by_cases e : renL l r s z (itC l r s z D V n) D V N = []
    · rw [if_pos e]; exact e
    · rw [if_neg e]
      refine rndN_stops h D V N k (n + 1) ?_
      have := rnd_cnt h (f := itC l r s z D V n) (D := D) (V := V) (N := N) n e
      show (meaL (rndF l r s z (itC l r s z D V n) D V n) N).length ≤ k
      omega
/-- how many rounds lose states -/
def stopN (l r s z : Int) : Nat := rndN l r s z (2 * z + 1).toNat (2 * r + 1).toNat (sizP l r).toNat (sizP l r).toNat 0
/-- the numbers of a plan at the beginning of a round -/
def itP (l r s z : Int) (n : Nat) : Nat → Int := itC l r s z (2 * z + 1).toNat (2 * r + 1).toNat n
theorem chart_eq (l r s z : Int) : chartF l r s z = renF l r s z (itP l r s z (stopN l r s z)) (2 * z + 1).toNat (2 * r + 1).toNat := rfl
theorem stop_nil {l r s z : Int} (h : PlanOk l r s z) : renL l r s z (itP l r s z (stopN l r s z)) (2 * z + 1).toNat (2 * r + 1).toNat (sizP l r).toNat = [] :=
  rndN_stops h _ _ _ _ _ (mea_len _ _)
theorem chart_same {l r s z : Int} (h : PlanOk l r s z) (N : Nat) : SameM N (itP l r s z (stopN l r s z)) (chartF l r s z) := by
  rw [chart_eq]
  exact ren_same h _ _ _ N
theorem chart_fix {l r s z : Int} (h : PlanOk l r s z) {k : Nat} (hk : k < (sizP l r).toNat) (hm : chartF l r s z k < 1000) :
    (bsK l r s z (chartF l r s z) (2 * z + 1).toNat (2 * r + 1).toNat k).2.2 = true ∧ chartF l r s z k = (bsK l r s z (chartF l r s z) (2 * z + 1).toNat (2 * r + 1).toNat k).1 := by
  have hs := chart_same h (sizP l r).toNat
  have hb : bsK l r s z (itP l r s z (stopN l r s z)) (2 * z + 1).toNat (2 * r + 1).toNat k = bsK l r s z (chartF l r s z) (2 * z + 1).toNat (2 * r + 1).toNat k := by
    unfold bsK
    exact best_same h h.siz.n hs _ _ _ _
  have hi := (hs k hk).2 hm
  have hl : isLost l r s z (itP l r s z (stopN l r s z)) (2 * z + 1).toNat (2 * r + 1).toNat k = false := by
    cases e : isLost l r s z (itP l r s z (stopN l r s z)) (2 * z + 1).toNat (2 * r + 1).toNat k
    · rfl
    · have := ren_mem.2 ⟨k, rfl, hk, e⟩
      rw [stop_nil h] at this
      cases this
  unfold isLost at hl
  simp only [hi, decide_true, Bool.true_and, Bool.not_eq_false'] at hl
  rw [← hb]
  refine ⟨hl, ?_⟩
  have := ren_ok (l := l) (r := r) (s := s) (z := z) hi hl
  rw [chart_eq]
  exact this
theorem st_of {l r s z : Int} (h : PlanOk l r s z) {e q : Int} (hh : hasP l r e q = true) : stE l r (idxP l r e q).toNat = e ∧ stQ r (idxP l r e q).toNat = q := by
  have hb := idx_bd h hh
  have hN := h.siz.n
  have hk : (idxP l r e q).toNat < (sizP l r).toNat := by omega
  obtain ⟨h1, h2⟩ := st_bd h hN hk
  have h3 := st_idx h (idxP l r e q).toNat
  exact idx_inj h (has_iff.2 ⟨h1, h2⟩) hh (by rw [h3]; omega)
theorem mea_has {l r : Int} {f : Nat → Int} {e q : Int} (h : meaP l r f e q = true) : hasP l r e q = true := by
  cases hh : hasP l r e q
  · unfold meaP at h
    rw [at_not hh] at h
    cases h
  · rfl
theorem mea_at {l r : Int} {f : Nat → Int} {e q : Int} (hh : hasP l r e q = true) : meaP l r f e q = decide (f (idxP l r e q).toNat < 1000) := by
  unfold meaP
  rw [at_has hh]
/-- a state of the safe set: its new rate can be taken, and holds -/
theorem chart_safe {l r s z : Int} (h : PlanOk l r s z) {e q : Int} (hm : meaP l r (chartF l r s z) e q = true) :
    allP r s q (atP l r (chartF l r s z) e q) = true ∧ hldP l r z (chartF l r s z) e (atP l r (chartF l r s z) e q) (2 * z + 1).toNat = true := by
  have hh := mea_has hm
  have hb := idx_bd h hh
  have hN := h.siz.n
  obtain ⟨e1, e2⟩ := st_of h hh
  rw [mea_at hh] at hm
  simp only [decide_eq_true_eq] at hm
  obtain ⟨h1, h2⟩ := chart_fix h (k := (idxP l r e q).toNat) (by omega) hm
  rw [at_has hh, h2]
  unfold bsK at h1 ⊢
  rw [e1, e2] at h1 ⊢
  exact bestQ_true h1
theorem chart_next {l r s z : Int} (h : PlanOk l r s z) {e q d : Int} (hm : meaP l r (chartF l r s z) e q = true) (hd : -z ≤ d ∧ d ≤ z) :
    meaP l r (chartF l r s z) (e + atP l r (chartF l r s z) e q + d) (atP l r (chartF l r s z) e q) = true :=
  (hld_iff h.siz.d).1 (chart_safe h hm).2 d hd.1 hd.2
/-- where the chart leads -/
def hst (l r : Int) (f : Nat → Int) (e q : Int) (d : Nat → Int) : Nat → Int × Int
  | 0 => (e, q)
  | n + 1 => ((hst l r f e q d n).1 + atP l r f (hst l r f e q d n).1 (hst l r f e q d n).2 + d n, atP l r f (hst l r f e q d n).1 (hst l r f e q d n).2)
theorem hst_mea {l r s z : Int} (h : PlanOk l r s z) {e q : Int} {d : Nat → Int} (hm : meaP l r (chartF l r s z) e q = true) : ∀ n, (∀ i, i < n → -z ≤ d i ∧ d i ≤ z) → meaP l r (chartF l r s z) (hst l r (chartF l r s z) e q d n).1 (hst l r (chartF l r s z) e q d n).2 = true
  | 0, _ => hm
  | n + 1, hd => chart_next h (hst_mea h hm n (fun i hi => hd i (by omega))) (hd n (by omega))
/-- how far all states with the rate 0 are safe -/
def widB (l r : Int) (f : Nat → Int) (k : Nat) : Bool := meaP l r f (k : Int) 0 && meaP l r f (-(k : Int)) 0
def widN (l r : Int) (f : Nat → Int) : Nat → Nat → Nat
  | 0, k => k
  | m + 1, k => if widB l r f k = true then widN l r f m (k + 1) else k
theorem widB_far {l r : Int} {f : Nat → Int} {k : Nat} (h : widB l r f k = true) : (k : Int) ≤ l := by
  unfold widB at h
  simp only [Bool.and_eq_true] at h
  exact (has_iff.1 (mea_has h.1)).1.2
theorem widN_eq {l r : Int} {f : Nat → Int} {m : Nat} (hs : widB l r f m = false) : ∀ j k, k ≤ m → m ≤ k + j → (∀ i, k ≤ i → i < m → widB l r f i = true) → widN l r f j k = m
  | 0, k, h1, h2, _ => by show k = m; omega
  | j + 1, k, h1, h2, h3 => by
    unfold widN
    by_cases e : k = m
    · subst e; rw [if_neg (by rw [hs]; decide)]
    · rw [if_pos (h3 k (Nat.le_refl _) (by omega))]
      exact widN_eq hs j (k + 1) (by omega) (by omega) (fun i h4 h5 => h3 i (by omega) h5)
/-- what Widest counts to -/
def widW (l r s z : Int) : Nat := widN l r (chartF l r s z) 50 0
end Go.Proofs.Ytiapimfmnmegpaa.St
