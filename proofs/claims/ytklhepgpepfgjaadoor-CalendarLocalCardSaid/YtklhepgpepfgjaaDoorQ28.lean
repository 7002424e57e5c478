/- Layer 9 (calendar): dates give their seconds back; plain. -/
import Derived.Test.YtklhepgpepfgjaaDoorQ19
import Derived.Test.YtklhepgpepfgjaaDoorQ27
namespace Go.Proofs.YtklhepgpepfgjaaDoor.Cal
theorem day_rest {b u : Int} {n : Nat} {f : Nat → Int × Int} (ht : TabOk b u n f) {s D : Int} (h : IsDayOf u n f s D) : 0 ≤ s - beginS f n D ∧ s - beginS f n D ≤ 86399 + stepAt f n D := by
  have h1 := ht.begin_succ D
  have := h.lo; have := h.hi; omega
/-- the date of a second gives the second back -/
theorem back_has {b u : Int} {n : Nat} {f : Nat → Int × Int} (ht : TabOk b u n f) {s D : Int} (h : IsDayOf u n f s D) {y : Int} {k : Nat} {d : Int} (hci : IsCiv D y k d) :
    tB (hrS (s - beginS f n D)) = true ∧ miB (mnS (s - beginS f n D)) = true ∧ sB (scS (s - beginS f n D)) = true ∧ hasB u f n (1440 * dayN y k d + 60 * hrS (s - beginS f n D) + mnS (s - beginS f n D)) (scS (s - beginS f n D)) = true ∧ numS f n (1440 * dayN y k d + 60 * hrS (s - beginS f n D) + mnS (s - beginS f n D)) (scS (s - beginS f n D)) = s := by
  have hr := day_rest ht h
  have hs := stepAt_bd (f := f) D n ht.s
  have hd1 := h.d1; have hd2 := h.d2
  rw [← hci.n_]
  obtain ⟨r, hrr⟩ : ∃ r, s - beginS f n D = r := ⟨_, rfl⟩
  rw [hrr] at hr ⊢
  have hm := minS_bd r hr.1
  have e1 : (1440 * D + 60 * hrS r + mnS r) / 1440 = D := by unfold hrS mnS; omega
  have e2 : (1440 * D + 60 * hrS r + mnS r) % 1440 = minS r := by unfold hrS mnS; omega
  have e3 : (minS r = 1439 ∧ 1439 ≤ r / 60) ∨ (minS r = r / 60 ∧ r / 60 < 1439) := by unfold minS; split <;> omega
  refine ⟨?_, ?_, ?_, ?_, ?_⟩
  · unfold tB hrS; simp only [Bool.and_eq_true, decide_eq_true_eq]; omega
  · unfold miB mnS; simp only [Bool.and_eq_true, decide_eq_true_eq]; omega
  · unfold sB scS; simp only [Bool.and_eq_true, decide_eq_true_eq]; omega
  · unfold hasB lenS dayK
    rw [e1, e2]
    simp only [Bool.and_eq_true, decide_eq_true_eq]
    refine ⟨⟨hd1, hd2⟩, ?_, ?_⟩
    · unfold scS; omega
    · unfold scS
      split <;> omega
  · unfold numS
    rw [e1, e2]
    unfold scS; omega
theorem civ_le {D E y z : Int} {k m : Nat} {d e : Int} (ha : IsCiv D y k d) (hb : IsCiv E z m e) (h : D < E) : y < z ∨ (y = z ∧ ((k : Int) < m ∨ ((k : Int) = m ∧ d < e))) := by
  have a1 := ha.m1; have a2 := ha.m2; have b1 := hb.m1; have b2 := hb.m2
  have hle : 12 * y + k ≤ 12 * z + m := by
    apply Decidable.byContradiction
    intro hn
    have h1 := ha.on ⟨b1, b2⟩ (yy := z) (k := m) (by omega)
    have h2 := hb.off
    omega
  by_cases he : 12 * y + k = 12 * z + m
  · have e1 : y = z := by omega
    have e2 : k = m := by omega
    subst e1 e2
    have := ha.n_; have := hb.n_
    unfold dayN at *
    omega
  · omega
/-- the last second of a table -/
theorem last_min {b u : Int} {n : Nat} {f : Nat → Int × Int} (ht : TabOk b u n f) {D : Int} (h : IsDayOf u n f (beginS f n u - 1) D) : hrS (beginS f n u - 1 - beginS f n D) = 23 ∧ mnS (beginS f n u - 1 - beginS f n D) = 59 := by
  have hr := day_rest ht h
  have hd2 := h.d2
  have hD : D = u - 1 := by
    apply Decidable.byContradiction
    intro hn
    have h1 := ht.begin_mono (show D + 1 ≤ u - 1 by omega)
    have h2 := ht.begin_lt (u - 1) 1
    have h3 := h.hi
    rw [show u - 1 + ((1 : Nat) : Int) = u by omega] at h2
    omega
  have h2 := ht.begin_lt (u - 1) 1
  rw [show u - 1 + ((1 : Nat) : Int) = u by omega, ← hD] at h2
  obtain ⟨r, hrr⟩ : ∃ r, beginS f n u - 1 - beginS f n D = r := ⟨_, rfl⟩
  rw [hrr] at hr ⊢
  have e3 : minS r = 1439 := by unfold minS; split <;> omega
  unfold hrS mnS
  rw [e3]
  decide
theorem known_in {b u : Int} {n : Nat} {f : Nat → Int × Int} (ht : tabE b u n f = 0) {s : Int} (h : 0 ≤ s ∧ s ≤ beginS f n u - 1) : knownE b u n f s = 0 := known_mk ht (by unfold inB; simpa using h)
theorem known_out {b u : Int} {n : Nat} {f : Nat → Int × Int} (ht : tabE b u n f = 0) : knownE b u n f (beginS f n u) = 6 := by
  unfold knownE
  rw [if_pos ht, if_neg]
  unfold inB
  simp only [Bool.and_eq_true, decide_eq_true_eq]
  omega
end Go.Proofs.YtklhepgpepfgjaaDoor.Cal
