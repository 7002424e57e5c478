/- Layer 9 (calendar): zones (plain): the offset of a second; the seconds with a local date. -/
import Derived.Test.YtklhepgpepfgjaaDoorQ26
import Derived.Test.YtklhepgpepfgjaaDoorQ08
import Derived.Test.YtklhepgpepfgjaaDoorQ17
import Derived.Test.YtklhepgpepfgjaaDoorQ10
namespace Go.Proofs.YtklhepgpepfgjaaDoor.Cal
open Go Go.RowKit
def offK (o : Int) (g : Nat → Int × Int) (k : Nat) : Int := if k = 0 then o else (g (k - 1)).2
def fromK (g : Nat → Int × Int) (k : Nat) : Int := if k = 0 then 0 else (g (k - 1)).1
def hiK (q : Nat) (g : Nat → Int × Int) (k : Nat) : Int := if k < q then (g k).1 - 1 else 9223372036854775807
/-- the offset in a second, after the first so many intervals -/
def offAt (o : Int) (g : Nat → Int × Int) (s : Int) : Nat → Int
  | 0 => o
  | k + 1 => if fromK g k ≤ s then offK o g k else offAt o g s k
structure ZoneOk (o : Int) (q : Nat) (g : Nat → Int × Int) : Prop where
  q1 : q ≤ 200
  o1 : -1440 ≤ o ∧ o ≤ 1440
  g1 : ∀ i, i < q → (-1440 ≤ (g i).2 ∧ (g i).2 ≤ 1440) ∧ 0 ≤ (g i).1
  lt : ∀ i, i + 1 < q → (g i).1 < (g (i + 1)).1
theorem firstE_back {h : Nat → Int} : ∀ n, firstE h n = 0 → ∀ k, k < n → h k = 0
  | 0, _, k, hk => absurd hk (Nat.not_lt_zero k)
  | n + 1, e, k, hk => by
    have e0 : firstE h n = 0 := by
      by_cases z : firstE h n = 0
      · exact z
      · rw [firstE, if_neg z] at e; exact e
    by_cases z : k = n
    · subst z; rw [firstE, if_pos e0] at e; exact e
    · exact firstE_back n e0 k (by omega)
theorem zone_ok {o : Int} {q : Nat} {g : Nat → Int × Int} (h : zoneE o q g = 0) : ZoneOk o q g := by
  unfold zoneE at h
  split at h
  · rename_i h1
    split at h
    · rename_i h2
      have hb : ∀ k, k < q → (-1440 ≤ (g k).2 ∧ (g k).2 ≤ 1440) ∧ 0 ≤ (g k).1 ∧ prevZ g k < (g k).1 := fun k hk => by
        have e := firstE_back q h k hk
        unfold chE at e
        split at e
        · rename_i a
          split at e
          · rename_i b
            split at e
            · rename_i c
              unfold offB at a
              simp only [Bool.and_eq_true, decide_eq_true_eq] at a
              exact ⟨a, b, c⟩
            · omega
          · omega
        · omega
      unfold offB at h2
      simp only [Bool.and_eq_true, decide_eq_true_eq] at h2
      exact ⟨h1, h2, fun i hi => ⟨(hb i hi).1, (hb i hi).2.1⟩, fun i hi => by
        have := (hb (i + 1) hi).2.2
        unfold prevZ at this
        rw [if_neg (by omega), Nat.add_sub_cancel] at this
        exact this⟩
    · omega
  · omega
theorem firstE_none {h : Nat → Int} : ∀ n, (∀ k, k < n → h k = 0) → firstE h n = 0
  | 0, _ => rfl
  | n + 1, e => by rw [firstE, if_pos (firstE_none n (fun k hk => e k (by omega)))]; exact e n (by omega)
theorem ZoneOk.zoneE {o : Int} {q : Nat} {g : Nat → Int × Int} (h : ZoneOk o q g) : zoneE o q g = 0 := by
  unfold Cal.zoneE
  rw [if_pos h.q1, if_pos (by unfold offB; simp only [Bool.and_eq_true, decide_eq_true_eq]; exact h.o1)]
  refine firstE_none q (fun k hk => ?_)
  unfold chE
  have h1 := h.g1 k hk
  rw [if_pos (by unfold offB; simp only [Bool.and_eq_true, decide_eq_true_eq]; exact h1.1), if_pos h1.2, if_pos]
  unfold prevZ
  split
  · omega
  · have := h.lt (k - 1) (by omega)
    rw [show k - 1 + 1 = k by omega] at this
    exact this
theorem ZoneOk.off {o : Int} {q : Nat} {g : Nat → Int × Int} (h : ZoneOk o q g) (k : Nat) (hk : k ≤ q) : -1440 ≤ offK o g k ∧ offK o g k ≤ 1440 := by
  unfold offK
  split
  · exact h.o1
  · exact (h.g1 (k - 1) (by omega)).1
theorem ZoneOk.step {o : Int} {q : Nat} {g : Nat → Int × Int} (_h : ZoneOk o q g) {k : Nat} (hk : k < q) : fromK g (k + 1) = hiK q g k + 1 := by
  unfold fromK hiK
  rw [if_neg (by omega), if_pos hk, Nat.add_sub_cancel]; omega
theorem ZoneOk.mono {o : Int} {q : Nat} {g : Nat → Int × Int} (h : ZoneOk o q g) {j : Nat} : ∀ k, j ≤ k → k ≤ q → fromK g j ≤ fromK g k
  | 0, hj, _ => by obtain rfl : j = 0 := by omega
                   exact Int.le_refl _
  | k + 1, hj, hk => by
    by_cases e : j = k + 1
    · rw [e]; exact Int.le_refl _
    · refine Int.le_trans (h.mono k (by omega) (by omega)) ?_
      unfold fromK
      rw [if_neg (show ¬ k + 1 = 0 by omega), Nat.add_sub_cancel]
      split
      · exact (h.g1 k (by omega)).2
      · have := h.lt (k - 1) (by omega)
        rw [show k - 1 + 1 = k by omega] at this
        omega
theorem ZoneOk.sep {o : Int} {q : Nat} {g : Nat → Int × Int} (h : ZoneOk o q g) {j k : Nat} (hj : j < k) (hk : k ≤ q) : hiK q g j < fromK g k := by
  have h1 := h.mono (j := j + 1) k hj hk
  have h2 := h.step (k := j) (by omega)
  omega
theorem ZoneOk.from0 {o : Int} {q : Nat} {g : Nat → Int × Int} (h : ZoneOk o q g) (k : Nat) (hk : k ≤ q) : 0 ≤ fromK g k := by
  have h1 := h.mono (j := 0) k (by omega) hk
  have h0 : fromK g 0 = 0 := rfl
  omega
/-- a second is in an interval -/
structure InK (q : Nat) (g : Nat → Int × Int) (k : Nat) (x : Int) : Prop where
  le : k ≤ q
  lo : fromK g k ≤ x
  hi : x ≤ hiK q g k
theorem ZoneOk.inK {o : Int} {q : Nat} {g : Nat → Int × Int} (h : ZoneOk o q g) {x : Int} (h0 : 0 ≤ x) (h1 : x ≤ 9223372036854775807) : ∃ k, InK q g k x := by
  have key : ∀ j, j ≤ q → x < fromK g j → ∃ k, InK q g k x := by
    intro j
    induction j with
    | zero => intro _ hx; have : fromK g 0 = 0 := rfl; omega
    | succ j ih =>
      intro hj hx
      by_cases e : fromK g j ≤ x
      · have := h.step (k := j) (by omega)
        exact ⟨j, by omega, e, by omega⟩
      · exact ih (by omega) (by omega)
  by_cases e : fromK g q ≤ x
  · exact ⟨q, Nat.le_refl _, e, by unfold hiK; rw [if_neg (Nat.lt_irrefl q)]; exact h1⟩
  · exact key q (Nat.le_refl _) (by omega)
theorem InK.off {o : Int} {q : Nat} {g : Nat → Int × Int} (h : ZoneOk o q g) {k : Nat} {x : Int} (hk : InK q g k x) : offAt o g x (q + 1) = offK o g k := by
  have key : ∀ m, k < m → m ≤ q + 1 → offAt o g x m = offK o g k := by
    intro m
    induction m with
    | zero => intro h1; omega
    | succ m ih =>
      intro h1 h2
      by_cases e : k = m
      · subst e; rw [offAt, if_pos hk.lo]
      · have := h.sep (j := k) (k := m) (by omega) (by omega)
        have := hk.hi
        rw [offAt, if_neg (by omega)]
        exact ih (by omega) (by omega)
  exact key (q + 1) (by have := hk.le; omega) (Nat.le_refl _)
theorem ZoneOk.offAt_bd {o : Int} {q : Nat} {g : Nat → Int × Int} (h : ZoneOk o q g) (x : Int) : ∀ m, m ≤ q + 1 → -1440 ≤ offAt o g x m ∧ offAt o g x m ≤ 1440
  | 0, _ => h.o1
  | m + 1, hm => by
    rw [offAt]
    split
    · exact h.off m (by omega)
    · exact h.offAt_bd x m (by omega)
theorem InK.uniq {o : Int} {q : Nat} {g : Nat → Int × Int} (h : ZoneOk o q g) {j k : Nat} {x : Int} (hj : InK q g j x) (hk : InK q g k x) : j = k := by
  rcases Nat.lt_trichotomy j k with e | e | e
  · have := h.sep e hk.le; have := hj.hi; have := hk.lo; omega
  · exact e
  · have := h.sep e hj.le; have := hk.hi; have := hj.lo; omega
/-- the moment of a second -/
def momM (f : Nat → Int × Int) (n : Nat) (D x : Int) : Int := 1440 * D + minS (x - beginS f n D)
def momS (f : Nat → Int × Int) (n : Nat) (D x : Int) : Int := x - beginS f n D - 60 * minS (x - beginS f n D)
structure MomOf (u : Int) (n : Nat) (f : Nat → Int × Int) (D x : Int) : Prop where
  has : hasB u f n (momM f n D x) (momS f n D x) = true
  num : numS f n (momM f n D x) (momS f n D x) = x
  day : momM f n D x / 1440 = D
  ofd : momM f n D x % 1440 = minS (x - beginS f n D)
  m0 : 0 ≤ minS (x - beginS f n D) ∧ minS (x - beginS f n D) ≤ 1439
  s0 : 0 ≤ momS f n D x ∧ momS f n D x ≤ 60
theorem mom_of {b u : Int} {n : Nat} {f : Nat → Int × Int} (ht : TabOk b u n f) {x D : Int} (h : IsDayOf u n f x D) : MomOf u n f D x := by
  have hb := ht.begin_succ D
  have hs := stepAt_bd (f := f) D n ht.s
  have hd1 := h.d1; have hd2 := h.d2
  have hlo := h.lo; have hhi := h.hi
  obtain ⟨r, hrr⟩ : ∃ r, x - beginS f n D = r := ⟨_, rfl⟩
  have hm := minS_bd r (by omega)
  have e1 : (1440 * D + minS r) / 1440 = D := by omega
  have e2 : (1440 * D + minS r) % 1440 = minS r := by omega
  have e3 : (minS r = 1439 ∧ 1439 ≤ r / 60) ∨ (minS r = r / 60 ∧ r / 60 < 1439) := by unfold minS; split <;> omega
  constructor <;> (try unfold momM) <;> (try unfold momS) <;> rw [hrr]
  · unfold hasB lenS dayK
    rw [e1, e2]
    simp only [Bool.and_eq_true, decide_eq_true_eq]
    refine ⟨⟨hd1, hd2⟩, by omega, ?_⟩
    split <;> omega
  · unfold numS; rw [e1, e2]; omega
  · exact e1
  · exact e2
  · exact hm
  · omega
theorem has_mom {b u : Int} {n : Nat} {f : Nat → Int × Int} (ht : TabOk b u n f) {m s : Int} (h : hasB u f n m s = true) : IsDayOf u n f (numS f n m s) (m / 1440) ∧ momM f n (m / 1440) (numS f n m s) = m ∧ momS f n (m / 1440) (numS f n m s) = s := by
  unfold hasB dayK at h
  simp only [Bool.and_eq_true, decide_eq_true_eq] at h
  obtain ⟨⟨h1, h2⟩, h3, h4⟩ := h
  have hb := ht.begin_succ (m / 1440)
  have hs := stepAt_bd (f := f) (m / 1440) n ht.s
  unfold lenS at h4
  have er : numS f n m s - beginS f n (m / 1440) = 60 * (m % 1440) + s := by unfold numS; omega
  have em : minS (60 * (m % 1440) + s) = m % 1440 := by unfold minS; split at h4 <;> split <;> omega
  refine ⟨⟨h1, h2, ?_, ?_⟩, ?_, ?_⟩
  · unfold numS; omega
  · unfold numS; rw [hb]; split at h4 <;> omega
  · unfold momM; rw [er, em]; omega
  · unfold momS; rw [er, em]; omega
theorem day_uniq {b u : Int} {n : Nat} {f : Nat → Int × Int} (ht : TabOk b u n f) {s D E : Int} (h : IsDayOf u n f s D) (k : IsDayOf u n f s E) : D = E := by
  rcases Int.lt_trichotomy D E with g | g | g
  · have := h.after ht g; have := k.lo; omega
  · exact g
  · have := k.after ht g; have := h.lo; omega
/-- the seconds with a local date: one for each interval, if it is in it -/
def candX (f : Nat → Int × Int) (n : Nat) (lm ls o : Int) (g : Nat → Int × Int) (k : Nat) : Int := numS f n (lm - offK o g k) ls
def candB (u : Int) (f : Nat → Int × Int) (n : Nat) (lm ls o : Int) (g : Nat → Int × Int) (k : Nat) : Bool := hasB u f n (lm - offK o g k) ls
def inB2 (q : Nat) (g : Nat → Int × Int) (k : Nat) (x : Int) : Bool := decide (fromK g k ≤ x) && decide (x ≤ hiK q g k)
def zfound (u : Int) (f : Nat → Int × Int) (n : Nat) (lm ls o : Int) (q : Nat) (g : Nat → Int × Int) : Nat → List Int
  | 0 => []
  | k + 1 => zfound u f n lm ls o q g k ++ (if candB u f n lm ls o g k = true then if inB2 q g k (candX f n lm ls o g k) = true then [candX f n lm ls o g k] else [] else [])
theorem zfound_len (u : Int) (f : Nat → Int × Int) (n : Nat) (lm ls o : Int) (q : Nat) (g : Nat → Int × Int) : ∀ k, (zfound u f n lm ls o q g k).length ≤ k
  | 0 => Nat.le_refl _
  | k + 1 => by
    have := zfound_len u f n lm ls o q g k
    rw [zfound, List.length_append]
    split
    · split <;> simp <;> omega
    · simp; omega
theorem mem_zfound (u : Int) (f : Nat → Int × Int) (n : Nat) (lm ls o : Int) (q : Nat) (g : Nat → Int × Int) (x : Int) : ∀ k, x ∈ zfound u f n lm ls o q g k ↔ ∃ j, j < k ∧ candB u f n lm ls o g j = true ∧ inB2 q g j (candX f n lm ls o g j) = true ∧ candX f n lm ls o g j = x
  | 0 => by simp [zfound]
  | k + 1 => by
    have ih := mem_zfound u f n lm ls o q g x k
    rw [zfound, List.mem_append, ih]
    constructor
    · rintro (⟨j, h1, h2⟩ | h)
      · exact ⟨j, by omega, h2⟩
      · split at h
        · rename_i c1
          split at h
          · rename_i c2
            simp at h
            exact ⟨k, by omega, c1, c2, h.symm⟩
          · simp at h
        · simp at h
    · rintro ⟨j, h1, h2, h3, h4⟩
      by_cases e : j = k
      · subst e; right; rw [if_pos h2, if_pos h3]; simp [h4]
      · exact .inl ⟨j, by omega, h2, h3, h4⟩
theorem zfound_iff {b u : Int} {n : Nat} {f : Nat → Int × Int} (ht : TabOk b u n f) {o : Int} {q : Nat} {g : Nat → Int × Int} (hz : ZoneOk o q g) (lm ls : Int) {x D : Int} (hD : IsDayOf u n f x D) :
    x ∈ zfound u f n lm ls o q g (q + 1) ↔ momM f n D x + offAt o g x (q + 1) = lm ∧ momS f n D x = ls := by
  rw [mem_zfound]
  constructor
  · rintro ⟨j, hj, hb, hi, rfl⟩
    unfold inB2 at hi
    simp only [Bool.and_eq_true, decide_eq_true_eq] at hi
    have hin : InK q g j (candX f n lm ls o g j) := ⟨by omega, hi.1, hi.2⟩
    rw [hin.off hz]
    obtain ⟨h1, h2, h3⟩ := has_mom ht hb
    unfold candX at hD ⊢
    obtain rfl := day_uniq ht hD h1
    rw [h2, h3]
    exact ⟨by omega, rfl⟩
  · rintro ⟨rfl, rfl⟩
    have hm := mom_of ht hD
    have htb := ht.total_bd
    have h1 := ht.begin_mono (show D + 1 ≤ u by have := hD.d2; omega)
    have h2 := ht.begin_mono hD.d1
    rw [ht.begin_first] at h2
    have hlo := hD.lo; have hhi := hD.hi
    obtain ⟨k, hk⟩ := hz.inK (x := x) (by omega) (by omega)
    have he := hk.off hz
    have e : momM f n D x + offAt o g x (q + 1) - offK o g k = momM f n D x := by omega
    refine ⟨k, by have := hk.le; omega, ?_, ?_, ?_⟩
    · unfold candB; rw [e]; exact hm.has
    · unfold candX inB2; rw [e, hm.num]; simp only [Bool.and_eq_true, decide_eq_true_eq]; exact ⟨hk.lo, hk.hi⟩
    · unfold candX; rw [e]; exact hm.num
theorem zfound_day {b u : Int} {n : Nat} {f : Nat → Int × Int} (ht : TabOk b u n f) {o : Int} {q : Nat} {g : Nat → Int × Int} (lm ls : Int) {x : Int} (h : x ∈ zfound u f n lm ls o q g (q + 1)) : ∃ D, IsDayOf u n f x D := by
  rw [mem_zfound] at h
  obtain ⟨j, hj, hb, hi, rfl⟩ := h
  exact ⟨_, (has_mom ht hb).1⟩
theorem zfound_lt {o : Int} {q : Nat} {g : Nat → Int × Int} (hz : ZoneOk o q g) (u : Int) (f : Nat → Int × Int) (n : Nat) (lm ls : Int) : ∀ k, k ≤ q + 1 → (zfound u f n lm ls o q g k).Pairwise (· < ·)
  | 0, _ => List.Pairwise.nil
  | k + 1, hk => by
    rw [zfound, List.pairwise_append]
    refine ⟨zfound_lt hz u f n lm ls k (by omega), ?_, ?_⟩
    · split
      · split
        · exact List.pairwise_singleton _ _
        · exact List.Pairwise.nil
      · exact List.Pairwise.nil
    · intro a ha c hc
      split at hc
      · split at hc
        · rename_i c2
          simp at hc
          subst hc
          rw [mem_zfound] at ha
          obtain ⟨j, hj, hb, hi, rfl⟩ := ha
          unfold inB2 at hi c2
          simp only [Bool.and_eq_true, decide_eq_true_eq] at hi c2
          have := hz.sep hj (by omega)
          omega
        · simp at hc
      · simp at hc
theorem atL_sorted {l : List Int} (h : l.Pairwise (· < ·)) : ∀ i, i + 1 < l.length → atL l i ≤ atL l (i + 1) := fun i hi => by
  have := List.pairwise_iff_getElem.1 h i (i + 1) (by omega) hi (by omega)
  unfold atL
  rw [List.getElem?_eq_getElem (by omega), List.getElem?_eq_getElem hi]
  exact Int.le_of_lt this
end Go.Proofs.YtklhepgpepfgjaaDoor.Cal
