/- Layer 9 (calendar): the seconds with the same Unix seconds (plain). -/
import Derived.Test.YtjdpdabafbbfaaaDoorGg
import Derived.Test.YtjdpdabafbbfaaaDoorFha
import Derived.Test.YtjdpdabafbbfaaaDoorEfa
namespace Go.Proofs.YtjdpdabafbbfaaaDoor.Cal
open Go Go.RowKit
theorem IsDayOf.uniq {b u : Int} {n : Nat} {f : Nat → Int × Int} (ht : TabOk b u n f) {s D E : Int} (h : IsDayOf u n f s D) (k : IsDayOf u n f s E) : D = E := by
  rcases Int.lt_trichotomy D E with g | g | g
  · have := h.after ht g; have := k.lo; omega
  · exact g
  · have := k.after ht g; have := h.lo; omega
theorem IsDayOf.known {b u : Int} {n : Nat} {f : Nat → Int × Int} (ht : TabOk b u n f) {s D : Int} (h : IsDayOf u n f s D) : knownE b u n f s = 0 := by
  have h0 := ht.begin_mono h.d1
  rw [ht.begin_first] at h0
  have h1 := ht.begin_mono (show D + 1 ≤ u by have := h.d2; omega)
  exact known_in ht.tabE ⟨by have := h.lo; omega, by have := h.hi; omega⟩
theorem has_day {b u : Int} {n : Nat} {f : Nat → Int × Int} (ht : TabOk b u n f) {m s : Int} (h : hasB u f n m s = true) : IsDayOf u n f (numS f n m s) (m / 1440) ∧ unixS f n (m / 1440) (numS f n m s) = 60 * (m - 58445280) + s := by
  unfold hasB dayK at h
  simp only [Bool.and_eq_true, decide_eq_true_eq] at h
  obtain ⟨⟨h1, h2⟩, h3, h4⟩ := h
  have hb := ht.begin_succ (m / 1440)
  have hs := stepAt_bd (f := f) (m / 1440) n ht.s
  unfold lenS at h4
  refine ⟨⟨h1, h2, ?_, ?_⟩, ?_⟩
  · unfold numS; omega
  · unfold numS; rw [hb]; split at h4 <;> omega
  · unfold unixS numS; omega
theorem day_has {b u : Int} {n : Nat} {f : Nat → Int × Int} (ht : TabOk b u n f) {x D : Int} (h : IsDayOf u n f x D) : ∃ m s, hasB u f n m s = true ∧ numS f n m s = x ∧ unixS f n D x = 60 * (m - 58445280) + s ∧ 0 ≤ s ∧ s ≤ 60 := by
  have hr := day_rest ht h
  have hs := stepAt_bd (f := f) D n ht.s
  have hd1 := h.d1; have hd2 := h.d2
  obtain ⟨r, hrr⟩ : ∃ r, x - beginS f n D = r := ⟨_, rfl⟩
  rw [hrr] at hr
  have hm := minS_bd r hr.1
  have e1 : (1440 * D + minS r) / 1440 = D := by omega
  have e2 : (1440 * D + minS r) % 1440 = minS r := by omega
  have e3 : (minS r = 1439 ∧ 1439 ≤ r / 60) ∨ (minS r = r / 60 ∧ r / 60 < 1439) := by unfold minS; split <;> omega
  refine ⟨1440 * D + minS r, r - 60 * minS r, ?_, ?_, ?_, ?_, ?_⟩
  · unfold hasB lenS dayK
    rw [e1, e2]
    simp only [Bool.and_eq_true, decide_eq_true_eq]
    refine ⟨⟨hd1, hd2⟩, by omega, ?_⟩
    split <;> omega
  · unfold numS; rw [e1, e2]; omega
  · unfold unixS; rw [hrr]; omega
  · omega
  · omega
theorem has_at (l : List Int) (x : Int) : hasF (atL l) l.length x ↔ x ∈ l := by
  constructor
  · rintro ⟨i, hi, rfl⟩
    unfold atL
    rw [List.getElem?_eq_getElem hi]
    exact List.getElem_mem hi
  · intro h
    obtain ⟨i, hi, e⟩ := List.mem_iff_getElem.1 h
    exact ⟨i, hi, by unfold atL; rw [List.getElem?_eq_getElem hi]; exact e⟩
theorem mem_found (u : Int) (f : Nat → Int × Int) (n : Nat) (m s x : Int) : x ∈ foundL u f n m s 2 ↔ (hasB u f n (m - 1) (s + 60) = true ∧ x = numS f n (m - 1) (s + 60)) ∨ (hasB u f n m s = true ∧ x = numS f n m s) := by
  have c0 : candM m 0 = m - 1 := rfl
  have c1 : candS s 0 = s + 60 := rfl
  have c2 : candM m 1 = m := rfl
  have c3 : candS s 1 = s := rfl
  simp only [foundL, c0, c1, c2, c3]
  cases h1 : hasB u f n (m - 1) (s + 60) <;> cases h2 : hasB u f n m s <;> simp
/-- the seconds that FromUnix finds are those that have these Unix seconds -/
theorem found_iff {b u : Int} {n : Nat} {f : Nat → Int × Int} (ht : TabOk b u n f) (U x : Int) : hasF (atL (foundL u f n (58445280 + U / 60) (U % 60) 2)) (foundL u f n (58445280 + U / 60) (U % 60) 2).length x ↔ ∃ D, IsDayOf u n f x D ∧ unixS f n D x = U := by
  rw [has_at, mem_found]
  constructor
  · rintro (⟨h, rfl⟩ | ⟨h, rfl⟩)
    · obtain ⟨h1, h2⟩ := has_day ht h
      exact ⟨_, h1, by rw [h2]; omega⟩
    · obtain ⟨h1, h2⟩ := has_day ht h
      exact ⟨_, h1, by rw [h2]; omega⟩
  · rintro ⟨D, h, hU⟩
    obtain ⟨m, s, h1, h2, h3, h4, h5⟩ := day_has ht h
    rw [hU] at h3
    by_cases e : s = 60
    · left
      have em : 58445280 + U / 60 - 1 = m := by omega
      have es : U % 60 + 60 = s := by omega
      rw [em, es]
      exact ⟨h1, h2.symm⟩
    · right
      have em : 58445280 + U / 60 = m := by omega
      have es : U % 60 = s := by omega
      rw [em, es]
      exact ⟨h1, h2.symm⟩
/-- what Unix says of any second, and whether it is one of those that are found -/
theorem unix_ex {b u : Int} {n : Nat} {f : Nat → Int × Int} (ht : TabOk b u n f) (U x : Int) : ∃ v e : Int, ((e = 0 ∧ v = U) ↔ hasF (atL (foundL u f n (58445280 + U / 60) (U % 60) 2)) (foundL u f n (58445280 + U / 60) (U % 60) 2).length x) ∧
    ∀ X c p, Mon X → LpIn X f n p → n ≤ c → c ≤ maxLen → Calls Tryd.prog 7 #[.agg #[.int .i64 b, .slice p n c, .int .i64 u], .int .i64 x] X fun e' w' => e' = .returned (.tuple #[.int .i64 v, .int .i64 e]) ∧ Below X.heap.size X w' := by
  by_cases hk : knownE b u n f x = 0
  · obtain ⟨D, hD⟩ := known_day hk
    refine ⟨unixS f n D x, 0, ?_, fun X c p hX hl hc hcm => Unix_ok hk hD c p X hX hl hc hcm⟩
    rw [found_iff ht]
    constructor
    · rintro ⟨_, h⟩; exact ⟨D, hD, h⟩
    · rintro ⟨E, hE, h⟩
      rw [hD.uniq ht hE]
      exact ⟨rfl, h⟩
  · refine ⟨0, knownE b u n f x, ?_, fun X c p hX hl hc hcm => Unix_no hk c p X hX hl (by have := ht.n1; omega) hc hcm⟩
    rw [found_iff ht]
    constructor
    · rintro ⟨h, _⟩; exact absurd h hk
    · rintro ⟨E, hE, _⟩; exact absurd (hE.known ht) hk
end Go.Proofs.YtjdpdabafbbfaaaDoor.Cal
