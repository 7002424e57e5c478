/-  ·  ·  ·  -/
import Derived.Test.YtgnfaemnehmgcaaGreatDoorQ09
import Derived.Test.YtgnfaemnehmgcaaGreatDoorQ12
import Derived.Test.YtgnfaemnehmgcaaGreatDoorQ18
import Derived.Test.YtgnfaemnehmgcaaGreatDoorQ17
namespace Go.Proofs.YtgnfaemnehmgcaaGreatDoor.Cal
theorem IsCiv.uniq {n y y' : Int} {m m' : Nat} {d d' : Int} (h : IsCiv n y m d) (h' : IsCiv n y' m' d') : y = y' ∧ m = m' ∧ d = d' := by
  have a1 := h.m1; have a2 := h.m2; have b1 := h'.m1; have b2 := h'.m2
  have n1 : ¬ 12 * y + m < 12 * y' + m' := fun hl => h.off (h'.on ⟨a1, a2⟩ hl)
  have n2 : ¬ 12 * y' + m' < 12 * y + m := fun hl => h'.off (h.on ⟨b1, b2⟩ hl)
  have e1 : y = y' := by omega
  have e2 : m = m' := by omega
  subst e1 e2
  exact ⟨rfl, rfl, h.rest.symm.trans h'.rest⟩
theorem TabOk.tabE {b u : Int} {n : Nat} {f : Nat → Int × Int} (h : TabOk b u n f) : tabE b u n f = 0 := by
  have ht : tabB b u = true := by
    have := h.b1; have := h.b2; have := h.u1; have := h.u2
    unfold tabB; simp only [Bool.and_eq_true, decide_eq_true_eq]; omega
  have hl : ∀ k, k ≤ n → lErr u f k = 0 := by
    intro k
    induction k with
    | zero => intro _; rfl
    | succ k ih =>
      intro hk
      have h1 := h.s k hk
      have h2 := h.d1 k hk
      have h3 := h.e k hk
      have e1 : leapB (f k).1 (f k).2 = true := by
        unfold leapB
        simp only [Bool.and_eq_true, Bool.or_eq_true, decide_eq_true_eq]
        exact ⟨h1, .inr h3⟩
      have e2 : dayK u (f k).1 = true := by unfold dayK; simpa using h2
      have e3 : (if k = 0 then 0 else (f (k - 1)).1) < (f k).1 := by
        split
        · omega
        · exact h.o (k - 1) k (by omega) hk
      rw [lErr, if_pos (ih (by omega))]
      unfold lE
      rw [if_pos e1, if_pos e2, if_pos e3]
  unfold Cal.tabE
  rw [if_pos ht, if_pos h.n1]
  exact hl n (Nat.le_refl _)
end Go.Proofs.YtgnfaemnehmgcaaGreatDoor.Cal
namespace Go.Proofs.YtgnfaemnehmgcaaGreatDoor.Cal
theorem day_rest {b u : Int} {n : Nat} {f : Nat → Int × Int} (ht : TabOk b u n f) {s D : Int} (h : IsDayOf u n f s D) : 0 ≤ s - beginS f n D ∧ s - beginS f n D ≤ 86399 + stepAt f n D := by
  have h1 := ht.begin_succ D
  have := h.lo; have := h.hi; omega
theorem known_in {b u : Int} {n : Nat} {f : Nat → Int × Int} (ht : tabE b u n f = 0) {s : Int} (h : 0 ≤ s ∧ s ≤ beginS f n u - 1) : knownE b u n f s = 0 := known_mk ht (by unfold inB; simpa using h)
end Go.Proofs.YtgnfaemnehmgcaaGreatDoor.Cal
namespace Go.Proofs.YtgnfaemnehmgcaaGreatDoor.Cal
open Go Go.RowKit
attribute [local go_sem] Oper.semAt_some
theorem two_cells (w : World) (x y : Value) (t : TypeId) : (w.alloc (.cells #[x, y] t)).cell? ⟨w.heap.size, 0, none⟩ = some x ∧ (w.alloc (.cells #[x, y] t)).cell? ⟨w.heap.size, 1, none⟩ = some y := by constructor <;> simp
def gpsL (a : Int) : Nat → List Int
  | 0 => []
  | k + 1 => gpsL a k ++ [a + 619315200 * k]
theorem gpsL_len (a : Int) : ∀ k, (gpsL a k).length = k
  | 0 => rfl
  | k + 1 => by rw [gpsL, List.length_append, gpsL_len a k]; rfl
theorem gpsL_at (a : Int) : ∀ k i, i < k → atL (gpsL a k) i = a + 619315200 * i := by
  intro k
  induction k with
  | zero => intro i h; omega
  | succ k ih =>
    intro i hi
    have hl := gpsL_len a k
    unfold atL
    rw [gpsL]
    by_cases e : i = k
    · subst e
      rw [List.getElem?_append_right (by omega), hl]
      simp
    · have := ih i (by omega)
      unfold atL at this
      rw [List.getElem?_append_left (by omega)]
      exact this
structure GpsB (w X : World) (b u : Int) (n c : Nat) (p : Option Addr) (G S near : Int) : Prop where
  t : TBox X w.heap.size b u n c p
  g : X.cell? ⟨w.heap.size + 1, 0, none⟩ = some (.int .i64 G) ∧ X.cell? ⟨w.heap.size + 1, 1, none⟩ = some (.int .i64 S)
  n : X.cell? ⟨w.heap.size + 1 + 1, 0, none⟩ = some (.int .i64 near)
  bel : Below w.heap.size w X
theorem GpsB.below {w X Y : World} {b u : Int} {n c : Nat} {p : Option Addr} {G S near : Int} (h : GpsB w X b u n c p G S near) (hb : Below X.heap.size X Y) : GpsB w Y b u n c p G S near :=
  ⟨h.t.below hb, ⟨cell_below hb h.g.1, cell_below hb h.g.2⟩, cell_below hb h.n, bt h.bel hb⟩
theorem gpsb_new (w : World) (b u : Int) (n c : Nat) (p : Option Addr) (G S near : Int) : GpsB w (((w.alloc (.cells #[.int .i64 b, .slice p n c, .int .i64 u] 24)).alloc (.cells #[.int .i64 G, .int .i64 S] 44)).alloc (.cells #[.int .i64 near] 3)) b u n c p G S near := by
  have b1 := below_alloc (Below.refl w.heap.size w) (.cells #[.int .i64 b, .slice p n c, .int .i64 u] 24)
  have h1 := TBox.new w b u n c p 24
  have e1 : (w.alloc (.cells #[.int .i64 b, .slice p n c, .int .i64 u] 24)).heap.size = w.heap.size + 1 := by simp
  generalize w.alloc (.cells #[.int .i64 b, .slice p n c, .int .i64 u] 24) = W1 at *
  have b2 := below_alloc (Below.refl W1.heap.size W1) (.cells #[.int .i64 G, .int .i64 S] 44)
  have h2 := two_cells W1 (.int .i64 G) (.int .i64 S) 44
  have e2 : (W1.alloc (.cells #[.int .i64 G, .int .i64 S] 44)).heap.size = w.heap.size + 1 + 1 := by simp [e1]
  rw [e1] at h2
  have h1' := h1.below b2
  have b2' := bt b1 b2
  generalize W1.alloc (.cells #[.int .i64 G, .int .i64 S] 44) = W2 at *
  have b3 := below_alloc (Below.refl W2.heap.size W2) (.cells #[.int .i64 near] 3)
  have h3 : (W2.alloc (.cells #[.int .i64 near] 3)).cell? ⟨W2.heap.size, 0, none⟩ = some (.int .i64 near) := by simp
  rw [e2] at h3
  exact ⟨h1'.below b3, ⟨cell_below b3 h2.1, cell_below b3 h2.2⟩, h3, bt b2' b3⟩
end Go.Proofs.YtgnfaemnehmgcaaGreatDoor.Cal
namespace Go.Proofs.YtgnfaemnehmgcaaGreatDoor.Cal
open Go Go.RowKit
theorem IsDayOf.uniq {b u : Int} {n : Nat} {f : Nat → Int × Int} (ht : TabOk b u n f) {s D E : Int} (h : IsDayOf u n f s D) (k : IsDayOf u n f s E) : D = E := by
  rcases Int.lt_trichotomy D E with g | g | g
  · have := h.after ht g; have := k.lo; omega
  · exact g
  · have := k.after ht g; have := h.lo; omega
theorem IsDayOf.known {b u : Int} {n : Nat} {f : Nat → Int × Int} (ht : TabOk b u n f) {s D : Int} (h : IsDayOf u n f s D) : knownE b u n f s = 0 := by
  have h0 := ht.begin_mono h.d1
  rw [ht.begin_first] at h0
  have h1 := ht.begin_mono (show D + 1 ≤ u by have := h.d2; omega)
  exact known_in ht.tabE ⟨by have := h.lo; omega, by have := h.hi; omega⟩
theorem has_day {b u : Int} {n : Nat} {f : Nat → Int × Int} (ht : TabOk b u n f) {m s : Int} (h : hasB u f n m s = true) : IsDayOf u n f (numS f n m s) (m / 1440) ∧ unixS f n (m / 1440) (numS f n m s) = 60 * (m - 58445280) + s := by
  unfold hasB dayK at h
  simp only [Bool.and_eq_true, decide_eq_true_eq] at h
  obtain ⟨⟨h1, h2⟩, h3, h4⟩ := h
  have hb := ht.begin_succ (m / 1440)
  have hs := stepAt_bd (f := f) (m / 1440) n ht.s
  unfold lenS at h4
  refine ⟨⟨h1, h2, ?_, ?_⟩, ?_⟩
  · unfold numS; omega
  · unfold numS; rw [hb]; split at h4 <;> omega
  · unfold unixS numS; omega
theorem day_has {b u : Int} {n : Nat} {f : Nat → Int × Int} (ht : TabOk b u n f) {x D : Int} (h : IsDayOf u n f x D) : ∃ m s, hasB u f n m s = true ∧ numS f n m s = x ∧ unixS f n D x = 60 * (m - 58445280) + s ∧ 0 ≤ s ∧ s ≤ 60 := by
  have hr := day_rest ht h
  have hs := stepAt_bd (f := f) D n ht.s
  have hd1 := h.d1; have hd2 := h.d2
  obtain ⟨r, hrr⟩ : ∃ r, x - beginS f n D = r := ⟨_, rfl⟩
  rw [hrr] at hr
  have hm := minS_bd r hr.1
  have e1 : (1440 * D + minS r) / 1440 = D := by omega
  have e2 : (1440 * D + minS r) % 1440 = minS r := by omega
  have e3 : (minS r = 1439 ∧ 1439 ≤ r / 60) ∨ (minS r = r / 60 ∧ r / 60 < 1439) := by unfold minS; split <;> omega
  refine ⟨1440 * D + minS r, r - 60 * minS r, ?_, ?_, ?_, ?_, ?_⟩
  · unfold hasB lenS dayK
    rw [e1, e2]
    simp only [Bool.and_eq_true, decide_eq_true_eq]
    refine ⟨⟨hd1, hd2⟩, by omega, ?_⟩
    split <;> omega
  · unfold numS; rw [e1, e2]; omega
  · unfold unixS; rw [hrr]; omega
  · omega
  · omega
theorem mem_found (u : Int) (f : Nat → Int × Int) (n : Nat) (m s x : Int) : x ∈ foundL u f n m s 2 ↔ (hasB u f n (m - 1) (s + 60) = true ∧ x = numS f n (m - 1) (s + 60)) ∨ (hasB u f n m s = true ∧ x = numS f n m s) := by
  have c0 : candM m 0 = m - 1 := rfl
  have c1 : candS s 0 = s + 60 := rfl
  have c2 : candM m 1 = m := rfl
  have c3 : candS s 1 = s := rfl
  simp only [foundL, c0, c1, c2, c3]
  cases h1 : hasB u f n (m - 1) (s + 60) <;> cases h2 : hasB u f n m s <;> simp
theorem found_iff {b u : Int} {n : Nat} {f : Nat → Int × Int} (ht : TabOk b u n f) (U x : Int) : hasF (atL (foundL u f n (58445280 + U / 60) (U % 60) 2)) (foundL u f n (58445280 + U / 60) (U % 60) 2).length x ↔ ∃ D, IsDayOf u n f x D ∧ unixS f n D x = U := by
  rw [has_at, mem_found]
  constructor
  · rintro (⟨h, rfl⟩ | ⟨h, rfl⟩)
    · obtain ⟨h1, h2⟩ := has_day ht h
      exact ⟨_, h1, by rw [h2]; omega⟩
    · obtain ⟨h1, h2⟩ := has_day ht h
      exact ⟨_, h1, by rw [h2]; omega⟩
  · rintro ⟨D, h, hU⟩
    obtain ⟨m, s, h1, h2, h3, h4, h5⟩ := day_has ht h
    rw [hU] at h3
    by_cases e : s = 60
    · left
      have em : 58445280 + U / 60 - 1 = m := by omega
      have es : U % 60 + 60 = s := by omega
      rw [em, es]
      exact ⟨h1, h2.symm⟩
    · right
      have em : 58445280 + U / 60 = m := by omega
      have es : U % 60 = s := by omega
      rw [em, es]
      exact ⟨h1, h2.symm⟩
end Go.Proofs.YtgnfaemnehmgcaaGreatDoor.Cal
