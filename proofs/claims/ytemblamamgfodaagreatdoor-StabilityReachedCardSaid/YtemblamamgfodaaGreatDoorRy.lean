/- Plain facts of StabilityReached: phases less the first one; what Overlapping says; a track is there or has stopped; the plain world in memory. -/
import Derived.Test.YtemblamamgfodaaGreatDoorPc
import Derived.Test.YtemblamamgfodaaGreatDoorPb
import Derived.Test.YtemblamamgfodaaGreatDoorTrack
import Derived.Test.YtemblamamgfodaaGreatDoorReachPl
import Derived.Test.YtemblamamgfodaaGreatDoorStE
namespace Go.Proofs.YtemblamamgfodaaGreatDoor
open Go Go.RowKit
theorem low_floor (X D : Int) (hD : 1 ≤ D) : lowN X D / lowD X D = X / D := by
  have hg := gcdS_pos X D hD
  have a1 := gcdS_n X D
  have a2 := gcdS_d X D
  have h := Int.mul_ediv_mul_of_pos (lowN X D) (lowD X D) (show 0 < gcdS X D by omega)
  rw [a1, a2] at h
  exact h.symm
theorem lowN_nonneg (X D : Int) (hX : 0 ≤ X) : 0 ≤ lowN X D := by
  unfold lowN
  exact Int.ediv_nonneg hX (by unfold gcdS; exact Int.natCast_nonneg _)
theorem sq_most (a A : Int) (h1 : -A ≤ a) (h2 : a ≤ A) : a * a ≤ A * A := by
  have h3 : 0 ≤ (A - a) * (A + a) := Int.mul_nonneg (by omega) (by omega)
  grind
theorem sumF_sq_most (f : Nat → Int) (A : Int) : ∀ k, (∀ i, i < k → -A ≤ f i ∧ f i ≤ A) → 0 ≤ sumF (fun i => f i * f i) k ∧ sumF (fun i => f i * f i) k ≤ A * A * k := fun k h =>
  ⟨sumF_nonneg _ k (fun i _ => by
      show 0 ≤ f i * f i
      rcases Int.le_total 0 (f i) with h0 | h0
      · exact Int.mul_nonneg h0 h0
      · exact Int.mul_nonneg_of_nonpos_of_nonpos h0 h0),
   (sumF_bd (fun i => f i * f i) (A * A) k (fun i hi => by
      obtain ⟨h1, h2⟩ := h i hi
      have h3 := sq_most _ _ h1 h2
      have h4 : 0 ≤ f i * f i := by
        rcases Int.le_total 0 (f i) with h0 | h0
        · exact Int.mul_nonneg h0 h0
        · exact Int.mul_nonneg_of_nonpos_of_nonpos h0 h0
      show -(A * A) ≤ f i * f i ∧ f i * f i ≤ A * A
      omega)).2⟩
/-- what varies by A at most has a variance of A * A / dv at most -/
theorem varF_most {k : Nat} {f : Nat → Int} {A dv : Int} (hd : 1 ≤ dv) (hf : ∀ i, i < k → -A ≤ f i ∧ f i ≤ A) :
    varF k f dv = ⟨0, 0, 4⟩ ∨ ∃ x y, varF k f dv = ⟨x, y, 0⟩ ∧ 0 ≤ x ∧ 1 ≤ y ∧ x / y ≤ A * A / dv := by
  by_cases hk : k = 0
  · exact .inl (by rw [varF, if_pos hk])
  · obtain ⟨h0, h1⟩ := sumF_sq_most f A k hf
    have hkd : 1 ≤ (k : Int) * dv := by
      have := Int.mul_le_mul (show (1 : Int) ≤ k by omega) hd (by omega) (by omega)
      simpa using this
    refine .inr ⟨_, _, by rw [varF, if_neg hk], lowN_nonneg _ _ h0, lowD_pos _ _ hkd, ?_⟩
    rw [low_floor _ _ hkd]
    have h2 := Int.ediv_le_ediv (show 0 < (k : Int) * dv by omega) h1
    have h3 := Int.mul_ediv_mul_of_pos (A * A) dv (show 0 < (k : Int) by omega)
    rw [Int.mul_comm (A * A) (k : Int)] at h2
    rw [h3] at h2
    exact h2
/-- nothing differs: the variance is 0 over 1 -/
theorem varF_none {k : Nat} {f : Nat → Int} {dv : Int} (hd : 1 ≤ dv) (hk : 1 ≤ k) (hf : ∀ i, i < k → f i = 0) : varF k f dv = ⟨0, 1, 0⟩ := by
  have hkd : 1 ≤ (k : Int) * dv := by
    have := Int.mul_le_mul (show (1 : Int) ≤ k by omega) hd (by omega) (by omega)
    simpa using this
  have hs : sumF (fun i => f i * f i) k = 0 := by
    have h := sumF_bd (fun i => f i * f i) 0 k (fun i hi => by show -0 ≤ f i * f i ∧ f i * f i ≤ 0; rw [hf i hi]; simp)
    have h1 : (0 : Int) * k = 0 := Int.zero_mul _
    omega
  rw [varF, if_neg (by omega), hs, (low_zero _ hkd).1, (low_zero _ hkd).2]
theorem overlapping_most {tau : Int} {l : List Int} {m : Nat} {A : Int} (hm : 1 ≤ m) (ht : 1 ≤ tau) (hA : ∀ i, i + 2 * m < l.length → -A ≤ secAt l m i ∧ secAt l m i ≤ A) (he : stepErr tau l m = 0) :
    overlappingE tau l m = ⟨0, 0, 4⟩ ∨ ∃ x y, overlappingE tau l m = ⟨x, y, 0⟩ ∧ 0 ≤ x ∧ 1 ≤ y ∧ x / y ≤ A * A / (2 * m * m * tau * tau) := by
  have h := varF_most (k := l.length - 2 * m) (f := fun j => secAt l m j) (A := A) (divTwo_pos (m := m) (tau := tau) (by omega) ht) (fun i hi => hA i (by omega))
  rw [overlappingE_eq, errF, if_pos he]
  simpa [divTwo] using h
theorem overlapping_none {tau : Int} {l : List Int} {m : Nat} (hm : 1 ≤ m) (ht : 1 ≤ tau) (hl : 2 * m < l.length) (hA : ∀ i, i + 2 * m < l.length → secAt l m i = 0) (he : stepErr tau l m = 0) :
    overlappingE tau l m = ⟨0, 1, 0⟩ := by
  rw [overlappingE_eq, errF, if_pos he]
  have h := varF_none (k := l.length - 2 * m) (f := fun j => secAt l m j) (divTwo_pos (m := m) (tau := tau) (by omega) ht) (by omega) (fun i hi => hA i (by omega))
  simpa using h
theorem on_sec {a b : Int} {l : List Int} (h : OnLine a b l) (m i : Nat) (hi : i + 2 * m < l.length) : secAt l m i = 0 := by
  unfold secAt
  rw [h.at_ _ hi, h.at_ (i + m) (by omega), h.at_ i (by omega)]
  simp only [Int.natCast_add, Int.natCast_mul, Int.mul_add]
  grind
/-- a line: no variance, nothing left -/
theorem on_both {a b tau : Int} {l : List Int} (h : OnLine a b l) (h3 : 3 ≤ l.length) (h48 : l.length ≤ 48) :
    (checkSt tau l = 0 ∧ overlappingE tau l 1 = ⟨0, 1, 0⟩ ∧ restE tau l = ⟨0, 1, 0⟩) ∨ (checkSt tau l = 6 ∧ overlappingE tau l 1 = ⟨0, 0, 6⟩ ∧ restE tau l = ⟨0, 0, 6⟩) := by
  have hc : checkSt tau l = 0 ∨ checkSt tau l = 6 := by
    unfold checkSt
    rw [if_neg (by omega)]
    split
    · exact .inl rfl
    · exact .inr rfl
  rcases hc with hc | hc
  · have ht : 1 ≤ tau := by
      unfold checkSt at hc
      rw [if_neg (by omega)] at hc
      by_cases hx : (1 ≤ tau ∧ tau ≤ 1000) ∧ phasesOk l = true
      · exact hx.1.1
      · rw [if_neg hx] at hc; omega
    have he : stepErr tau l ((1 : Nat) : Int) = 0 := by
      unfold stepErr
      rw [if_pos hc, if_pos (by omega)]
    have hr : restErr tau l = 0 := by
      have hf : fitErr tau l = 0 := by unfold fitErr; rw [if_pos hc, if_neg (by omega)]
      unfold restErr
      rw [if_pos hf, if_neg (by omega)]
    exact .inl ⟨hc, overlapping_none (m := 1) (by omega) ht (by omega) (fun i hi => on_sec h 1 i hi) he, on_rest h (by omega) hr⟩
  · have he : stepErr tau l 1 = 6 := by unfold stepErr; rw [if_neg (by omega), hc]
    have hr : restErr tau l = 6 := by
      have hf : fitErr tau l = 6 := by unfold fitErr; rw [if_neg (by omega), hc]
      unfold restErr
      rw [if_neg (by omega), hf]
    refine .inr ⟨hc, ?_, ?_⟩
    · rw [overlappingE_eq, errF, if_neg (by omega), he]
    · unfold restE; rw [if_neg (by omega), hr]
end Go.Proofs.YtemblamamgfodaaGreatDoor
namespace Go.Proofs.YtemblamamgfodaaGreatDoor
open Go Go.RowKit Go.Shelf
/-- the first k phases, less the first one -/
def subL (l : List Int) (k : Nat) : List Int := (List.range k).map fun i => atL l i - atL l 0
theorem subL_len (l : List Int) (k : Nat) : (subL l k).length = k := by simp [subL]
theorem subL_succ (l : List Int) (k : Nat) : subL l (k + 1) = subL l k ++ [atL l k - atL l 0] := by simp [subL, List.range_succ]
theorem subL_at (l : List Int) (k i : Nat) (h : i < k) : atL (subL l k) i = atL l i - atL l 0 := by simp [subL, atL, h]
theorem subL_sec (l : List Int) (n m i : Nat) (h : i + 2 * m < n) : secAt (subL l n) m i = atL l (i + 2 * m) - 2 * atL l (i + m) + atL l i := by
  unfold secAt
  rw [subL_at _ _ _ h, subL_at _ _ _ (by omega), subL_at _ _ _ (by omega)]
  omega
theorem over_cases {tau : Int} {l : List Int} {m : Nat} (hm : 1 ≤ m ∧ m ≤ 32) (hl : l.length ≤ 128) :
    overlappingE tau l m = ⟨0, 0, 6⟩ ∨ overlappingE tau l m = ⟨0, 0, 4⟩ ∨ ∃ x y, overlappingE tau l m = ⟨x, y, 0⟩ ∧ 0 ≤ x ∧ 1 ≤ y ∧ x / y ≤ 40000000000000000 ∧
      ∀ A, (∀ i, i + 2 * m < l.length → -A ≤ secAt l m i ∧ secAt l m i ≤ A) → x / y ≤ A * A / (2 * m * m * tau * tau) := by
  by_cases hc : checkSt tau l = 0
  · have hp : (1 ≤ tau ∧ tau ≤ 1000) ∧ phasesOk l = true := by
      unfold checkSt at hc
      rw [if_neg (by omega)] at hc
      by_cases h : (1 ≤ tau ∧ tau ≤ 1000) ∧ phasesOk l = true
      · exact h
      · rw [if_neg h] at hc; omega
    have he : stepErr tau l m = 0 := by unfold stepErr; rw [if_pos hc, if_pos (by omega)]
    have hd : (1 : Int) ≤ 2 * m * m * tau * tau := divTwo_pos (m := m) (tau := tau) (by omega) hp.1.1
    have hA : ∀ i, i + 2 * m < l.length → -(200000000 : Int) ≤ secAt l m i ∧ secAt l m i ≤ 200000000 := fun i _ => (secD l hp.2 m i).2
    rcases overlapping_most hm.1 hp.1.1 hA he with h | ⟨x, y, h, h0, h1, h2⟩
    · exact .inr (.inl h)
    · refine .inr (.inr ⟨x, y, h, h0, h1, Int.le_trans h2 ?_, fun A hA' => ?_⟩)
      · exact Int.le_trans (Int.ediv_le_self _ (by decide)) (by decide)
      · rcases overlapping_most hm.1 hp.1.1 hA' he with h' | ⟨x', y', h', _, _, h3⟩
        · rw [h] at h'; cases h'
        · rw [h] at h'; cases h'; exact h3
  · have h6 : checkSt tau l = 6 := by
      unfold checkSt at hc ⊢
      rw [if_neg (by omega)] at hc ⊢
      by_cases h : (1 ≤ tau ∧ tau ≤ 1000) ∧ phasesOk l = true
      · rw [if_pos h] at hc; exact absurd rfl hc
      · rw [if_neg h]
    have he : stepErr tau l m = 6 := by unfold stepErr; rw [if_neg hc, h6]
    exact .inl (by rw [overlappingE_eq, errF, if_neg (by omega), he])
theorem track_two {W : Wd.Wld} {ck fr ev : Int} {n : Nat} (hc : Wd.checkS W = 0) (hk : 0 ≤ ck ∧ ck < W.cls.length) (hf : 0 ≤ fr ∧ fr ≤ 65535) (he : 1 ≤ ev ∧ ev ≤ 90) (hn : 3 ≤ n ∧ n ≤ 40) :
    (∃ l, Wd.trackE W ck fr ev n = ⟨l, 22⟩) ∨ ∃ l, Wd.trackE W ck fr ev n = ⟨l, 0⟩ ∧ l.length = n ∧ ∀ i, i < n → (Wd.reachE W ck (fr + ev * i)).e = 0 ∧
      (Wd.reachE W ck (fr + ev * i)).a ≤ atL l i ∧ atL l i ≤ (Wd.reachE W ck (fr + ev * i)).b ∧ -400000000000000 < (Wd.reachE W ck (fr + ev * i)).a ∧ (Wd.reachE W ck (fr + ev * i)).b < 400000000000000 := by
  have h0 : Wd.trackErr W ck fr ev n = 0 := by
    have hfe : Wd.findErr W ck [] = 0 := by
      unfold Wd.findErr
      rw [if_pos hc, if_pos ((Wd.inR_iff _ _ _).2 (by omega))]; rfl
    have h2 : ev * ((n : Int) - 1) ≤ 90 * 39 := Int.mul_le_mul he.2 (by omega) (by omega) (by decide)
    unfold Wd.trackErr
    rw [if_pos hfe, if_pos (by omega), if_pos (by omega)]
  by_cases hr : Wd.trackRuns (Wd.clkOf W ck) fr ev (n : Int).toNat = true
  · have e : Wd.trackE W ck fr ev n = ⟨Wd.trackL W.seed ck (Wd.clkOf W ck) (Wd.roomOf W ck) fr ev (n : Int).toNat, 0⟩ := by unfold Wd.trackE; rw [if_pos h0, if_pos hr]
    have h := Wd.track_reach (W := W) (k := ck) (a := fr) (st := ev) (n := n) (by rw [e])
    generalize Wd.trackL W.seed ck (Wd.clkOf W ck) (Wd.roomOf W ck) fr ev (n : Int).toNat = l at *
    rw [e] at h
    obtain ⟨hl, hi⟩ := h
    have hl' : l.length = n := by simpa using hl
    refine .inr ⟨l, e, hl', fun i hin => ?_⟩
    have := hi i (by show i < l.length; omega)
    rw [show fr + (i : Int) * ev = fr + ev * i by rw [Int.mul_comm]] at this
    rw [← atL_get (l := l) (i := i) (h := by omega)]
    exact this
  · exact .inl ⟨[], by unfold Wd.trackE; rw [if_pos h0, if_neg hr]⟩
/-- the plain world as the law lays it into memory -/
theorem flat_in (X : World) (seed r : Int) (t1 t2 : TypeId) (o : Obj) :
    Wd.WldIn (((X.alloc (.cells #[.int .i64 20000, .int .i64 0, .int .i64 2] t1)).alloc (.cells #[.int .i64 1, .int .i64 0, .int .i64 r, .int .i64 0, .int .i64 0, .int .i64 0, .int .i64 0, .int .i64 0, .slice none 0 0] t2)).alloc o) (Wd.flatW seed r) (some ⟨X.heap.size, 0, none⟩) (some ⟨X.heap.size + 1, 0, none⟩) := by
  have b1 := below_alloc (Below.refl ((X.alloc (.cells #[.int .i64 20000, .int .i64 0, .int .i64 2] t1)).alloc (.cells #[.int .i64 1, .int .i64 0, .int .i64 r, .int .i64 0, .int .i64 0, .int .i64 0, .int .i64 0, .int .i64 0, .slice none 0 0] t2)).heap.size _) o
  refine Wd.WldIn.below ⟨by simp [Wd.flatW, maxLen], by simp [Wd.flatW, maxLen], .inr ⟨_, _, rfl, fun i hi => ?_⟩, .inr ⟨_, _, rfl, fun i hi => ?_⟩⟩ b1
  · obtain rfl : i = 0 := by simp [Wd.flatW] at hi; omega
    exact ⟨by simp [Wd.flatW], by simp [Wd.flatW], by simp [Wd.flatW]⟩
  · obtain rfl : i = 0 := by simp [Wd.flatW] at hi; omega
    refine ⟨⟨by simp [Wd.flatW, Wd.tube], by simp [Wd.flatW, Wd.tube], by simp [Wd.flatW, Wd.tube], by simp [Wd.flatW, Wd.tube], by simp [Wd.flatW, Wd.tube], by simp [Wd.flatW, Wd.tube], by simp [Wd.flatW, Wd.tube], by simp [Wd.flatW, Wd.tube]⟩, .slice none 0 0, by simp, none, 0, rfl, by simp [maxLen, Wd.flatW, Wd.tube], .inl rfl⟩
/-- the plain world's phases, less the first one, are a line -/
theorem flat_line {l : List Int} {n : Nat} {r f : Int} (hl : l.length = n) (h : ∀ (i : Nat) (hi : i < l.length), l[i] = 10 * r * f + r * i) : OnLine 0 r (subL l n) := by
  refine ⟨fun i hi => ?_⟩
  rw [subL_len] at hi
  rw [subL_at _ _ _ hi, ← atL_get (l := l) (i := i) (h := by omega), ← atL_get (l := l) (i := 0) (h := by omega), h, h]
  simp
  omega
end Go.Proofs.YtemblamamgfodaaGreatDoor
