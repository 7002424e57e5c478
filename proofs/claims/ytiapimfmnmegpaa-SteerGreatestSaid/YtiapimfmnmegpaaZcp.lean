/- Stage 6 (steer): plain facts: the rounds of the chart. -/
import Derived.Test.YtiapimfmnmegpaaZre
namespace Go.Proofs.Ytiapimfmnmegpaa.St
open Go Go.RowKit Go.Shelf
def isLost (l r s z : Int) (f : Nat → Int) (D V k : Nat) : Bool := decide (f k < 1000) && !(bsK l r s z f D V k).2.2
/-- a round: those that are lost get its number -/
def rndF (l r s z : Int) (f : Nat → Int) (D V n k : Nat) : Int := if isLost l r s z f D V k = true then 1001 + (n : Int) else renF l r s z f D V k
theorem ren_mem {l r s z : Int} {f : Nat → Int} {D V N : Nat} {x : Int} : x ∈ renL l r s z f D V N ↔ ∃ k : Nat, x = (k : Int) ∧ k < N ∧ isLost l r s z f D V k = true := by
  unfold renL lostL isLost
  rw [List.mem_map]
  constructor
  · rintro ⟨d, hd, rfl⟩
    obtain ⟨h1, h2⟩ := List.mem_filter.1 hd
    exact ⟨d.1, rfl, d.2, by simp [meaL_mem.1 h1, h2]⟩
  · rintro ⟨k, rfl, hk, h⟩
    simp only [Bool.and_eq_true, decide_eq_true_eq] at h
    exact ⟨⟨k, hk⟩, List.mem_filter.2 ⟨meaL_mem.2 h.1, h.2⟩, rfl⟩
theorem ren_ge {l r s z : Int} {f : Nat → Int} {D V k : Nat} (h : ¬ f k < 1000) : renF l r s z f D V k = f k := by unfold renF; rw [if_neg h]
theorem ren_ok {l r s z : Int} {f : Nat → Int} {D V k : Nat} (h : f k < 1000) (hb : (bsK l r s z f D V k).2.2 = true) : renF l r s z f D V k = (bsK l r s z f D V k).1 := by unfold renF newV; rw [if_pos h, if_pos hb]
theorem ren_no {l r s z : Int} {f : Nat → Int} {D V k : Nat} (hb : (bsK l r s z f D V k).2.2 = false) : renF l r s z f D V k = f k := by
  unfold renF newV
  split
  · rw [if_neg (by rw [hb]; decide)]
  · rfl
theorem ren_same {l r s z : Int} (h : PlanOk l r s z) (f : Nat → Int) (D V N : Nat) : SameM N f (renF l r s z f D V) := fun k _ => by
  unfold renF
  split
  · rename_i h1
    exact ⟨fun _ => new_lt h h1, fun _ => h1⟩
  · exact Iff.rfl
theorem rnd_lt {l r s z : Int} (h : PlanOk l r s z) {f : Nat → Int} {D V n k : Nat} : rndF l r s z f D V n k < 1000 ↔ f k < 1000 ∧ (bsK l r s z f D V k).2.2 = true := by
  unfold rndF isLost
  by_cases h1 : f k < 1000
  · cases h2 : (bsK l r s z f D V k).2.2
    · simp [h1]; omega
    · simp only [h1, decide_true, Bool.not_true, Bool.and_false, if_neg (show ¬ (false = true) by decide), true_and, iff_true]
      have := ren_same h f D V (k + 1) k (by omega)
      exact this.1 h1
  · simp only [h1, decide_false, Bool.false_and, if_neg (show ¬ (false = true) by decide), false_and, iff_false]
    rw [ren_ge h1]; exact h1
theorem rnd_mea {l r s z : Int} (h : PlanOk l r s z) (f : Nat → Int) (D V n N : Nat) : meaL (rndF l r s z f D V n) N = (meaL f N).filter fun d => (bsK l r s z f D V d.1).2.2 := by
  unfold meaL
  rw [List.filter_filter]
  congr 1
  funext d
  rw [Bool.eq_iff_iff]
  simp only [decide_eq_true_eq, Bool.and_eq_true]
  rw [rnd_lt h]
  exact And.comm
theorem rnd_cnt {l r s z : Int} (h : PlanOk l r s z) {f : Nat → Int} {D V N : Nat} (n : Nat) (hne : renL l r s z f D V N ≠ []) : (meaL (rndF l r s z f D V n) N).length < (meaL f N).length := by
  rw [rnd_mea h]
  obtain ⟨x, hx⟩ := List.exists_mem_of_ne_nil _ hne
  obtain ⟨k, -, hk, hl⟩ := ren_mem.1 hx
  unfold isLost at hl
  simp only [Bool.and_eq_true, decide_eq_true_eq, Bool.not_eq_true'] at hl
  refine List.length_filter_lt_length_iff_exists.2 ⟨⟨k, hk⟩, meaL_mem.2 hl.1, ?_⟩
  rw [show (bsK l r s z f D V (⟨k, hk⟩ : Fin N).1).2.2 = false from hl.2]
  decide
theorem mea_len (f : Nat → Int) (N : Nat) : (meaL f N).length ≤ N := by
  unfold meaL
  exact Nat.le_trans (List.length_filter_le _ _) (by rw [fl_len]; exact Nat.le_refl _)
/-- the numbers at the beginning of a round -/
def itC (l r s z : Int) (D V : Nat) : Nat → Nat → Int
  | 0 => fun _ => 0
  | n + 1 => rndF l r s z (itC l r s z D V n) D V n
/-- the round that loses no state -/
def rndN (l r s z : Int) (D V N : Nat) : Nat → Nat → Nat
  | 0, n => n
  | k + 1, n => if renL l r s z (itC l r s z D V n) D V N = [] then n else rndN l r s z D V N k (n + 1)
theorem rndN_eq {l r s z : Int} {D V N : Nat} {m : Nat} (hs : renL l r s z (itC l r s z D V m) D V N = []) : ∀ k n, n ≤ m → m ≤ n + k → (∀ i, n ≤ i → i < m → renL l r s z (itC l r s z D V i) D V N ≠ []) → rndN l r s z D V N k n = m
  | 0, n, h1, h2, _ => by show n = m; omega
  | k + 1, n, h1, h2, h3 => by
    unfold rndN
    by_cases e : n = m
    · subst e; rw [if_pos hs]
    · rw [if_neg (h3 n (Nat.le_refl _) (by omega))]
      exact rndN_eq hs k (n + 1) (by omega) (by omega) (fun i h4 h5 => h3 i (by omega) h5)
/-- the chart -/
def chF (l r s z : Int) (D V N : Nat) : Nat → Int := renF l r s z (itC l r s z D V (rndN l r s z D V N N 0)) D V
/-- numbers that are given one after the other -/
def givL (f : Nat → Int) (L : List Int) (x : Int) (j k : Nat) : Int := if (k : Int) ∈ L.take j then x else f k
theorem giv_zero (f : Nat → Int) (L : List Int) (x : Int) (k : Nat) : givL f L x 0 k = f k := by simp [givL]
theorem giv_succ (f : Nat → Int) (L : List Int) (x : Int) {j : Nat} (hj : j < L.length) (i k : Nat) (hi : atL L j = (i : Int)) : givL f L x (j + 1) k = if k = i then x else givL f L x j k := by
  unfold givL
  have e : L.take (j + 1) = L.take j ++ [(i : Int)] := by
    rw [List.take_add_one, List.getElem?_eq_getElem hj]
    unfold atL at hi
    rw [List.getElem?_eq_getElem hj] at hi
    rw [show L[j] = (i : Int) from hi]
    rfl
  rw [e]
  by_cases e2 : k = i
  · subst e2; simp
  · rw [if_neg e2]
    have : ¬ (k : Int) = (i : Int) := by omega
    simp [this]
theorem giv_all {l r s z : Int} (f : Nat → Int) (D V N n k : Nat) (hk : k < N) : givL (renF l r s z f D V) (renL l r s z f D V N) (1001 + (n : Int)) (renL l r s z f D V N).length k = rndF l r s z f D V n k := by
  unfold givL rndF
  rw [List.take_length]
  by_cases h : isLost l r s z f D V k = true
  · rw [if_pos h, if_pos (ren_mem.2 ⟨k, rfl, hk, h⟩)]
  · rw [if_neg h, if_neg]
    intro h2
    obtain ⟨k', e, -, h3⟩ := ren_mem.1 h2
    have : k = k' := by omega
    subst this
    exact h h3
theorem atL_mem {L : List Int} {j : Nat} (hj : j < L.length) : atL L j ∈ L := by
  unfold atL
  rw [List.getElem?_eq_getElem hj]
  exact List.getElem_mem hj
end Go.Proofs.Ytiapimfmnmegpaa.St
