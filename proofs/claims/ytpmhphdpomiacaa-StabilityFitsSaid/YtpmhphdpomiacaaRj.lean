/- Contracts of layer 3: what Thin and the reference's Thin hand back. -/
import Derived.Test.YtpmhphdpomiacaaRf
import Derived.Test.YtpmhphdpomiacaaTi
namespace Go.Proofs.Ytpmhphdpomiacaa
open Go Go.RowKit Go.Shelf
/-- each M-th of the first k phases -/
def thinTo (l : List Int) (M : Nat) : Nat → List Int
  | 0 => []
  | k + 1 => if k % M = 0 then thinTo l M k ++ [atL l k] else thinTo l M k
theorem thinTo_spec (l : List Int) (M : Nat) (hM : 1 ≤ M) : ∀ k, (thinTo l M k).length = (k + M - 1) / M ∧ ∀ i, i * M < k → atL (thinTo l M k) i = atL l (i * M)
  | 0 => ⟨by show 0 = (0 + M - 1) / M; rw [Nat.div_eq_of_lt (by omega)], fun i hi => by omega⟩
  | k + 1 => by
    obtain ⟨h1, h2⟩ := thinTo_spec l M hM k
    by_cases hk : k % M = 0
    · obtain ⟨q, hq⟩ : ∃ q, k = M * q := ⟨k / M, by have := Nat.div_add_mod k M; omega⟩
      have hlen : (thinTo l M k).length = q := by
        rw [h1, hq, show M * q + M - 1 = (M - 1) + M * q by omega, Nat.add_mul_div_left _ _ (by omega), Nat.div_eq_of_lt (by omega)]; omega
      have e : thinTo l M (k + 1) = thinTo l M k ++ [atL l k] := if_pos hk
      rw [e]
      refine ⟨?_, fun i hi => ?_⟩
      · rw [List.length_append, hlen, hq, show M * q + 1 + M - 1 = M * q + M by omega, show M * q + M = M * (q + 1) by rw [Nat.mul_add, Nat.mul_one], Nat.mul_div_cancel_left _ (by omega)]; rfl
      · by_cases hi' : i * M < k
        · have hil : i < (thinTo l M k).length := by
            rw [hlen]
            rw [hq, Nat.mul_comm i M] at hi'
            exact Nat.lt_of_mul_lt_mul_left hi'
          have := h2 i hi'
          unfold atL at this ⊢
          rw [List.getElem?_append_left hil]
          exact this
        · have hik : i * M = k := by omega
          have hiq : i = q := by
            rw [hq, Nat.mul_comm i M] at hik
            exact Nat.eq_of_mul_eq_mul_left (by omega) hik
          rw [hik]
          unfold atL
          rw [hiq, ← hlen, List.getElem?_append_right (Nat.le_refl _)]
          simp
    · have e : thinTo l M (k + 1) = thinTo l M k := if_neg hk
      rw [e]
      have hd := Nat.div_add_mod k M
      have hlt := Nat.mod_lt k (show 0 < M by omega)
      refine ⟨?_, fun i hi => h2 i ?_⟩
      · rw [h1, show k + 1 + M - 1 = (k % M) + M * (k / M + 1) by rw [Nat.mul_add]; omega, Nat.add_mul_div_left _ _ (by omega), Nat.div_eq_of_lt hlt,
          show k + M - 1 = (k % M - 1) + M * (k / M + 1) by rw [Nat.mul_add]; omega, Nat.add_mul_div_left _ _ (by omega), Nat.div_eq_of_lt (by omega)]
      · rcases Nat.lt_or_ge (i * M) k with h | h
        · exact h
        · have hik : i * M = k := by omega
          exact absurd (by rw [← hik]; exact Nat.mul_mod_left i M) hk
theorem thinned_to {l : List Int} {M : Nat} (hM : 1 ≤ M) : Thinned l (thinTo l M l.length) M := ⟨(thinTo_spec l M hM _).1, (thinTo_spec l M hM _).2⟩
theorem thinned_eq {l a b : List Int} {M : Nat} (hM : 1 ≤ M) (ha : Thinned l a M) (hb : Thinned l b M) : a = b := by
  refine List.ext_getElem (ha.len.trans hb.len.symm) fun i h1 h2 => ?_
  have hi : i * M < l.length := by
    have h3 : i < (l.length + M - 1) / M := by rw [← ha.len]; exact h1
    have h4 := (Nat.lt_div_iff_mul_lt (show 0 < M by omega)).1 h3
    omega
  rw [atL_get a i h1, atL_get b i h2, ha.at_ i hi, hb.at_ i hi]
def thinErr (tau : Int) (l : List Int) (m : Int) : Int := if stepErr tau l m = 0 then (if m * tau ≤ 1000 then 0 else 6) else stepErr tau l m
def thinLs (tau : Int) (l : List Int) (m : Int) : List Int := if thinErr tau l m = 0 then thinTo l m.toNat l.length else []
def thinTau (tau : Int) (l : List Int) (m : Int) : Int := if thinErr tau l m = 0 then m * tau else 0
theorem thinErr_zero {tau : Int} {l : List Int} {m : Int} (h : thinErr tau l m = 0) : stepErr tau l m = 0 ∧ m * tau ≤ 1000 := by
  unfold thinErr at h
  by_cases h0 : stepErr tau l m = 0
  · rw [if_pos h0] at h
    by_cases h1 : m * tau ≤ 1000
    · exact ⟨h0, h1⟩
    · rw [if_neg h1] at h; omega
  · rw [if_neg h0] at h; exact absurd h h0
/-- Thin of whatever arguments -/
theorem thin_all (tau : Int) (l : List Int) (p : Option Addr) (cap : Nat) (m : Int) (w : World) (hs : SerIn w l p) (hcap : l.length ≤ cap) :
    Calls Try.prog 23 #[.agg #[.int .i64 tau, .slice p l.length cap], .int .i64 m] w fun e w' => ∃ q c, e = .returned (.tuple #[.agg #[.int .i64 (thinTau tau l m), .slice q (thinLs tau l m).length c], .int .i64 (thinErr tau l m)]) ∧
      OwnI w.heap.size w' (.slice q (thinLs tau l m).length c) (thinLs tau l m) ∧ Below w.heap.size w w' := by
  by_cases he : stepErr tau l m = 0
  · obtain ⟨h128, ht, hp, hm⟩ := stepErr_zero he
    obtain ⟨M, rfl⟩ : ∃ M : Nat, m = M := ⟨m.toNat, by omega⟩
    have hM : 1 ≤ M ∧ M ≤ 32 := by omega
    by_cases hmt : (M : Int) * tau ≤ 1000
    · have e1 : thinErr tau l M = 0 := by unfold thinErr; rw [if_pos he, if_pos hmt]
      have e2 : thinLs tau l M = thinTo l M l.length := by unfold thinLs; rw [if_pos e1]; rfl
      have e3 : thinTau tau l M = M * tau := by unfold thinTau; rw [if_pos e1]
      rw [e1, e2, e3]
      by_cases h0 : l = []
      · subst h0
        refine (thin_nil tau p cap M w hM ht hmt).mono ?_
        rintro e w' ⟨rfl, hb⟩
        exact ⟨none, 0, rfl, World.ownsRow_nil _ _ _ _, hb⟩
      · have h0' : 0 < l.length := List.length_pos_iff.2 h0
        obtain ⟨b, o, rfl, hI⟩ := hs.2.resolve_left (by omega)
        refine (thin_own tau l b o cap M w hs hcap h0' h128 hM ht he hmt).mono ?_
        rintro e w' ⟨q, c, rfl, _, hown, hb⟩
        have heq := thinned_eq hM.1 (thinned_to (l := l) hM.1) (starts_thinned hM.1 h0')
        have hll : (thinTo l M l.length).length = cntS l.length 0 M := by rw [heq, List.length_map, startsL_len]
        refine ⟨q, c, by rw [hll], ?_, hb⟩
        rw [hll, heq]
        exact hown
    · have e1 : thinErr tau l M = 6 := by unfold thinErr; rw [if_pos he, if_neg hmt]
      have e2 : thinLs tau l M = [] := by unfold thinLs; rw [if_neg (by omega)]
      have e3 : thinTau tau l M = 0 := by unfold thinTau; rw [if_neg (by omega)]
      rw [e1, e2, e3]
      refine (thin_far tau l p cap M w hs hM ht he (by omega)).mono ?_
      rintro e w' ⟨rfl, hb⟩
      exact ⟨none, 0, rfl, World.ownsRow_nil _ _ _ _, hb⟩
  · have e1 : thinErr tau l m = stepErr tau l m := by unfold thinErr; rw [if_neg he]
    have e2 : thinLs tau l m = [] := by unfold thinLs; rw [e1, if_neg he]
    have e3 : thinTau tau l m = 0 := by unfold thinTau; rw [e1, if_neg he]
    rw [e1, e2, e3]
    refine (thin_err tau l p cap m w hs he).mono ?_
    rintro e w' ⟨rfl, hb⟩
    exact ⟨none, 0, rfl, World.ownsRow_nil _ _ _ _, hb⟩
end Go.Proofs.Ytpmhphdpomiacaa
