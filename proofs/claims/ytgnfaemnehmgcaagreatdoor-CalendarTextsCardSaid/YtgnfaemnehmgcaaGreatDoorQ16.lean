/- Layer 9 (calendar): a row of leaps that a call has made. -/
import Derived.Test.YtgnfaemnehmgcaaGreatDoorQ14
import Derived.Test.YtgnfaemnehmgcaaGreatDoorQ06
import Derived.Lib.SliceRun
namespace Go.Proofs.YtgnfaemnehmgcaaGreatDoor.Cal
open Go Go.RowKit
attribute [local go_sem] Oper.semAt_some
theorem infoLeap : (Tryz.prog.info? 33).map (fun i => (i.zero, i.size, i.bytes)) = some (some (.agg #[.int .i64 0, .int .i64 0]), 2, 16) := by kernel_rfl
/-- the cells of the first k leaps -/
def lv (f : Nat → Int × Int) : Nat → List Value
  | 0 => []
  | k + 1 => lv f k ++ [.int .i64 (f k).1, .int .i64 (f k).2]
theorem lv_len (f : Nat → Int × Int) : ∀ k, (lv f k).length = k * 2
  | 0 => rfl
  | k + 1 => by rw [lv, List.length_append, lv_len f k]; simp; omega
theorem lv_get (f : Nat → Int × Int) : ∀ k i, i < k → (lv f k)[i * 2]? = some (.int .i64 (f i).1) ∧ (lv f k)[i * 2 + 1]? = some (.int .i64 (f i).2)
  | 0, i, h => by omega
  | k + 1, i, h => by
    have hl := lv_len f k
    rw [lv]
    by_cases e : i = k
    · subst e
      rw [List.getElem?_append_right (by omega), List.getElem?_append_right (by omega), hl]
      simp
    · have := lv_get f k i (by omega)
      rw [List.getElem?_append_left (by omega), List.getElem?_append_left (by omega)]
      exact this
theorem lv_one (f : Nat → Int × Int) (k : Nat) : ∀ u ∈ lv f k, u.oneCell' = true := by
  induction k with
  | zero => intro u hu; cases hu
  | succ k ih =>
    intro u hu
    rw [lv] at hu
    rcases List.mem_append.1 hu with h | h
    · exact ih u h
    · simp at h; rcases h with rfl | rfl <;> rfl
theorem lv_cells {w : World} {f : Nat → Int × Int} {n b o : Nat} (h : LpAt w f n b o) : ∀ j u, (lv f n)[j]? = some u → w.cell? ((⟨b, o, none⟩ : Addr).add j) = some u := by
  intro j u hj
  have hlt : j < n * 2 := by rw [← lv_len f n]; exact (List.getElem?_eq_some_iff.1 hj).1
  rw [add_plain]
  have e : j = (j / 2) * 2 ∨ j = (j / 2) * 2 + 1 := by omega
  obtain ⟨g0, g1⟩ := lv_get f n (j / 2) (by omega)
  obtain ⟨c0, c1⟩ := h (j / 2) (by omega)
  rcases e with e | e
  · rw [e] at hj ⊢
    rw [g0] at hj
    cases hj
    exact c0
  · rw [e] at hj ⊢
    rw [g1] at hj
    cases hj
    rw [← Nat.add_assoc]
    exact c1
/-- a row of leaps that the call has made, as leaps that may be read -/
theorem own_leaps {X : World} {B : Nat} {e : TypeId} {v : Value} {n : Nat} {f : Nat → Int × Int} (h : X.ownsRow B e 2 v n (lv f n)) : ∃ p c, v = .slice p n c ∧ n ≤ c ∧ c ≤ maxLen ∧ LpIn X f n p ∧ (∀ b o, p = some ⟨b, o, none⟩ → B ≤ b) := by
  rcases h.2 with ⟨rfl, h0⟩ | ⟨g, cap, cur, rfl, hge, hg, hc, hcm, hs, ht⟩
  · subst h0
    exact ⟨none, 0, rfl, Nat.le_refl _, by simp [maxLen], .inl rfl, fun b o e => by cases e⟩
  · refine ⟨some ⟨g, 0, none⟩, cap, rfl, hc, hcm, .inr ⟨g, 0, rfl, fun i hi => ?_⟩, fun b o e => by cases e; exact hge⟩
    obtain ⟨g0, g1⟩ := lv_get f n i hi
    have get : ∀ j u, (lv f n)[j]? = some u → j < n * 2 → X.cell? ⟨g, j, none⟩ = some u := fun j u hj hlt => by
      have e1 : cur.toList[j]? = some u := by
        rw [← hj, ← ht, List.getElem?_take, if_pos hlt]
      have e2 : cur[j]? = some u := by rw [← e1]; simp
      simp [World.cell?, hg, e2]
    rw [Nat.zero_add]
    exact ⟨get _ _ g0 (by omega), get _ _ g1 (by omega)⟩
end Go.Proofs.YtgnfaemnehmgcaaGreatDoor.Cal
