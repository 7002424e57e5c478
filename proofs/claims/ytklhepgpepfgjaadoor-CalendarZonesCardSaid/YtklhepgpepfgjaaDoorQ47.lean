/- Layer 9 (calendar): the reference: the seconds with a local date (plain), and what one offset gives. -/
import Derived.Test.YtklhepgpepfgjaaDoorQ40
import Derived.Test.YtklhepgpepfgjaaDoorQ27
import Derived.Test.YtklhepgpepfgjaaDoorQ46
namespace Go.Proofs.YtklhepgpepfgjaaDoor.Cal
open Go Go.RowKit
/-- whether an offset is one of the zone, after so many changes -/
def isOffF (o : Int) (g : Nat → Int × Int) (nn : Int) : Nat → Bool
  | 0 => o == nn
  | i + 1 => isOffF o g nn i || (g i).2 == nn
theorem isOffF_iff (o : Int) (g : Nat → Int × Int) (nn : Int) : ∀ i, isOffF o g nn i = true ↔ ∃ k, k ≤ i ∧ offK o g k = nn
  | 0 => by
    unfold isOffF
    rw [beq_iff_eq]
    refine ⟨fun h => ⟨0, Nat.le_refl _, h⟩, fun ⟨k, hk, h⟩ => ?_⟩
    have e : k = 0 := by omega
    subst e
    exact h
  | i + 1 => by
    unfold isOffF
    rw [Bool.or_eq_true, isOffF_iff o g nn i, beq_iff_eq]
    have e : offK o g (i + 1) = (g i).2 := by unfold offK; rw [if_neg (by omega), Nat.add_sub_cancel]
    constructor
    · rintro (⟨k, hk, h⟩ | h)
      · exact ⟨k, by omega, h⟩
      · exact ⟨i + 1, Nat.le_refl _, by rw [e]; exact h⟩
    · rintro ⟨k, hk, h⟩
      by_cases e2 : k = i + 1
      · subst e2; right; rw [← e]; exact h
      · left; exact ⟨k, by omega, h⟩
/-- what the reference takes for one offset -/
def rB (u : Int) (f : Nat → Int × Int) (n : Nat) (lm ls o : Int) (q : Nat) (g : Nat → Int × Int) (nn : Int) : Bool :=
  isOffF o g nn q && (hasB u f n (lm - nn) ls && decide (offAt o g (numS f n (lm - nn) ls) (q + 1) = nn))
def rfound (u : Int) (f : Nat → Int × Int) (n : Nat) (lm ls o : Int) (q : Nat) (g : Nat → Int × Int) : Nat → List Int
  | 0 => []
  | k + 1 => rfound u f n lm ls o q g k ++ (if rB u f n lm ls o q g (1440 - (k : Int)) = true then [numS f n (lm - (1440 - (k : Int))) ls] else [])
theorem rfound_len (u : Int) (f : Nat → Int × Int) (n : Nat) (lm ls o : Int) (q : Nat) (g : Nat → Int × Int) : ∀ k, (rfound u f n lm ls o q g k).length ≤ k
  | 0 => Nat.le_refl _
  | k + 1 => by
    have := rfound_len u f n lm ls o q g k
    rw [rfound, List.length_append]
    split <;> simp <;> omega
theorem mem_rfound (u : Int) (f : Nat → Int × Int) (n : Nat) (lm ls o : Int) (q : Nat) (g : Nat → Int × Int) (x : Int) : ∀ k, x ∈ rfound u f n lm ls o q g k ↔ ∃ j : Nat, j < k ∧ rB u f n lm ls o q g (1440 - (j : Int)) = true ∧ numS f n (lm - (1440 - (j : Int))) ls = x
  | 0 => by simp [rfound]
  | k + 1 => by
    have ih := mem_rfound u f n lm ls o q g x k
    rw [rfound, List.mem_append, ih]
    constructor
    · rintro (⟨j, h1, h2⟩ | h)
      · exact ⟨j, by omega, h2⟩
      · split at h
        · rename_i c1
          simp at h
          exact ⟨k, by omega, c1, h.symm⟩
        · simp at h
    · rintro ⟨j, h1, h2, h3⟩
      by_cases e : j = k
      · subst e; right; rw [if_pos h2]; simp [h3]
      · exact .inl ⟨j, by omega, h2, h3⟩
theorem rB_true {u : Int} {f : Nat → Int × Int} {n : Nat} {lm ls o : Int} {q : Nat} {g : Nat → Int × Int} {nn : Int} (h : rB u f n lm ls o q g nn = true) : isOffF o g nn q = true ∧ hasB u f n (lm - nn) ls = true ∧ offAt o g (numS f n (lm - nn) ls) (q + 1) = nn := by
  unfold rB at h
  simp only [Bool.and_eq_true, decide_eq_true_eq] at h
  exact ⟨h.1, h.2.1, h.2.2⟩
theorem num_mono {b u : Int} {n : Nat} {f : Nat → Int × Int} (ht : TabOk b u n f) {m1 m2 s : Int} (h1 : hasB u f n m1 s = true) (h2 : hasB u f n m2 s = true) (hm : m1 < m2) : numS f n m1 s < numS f n m2 s := by
  obtain ⟨d1, -, -⟩ := has_mom ht h1
  obtain ⟨d2, -, -⟩ := has_mom ht h2
  by_cases e : m1 / 1440 = m2 / 1440
  · unfold numS; rw [e]; omega
  · have := ht.begin_mono (show m1 / 1440 + 1 ≤ m2 / 1440 by omega)
    have := d1.hi; have := d2.lo
    omega
theorem rfound_lt {b u : Int} {n : Nat} {f : Nat → Int × Int} (ht : TabOk b u n f) (lm ls o : Int) (q : Nat) (g : Nat → Int × Int) : ∀ k, (rfound u f n lm ls o q g k).Pairwise (· < ·)
  | 0 => List.Pairwise.nil
  | k + 1 => by
    rw [rfound, List.pairwise_append]
    refine ⟨rfound_lt ht lm ls o q g k, ?_, ?_⟩
    · split
      · exact List.pairwise_singleton _ _
      · exact List.Pairwise.nil
    · intro a ha c hc
      split at hc
      · rename_i c2
        simp at hc
        subst hc
        rw [mem_rfound] at ha
        obtain ⟨j, hj, hb, rfl⟩ := ha
        exact num_mono ht (rB_true hb).2.1 (rB_true c2).2.1 (by omega)
      · simp at hc
theorem rfound_iff {b u : Int} {n : Nat} {f : Nat → Int × Int} (ht : TabOk b u n f) {o : Int} {q : Nat} {g : Nat → Int × Int} (hz : ZoneOk o q g) (lm ls : Int) (x : Int) :
    x ∈ rfound u f n lm ls o q g 2881 ↔ x ∈ zfound u f n lm ls o q g (q + 1) := by
  constructor
  · intro h
    rw [mem_rfound] at h
    obtain ⟨j, hj, hb, rfl⟩ := h
    obtain ⟨-, h2, h3⟩ := rB_true hb
    obtain ⟨hD, h4, h5⟩ := has_mom ht h2
    rw [zfound_iff ht hz lm ls hD, h4, h3, h5]
    exact ⟨by omega, rfl⟩
  · intro h
    obtain ⟨D, hD⟩ := zfound_day ht lm ls h
    have h6 := (zfound_iff ht hz lm ls hD).1 h
    have hm := mom_of ht hD
    rw [mem_zfound] at h
    obtain ⟨k, hk, hb, hi, he⟩ := h
    unfold inB2 at hi
    simp only [Bool.and_eq_true, decide_eq_true_eq] at hi
    rw [he] at hi
    have hin : InK q g k x := ⟨by omega, hi.1, hi.2⟩
    have h7 := hin.off hz
    have h8 := hz.off k (by omega)
    rw [mem_rfound]
    have e1 : (1440 : Int) - ((1440 - offK o g k).toNat : Int) = offK o g k := by omega
    refine ⟨(1440 - offK o g k).toNat, by omega, ?_, ?_⟩
    · rw [e1]
      unfold rB
      simp only [Bool.and_eq_true, decide_eq_true_eq]
      refine ⟨(isOffF_iff o g _ q).2 ⟨k, by omega, rfl⟩, hb, ?_⟩
      have he' : numS f n (lm - offK o g k) ls = x := he
      rw [he', h7]
    · rw [e1]; exact he
theorem sorted_same : ∀ {l1 l2 : List Int}, l1.Pairwise (· < ·) → l2.Pairwise (· < ·) → (∀ x, x ∈ l1 ↔ x ∈ l2) → l1 = l2
  | [], [], _, _, _ => rfl
  | [], b :: l2, _, _, h => by have := (h b).2 (by simp); simp at this
  | a :: l1, [], _, _, h => by have := (h a).1 (by simp); simp at this
  | a :: l1, b :: l2, h1, h2, h => by
    rw [List.pairwise_cons] at h1 h2
    have e : a = b := by
      have ha := (h a).1 (by simp)
      have hb := (h b).2 (by simp)
      simp at ha hb
      rcases ha with e | ha
      · exact e
      · rcases hb with e | hb
        · exact e.symm
        · have := h2.1 a ha; have := h1.1 b hb; omega
    subst e
    congr 1
    refine sorted_same h1.2 h2.2 (fun x => ?_)
    have hx := h x
    simp at hx
    constructor
    · intro hm
      rcases hx.1 (.inr hm) with e | e
      · subst e; have := h1.1 x hm; omega
      · exact e
    · intro hm
      rcases hx.2 (.inr hm) with e | e
      · subst e; have := h2.1 x hm; omega
      · exact e
theorem rfound_same {b u : Int} {n : Nat} {f : Nat → Int × Int} (ht : TabOk b u n f) {o : Int} {q : Nat} {g : Nat → Int × Int} (hz : ZoneOk o q g) (lm ls : Int) : rfound u f n lm ls o q g 2881 = zfound u f n lm ls o q g (q + 1) :=
  sorted_same (rfound_lt ht lm ls o q g 2881) (zfound_lt hz u f n lm ls (q + 1) (Nat.le_refl _)) (rfound_iff ht hz lm ls)
/-- what moved and Seconds say for one offset -/
theorem try_ex {b u : Int} {n : Nat} {f : Nat → Int × Int} (ht : tabE b u n f = 0) {y : Int} {m : Nat} {d : Int} (hd : IsDate y m d) (h mi s nn : Int) (hh : 0 ≤ h ∧ h ≤ 23) (hmi : 0 ≤ mi ∧ mi ≤ 59) (hs : 0 ≤ s ∧ s ≤ 60) (hn : -1440 ≤ nn ∧ nn ≤ 1440) {lm : Int} (hlm : 1440 * dayN y m d + 60 * h + mi = lm) :
    ∃ (Y M D H MI S v e : Int) (ok : Bool), (∀ X, Calls Tryd.prog 60 #[.agg #[.int .i64 y, .int .i64 (m : Int), .int .i64 d, .int .i64 h, .int .i64 mi, .int .i64 s], .int .i64 (-nn)] X fun e' w' => e' = .returned (.tuple #[.agg #[.int .i64 Y, .int .i64 M, .int .i64 D, .int .i64 H, .int .i64 MI, .int .i64 S], .bool ok]) ∧ Below X.heap.size X w') ∧
      (ok = true → ∀ X c p, LpIn X f n p → Calls Tryd.prog 62 #[.agg #[.int .i64 b, .slice p n c, .int .i64 u], .agg #[.int .i64 Y, .int .i64 M, .int .i64 D, .int .i64 H, .int .i64 MI, .int .i64 S]] X fun e' w' => e' = .returned (.tuple #[.int .i64 v, .int .i64 e]) ∧ Below X.heap.size X w') ∧
      (ok = true → e = 0 → hasB u f n (lm - nn) s = true ∧ v = numS f n (lm - nn) s) ∧ (ok = true → e ≠ 0 → hasB u f n (lm - nn) s = false) ∧ (ok = false → hasB u f n (lm - nn) s = false) := by
  have hT := tab_ok ht
  have e1 : 1440 * dayN y m d + (60 * h + mi + -nn) = lm - nn := by omega
  by_cases hc : 41317 ≤ (lm - nn) / 1440 ∧ (lm - nn) / 1440 ≤ 88068
  · obtain ⟨Y, M, D, hci⟩ := civ_exists _ hc
    have hp : 1440 * dayN Y M D + 60 * ((lm - nn) % 1440 / 60) + (lm - nn) % 1440 % 60 = lm - nn := by rw [← hci.n_]; omega
    have hsame := sec_same hT hci.toIsDate.civ.n_bd.1 ((lm - nn) % 1440 / 60) ((lm - nn) % 1440 % 60) s
    rw [hp, show tB ((lm - nn) % 1440 / 60) = true by unfold tB; simp only [Bool.and_eq_true, decide_eq_true_eq]; omega, show miB ((lm - nn) % 1440 % 60) = true by unfold miB; simp only [Bool.and_eq_true, decide_eq_true_eq]; omega, show sB s = true by unfold sB; simp only [Bool.and_eq_true, decide_eq_true_eq]; omega] at hsame
    simp only [Bool.true_and] at hsame
    have hmv := fun X => moved_ok (h2 := (lm - nn) % 1440 / 60) (mi2 := (lm - nn) % 1440 % 60) hd h mi s (-nn) hh hmi (by omega) (by rw [e1]; exact hci) (by rw [e1]) (by rw [e1]) X
    have hns := num_same (D := dayN Y M D) (h := (lm - nn) % 1440 / 60) (mi := (lm - nn) % 1440 % 60) (s := s) f n (by omega) (by omega)
    rw [hp] at hns
    cases hb : secB u f n (dayN Y M D) ((lm - nn) % 1440 / 60) ((lm - nn) % 1440 % 60) s
    · rw [hb] at hsame
      exact ⟨Y, M, D, _, _, s, _, _, true, hmv, fun _ X c p hl => rSeconds_bad ht hci.toIsDate _ _ s hb c p X hl, fun _ h => absurd h (by decide), fun _ _ => hsame.symm, fun h => by cases h⟩
    · rw [hb] at hsame
      exact ⟨Y, M, D, _, _, s, _, _, true, hmv, fun _ X c p hl => rSeconds_good ht hci.toIsDate _ _ s hb c p X hl, fun _ _ => ⟨hsame.symm, hns.symm⟩, fun _ h => absurd rfl h, fun h => by cases h⟩
  · refine ⟨0, 0, 0, 0, 0, 0, 0, 0, false, fun X => moved_no hd h mi s (-nn) hh hmi (by omega) (by rw [e1]; exact hc) X, fun h => (by cases h), fun h => (by cases h), fun h => (by cases h), fun _ => ?_⟩
    unfold hasB dayK
    rw [Bool.eq_false_iff]
    intro hx
    simp only [Bool.and_eq_true, decide_eq_true_eq] at hx
    have := hT.u2
    exact hc ⟨hx.1.1, by omega⟩
end Go.Proofs.YtklhepgpepfgjaaDoor.Cal
