/- Plain facts on nets: what contradiction answers is a contradiction, and none without any of its uses. -/
import Derived.Test.YtlelamjbfjneiaaWq
import Derived.Test.YtlelamjbfjneiaaNx
namespace Go.Proofs.Ytlelamjbfjneiaa.Ct
open Go Go.RowKit
/-- a cycle of causes -/
structure CycIs (l : List Bnd) (n : Nat) (s : Ctr) (K : Nat → Nat) (c : Nat) (T : Nat → Nat) : Prop where
  one : 1 ≤ c
  le : c ≤ n
  per : K c = K 0
  next : ∀ i, K (i + 1) = backK l s (K i)
  mem : ∀ i, s.cause (K i) ∈ useN l.length
  f : ∀ i, (kLim l (s.cause (K i))).f = (K i : Int)
  s_ : ∀ i, (kLim l (s.cause (K i))).s = (K (i + 1) : Int)
  ne : ∀ i, K i ≠ K (i + 1)
  lev : ∀ i, s.lev (K (i + 1)) + (kLim l (s.cause (K i))).m ≤ s.lev (K i)
  str : ∀ i, T (K i) < T (K (i + 1)) → s.lev (K (i + 1)) + (kLim l (s.cause (K i))).m < s.lev (K i)
  inj : ∀ i j, T (K i) = T (K j) → K i = K j
theorem con_cyc {n : Nat} {l : List Bnd} (hn : 1 ≤ n ∧ n ≤ 16) (hl : LimsOk n l) {u : List (Int × Bool)} (h : ConOf n l u) (hu : u ≠ []) : ∃ K c T, CycIs l n (roundsK l n) K c T ∧ u = (List.range c).map fun i => ((((roundsK l n).cause (K i)).1 : Int), ((roundsK l n).cause (K i)).2) := by
  rcases h with ⟨e, -⟩ | ⟨h1, k, c, hk, c1, c2, c3, -, rfl⟩
  · exact absurd e hu
  · have E := edges_of hn.2 hl
    obtain ⟨T, rd, now, G⟩ := ghost_rounds E (n - 1)
    rw [show n - 1 + 1 = n by omega] at G
    have hs : (roundsK l n).settled = false := by have := h1 (n - 1) (by omega); rwa [show n - 1 + 1 = n by omega] at this
    have low := way_low E hn.1 G hs
    have hK : ∀ i, 1 ≤ T (itN (backK l (roundsK l n)) i k) := fun i => by
      rw [hk, ← itN_add]
      exact low (i + n) (by omega)
    refine ⟨fun i => itN (backK l (roundsK l n)) i k, c, T, ⟨c1, c2, c3, fun i => rfl, fun i => (G.cau _ (hK i)).1, fun i => ?_, fun i => ?_, fun i e => ?_, fun i => G.lev _ (hK i), fun i ht => G.strict _ (hK i) ht, fun i j e => G.inj _ _ (hK i) e⟩, rfl⟩
    · have g := G.cau _ (hK i)
      have p := (kLim_pos hl _ (useN_lt _ _ g.1)).2
      rw [← p, g.2.1]
    · have g := G.cau _ (hK i)
      have p := (kLim_pos hl _ (useN_lt _ _ g.1)).1
      rw [← p]; rfl
    · have g := G.cau _ (hK i)
      have ft := E.fit _ g.1
      apply ft.ne
      rw [g.2.1]
      exact e
variable {l : List Bnd} {n : Nat} {s : Ctr} {K : Nat → Nat} {c : Nat} {T : Nat → Nat}
def cycU (s : Ctr) (K : Nat → Nat) (c : Nat) : List (Int × Bool) := (List.range c).map fun i => (((s.cause (K i)).1 : Int), (s.cause (K i)).2)
theorem cycU_len : (cycU s K c).length = c := by simp [cycU]
theorem cycU_at {i : Nat} (hi : i < c) : useAt (cycU s K c) i = (((s.cause (K i)).1 : Int), (s.cause (K i)).2) := by simp [useAt, cycU, hi]
theorem CycIs.lim (_H : CycIs l n s K c T) {i : Nat} (hi : i < c) : useLim l (cycU s K c) i = kLim l (s.cause (K i)) := by
  unfold useLim kLim
  rw [cycU_at hi]
  rfl
theorem CycIs.total (H : CycIs l n s K c T) : ∀ t, t ≤ c → totalS l (cycU s K c) t ≤ s.lev (K 0) - s.lev (K t) ∧ ((∃ i, i < t ∧ T (K i) < T (K (i + 1))) → totalS l (cycU s K c) t < s.lev (K 0) - s.lev (K t))
  | 0, _ => ⟨by show (0 : Int) ≤ _; omega, fun ⟨i, hi, _⟩ => absurd hi (Nat.not_lt_zero i)⟩
  | t + 1, ht => by
    obtain ⟨i1, i2⟩ := H.total t (by omega)
    have hl := H.lev t
    have hm : totalS l (cycU s K c) (t + 1) = totalS l (cycU s K c) t + (kLim l (s.cause (K t))).m := by
      show totalS l (cycU s K c) t + (useLim l (cycU s K c) t).m = _
      rw [H.lim (by omega)]
    rw [hm]
    refine ⟨by omega, fun ⟨i, hi, hT⟩ => ?_⟩
    by_cases e : i = t
    · subst e
      have := H.str i hT
      omega
    · have := i2 ⟨i, by omega, hT⟩
      omega
theorem CycIs.rises (H : CycIs l n s K c T) : ∃ i, i < c ∧ T (K i) < T (K (i + 1)) := by
  by_cases h : ∃ i, i < c ∧ T (K i) < T (K (i + 1))
  · exact h
  · have mono : ∀ t, t ≤ c → 1 ≤ t → T (K t) ≤ T (K 1) := by
      intro t
      induction t with
      | zero => intro _ h; omega
      | succ t ih =>
        intro h1 _
        by_cases e : t = 0
        · subst e; exact Nat.le_refl _
        · have a := ih (by omega) (by omega)
          have b : ¬ T (K t) < T (K (t + 1)) := fun hh => h ⟨t, by omega, hh⟩
          omega
    have a := mono c (Nat.le_refl c) H.one
    rw [H.per] at a
    have b : ¬ T (K 0) < T (K (0 + 1)) := fun hh => h ⟨0, H.one, hh⟩
    have b' : ¬ T (K 0) < T (K 1) := b
    exact absurd (H.inj 0 1 (by omega)) (H.ne 0)
theorem CycIs.idx (H : CycIs l n s K c T) {i : Nat} (hi : i < c) : (i + 1) % c < c ∧ K ((i + 1) % c) = K (i + 1) := by
  have h1 := H.one
  by_cases e : i + 1 < c
  · rw [Nat.mod_eq_of_lt e]; exact ⟨e, rfl⟩
  · have e2 : i + 1 = c := by omega
    rw [e2, Nat.mod_self]
    exact ⟨by omega, H.per.symm⟩
theorem CycIs.cut (H : CycIs l n s K c T) : cutB l (cycU s K c) = true := by
  have i1 : ∀ j, j < (cycU s K c).length → inB l (cycU s K c) j = true := fun j hj => by
    rw [cycU_len] at hj
    have := useN_lt _ _ (H.mem j)
    unfold inB
    rw [cycU_at hj]
    simp only [Bool.and_eq_true, decide_eq_true_eq]
    omega
  have i2 : ∀ j, j < (cycU s K c).length → linkB l (cycU s K c) j = true := fun j hj => by
    rw [cycU_len] at hj
    obtain ⟨x1, x2⟩ := H.idx hj
    unfold linkB
    rw [cycU_len, H.lim hj, H.lim x1, H.s_ j, H.f, x2]
    simp
  rw [cut_all i1 i2, cycU_len, decide_eq_true_eq]
  have := (H.total c (Nat.le_refl c)).2 H.rises
  rw [H.per] at this
  omega
/-- a list without one of its elements -/
def rmU (u : List (Int × Bool)) (i : Nat) : List (Int × Bool) := u.take i ++ u.drop (i + 1)
theorem rmU_len {u : List (Int × Bool)} {i : Nat} (hi : i < u.length) : (rmU u i).length = u.length - 1 := by simp [rmU]; omega
theorem rmU_at {u : List (Int × Bool)} {i : Nat} (hi : i < u.length) (j : Nat) : useAt (rmU u i) j = if j < i then useAt u j else useAt u (j + 1) := by
  unfold useAt rmU
  by_cases h : j < i
  · rw [if_pos h, List.getElem?_append_left (by simp; omega), List.getElem?_take_of_lt h]
  · rw [if_neg h, List.getElem?_append_right (by simp; omega), List.getElem?_drop]
    have : i + 1 + (j - (u.take i).length) = j + 1 := by rw [List.length_take]; omega
    rw [this]
theorem CycIs.less (H : CycIs l n s K c T) {i : Nat} (hi : i < c) (hc : 1 < c) : cutB l (rmU (cycU s K c) i) = false := by
  have hi' : i < (cycU s K c).length := by rw [cycU_len]; exact hi
  have hln : (rmU (cycU s K c) i).length = c - 1 := by rw [rmU_len hi', cycU_len]
  have hne := H.ne i
  -- the element ahead of the one left out, and the one behind it
  have at_ : ∀ j, useLim l (rmU (cycU s K c) i) j = if j < i then useLim l (cycU s K c) j else useLim l (cycU s K c) (j + 1) := fun j => by
    unfold useLim
    rw [rmU_at hi']
    split <;> rfl
  by_cases h0 : i = 0
  · subst h0
    refine cut_link (i := c - 2) (by omega) ?_
    unfold linkB
    rw [hln, show c - 2 + 1 = c - 1 by omega, Nat.mod_self, at_, at_, if_neg (by omega), if_neg (by omega), show c - 2 + 1 = c - 1 by omega, H.lim (by omega), H.lim (by omega), H.s_, H.f, show c - 1 + 1 = c by omega, H.per]
    simp only [decide_eq_false_iff_not]
    intro e
    exact hne (by have : K 0 = K (0 + 1) := by exact_mod_cast e
                  exact this)
  · refine cut_link (i := i - 1) (by omega) ?_
    unfold linkB
    rw [hln, show i - 1 + 1 = i by omega, at_, if_pos (by omega), H.lim (by omega), H.s_, show i - 1 + 1 = i by omega]
    simp only [decide_eq_false_iff_not]
    by_cases e : i < c - 1
    · rw [Nat.mod_eq_of_lt e, at_, if_neg (by omega), H.lim (by omega), H.f]
      intro e2
      exact hne (by exact_mod_cast e2)
    · have e1 : i = c - 1 := by omega
      rw [show i % (c - 1) = 0 by rw [e1, Nat.mod_self], at_, if_pos (by omega), H.lim (by omega), H.f, ← H.per, show c = i + 1 by omega]
      intro e2
      exact hne (by exact_mod_cast e2)
/-- what Contradict answers where there is no matrix -/
theorem con_all {n : Nat} {l : List Bnd} (hn : 1 ≤ n ∧ n ≤ 16) (hl : LimsOk n l) {u : List (Int × Bool)} (h : ConOf n l u) (hu : u ≠ []) : u.length ≤ 16 ∧ cutB l u = true ∧ ∀ i, i < u.length → 1 < u.length → cutB l (rmU u i) = false := by
  obtain ⟨K, c, T, H, rfl⟩ := con_cyc hn hl h hu
  have e : (List.range c).map (fun i => ((((roundsK l n).cause (K i)).1 : Int), ((roundsK l n).cause (K i)).2)) = cycU (roundsK l n) K c := rfl
  rw [e]
  refine ⟨by rw [cycU_len]; have := H.le; omega, H.cut, fun i hi hc => ?_⟩
  rw [cycU_len] at hi hc
  exact H.less hi hc
theorem con_iff {n : Nat} {l : List Bnd} (hn : 1 ≤ n ∧ n ≤ 16) (hl : LimsOk n l) {u : List (Int × Bool)} (h : ConOf n l u) : u = [] ↔ (narrowS n l).2 = true := by
  rw [narrow_iff hn hl]
  rcases h with ⟨e, h⟩ | ⟨h1, k, c, hk, c1, c2, c3, -, e⟩
  · exact ⟨fun _ => h, fun _ => e⟩
  · refine ⟨fun h => ?_, fun ⟨t, ht, hs⟩ => ?_⟩
    · rw [e] at h
      have := congrArg List.length h
      rw [cycK_len] at this
      simp at this; omega
    · rw [h1 t ht] at hs; cases hs
end Go.Proofs.Ytlelamjbfjneiaa.Ct
