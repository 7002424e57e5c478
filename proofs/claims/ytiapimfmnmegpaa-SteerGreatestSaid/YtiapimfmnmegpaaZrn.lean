/- Stage 6 (steer): plain facts: what a round of the chart does. -/
import Derived.Test.YtiapimfmnmegpaaZhe
namespace Go.Proofs.Ytiapimfmnmegpaa.St
open Go Go.RowKit Go.Shelf
/-- two laws are meant for the same states -/
def SameM (N : Nat) (f g : Nat → Int) : Prop := ∀ k, k < N → (f k < 1000 ↔ g k < 1000)
theorem SameM.refl (N : Nat) (f : Nat → Int) : SameM N f f := fun _ _ => Iff.rfl
theorem SameM.symm {N : Nat} {f g : Nat → Int} (h : SameM N f g) : SameM N g f := fun k hk => (h k hk).symm
theorem SameM.trans {N : Nat} {f g q : Nat → Int} (h : SameM N f g) (h2 : SameM N g q) : SameM N f q := fun k hk => (h k hk).trans (h2 k hk)
theorem mea_same {l r s z : Int} (h : PlanOk l r s z) {N : Nat} (hN : sizP l r = (N : Int)) {f g : Nat → Int} (hs : SameM N f g) (e q : Int) : meaP l r f e q = meaP l r g e q := by
  unfold meaP
  cases hh : hasP l r e q
  · rw [at_not hh, at_not hh]
  · rw [at_has hh, at_has hh]
    have := idx_bd h hh
    have := hs (idxP l r e q).toNat (by omega)
    rw [Bool.eq_iff_iff]
    simpa using this
theorem hld_same {l r s z : Int} (h : PlanOk l r s z) {N : Nat} (hN : sizP l r = (N : Int)) {f g : Nat → Int} (hs : SameM N f g) (e q : Int) (D : Nat) : hldP l r z f e q D = hldP l r z g e q D := by
  unfold hldP thrL thrP
  simp only [mea_same h hN hs]
theorem hel_same {l r s z : Int} (h : PlanOk l r s z) {N : Nat} (hN : sizP l r = (N : Int)) {f g : Nat → Int} (hs : SameM N f g) (e q : Int) (D V : Nat) : helL l r s z f e q D V = helL l r s z g e q D V := by
  unfold helL
  simp only [hld_same h hN hs]
/-- the new rate that is nearest to 0 -/
def bestQ (l r s z : Int) (f : Nat → Int) (e g : Int) (D V : Nat) : Int × Int × Bool := bestS (fun k : Fin V => (k.1 : Int) - r) (fun k => (((k.1 : Int) - r).natAbs : Int)) (helL l r s z f e g D V)
theorem best_same {l r s z : Int} (h : PlanOk l r s z) {N : Nat} (hN : sizP l r = (N : Int)) {f g : Nat → Int} (hs : SameM N f g) (e q : Int) (D V : Nat) : bestQ l r s z f e q D V = bestQ l r s z g e q D V := by
  unfold bestQ
  rw [hel_same h hN hs]
theorem bestS_is {α : Type} (v c : α → Int) : ∀ l, (bestS v c l).2.2 = !l.isEmpty := by
  have h : ∀ (l : List α) s, (l.foldl (bstep v c) s).2.2 = (s.2.2 || !l.isEmpty) := by
    intro l
    induction l with
    | nil => intro s; simp
    | cons x l ih =>
      intro s
      rw [List.foldl_cons, ih]
      have : (bstep v c s x).2.2 = true := by
        unfold bstep
        split
        · rfl
        · rename_i hn
          cases hs : s.2.2
          · exact absurd (.inl hs) hn
          · rfl
      rw [this]
      simp
  intro l
  rw [bestS, h]
  simp
/-- what has been found is one of the elements, none costs less, and none before it costs as little -/
theorem bestS_mem {α : Type} (v c : α → Int) (l : List α) (hne : l ≠ []) : ∃ a x b, l = a ++ x :: b ∧ bestS v c l = (v x, c x, true) ∧ (∀ y ∈ a, c x < c y) ∧ ∀ y ∈ b, c x ≤ c y := by
  have h : ∀ k : List α, k ≠ [] → ∃ a x b, k.reverse = a ++ x :: b ∧ bestS v c k.reverse = (v x, c x, true) ∧ (∀ y ∈ a, c x < c y) ∧ ∀ y ∈ b, c x ≤ c y := by
    intro k
    induction k with
    | nil => intro h; exact absurd rfl h
    | cons y k ih =>
      intro _
      rw [List.reverse_cons]
      by_cases hk : k = []
      · subst hk
        exact ⟨[], y, [], rfl, by simp [bestS, bstep], by simp, by simp⟩
      · obtain ⟨a, x, b, h1, h2, h3, h4⟩ := ih hk
        rw [bestS_snoc, h2]
        by_cases hc : c y < c x
        · refine ⟨a ++ x :: b, y, [], by rw [h1], by unfold bstep; rw [if_pos (.inr hc)], fun w hw => ?_, by simp⟩
          rcases List.mem_append.1 hw with hw | hw
          · have := h3 w hw; omega
          · rcases List.mem_cons.1 hw with rfl | hw
            · exact hc
            · have := h4 w hw; omega
        · refine ⟨a, x, b ++ [y], by rw [h1]; simp, by unfold bstep; rw [if_neg (by rintro (h | h); cases h; exact hc h)], h3, fun w hw => ?_⟩
          rcases List.mem_append.1 hw with hw | hw
          · exact h4 w hw
          · rw [List.mem_singleton] at hw
            subst hw
            omega
  have := h l.reverse (by simpa using hne)
  simpa using this
theorem hel_mem {l r s z : Int} {f : Nat → Int} {e g : Int} {D V : Nat} {k : Fin V} : k ∈ helL l r s z f e g D V ↔ allP r s g ((k.1 : Int) - r) = true ∧ hldP l r z f e ((k.1 : Int) - r) D = true := by
  unfold helL
  rw [List.mem_filter, List.mem_filter, fl_mem]
  simp [k.2]
theorem bestQ_true {l r s z : Int} {f : Nat → Int} {e g : Int} {D V : Nat} (h : (bestQ l r s z f e g D V).2.2 = true) :
    allP r s g (bestQ l r s z f e g D V).1 = true ∧ hldP l r z f e (bestQ l r s z f e g D V).1 D = true := by
  unfold bestQ at h ⊢
  have hne : helL l r s z f e g D V ≠ [] := fun h0 => by
    rw [bestS_is, h0] at h
    cases h
  obtain ⟨a, x, b, h1, h2, -, -⟩ := bestS_mem (fun k : Fin V => (k.1 : Int) - r) (fun k => (((k.1 : Int) - r).natAbs : Int)) _ hne
  rw [h2]
  exact hel_mem.1 (by rw [h1]; simp)
theorem bestQ_false {l r s z : Int} {f : Nat → Int} {e g : Int} {D V : Nat} (hV : 2 * r + 1 = (V : Int)) (h : (bestQ l r s z f e g D V).2.2 = false) (q : Int) (hq : allP r s g q = true) : hldP l r z f e q D = false := by
  unfold bestQ at h
  rw [bestS_is] at h
  have h0 : helL l r s z f e g D V = [] := by simpa using h
  have h1 := hq
  unfold allP at h1
  simp only [Bool.and_eq_true, decide_eq_true_eq] at h1
  cases hh : hldP l r z f e q D
  · rfl
  · have : (⟨(q + r).toNat, by omega⟩ : Fin V) ∈ helL l r s z f e g D V := hel_mem.2 (by
      show allP r s g (((q + r).toNat : Int) - r) = true ∧ hldP l r z f e (((q + r).toNat : Int) - r) D = true
      rw [show (((q + r).toNat : Nat) : Int) - r = q by omega]
      exact ⟨hq, hh⟩)
    rw [h0] at this
    cases this
theorem all_bd {r s g q : Int} (h : allP r s g q = true) : -r ≤ q ∧ q ≤ r := by
  unfold allP at h
  simp only [Bool.and_eq_true, decide_eq_true_eq] at h
  omega
/-- a state of number k: what a round gives it -/
def bsK (l r s z : Int) (f : Nat → Int) (D V k : Nat) : Int × Int × Bool := bestQ l r s z f (stE l r k) (stQ r k) D V
def newV (l r s z : Int) (f : Nat → Int) (D V k : Nat) : Int := if (bsK l r s z f D V k).2.2 = true then (bsK l r s z f D V k).1 else f k
def midV (l r s z : Int) (f : Nat → Int) (D V : Nat) {N : Nat} (pre : List (Fin N)) (k : Nat) : Int := if pre.any (fun d => d.1 == k) = true then newV l r s z f D V k else f k
def lostL (l r s z : Int) (f : Nat → Int) (D V : Nat) {N : Nat} (pre : List (Fin N)) : List Int := (pre.filter fun d => !(bsK l r s z f D V d.1).2.2).map fun d => (d.1 : Int)
theorem lost_snoc (l r s z : Int) (f : Nat → Int) (D V : Nat) {N : Nat} (pre : List (Fin N)) (d : Fin N) : lostL l r s z f D V (pre ++ [d]) = lostL l r s z f D V pre ++ (if (bsK l r s z f D V d.1).2.2 = true then [] else [(d.1 : Int)]) := by
  unfold lostL
  rw [List.filter_append, List.map_append]
  congr 1
  cases h : (bsK l r s z f D V d.1).2.2 <;> simp [h]
theorem lost_len (l r s z : Int) (f : Nat → Int) (D V : Nat) {N : Nat} (pre : List (Fin N)) : (lostL l r s z f D V pre).length ≤ pre.length := by
  unfold lostL
  rw [List.length_map]
  exact List.length_filter_le _ _
theorem new_lt {l r s z : Int} (h : PlanOk l r s z) {f : Nat → Int} {D V k : Nat} (hk : f k < 1000) : newV l r s z f D V k < 1000 := by
  unfold newV
  split
  · rename_i hb
    have := all_bd (bestQ_true hb).1
    have := h.r2
    unfold bsK
    omega
  · exact hk
theorem mid_same {l r s z : Int} (h : PlanOk l r s z) {f : Nat → Int} {D V N : Nat} {pre : List (Fin N)} (hp : ∀ d ∈ pre, f d.1 < 1000) : SameM N f (midV l r s z f D V pre) := fun k hk => by
  unfold midV
  split
  · rename_i ha
    obtain ⟨d, hd, he⟩ := List.any_eq_true.1 ha
    have he : d.1 = k := by simpa using he
    subst he
    exact ⟨fun _ => new_lt h (hp d hd), fun _ => hp d hd⟩
  · exact Iff.rfl
theorem mid_nil (l r s z : Int) (f : Nat → Int) (D V N : Nat) (k : Nat) : midV l r s z f D V ([] : List (Fin N)) k = f k := by simp [midV]
theorem mid_put (l r s z : Int) (f : Nat → Int) (D V : Nat) {N : Nat} (pre : List (Fin N)) (d : Fin N) (k : Nat) : midV l r s z f D V (pre ++ [d]) k = if k = d.1 then newV l r s z f D V d.1 else midV l r s z f D V pre k := by
  unfold midV
  rw [List.any_append]
  by_cases e : k = d.1
  · subst e; simp
  · have : ([d].any fun d => d.1 == k) = false := by simp; omega
    rw [this, Bool.or_false, if_neg e]
/-- the states for which a law is meant -/
def meaL (f : Nat → Int) (N : Nat) : List (Fin N) := (fl N N (Nat.le_refl _)).filter fun k => decide (f k.1 < 1000)
theorem meaL_mem {f : Nat → Int} {N : Nat} {k : Fin N} : k ∈ meaL f N ↔ f k.1 < 1000 := by
  unfold meaL
  rw [List.mem_filter, fl_mem]
  simp [k.2]
/-- the numbers behind a round -/
def renF (l r s z : Int) (f : Nat → Int) (D V : Nat) (k : Nat) : Int := if f k < 1000 then newV l r s z f D V k else f k
def renL (l r s z : Int) (f : Nat → Int) (D V N : Nat) : List Int := lostL l r s z f D V (meaL f N)
theorem mid_all (l r s z : Int) (f : Nat → Int) (D V N : Nat) (k : Nat) (hk : k < N) : midV l r s z f D V (meaL f N) k = renF l r s z f D V k := by
  unfold midV renF
  by_cases e : f k < 1000
  · rw [if_pos e, if_pos (List.any_eq_true.2 ⟨⟨k, hk⟩, meaL_mem.2 e, by simp⟩)]
  · rw [if_neg e, if_neg]
    intro ha
    obtain ⟨d, hd, he⟩ := List.any_eq_true.1 ha
    have he : d.1 = k := by simpa using he
    subst he
    exact e (meaL_mem.1 hd)
end Go.Proofs.Ytiapimfmnmegpaa.St
