/- Plain facts on nets: the narrowest matrix: short walks, the triangle, columns are solutions. -/
import Derived.Test.YtlelamjbfjneiaaWm
namespace Go.Proofs.Ytlelamjbfjneiaa.Ct
open Go Go.RowKit
variable {W : Nat → Nat → Int} {n V : Nat} {D : Nat → Nat → Nat → Int}
/-- each walk has one that is short and not heavier -/
theorem Rnds.short (R : Rnds W n V D) (v : Nat) (hv : v ≤ V) : ∀ (e : Nat) (f : Nat → Nat), IsW W n v f e → ∃ g d, d ≤ v + 2 ∧ IsW W n v g d ∧ g 0 = f 0 ∧ g d = f e ∧ wtW W g d ≤ wtW W f e := by
  intro e
  induction e using Nat.strongRecOn with
  | _ e ihe =>
    intro f h
    by_cases hs : e ≤ v + 2
    · exact ⟨f, e, hs, h, rfl, rfl, Int.le_refl _⟩
    · obtain ⟨i, j, hij, hj, heq⟩ := pigeon v (fun i => f (i + 1)) (fun i hi => h.mid (i + 1) (by omega) (by omega))
      have hcl := R.le_walk v hv (fun t => f (i + 1 + t)) (j - i) (by have := R.size; omega) (h.tail (by omega) (by omega))
      rw [show i + 1 + (j - i) = j + 1 by omega, Nat.add_zero, ← heq] at hcl
      have hdg := R.diag v hv (f (i + 1)) (h.lt (i + 1) (by omega))
      obtain ⟨F, hF⟩ : ∃ F : Nat → Nat, ∀ t, F t = if t ≤ i + 1 then f t else f (t + (j - i)) := ⟨_, fun _ => rfl⟩
      have c1 : ∀ t, t ≤ i + 1 → F t = f t := fun t ht => by rw [hF, if_pos ht]
      have c2 : ∀ t, F (i + 1 + t) = f (j + 1 + t) := fun t => by
        rw [hF]
        by_cases ht : t = 0
        · subst ht; rw [if_pos (by omega)]; exact heq
        · rw [if_neg (by omega), show i + 1 + t + (j - i) = j + 1 + t by omega]
      have k : IsW W n v F (e - (j - i)) := by
        refine ⟨by omega, fun t h1 h2 => ?_, fun t ht => ?_, fun t ht => ?_⟩
        · by_cases h3 : t ≤ i + 1
          · rw [c1 t h3]; exact h.mid t h1 (by omega)
          · rw [show t = i + 1 + (t - (i + 1)) by omega, c2]; exact h.mid _ (by omega) (by omega)
        · by_cases h3 : t ≤ i + 1
          · rw [c1 t h3]; exact h.lt t (by omega)
          · rw [show t = i + 1 + (t - (i + 1)) by omega, c2]; exact h.lt _ (by omega)
        · by_cases h3 : t < i + 1
          · rw [c1 t (by omega), c1 (t + 1) (by omega)]; exact h.fin t (by omega)
          · rw [show t = i + 1 + (t - (i + 1)) by omega, c2, show i + 1 + (t - (i + 1)) + 1 = i + 1 + (t - (i + 1) + 1) by omega, c2]
            exact h.fin (j + 1 + (t - (i + 1))) (by omega)
      obtain ⟨g, d, hd, hg, g0, gd, gw⟩ := ihe (e - (j - i)) (by omega) F k
      refine ⟨g, d, hd, hg, by rw [g0, c1 0 (by omega)], ?_, ?_⟩
      · rw [gd, show e - (j - i) = i + 1 + (e - (j + 1)) by omega, c2, show j + 1 + (e - (j + 1)) = e by omega]
      · have s1 := wtW_add W f (i + 1) (e - (i + 1))
        have s2 := wtW_add W (fun t => f (i + 1 + t)) (j - i) (e - (j + 1))
        have s3 := wtW_add W F (i + 1) (e - (j + 1))
        rw [show i + 1 + (e - (i + 1)) = e by omega] at s1
        rw [show j - i + (e - (j + 1)) = e - (i + 1) by omega] at s2
        rw [show i + 1 + (e - (j + 1)) = e - (j - i) by omega, wtW_congr (g := f) c1, wtW_congr (g := fun t => f (j + 1 + t)) (fun t _ => c2 t)] at s3
        rw [wtW_congr (f := fun t => f (i + 1 + (j - i + t))) (g := fun t => f (j + 1 + t)) (fun t _ => by rw [show i + 1 + (j - i + t) = j + 1 + t by omega])] at s2
        omega
/-- an entry is at most each walk, and a number that is no limit is small -/
theorem Rnds.le_any (R : Rnds W n V D) {v : Nat} (hv : v ≤ V) {e : Nat} {f : Nat → Nat} (h : IsW W n v f e) : D v (f 0) (f e) ≤ wtW W f e ∧ D v (f 0) (f e) ≤ 18000000000000000 := by
  obtain ⟨g, d, hd, hg, g0, gd, gw⟩ := R.short v hv e f h
  have a := R.le_walk v hv g d (by have := R.size; omega) hg
  have b := R.wt_hi (v := v) (f := g) (e := d) hg.lt hg.fin
  rw [g0, gd] at a
  have := R.size
  omega
theorem Rnds.high (R : Rnds W n V D) {v : Nat} (hv : v ≤ V) {a b : Nat} (ha : a < n) (hb : b < n) (h : D v a b < openI) : D v a b ≤ 18000000000000000 := by
  obtain ⟨f, e, k, h0, he, -⟩ := R.walk v hv a b ha hb h
  have := (R.le_any hv k).2
  rwa [h0, he] at this
/-- two walks, one behind the other -/
theorem IsW.join {v k : Nat} {f g : Nat → Nat} {e d : Nat} (hf : IsW W n v f e) (hg : IsW W n v g d) (hk : f e = k) (hk' : g 0 = k) (hkv : k < v) : ∃ F, IsW W n v F (e + d) ∧ F 0 = f 0 ∧ F (e + d) = g d ∧ wtW W F (e + d) = wtW W f e + wtW W g d := by
  have e1 := hf.one
  have d1 := hg.one
  obtain ⟨F, hF⟩ : ∃ F : Nat → Nat, ∀ t, F t = if t ≤ e then f t else g (t - e) := ⟨_, fun _ => rfl⟩
  have c1 : ∀ i, i ≤ e → F i = f i := fun i hi => by rw [hF, if_pos hi]
  have c2 : ∀ i, F (e + i) = g i := fun i => by
    rw [hF]
    by_cases hi : i = 0
    · subst hi; rw [if_pos (by omega), Nat.add_zero, hk, hk']
    · rw [if_neg (by omega), show e + i - e = i by omega]
  refine ⟨F, ⟨by omega, fun i h1 h2 => ?_, fun i hi => ?_, fun i hi => ?_⟩, c1 0 (by omega), c2 d, ?_⟩
  · by_cases hi : i < e
    · rw [c1 i (by omega)]; exact hf.mid i h1 hi
    · by_cases hi2 : i = e
      · subst hi2; rw [c1 i (Nat.le_refl _), hk]; exact hkv
      · rw [show i = e + (i - e) by omega, c2]; exact hg.mid (i - e) (by omega) (by omega)
  · by_cases hi2 : i ≤ e
    · rw [c1 i hi2]; exact hf.lt i hi2
    · rw [show i = e + (i - e) by omega, c2]; exact hg.lt (i - e) (by omega)
  · by_cases hi2 : i < e
    · rw [c1 i (by omega), c1 (i + 1) (by omega)]; exact hf.fin i hi2
    · rw [show i = e + (i - e) by omega, c2, show e + (i - e) + 1 = e + (i - e + 1) by omega, c2]; exact hg.fin (i - e) (by omega)
  · rw [wtW_add, wtW_congr (g := f) c1, wtW_congr (g := g) (fun i _ => c2 i)]
/-- the triangle -/
theorem Rnds.tri (R : Rnds W n n D) {a k b : Nat} (ha : a < n) (hk : k < n) (hb : b < n) (h1 : D n a k < openI) (h2 : D n k b < openI) : D n a b ≤ D n a k + D n k b ∧ D n a b < openI := by
  obtain ⟨f, e, kf, f0, fe, fw⟩ := R.walk n (Nat.le_refl _) a k ha hk h1
  obtain ⟨g, d, kg, g0, gd, gw⟩ := R.walk n (Nat.le_refl _) k b hk hb h2
  obtain ⟨F, kF, F0, Fe, Fw⟩ := kf.join kg fe g0 hk
  have := R.le_any (Nat.le_refl n) kF
  have hop : openI = 100000000000000000 := rfl
  rw [F0, Fe, Fw, f0, gd, fw, gw] at this
  omega
/-- from one round to the next entries do not grow -/
theorem Rnds.le_zero (R : Rnds W n V D) {a b : Nat} (ha : a < n) (hb : b < n) : ∀ v, v ≤ V → D v a b ≤ W a b
  | 0, _ => by rw [R.zero a b ha hb]; exact Int.le_refl _
  | v + 1, hv => by
    have := R.le_step (show v < V by omega) ha hb
    have := R.le_zero ha hb v (by omega)
    omega
/-- the first matrix says what the uses say, and nothing more -/
theorem fold_le {n : Nat} : ∀ (l : List Lim) {M : List (List Int)}, First n M → (∀ x ∈ l, LimFit n x) → (∀ a b, a < n → b < n → getM (l.foldl useM M) a b ≤ getM M a b) ∧ ∀ x ∈ l, getM (l.foldl useM M) x.f.toNat x.s.toNat ≤ x.m
  | [], _, _, _ => ⟨fun _ _ _ _ => Int.le_refl _, fun x hx => by cases hx⟩
  | y :: l, M, F, h => by
    have hy := h y (by simp)
    obtain ⟨k1, k2⟩ := fold_le l (F.use hy) (fun z hz => h z (by simp [hz]))
    have hg : ∀ a b, getM (useM M y) a b = if a = y.f.toNat ∧ b = y.s.toNat then min (getM M y.f.toNat y.s.toNat) y.m else getM M a b := fun a b => getM_put F.sh hy.f hy.s _ a b
    refine ⟨fun a b ha hb => ?_, fun x hx => ?_⟩
    · have := k1 a b ha hb
      rw [hg] at this
      show getM (l.foldl useM (useM M y)) a b ≤ _
      split at this
      · rename_i e; rw [e.1, e.2] at this ⊢; omega
      · exact this
    · rcases List.mem_cons.1 hx with rfl | hx
      · have := k1 x.f.toNat x.s.toNat hy.f hy.s
        rw [hg, if_pos ⟨rfl, rfl⟩] at this
        show getM (l.foldl useM (useM M x)) _ _ ≤ _
        omega
      · exact k2 x hx
theorem fold_from {n : Nat} : ∀ (l : List Lim) {M : List (List Int)}, First n M → (∀ x ∈ l, LimFit n x) → ∀ a b, getM (l.foldl useM M) a b = getM M a b ∨ ∃ x ∈ l, a = x.f.toNat ∧ b = x.s.toNat ∧ getM (l.foldl useM M) a b = x.m
  | [], _, _, _, _, _ => .inl rfl
  | y :: l, M, F, h, a, b => by
    have hy := h y (by simp)
    have hg : ∀ a b, getM (useM M y) a b = if a = y.f.toNat ∧ b = y.s.toNat then min (getM M y.f.toNat y.s.toNat) y.m else getM M a b := fun a b => getM_put F.sh hy.f hy.s _ a b
    rcases fold_from l (F.use hy) (fun z hz => h z (by simp [hz])) a b with e | ⟨x, hx, e1, e2, e3⟩
    · rw [hg] at e
      by_cases c : a = y.f.toNat ∧ b = y.s.toNat
      · rw [if_pos c] at e
        by_cases hm : getM M y.f.toNat y.s.toNat ≤ y.m
        · rw [Int.min_eq_left hm] at e
          exact .inl (by show getM (l.foldl useM (useM M y)) a b = _; rw [e, c.1, c.2])
        · rw [Int.min_eq_right (by omega)] at e
          exact .inr ⟨y, by simp, c.1, c.2, e⟩
      · rw [if_neg c] at e
        exact .inl e
    · exact .inr ⟨x, by simp [hx], e1, e2, e3⟩
end Go.Proofs.Ytlelamjbfjneiaa.Ct
