/- Plain facts on nets: rounds over all clocks between (the matrix's rounds), walks, and how low a number can get while no clock is less than itself. -/
import Derived.Test.YtlelamjbfjneiaaNw
namespace Go.Proofs.Ytlelamjbfjneiaa.Ct
open Go Go.RowKit
/-- the weight of the first e steps of a walk -/
def wtW (W : Nat → Nat → Int) (f : Nat → Nat) : Nat → Int
  | 0 => 0
  | e + 1 => wtW W f e + W (f e) (f (e + 1))
theorem wtW_add (W : Nat → Nat → Int) (f : Nat → Nat) (i : Nat) : ∀ m, wtW W f (i + m) = wtW W f i + wtW W (fun t => f (i + t)) m
  | 0 => by simp [wtW]
  | m + 1 => by
    show wtW W f (i + m) + W (f (i + m)) (f (i + m + 1)) = wtW W f i + (wtW W (fun t => f (i + t)) m + W (f (i + m)) (f (i + (m + 1))))
    rw [wtW_add W f i m, Int.add_assoc, Nat.add_assoc]
theorem wtW_congr {W : Nat → Nat → Int} {f g : Nat → Nat} : ∀ {e : Nat}, (∀ i, i ≤ e → f i = g i) → wtW W f e = wtW W g e
  | 0, _ => rfl
  | e + 1, h => by
    show wtW W f e + W (f e) (f (e + 1)) = wtW W g e + W (g e) (g (e + 1))
    rw [wtW_congr (fun i hi => h i (by omega)), h e (by omega), h (e + 1) (by omega)]
/-- a walk of e steps whose clocks between are below v -/
structure IsW (W : Nat → Nat → Int) (n v : Nat) (f : Nat → Nat) (e : Nat) : Prop where
  one : 1 ≤ e
  mid : ∀ i, 1 ≤ i → i < e → f i < v
  lt : ∀ i, i ≤ e → f i < n
  fin : ∀ i, i < e → W (f i) (f (i + 1)) < openI
theorem IsW.head {W : Nat → Nat → Int} {n v : Nat} {f : Nat → Nat} {e : Nat} (h : IsW W n v f e) {i : Nat} (h1 : 1 ≤ i) (h2 : i ≤ e) : IsW W n v f i :=
  ⟨h1, fun j hj hk => h.mid j hj (by omega), fun j hj => h.lt j (by omega), fun j hj => h.fin j (by omega)⟩
theorem IsW.tail {W : Nat → Nat → Int} {n v : Nat} {f : Nat → Nat} {e : Nat} (h : IsW W n v f e) {i m : Nat} (h1 : 1 ≤ m) (h2 : i + m ≤ e) : IsW W n v (fun t => f (i + t)) m :=
  ⟨h1, fun j hj hk => h.mid (i + j) (by omega) (by omega), fun j hj => h.lt (i + j) (by omega), fun j hj => h.fin (i + j) (by omega)⟩
/-- the rounds -/
structure Rnds (W : Nat → Nat → Int) (n V : Nat) (D : Nat → Nat → Nat → Int) : Prop where
  zero : ∀ a b, a < n → b < n → D 0 a b = W a b
  step : ∀ v, v < V → ∀ a b, a < n → b < n → D (v + 1) a b = if D v a v < openI ∧ D v v b < openI then min (D v a b) (D v a v + D v v b) else D v a b
  diag : ∀ v, v ≤ V → ∀ a, a < n → 0 ≤ D v a a
  lo : ∀ a b, a < n → b < n → -1000000000000000 ≤ W a b
  hi : ∀ a b, a < n → b < n → W a b < openI → W a b ≤ 1000000000000000
  size : V ≤ n ∧ n ≤ 16
variable {W : Nat → Nat → Int} {n V : Nat} {D : Nat → Nat → Nat → Int}
theorem Rnds.wt_hi (R : Rnds W n V D) {v : Nat} {f : Nat → Nat} : ∀ {e : Nat}, (∀ i, i ≤ e → f i < n) → (∀ i, i < e → W (f i) (f (i + 1)) < openI) → wtW W f e ≤ 1000000000000000 * (e : Int)
  | 0, _, _ => by simp [wtW]
  | e + 1, h1, h2 => by
    have a := R.wt_hi (v := v) (f := f) (e := e) (fun i hi => h1 i (by omega)) (fun i hi => h2 i (by omega))
    have b := R.hi (f e) (f (e + 1)) (h1 e (by omega)) (h1 (e + 1) (by omega)) (h2 e (by omega))
    show wtW W f e + W (f e) (f (e + 1)) ≤ _
    push_cast
    omega
theorem Rnds.wt_lo (R : Rnds W n V D) {f : Nat → Nat} : ∀ {e : Nat}, (∀ i, i ≤ e → f i < n) → -(1000000000000000 * (e : Int)) ≤ wtW W f e
  | 0, _ => by simp [wtW]
  | e + 1, h1 => by
    have a := R.wt_lo (f := f) (e := e) (fun i hi => h1 i (by omega))
    have b := R.lo (f e) (f (e + 1)) (h1 e (by omega)) (h1 (e + 1) (by omega))
    show _ ≤ wtW W f e + W (f e) (f (e + 1))
    push_cast
    omega
theorem Rnds.le_step (R : Rnds W n V D) {v : Nat} (hv : v < V) {a b : Nat} (ha : a < n) (hb : b < n) : D (v + 1) a b ≤ D v a b := by
  rw [R.step v hv a b ha hb]
  split <;> omega
/-- an entry is at most each short walk -/
theorem Rnds.le_walk (R : Rnds W n V D) : ∀ (v : Nat), v ≤ V → ∀ (f : Nat → Nat) (e : Nat), e ≤ 40 → IsW W n v f e → D v (f 0) (f e) ≤ wtW W f e
  | 0, _, f, e, _, h => by
    have he : e = 1 := by
      have := h.one
      by_cases h1 : e = 1
      · exact h1
      · exact absurd (h.mid 1 (by omega) (by omega)) (by omega)
    subst he
    rw [R.zero _ _ (h.lt 0 (by omega)) (h.lt 1 (by omega))]
    show W (f 0) (f 1) ≤ 0 + W (f 0) (f 1)
    omega
  | v + 1, hv, f, e, he, h => by
    have ih := R.le_walk v (by omega)
    have hvn : v < n := by have := R.size; omega
    have low : ∀ (f : Nat → Nat) (e : Nat), IsW W n (v + 1) f e → (∀ i, 1 ≤ i → i < e → f i ≠ v) → IsW W n v f e := fun f e h hn => ⟨h.one, fun i h1 h2 => by have := h.mid i h1 h2; have := hn i h1 h2; omega, h.lt, h.fin⟩
    -- walks that begin at v
    have from_v : ∀ (e : Nat) (f : Nat → Nat), e ≤ 40 → f 0 = v → IsW W n (v + 1) f e → D v v (f e) ≤ wtW W f e := by
      intro e
      induction e using Nat.strongRecOn with
      | _ e ihe =>
        intro f he h0 h
        by_cases hx : ∃ i, 1 ≤ i ∧ i < e ∧ f i = v
        · obtain ⟨i, h1, h2, h3⟩ := hx
          have a := ihe i h2 f (by omega) h0 (h.head h1 (by omega))
          have b := ihe (e - i) (by omega) (fun t => f (i + t)) (by omega) h3 (h.tail (by omega) (by omega))
          have s := wtW_add W f i (e - i)
          have d := R.diag v (by omega) v hvn
          rw [h3] at a
          rw [show i + (e - i) = e by omega] at s b
          omega
        · have := ih f e he (low f e h (fun i h1 h2 h3 => hx ⟨i, h1, h2, h3⟩))
          rwa [h0] at this
    have to_v : ∀ (e : Nat) (f : Nat → Nat), e ≤ 40 → f e = v → IsW W n (v + 1) f e → D v (f 0) v ≤ wtW W f e := by
      intro e f he h0 h
      by_cases hx : ∃ i, 1 ≤ i ∧ i < e ∧ f i = v
      · induction e using Nat.strongRecOn with
        | _ e ihe =>
          obtain ⟨i, h1, h2, h3⟩ := hx
          have hh := h.head h1 (show i ≤ e by omega)
          have a : D v (f 0) v ≤ wtW W f i := by
            by_cases hy : ∃ j, 1 ≤ j ∧ j < i ∧ f j = v
            · exact ihe i h2 (by omega) h3 hh hy
            · have := ih f i (by omega) (low f i hh (fun j g1 g2 g3 => hy ⟨j, g1, g2, g3⟩))
              rwa [h3] at this
          have b := from_v (e - i) (fun t => f (i + t)) (by omega) h3 (h.tail (by omega) (by omega))
          have s := wtW_add W f i (e - i)
          have d := R.diag v (by omega) v hvn
          rw [show i + (e - i) = e by omega] at s b
          rw [h0] at b
          omega
      · have := ih f e he (low f e h (fun i h1 h2 h3 => hx ⟨i, h1, h2, h3⟩))
        rwa [h0] at this
    by_cases hx : ∃ i, 1 ≤ i ∧ i < e ∧ f i = v
    · obtain ⟨i, h1, h2, h3⟩ := hx
      have a := to_v i f (by omega) h3 (h.head h1 (by omega))
      have b := from_v (e - i) (fun t => f (i + t)) (by omega) h3 (h.tail (by omega) (by omega))
      have s := wtW_add W f i (e - i)
      have u1 := R.wt_hi (v := v) (f := f) (e := i) (fun j hj => h.lt j (by omega)) (fun j hj => h.fin j (by omega))
      have u2 := R.wt_hi (v := v) (f := fun t => f (i + t)) (e := e - i) (fun j hj => h.lt (i + j) (by omega)) (fun j hj => h.fin (i + j) (by omega))
      rw [show i + (e - i) = e by omega] at s b
      rw [R.step v (by omega) _ _ (h.lt 0 (by omega)) (h.lt e (by omega))]
      have hop : openI = 100000000000000000 := rfl
      rw [if_pos ⟨by omega, by omega⟩]
      omega
    · have a := ih f e he (low f e h (fun i h1 h2 h3 => hx ⟨i, h1, h2, h3⟩))
      have b := R.le_step (show v < V by omega) (h.lt 0 (by omega)) (h.lt e (by omega))
      omega
/-- an entry that is a number is the weight of a walk -/
theorem Rnds.walk (R : Rnds W n V D) : ∀ (v : Nat), v ≤ V → ∀ a b, a < n → b < n → D v a b < openI → ∃ f e, IsW W n v f e ∧ f 0 = a ∧ f e = b ∧ wtW W f e = D v a b
  | 0, _, a, b, ha, hb, h => by
    rw [R.zero a b ha hb] at h ⊢
    refine ⟨fun t => if t = 0 then a else b, 1, ⟨Nat.le_refl _, fun i h1 h2 => by omega, fun i _ => by split <;> assumption, fun i hi => ?_⟩, rfl, rfl, ?_⟩
    · obtain rfl : i = 0 := by omega
      exact h
    · show 0 + W a b = W a b; omega
  | v + 1, hv, a, b, ha, hb, h => by
    have hvn : v < n := by have := R.size; omega
    have up : ∀ {f : Nat → Nat} {e : Nat}, IsW W n v f e → IsW W n (v + 1) f e := fun h => ⟨h.one, fun i h1 h2 => by have := h.mid i h1 h2; omega, h.lt, h.fin⟩
    rw [R.step v (by omega) a b ha hb] at h ⊢
    by_cases hc : D v a v < openI ∧ D v v b < openI
    · rw [if_pos hc] at h ⊢
      by_cases hm : D v a b ≤ D v a v + D v v b
      · rw [Int.min_eq_left hm] at h ⊢
        obtain ⟨f, e, k, h0, he, hw⟩ := R.walk v (by omega) a b ha hb h
        exact ⟨f, e, up k, h0, he, hw⟩
      · rw [Int.min_eq_right (by omega)]
        obtain ⟨f, e, k, h0, he, hw⟩ := R.walk v (by omega) a v ha hvn hc.1
        obtain ⟨g, d, k', h0', he', hw'⟩ := R.walk v (by omega) v b hvn hb hc.2
        have e1 := k.one
        have d1 := k'.one
        obtain ⟨F, hF⟩ : ∃ F : Nat → Nat, ∀ t, F t = if t ≤ e then f t else g (t - e) := ⟨_, fun _ => rfl⟩
        have c1 : ∀ i, i ≤ e → F i = f i := fun i hi => by rw [hF, if_pos hi]
        have c2 : ∀ i, F (e + i) = g i := fun i => by
          rw [hF]
          by_cases hi : i = 0
          · subst hi; rw [if_pos (by omega), Nat.add_zero, he, h0']
          · rw [if_neg (by omega), show e + i - e = i by omega]
        refine ⟨F, e + d, ⟨by omega, fun i h1 h2 => ?_, fun i hi => ?_, fun i hi => ?_⟩, ?_, ?_, ?_⟩
        · by_cases hi : i < e
          · rw [c1 i (by omega)]; have := k.mid i h1 hi; omega
          · by_cases hi2 : i = e
            · subst hi2; rw [c1 i (Nat.le_refl _), he]; omega
            · rw [show i = e + (i - e) by omega, c2]; have := k'.mid (i - e) (by omega) (by omega); omega
        · by_cases hi2 : i ≤ e
          · rw [c1 i hi2]; exact k.lt i hi2
          · rw [show i = e + (i - e) by omega, c2]; exact k'.lt (i - e) (by omega)
        · by_cases hi2 : i < e
          · rw [c1 i (by omega), c1 (i + 1) (by omega)]; exact k.fin i hi2
          · rw [show i = e + (i - e) by omega, c2, show e + (i - e) + 1 = e + (i - e + 1) by omega, c2]; exact k'.fin (i - e) (by omega)
        · rw [c1 0 (by omega)]; exact h0
        · rw [c2]; exact he'
        · rw [wtW_add, wtW_congr (g := f) c1, wtW_congr (g := g) (fun i _ => c2 i), hw, hw']
    · rw [if_neg hc] at h ⊢
      obtain ⟨f, e, k, h0, he, hw⟩ := R.walk v (by omega) a b ha hb h
      exact ⟨f, e, up k, h0, he, hw⟩
/-- no walk is lower than one that meets no clock twice can be -/
theorem Rnds.walk_lo (R : Rnds W n V D) (v : Nat) (hv : v ≤ V) : ∀ (e : Nat) (f : Nat → Nat), IsW W n v f e → -(1000000000000000 * ((v : Int) + 2)) ≤ wtW W f e := by
  intro e
  induction e using Nat.strongRecOn with
  | _ e ihe =>
    intro f h
    by_cases hs : e ≤ v + 2
    · have := R.wt_lo (f := f) (e := e) h.lt
      omega
    · obtain ⟨i, j, hij, hj, heq⟩ := pigeon v (fun i => f (i + 1)) (fun i hi => h.mid (i + 1) (by omega) (by omega))
      have hcl := R.le_walk v hv (fun t => f (i + 1 + t)) (j - i) (by have := R.size; omega) (h.tail (by omega) (by omega))
      rw [show i + 1 + (j - i) = j + 1 by omega, Nat.add_zero, ← heq] at hcl
      have hdg := R.diag v hv (f (i + 1)) (h.lt (i + 1) (by omega))
      obtain ⟨F, hF⟩ : ∃ F : Nat → Nat, ∀ t, F t = if t ≤ i + 1 then f t else f (t + (j - i)) := ⟨_, fun _ => rfl⟩
      have c1 : ∀ t, t ≤ i + 1 → F t = f t := fun t ht => by rw [hF, if_pos ht]
      have c2 : ∀ t, F (i + 1 + t) = f (j + 1 + t) := fun t => by
        rw [hF]
        by_cases ht : t = 0
        · subst ht; rw [if_pos (by omega)]; exact heq
        · rw [if_neg (by omega), show i + 1 + t + (j - i) = j + 1 + t by omega]
      have g := ihe (e - (j - i)) (by omega) F ⟨by omega, fun t h1 h2 => ?_, fun t ht => ?_, fun t ht => ?_⟩
      · have s1 := wtW_add W f (i + 1) (e - (i + 1))
        have s2 := wtW_add W (fun t => f (i + 1 + t)) (j - i) (e - (j + 1))
        have s3 := wtW_add W F (i + 1) (e - (j + 1))
        rw [show i + 1 + (e - (i + 1)) = e by omega] at s1
        rw [show j - i + (e - (j + 1)) = e - (i + 1) by omega] at s2
        rw [show i + 1 + (e - (j + 1)) = e - (j - i) by omega, wtW_congr (g := f) c1, wtW_congr (g := fun t => f (j + 1 + t)) (fun t _ => c2 t)] at s3
        rw [wtW_congr (f := fun t => f (i + 1 + (j - i + t))) (g := fun t => f (j + 1 + t)) (fun t _ => by rw [show i + 1 + (j - i + t) = j + 1 + t by omega])] at s2
        omega
      · by_cases h3 : t ≤ i + 1
        · rw [c1 t h3]; exact h.mid t h1 (by omega)
        · rw [show t = i + 1 + (t - (i + 1)) by omega, c2]; exact h.mid _ (by omega) (by omega)
      · by_cases h3 : t ≤ i + 1
        · rw [c1 t h3]; exact h.lt t (by omega)
        · rw [show t = i + 1 + (t - (i + 1)) by omega, c2]; exact h.lt _ (by omega)
      · by_cases h3 : t < i + 1
        · rw [c1 t (by omega), c1 (t + 1) (by omega)]; exact h.fin t (by omega)
        · rw [show t = i + 1 + (t - (i + 1)) by omega, c2, show i + 1 + (t - (i + 1)) + 1 = i + 1 + (t - (i + 1) + 1) by omega, c2]
          exact h.fin (j + 1 + (t - (i + 1))) (by omega)
theorem Rnds.low (R : Rnds W n V D) {v : Nat} (hv : v ≤ V) {a b : Nat} (ha : a < n) (hb : b < n) : -18000000000000000 ≤ D v a b := by
  by_cases h : D v a b < openI
  · obtain ⟨f, e, k, -, -, hw⟩ := R.walk v hv a b ha hb h
    have := R.walk_lo v hv e f k
    have := R.size
    omega
  · have hop : openI = 100000000000000000 := rfl
    omega
end Go.Proofs.Ytlelamjbfjneiaa.Ct
