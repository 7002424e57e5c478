/- Plain facts on nets: rounds over all clocks between (the matrix's rounds), walks, and how low a number can get while no clock is less than itself. · Plain facts on nets: the matrix's rounds are those of walks; all numbers stay numbers (calmAll). · Plain facts on nets: the narrowest matrix: short walks, the triangle, columns are solutions. · Plain facts on nets: what Narrow's matrix says; a solution keeps the diagonal from sinking; what a settled round says. · Plain facts on nets: bounds that true numbers fulfil. -/
import Derived.Test.YtmfpnfdoidihcaaDoorNw
namespace Go.Proofs.YtmfpnfdoidihcaaDoor.Ct
open Go Go.RowKit
/-- the weight of the first e steps of a walk -/
def wtW (W : Nat → Nat → Int) (f : Nat → Nat) : Nat → Int
  | 0 => 0
  | e + 1 => wtW W f e + W (f e) (f (e + 1))
theorem wtW_add (W : Nat → Nat → Int) (f : Nat → Nat) (i : Nat) : ∀ m, wtW W f (i + m) = wtW W f i + wtW W (fun t => f (i + t)) m
  | 0 => by simp [wtW]
  | m + 1 => by
    show wtW W f (i + m) + W (f (i + m)) (f (i + m + 1)) = wtW W f i + (wtW W (fun t => f (i + t)) m + W (f (i + m)) (f (i + (m + 1))))
    rw [wtW_add W f i m, Int.add_assoc, Nat.add_assoc]
theorem wtW_congr {W : Nat → Nat → Int} {f g : Nat → Nat} : ∀ {e : Nat}, (∀ i, i ≤ e → f i = g i) → wtW W f e = wtW W g e
  | 0, _ => rfl
  | e + 1, h => by
    show wtW W f e + W (f e) (f (e + 1)) = wtW W g e + W (g e) (g (e + 1))
    rw [wtW_congr (fun i hi => h i (by omega)), h e (by omega), h (e + 1) (by omega)]
/-- a walk of e steps whose clocks between are below v -/
structure IsW (W : Nat → Nat → Int) (n v : Nat) (f : Nat → Nat) (e : Nat) : Prop where
  one : 1 ≤ e
  mid : ∀ i, 1 ≤ i → i < e → f i < v
  lt : ∀ i, i ≤ e → f i < n
  fin : ∀ i, i < e → W (f i) (f (i + 1)) < openI
theorem IsW.head {W : Nat → Nat → Int} {n v : Nat} {f : Nat → Nat} {e : Nat} (h : IsW W n v f e) {i : Nat} (h1 : 1 ≤ i) (h2 : i ≤ e) : IsW W n v f i :=
  ⟨h1, fun j hj hk => h.mid j hj (by omega), fun j hj => h.lt j (by omega), fun j hj => h.fin j (by omega)⟩
theorem IsW.tail {W : Nat → Nat → Int} {n v : Nat} {f : Nat → Nat} {e : Nat} (h : IsW W n v f e) {i m : Nat} (h1 : 1 ≤ m) (h2 : i + m ≤ e) : IsW W n v (fun t => f (i + t)) m :=
  ⟨h1, fun j hj hk => h.mid (i + j) (by omega) (by omega), fun j hj => h.lt (i + j) (by omega), fun j hj => h.fin (i + j) (by omega)⟩
/-- the rounds -/
structure Rnds (W : Nat → Nat → Int) (n V : Nat) (D : Nat → Nat → Nat → Int) : Prop where
  zero : ∀ a b, a < n → b < n → D 0 a b = W a b
  step : ∀ v, v < V → ∀ a b, a < n → b < n → D (v + 1) a b = if D v a v < openI ∧ D v v b < openI then min (D v a b) (D v a v + D v v b) else D v a b
  diag : ∀ v, v ≤ V → ∀ a, a < n → 0 ≤ D v a a
  lo : ∀ a b, a < n → b < n → -1000000000000000 ≤ W a b
  hi : ∀ a b, a < n → b < n → W a b < openI → W a b ≤ 1000000000000000
  size : V ≤ n ∧ n ≤ 16
variable {W : Nat → Nat → Int} {n V : Nat} {D : Nat → Nat → Nat → Int}
theorem Rnds.wt_hi (R : Rnds W n V D) {v : Nat} {f : Nat → Nat} : ∀ {e : Nat}, (∀ i, i ≤ e → f i < n) → (∀ i, i < e → W (f i) (f (i + 1)) < openI) → wtW W f e ≤ 1000000000000000 * (e : Int)
  | 0, _, _ => by simp [wtW]
  | e + 1, h1, h2 => by
    have a := R.wt_hi (v := v) (f := f) (e := e) (fun i hi => h1 i (by omega)) (fun i hi => h2 i (by omega))
    have b := R.hi (f e) (f (e + 1)) (h1 e (by omega)) (h1 (e + 1) (by omega)) (h2 e (by omega))
    show wtW W f e + W (f e) (f (e + 1)) ≤ _
    push_cast
    omega
theorem Rnds.wt_lo (R : Rnds W n V D) {f : Nat → Nat} : ∀ {e : Nat}, (∀ i, i ≤ e → f i < n) → -(1000000000000000 * (e : Int)) ≤ wtW W f e
  | 0, _ => by simp [wtW]
  | e + 1, h1 => by
    have a := R.wt_lo (f := f) (e := e) (fun i hi => h1 i (by omega))
    have b := R.lo (f e) (f (e + 1)) (h1 e (by omega)) (h1 (e + 1) (by omega))
    show _ ≤ wtW W f e + W (f e) (f (e + 1))
    push_cast
    omega
theorem Rnds.le_step (R : Rnds W n V D) {v : Nat} (hv : v < V) {a b : Nat} (ha : a < n) (hb : b < n) : D (v + 1) a b ≤ D v a b := by
  rw [R.step v hv a b ha hb]
  split <;> omega
/-- an entry is at most each short walk -/
theorem Rnds.le_walk (R : Rnds W n V D) : ∀ (v : Nat), v ≤ V → ∀ (f : Nat → Nat) (e : Nat), e ≤ 40 → IsW W n v f e → D v (f 0) (f e) ≤ wtW W f e
  | 0, _, f, e, _, h => by
    have he : e = 1 := by
      have := h.one
      by_cases h1 : e = 1
      · exact h1
      · exact absurd (h.mid 1 (by omega) (by omega)) (by omega)
    subst he
    rw [R.zero _ _ (h.lt 0 (by omega)) (h.lt 1 (by omega))]
    show W (f 0) (f 1) ≤ 0 + W (f 0) (f 1)
    omega
  | v + 1, hv, f, e, he, h => by
    have ih := R.le_walk v (by omega)
    have hvn : v < n := by have := R.size; omega
    have low : ∀ (f : Nat → Nat) (e : Nat), IsW W n (v + 1) f e → (∀ i, 1 ≤ i → i < e → f i ≠ v) → IsW W n v f e := fun f e h hn => ⟨h.one, fun i h1 h2 => by have := h.mid i h1 h2; have := hn i h1 h2; omega, h.lt, h.fin⟩
    -- walks that begin at v
    have from_v : ∀ (e : Nat) (f : Nat → Nat), e ≤ 40 → f 0 = v → IsW W n (v + 1) f e → D v v (f e) ≤ wtW W f e := by
      intro e
      induction e using Nat.strongRecOn with
      | _ e ihe =>
        intro f he h0 h
        by_cases hx : ∃ i, 1 ≤ i ∧ i < e ∧ f i = v
        · obtain ⟨i, h1, h2, h3⟩ := hx
          have a := ihe i h2 f (by omega) h0 (h.head h1 (by omega))
          have b := ihe (e - i) (by omega) (fun t => f (i + t)) (by omega) h3 (h.tail (by omega) (by omega))
          have s := wtW_add W f i (e - i)
          have d := R.diag v (by omega) v hvn
          rw [h3] at a
          rw [show i + (e - i) = e by omega] at s b
          omega
        · have := ih f e he (low f e h (fun i h1 h2 h3 => hx ⟨i, h1, h2, h3⟩))
          rwa [h0] at this
    have to_v : ∀ (e : Nat) (f : Nat → Nat), e ≤ 40 → f e = v → IsW W n (v + 1) f e → D v (f 0) v ≤ wtW W f e := by
      intro e f he h0 h
      by_cases hx : ∃ i, 1 ≤ i ∧ i < e ∧ f i = v
      · induction e using Nat.strongRecOn with
        | _ e ihe =>
          obtain ⟨i, h1, h2, h3⟩ := hx
          have hh := h.head h1 (show i ≤ e by omega)
          have a : D v (f 0) v ≤ wtW W f i := by
            by_cases hy : ∃ j, 1 ≤ j ∧ j < i ∧ f j = v
            · exact ihe i h2 (by omega) h3 hh hy
            · have := ih f i (by omega) (low f i hh (fun j g1 g2 g3 => hy ⟨j, g1, g2, g3⟩))
              rwa [h3] at this
          have b := from_v (e - i) (fun t => f (i + t)) (by omega) h3 (h.tail (by omega) (by omega))
          have s := wtW_add W f i (e - i)
          have d := R.diag v (by omega) v hvn
          rw [show i + (e - i) = e by omega] at s b
          rw [h0] at b
          omega
      · have := ih f e he (low f e h (fun i h1 h2 h3 => hx ⟨i, h1, h2, h3⟩))
        rwa [h0] at this
    by_cases hx : ∃ i, 1 ≤ i ∧ i < e ∧ f i = v
    · obtain ⟨i, h1, h2, h3⟩ := hx
      have a := to_v i f (by omega) h3 (h.head h1 (by omega))
      have b := from_v (e - i) (fun t => f (i + t)) (by omega) h3 (h.tail (by omega) (by omega))
      have s := wtW_add W f i (e - i)
      have u1 := R.wt_hi (v := v) (f := f) (e := i) (fun j hj => h.lt j (by omega)) (fun j hj => h.fin j (by omega))
      have u2 := R.wt_hi (v := v) (f := fun t => f (i + t)) (e := e - i) (fun j hj => h.lt (i + j) (by omega)) (fun j hj => h.fin (i + j) (by omega))
      rw [show i + (e - i) = e by omega] at s b
      rw [R.step v (by omega) _ _ (h.lt 0 (by omega)) (h.lt e (by omega))]
      have hop : openI = 100000000000000000 := rfl
      rw [if_pos ⟨by omega, by omega⟩]
      omega
    · have a := ih f e he (low f e h (fun i h1 h2 h3 => hx ⟨i, h1, h2, h3⟩))
      have b := R.le_step (show v < V by omega) (h.lt 0 (by omega)) (h.lt e (by omega))
      omega
/-- an entry that is a number is the weight of a walk -/
theorem Rnds.walk (R : Rnds W n V D) : ∀ (v : Nat), v ≤ V → ∀ a b, a < n → b < n → D v a b < openI → ∃ f e, IsW W n v f e ∧ f 0 = a ∧ f e = b ∧ wtW W f e = D v a b
  | 0, _, a, b, ha, hb, h => by
    rw [R.zero a b ha hb] at h ⊢
    refine ⟨fun t => if t = 0 then a else b, 1, ⟨Nat.le_refl _, fun i h1 h2 => by omega, fun i _ => by split <;> assumption, fun i hi => ?_⟩, rfl, rfl, ?_⟩
    · obtain rfl : i = 0 := by omega
      exact h
    · show 0 + W a b = W a b; omega
  | v + 1, hv, a, b, ha, hb, h => by
    have hvn : v < n := by have := R.size; omega
    have up : ∀ {f : Nat → Nat} {e : Nat}, IsW W n v f e → IsW W n (v + 1) f e := fun h => ⟨h.one, fun i h1 h2 => by have := h.mid i h1 h2; omega, h.lt, h.fin⟩
    rw [R.step v (by omega) a b ha hb] at h ⊢
    by_cases hc : D v a v < openI ∧ D v v b < openI
    · rw [if_pos hc] at h ⊢
      by_cases hm : D v a b ≤ D v a v + D v v b
      · rw [Int.min_eq_left hm] at h ⊢
        obtain ⟨f, e, k, h0, he, hw⟩ := R.walk v (by omega) a b ha hb h
        exact ⟨f, e, up k, h0, he, hw⟩
      · rw [Int.min_eq_right (by omega)]
        obtain ⟨f, e, k, h0, he, hw⟩ := R.walk v (by omega) a v ha hvn hc.1
        obtain ⟨g, d, k', h0', he', hw'⟩ := R.walk v (by omega) v b hvn hb hc.2
        have e1 := k.one
        have d1 := k'.one
        obtain ⟨F, hF⟩ : ∃ F : Nat → Nat, ∀ t, F t = if t ≤ e then f t else g (t - e) := ⟨_, fun _ => rfl⟩
        have c1 : ∀ i, i ≤ e → F i = f i := fun i hi => by rw [hF, if_pos hi]
        have c2 : ∀ i, F (e + i) = g i := fun i => by
          rw [hF]
          by_cases hi : i = 0
          · subst hi; rw [if_pos (by omega), Nat.add_zero, he, h0']
          · rw [if_neg (by omega), show e + i - e = i by omega]
        refine ⟨F, e + d, ⟨by omega, fun i h1 h2 => ?_, fun i hi => ?_, fun i hi => ?_⟩, ?_, ?_, ?_⟩
        · by_cases hi : i < e
          · rw [c1 i (by omega)]; have := k.mid i h1 hi; omega
          · by_cases hi2 : i = e
            · subst hi2; rw [c1 i (Nat.le_refl _), he]; omega
            · rw [show i = e + (i - e) by omega, c2]; have := k'.mid (i - e) (by omega) (by omega); omega
        · by_cases hi2 : i ≤ e
          · rw [c1 i hi2]; exact k.lt i hi2
          · rw [show i = e + (i - e) by omega, c2]; exact k'.lt (i - e) (by omega)
        · by_cases hi2 : i < e
          · rw [c1 i (by omega), c1 (i + 1) (by omega)]; exact k.fin i hi2
          · rw [show i = e + (i - e) by omega, c2, show e + (i - e) + 1 = e + (i - e + 1) by omega, c2]; exact k'.fin (i - e) (by omega)
        · rw [c1 0 (by omega)]; exact h0
        · rw [c2]; exact he'
        · rw [wtW_add, wtW_congr (g := f) c1, wtW_congr (g := g) (fun i _ => c2 i), hw, hw']
    · rw [if_neg hc] at h ⊢
      obtain ⟨f, e, k, h0, he, hw⟩ := R.walk v (by omega) a b ha hb h
      exact ⟨f, e, up k, h0, he, hw⟩
/-- no walk is lower than one that meets no clock twice can be -/
theorem Rnds.walk_lo (R : Rnds W n V D) (v : Nat) (hv : v ≤ V) : ∀ (e : Nat) (f : Nat → Nat), IsW W n v f e → -(1000000000000000 * ((v : Int) + 2)) ≤ wtW W f e := by
  intro e
  induction e using Nat.strongRecOn with
  | _ e ihe =>
    intro f h
    by_cases hs : e ≤ v + 2
    · have := R.wt_lo (f := f) (e := e) h.lt
      omega
    · obtain ⟨i, j, hij, hj, heq⟩ := pigeon v (fun i => f (i + 1)) (fun i hi => h.mid (i + 1) (by omega) (by omega))
      have hcl := R.le_walk v hv (fun t => f (i + 1 + t)) (j - i) (by have := R.size; omega) (h.tail (by omega) (by omega))
      rw [show i + 1 + (j - i) = j + 1 by omega, Nat.add_zero, ← heq] at hcl
      have hdg := R.diag v hv (f (i + 1)) (h.lt (i + 1) (by omega))
      obtain ⟨F, hF⟩ : ∃ F : Nat → Nat, ∀ t, F t = if t ≤ i + 1 then f t else f (t + (j - i)) := ⟨_, fun _ => rfl⟩
      have c1 : ∀ t, t ≤ i + 1 → F t = f t := fun t ht => by rw [hF, if_pos ht]
      have c2 : ∀ t, F (i + 1 + t) = f (j + 1 + t) := fun t => by
        rw [hF]
        by_cases ht : t = 0
        · subst ht; rw [if_pos (by omega)]; exact heq
        · rw [if_neg (by omega), show i + 1 + t + (j - i) = j + 1 + t by omega]
      have g := ihe (e - (j - i)) (by omega) F ⟨by omega, fun t h1 h2 => ?_, fun t ht => ?_, fun t ht => ?_⟩
      · have s1 := wtW_add W f (i + 1) (e - (i + 1))
        have s2 := wtW_add W (fun t => f (i + 1 + t)) (j - i) (e - (j + 1))
        have s3 := wtW_add W F (i + 1) (e - (j + 1))
        rw [show i + 1 + (e - (i + 1)) = e by omega] at s1
        rw [show j - i + (e - (j + 1)) = e - (i + 1) by omega] at s2
        rw [show i + 1 + (e - (j + 1)) = e - (j - i) by omega, wtW_congr (g := f) c1, wtW_congr (g := fun t => f (j + 1 + t)) (fun t _ => c2 t)] at s3
        rw [wtW_congr (f := fun t => f (i + 1 + (j - i + t))) (g := fun t => f (j + 1 + t)) (fun t _ => by rw [show i + 1 + (j - i + t) = j + 1 + t by omega])] at s2
        omega
      · by_cases h3 : t ≤ i + 1
        · rw [c1 t h3]; exact h.mid t h1 (by omega)
        · rw [show t = i + 1 + (t - (i + 1)) by omega, c2]; exact h.mid _ (by omega) (by omega)
      · by_cases h3 : t ≤ i + 1
        · rw [c1 t h3]; exact h.lt t (by omega)
        · rw [show t = i + 1 + (t - (i + 1)) by omega, c2]; exact h.lt _ (by omega)
      · by_cases h3 : t < i + 1
        · rw [c1 t (by omega), c1 (t + 1) (by omega)]; exact h.fin t (by omega)
        · rw [show t = i + 1 + (t - (i + 1)) by omega, c2, show i + 1 + (t - (i + 1)) + 1 = i + 1 + (t - (i + 1) + 1) by omega, c2]
          exact h.fin (j + 1 + (t - (i + 1))) (by omega)
theorem Rnds.low (R : Rnds W n V D) {v : Nat} (hv : v ≤ V) {a b : Nat} (ha : a < n) (hb : b < n) : -18000000000000000 ≤ D v a b := by
  by_cases h : D v a b < openI
  · obtain ⟨f, e, k, -, -, hw⟩ := R.walk v hv a b ha hb h
    have := R.walk_lo v hv e f k
    have := R.size
    omega
  · have hop : openI = 100000000000000000 := rfl
    omega
end Go.Proofs.YtmfpnfdoidihcaaDoor.Ct
namespace Go.Proofs.YtmfpnfdoidihcaaDoor.Ct
open Go Go.RowKit
/-- a new entry -/
def newM (M : List (List Int)) (v a j : Nat) : Int := if getM M a v < openI ∧ getM M v j < openI then min (getM M a j) (getM M a v + getM M v j) else getM M a j
theorem newM_le (M : List (List Int)) (v a j : Nat) : newM M v a j ≤ getM M a j := by unfold newM; split <;> omega
theorem newM_row {M : List (List Int)} {v : Nat} (h0 : 0 ≤ getM M v v) (j : Nat) : newM M v v j = getM M v j := by unfold newM; split <;> omega
theorem newM_col {M : List (List Int)} {v : Nat} (h0 : 0 ≤ getM M v v) (a : Nat) : newM M v a v = getM M a v := by unfold newM; split <;> omega
theorem getM_relax {n : Nat} {M : List (List Int)} (sh : Shape n M) {v a b : Nat} (ha : a < n) (hb : b < n) (i j : Nat) : getM (relaxM M v a b) i j = if i = a ∧ j = b then newM M v a b else getM M i j := by
  unfold relaxM newM
  by_cases hc : getM M a v < openI ∧ getM M v b < openI
  · rw [if_pos hc, if_pos hc]
    unfold lowM
    rw [getM_put sh ha hb]
  · rw [if_neg hc, if_neg hc]
    by_cases e : i = a ∧ j = b
    · rw [if_pos e, e.1, e.2]
    · rw [if_neg e]
theorem row_at {n : Nat} {M : List (List Int)} (sh : Shape n M) {v a : Nat} (ha : a < n) (h0 : 0 ≤ getM M v v) : ∀ b, b ≤ n → ∀ i j, getM (rowM M v a b) i j = if i = a ∧ j < b then newM M v a j else getM M i j
  | 0, _, i, j => by rw [if_neg (by omega)]; rfl
  | b + 1, hb, i, j => by
    have ih := row_at sh ha h0 b (by omega)
    show getM (relaxM (rowM M v a b) v a b) i j = _
    rw [getM_relax (sh.row v a b) ha (by omega)]
    have e1 : getM (rowM M v a b) a v = getM M a v := by
      rw [ih]
      split
      · exact newM_col h0 a
      · rfl
    have e2 : getM (rowM M v a b) v b = getM M v b := by rw [ih, if_neg (by omega)]
    have e3 : getM (rowM M v a b) a b = getM M a b := by rw [ih, if_neg (by omega)]
    have e4 : newM (rowM M v a b) v a b = newM M v a b := by unfold newM; rw [e1, e2, e3]
    by_cases e : i = a ∧ j = b
    · rw [if_pos e, e4, if_pos ⟨e.1, by omega⟩, e.2]
    · rw [if_neg e, ih]
      by_cases e5 : i = a ∧ j < b
      · rw [if_pos e5, if_pos ⟨e5.1, by omega⟩]
      · rw [if_neg e5, if_neg (by omega)]
theorem col_flag {n : Nat} {M : List (List Int)} {v a : Nat} (h : (colM n M v (a + 1)).2 = true) : (colM n M v a).2 = true := by
  unfold colM at h
  by_cases hc : (colM n M v a).2 = true
  · exact hc
  · rw [if_neg hc] at h; exact h
theorem col_flags {n : Nat} {M : List (List Int)} {v a : Nat} : ∀ {b : Nat}, a ≤ b → (colM n M v b).2 = true → (colM n M v a).2 = true
  | 0, h, hf => by obtain rfl : a = 0 := by omega
                   exact hf
  | b + 1, h, hf => by
    by_cases e : a = b + 1
    · rw [e]; exact hf
    · exact col_flags (b := b) (by omega) (col_flag hf)
theorem col_at {n : Nat} {M : List (List Int)} (sh : Shape n M) {v : Nat} (h0 : 0 ≤ getM M v v) (hv : v < n) : ∀ a, a ≤ n → (colM n M v a).2 = true → ∀ i j, j < n → getM (colM n M v a).1 i j = if i < a then newM M v i j else getM M i j
  | 0, _, _, i, j, _ => by rw [if_neg (by omega)]; rfl
  | a + 1, ha, hf, i, j, hj => by
    have hf' := col_flag hf
    have ih := col_at sh h0 hv a (by omega) hf'
    have e : (colM n M v (a + 1)).1 = rowM (colM n M v a).1 v a n := by
      conv => lhs; unfold colM
      rw [if_pos hf']
    have kv : ∀ j, j < n → getM (colM n M v a).1 v j = getM M v j := fun j hj => by
      rw [ih v j hj]
      split
      · exact newM_row h0 j
      · rfl
    have ka : ∀ j, j < n → getM (colM n M v a).1 a j = getM M a j := fun j hj => by rw [ih a j hj, if_neg (by omega)]
    have kn : newM (colM n M v a).1 v a j = newM M v a j := by unfold newM; rw [ka v hv, kv j hj, ka j hj]
    rw [e, row_at (sh.col v a) (by omega) (by rw [kv v hv]; exact h0) n (Nat.le_refl _) i j]
    by_cases e1 : i = a
    · rw [if_pos ⟨e1, hj⟩, kn, if_pos (by omega), e1]
    · rw [if_neg (fun h => e1 h.1), ih i j hj]
      by_cases e2 : i < a
      · rw [if_pos e2, if_pos (by omega)]
      · rw [if_neg e2, if_neg (by omega)]
/-- the entries while a row is worked on -/
theorem col_row_at {n : Nat} {M : List (List Int)} (sh : Shape n M) {v a : Nat} (h0 : 0 ≤ getM M v v) (hv : v < n) (ha : a < n) (hf : (colM n M v a).2 = true) {b : Nat} (hb : b ≤ n) (i j : Nat) (hj : j < n) :
    getM (rowM (colM n M v a).1 v a b) i j = newM M v i j ∨ getM (rowM (colM n M v a).1 v a b) i j = getM M i j := by
  have ih := col_at sh h0 hv a (by omega) hf
  have kv : ∀ j, j < n → getM (colM n M v a).1 v j = getM M v j := fun j hj => by
    rw [ih v j hj]
    split
    · exact newM_row h0 j
    · rfl
  have ka : ∀ j, j < n → getM (colM n M v a).1 a j = getM M a j := fun j hj => by rw [ih a j hj, if_neg (by omega)]
  have kn : newM (colM n M v a).1 v a j = newM M v a j := by unfold newM; rw [ka v hv, kv j hj, ka j hj]
  rw [row_at (sh.col v a) ha (by rw [kv v hv]; exact h0) b hb i j]
  by_cases e1 : i = a ∧ j < b
  · rw [if_pos e1, kn, e1.1]; exact .inl rfl
  · rw [if_neg e1, ih i j hj]
    split
    · exact .inl rfl
    · exact .inr rfl
theorem via_flag {n : Nat} {M : List (List Int)} {v : Nat} (h : (viaM n M (v + 1)).2 = true) : (viaM n M v).2 = true := by
  unfold viaM at h
  by_cases hc : (viaM n M v).2 = true
  · exact hc
  · rw [if_neg hc] at h; exact h
theorem via_flags {n : Nat} {M : List (List Int)} {v : Nat} : ∀ {V : Nat}, v ≤ V → (viaM n M V).2 = true → (viaM n M v).2 = true
  | 0, h, hf => by obtain rfl : v = 0 := by omega
                   exact hf
  | V + 1, h, hf => by
    by_cases e : v = V + 1
    · rw [e]; exact hf
    · exact via_flags (V := V) (by omega) (via_flag hf)
/-- a first matrix -/
structure First (n : Nat) (M : List (List Int)) : Prop where
  sh : Shape n M
  size : n ≤ 16
  diag : ∀ a, a < n → 0 ≤ getM M a a
  lo : ∀ a b, a < n → b < n → -1000000000000000 ≤ getM M a b
  hi : ∀ a b, a < n → b < n → getM M a b < openI → getM M a b ≤ 1000000000000000
  op : ∀ a b, a < n → b < n → getM M a b ≤ openI
theorem via_diag {n : Nat} {M : List (List Int)} (F : First n M) : ∀ v, v ≤ n → (viaM n M v).2 = true → ∀ a, a < n → 0 ≤ getM (viaM n M v).1 a a
  | 0, _, _, a, ha => F.diag a ha
  | v + 1, hv, hf, a, ha => by
    have hf' := via_flag hf
    have ih := via_diag F v (by omega) hf'
    have e : viaM n M (v + 1) = colM n (viaM n M v).1 v n := by
      conv => lhs; unfold viaM
      rw [if_pos hf']
    rw [e] at hf ⊢
    have sh := F.sh.via v
    have h0 := ih v (by omega)
    have c1 := col_at sh h0 (by omega) n (Nat.le_refl _) hf a a ha
    have hfa := col_flags (show a + 1 ≤ n by omega) hf
    have c2 := col_at sh h0 (by omega) (a + 1) (by omega) hfa a a ha
    rw [if_pos (by omega)] at c1 c2
    have hfa' := col_flag hfa
    have e2 : colM n (viaM n M v).1 v (a + 1) = (rowM (colM n (viaM n M v).1 v a).1 v a n, decide (0 ≤ getM (rowM (colM n (viaM n M v).1 v a).1 v a n) a a)) := by
      conv => lhs; unfold colM
      rw [if_pos hfa']
    rw [e2] at hfa c2
    have := of_decide_eq_true hfa
    rw [c1, ← c2]
    exact this
theorem via_R {n : Nat} {M : List (List Int)} (F : First n M) {V : Nat} (hV : V ≤ n) (hf : (viaM n M V).2 = true) : Rnds (getM M) n V (fun v a b => getM (viaM n M v).1 a b) := by
  refine ⟨fun _ _ _ _ => rfl, fun v hv a b ha hb => ?_, fun v hv => via_diag F v (by omega) (via_flags hv hf), F.lo, F.hi, hV, F.size⟩
  have hf1 := via_flags (show v + 1 ≤ V by omega) hf
  have hf' := via_flag hf1
  have e : viaM n M (v + 1) = colM n (viaM n M v).1 v n := by
    conv => lhs; unfold viaM
    rw [if_pos hf']
  show getM (viaM n M (v + 1)).1 a b = newM (viaM n M v).1 v a b
  rw [e] at hf1 ⊢
  rw [col_at (F.sh.via v) (via_diag F v (by omega) hf' v (by omega)) (by omega) n (Nat.le_refl _) hf1 a b hb, if_pos ha]
theorem calmB_of {n : Nat} {M : List (List Int)} (sh : Shape n M) (h : ∀ i j, i < n → j < n → -1000000000000000000 ≤ getM M i j ∧ getM M i j ≤ openI) : calmB M = true := by
  unfold calmB
  refine List.all_eq_true.2 fun r hr => List.all_eq_true.2 fun x hx => ?_
  obtain ⟨i, hi, rfl⟩ := List.getElem_of_mem hr
  obtain ⟨j, hj, rfl⟩ := List.getElem_of_mem hx
  have hin : i < n := by rw [← sh.rows]; exact hi
  have hc := sh.cols i hin
  rw [List.getElem?_eq_getElem hi, Option.getD_some] at hc
  have := h i j hin (by omega)
  unfold getM at this
  rw [List.getElem?_eq_getElem hi, Option.getD_some, List.getElem?_eq_getElem hj, Option.getD_some] at this
  simp only [Bool.and_eq_true, decide_eq_true_eq]
  exact this
theorem via_op {n : Nat} {M : List (List Int)} (F : First n M) : ∀ v, v ≤ n → (viaM n M v).2 = true → ∀ a b, a < n → b < n → getM (viaM n M v).1 a b ≤ openI
  | 0, _, _, a, b, ha, hb => F.op a b ha hb
  | v + 1, hv, hf, a, b, ha, hb => by
    have R := via_R F hv hf
    have := R.le_step (show v < v + 1 by omega) ha hb
    have := via_op F v (by omega) (via_flag hf) a b ha hb
    omega
theorem calm_first {n : Nat} {M : List (List Int)} (F : First n M) {v : Nat} (hv : v < n) (hf : (viaM n M v).2 = true) : calmCol n (viaM n M v).1 v = true := by
  have R := via_R F (show v ≤ n by omega) hf
  have h0 := via_diag F v (by omega) hf v hv
  have op := via_op F v (by omega) hf
  have sh := F.sh.via v
  have lo : ∀ a b, a < n → b < n → -18000000000000000 ≤ getM (viaM n M v).1 a b := fun a b ha hb => R.low (Nat.le_refl v) ha hb
  unfold calmCol
  refine List.all_eq_true.2 fun a ha => ?_
  have ha' := List.mem_range.1 ha
  by_cases hc : (colM n (viaM n M v).1 v a).2 = true
  · rw [hc]
    show calmRow _ v a n = true
    unfold calmRow
    refine List.all_eq_true.2 fun b hb => ?_
    have hb' := List.mem_range.1 hb
    refine calmB_of ((sh.col v a).row v a b) fun i j hi hj => ?_
    have l1 := lo i j hi hj
    have l2 := lo i v hi hv
    have l3 := lo v j hv hj
    have o1 := op i j hi hj
    rcases col_row_at sh h0 hv ha' hc (show b ≤ n by omega) i j hj with e | e
    · rw [e]
      unfold newM
      split <;> omega
    · rw [e]; omega
  · rw [Bool.not_eq_true] at hc
    rw [hc]; rfl
theorem fill_at (n i j : Nat) (hi : i < n) (hj : j < n) : getM (fillM n) i j = openI := by simp [getM, fillM, hi, hj]
theorem diag_at (n : Nat) : ∀ k, k ≤ n → ∀ i j, i < n → j < n → getM (diagM n k) i j = if i = j ∧ i < k then 0 else openI
  | 0, _, i, j, hi, hj => by rw [if_neg (by omega)]; exact fill_at n i j hi hj
  | k + 1, hk, i, j, hi, hj => by
    show getM (putM (diagM n k) k k (min (getM (diagM n k) k k) 0)) i j = _
    rw [getM_put (shape_diag n k) (by omega) (by omega), diag_at n k (by omega) k k (by omega) (by omega), if_neg (by omega : ¬ (k = k ∧ k < k)), diag_at n k (by omega) i j hi hj]
    have hop : openI = 100000000000000000 := rfl
    by_cases e : i = k ∧ j = k
    · rw [if_pos e, if_pos (by omega)]; omega
    · rw [if_neg e]
      by_cases e2 : i = j ∧ i < k
      · rw [if_pos e2, if_pos (by omega)]
      · rw [if_neg e2, if_neg (by omega)]
structure LimFit (n : Nat) (x : Lim) : Prop where
  f : x.f.toNat < n
  s : x.s.toNat < n
  ne : x.f.toNat ≠ x.s.toNat
  m : -1000000000000000 ≤ x.m ∧ x.m ≤ 1000000000000000
theorem First.use {n : Nat} {M : List (List Int)} (F : First n M) {x : Lim} (hx : LimFit n x) : First n (useM M x) := by
  have hop : openI = 100000000000000000 := rfl
  have hm := hx.m
  have hg : ∀ a b, getM (useM M x) a b = if a = x.f.toNat ∧ b = x.s.toNat then min (getM M x.f.toNat x.s.toNat) x.m else getM M a b := fun a b => getM_put F.sh hx.f hx.s _ a b
  have l0 := F.lo _ _ hx.f hx.s
  have o0 := F.op _ _ hx.f hx.s
  refine ⟨F.sh.low _ _ _, F.size, fun a ha => ?_, fun a b ha hb => ?_, fun a b ha hb => ?_, fun a b ha hb => ?_⟩
  · rw [hg, if_neg (fun h => hx.ne (h.1.symm.trans h.2))]; exact F.diag a ha
  · rw [hg]
    split
    · omega
    · exact F.lo a b ha hb
  · rw [hg]
    split
    · intro _; omega
    · exact F.hi a b ha hb
  · rw [hg]
    split
    · omega
    · exact F.op a b ha hb
theorem first_fold {n : Nat} : ∀ (l : List Lim) {M : List (List Int)}, First n M → (∀ x ∈ l, LimFit n x) → First n (l.foldl useM M)
  | [], _, F, _ => F
  | x :: l, _, F, h => first_fold l (F.use (h x (by simp))) (fun y hy => h y (by simp [hy]))
theorem lim_fit {n : Nat} {l : List Bnd} (hl : LimsOk n l) {x : Lim} (hx : x ∈ limsL l) : LimFit n x := by
  obtain ⟨q, hq, rfl⟩ := List.mem_map.1 hx
  have hb := hl.ok q.1 (useN_lt _ q hq)
  have h1 := hb.a
  have h2 := hb.b
  have h3 := hb.ne
  have h4 := hb.lo
  have h5 := hb.hi
  unfold limOf
  split
  · exact ⟨by show (bndAt l q.1).a.toNat < n; omega, by show (bndAt l q.1).b.toNat < n; omega, by show (bndAt l q.1).a.toNat ≠ (bndAt l q.1).b.toNat; omega, by show _ ≤ (bndAt l q.1).hi ∧ (bndAt l q.1).hi ≤ _; omega⟩
  · exact ⟨by show (bndAt l q.1).b.toNat < n; omega, by show (bndAt l q.1).a.toNat < n; omega, by show (bndAt l q.1).b.toNat ≠ (bndAt l q.1).a.toNat; omega, by show _ ≤ -(bndAt l q.1).lo ∧ -(bndAt l q.1).lo ≤ _; omega⟩
theorem bound_first {n : Nat} {l : List Bnd} (hn : n ≤ 16) (hl : LimsOk n l) : First n (boundM n (limsL l)) := by
  have hop : openI = 100000000000000000 := rfl
  refine first_fold _ ⟨shape_diag n n, hn, fun a ha => ?_, fun a b ha hb => ?_, fun a b ha hb => ?_, fun a b ha hb => ?_⟩ (fun x hx => lim_fit hl hx)
  · rw [diag_at n n (Nat.le_refl _) a a ha ha, if_pos ⟨rfl, ha⟩]; exact Int.le_refl _
  · rw [diag_at n n (Nat.le_refl _) a b ha hb]; split <;> omega
  · rw [diag_at n n (Nat.le_refl _) a b ha hb]; split <;> (intro _; omega)
  · rw [diag_at n n (Nat.le_refl _) a b ha hb]; split <;> omega
/-- all numbers of Narrow stay numbers, whatever the net -/
theorem calm_all {n : Nat} {l : List Bnd} (hn : n ≤ 16) (hl : LimsOk n l) : calmAll n l = true := by
  unfold calmAll
  refine List.all_eq_true.2 fun v hv => ?_
  have hv' := List.mem_range.1 hv
  by_cases hf : (viaM n (boundM n (limsL l)) v).2 = true
  · rw [calm_first (bound_first hn hl) hv' hf, Bool.or_true]
  · rw [Bool.not_eq_true] at hf
    rw [hf]; rfl
end Go.Proofs.YtmfpnfdoidihcaaDoor.Ct
namespace Go.Proofs.YtmfpnfdoidihcaaDoor.Ct
open Go Go.RowKit
variable {W : Nat → Nat → Int} {n V : Nat} {D : Nat → Nat → Nat → Int}
/-- each walk has one that is short and not heavier -/
theorem Rnds.short (R : Rnds W n V D) (v : Nat) (hv : v ≤ V) : ∀ (e : Nat) (f : Nat → Nat), IsW W n v f e → ∃ g d, d ≤ v + 2 ∧ IsW W n v g d ∧ g 0 = f 0 ∧ g d = f e ∧ wtW W g d ≤ wtW W f e := by
  intro e
  induction e using Nat.strongRecOn with
  | _ e ihe =>
    intro f h
    by_cases hs : e ≤ v + 2
    · exact ⟨f, e, hs, h, rfl, rfl, Int.le_refl _⟩
    · obtain ⟨i, j, hij, hj, heq⟩ := pigeon v (fun i => f (i + 1)) (fun i hi => h.mid (i + 1) (by omega) (by omega))
      have hcl := R.le_walk v hv (fun t => f (i + 1 + t)) (j - i) (by have := R.size; omega) (h.tail (by omega) (by omega))
      rw [show i + 1 + (j - i) = j + 1 by omega, Nat.add_zero, ← heq] at hcl
      have hdg := R.diag v hv (f (i + 1)) (h.lt (i + 1) (by omega))
      obtain ⟨F, hF⟩ : ∃ F : Nat → Nat, ∀ t, F t = if t ≤ i + 1 then f t else f (t + (j - i)) := ⟨_, fun _ => rfl⟩
      have c1 : ∀ t, t ≤ i + 1 → F t = f t := fun t ht => by rw [hF, if_pos ht]
      have c2 : ∀ t, F (i + 1 + t) = f (j + 1 + t) := fun t => by
        rw [hF]
        by_cases ht : t = 0
        · subst ht; rw [if_pos (by omega)]; exact heq
        · rw [if_neg (by omega), show i + 1 + t + (j - i) = j + 1 + t by omega]
      have k : IsW W n v F (e - (j - i)) := by
        refine ⟨by omega, fun t h1 h2 => ?_, fun t ht => ?_, fun t ht => ?_⟩
        · by_cases h3 : t ≤ i + 1
          · rw [c1 t h3]; exact h.mid t h1 (by omega)
          · rw [show t = i + 1 + (t - (i + 1)) by omega, c2]; exact h.mid _ (by omega) (by omega)
        · by_cases h3 : t ≤ i + 1
          · rw [c1 t h3]; exact h.lt t (by omega)
          · rw [show t = i + 1 + (t - (i + 1)) by omega, c2]; exact h.lt _ (by omega)
        · by_cases h3 : t < i + 1
          · rw [c1 t (by omega), c1 (t + 1) (by omega)]; exact h.fin t (by omega)
          · rw [show t = i + 1 + (t - (i + 1)) by omega, c2, show i + 1 + (t - (i + 1)) + 1 = i + 1 + (t - (i + 1) + 1) by omega, c2]
            exact h.fin (j + 1 + (t - (i + 1))) (by omega)
      obtain ⟨g, d, hd, hg, g0, gd, gw⟩ := ihe (e - (j - i)) (by omega) F k
      refine ⟨g, d, hd, hg, by rw [g0, c1 0 (by omega)], ?_, ?_⟩
      · rw [gd, show e - (j - i) = i + 1 + (e - (j + 1)) by omega, c2, show j + 1 + (e - (j + 1)) = e by omega]
      · have s1 := wtW_add W f (i + 1) (e - (i + 1))
        have s2 := wtW_add W (fun t => f (i + 1 + t)) (j - i) (e - (j + 1))
        have s3 := wtW_add W F (i + 1) (e - (j + 1))
        rw [show i + 1 + (e - (i + 1)) = e by omega] at s1
        rw [show j - i + (e - (j + 1)) = e - (i + 1) by omega] at s2
        rw [show i + 1 + (e - (j + 1)) = e - (j - i) by omega, wtW_congr (g := f) c1, wtW_congr (g := fun t => f (j + 1 + t)) (fun t _ => c2 t)] at s3
        rw [wtW_congr (f := fun t => f (i + 1 + (j - i + t))) (g := fun t => f (j + 1 + t)) (fun t _ => by rw [show i + 1 + (j - i + t) = j + 1 + t by omega])] at s2
        omega
/-- an entry is at most each walk, and a number that is no limit is small -/
theorem Rnds.le_any (R : Rnds W n V D) {v : Nat} (hv : v ≤ V) {e : Nat} {f : Nat → Nat} (h : IsW W n v f e) : D v (f 0) (f e) ≤ wtW W f e ∧ D v (f 0) (f e) ≤ 18000000000000000 := by
  obtain ⟨g, d, hd, hg, g0, gd, gw⟩ := R.short v hv e f h
  have a := R.le_walk v hv g d (by have := R.size; omega) hg
  have b := R.wt_hi (v := v) (f := g) (e := d) hg.lt hg.fin
  rw [g0, gd] at a
  have := R.size
  omega
theorem Rnds.high (R : Rnds W n V D) {v : Nat} (hv : v ≤ V) {a b : Nat} (ha : a < n) (hb : b < n) (h : D v a b < openI) : D v a b ≤ 18000000000000000 := by
  obtain ⟨f, e, k, h0, he, -⟩ := R.walk v hv a b ha hb h
  have := (R.le_any hv k).2
  rwa [h0, he] at this
/-- two walks, one behind the other -/
theorem IsW.join {v k : Nat} {f g : Nat → Nat} {e d : Nat} (hf : IsW W n v f e) (hg : IsW W n v g d) (hk : f e = k) (hk' : g 0 = k) (hkv : k < v) : ∃ F, IsW W n v F (e + d) ∧ F 0 = f 0 ∧ F (e + d) = g d ∧ wtW W F (e + d) = wtW W f e + wtW W g d := by
  have e1 := hf.one
  have d1 := hg.one
  obtain ⟨F, hF⟩ : ∃ F : Nat → Nat, ∀ t, F t = if t ≤ e then f t else g (t - e) := ⟨_, fun _ => rfl⟩
  have c1 : ∀ i, i ≤ e → F i = f i := fun i hi => by rw [hF, if_pos hi]
  have c2 : ∀ i, F (e + i) = g i := fun i => by
    rw [hF]
    by_cases hi : i = 0
    · subst hi; rw [if_pos (by omega), Nat.add_zero, hk, hk']
    · rw [if_neg (by omega), show e + i - e = i by omega]
  refine ⟨F, ⟨by omega, fun i h1 h2 => ?_, fun i hi => ?_, fun i hi => ?_⟩, c1 0 (by omega), c2 d, ?_⟩
  · by_cases hi : i < e
    · rw [c1 i (by omega)]; exact hf.mid i h1 hi
    · by_cases hi2 : i = e
      · subst hi2; rw [c1 i (Nat.le_refl _), hk]; exact hkv
      · rw [show i = e + (i - e) by omega, c2]; exact hg.mid (i - e) (by omega) (by omega)
  · by_cases hi2 : i ≤ e
    · rw [c1 i hi2]; exact hf.lt i hi2
    · rw [show i = e + (i - e) by omega, c2]; exact hg.lt (i - e) (by omega)
  · by_cases hi2 : i < e
    · rw [c1 i (by omega), c1 (i + 1) (by omega)]; exact hf.fin i hi2
    · rw [show i = e + (i - e) by omega, c2, show e + (i - e) + 1 = e + (i - e + 1) by omega, c2]; exact hg.fin (i - e) (by omega)
  · rw [wtW_add, wtW_congr (g := f) c1, wtW_congr (g := g) (fun i _ => c2 i)]
/-- the triangle -/
theorem Rnds.tri (R : Rnds W n n D) {a k b : Nat} (ha : a < n) (hk : k < n) (hb : b < n) (h1 : D n a k < openI) (h2 : D n k b < openI) : D n a b ≤ D n a k + D n k b ∧ D n a b < openI := by
  obtain ⟨f, e, kf, f0, fe, fw⟩ := R.walk n (Nat.le_refl _) a k ha hk h1
  obtain ⟨g, d, kg, g0, gd, gw⟩ := R.walk n (Nat.le_refl _) k b hk hb h2
  obtain ⟨F, kF, F0, Fe, Fw⟩ := kf.join kg fe g0 hk
  have := R.le_any (Nat.le_refl n) kF
  have hop : openI = 100000000000000000 := rfl
  rw [F0, Fe, Fw, f0, gd, fw, gw] at this
  omega
/-- from one round to the next entries do not grow -/
theorem Rnds.le_zero (R : Rnds W n V D) {a b : Nat} (ha : a < n) (hb : b < n) : ∀ v, v ≤ V → D v a b ≤ W a b
  | 0, _ => by rw [R.zero a b ha hb]; exact Int.le_refl _
  | v + 1, hv => by
    have := R.le_step (show v < V by omega) ha hb
    have := R.le_zero ha hb v (by omega)
    omega
/-- the first matrix says what the uses say, and nothing more -/
theorem fold_le {n : Nat} : ∀ (l : List Lim) {M : List (List Int)}, First n M → (∀ x ∈ l, LimFit n x) → (∀ a b, a < n → b < n → getM (l.foldl useM M) a b ≤ getM M a b) ∧ ∀ x ∈ l, getM (l.foldl useM M) x.f.toNat x.s.toNat ≤ x.m
  | [], _, _, _ => ⟨fun _ _ _ _ => Int.le_refl _, fun x hx => by cases hx⟩
  | y :: l, M, F, h => by
    have hy := h y (by simp)
    obtain ⟨k1, k2⟩ := fold_le l (F.use hy) (fun z hz => h z (by simp [hz]))
    have hg : ∀ a b, getM (useM M y) a b = if a = y.f.toNat ∧ b = y.s.toNat then min (getM M y.f.toNat y.s.toNat) y.m else getM M a b := fun a b => getM_put F.sh hy.f hy.s _ a b
    refine ⟨fun a b ha hb => ?_, fun x hx => ?_⟩
    · have := k1 a b ha hb
      rw [hg] at this
      show getM (l.foldl useM (useM M y)) a b ≤ _
      split at this
      · rename_i e; rw [e.1, e.2] at this ⊢; omega
      · exact this
    · rcases List.mem_cons.1 hx with rfl | hx
      · have := k1 x.f.toNat x.s.toNat hy.f hy.s
        rw [hg, if_pos ⟨rfl, rfl⟩] at this
        show getM (l.foldl useM (useM M x)) _ _ ≤ _
        omega
      · exact k2 x hx
theorem fold_from {n : Nat} : ∀ (l : List Lim) {M : List (List Int)}, First n M → (∀ x ∈ l, LimFit n x) → ∀ a b, getM (l.foldl useM M) a b = getM M a b ∨ ∃ x ∈ l, a = x.f.toNat ∧ b = x.s.toNat ∧ getM (l.foldl useM M) a b = x.m
  | [], _, _, _, _, _ => .inl rfl
  | y :: l, M, F, h, a, b => by
    have hy := h y (by simp)
    have hg : ∀ a b, getM (useM M y) a b = if a = y.f.toNat ∧ b = y.s.toNat then min (getM M y.f.toNat y.s.toNat) y.m else getM M a b := fun a b => getM_put F.sh hy.f hy.s _ a b
    rcases fold_from l (F.use hy) (fun z hz => h z (by simp [hz])) a b with e | ⟨x, hx, e1, e2, e3⟩
    · rw [hg] at e
      by_cases c : a = y.f.toNat ∧ b = y.s.toNat
      · rw [if_pos c] at e
        by_cases hm : getM M y.f.toNat y.s.toNat ≤ y.m
        · rw [Int.min_eq_left hm] at e
          exact .inl (by show getM (l.foldl useM (useM M y)) a b = _; rw [e, c.1, c.2])
        · rw [Int.min_eq_right (by omega)] at e
          exact .inr ⟨y, by simp, c.1, c.2, e⟩
      · rw [if_neg c] at e
        exact .inl e
    · exact .inr ⟨x, by simp [hx], e1, e2, e3⟩
end Go.Proofs.YtmfpnfdoidihcaaDoor.Ct
namespace Go.Proofs.YtmfpnfdoidihcaaDoor.Ct
open Go Go.RowKit
theorem lim_up {l : List Bnd} {i : Nat} (hi : i < l.length) : limUp (bndAt l i) ∈ limsL l ∧ limDn (bndAt l i) ∈ limsL l := by
  have mem : ∀ N, i < N → (i, true) ∈ useN N ∧ (i, false) ∈ useN N := by
    intro N
    induction N with
    | zero => intro h; exact absurd h (Nat.not_lt_zero _)
    | succ N ih =>
      intro h
      unfold useN
      by_cases e : i = N
      · subst e; exact ⟨List.mem_append_right _ (by simp), List.mem_append_right _ (by simp)⟩
      · have := ih (by omega)
        exact ⟨List.mem_append_left _ this.1, List.mem_append_left _ this.2⟩
  obtain ⟨h1, h2⟩ := mem l.length hi
  exact ⟨List.mem_map.2 ⟨_, h1, rfl⟩, List.mem_map.2 ⟨_, h2, rfl⟩⟩
/-- the narrowest matrix of a net -/
structure Narr (n : Nat) (l : List Bnd) (M : List (List Int)) : Prop where
  tri : ∀ a k b, a < n → k < n → b < n → getM M a k < openI → getM M k b < openI → getM M a b ≤ getM M a k + getM M k b
  sol : ∀ i a, i < l.length → a < n → ((getM M (bndAt l i).a.toNat a < openI ↔ getM M (bndAt l i).b.toNat a < openI) ∧ (getM M (bndAt l i).a.toNat a < openI → (bndAt l i).lo ≤ getM M (bndAt l i).a.toNat a - getM M (bndAt l i).b.toNat a ∧ getM M (bndAt l i).a.toNat a - getM M (bndAt l i).b.toNat a ≤ (bndAt l i).hi))
  diag : ∀ a, a < n → getM M a a = 0
  op : ∀ a b, a < n → b < n → getM M a b ≤ openI
  lo : ∀ a b, a < n → b < n → -18000000000000000 ≤ getM M a b
theorem narr_of {n : Nat} {l : List Bnd} (hn : n ≤ 16) (hl : LimsOk n l) (h : (narrowS n l).2 = true) : Narr n l (narrowS n l).1 := by
  have F := bound_first hn hl
  have hop : openI = 100000000000000000 := rfl
  unfold narrowS at h ⊢
  have R := via_R F (Nat.le_refl n) h
  obtain ⟨k1, k2⟩ := fold_le (limsL l) (⟨shape_diag n n, hn, fun a ha => by rw [diag_at n n (Nat.le_refl _) a a ha ha, if_pos ⟨rfl, ha⟩]; exact Int.le_refl _, fun a b ha hb => by rw [diag_at n n (Nat.le_refl _) a b ha hb]; split <;> omega, fun a b ha hb => by rw [diag_at n n (Nat.le_refl _) a b ha hb]; split <;> (intro _; omega), fun a b ha hb => by rw [diag_at n n (Nat.le_refl _) a b ha hb]; split <;> omega⟩ : First n (diagM n n)) (fun x hx => lim_fit hl hx)
  have tri : ∀ a k b, a < n → k < n → b < n → getM (viaM n (boundM n (limsL l)) n).1 a k < openI → getM (viaM n (boundM n (limsL l)) n).1 k b < openI → getM (viaM n (boundM n (limsL l)) n).1 a b ≤ getM (viaM n (boundM n (limsL l)) n).1 a k + getM (viaM n (boundM n (limsL l)) n).1 k b ∧ getM (viaM n (boundM n (limsL l)) n).1 a b < openI := fun a k b ha hk hb h1 h2 => R.tri ha hk hb h1 h2
  have edge : ∀ x ∈ limsL l, getM (viaM n (boundM n (limsL l)) n).1 x.f.toNat x.s.toNat ≤ x.m := fun x hx => by
    have f := lim_fit hl hx
    have a := R.le_zero f.f f.s n (Nat.le_refl n)
    have b := k2 x hx
    exact Int.le_trans a b
  refine ⟨fun a k b ha hk hb h1 h2 => (tri a k b ha hk hb h1 h2).1, fun i a hi ha => ?_, fun a ha => ?_, fun a b ha hb => via_op F n (Nat.le_refl _) h a b ha hb, fun a b ha hb => R.low (Nat.le_refl n) ha hb⟩
  · obtain ⟨u1, u2⟩ := lim_up hi
    have e1 := edge _ u1
    have e2 := edge _ u2
    have f1 := lim_fit hl u1
    have m1 := f1.m
    have m2 := (lim_fit hl u2).m
    have fa := f1.f
    have fb := f1.s
    unfold limUp at e1 m1 fa fb
    unfold limDn at e2 m2
    dsimp only at e1 e2 m1 m2 fa fb
    have t1 := tri _ _ a fa fb ha (show _ < openI by omega)
    have t2 := tri _ _ a fb fa ha (show _ < openI by omega)
    refine ⟨⟨fun h => (t2 h).2, fun h => (t1 h).2⟩, fun h => ?_⟩
    have h' := (t2 h).2
    have := (t2 h).1
    have := (t1 h').1
    omega
  · have a0 := via_diag F n (Nat.le_refl _) h a ha
    have a1 := R.le_zero ha ha n (Nat.le_refl n)
    have a2 := k1 a a ha ha
    rw [diag_at n n (Nat.le_refl _) a a ha ha, if_pos ⟨rfl, ha⟩] at a2
    have a3 : getM (viaM n (boundM n (limsL l)) n).1 a a ≤ getM (boundM n (limsL l)) a a := a1
    have a4 : getM (boundM n (limsL l)) a a ≤ 0 := a2
    omega
/-- numbers that fulfil the net -/
def Solves (l : List Bnd) (x : Nat → Int) : Prop := ∀ y ∈ limsL l, x y.f.toNat - x y.s.toNat ≤ y.m
def PotM (n : Nat) (x : Nat → Int) (M : List (List Int)) : Prop := ∀ a b, a < n → b < n → getM M a b < openI → x a - x b ≤ getM M a b
theorem pot_new {n : Nat} {x : Nat → Int} {M : List (List Int)} (h : PotM n x M) {v a j : Nat} (hv : v < n) (ha : a < n) (hj : j < n) (hf : newM M v a j < openI) : x a - x j ≤ newM M v a j := by
  unfold newM at hf ⊢
  split
  · rename_i hc
    rw [if_pos hc] at hf
    have h1 := h a v ha hv hc.1
    have h2 := h v j hv hj hc.2
    by_cases hm : getM M a j ≤ getM M a v + getM M v j
    · rw [Int.min_eq_left hm] at hf ⊢; exact h a j ha hj hf
    · rw [Int.min_eq_right (by omega)]; omega
  · rename_i hc
    rw [if_neg hc] at hf
    exact h a j ha hj hf
theorem pot_col {n : Nat} {x : Nat → Int} {M : List (List Int)} (sh : Shape n M) (h : PotM n x M) {v : Nat} (hv : v < n) (h0 : 0 ≤ getM M v v) : ∀ a, a ≤ n → (colM n M v a).2 = true
  | 0, _ => rfl
  | a + 1, ha => by
    have ih := pot_col sh h hv h0 a (by omega)
    have e2 : colM n M v (a + 1) = (rowM (colM n M v a).1 v a n, decide (0 ≤ getM (rowM (colM n M v a).1 v a n) a a)) := by
      conv => lhs; unfold colM
      rw [if_pos ih]
    rw [e2]
    show decide _ = true
    rw [decide_eq_true_eq]
    have hop : openI = 100000000000000000 := rfl
    rcases col_row_at sh h0 hv (by omega) ih (Nat.le_refl n) a a (show a < n by omega) with e | e
    · rw [e]
      by_cases hf : newM M v a a < openI
      · have := pot_new h hv (by omega) (by omega) hf; omega
      · omega
    · rw [e]
      by_cases hf : getM M a a < openI
      · have := h a a (by omega) (by omega) hf; omega
      · omega
theorem pot_via {n : Nat} {x : Nat → Int} {M : List (List Int)} (F : First n M) (h : PotM n x M) : ∀ v, v ≤ n → (viaM n M v).2 = true ∧ PotM n x (viaM n M v).1
  | 0, _ => ⟨rfl, h⟩
  | v + 1, hv => by
    obtain ⟨i1, i2⟩ := pot_via F h v (by omega)
    have sh := F.sh.via v
    have h0 := via_diag F v (by omega) i1 v (by omega)
    have e : viaM n M (v + 1) = colM n (viaM n M v).1 v n := by
      conv => lhs; unfold viaM
      rw [if_pos i1]
    have hf := pot_col sh i2 (show v < n by omega) h0 n (Nat.le_refl _)
    rw [e]
    refine ⟨hf, fun a b ha hb hlt => ?_⟩
    rw [col_at sh h0 (by omega) n (Nat.le_refl _) hf a b hb, if_pos ha] at hlt ⊢
    exact pot_new i2 (by omega) ha hb hlt
/-- a net that has a solution has a narrowest matrix -/
theorem narrow_yes {n : Nat} {l : List Bnd} (hn : n ≤ 16) (hl : LimsOk n l) {x : Nat → Int} (hx : Solves l x) : (narrowS n l).2 = true := by
  have F := bound_first hn hl
  have hop : openI = 100000000000000000 := rfl
  show (viaM n (boundM n (limsL l)) n).2 = true
  refine (pot_via (x := x) F (fun a b ha hb hf => ?_) n (Nat.le_refl _)).1
  rcases fold_from (limsL l) (⟨shape_diag n n, hn, fun a ha => by rw [diag_at n n (Nat.le_refl _) a a ha ha, if_pos ⟨rfl, ha⟩]; exact Int.le_refl _, fun a b ha hb => by rw [diag_at n n (Nat.le_refl _) a b ha hb]; split <;> omega, fun a b ha hb => by rw [diag_at n n (Nat.le_refl _) a b ha hb]; split <;> (intro _; omega), fun a b ha hb => by rw [diag_at n n (Nat.le_refl _) a b ha hb]; split <;> omega⟩ : First n (diagM n n)) (fun x hx => lim_fit hl hx) a b with e | ⟨y, hy, e1, e2, e3⟩
  · change getM (boundM n (limsL l)) a b = _ at e
    rw [e, diag_at n n (Nat.le_refl _) a b ha hb] at hf ⊢
    split
    · rename_i hc; rw [hc.1]; omega
    · rename_i hc; rw [if_neg hc] at hf; omega
  · change getM (boundM n (limsL l)) a b = _ at e3
    rw [e3, e1, e2]
    exact hx y hy
/-- a round that ends settled has changed nothing, and all its uses are fulfilled -/
theorem settled_fold {l : List Bnd} : ∀ (us : List (Nat × Bool)) (s : Ctr), (foldK l s us).settled = true → foldK l s us = s ∧ s.settled = true ∧ ∀ d ∈ us, s.lev (kLim l d).f.toNat - s.lev (kLim l d).s.toNat ≤ (kLim l d).m
  | [], s, h => ⟨rfl, h, fun d hd => by cases hd⟩
  | d :: us, s, h => by
    obtain ⟨h1, h2, h3⟩ := settled_fold us (stepK l s d) h
    by_cases hc : s.lev (kLim l d).f.toNat - s.lev (kLim l d).s.toNat ≤ (kLim l d).m
    · have e : stepK l s d = s := if_pos hc
      rw [e] at h1 h2 h3
      refine ⟨?_, h2, fun y hy => ?_⟩
      · show foldK l (stepK l s d) us = s
        rw [e]; exact h1
      · rcases List.mem_cons.1 hy with rfl | hy
        · exact hc
        · exact h3 y hy
    · have e : (stepK l s d).settled = false := by unfold stepK; rw [if_neg hc]
      rw [e] at h2; cases h2
theorem settled_solves {l : List Bnd} {t : Nat} (h : (roundsK l (t + 1)).settled = true) : Solves l (roundsK l (t + 1)).lev := by
  have k := settled_fold (useN l.length) { roundsK l t with settled := true } h
  intro y hy
  obtain ⟨q, hq, rfl⟩ := List.mem_map.1 hy
  have e : roundsK l (t + 1) = { roundsK l t with settled := true } := k.1
  rw [e]
  exact k.2.2 q hq
end Go.Proofs.YtmfpnfdoidihcaaDoor.Ct
namespace Go.Proofs.YtmfpnfdoidihcaaDoor.Ct
open Go Go.RowKit
/-- a bound that the numbers x fulfil -/
structure TrueIn (n : Nat) (x : Nat → Int) (y : Bnd) : Prop where
  a : 0 ≤ y.a ∧ y.a ≤ (n : Int) - 1
  b : 0 ≤ y.b ∧ y.b ≤ (n : Int) - 1
  ne : y.a ≠ y.b
  lo : -1000000000000000 ≤ y.lo
  hi : y.hi ≤ 1000000000000000
  tr : y.lo ≤ x y.a.toNat - x y.b.toNat ∧ x y.a.toNat - x y.b.toNat ≤ y.hi
theorem true_err {n : Nat} {x : Nat → Int} {l : List Bnd} (hn : 1 ≤ n ∧ n ≤ 16) (hl : l.length ≤ 240) (h : ∀ y ∈ l, TrueIn n x y) : netErr n l = 0 := by
  unfold netErr
  rw [if_pos (by omega), if_pos hl, if_pos]
  refine List.all_eq_true.2 fun y hy => bndOk_iff.2 ?_
  have k := h y hy
  have t := k.tr
  have h1 := k.lo
  have h2 := k.hi
  exact ⟨k.a, k.b, k.ne, by omega, by omega, by omega⟩
theorem bndAt_mem {l : List Bnd} {i : Nat} (h : i < l.length) : bndAt l i ∈ l := by
  rw [← bndAt_get h]; exact List.getElem_mem h
theorem true_solves {n : Nat} {x : Nat → Int} {l : List Bnd} (h : ∀ y ∈ l, TrueIn n x y) : Solves l x := by
  intro y hy
  unfold limsL at hy
  obtain ⟨q, hq, rfl⟩ := List.mem_map.1 hy
  have k := (h _ (bndAt_mem (useN_lt _ _ hq))).tr
  unfold limOf
  cases q.2
  · rw [if_neg (by decide)]
    show x (bndAt l q.1).b.toNat - x (bndAt l q.1).a.toNat ≤ -(bndAt l q.1).lo
    omega
  · rw [if_pos rfl]
    exact k.2
/-- a matrix of a net that has a solution holds the solution's differences -/
theorem narrow_pot {n : Nat} {l : List Bnd} (hn : n ≤ 16) (hl : LimsOk n l) {x : Nat → Int} (hx : Solves l x) : (narrowS n l).2 = true ∧ PotM n x (narrowS n l).1 := by
  have F := bound_first hn hl
  have hop : openI = 100000000000000000 := rfl
  show (viaM n (boundM n (limsL l)) n).2 = true ∧ PotM n x (viaM n (boundM n (limsL l)) n).1
  refine pot_via (x := x) F (fun a b ha hb hf => ?_) n (Nat.le_refl _)
  rcases fold_from (limsL l) (⟨shape_diag n n, hn, fun a ha => by rw [diag_at n n (Nat.le_refl _) a a ha ha, if_pos ⟨rfl, ha⟩]; exact Int.le_refl _, fun a b ha hb => by rw [diag_at n n (Nat.le_refl _) a b ha hb]; split <;> omega, fun a b ha hb => by rw [diag_at n n (Nat.le_refl _) a b ha hb]; split <;> (intro _; omega), fun a b ha hb => by rw [diag_at n n (Nat.le_refl _) a b ha hb]; split <;> omega⟩ : First n (diagM n n)) (fun x hx => lim_fit hl hx) a b with e | ⟨y, hy, e1, e2, e3⟩
  · change getM (boundM n (limsL l)) a b = _ at e
    rw [e, diag_at n n (Nat.le_refl _) a b ha hb] at hf ⊢
    split
    · rename_i hc; rw [hc.1]; omega
    · rename_i hc; rw [if_neg hc] at hf; omega
  · change getM (boundM n (limsL l)) a b = _ at e3
    rw [e3, e1, e2]
    exact hx y hy
/-- at most so many pairs -/
def tri2 : Nat → Nat
  | 0 => 0
  | a + 1 => tri2 a + a
theorem tri2_le : ∀ a : Nat, a ≤ 16 → tri2 a ≤ 120 := by
  intro a h
  have : ∀ a : Fin 17, tri2 a.1 ≤ 120 := by decide
  exact this ⟨a, by omega⟩
end Go.Proofs.YtmfpnfdoidihcaaDoor.Ct
