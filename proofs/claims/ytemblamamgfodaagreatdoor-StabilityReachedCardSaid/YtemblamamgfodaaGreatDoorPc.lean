/- Plain facts: the variances with nothing but sums; lines, scales, directions. -/
import Derived.Test.YtemblamamgfodaaGreatDoorStP
namespace Go.Proofs.YtemblamamgfodaaGreatDoor
open Go Go.RowKit
/-! the variances, with nothing but sums -/
def varF (k : Nat) (f : Nat → Int) (dv : Int) : VarE := if k = 0 then ⟨0, 0, 4⟩ else ⟨lowN (sumF (fun i => f i * f i) k) (k * dv), lowD (sumF (fun i => f i * f i) k) (k * dv), 0⟩
def errF (tau : Int) (l : List Int) (m : Int) (v : VarE) : VarE := if stepErr tau l m = 0 then v else ⟨0, 0, stepErr tau l m⟩
theorem sqSum_range (g : Nat → SInt) : ∀ k, sqSum ((List.range k).map g) = sumF (fun i => (g i).1 * (g i).1) k
  | 0 => rfl
  | k + 1 => by
    have ih := sqSum_range g k
    unfold sqSum at ih ⊢
    rw [List.range_succ, List.map_append, List.map_append, List.sum_append, ih]
    simp [sumF]
theorem varE_range (g : Nat → SInt) (k : Nat) (dv : Int) : varE ((List.range k).map g) dv = varF k (fun i => (g i).1) dv := by
  unfold varE varF
  by_cases hk : k = 0
  · subst hk; rfl
  · have hne : ¬ (List.range k).map g = [] := by
      intro h; have := congrArg List.length h; simp at this; exact hk this
    rw [if_neg hk, if_neg hne, sqSum_range]
    simp
def winAt (l : List Int) (m i : Nat) : Int := sumF (fun j => secAt l m (i + j)) m
theorem sumsV_eq (l : List Int) (hp : phasesOk l = true) (m i : Nat) (hm : m ≤ 32) (h : i + m ≤ l.length - 2 * m) : sumsV l hp m i = winAt l m i := by
  unfold sumsV winAt totalL
  have hd := difL_len l hp m
  rw [if_pos hm, partL_len (by rw [hd]; exact h)]
  refine sumF_congr _ _ _ fun j hj => ?_
  unfold partL
  have h1 : i + j < (difL l hp m).length := by rw [hd]; omega
  unfold atL
  rw [List.getElem?_take, if_pos hj, List.getElem?_drop, List.getElem?_eq_getElem h1]
  simp only [difL, secL, Option.getD_some, List.getElem_map, List.getElem_range]
  show secAt l m ((i + j) * 1) = _
  rw [Nat.mul_one]
theorem outE_range (tau : Int) (l : List Int) (m : Int) (g : stepErr tau l m = 0 → Nat → SInt) (k : Nat) (f : Nat → Int) (dv : Int) (h : ∀ he, ∀ i, i < k → (g he i).1 = f i) :
    outE tau l m (fun he => (List.range k).map (g he)) dv = errF tau l m (varF k f dv) := by
  unfold outE errF
  by_cases he : stepErr tau l m = 0
  · rw [dif_pos he, if_pos he, varE_range]
    unfold varF
    rw [sumF_congr (fun i => (g he i).1 * (g he i).1) (fun i => f i * f i) k (fun i hi => by rw [h he i hi])]
  · rw [dif_neg he, if_neg he]
theorem allanE_eq (tau : Int) (l : List Int) (m : Int) : allanE tau l m = errF tau l m (varF (cntS l.length (2 * m.toNat) m.toNat) (fun j => secAt l m.toNat (j * m.toNat)) (divTwo m tau)) :=
  outE_range tau l m (fun he j => secD l (stepErr_zero he).2.2.1 m.toNat (j * m.toNat)) _ _ _ (fun _ _ _ => rfl)
theorem cntS_one (a b : Nat) : cntS a b 1 = a - b := by simp [cntS]
theorem overlappingE_eq (tau : Int) (l : List Int) (m : Int) : overlappingE tau l m = errF tau l m (varF (l.length - 2 * m.toNat) (fun j => secAt l m.toNat j) (divTwo m tau)) := by
  rw [← cntS_one]
  exact outE_range tau l m (fun he j => secD l (stepErr_zero he).2.2.1 m.toNat (j * 1)) _ _ _ (fun _ i _ => by simp [secD])
theorem hadamardE_eq (tau : Int) (l : List Int) (m : Int) : hadamardE tau l m = errF tau l m (varF (l.length - 3 * m.toNat) (fun j => thiAt l m.toNat j) (divSix m tau)) :=
  outE_range tau l m (fun he j => thiD l (stepErr_zero he).2.2.1 m.toNat j) _ _ _ (fun _ _ _ => rfl)
theorem modifiedE_eq (tau : Int) (l : List Int) (m : Int) : modifiedE tau l m = errF tau l m (varF (l.length - 2 * m.toNat + 1 - m.toNat) (fun j => winAt l m.toNat j) (divMod m tau)) :=
  outE_range tau l m (fun he j => sumsD l (stepErr_zero he).2.2.1 m.toNat j) _ _ _ (fun he i hi => by
    have := (stepErr_zero he).2.2.2
    exact sumsV_eq l _ m.toNat i (by omega) (by omega))
theorem timeE_eq (tau : Int) (l : List Int) (m : Int) : timeE tau l m = errF tau l m (varF (l.length - 2 * m.toNat + 1 - m.toNat) (fun j => winAt l m.toNat j) (divTime m tau)) :=
  outE_range tau l m (fun he j => sumsD l (stepErr_zero he).2.2.1 m.toNat j) _ _ _ (fun he i hi => by
    have := (stepErr_zero he).2.2.2
    exact sumsV_eq l _ m.toNat i (by omega) (by omega))
theorem varF_congr {k : Nat} {f g : Nat → Int} (dv : Int) (h : ∀ i, i < k → f i = g i) : varF k f dv = varF k g dv := by
  unfold varF
  rw [sumF_congr (fun i => f i * f i) (fun i => g i * g i) k (fun i hi => by rw [h i hi])]
/-! a line that is added -/
structure Added (l l' : List Int) (a b : Int) : Prop where
  len : l'.length = l.length
  at_ : ∀ i, i < l.length → atL l' i = atL l i + a + b * i
theorem Added.sec {l l' : List Int} {a b : Int} (h : Added l l' a b) (m i : Nat) (hi : i + 2 * m < l.length) : secAt l' m i = secAt l m i := by
  unfold secAt
  rw [h.at_ (i + 2 * m) hi, h.at_ (i + m) (by omega), h.at_ i (by omega)]
  push_cast
  grind
theorem Added.win {l l' : List Int} {a b : Int} (h : Added l l' a b) (m i : Nat) (hi : i + 3 * m ≤ l.length) : winAt l' m i = winAt l m i :=
  sumF_congr _ _ _ fun j hj => h.sec m (i + j) (by omega)
structure Curved (l l' : List Int) (a b c : Int) : Prop where
  len : l'.length = l.length
  at_ : ∀ i, i < l.length → atL l' i = atL l i + a + b * i + c * i * i
theorem Curved.thi {l l' : List Int} {a b c : Int} (h : Curved l l' a b c) (m i : Nat) (hi : i + 3 * m < l.length) : thiAt l' m i = thiAt l m i := by
  unfold thiAt
  rw [h.at_ (i + 3 * m) hi, h.at_ (i + 2 * m) (by omega), h.at_ (i + m) (by omega), h.at_ i (by omega)]
  push_cast
  grind
theorem Added.curved {l l' : List Int} {a b : Int} (h : Added l l' a b) : Curved l l' a b 0 := ⟨h.len, fun i hi => by rw [h.at_ i hi]; simp⟩
theorem errF_same {tau : Int} {l l' : List Int} {m : Int} {v v' : VarE} (he : stepErr tau l m = stepErr tau l' m) (h : stepErr tau l m = 0 → v = v') : errF tau l m v = errF tau l' m v' := by
  unfold errF
  rw [← he]
  split
  · exact h (by assumption)
  · rfl
theorem line_hadamard {tau : Int} {l l' : List Int} {m a b c : Int} (h : Curved l l' a b c) (he : stepErr tau l m = stepErr tau l' m) : hadamardE tau l m = hadamardE tau l' m := by
  rw [hadamardE_eq, hadamardE_eq, h.len]
  exact errF_same he fun _ => varF_congr _ fun i hi => (h.thi _ _ (by omega)).symm
theorem line_overlapping {tau : Int} {l l' : List Int} {m a b : Int} (h : Added l l' a b) (he : stepErr tau l m = stepErr tau l' m) : overlappingE tau l m = overlappingE tau l' m := by
  rw [overlappingE_eq, overlappingE_eq, h.len]
  exact errF_same he fun _ => varF_congr _ fun i hi => (h.sec _ _ (by omega)).symm
theorem line_modified {tau : Int} {l l' : List Int} {m a b : Int} (h : Added l l' a b) (he : stepErr tau l m = stepErr tau l' m) : modifiedE tau l m = modifiedE tau l' m := by
  rw [modifiedE_eq, modifiedE_eq, h.len]
  exact errF_same he fun h0 => varF_congr _ fun i hi => (h.win _ _ (by have := (stepErr_zero h0).2.2.2; omega)).symm
theorem line_allan {tau : Int} {l l' : List Int} {m a b : Int} (h : Added l l' a b) (he : stepErr tau l m = stepErr tau l' m) : allanE tau l m = allanE tau l' m := by
  rw [allanE_eq, allanE_eq, h.len]
  exact errF_same he fun h0 => varF_congr _ fun i hi => (h.sec _ _ (by have := (stepErr_zero h0).2.2.2; have := (cntS_lt (len := l.length) (m := 2 * m.toNat) (st := m.toNat) (j := i) (by omega)).1 hi; omega)).symm
/-! scales and directions -/
theorem cross_eq (X Y D E k : Int) (hD : 1 ≤ D) (hE : 1 ≤ E) (h : Y * D = X * k * E) : lowN Y E * lowD X D = lowN X D * k * lowD Y E := by
  have hg := gcdS_pos X D hD
  have hh := gcdS_pos Y E hE
  have a1 := gcdS_n X D
  have a2 := gcdS_d X D
  have b1 := gcdS_n Y E
  have b2 := gcdS_d Y E
  have e1 : gcdS X D * gcdS Y E * (lowN Y E * lowD X D) = Y * D := by
    rw [show gcdS X D * gcdS Y E * (lowN Y E * lowD X D) = (gcdS Y E * lowN Y E) * (gcdS X D * lowD X D) by grind, b1, a2]
  have e2 : gcdS X D * gcdS Y E * (lowN X D * k * lowD Y E) = X * k * E := by
    rw [show gcdS X D * gcdS Y E * (lowN X D * k * lowD Y E) = (gcdS X D * lowN X D) * k * (gcdS Y E * lowD Y E) by grind, a1, b2]
  have hne : gcdS X D * gcdS Y E ≠ 0 := Int.mul_ne_zero (by omega) (by omega)
  exact Int.eq_of_mul_eq_mul_left hne (by rw [e1, e2, h])
structure Times (l l' : List Int) (k : Int) : Prop where
  len : l'.length = l.length
  at_ : ∀ i, i < l.length → atL l' i = atL l i * k
theorem Times.sec {l l' : List Int} {k : Int} (h : Times l l' k) (m i : Nat) (hi : i + 2 * m < l.length) : secAt l' m i = secAt l m i * k := by
  unfold secAt
  rw [h.at_ (i + 2 * m) hi, h.at_ (i + m) (by omega), h.at_ i (by omega)]
  grind
theorem Times.thi {l l' : List Int} {k : Int} (h : Times l l' k) (m i : Nat) (hi : i + 3 * m < l.length) : thiAt l' m i = thiAt l m i * k := by
  unfold thiAt
  rw [h.at_ (i + 3 * m) hi, h.at_ (i + 2 * m) (by omega), h.at_ (i + m) (by omega), h.at_ i (by omega)]
  grind
theorem sumF_mul_right (k : Int) (f : Nat → Int) (n : Nat) : sumF (fun i => f i * k) n = sumF f n * k := by
  rw [Int.mul_comm, ← sumF_mul]; exact sumF_congr _ _ _ fun i _ => Int.mul_comm _ _
theorem Times.win {l l' : List Int} {k : Int} (h : Times l l' k) (m i : Nat) (hi : i + 3 * m ≤ l.length) : winAt l' m i = winAt l m i * k := by
  unfold winAt
  rw [← sumF_mul_right]
  exact sumF_congr _ _ _ fun j hj => h.sec m (i + j) (by omega)
/-- what the law asks of a variance of phases times k -/
structure ScaledE (p q : VarE) (k : Int) : Prop where
  err : p.e = q.e
  eq : p.e = 0 → q.n * p.d = p.n * k * k * q.d
theorem varF_scaled {c : Nat} {f g : Nat → Int} {k dv : Int} (hd : 1 ≤ dv) (h : ∀ i, i < c → g i = f i * k) : ScaledE (varF c f dv) (varF c g dv) k := by
  unfold varF
  by_cases hc : c = 0
  · rw [if_pos hc, if_pos hc]; exact ⟨rfl, fun h => by cases h⟩
  · rw [if_neg hc, if_neg hc]
    refine ⟨rfl, fun _ => ?_⟩
    have hD : 1 ≤ (c : Int) * dv := by have := Int.mul_pos (show (0 : Int) < c by omega) (show 0 < dv by omega); omega
    have hs : sumF (fun i => g i * g i) c = sumF (fun i => f i * f i) c * (k * k) := by
      rw [← sumF_mul_right]; exact sumF_congr _ _ _ fun i hi => by rw [h i hi]; grind
    have := cross_eq (sumF (fun i => f i * f i) c) (sumF (fun i => g i * g i) c) (c * dv) (c * dv) (k * k) hD hD (by rw [hs])
    rw [this]
    show lowN _ _ * (k * k) * lowD _ _ = lowN _ _ * k * k * lowD _ _
    rw [← Int.mul_assoc (lowN _ _)]
theorem errF_scaled {tau : Int} {l l' : List Int} {m k : Int} {v v' : VarE} (he : stepErr tau l m = stepErr tau l' m) (h : stepErr tau l m = 0 → ScaledE v v' k) : ScaledE (errF tau l m v) (errF tau l' m v') k := by
  unfold errF
  rw [← he]
  split
  · exact h (by assumption)
  · exact ⟨rfl, fun h0 => absurd h0 (by assumption)⟩
theorem divTwo_pos {m tau : Int} (hm : 1 ≤ m) (ht : 1 ≤ tau) : 1 ≤ divTwo m tau := by
  have := Int.mul_pos (Int.mul_pos (Int.mul_pos (show (0 : Int) < 2 * m by omega) (show 0 < m by omega)) (show 0 < tau by omega)) (show 0 < tau by omega)
  unfold divTwo; omega
theorem divSix_pos {m tau : Int} (hm : 1 ≤ m) (ht : 1 ≤ tau) : 1 ≤ divSix m tau := by
  have := Int.mul_pos (Int.mul_pos (Int.mul_pos (show (0 : Int) < 6 * m by omega) (show 0 < m by omega)) (show 0 < tau by omega)) (show 0 < tau by omega)
  unfold divSix; omega
theorem divTime_pos {m tau : Int} (hm : 1 ≤ m) : 1 ≤ divTime m tau := by
  have := Int.mul_pos (show (0 : Int) < 6 * m by omega) (show 0 < m by omega)
  unfold divTime; omega
theorem divMod_pos {m tau : Int} (hm : 1 ≤ m) (ht : 1 ≤ tau) : 1 ≤ divMod m tau := by
  have := Int.mul_pos (Int.mul_pos (Int.mul_pos (Int.mul_pos (Int.mul_pos (show (0 : Int) < 2 * m by omega) (show 0 < m by omega)) (show 0 < m by omega)) (show 0 < m by omega)) (show 0 < tau by omega)) (show 0 < tau by omega)
  unfold divMod; omega
theorem times_allan {tau : Int} {l l' : List Int} {m k : Int} (h : Times l l' k) (he : stepErr tau l m = stepErr tau l' m) : ScaledE (allanE tau l m) (allanE tau l' m) k := by
  rw [allanE_eq, allanE_eq, h.len]
  exact errF_scaled he fun h0 => varF_scaled (divTwo_pos (stepErr_zero h0).2.2.2.1 (stepErr_zero h0).2.1.1) fun i hi => h.sec _ _ (by have := (stepErr_zero h0).2.2.2; have := (cntS_lt (len := l.length) (m := 2 * m.toNat) (st := m.toNat) (j := i) (by omega)).1 hi; omega)
theorem times_overlapping {tau : Int} {l l' : List Int} {m k : Int} (h : Times l l' k) (he : stepErr tau l m = stepErr tau l' m) : ScaledE (overlappingE tau l m) (overlappingE tau l' m) k := by
  rw [overlappingE_eq, overlappingE_eq, h.len]
  exact errF_scaled he fun h0 => varF_scaled (divTwo_pos (stepErr_zero h0).2.2.2.1 (stepErr_zero h0).2.1.1) fun i hi => h.sec _ _ (by omega)
theorem times_modified {tau : Int} {l l' : List Int} {m k : Int} (h : Times l l' k) (he : stepErr tau l m = stepErr tau l' m) : ScaledE (modifiedE tau l m) (modifiedE tau l' m) k := by
  rw [modifiedE_eq, modifiedE_eq, h.len]
  exact errF_scaled he fun h0 => varF_scaled (divMod_pos (stepErr_zero h0).2.2.2.1 (stepErr_zero h0).2.1.1) fun i hi => h.win _ _ (by have := (stepErr_zero h0).2.2.2; omega)
theorem times_hadamard {tau : Int} {l l' : List Int} {m k : Int} (h : Times l l' k) (he : stepErr tau l m = stepErr tau l' m) : ScaledE (hadamardE tau l m) (hadamardE tau l' m) k := by
  rw [hadamardE_eq, hadamardE_eq, h.len]
  exact errF_scaled he fun h0 => varF_scaled (divSix_pos (stepErr_zero h0).2.2.2.1 (stepErr_zero h0).2.1.1) fun i hi => h.thi _ _ (by omega)
/-! the opposite order -/
theorem sumF_rev (f : Nat → Int) : ∀ n, sumF (fun i => f (n - 1 - i)) n = sumF f n
  | 0 => rfl
  | n + 1 => by
    rw [show sumF f (n + 1) = sumF f n + f n from rfl, ← sumF_rev f n]
    have e : ∀ (g : Nat → Int) n, sumF g (n + 1) = g 0 + sumF (fun j => g (j + 1)) n := fun g n => by
      induction n with
      | zero => simp [sumF]
      | succ n ih => rw [show sumF g (n + 1 + 1) = sumF g (n + 1) + g (n + 1) from rfl, ih]; show _ = g 0 + (sumF (fun j => g (j + 1)) n + g (n + 1)); omega
    rw [e]
    simp only [Nat.add_sub_cancel, Nat.sub_zero]
    rw [sumF_congr (fun j => f (n - (j + 1))) (fun i => f (n - 1 - i)) n (fun j _ => by congr 1; omega)]
    omega
theorem sumF_rev' {f g : Nat → Int} {n : Nat} (h : ∀ i, i < n → g i = f (n - 1 - i)) : sumF g n = sumF f n := by
  rw [← sumF_rev f n]; exact sumF_congr _ _ _ h
structure Turned (l l' : List Int) : Prop where
  len : l'.length = l.length
  at_ : ∀ i, i < l.length → atL l' i = atL l (l.length - 1 - i)
theorem Turned.sec {l l' : List Int} (h : Turned l l') (m i : Nat) (hi : i + 2 * m < l.length) : secAt l' m i = secAt l m (l.length - 2 * m - 1 - i) := by
  unfold secAt
  rw [h.at_ (i + 2 * m) hi, h.at_ (i + m) (by omega), h.at_ i (by omega)]
  rw [show l.length - 1 - (i + 2 * m) = l.length - 2 * m - 1 - i by omega, show l.length - 1 - (i + m) = l.length - 2 * m - 1 - i + m by omega, show l.length - 1 - i = l.length - 2 * m - 1 - i + 2 * m by omega]
  omega
theorem Turned.thi {l l' : List Int} (h : Turned l l') (m i : Nat) (hi : i + 3 * m < l.length) : thiAt l' m i = -thiAt l m (l.length - 3 * m - 1 - i) := by
  unfold thiAt
  rw [h.at_ (i + 3 * m) hi, h.at_ (i + 2 * m) (by omega), h.at_ (i + m) (by omega), h.at_ i (by omega)]
  rw [show l.length - 1 - (i + 3 * m) = l.length - 3 * m - 1 - i by omega, show l.length - 1 - (i + 2 * m) = l.length - 3 * m - 1 - i + m by omega, show l.length - 1 - (i + m) = l.length - 3 * m - 1 - i + 2 * m by omega, show l.length - 1 - i = l.length - 3 * m - 1 - i + 3 * m by omega]
  omega
theorem Turned.win {l l' : List Int} (h : Turned l l') (m i : Nat) (hm : 1 ≤ m) (hi : i + 3 * m ≤ l.length) : winAt l' m i = winAt l m (l.length - 2 * m + 1 - m - 1 - i) :=
  sumF_rev' (f := fun j => secAt l m (l.length - 2 * m + 1 - m - 1 - i + j)) fun j hj => by
    rw [h.sec m (i + j) (by omega)]
    congr 1
    omega
theorem varF_turned {c : Nat} {f g : Nat → Int} (dv : Int) (h : ∀ i, i < c → g i * g i = f (c - 1 - i) * f (c - 1 - i)) : varF c f dv = varF c g dv := by
  unfold varF
  rw [sumF_rev' (f := fun i => f i * f i) (g := fun i => g i * g i) h]
theorem turned_overlapping {tau : Int} {l l' : List Int} {m : Int} (h : Turned l l') (he : stepErr tau l m = stepErr tau l' m) : overlappingE tau l m = overlappingE tau l' m := by
  rw [overlappingE_eq, overlappingE_eq, h.len]
  exact errF_same he fun _ => varF_turned _ fun i hi => by rw [h.sec _ _ (by omega)]
theorem turned_hadamard {tau : Int} {l l' : List Int} {m : Int} (h : Turned l l') (he : stepErr tau l m = stepErr tau l' m) : hadamardE tau l m = hadamardE tau l' m := by
  rw [hadamardE_eq, hadamardE_eq, h.len]
  exact errF_same he fun _ => varF_turned _ fun i hi => by rw [h.thi _ _ (by omega), Int.neg_mul_neg]
theorem turned_modified {tau : Int} {l l' : List Int} {m : Int} (h : Turned l l') (he : stepErr tau l m = stepErr tau l' m) : modifiedE tau l m = modifiedE tau l' m := by
  rw [modifiedE_eq, modifiedE_eq, h.len]
  exact errF_same he fun h0 => varF_turned _ fun i hi => by have := (stepErr_zero h0).2.2.2; rw [h.win _ _ (by omega) (by omega)]
/-! m = 1 -/
theorem one_overlapping (tau : Int) (l : List Int) : allanE tau l 1 = overlappingE tau l 1 := by
  rw [allanE_eq, overlappingE_eq]
  show errF tau l 1 (varF (cntS l.length 2 1) (fun j => secAt l 1 (j * 1)) _) = errF tau l 1 (varF (l.length - 2) (fun j => secAt l 1 j) _)
  rw [cntS_one]
  congr 1
  exact varF_congr _ fun i _ => by rw [Nat.mul_one]
theorem one_modified (tau : Int) (l : List Int) : overlappingE tau l 1 = modifiedE tau l 1 := by
  rw [modifiedE_eq, overlappingE_eq]
  show errF tau l 1 (varF (l.length - 2) (fun j => secAt l 1 j) _) = errF tau l 1 (varF (l.length - 2 + 1 - 1) (fun j => winAt l 1 j) _)
  rw [Nat.add_sub_cancel]
  have e : divTwo 1 tau = divMod 1 tau := by unfold divTwo divMod; simp
  rw [e]
  congr 1
  exact varF_congr _ fun i _ => by simp [winAt, sumF]
/-! the time variance -/
structure TimedE (p t : VarE) (k : Int) : Prop where
  err : t.e = p.e
  eq : t.e = 0 → 3 * t.n * p.d = p.n * k * t.d
theorem time_mod (tau : Int) (l : List Int) (m : Int) : TimedE (modifiedE tau l m) (timeE tau l m) (m * m * tau * tau) := by
  rw [modifiedE_eq, timeE_eq]
  unfold errF
  by_cases he : stepErr tau l m = 0
  · rw [if_pos he, if_pos he]
    have hz := stepErr_zero he
    unfold varF
    generalize sumF (fun i => winAt l m.toNat i * winAt l m.toNat i) (l.length - 2 * m.toNat + 1 - m.toNat) = X
    generalize l.length - 2 * m.toNat + 1 - m.toNat = c
    by_cases hc : c = 0
    · rw [if_pos hc, if_pos hc]; exact ⟨rfl, fun h => by cases h⟩
    · rw [if_neg hc, if_neg hc]
      refine ⟨rfl, fun _ => ?_⟩
      have h1 := divMod_pos hz.2.2.2.1 hz.2.1.1
      have h2 := divTime_pos (tau := tau) hz.2.2.2.1
      have hD : 1 ≤ (c : Int) * divMod m tau := by have := Int.mul_pos (show (0 : Int) < c by omega) (show 0 < divMod m tau by omega); omega
      have hE : 1 ≤ (c : Int) * divTime m tau := by have := Int.mul_pos (show (0 : Int) < c by omega) (show 0 < divTime m tau by omega); omega
      show 3 * lowN X (c * divTime m tau) * lowD X (c * divMod m tau) = lowN X (c * divMod m tau) * (m * m * tau * tau) * lowD X (c * divTime m tau)
      have hg := gcdS_pos X (c * divMod m tau) hD
      have hh := gcdS_pos X (c * divTime m tau) hE
      have a1 := gcdS_n X (c * divMod m tau)
      have a2 := gcdS_d X (c * divMod m tau)
      have b1 := gcdS_n X (c * divTime m tau)
      have b2 := gcdS_d X (c * divTime m tau)
      have hne : gcdS X (c * divMod m tau) * gcdS X (c * divTime m tau) ≠ 0 := Int.mul_ne_zero (by omega) (by omega)
      refine Int.eq_of_mul_eq_mul_left hne ?_
      rw [show ∀ a b c d : Int, a * b * (3 * c * d) = 3 * (b * c) * (a * d) by intros; grind, b1, a2]
      rw [show ∀ a b c d k : Int, a * b * (c * k * d) = (a * c) * k * (b * d) by intros; grind, a1, b2]
      unfold divMod divTime
      grind
  · rw [if_neg he, if_neg he]
    exact ⟨rfl, fun h => absurd h he⟩
/-! the thinned series -/
structure Thinned (l l' : List Int) (M : Nat) : Prop where
  len : l'.length = (l.length + M - 1) / M
  at_ : ∀ i, i * M < l.length → atL l' i = atL l (i * M)
theorem thin_allan {tau : Int} {l l' : List Int} {M : Nat} (h : Thinned l l' M) (hM : 1 ≤ M) (h0 : stepErr tau l M = 0) (h1 : stepErr (M * tau) l' 1 = 0) : allanE (M * tau) l' 1 = allanE tau l M := by
  rw [allanE_eq, allanE_eq]
  unfold errF
  rw [if_pos h0, if_pos h1]
  show varF (cntS l'.length 2 1) (fun j => secAt l' 1 (j * 1)) _ = varF (cntS l.length (2 * M) M) (fun j => secAt l M (j * M)) _
  have hd : divTwo 1 (M * tau) = divTwo M tau := by unfold divTwo; grind
  rw [hd, cntS_one, h.len]
  have hc : (l.length + M - 1) / M - 2 = cntS l.length (2 * M) M := by
    unfold cntS
    by_cases hl : l.length ≤ 2 * M
    · have h2 : (l.length + M - 1) / M ≤ 2 := by
        have : (l.length + M - 1) / M < 3 := (Nat.div_lt_iff_lt_mul (by omega)).2 (by omega)
        omega
      have h3 : (l.length - 2 * M + M - 1) / M = 0 := Nat.div_eq_of_lt (by omega)
      rw [h3]; omega
    · rw [show l.length + M - 1 = (l.length - 2 * M + M - 1) + M * 2 by omega, Nat.add_mul_div_left _ _ (by omega), Nat.add_sub_cancel]
  rw [hc]
  refine varF_congr _ fun i hi => ?_
  have hi' := (cntS_lt (len := l.length) (m := 2 * M) (st := M) (j := i) hM).1 hi
  have e1 : (i + 1) * M = i * M + M := by rw [Nat.add_mul]; omega
  have e2 : (i + 2) * M = i * M + 2 * M := by rw [Nat.add_mul]
  unfold secAt
  rw [Nat.mul_one, Nat.mul_one, h.at_ (i + 2) (by omega), h.at_ (i + 1) (by omega), h.at_ i (by omega), e1, e2]
end Go.Proofs.YtemblamamgfodaaGreatDoor
