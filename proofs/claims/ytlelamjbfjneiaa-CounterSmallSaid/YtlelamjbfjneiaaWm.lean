/- Plain facts on nets: the matrix's rounds are those of walks; all numbers stay numbers (calmAll). -/
import Derived.Test.YtlelamjbfjneiaaWk
namespace Go.Proofs.Ytlelamjbfjneiaa.Ct
open Go Go.RowKit
/-- a new entry -/
def newM (M : List (List Int)) (v a j : Nat) : Int := if getM M a v < openI ∧ getM M v j < openI then min (getM M a j) (getM M a v + getM M v j) else getM M a j
theorem newM_le (M : List (List Int)) (v a j : Nat) : newM M v a j ≤ getM M a j := by unfold newM; split <;> omega
theorem newM_row {M : List (List Int)} {v : Nat} (h0 : 0 ≤ getM M v v) (j : Nat) : newM M v v j = getM M v j := by unfold newM; split <;> omega
theorem newM_col {M : List (List Int)} {v : Nat} (h0 : 0 ≤ getM M v v) (a : Nat) : newM M v a v = getM M a v := by unfold newM; split <;> omega
theorem getM_relax {n : Nat} {M : List (List Int)} (sh : Shape n M) {v a b : Nat} (ha : a < n) (hb : b < n) (i j : Nat) : getM (relaxM M v a b) i j = if i = a ∧ j = b then newM M v a b else getM M i j := by
  unfold relaxM newM
  by_cases hc : getM M a v < openI ∧ getM M v b < openI
  · rw [if_pos hc, if_pos hc]
    unfold lowM
    rw [getM_put sh ha hb]
  · rw [if_neg hc, if_neg hc]
    by_cases e : i = a ∧ j = b
    · rw [if_pos e, e.1, e.2]
    · rw [if_neg e]
theorem row_at {n : Nat} {M : List (List Int)} (sh : Shape n M) {v a : Nat} (ha : a < n) (h0 : 0 ≤ getM M v v) : ∀ b, b ≤ n → ∀ i j, getM (rowM M v a b) i j = if i = a ∧ j < b then newM M v a j else getM M i j
  | 0, _, i, j => by rw [if_neg (by omega)]; rfl
  | b + 1, hb, i, j => by
    have ih := row_at sh ha h0 b (by omega)
    show getM (relaxM (rowM M v a b) v a b) i j = _
    rw [getM_relax (sh.row v a b) ha (by omega)]
    have e1 : getM (rowM M v a b) a v = getM M a v := by
      rw [ih]
      split
      · exact newM_col h0 a
      · rfl
    have e2 : getM (rowM M v a b) v b = getM M v b := by rw [ih, if_neg (by omega)]
    have e3 : getM (rowM M v a b) a b = getM M a b := by rw [ih, if_neg (by omega)]
    have e4 : newM (rowM M v a b) v a b = newM M v a b := by unfold newM; rw [e1, e2, e3]
    by_cases e : i = a ∧ j = b
    · rw [if_pos e, e4, if_pos ⟨e.1, by omega⟩, e.2]
    · rw [if_neg e, ih]
      by_cases e5 : i = a ∧ j < b
      · rw [if_pos e5, if_pos ⟨e5.1, by omega⟩]
      · rw [if_neg e5, if_neg (by omega)]
theorem col_flag {n : Nat} {M : List (List Int)} {v a : Nat} (h : (colM n M v (a + 1)).2 = true) : (colM n M v a).2 = true := by
  unfold colM at h
  by_cases hc : (colM n M v a).2 = true
  · exact hc
  · rw [if_neg hc] at h; exact h
theorem col_flags {n : Nat} {M : List (List Int)} {v a : Nat} : ∀ {b : Nat}, a ≤ b → (colM n M v b).2 = true → (colM n M v a).2 = true
  | 0, h, hf => by obtain rfl : a = 0 := by omega
                   exact hf
  | b + 1, h, hf => by
    by_cases e : a = b + 1
    · rw [e]; exact hf
    · exact col_flags (b := b) (by omega) (col_flag hf)
theorem col_at {n : Nat} {M : List (List Int)} (sh : Shape n M) {v : Nat} (h0 : 0 ≤ getM M v v) (hv : v < n) : ∀ a, a ≤ n → (colM n M v a).2 = true → ∀ i j, j < n → getM (colM n M v a).1 i j = if i < a then newM M v i j else getM M i j
  | 0, _, _, i, j, _ => by rw [if_neg (by omega)]; rfl
  | a + 1, ha, hf, i, j, hj => by
    have hf' := col_flag hf
    have ih := col_at sh h0 hv a (by omega) hf'
    have e : (colM n M v (a + 1)).1 = rowM (colM n M v a).1 v a n := by
      conv => lhs; unfold colM
      rw [if_pos hf']
    have kv : ∀ j, j < n → getM (colM n M v a).1 v j = getM M v j := fun j hj => by
      rw [ih v j hj]
      split
      · exact newM_row h0 j
      · rfl
    have ka : ∀ j, j < n → getM (colM n M v a).1 a j = getM M a j := fun j hj => by rw [ih a j hj, if_neg (by omega)]
    have kn : newM (colM n M v a).1 v a j = newM M v a j := by unfold newM; rw [ka v hv, kv j hj, ka j hj]
    rw [e, row_at (sh.col v a) (by omega) (by rw [kv v hv]; exact h0) n (Nat.le_refl _) i j]
    by_cases e1 : i = a
    · rw [if_pos ⟨e1, hj⟩, kn, if_pos (by omega), e1]
    · rw [if_neg (fun h => e1 h.1), ih i j hj]
      by_cases e2 : i < a
      · rw [if_pos e2, if_pos (by omega)]
      · rw [if_neg e2, if_neg (by omega)]
/-- the entries while a row is worked on -/
theorem col_row_at {n : Nat} {M : List (List Int)} (sh : Shape n M) {v a : Nat} (h0 : 0 ≤ getM M v v) (hv : v < n) (ha : a < n) (hf : (colM n M v a).2 = true) {b : Nat} (hb : b ≤ n) (i j : Nat) (hj : j < n) :
    getM (rowM (colM n M v a).1 v a b) i j = newM M v i j ∨ getM (rowM (colM n M v a).1 v a b) i j = getM M i j := by
  have ih := col_at sh h0 hv a (by omega) hf
  have kv : ∀ j, j < n → getM (colM n M v a).1 v j = getM M v j := fun j hj => by
    rw [ih v j hj]
    split
    · exact newM_row h0 j
    · rfl
  have ka : ∀ j, j < n → getM (colM n M v a).1 a j = getM M a j := fun j hj => by rw [ih a j hj, if_neg (by omega)]
  have kn : newM (colM n M v a).1 v a j = newM M v a j := by unfold newM; rw [ka v hv, kv j hj, ka j hj]
  rw [row_at (sh.col v a) ha (by rw [kv v hv]; exact h0) b hb i j]
  by_cases e1 : i = a ∧ j < b
  · rw [if_pos e1, kn, e1.1]; exact .inl rfl
  · rw [if_neg e1, ih i j hj]
    split
    · exact .inl rfl
    · exact .inr rfl
theorem via_flag {n : Nat} {M : List (List Int)} {v : Nat} (h : (viaM n M (v + 1)).2 = true) : (viaM n M v).2 = true := by
  unfold viaM at h
  by_cases hc : (viaM n M v).2 = true
  · exact hc
  · rw [if_neg hc] at h; exact h
theorem via_flags {n : Nat} {M : List (List Int)} {v : Nat} : ∀ {V : Nat}, v ≤ V → (viaM n M V).2 = true → (viaM n M v).2 = true
  | 0, h, hf => by obtain rfl : v = 0 := by omega
                   exact hf
  | V + 1, h, hf => by
    by_cases e : v = V + 1
    · rw [e]; exact hf
    · exact via_flags (V := V) (by omega) (via_flag hf)
/-- a first matrix -/
structure First (n : Nat) (M : List (List Int)) : Prop where
  sh : Shape n M
  size : n ≤ 16
  diag : ∀ a, a < n → 0 ≤ getM M a a
  lo : ∀ a b, a < n → b < n → -1000000000000000 ≤ getM M a b
  hi : ∀ a b, a < n → b < n → getM M a b < openI → getM M a b ≤ 1000000000000000
  op : ∀ a b, a < n → b < n → getM M a b ≤ openI
theorem via_diag {n : Nat} {M : List (List Int)} (F : First n M) : ∀ v, v ≤ n → (viaM n M v).2 = true → ∀ a, a < n → 0 ≤ getM (viaM n M v).1 a a
  | 0, _, _, a, ha => F.diag a ha
  | v + 1, hv, hf, a, ha => by
    have hf' := via_flag hf
    have ih := via_diag F v (by omega) hf'
    have e : viaM n M (v + 1) = colM n (viaM n M v).1 v n := by
      conv => lhs; unfold viaM
      rw [if_pos hf']
    rw [e] at hf ⊢
    have sh := F.sh.via v
    have h0 := ih v (by omega)
    have c1 := col_at sh h0 (by omega) n (Nat.le_refl _) hf a a ha
    have hfa := col_flags (show a + 1 ≤ n by omega) hf
    have c2 := col_at sh h0 (by omega) (a + 1) (by omega) hfa a a ha
    rw [if_pos (by omega)] at c1 c2
    have hfa' := col_flag hfa
    have e2 : colM n (viaM n M v).1 v (a + 1) = (rowM (colM n (viaM n M v).1 v a).1 v a n, decide (0 ≤ getM (rowM (colM n (viaM n M v).1 v a).1 v a n) a a)) := by
      conv => lhs; unfold colM
      rw [if_pos hfa']
    rw [e2] at hfa c2
    have := of_decide_eq_true hfa
    rw [c1, ← c2]
    exact this
theorem via_R {n : Nat} {M : List (List Int)} (F : First n M) {V : Nat} (hV : V ≤ n) (hf : (viaM n M V).2 = true) : Rnds (getM M) n V (fun v a b => getM (viaM n M v).1 a b) := by
  refine ⟨fun _ _ _ _ => rfl, fun v hv a b ha hb => ?_, fun v hv => via_diag F v (by omega) (via_flags hv hf), F.lo, F.hi, hV, F.size⟩
  have hf1 := via_flags (show v + 1 ≤ V by omega) hf
  have hf' := via_flag hf1
  have e : viaM n M (v + 1) = colM n (viaM n M v).1 v n := by
    conv => lhs; unfold viaM
    rw [if_pos hf']
  show getM (viaM n M (v + 1)).1 a b = newM (viaM n M v).1 v a b
  rw [e] at hf1 ⊢
  rw [col_at (F.sh.via v) (via_diag F v (by omega) hf' v (by omega)) (by omega) n (Nat.le_refl _) hf1 a b hb, if_pos ha]
theorem calmB_of {n : Nat} {M : List (List Int)} (sh : Shape n M) (h : ∀ i j, i < n → j < n → -1000000000000000000 ≤ getM M i j ∧ getM M i j ≤ openI) : calmB M = true := by
  unfold calmB
  refine List.all_eq_true.2 fun r hr => List.all_eq_true.2 fun x hx => ?_
  obtain ⟨i, hi, rfl⟩ := List.getElem_of_mem hr
  obtain ⟨j, hj, rfl⟩ := List.getElem_of_mem hx
  have hin : i < n := by rw [← sh.rows]; exact hi
  have hc := sh.cols i hin
  rw [List.getElem?_eq_getElem hi, Option.getD_some] at hc
  have := h i j hin (by omega)
  unfold getM at this
  rw [List.getElem?_eq_getElem hi, Option.getD_some, List.getElem?_eq_getElem hj, Option.getD_some] at this
  simp only [Bool.and_eq_true, decide_eq_true_eq]
  exact this
theorem via_op {n : Nat} {M : List (List Int)} (F : First n M) : ∀ v, v ≤ n → (viaM n M v).2 = true → ∀ a b, a < n → b < n → getM (viaM n M v).1 a b ≤ openI
  | 0, _, _, a, b, ha, hb => F.op a b ha hb
  | v + 1, hv, hf, a, b, ha, hb => by
    have R := via_R F hv hf
    have := R.le_step (show v < v + 1 by omega) ha hb
    have := via_op F v (by omega) (via_flag hf) a b ha hb
    omega
theorem calm_first {n : Nat} {M : List (List Int)} (F : First n M) {v : Nat} (hv : v < n) (hf : (viaM n M v).2 = true) : calmCol n (viaM n M v).1 v = true := by
  have R := via_R F (show v ≤ n by omega) hf
  have h0 := via_diag F v (by omega) hf v hv
  have op := via_op F v (by omega) hf
  have sh := F.sh.via v
  have lo : ∀ a b, a < n → b < n → -18000000000000000 ≤ getM (viaM n M v).1 a b := fun a b ha hb => R.low (Nat.le_refl v) ha hb
  unfold calmCol
  refine List.all_eq_true.2 fun a ha => ?_
  have ha' := List.mem_range.1 ha
  by_cases hc : (colM n (viaM n M v).1 v a).2 = true
  · rw [hc]
    show calmRow _ v a n = true
    unfold calmRow
    refine List.all_eq_true.2 fun b hb => ?_
    have hb' := List.mem_range.1 hb
    refine calmB_of ((sh.col v a).row v a b) fun i j hi hj => ?_
    have l1 := lo i j hi hj
    have l2 := lo i v hi hv
    have l3 := lo v j hv hj
    have o1 := op i j hi hj
    rcases col_row_at sh h0 hv ha' hc (show b ≤ n by omega) i j hj with e | e
    · rw [e]
      unfold newM
      split <;> omega
    · rw [e]; omega
  · rw [Bool.not_eq_true] at hc
    rw [hc]; rfl
theorem fill_at (n i j : Nat) (hi : i < n) (hj : j < n) : getM (fillM n) i j = openI := by simp [getM, fillM, hi, hj]
theorem diag_at (n : Nat) : ∀ k, k ≤ n → ∀ i j, i < n → j < n → getM (diagM n k) i j = if i = j ∧ i < k then 0 else openI
  | 0, _, i, j, hi, hj => by rw [if_neg (by omega)]; exact fill_at n i j hi hj
  | k + 1, hk, i, j, hi, hj => by
    show getM (putM (diagM n k) k k (min (getM (diagM n k) k k) 0)) i j = _
    rw [getM_put (shape_diag n k) (by omega) (by omega), diag_at n k (by omega) k k (by omega) (by omega), if_neg (by omega : ¬ (k = k ∧ k < k)), diag_at n k (by omega) i j hi hj]
    have hop : openI = 100000000000000000 := rfl
    by_cases e : i = k ∧ j = k
    · rw [if_pos e, if_pos (by omega)]; omega
    · rw [if_neg e]
      by_cases e2 : i = j ∧ i < k
      · rw [if_pos e2, if_pos (by omega)]
      · rw [if_neg e2, if_neg (by omega)]
structure LimFit (n : Nat) (x : Lim) : Prop where
  f : x.f.toNat < n
  s : x.s.toNat < n
  ne : x.f.toNat ≠ x.s.toNat
  m : -1000000000000000 ≤ x.m ∧ x.m ≤ 1000000000000000
theorem First.use {n : Nat} {M : List (List Int)} (F : First n M) {x : Lim} (hx : LimFit n x) : First n (useM M x) := by
  have hop : openI = 100000000000000000 := rfl
  have hm := hx.m
  have hg : ∀ a b, getM (useM M x) a b = if a = x.f.toNat ∧ b = x.s.toNat then min (getM M x.f.toNat x.s.toNat) x.m else getM M a b := fun a b => getM_put F.sh hx.f hx.s _ a b
  have l0 := F.lo _ _ hx.f hx.s
  have o0 := F.op _ _ hx.f hx.s
  refine ⟨F.sh.low _ _ _, F.size, fun a ha => ?_, fun a b ha hb => ?_, fun a b ha hb => ?_, fun a b ha hb => ?_⟩
  · rw [hg, if_neg (fun h => hx.ne (h.1.symm.trans h.2))]; exact F.diag a ha
  · rw [hg]
    split
    · omega
    · exact F.lo a b ha hb
  · rw [hg]
    split
    · intro _; omega
    · exact F.hi a b ha hb
  · rw [hg]
    split
    · omega
    · exact F.op a b ha hb
theorem first_fold {n : Nat} : ∀ (l : List Lim) {M : List (List Int)}, First n M → (∀ x ∈ l, LimFit n x) → First n (l.foldl useM M)
  | [], _, F, _ => F
  | x :: l, _, F, h => first_fold l (F.use (h x (by simp))) (fun y hy => h y (by simp [hy]))
theorem lim_fit {n : Nat} {l : List Bnd} (hl : LimsOk n l) {x : Lim} (hx : x ∈ limsL l) : LimFit n x := by
  obtain ⟨q, hq, rfl⟩ := List.mem_map.1 hx
  have hb := hl.ok q.1 (useN_lt _ q hq)
  have h1 := hb.a
  have h2 := hb.b
  have h3 := hb.ne
  have h4 := hb.lo
  have h5 := hb.hi
  unfold limOf
  split
  · exact ⟨by show (bndAt l q.1).a.toNat < n; omega, by show (bndAt l q.1).b.toNat < n; omega, by show (bndAt l q.1).a.toNat ≠ (bndAt l q.1).b.toNat; omega, by show _ ≤ (bndAt l q.1).hi ∧ (bndAt l q.1).hi ≤ _; omega⟩
  · exact ⟨by show (bndAt l q.1).b.toNat < n; omega, by show (bndAt l q.1).a.toNat < n; omega, by show (bndAt l q.1).b.toNat ≠ (bndAt l q.1).a.toNat; omega, by show _ ≤ -(bndAt l q.1).lo ∧ -(bndAt l q.1).lo ≤ _; omega⟩
theorem bound_first {n : Nat} {l : List Bnd} (hn : n ≤ 16) (hl : LimsOk n l) : First n (boundM n (limsL l)) := by
  have hop : openI = 100000000000000000 := rfl
  refine first_fold _ ⟨shape_diag n n, hn, fun a ha => ?_, fun a b ha hb => ?_, fun a b ha hb => ?_, fun a b ha hb => ?_⟩ (fun x hx => lim_fit hl hx)
  · rw [diag_at n n (Nat.le_refl _) a a ha ha, if_pos ⟨rfl, ha⟩]; exact Int.le_refl _
  · rw [diag_at n n (Nat.le_refl _) a b ha hb]; split <;> omega
  · rw [diag_at n n (Nat.le_refl _) a b ha hb]; split <;> (intro _; omega)
  · rw [diag_at n n (Nat.le_refl _) a b ha hb]; split <;> omega
/-- all numbers of Narrow stay numbers, whatever the net -/
theorem calm_all {n : Nat} {l : List Bnd} (hn : n ≤ 16) (hl : LimsOk n l) : calmAll n l = true := by
  unfold calmAll
  refine List.all_eq_true.2 fun v hv => ?_
  have hv' := List.mem_range.1 hv
  by_cases hf : (viaM n (boundM n (limsL l)) v).2 = true
  · rw [calm_first (bound_first hn hl) hv' hf, Bool.or_true]
  · rw [Bool.not_eq_true] at hf
    rw [hf]; rfl
end Go.Proofs.Ytlelamjbfjneiaa.Ct
