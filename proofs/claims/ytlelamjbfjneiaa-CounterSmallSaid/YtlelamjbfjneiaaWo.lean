/- Plain facts on nets: what Narrow's matrix says; a solution keeps the diagonal from sinking; what a settled round says. -/
import Derived.Test.YtlelamjbfjneiaaWn
namespace Go.Proofs.Ytlelamjbfjneiaa.Ct
open Go Go.RowKit
theorem lim_up {l : List Bnd} {i : Nat} (hi : i < l.length) : limUp (bndAt l i) ∈ limsL l ∧ limDn (bndAt l i) ∈ limsL l := by
  have mem : ∀ N, i < N → (i, true) ∈ useN N ∧ (i, false) ∈ useN N := by
    intro N
    induction N with
    | zero => intro h; exact absurd h (Nat.not_lt_zero _)
    | succ N ih =>
      intro h
      unfold useN
      by_cases e : i = N
      · subst e; exact ⟨List.mem_append_right _ (by simp), List.mem_append_right _ (by simp)⟩
      · have := ih (by omega)
        exact ⟨List.mem_append_left _ this.1, List.mem_append_left _ this.2⟩
  obtain ⟨h1, h2⟩ := mem l.length hi
  exact ⟨List.mem_map.2 ⟨_, h1, rfl⟩, List.mem_map.2 ⟨_, h2, rfl⟩⟩
/-- the narrowest matrix of a net -/
structure Narr (n : Nat) (l : List Bnd) (M : List (List Int)) : Prop where
  tri : ∀ a k b, a < n → k < n → b < n → getM M a k < openI → getM M k b < openI → getM M a b ≤ getM M a k + getM M k b
  sol : ∀ i a, i < l.length → a < n → ((getM M (bndAt l i).a.toNat a < openI ↔ getM M (bndAt l i).b.toNat a < openI) ∧ (getM M (bndAt l i).a.toNat a < openI → (bndAt l i).lo ≤ getM M (bndAt l i).a.toNat a - getM M (bndAt l i).b.toNat a ∧ getM M (bndAt l i).a.toNat a - getM M (bndAt l i).b.toNat a ≤ (bndAt l i).hi))
  diag : ∀ a, a < n → getM M a a = 0
  op : ∀ a b, a < n → b < n → getM M a b ≤ openI
  lo : ∀ a b, a < n → b < n → -18000000000000000 ≤ getM M a b
theorem narr_of {n : Nat} {l : List Bnd} (hn : n ≤ 16) (hl : LimsOk n l) (h : (narrowS n l).2 = true) : Narr n l (narrowS n l).1 := by
  have F := bound_first hn hl
  have hop : openI = 100000000000000000 := rfl
  unfold narrowS at h ⊢
  have R := via_R F (Nat.le_refl n) h
  obtain ⟨k1, k2⟩ := fold_le (limsL l) (⟨shape_diag n n, hn, fun a ha => by rw [diag_at n n (Nat.le_refl _) a a ha ha, if_pos ⟨rfl, ha⟩]; exact Int.le_refl _, fun a b ha hb => by rw [diag_at n n (Nat.le_refl _) a b ha hb]; split <;> omega, fun a b ha hb => by rw [diag_at n n (Nat.le_refl _) a b ha hb]; split <;> (intro _; omega), fun a b ha hb => by rw [diag_at n n (Nat.le_refl _) a b ha hb]; split <;> omega⟩ : First n (diagM n n)) (fun x hx => lim_fit hl hx)
  have tri : ∀ a k b, a < n → k < n → b < n → getM (viaM n (boundM n (limsL l)) n).1 a k < openI → getM (viaM n (boundM n (limsL l)) n).1 k b < openI → getM (viaM n (boundM n (limsL l)) n).1 a b ≤ getM (viaM n (boundM n (limsL l)) n).1 a k + getM (viaM n (boundM n (limsL l)) n).1 k b ∧ getM (viaM n (boundM n (limsL l)) n).1 a b < openI := fun a k b ha hk hb h1 h2 => R.tri ha hk hb h1 h2
  have edge : ∀ x ∈ limsL l, getM (viaM n (boundM n (limsL l)) n).1 x.f.toNat x.s.toNat ≤ x.m := fun x hx => by
    have f := lim_fit hl hx
    have a := R.le_zero f.f f.s n (Nat.le_refl n)
    have b := k2 x hx
    exact Int.le_trans a b
  refine ⟨fun a k b ha hk hb h1 h2 => (tri a k b ha hk hb h1 h2).1, fun i a hi ha => ?_, fun a ha => ?_, fun a b ha hb => via_op F n (Nat.le_refl _) h a b ha hb, fun a b ha hb => R.low (Nat.le_refl n) ha hb⟩
  · obtain ⟨u1, u2⟩ := lim_up hi
    have e1 := edge _ u1
    have e2 := edge _ u2
    have f1 := lim_fit hl u1
    have m1 := f1.m
    have m2 := (lim_fit hl u2).m
    have fa := f1.f
    have fb := f1.s
    unfold limUp at e1 m1 fa fb
    unfold limDn at e2 m2
    dsimp only at e1 e2 m1 m2 fa fb
    have t1 := tri _ _ a fa fb ha (show _ < openI by omega)
    have t2 := tri _ _ a fb fa ha (show _ < openI by omega)
    refine ⟨⟨fun h => (t2 h).2, fun h => (t1 h).2⟩, fun h => ?_⟩
    have h' := (t2 h).2
    have := (t2 h).1
    have := (t1 h').1
    omega
  · have a0 := via_diag F n (Nat.le_refl _) h a ha
    have a1 := R.le_zero ha ha n (Nat.le_refl n)
    have a2 := k1 a a ha ha
    rw [diag_at n n (Nat.le_refl _) a a ha ha, if_pos ⟨rfl, ha⟩] at a2
    have a3 : getM (viaM n (boundM n (limsL l)) n).1 a a ≤ getM (boundM n (limsL l)) a a := a1
    have a4 : getM (boundM n (limsL l)) a a ≤ 0 := a2
    omega
/-- numbers that fulfil the net -/
def Solves (l : List Bnd) (x : Nat → Int) : Prop := ∀ y ∈ limsL l, x y.f.toNat - x y.s.toNat ≤ y.m
def PotM (n : Nat) (x : Nat → Int) (M : List (List Int)) : Prop := ∀ a b, a < n → b < n → getM M a b < openI → x a - x b ≤ getM M a b
theorem pot_new {n : Nat} {x : Nat → Int} {M : List (List Int)} (h : PotM n x M) {v a j : Nat} (hv : v < n) (ha : a < n) (hj : j < n) (hf : newM M v a j < openI) : x a - x j ≤ newM M v a j := by
  unfold newM at hf ⊢
  split
  · rename_i hc
    rw [if_pos hc] at hf
    have h1 := h a v ha hv hc.1
    have h2 := h v j hv hj hc.2
    by_cases hm : getM M a j ≤ getM M a v + getM M v j
    · rw [Int.min_eq_left hm] at hf ⊢; exact h a j ha hj hf
    · rw [Int.min_eq_right (by omega)]; omega
  · rename_i hc
    rw [if_neg hc] at hf
    exact h a j ha hj hf
theorem pot_col {n : Nat} {x : Nat → Int} {M : List (List Int)} (sh : Shape n M) (h : PotM n x M) {v : Nat} (hv : v < n) (h0 : 0 ≤ getM M v v) : ∀ a, a ≤ n → (colM n M v a).2 = true
  | 0, _ => rfl
  | a + 1, ha => by
    have ih := pot_col sh h hv h0 a (by omega)
    have e2 : colM n M v (a + 1) = (rowM (colM n M v a).1 v a n, decide (0 ≤ getM (rowM (colM n M v a).1 v a n) a a)) := by
      conv => lhs; unfold colM
      rw [if_pos ih]
    rw [e2]
    show decide _ = true
    rw [decide_eq_true_eq]
    have hop : openI = 100000000000000000 := rfl
    rcases col_row_at sh h0 hv (by omega) ih (Nat.le_refl n) a a (show a < n by omega) with e | e
    · rw [e]
      by_cases hf : newM M v a a < openI
      · have := pot_new h hv (by omega) (by omega) hf; omega
      · omega
    · rw [e]
      by_cases hf : getM M a a < openI
      · have := h a a (by omega) (by omega) hf; omega
      · omega
theorem pot_via {n : Nat} {x : Nat → Int} {M : List (List Int)} (F : First n M) (h : PotM n x M) : ∀ v, v ≤ n → (viaM n M v).2 = true ∧ PotM n x (viaM n M v).1
  | 0, _ => ⟨rfl, h⟩
  | v + 1, hv => by
    obtain ⟨i1, i2⟩ := pot_via F h v (by omega)
    have sh := F.sh.via v
    have h0 := via_diag F v (by omega) i1 v (by omega)
    have e : viaM n M (v + 1) = colM n (viaM n M v).1 v n := by
      conv => lhs; unfold viaM
      rw [if_pos i1]
    have hf := pot_col sh i2 (show v < n by omega) h0 n (Nat.le_refl _)
    rw [e]
    refine ⟨hf, fun a b ha hb hlt => ?_⟩
    rw [col_at sh h0 (by omega) n (Nat.le_refl _) hf a b hb, if_pos ha] at hlt ⊢
    exact pot_new i2 (by omega) ha hb hlt
/-- a net that has a solution has a narrowest matrix -/
theorem narrow_yes {n : Nat} {l : List Bnd} (hn : n ≤ 16) (hl : LimsOk n l) {x : Nat → Int} (hx : Solves l x) : (narrowS n l).2 = true := by
  have F := bound_first hn hl
  have hop : openI = 100000000000000000 := rfl
  show (viaM n (boundM n (limsL l)) n).2 = true
  refine (pot_via (x := x) F (fun a b ha hb hf => ?_) n (Nat.le_refl _)).1
  rcases fold_from (limsL l) (⟨shape_diag n n, hn, fun a ha => by rw [diag_at n n (Nat.le_refl _) a a ha ha, if_pos ⟨rfl, ha⟩]; exact Int.le_refl _, fun a b ha hb => by rw [diag_at n n (Nat.le_refl _) a b ha hb]; split <;> omega, fun a b ha hb => by rw [diag_at n n (Nat.le_refl _) a b ha hb]; split <;> (intro _; omega), fun a b ha hb => by rw [diag_at n n (Nat.le_refl _) a b ha hb]; split <;> omega⟩ : First n (diagM n n)) (fun x hx => lim_fit hl hx) a b with e | ⟨y, hy, e1, e2, e3⟩
  · change getM (boundM n (limsL l)) a b = _ at e
    rw [e, diag_at n n (Nat.le_refl _) a b ha hb] at hf ⊢
    split
    · rename_i hc; rw [hc.1]; omega
    · rename_i hc; rw [if_neg hc] at hf; omega
  · change getM (boundM n (limsL l)) a b = _ at e3
    rw [e3, e1, e2]
    exact hx y hy
/-- a round that ends settled has changed nothing, and all its uses are fulfilled -/
theorem settled_fold {l : List Bnd} : ∀ (us : List (Nat × Bool)) (s : Ctr), (foldK l s us).settled = true → foldK l s us = s ∧ s.settled = true ∧ ∀ d ∈ us, s.lev (kLim l d).f.toNat - s.lev (kLim l d).s.toNat ≤ (kLim l d).m
  | [], s, h => ⟨rfl, h, fun d hd => by cases hd⟩
  | d :: us, s, h => by
    obtain ⟨h1, h2, h3⟩ := settled_fold us (stepK l s d) h
    by_cases hc : s.lev (kLim l d).f.toNat - s.lev (kLim l d).s.toNat ≤ (kLim l d).m
    · have e : stepK l s d = s := if_pos hc
      rw [e] at h1 h2 h3
      refine ⟨?_, h2, fun y hy => ?_⟩
      · show foldK l (stepK l s d) us = s
        rw [e]; exact h1
      · rcases List.mem_cons.1 hy with rfl | hy
        · exact hc
        · exact h3 y hy
    · have e : (stepK l s d).settled = false := by unfold stepK; rw [if_neg hc]
      rw [e] at h2; cases h2
theorem settled_solves {l : List Bnd} {t : Nat} (h : (roundsK l (t + 1)).settled = true) : Solves l (roundsK l (t + 1)).lev := by
  have k := settled_fold (useN l.length) { roundsK l t with settled := true } h
  intro y hy
  obtain ⟨q, hq, rfl⟩ := List.mem_map.1 hy
  have e : roundsK l (t + 1) = { roundsK l t with settled := true } := k.1
  rw [e]
  exact k.2.2 q hq
end Go.Proofs.Ytlelamjbfjneiaa.Ct
