/- Plain facts on nets: bounds that true numbers fulfil. -/
import Derived.Test.YtlelamjbfjneiaaWo
namespace Go.Proofs.Ytlelamjbfjneiaa.Ct
open Go Go.RowKit
/-- a bound that the numbers x fulfil -/
structure TrueIn (n : Nat) (x : Nat → Int) (y : Bnd) : Prop where
  a : 0 ≤ y.a ∧ y.a ≤ (n : Int) - 1
  b : 0 ≤ y.b ∧ y.b ≤ (n : Int) - 1
  ne : y.a ≠ y.b
  lo : -1000000000000000 ≤ y.lo
  hi : y.hi ≤ 1000000000000000
  tr : y.lo ≤ x y.a.toNat - x y.b.toNat ∧ x y.a.toNat - x y.b.toNat ≤ y.hi
theorem true_err {n : Nat} {x : Nat → Int} {l : List Bnd} (hn : 1 ≤ n ∧ n ≤ 16) (hl : l.length ≤ 240) (h : ∀ y ∈ l, TrueIn n x y) : netErr n l = 0 := by
  unfold netErr
  rw [if_pos (by omega), if_pos hl, if_pos]
  refine List.all_eq_true.2 fun y hy => bndOk_iff.2 ?_
  have k := h y hy
  have t := k.tr
  have h1 := k.lo
  have h2 := k.hi
  exact ⟨k.a, k.b, k.ne, by omega, by omega, by omega⟩
theorem bndAt_mem {l : List Bnd} {i : Nat} (h : i < l.length) : bndAt l i ∈ l := by
  rw [← bndAt_get h]; exact List.getElem_mem h
theorem true_solves {n : Nat} {x : Nat → Int} {l : List Bnd} (h : ∀ y ∈ l, TrueIn n x y) : Solves l x := by
  intro y hy
  unfold limsL at hy
  obtain ⟨q, hq, rfl⟩ := List.mem_map.1 hy
  have k := (h _ (bndAt_mem (useN_lt _ _ hq))).tr
  unfold limOf
  cases q.2
  · rw [if_neg (by decide)]
    show x (bndAt l q.1).b.toNat - x (bndAt l q.1).a.toNat ≤ -(bndAt l q.1).lo
    omega
  · rw [if_pos rfl]
    exact k.2
/-- a matrix of a net that has a solution holds the solution's differences -/
theorem narrow_pot {n : Nat} {l : List Bnd} (hn : n ≤ 16) (hl : LimsOk n l) {x : Nat → Int} (hx : Solves l x) : (narrowS n l).2 = true ∧ PotM n x (narrowS n l).1 := by
  have F := bound_first hn hl
  have hop : openI = 100000000000000000 := rfl
  show (viaM n (boundM n (limsL l)) n).2 = true ∧ PotM n x (viaM n (boundM n (limsL l)) n).1
  refine pot_via (x := x) F (fun a b ha hb hf => ?_) n (Nat.le_refl _)
  rcases fold_from (limsL l) (⟨shape_diag n n, hn, fun a ha => by rw [diag_at n n (Nat.le_refl _) a a ha ha, if_pos ⟨rfl, ha⟩]; exact Int.le_refl _, fun a b ha hb => by rw [diag_at n n (Nat.le_refl _) a b ha hb]; split <;> omega, fun a b ha hb => by rw [diag_at n n (Nat.le_refl _) a b ha hb]; split <;> (intro _; omega), fun a b ha hb => by rw [diag_at n n (Nat.le_refl _) a b ha hb]; split <;> omega⟩ : First n (diagM n n)) (fun x hx => lim_fit hl hx) a b with e | ⟨y, hy, e1, e2, e3⟩
  · change getM (boundM n (limsL l)) a b = _ at e
    rw [e, diag_at n n (Nat.le_refl _) a b ha hb] at hf ⊢
    split
    · rename_i hc; rw [hc.1]; omega
    · rename_i hc; rw [if_neg hc] at hf; omega
  · change getM (boundM n (limsL l)) a b = _ at e3
    rw [e3, e1, e2]
    exact hx y hy
/-- at most so many pairs -/
def tri2 : Nat → Nat
  | 0 => 0
  | a + 1 => tri2 a + a
theorem tri2_le : ∀ a : Nat, a ≤ 16 → tri2 a ≤ 120 := by
  intro a h
  have : ∀ a : Fin 17, tri2 a.1 ≤ 120 := by decide
  exact this ⟨a, by omega⟩
end Go.Proofs.Ytlelamjbfjneiaa.Ct
