/- Layer 2: a list of bounds that is collected. -/
import Derived.Test.YtlelamjbfjneiaaNx
namespace Go.Proofs.Ytlelamjbfjneiaa.Ct
open Go Go.RowKit Go.Shelf
theorem infoBound : (Try.prog.info? 46).map (fun i => (i.zero, i.size, i.bytes)) = some (some (.agg #[.int .i64 0, .int .i64 0, .int .i64 0, .int .i64 0]), 4, 32) := by kernel_rfl
def bndV (l : List Bnd) : Nat → List Value
  | 0 => []
  | k + 1 => bndV l k ++ [.int .i64 (bndAt l k).a, .int .i64 (bndAt l k).b, .int .i64 (bndAt l k).lo, .int .i64 (bndAt l k).hi]
theorem bndV_len (l : List Bnd) : ∀ k, (bndV l k).length = k * 4
  | 0 => rfl
  | k + 1 => by simp only [bndV, List.length_append, bndV_len l k, List.length_cons, List.length_nil]; omega
theorem bndV_at (l : List Bnd) : ∀ (k i : Nat), i < k → (bndV l k)[i * 4]? = some (.int .i64 (bndAt l i).a) ∧ (bndV l k)[i * 4 + 1]? = some (.int .i64 (bndAt l i).b) ∧ (bndV l k)[i * 4 + 2]? = some (.int .i64 (bndAt l i).lo) ∧ (bndV l k)[i * 4 + 3]? = some (.int .i64 (bndAt l i).hi)
  | k + 1, i, h => by
    have hl := bndV_len l k
    unfold bndV
    by_cases e : i = k
    · subst e
      rw [List.getElem?_append_right (by omega), List.getElem?_append_right (by omega), List.getElem?_append_right (by omega), List.getElem?_append_right (by omega), hl, show i * 4 - i * 4 = 0 by omega, show i * 4 + 1 - i * 4 = 1 by omega, show i * 4 + 2 - i * 4 = 2 by omega, show i * 4 + 3 - i * 4 = 3 by omega]
      exact ⟨rfl, rfl, rfl, rfl⟩
    · have ih := bndV_at l k i (by omega)
      rw [List.getElem?_append_left (by omega), List.getElem?_append_left (by omega), List.getElem?_append_left (by omega), List.getElem?_append_left (by omega)]
      exact ih
theorem four_new (w : World) (x y z u : Value) (t : TypeId) : ∀ j v, [x, y, z, u][j]? = some v → (w.alloc (.cells #[x, y, z, u] t)).cell? ((⟨w.heap.size, 0, none⟩ : Addr).add j) = some v := by
  intro j v hj
  match j, hj with
  | 0, hj => simp at hj; subst hj; simp [Addr.add]
  | 1, hj => simp at hj; subst hj; simp [Addr.add]
  | 2, hj => simp at hj; subst hj; simp [Addr.add]
  | 3, hj => simp at hj; subst hj; simp [Addr.add]
/-- the bounds as they are made -/
structure BoAt (w X : World) (v : Value) (l : List Bnd) (k : Nat) : Prop where
  own : X.ownsRow w.heap.size 46 4 v k (bndV l k)
  bel : Below w.heap.size w X
theorem BoAt.more {w X Y : World} {v v' : Value} {l : List Bnd} {k : Nat} {o : Obj} (h : BoAt w X v l k) (hown : Y.ownsRow w.heap.size 46 4 v' (k + 1) (bndV l k ++ [.int .i64 (bndAt l k).a, .int .i64 (bndAt l k).b, .int .i64 (bndAt l k).lo, .int .i64 (bndAt l k).hi])) (hg : (X.alloc o).grownBy Y v.ownBlock) : BoAt w Y v' l (k + 1) :=
  ⟨hown, (h.bel.alloc h.bel.size o).grown hg (by have := h.bel.size; simp; omega) (fun k hk => (World.ownsRow.lt h.own k hk).1)⟩
theorem BoAt.in_ {w X : World} {v : Value} {l : List Bnd} (h : BoAt w X v l l.length) : ∃ p cap, v = .slice p l.length cap ∧ BndsIn X l p := by
  rcases h.own.2 with ⟨rfl, h0⟩ | ⟨g, cap, cur, rfl, _, _, _⟩
  · exact ⟨none, 0, by rw [h0], .inl h0⟩
  · refine ⟨some ⟨g, 0, none⟩, cap, rfl, .inr ⟨g, 0, rfl, fun i hi => ?_⟩⟩
    obtain ⟨h1, h2, h3, h4⟩ := bndV_at l l.length i hi
    have k : ∀ (i : Nat) (v : Value), (bndV l l.length)[i]? = some v → X.cell? ⟨g, i, none⟩ = some v := fun i v hi => by
      have := World.ownsRow.cells h.own (g := g) rfl i v hi
      rwa [show (⟨g, 0, none⟩ : Addr).add i = ⟨g, i, none⟩ by unfold Addr.add; split <;> simp_all] at this
    rw [Nat.zero_add]
    exact ⟨⟨k _ _ h1, k _ _ h2⟩, k _ _ h3, k _ _ h4⟩
theorem bndAt_snoc (L : List Bnd) (y : Bnd) {i : Nat} (h : i < L.length) : bndAt (L ++ [y]) i = bndAt L i := by
  unfold bndAt; rw [List.getElem?_append_left h]
theorem bndAt_last (L : List Bnd) (y : Bnd) : bndAt (L ++ [y]) L.length = y := by
  unfold bndAt; rw [List.getElem?_append_right (Nat.le_refl _)]; simp
theorem bndV_snoc (L : List Bnd) (y : Bnd) : ∀ k, k ≤ L.length → bndV (L ++ [y]) k = bndV L k
  | 0, _ => rfl
  | k + 1, h => by simp only [bndV, bndV_snoc L y k (by omega), bndAt_snoc L y (show k < L.length by omega)]
theorem BoAt.below {w X Y : World} {v : Value} {l : List Bnd} {k : Nat} (h : BoAt w X v l k) (hb : Below X.heap.size X Y) : BoAt w Y v l k :=
  ⟨World.ownsRow.kept h.own (grown_below hb) (by cases e : v.ownBlock with | none => exact .inl rfl | some k => exact .inr (by simp)), h.bel.trans (hb.mono h.bel.size)⟩
theorem BoAt.snoc {w X Y : World} {v v' : Value} {L : List Bnd} {y : Bnd} {o : Obj} (h : BoAt w X v L L.length) (hown : Y.ownsRow w.heap.size 46 4 v' (L.length + 1) (bndV L L.length ++ [.int .i64 y.a, .int .i64 y.b, .int .i64 y.lo, .int .i64 y.hi])) (hg : (X.alloc o).grownBy Y v.ownBlock) : BoAt w Y v' (L ++ [y]) (L ++ [y]).length := by
  refine ⟨?_, (h.bel.alloc h.bel.size o).grown hg (by have := h.bel.size; simp; omega) (fun k hk => (World.ownsRow.lt h.own k hk).1)⟩
  rw [List.length_append]
  show Y.ownsRow w.heap.size 46 4 v' (L.length + 1) (bndV (L ++ [y]) L.length ++ [.int .i64 (bndAt (L ++ [y]) L.length).a, .int .i64 (bndAt (L ++ [y]) L.length).b, .int .i64 (bndAt (L ++ [y]) L.length).lo, .int .i64 (bndAt (L ++ [y]) L.length).hi])
  rw [bndV_snoc L y _ (Nat.le_refl _), bndAt_last]
  exact hown
theorem BoAt.nil (w : World) : BoAt w w (.slice none 0 0) [] 0 := ⟨World.ownsRow_nil _ _ _ _, Below.refl _ _⟩
end Go.Proofs.Ytlelamjbfjneiaa.Ct
