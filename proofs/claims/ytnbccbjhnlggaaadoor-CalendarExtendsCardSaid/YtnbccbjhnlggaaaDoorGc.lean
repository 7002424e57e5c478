/- Layer 9 (calendar): a table that is cut off, and one whose step is turned (plain facts). -/
import Derived.Test.YtnbccbjhnlggaaaDoorEfa
import Derived.Test.YtnbccbjhnlggaaaDoorFha
import Derived.Test.YtnbccbjhnlggaaaDoorFc
import Derived.Test.YtnbccbjhnlggaaaDoorGb
namespace Go.Proofs.YtnbccbjhnlggaaaDoor.Cal
open Go Go.RowKit
theorem grow_cut {f : Nat → Int × Int} {k : Nat} {d : Int} : ∀ n, k ≤ n → (∀ j, k ≤ j → j < n → d ≤ (f j).1) → growS f n d = growS f k d := by
  intro n
  induction n with
  | zero => intro h _; obtain rfl : k = 0 := by omega
            rfl
  | succ n ih =>
    intro hk h
    by_cases e : k = n + 1
    · rw [e]
    · rw [growS, ih (by omega) (fun j h1 h2 => h j h1 (by omega)), if_neg (by have := h n (by omega) (by omega); omega)]; omega
theorem begin_cut {f : Nat → Int × Int} {n k : Nat} {d : Int} (hk : k ≤ n) (h : ∀ j, k ≤ j → j < n → d ≤ (f j).1) : beginS f n d = beginS f k d := by
  unfold beginS; rw [grow_cut n hk h]
/-- the leaps with one step turned -/
def flipS (f : Nat → Int × Int) (i : Nat) : Nat → Int × Int := fun j => if j = i then ((f j).1, -(f j).2) else f j
theorem flip_day (f : Nat → Int × Int) (i j : Nat) : (flipS f i j).1 = (f j).1 := by unfold flipS; split <;> rfl
theorem flip_at (f : Nat → Int × Int) (i : Nat) : flipS f i i = ((f i).1, -(f i).2) := by unfold flipS; rw [if_pos rfl]
theorem flip_ne (f : Nat → Int × Int) {i j : Nat} (h : j ≠ i) : flipS f i j = f j := by unfold flipS; rw [if_neg h]
theorem TabOk.cut {b u : Int} {n : Nat} {f : Nat → Int × Int} (h : TabOk b u n f) {a : Int} {k : Nat} (ha : 41318 ≤ a ∧ a ≤ u) (hk : k ≤ n) (hd : ∀ j, j < k → (f j).1 < a) : TabOk b a k f :=
  ⟨h.b1, h.b2, ha.1, by have := h.u2; omega, by have := h.n1; omega, fun i hi => h.s i (by omega), fun i hi => ⟨(h.d1 i (by omega)).1, by have := hd i hi; omega⟩, fun i hi => h.e i (by omega), fun i j hij hj => h.o i j hij (by omega)⟩
theorem TabOk.flip {b u : Int} {n : Nat} {f : Nat → Int × Int} (h : TabOk b u n f) (i : Nat) : TabOk b u n (flipS f i) :=
  ⟨h.b1, h.b2, h.u1, h.u2, h.n1, fun j hj => by
    have := h.s j hj
    unfold flipS
    split
    · show -(f j).2 = 1 ∨ -(f j).2 = -1
      omega
    · exact this, fun j hj => by rw [flip_day]; exact h.d1 j hj, fun j hj => by rw [flip_day]; exact h.e j hj, fun j k hjk hk => by rw [flip_day, flip_day]; exact h.o j k hjk hk⟩
theorem eqF_refl (f : Nat → Int × Int) : ∀ n, eqF f f n = true
  | 0 => rfl
  | n + 1 => by rw [eqF, eqF_refl f n]; simp
theorem eqF_flip {f : Nat → Int × Int} {i n : Nat} (hi : i < n) (hs : (f i).2 = 1 ∨ (f i).2 = -1) : eqF (flipS f i) f n = false :=
  eqF_stop (by rw [flip_at]; simp; omega) n hi
theorem cut_ex (f : Nat → Int × Int) (a : Int) : ∀ n, (∀ i j, i < j → j < n → (f i).1 < (f j).1) → ∃ k, k ≤ n ∧ (∀ j, j < k → (f j).1 < a) ∧ (∀ j, k ≤ j → j < n → a ≤ (f j).1) := by
  intro n
  induction n with
  | zero => intro _; exact ⟨0, Nat.le_refl _, fun j h => by omega, fun j _ h => by omega⟩
  | succ n ih =>
    intro ho
    obtain ⟨k, hk, h1, h2⟩ := ih (fun i j hij hj => ho i j hij (by omega))
    by_cases e : k = n
    · subst e
      by_cases hl : (f k).1 < a
      · exact ⟨k + 1, Nat.le_refl _, fun j hj => by
          by_cases e : j = k
          · subst e; exact hl
          · exact h1 j (by omega), fun j h3 h4 => by omega⟩
      · exact ⟨k, by omega, h1, fun j h3 h4 => by
          obtain rfl : j = k := by omega
          omega⟩
    · refine ⟨k, by omega, h1, fun j h3 h4 => ?_⟩
      by_cases e2 : j = n
      · subst e2
        have := h2 k (Nat.le_refl _) (by omega)
        have := ho k j (by omega) (by omega)
        omega
      · exact h2 j h3 (by omega)
/-- the day of a second of the cut off table is that of the whole one -/
theorem IsDayOf.cut {u a : Int} {n k : Nat} {f : Nat → Int × Int} {s D : Int} (h : IsDayOf a k f s D) (ha : a ≤ u) (hk : k ≤ n) (hge : ∀ j, k ≤ j → j < n → a ≤ (f j).1) : IsDayOf u n f s D ∧ beginS f n D = beginS f k D := by
  have e1 : beginS f n D = beginS f k D := begin_cut hk (fun j h1 h2 => by have := hge j h1 h2; have := h.d2; omega)
  have e2 : beginS f n (D + 1) = beginS f k (D + 1) := begin_cut hk (fun j h1 h2 => by have := hge j h1 h2; have := h.d2; omega)
  exact ⟨⟨h.d1, by have := h.d2; omega, by rw [e1]; exact h.lo, by rw [e2]; exact h.hi⟩, e1⟩
theorem known_cut {b u a : Int} {n k : Nat} {f : Nat → Int × Int} (ht : TabOk b u n f) {s : Int} (h : 0 ≤ s ∧ s ≤ beginS f k a - 1) (ha : a ≤ u) (hk : k ≤ n) (hge : ∀ j, k ≤ j → j < n → a ≤ (f j).1) : knownE b u n f s = 0 := by
  have e1 : beginS f n a = beginS f k a := begin_cut hk hge
  have e2 := ht.begin_mono ha
  exact known_in ht.tabE ⟨h.1, by omega⟩
/-- the law's two tables while the second one is cut off the first one -/
structure CtAt (w X : World) (b u a : Int) (n c k : Nat) (p : Option Addr) (f : Nat → Int × Int) (v : Value) : Prop where
  t : TBox X w.heap.size b u n c p
  q0 : X.cell? ⟨w.heap.size + 1, 0, none⟩ = some (.int .i64 b)
  q1 : X.cell? ⟨w.heap.size + 1, 1, none⟩ = some v
  q2 : X.cell? ⟨w.heap.size + 1, 2, none⟩ = some (.int .i64 a)
  qz : ∀ i, X.frozen? ⟨w.heap.size + 1, i, none⟩ = false
  own : X.ownsRow (w.heap.size + 1 + 1) 46 2 v k (lv f k)
  bel : Below w.heap.size w X
theorem CtAt.below {w X Y : World} {b u a : Int} {n c k : Nat} {p : Option Addr} {f : Nat → Int × Int} {v : Value} (h : CtAt w X b u a n c k p f v) (hb : Below X.heap.size X Y) : CtAt w Y b u a n c k p f v :=
  ⟨h.t.below hb, cell_below hb h.q0, cell_below hb h.q1, cell_below hb h.q2, fun i => (hb.frozen (p := ⟨w.heap.size + 1, i, none⟩) (cell_lt h.q0)).trans (h.qz i), own_keep h.own hb (Nat.le_refl _), bt h.bel hb⟩
theorem ct_start (w : World) (b u a : Int) (n c : Nat) (p : Option Addr) (f : Nat → Int × Int) : CtAt w ((w.alloc (.cells #[.int .i64 b, .slice p n c, .int .i64 u] 43)).alloc (.cells #[.int .i64 b, .slice none 0 0, .int .i64 a] 43)).drew b u a n c 0 p f (.slice none 0 0) := by
  have b1 := below_alloc (Below.refl w.heap.size w) (.cells #[.int .i64 b, .slice p n c, .int .i64 u] 43)
  have h1 := TBox.new w b u n c p 43
  have e1 : (w.alloc (.cells #[.int .i64 b, .slice p n c, .int .i64 u] 43)).heap.size = w.heap.size + 1 := by simp
  generalize w.alloc (.cells #[.int .i64 b, .slice p n c, .int .i64 u] 43) = W1 at *
  have b2 := below_alloc (Below.refl W1.heap.size W1) (.cells #[.int .i64 b, .slice none 0 0, .int .i64 a] 43)
  obtain ⟨q0, q1, q2⟩ := TBox.new W1 b a 0 0 none 43
  have qz : ∀ i, (W1.alloc (.cells #[.int .i64 b, .slice none 0 0, .int .i64 a] 43)).frozen? ⟨W1.heap.size, i, none⟩ = false := fun i => by simp
  rw [e1] at q0 q1 q2 qz
  have h : CtAt w (W1.alloc (.cells #[.int .i64 b, .slice none 0 0, .int .i64 a] 43)) b u a n c 0 p f (.slice none 0 0) := ⟨h1.below b2, q0, q1, q2, qz, World.ownsRow_nil _ _ _ _, bt b1 b2⟩
  exact h.below (Below.drew (Below.refl _ _))
/-- how many leaps are taken over after so many rounds -/
def upTo (k m : Nat) : Nat := if k < m then k else m
theorem upTo_zero (m : Nat) : upTo 0 m = 0 := by unfold upTo; split <;> omega
theorem upTo_all {n m : Nat} (h : m ≤ n) : upTo n m = m := by unfold upTo; split <;> omega
theorem upTo_in {k m : Nat} (h : k < m) : upTo k m = k ∧ upTo (k + 1) m = k + 1 := by unfold upTo; constructor <;> split <;> omega
theorem upTo_out {k m : Nat} (h : ¬ k < m) : upTo k m = m ∧ upTo (k + 1) m = m := by unfold upTo; constructor <;> split <;> omega
theorem CtAt.more {w X Y : World} {b u a : Int} {n c k : Nat} {p : Option Addr} {f : Nat → Int × Int} {v v' : Value} (h : CtAt w X b u a n c k p f v) (hown : Y.ownsRow (w.heap.size + 1 + 1) 46 2 v' (k + 1) (lv f k ++ [.int .i64 (f k).1, .int .i64 (f k).2])) (hg : X.grownBy Y v.ownBlock) :
    CtAt w (Y.setCell ⟨w.heap.size + 1, 1, none⟩ v') b u a n c (k + 1) p f v' := by
  have hge : ∀ j, v.ownBlock = some j → w.heap.size + 1 + 1 ≤ j := fun j hj => own_geS h.own hj
  have hge' : ∀ j, v'.ownBlock = some j → w.heap.size + 1 + 1 ≤ j := fun j hj => own_geS hown hj
  have ne : ∀ a, a < w.heap.size + 1 + 1 → some a ≠ v.ownBlock := fun a ha e => by have := hge a e.symm; omega
  have q1 := grownO_cell hg h.q1 (ne _ (by omega))
  have far : ∀ {a o : Nat} {x : Value}, a ≠ w.heap.size + 1 → Y.cell? ⟨a, o, none⟩ = some x → (Y.setCell ⟨w.heap.size + 1, 1, none⟩ v').cell? ⟨a, o, none⟩ = some x := fun {a o x} hne hx => by
    rw [World.cell?_setCell_far _ _ _ _ (Ne.symm hne)]; exact hx
  have oth : ∀ {o : Nat} {x : Value}, o ≠ 1 → Y.cell? ⟨w.heap.size + 1, o, none⟩ = some x → (Y.setCell ⟨w.heap.size + 1, 1, none⟩ v').cell? ⟨w.heap.size + 1, o, none⟩ = some x := fun {o x} hne hx => by
    rw [World.cell?_setCell_other _ ⟨w.heap.size + 1, 1, none⟩ ⟨w.heap.size + 1, o, none⟩ _ (fun e => hne (by cases e; rfl))]; exact hx
  have r : ∀ {o : Nat} {x : Value}, X.cell? ⟨w.heap.size, o, none⟩ = some x → (Y.setCell ⟨w.heap.size + 1, 1, none⟩ v').cell? ⟨w.heap.size, o, none⟩ = some x := fun {o x} hx => far (by omega) (grownO_cell hg hx (ne _ (by omega)))
  refine ⟨⟨r h.t.c0, r h.t.c1, r h.t.c2⟩,
    oth (by decide) (grownO_cell hg h.q0 (ne _ (by omega))), World.cell?_setCell_same _ _ _ q1, oth (by decide) (grownO_cell hg h.q2 (ne _ (by omega))),
    fun i => by rw [World.frozen?_setCell]; exact grownO_frozen hg (cell_lt h.q0) (ne _ (by omega)) (h.qz i),
    own_set hown _ (fun e => by have h5 : w.heap.size + 1 + 1 ≤ w.heap.size + 1 := hge' _ e; omega), ?_⟩
  exact (Below.grown h.bel hg h.bel.size (fun j hj => by have := hge j hj; omega)).setCell (p := ⟨w.heap.size + 1, 1, none⟩) (by show w.heap.size ≤ w.heap.size + 1; omega) _
theorem own_leapsZ {X : World} {B : Nat} {e : TypeId} {v : Value} {n : Nat} {f : Nat → Int × Int} (h : X.ownsRow B e 2 v n (lv f n)) : ∀ g o q c m, v = .slice q m c → q = some ⟨g, o, none⟩ → ∀ i, X.frozen? ⟨g, i, none⟩ = false := by
  intro g o q c m hv hq i
  rcases h.2 with ⟨rfl, h0⟩ | ⟨g', cap, cur, rfl, hge, hg, rest⟩
  · cases hv; cases hq
  · cases hv; cases hq
    simp [World.frozen?, hg]
end Go.Proofs.YtnbccbjhnlggaaaDoor.Cal
