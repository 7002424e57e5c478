/- What StabilityScales does with copies of a series. -/
import Derived.Test.YtpmhphdpomiacaaTi
import Derived.Test.YtpmhphdpomiacaaRv
import Derived.Test.YtpmhphdpomiacaaStT
import Derived.Test.YtpmhphdpomiacaaPs
namespace Go.Proofs.Ytpmhphdpomiacaa
open Go Go.RowKit Go.Shelf
/-- a copy of a list of numbers -/
theorem clone_any (l : List Int) (p : Option Addr) (cap : Nat) (w : World) (hs : SerIn w l p) (hp : p = none ∨ ∃ g, p = some ⟨g, 0, none⟩) (hl : l.length ≤ 1000000) :
    Calls Try.prog 21 #[.slice p l.length cap] w fun e w' => ∃ p' c', e = .returned (.slice p' l.length c') ∧ OwnI w.heap.size w' (.slice p' l.length c') l ∧ Below w.heap.size w w' := by
  rcases hp with rfl | ⟨g, rfl⟩
  · have h0 : l = [] := by
      rcases hs.2 with h | ⟨b, o, h, _⟩
      · exact List.eq_nil_of_length_eq_zero h
      · cases h
    subst h0
    refine (clone_nil cap w).mono ?_
    rintro e w' ⟨rfl, rfl⟩
    exact ⟨_, _, rfl, World.ownsRow_nil _ _ _ _, Below.refl _ _⟩
  · have hi : IntsAt w l g 0 := by
      rcases hs.2 with h0 | ⟨b, o, e, hi⟩
      · intro i hi; omega
      · cases e; exact hi
    refine (clone_some l g 0 cap w hl hi).mono ?_
    rintro e w' ⟨v, rfl, hown, hb⟩
    obtain ⟨p', c', rfl, -⟩ := ints_own hown
    exact ⟨p', c', rfl, hown, hb⟩
/-- a box with a copy of the phases -/
structure ClBox (X Y : World) (b : Nat) (tau : Int) (v : Value) (l : List Int) : Prop where
  own : OwnI X.heap.size Y v l
  s : SAt Y b tau v
  bel : Below X.heap.size X Y
  ge : X.heap.size ≤ b
  ne : v.ownBlock ≠ some b
variable {X Y W : World} {b g : Nat} {tau x : Int} {v : Value} {l l' : List Int} {p q : Option Addr} {cap : Nat}
theorem box_new (Z : World) (t : TypeId) : (Z.alloc (.cells #[.int .i64 0, .slice none 0 0] t)).cell? ⟨Z.heap.size, 0, none⟩ = some (.int .i64 0) ∧ (Z.alloc (.cells #[.int .i64 0, .slice none 0 0] t)).cell? ⟨Z.heap.size, 1, none⟩ = some (.slice none 0 0) ∧
    (Z.alloc (.cells #[.int .i64 0, .slice none 0 0] t)).frozen? ⟨Z.heap.size, 0, none⟩ = false ∧ (Z.alloc (.cells #[.int .i64 0, .slice none 0 0] t)).frozen? ⟨Z.heap.size, 1, none⟩ = false := ⟨by simp, by simp, by simp, by simp⟩
/-- copied behind the making of the box -/
theorem clone_box (X : World) (l : List Int) (p : Option Addr) (cap : Nat) (t : TypeId) (hs : SerIn X l p) (hp : p = none ∨ ∃ g, p = some ⟨g, 0, none⟩) (hl : l.length ≤ 1000000) :
    Calls Try.prog 21 #[.slice p l.length cap] (X.drew.alloc (.cells #[.int .i64 0, .slice none 0 0] t)) fun e w' => ∃ p' c', e = .returned (.slice p' l.length c') ∧ (OwnI X.heap.size w' (.slice p' l.length c') l ∧ (Value.slice p' l.length c').ownBlock ≠ some X.heap.size) ∧
      Below X.heap.size X w' ∧ (w'.cell? ⟨X.heap.size, 0, none⟩ = some (.int .i64 0) ∧ w'.cell? ⟨X.heap.size, 1, none⟩ = some (.slice none 0 0)) ∧ (w'.frozen? ⟨X.heap.size, 0, none⟩ = false ∧ w'.frozen? ⟨X.heap.size, 1, none⟩ = false) ∧ X.heap.size < w'.heap.size := by
  have hb0 : Below X.heap.size X (X.drew.alloc (.cells #[.int .i64 0, .slice none 0 0] t)) := below_alloc (Below.drew (Below.refl _ _)) _
  have hz : (X.drew.alloc (.cells #[.int .i64 0, .slice none 0 0] t)).heap.size = X.heap.size + 1 := by simp
  obtain ⟨k0, k1, k2, k3⟩ := box_new X.drew t
  refine (clone_any l p cap _ (hs.below hb0) hp hl).mono ?_
  rintro e w' ⟨p', c', rfl, hown, hb⟩
  refine ⟨p', c', rfl, ⟨own_low hown (by omega), own_beyond hown (by omega)⟩, hb0.trans (hb.mono hb0.size), ⟨cell_below hb k0, cell_below hb k1⟩, ⟨(hb.frozen (p := ⟨X.heap.size, 0, none⟩) (by show X.heap.size < _; omega)).trans k2, (hb.frozen (p := ⟨X.heap.size, 1, none⟩) (by show X.heap.size < _; omega)).trans k3⟩, ?_⟩
  have := hb.size
  omega
theorem clone_bare (X : World) (l : List Int) (p : Option Addr) (cap : Nat) (hs : SerIn X l p) (hp : p = none ∨ ∃ g, p = some ⟨g, 0, none⟩) (hl : l.length ≤ 1000000) :
    Calls Try.prog 21 #[.slice p l.length cap] X.drew fun e w' => ∃ p' c', e = .returned (.slice p' l.length c') ∧ OwnI X.heap.size w' (.slice p' l.length c') l ∧ Below X.heap.size X w' := by
  have hb0 : Below X.heap.size X X.drew := Below.drew (Below.refl _ _)
  refine (clone_any l p cap _ (hs.below hb0) hp hl).mono ?_
  rintro e w' ⟨p', c', rfl, hown, hb⟩
  exact ⟨p', c', rfl, hown, hb0.trans (hb.mono hb0.size)⟩
theorem ClBox.of_box (hown : OwnI X.heap.size W v l) (hne : v.ownBlock ≠ some X.heap.size) (hb : Below X.heap.size X W) (c0 : W.cell? ⟨X.heap.size, 0, none⟩ = some (.int .i64 0)) (c1 : W.cell? ⟨X.heap.size, 1, none⟩ = some (.slice none 0 0)) :
    ClBox X ((W.setCell ⟨X.heap.size, 0, none⟩ (.int .i64 tau)).setCell ⟨X.heap.size, 1, none⟩ v) X.heap.size tau v l :=
  ⟨(hown.kept (grownBy_set W X.heap.size 0 _) (.inr hne)).kept (grownBy_set _ X.heap.size 1 _) (.inr hne), ⟨pair_c0 _ _ c0, two_c1 _ _ c1⟩, (hb.setCell (Nat.le_refl _) _).setCell (Nat.le_refl _) _, Nat.le_refl _, hne⟩
theorem ClBox.of_bare {t : TypeId} (hown : OwnI X.heap.size W v l) (hb : Below X.heap.size X W) : ClBox X (W.alloc (.cells #[.int .i64 tau, v] t)) W.heap.size tau v l :=
  ⟨hown.alloc _, ⟨by simp, by simp⟩, hb.alloc hb.size _, hb.size, fun e => Nat.lt_irrefl _ (World.ownsRow.lt hown _ e).2⟩
theorem ClBox.turned (h : ClBox X Y b tau v l) (hown : OwnI X.heap.size W v l') (hb : Below X.heap.size Y W) (hg : Y.grownBy W v.ownBlock) : ClBox X W b tau v l' := by
  have hblk : W.heap[b]? = Y.heap[b]? := hg.block b (cell_lt h.s.1) (fun e => h.ne e.symm)
  exact ⟨hown, ⟨(World.cell?_of_block (a := ⟨b, 0, none⟩) hblk).trans h.s.1, (World.cell?_of_block (a := ⟨b, 1, none⟩) hblk).trans h.s.2⟩, h.bel.trans hb, h.ge, h.ne⟩
/-- what lies in a box with a copy whose numbers are written anew -/
structure MoreAt (X Y : World) (b g : Nat) (tau : Int) (v : Value) (l : List Int) : Prop where
  s : SAt Y b tau v
  i : IntBox Y g l
  bel : Below X.heap.size X Y
  ge : X.heap.size ≤ g
  ne : g ≠ b
theorem ClBox.more (h : ClBox X Y b tau (.slice p l.length cap) l) : ∃ g, MoreAt X Y b g tau (.slice p l.length cap) l ∧ (1 ≤ l.length → p = some ⟨g, 0, none⟩) := by
  rcases h.own.2 with ⟨e, h0⟩ | ⟨g, cap', cur, e, hg, hgb, h1, h2, h3, h4⟩
  · exact ⟨b + 1, ⟨h.s, fun i hi => by omega, h.bel, by have := h.ge; omega, by omega⟩, by omega⟩
  · cases e
    refine ⟨g, ⟨h.s, fun i hi => ⟨?_, by simp [World.frozen?, hgb]⟩, h.bel, hg, ?_⟩, fun _ => rfl⟩
    · obtain ⟨b', c', e, hI⟩ := h.own.ints (by omega)
      cases e
      have := hI i hi
      rwa [Nat.zero_add] at this
    · rintro rfl
      exact h.ne (by simp [Value.ownBlock])
theorem MoreAt.step (h : MoreAt X Y b g tau v l) (j : Nat) (hj : j < l.length) (x : Int) : MoreAt X (Y.setCell ⟨g, j, none⟩ (.int .i64 x)) b g tau v (l.set j x) :=
  ⟨⟨by rw [World.cell?_setCell_far _ _ _ _ h.ne]; exact h.s.1, by rw [World.cell?_setCell_far _ _ _ _ h.ne]; exact h.s.2⟩, h.i.set j x hj, h.bel.setCell h.ge _, h.ge, h.ne⟩
theorem MoreAt.ser (h : MoreAt X Y b g tau v l) (hl : l.length ≤ 1000000) (hp : 1 ≤ l.length → p = some ⟨g, 0, none⟩) : SerIn Y l p := by
  refine ⟨by unfold maxLen; omega, ?_⟩
  by_cases h0 : l.length = 0
  · exact .inl h0
  · exact .inr ⟨g, 0, hp (by omega), fun i hi => by rw [Nat.zero_add]; exact (h.i i hi).1⟩
end Go.Proofs.Ytpmhphdpomiacaa
