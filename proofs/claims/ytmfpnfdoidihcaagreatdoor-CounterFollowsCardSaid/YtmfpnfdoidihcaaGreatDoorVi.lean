/- Layer 2: a list of whole numbers as an argument of a law. · Layer 2: two lists of whole numbers that grow side by side, in blocks of their own. · Layer 2: a list of bounds that is collected. -/
import Derived.Test.YtmfpnfdoidihcaaGreatDoorCe
import Derived.Lib.SmallJoins
import Derived.Deep.Slices
import Derived.OpenShut
import Derived.Test.YtmfpnfdoidihcaaGreatDoorNn
import Derived.Maps.AppendAt
import Derived.Test.YtmfpnfdoidihcaaGreatDoorNx
namespace Go.Proofs.YtmfpnfdoidihcaaGreatDoor.Ct
open Go Go.RowKit Go.WideShapes Go.ChangeShapes Go.Deep Go.Joins
theorem pick_list {α : Type} (n : Nat) (Q : Nat → α → Prop) (h : ∀ i, i < n → ∃ x, Q i x) : ∃ l : List α, l.length = n ∧ ∀ i, (hi : i < l.length) → Q i l[i] := by
  induction n with
  | zero => exact ⟨[], rfl, fun i hi => absurd hi (by simp)⟩
  | succ n ih =>
    obtain ⟨l, hl, hq⟩ := ih fun i hi => h i (by omega)
    obtain ⟨x, hx⟩ := h n (by omega)
    refine ⟨l ++ [x], by simp [hl], fun i hi => ?_⟩
    by_cases hlt : i < l.length
    · rw [List.getElem_append_left hlt]; exact hq i hlt
    · have : i = l.length := by simp at hi; omega
      subst this
      rw [List.getElem_append_right (by omega)]
      simpa [hl] using hx
theorem add_plain (b o k : Nat) : (⟨b, o, none⟩ : Addr).add k = ⟨b, o + k, none⟩ := by
  unfold Addr.add; split <;> simp_all
def lAt (l : List Int) (i : Nat) : Int := (l[i]?).getD 0
section
variable {H : Type} {enc : TypeId × Value → H} {w : World} {base : Nat} {spare : Nat → Bool} {held : Bool}
set_option maxRecDepth 100000 in
theorem trod_list {fuel : Nat} {cs : List Value} {x : DataW H × List MemPlace} (h : DataW.trod enc Tryz.prog w base spare held fuel 29 cs = some x) :
    ∃ (l : List Int) (p : Option Addr) (cap : Nat), cs = [.slice p l.length cap] ∧ l.length ≤ maxLen ∧ FnIn w (lAt l) l.length p := by
  rcases open_slice1 Tryz.underlying29 (show Tryz.prog.cellsOf 3 = 1 by kernel_rfl) h with ⟨hcs, _⟩ | ⟨a, n, cap, m, n', V, D, Pl, rfl, _, hl, hm, hmm, hxe, hx⟩
  · exact ⟨[], none, 0, hcs, by simp [maxLen], .inl rfl⟩
  · have hlt : ∀ i, i < n → i < m := fun i hi => by rw [hmm]; split <;> omega
    have cell : ∀ i, i < n → ∃ x : Int, w.cell? (a.add i) = some (.int .i64 x) := by
      intro i hi
      obtain ⟨hc, ht'⟩ := hx i (hlt i hi)
      obtain ⟨x, hxx, _, _⟩ := DataW.trod_int Tryz.underlying3 ht'
      simp only [List.cons.injEq, and_true] at hxx
      exact ⟨x, by rw [hc, hxx]⟩
    rcases Nat.eq_zero_or_pos n with h0 | h0
    · subst h0
      exact ⟨[], some a, cap, rfl, by simp [maxLen], .inl rfl⟩
    · obtain ⟨v0, hv0⟩ := cell 0 h0
      obtain ⟨b, o, spot⟩ := a
      have hs : spot = none := by simpa [Addr.add] using World.cell?_spot hv0
      subst hs
      obtain ⟨l, rfl, hq⟩ := pick_list n _ cell
      refine ⟨l, _, cap, rfl, by omega, .inr ⟨b, o, rfl, fun i hi => ?_⟩⟩
      have := hq i hi
      rw [add_plain] at this
      rw [this]
      simp [lAt, hi]
set_option maxRecDepth 100000 in
theorem open_ints {r : Reach} {b0 : Nat} {v : Value} {d : DataW H} {q : List MemPlace} (hv : Value.okWide Tryz.prog w r b0 29 v) (h : DataW.Trod enc Tryz.prog w base spare held 29 v d q) :
    ∃ (l : List Int) (p : Option Addr) (cap : Nat), v = .slice p l.length cap ∧ l.length ≤ maxLen ∧ FnIn w (lAt l) l.length p := by
  obtain ⟨p, n, cap, rfl⟩ := okWide_slice Tryz.underlying29 hv
  obtain ⟨fuel, hf⟩ := h
  obtain ⟨l, p', cap', hcs, hl, hs⟩ := trod_list hf
  simp [Value.cells] at hcs
  obtain ⟨rfl, rfl, rfl⟩ := hcs
  exact ⟨l, p, cap, rfl, hl, hs⟩
end
end Go.Proofs.YtmfpnfdoidihcaaGreatDoor.Ct
namespace Go.Proofs.YtmfpnfdoidihcaaGreatDoor.Ct
open Go Go.RowKit Go.Shelf
/-- the first k numbers of a sequence, as values -/
def seqV (f : Nat → Int) (k : Nat) : List Value := (List.range k).map fun i => .int .i64 (f i)
theorem seqV_succ (f : Nat → Int) (k : Nat) : seqV f (k + 1) = seqV f k ++ [.int .i64 (f k)] := by simp [seqV, List.range_succ]
/-- a slice of the call's own that holds the first k numbers of a sequence -/
def OwnF (B : Nat) (X : World) (v : Value) (f : Nat → Int) (k : Nat) : Prop := X.ownsRow B 3 1 v k (seqV f k)
def ApartV (a b : Value) : Prop := a.ownBlock = none ∨ b.ownBlock = none ∨ a.ownBlock ≠ b.ownBlock
theorem ApartV.symm {a b : Value} (h : ApartV a b) : ApartV b a := by
  rcases h with h | h | h
  · exact .inr (.inl h)
  · exact .inl h
  · exact .inr (.inr h.symm)
theorem ApartV.ne {a b : Value} (h : ApartV a b) : a.ownBlock = none ∨ a.ownBlock ≠ b.ownBlock := by
  rcases h with h | h | h
  · exact .inl h
  · rw [h]; cases e : a.ownBlock <;> simp
  · exact .inr h
theorem OwnF.nil (B : Nat) (X : World) (f : Nat → Int) : OwnF B X (.slice none 0 0) f 0 := World.ownsRow_nil _ _ _ _
theorem OwnF.below {B k : Nat} {X Y : World} {v : Value} {f : Nat → Int} (h : OwnF B X v f k) (hb : Below X.heap.size X Y) : OwnF B Y v f k :=
  World.ownsRow.kept h (grown_below hb) (by cases e : v.ownBlock with | none => exact .inl rfl | some k => exact .inr (by simp))
theorem OwnF.in_ {B k : Nat} {X : World} {v : Value} {f : Nat → Int} (h : OwnF B X v f k) : ∃ p cap, v = .slice p k cap ∧ FnIn X f k p := by
  rcases h.2 with ⟨rfl, h0⟩ | ⟨g, cap, cur, rfl, _, _, _⟩
  · exact ⟨none, 0, by rw [h0], .inl h0⟩
  · refine ⟨some ⟨g, 0, none⟩, cap, rfl, .inr ⟨g, 0, rfl, fun i hi => ?_⟩⟩
    have := World.ownsRow.cells h (g := g) rfl i (.int .i64 (f i)) (by simp [seqV, hi])
    rwa [add_plain] at this
theorem OwnF.other {B k : Nat} {X Y : World} {v v' u : Value} {f : Nat → Int} {o : Obj} (h : OwnF B X u f k) (hd : ApartV u v) (hg : (X.alloc o).grownBy Y v.ownBlock) (hb : v'.ownBlock = v.ownBlock ∨ v'.ownBlock = some (X.alloc o).heap.size) : OwnF B Y u f k ∧ ApartV u v' := by
  refine ⟨World.ownsRow.kept (World.ownsRow.alloc h o) hg hd.ne, ?_⟩
  rcases hb with hb | hb
  · unfold ApartV; rw [hb]; exact hd
  · cases e : u.ownBlock with
    | none => exact .inl e
    | some k =>
      refine .inr (.inr ?_)
      rw [e, hb]
      have := (World.ownsRow.lt h k e).2
      intro hk
      cases hk
      simp at this
      omega
structure TurAt (W X : World) (u v : Value) (f g : Nat → Int) (i j : Nat) : Prop where
  o1 : OwnF W.heap.size X u f i
  o2 : OwnF W.heap.size X v g j
  d : ApartV u v
  bel : Below W.heap.size W X
variable {W X Y : World} {u v u' v' : Value} {f g : Nat → Int} {i j : Nat} {o : Obj}
theorem TurAt.below (h : TurAt W X u v f g i j) (hb : Below X.heap.size X Y) : TurAt W Y u v f g i j := ⟨h.o1.below hb, h.o2.below hb, h.d, h.bel.trans (hb.mono h.bel.size)⟩
theorem TurAt.grown {row : Option Nat} (h : TurAt W X u v f g i j) (hg : (X.alloc o).grownBy Y row) (hr : ∀ k, row = some k → W.heap.size ≤ k) : Below W.heap.size W Y := (h.bel.alloc h.bel.size o).grown hg (by have := h.bel.size; simp; omega) hr
theorem TurAt.first (h : TurAt W X u v f g i j) {x : Int} (hx : x = f i) (hown : Y.ownsRow W.heap.size 3 1 u' (i + 1) (seqV f i ++ [.int .i64 x])) (hg : (X.alloc o).grownBy Y u.ownBlock) (hb : u'.ownBlock = u.ownBlock ∨ u'.ownBlock = some (X.alloc o).heap.size) : TurAt W Y u' v f g (i + 1) j := by
  obtain ⟨p2, q2⟩ := h.o2.other h.d.symm hg hb
  refine ⟨?_, p2, q2.symm, h.grown hg (fun k hk => (World.ownsRow.lt h.o1 k hk).1)⟩
  unfold OwnF
  rw [seqV_succ, ← hx]
  exact hown
theorem TurAt.second (h : TurAt W X u v f g i j) {x : Int} (hx : x = g j) (hown : Y.ownsRow W.heap.size 3 1 v' (j + 1) (seqV g j ++ [.int .i64 x])) (hg : (X.alloc o).grownBy Y v.ownBlock) (hb : v'.ownBlock = v.ownBlock ∨ v'.ownBlock = some (X.alloc o).heap.size) : TurAt W Y u v' f g i (j + 1) := by
  obtain ⟨p1, q1⟩ := h.o1.other h.d hg hb
  refine ⟨p1, ?_, q1, h.grown hg (fun k hk => (World.ownsRow.lt h.o2 k hk).1)⟩
  unfold OwnF
  rw [seqV_succ, ← hx]
  exact hown
end Go.Proofs.YtmfpnfdoidihcaaGreatDoor.Ct
namespace Go.Proofs.YtmfpnfdoidihcaaGreatDoor.Ct
open Go Go.RowKit Go.Shelf
theorem infoBound : (Tryz.prog.info? 71).map (fun i => (i.zero, i.size, i.bytes)) = some (some (.agg #[.int .i64 0, .int .i64 0, .int .i64 0, .int .i64 0]), 4, 32) := by kernel_rfl
def bndV (l : List Bnd) : Nat → List Value
  | 0 => []
  | k + 1 => bndV l k ++ [.int .i64 (bndAt l k).a, .int .i64 (bndAt l k).b, .int .i64 (bndAt l k).lo, .int .i64 (bndAt l k).hi]
theorem bndV_len (l : List Bnd) : ∀ k, (bndV l k).length = k * 4
  | 0 => rfl
  | k + 1 => by simp only [bndV, List.length_append, bndV_len l k, List.length_cons, List.length_nil]; omega
theorem bndV_at (l : List Bnd) : ∀ (k i : Nat), i < k → (bndV l k)[i * 4]? = some (.int .i64 (bndAt l i).a) ∧ (bndV l k)[i * 4 + 1]? = some (.int .i64 (bndAt l i).b) ∧ (bndV l k)[i * 4 + 2]? = some (.int .i64 (bndAt l i).lo) ∧ (bndV l k)[i * 4 + 3]? = some (.int .i64 (bndAt l i).hi)
  | k + 1, i, h => by
    have hl := bndV_len l k
    unfold bndV
    by_cases e : i = k
    · subst e
      rw [List.getElem?_append_right (by omega), List.getElem?_append_right (by omega), List.getElem?_append_right (by omega), List.getElem?_append_right (by omega), hl, show i * 4 - i * 4 = 0 by omega, show i * 4 + 1 - i * 4 = 1 by omega, show i * 4 + 2 - i * 4 = 2 by omega, show i * 4 + 3 - i * 4 = 3 by omega]
      exact ⟨rfl, rfl, rfl, rfl⟩
    · have ih := bndV_at l k i (by omega)
      rw [List.getElem?_append_left (by omega), List.getElem?_append_left (by omega), List.getElem?_append_left (by omega), List.getElem?_append_left (by omega)]
      exact ih
theorem four_new (w : World) (x y z u : Value) (t : TypeId) : ∀ j v, [x, y, z, u][j]? = some v → (w.alloc (.cells #[x, y, z, u] t)).cell? ((⟨w.heap.size, 0, none⟩ : Addr).add j) = some v := by
  intro j v hj
  match j, hj with
  | 0, hj => simp at hj; subst hj; simp [Addr.add]
  | 1, hj => simp at hj; subst hj; simp [Addr.add]
  | 2, hj => simp at hj; subst hj; simp [Addr.add]
  | 3, hj => simp at hj; subst hj; simp [Addr.add]
/-- the bounds as they are made -/
structure BoAt (w X : World) (v : Value) (l : List Bnd) (k : Nat) : Prop where
  own : X.ownsRow w.heap.size 71 4 v k (bndV l k)
  bel : Below w.heap.size w X
theorem BoAt.more {w X Y : World} {v v' : Value} {l : List Bnd} {k : Nat} {o : Obj} (h : BoAt w X v l k) (hown : Y.ownsRow w.heap.size 71 4 v' (k + 1) (bndV l k ++ [.int .i64 (bndAt l k).a, .int .i64 (bndAt l k).b, .int .i64 (bndAt l k).lo, .int .i64 (bndAt l k).hi])) (hg : (X.alloc o).grownBy Y v.ownBlock) : BoAt w Y v' l (k + 1) :=
  ⟨hown, (h.bel.alloc h.bel.size o).grown hg (by have := h.bel.size; simp; omega) (fun k hk => (World.ownsRow.lt h.own k hk).1)⟩
theorem BoAt.in_ {w X : World} {v : Value} {l : List Bnd} (h : BoAt w X v l l.length) : ∃ p cap, v = .slice p l.length cap ∧ BndsIn X l p := by
  rcases h.own.2 with ⟨rfl, h0⟩ | ⟨g, cap, cur, rfl, _, _, _⟩
  · exact ⟨none, 0, by rw [h0], .inl h0⟩
  · refine ⟨some ⟨g, 0, none⟩, cap, rfl, .inr ⟨g, 0, rfl, fun i hi => ?_⟩⟩
    obtain ⟨h1, h2, h3, h4⟩ := bndV_at l l.length i hi
    have k : ∀ (i : Nat) (v : Value), (bndV l l.length)[i]? = some v → X.cell? ⟨g, i, none⟩ = some v := fun i v hi => by
      have := World.ownsRow.cells h.own (g := g) rfl i v hi
      rwa [show (⟨g, 0, none⟩ : Addr).add i = ⟨g, i, none⟩ by unfold Addr.add; split <;> simp_all] at this
    rw [Nat.zero_add]
    exact ⟨⟨k _ _ h1, k _ _ h2⟩, k _ _ h3, k _ _ h4⟩
theorem bndAt_snoc (L : List Bnd) (y : Bnd) {i : Nat} (h : i < L.length) : bndAt (L ++ [y]) i = bndAt L i := by
  unfold bndAt; rw [List.getElem?_append_left h]
theorem bndAt_last (L : List Bnd) (y : Bnd) : bndAt (L ++ [y]) L.length = y := by
  unfold bndAt; rw [List.getElem?_append_right (Nat.le_refl _)]; simp
theorem bndV_snoc (L : List Bnd) (y : Bnd) : ∀ k, k ≤ L.length → bndV (L ++ [y]) k = bndV L k
  | 0, _ => rfl
  | k + 1, h => by simp only [bndV, bndV_snoc L y k (by omega), bndAt_snoc L y (show k < L.length by omega)]
theorem BoAt.below {w X Y : World} {v : Value} {l : List Bnd} {k : Nat} (h : BoAt w X v l k) (hb : Below X.heap.size X Y) : BoAt w Y v l k :=
  ⟨World.ownsRow.kept h.own (grown_below hb) (by cases e : v.ownBlock with | none => exact .inl rfl | some k => exact .inr (by simp)), h.bel.trans (hb.mono h.bel.size)⟩
theorem BoAt.snoc {w X Y : World} {v v' : Value} {L : List Bnd} {y : Bnd} {o : Obj} (h : BoAt w X v L L.length) (hown : Y.ownsRow w.heap.size 71 4 v' (L.length + 1) (bndV L L.length ++ [.int .i64 y.a, .int .i64 y.b, .int .i64 y.lo, .int .i64 y.hi])) (hg : (X.alloc o).grownBy Y v.ownBlock) : BoAt w Y v' (L ++ [y]) (L ++ [y]).length := by
  refine ⟨?_, (h.bel.alloc h.bel.size o).grown hg (by have := h.bel.size; simp; omega) (fun k hk => (World.ownsRow.lt h.own k hk).1)⟩
  rw [List.length_append]
  show Y.ownsRow w.heap.size 71 4 v' (L.length + 1) (bndV (L ++ [y]) L.length ++ [.int .i64 (bndAt (L ++ [y]) L.length).a, .int .i64 (bndAt (L ++ [y]) L.length).b, .int .i64 (bndAt (L ++ [y]) L.length).lo, .int .i64 (bndAt (L ++ [y]) L.length).hi])
  rw [bndV_snoc L y _ (Nat.le_refl _), bndAt_last]
  exact hown
theorem BoAt.nil (w : World) : BoAt w w (.slice none 0 0) [] 0 := ⟨World.ownsRow_nil _ _ _ _, Below.refl _ _⟩
end Go.Proofs.YtmfpnfdoidihcaaGreatDoor.Ct
