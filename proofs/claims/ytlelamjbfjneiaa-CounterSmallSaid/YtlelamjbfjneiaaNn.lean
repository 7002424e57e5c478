/- Contracts of layer 2: resolve. -/
import Derived.Test.YtlelamjbfjneiaaNm
namespace Go.Proofs.Ytlelamjbfjneiaa.Ct
open Go Go.RowKit Go.Shelf
attribute [local go_sem] Oper.semAt_some
def inDiff (d : Int) : Bool := decide (-1000000000000000 ≤ d) && decide (d ≤ 1000000000000000)
def turnN (c : Cnt) (m lo hi : Int) : Nat := (lastS c m lo hi + 1 - firstS c m lo).toNat
def foundL (c : Cnt) (m lo hi : Int) : List (Int × Int) := spanL c (midS c m) lo hi (firstS c m lo) (turnN c m lo hi)
def pickS : List (Int × Int) → (Int × Int) × Int
  | [] => ((0, 0), 12)
  | [x] => (x, 0)
  | _ :: _ :: _ => ((0, 0), 8)
/-- the answer of resolve -/
def resS (c : Cnt) (m lo hi : Int) : (Int × Int) × Int :=
  if showB c m && inDiff lo && inDiff hi then if hi < lo then ((0, 0), 1) else pickS (foundL c m lo hi) else ((0, 0), 6)
def resVal (r : (Int × Int) × Int) : Value := .tuple #[spVal r.1, .int .i64 r.2]
theorem inDiff_bd {d : Int} (h : inDiff d = true) : -1000000000000000 ≤ d ∧ d ≤ 1000000000000000 := by
  unfold inDiff at h
  simp only [Bool.and_eq_true, decide_eq_true_eq] at h
  exact h
/-- the boxes of resolve -/
structure ResIn (X : World) (b : Nat) (c : Cnt) (lo hi : Int) : Prop where
  cb : CBox X b c
  s : SpBox X (b + 1) lo hi
  r : SpBox X (b + 1 + 1) 0 0
  f0 : X.frozen? ⟨b + 1 + 1, 0, none⟩ = false
  f1 : X.frozen? ⟨b + 1 + 1, 1, none⟩ = false
  e : One X (b + 1 + 1 + 1) 0
theorem ResIn.below {X Y : World} {b : Nat} {c : Cnt} {lo hi : Int} (h : ResIn X b c lo hi) (hb : Below X.heap.size X Y) : ResIn Y b c lo hi :=
  ⟨h.cb.below hb, h.s.below hb, h.r.below hb, (hb.frozen (p := ⟨b + 1 + 1, 0, none⟩) (cell_lt h.r.1)).trans h.f0, (hb.frozen (p := ⟨b + 1 + 1, 1, none⟩) (cell_lt h.r.1)).trans h.f1, h.e.below hb⟩
def resW (w : World) (c : Cnt) (lo hi : Int) : World := (((w.alloc (cntObj c)).alloc (.cells #[.int .i64 lo, .int .i64 hi] 43)).alloc (.cells #[.int .i64 0, .int .i64 0] 43)).alloc (.cells #[.int .i64 0] 28)
theorem resIn_new (w : World) (c : Cnt) (lo hi : Int) : ResIn (resW w c lo hi) w.heap.size c lo hi ∧ Below w.heap.size w (resW w c lo hi) := by
  have e1 : (w.alloc (cntObj c)).heap.size = w.heap.size + 1 := by simp
  have e2 : ∀ v, ((w.alloc (cntObj c)).alloc v).heap.size = w.heap.size + 1 + 1 := by simp
  have e3 : ∀ v u, (((w.alloc (cntObj c)).alloc v).alloc u).heap.size = w.heap.size + 1 + 1 + 1 := by simp
  have k : ∀ (X : World) (x y : Int) (t : TypeId), (X.alloc (.cells #[.int .i64 x, .int .i64 y] t)).frozen? ⟨X.heap.size, 0, none⟩ = false ∧ (X.alloc (.cells #[.int .i64 x, .int .i64 y] t)).frozen? ⟨X.heap.size, 1, none⟩ = false := fun X x y t => ⟨by simp, by simp⟩
  have b1 := below_alloc (Below.refl (w.alloc (cntObj c)).heap.size _) (.cells #[.int .i64 lo, .int .i64 hi] 43)
  have b2 := fun v => below_alloc (Below.refl ((w.alloc (cntObj c)).alloc v).heap.size _) (.cells #[.int .i64 0, .int .i64 0] 43)
  have b3 := fun v u => below_alloc (Below.refl (((w.alloc (cntObj c)).alloc v).alloc u).heap.size _) (.cells #[.int .i64 0] 28)
  have s1 := SpBox.new (w.alloc (cntObj c)) lo hi 43
  have s2 := fun v => SpBox.new ((w.alloc (cntObj c)).alloc v) 0 0 43
  have g2 := fun v => k ((w.alloc (cntObj c)).alloc v) 0 0 43
  have s3 := fun v u => One.new (((w.alloc (cntObj c)).alloc v).alloc u) 0 28
  rw [e1] at s1
  simp only [e2] at s2 g2
  simp only [e3] at s3
  refine ⟨⟨(((CBox.new w c).below b1).below (b2 _)).below (b3 _ _), (s1.below (b2 _)).below (b3 _ _), (s2 _).below (b3 _ _), ((b3 _ _).frozen (p := ⟨_, 0, none⟩) (cell_lt (s2 _).1)).trans (g2 _).1, ((b3 _ _).frozen (p := ⟨_, 1, none⟩) (cell_lt (s2 _).1)).trans (g2 _).2, s3 _ _⟩, ?_⟩
  exact below_alloc (below_alloc (below_alloc (below_alloc (Below.refl _ _) _) _) _) _
theorem res_two {X : World} {tmps : Array Value} {b b' : Nat} {x y e : Int} (h6 : tmps.getD 6 undef = .pointer (some ⟨b, 0, none⟩)) (h7 : tmps.getD 7 undef = .pointer (some ⟨b', 0, none⟩)) (hs : SpBox X b x y) (he : X.cell? ⟨b', 0, none⟩ = some (.int .i64 e)) :
    (results Try.f34 tmps).run Try.prog X = .ok (.tuple #[spVal (x, y), .int .i64 e]) X := by
  obtain ⟨s0, s1⟩ := hs
  simp only [results, show Try.f34.results = #[.cell 6 43, .cell 7 28] from rfl]
  rw [Array.getD_eq_getD_getElem?] at h6 h7
  simp [Sem.run_bind, Result.andThen, h6, h7, go_sem, s0, s1, he, spVal]
/-- the world where a result is written -/
def wroteR (X : World) (b : Nat) (x y e : Int) : World := ((X.setCell ⟨b + 1 + 1, 0, none⟩ (.int .i64 x)).setCell ⟨b + 1 + 1, 1, none⟩ (.int .i64 y)).setCell ⟨b + 1 + 1 + 1, 0, none⟩ (.int .i64 e)
theorem ResIn.wrote {X : World} {b : Nat} {c : Cnt} {lo hi : Int} (h : ResIn X b c lo hi) (x y e : Int) : SpBox (wroteR X b x y e) (b + 1 + 1) x y ∧ (wroteR X b x y e).cell? ⟨b + 1 + 1 + 1, 0, none⟩ = some (.int .i64 e) := by
  unfold wroteR
  have h1 : ((X.setCell ⟨b + 1 + 1, 0, none⟩ (.int .i64 x)).setCell ⟨b + 1 + 1, 1, none⟩ (.int .i64 y)).cell? ⟨b + 1 + 1 + 1, 0, none⟩ = some (.int .i64 0) := by
    rw [World.cell?_setCell_far _ _ _ _ (by show b + 1 + 1 ≠ b + 1 + 1 + 1; omega), World.cell?_setCell_far _ _ _ _ (by show b + 1 + 1 ≠ b + 1 + 1 + 1; omega)]
    exact h.e.c
  obtain ⟨s0, s1⟩ := SpBox.set (x := x) (y := y) h.r.1 h.r.2
  refine ⟨⟨?_, ?_⟩, World.cell?_setCell_same _ _ _ h1⟩
  · rw [World.cell?_setCell_far _ _ _ _ (by show b + 1 + 1 + 1 ≠ b + 1 + 1; omega)]; exact s0
  · rw [World.cell?_setCell_far _ _ _ _ (by show b + 1 + 1 + 1 ≠ b + 1 + 1; omega)]; exact s1
theorem wrote_below {w X : World} (h : Below w.heap.size w X) (x y e : Int) : Below w.heap.size w (wroteR X w.heap.size x y e) :=
  ((h.setCell (p := ⟨w.heap.size + 1 + 1, 0, none⟩) (by show w.heap.size ≤ w.heap.size + 1 + 1; omega) _).setCell (p := ⟨w.heap.size + 1 + 1, 1, none⟩) (by show w.heap.size ≤ w.heap.size + 1 + 1; omega) _).setCell (p := ⟨w.heap.size + 1 + 1 + 1, 0, none⟩) (by show w.heap.size ≤ w.heap.size + 1 + 1 + 1; omega) _
theorem res_ret {w X : World} {c : Cnt} {lo hi : Int} (h : ResIn X w.heap.size c lo hi) (hB : Below w.heap.size w X) (x y e : Int) {tmps : Array Value} (h6 : tmps.getD 6 undef = .pointer (some ⟨w.heap.size + 1 + 1, 0, none⟩)) (h7 : tmps.getD 7 undef = .pointer (some ⟨w.heap.size + 1 + 1 + 1, 0, none⟩)) :
    ∃ v, (results Try.f34 tmps).run Try.prog (wroteR X w.heap.size x y e) = .ok v (wroteR X w.heap.size x y e) ∧ Ending.returned v = Ending.returned (resVal ((x, y), e)) ∧ Below w.heap.size w (wroteR X w.heap.size x y e) :=
  ⟨_, res_two h6 h7 (h.wrote x y e).1 (h.wrote x y e).2, rfl, wrote_below hB x y e⟩
/-- what has been found so far -/
def FoundAt (W : World) (B : Nat) (pre : List (Int × Int)) : Prop :=
  W.frozen? ⟨B, 0, none⟩ = false ∧ ((pre = [] ∧ W.cell? ⟨B, 0, none⟩ = some (.slice none 0 0)) ∨ (∃ x g cap, pre = [x] ∧ W.cell? ⟨B, 0, none⟩ = some (.slice (some ⟨g, 0, none⟩) 1 cap) ∧ B < g ∧ SpBox W g x.1 x.2))
theorem FoundAt.below {X Y : World} {B : Nat} {pre : List (Int × Int)} (h : FoundAt X B pre) (hb : Below X.heap.size X Y) : FoundAt Y B pre := by
  obtain ⟨h0, h1 | ⟨x, g, cap, e, h1, h2, h3⟩⟩ := h
  · exact ⟨(hb.frozen (p := ⟨B, 0, none⟩) (cell_lt h1.2)).trans h0, .inl ⟨h1.1, cell_below hb h1.2⟩⟩
  · exact ⟨(hb.frozen (p := ⟨B, 0, none⟩) (cell_lt h1)).trans h0, .inr ⟨x, g, cap, e, cell_below hb h1, h2, h3.below hb⟩⟩
/-- the loop's state -/
structure ResAt (w X W : World) (c : Cnt) (lo hi : Int) (B : Nat) (pre : List (Int × Int)) : Prop where
  i : ResIn W w.heap.size c lo hi
  bel : Below w.heap.size w W
  fd : FoundAt W B pre
  sz : X.heap.size ≤ W.heap.size
theorem ResAt.below {w X W Y : World} {c : Cnt} {lo hi : Int} {B : Nat} {pre : List (Int × Int)} (h : ResAt w X W c lo hi B pre) (hb : Below W.heap.size W Y) : ResAt w X Y c lo hi B pre :=
  ⟨h.i.below hb, h.bel.trans (hb.mono h.bel.size), h.fd.below hb, Nat.le_trans h.sz hb.size⟩
/-- the loop's end with two -/
def ResOut (w W : World) : Prop := SpBox W (w.heap.size + 1 + 1) 0 0 ∧ W.cell? ⟨w.heap.size + 1 + 1 + 1, 0, none⟩ = some (.int .i64 8) ∧ Below w.heap.size w W
def TurnBlk (B N k : Nat) : Prop := B < k ∧ k < N
theorem stay_grown {A C : World} {row : Option Nat} (hg : A.grownBy C row) (hr : ∀ r, row = some r → ∃ o : Obj, A.heap[r]? = some o ∧ o.isCells = false) : StayC (fun _ => True) A C :=
  ⟨hg.size, fun k o _ hk hc => by
    have hl : k < A.heap.size := (Array.getElem?_eq_some_iff.1 hk).1
    refine (hg.block k hl ?_).trans hk
    intro e
    obtain ⟨o', h1, h2⟩ := hr k e.symm
    rw [hk] at h1
    cases h1
    rw [hc] at h2
    cases h2⟩
theorem StayC.frozen {f : Nat → Prop} {A B : World} {b o o' : Nat} {v : Value} (h : StayC f A B) (hb : f b) (hc : A.cell? ⟨b, o, none⟩ = some v) : B.frozen? ⟨b, o', none⟩ = A.frozen? ⟨b, o', none⟩ := by
  obtain ⟨ob, h1, h2⟩ := cells_of_cell hc
  exact World.frozen?_of_block (a := ⟨b, o', none⟩) ((h.2 b ob hb h1 h2).trans h1.symm)
theorem SpBox.stay {f : Nat → Prop} {A B : World} {b : Nat} {x y : Int} (h : SpBox A b x y) (k : StayC f A B) (hb : f b) : SpBox B b x y := ⟨k.cell hb h.1, k.cell hb h.2⟩
theorem FoundAt.stay {X Y : World} {B : Nat} {pre : List (Int × Int)} (h : FoundAt X B pre) (hk : StayC (fun _ => True) X Y) : FoundAt Y B pre := by
  obtain ⟨h0, h1 | ⟨x, g, cap, e, h1, h2, h3⟩⟩ := h
  · exact ⟨(hk.frozen trivial h1.2).trans h0, .inl ⟨h1.1, hk.cell trivial h1.2⟩⟩
  · exact ⟨(hk.frozen trivial h1).trans h0, .inr ⟨x, g, cap, e, hk.cell trivial h1, h2, h3.stay hk trivial⟩⟩
theorem ResIn.stay {X Y : World} {b : Nat} {c : Cnt} {lo hi : Int} (h : ResIn X b c lo hi) (k : StayC (fun _ => True) X Y) : ResIn Y b c lo hi :=
  ⟨⟨k.cell trivial h.cb.c0, k.cell trivial h.cb.c1, k.cell trivial h.cb.c2, k.cell trivial h.cb.c3, k.cell trivial h.cb.c4, k.cell trivial h.cb.c5, k.cell trivial h.cb.c6⟩, h.s.stay k trivial, h.r.stay k trivial, (k.frozen trivial h.r.1).trans h.f0, (k.frozen trivial h.r.1).trans h.f1, ⟨k.cell trivial h.e.c, (k.frozen trivial h.e.c).trans h.e.f⟩⟩
theorem below_grown {w A C : World} {n : Nat} {row : Option Nat} (h : Below w.heap.size w A) (hg : A.grownBy C row) (hr : ∀ r, row = some r → n ≤ r) (hn : w.heap.size ≤ n) : Below w.heap.size w C :=
  h.trans ⟨hg.os, hg.tape, hg.output, hg.size, fun k hk => hg.block k (by have := h.size; omega) (fun e => by have := hr k e.symm; omega)⟩
theorem own_resAt {w X : World} {c : Cnt} {lo hi : Int} {B : Nat} (hX : w.heap.size ≤ X.heap.size) : OwnFrom X.heap.size (fun pre W => ResAt w X W c lo hi B pre) := fun s A C row hs hg hr => by
  have k := stay_grown hg (fun r e => (hr r e).2)
  exact ⟨hs.i.stay k, below_grown hs.bel hg (fun r e => (hr r e).1) hX, hs.fd.stay k, Nat.le_trans hs.sz hg.size⟩
theorem own_resOut {w X : World} (cc : Code) (hX : w.heap.size ≤ X.heap.size) : OwnFrom X.heap.size (fun (pre : List (Int × Int)) W => cc = .ret ∧ 2 ≤ pre.length ∧ ResOut w W) := fun s A C row hs hg hr => by
  have k := stay_grown hg (fun r e => (hr r e).2)
  exact ⟨hs.1, hs.2.1, hs.2.2.1.stay k trivial, k.cell trivial hs.2.2.2.1, below_grown hs.2.2.2.2 hg (fun r e => (hr r e).1) hX⟩
theorem ResIn.far {X : World} {b B : Nat} {c : Cnt} {lo hi : Int} {u : Value} (h : ResIn X b c lo hi) (hB : b + 1 + 1 + 1 < B) : ResIn (X.setCell ⟨B, 0, none⟩ u) b c lo hi := by
  have k : ∀ {i o : Nat} {v : Value}, i < B → X.cell? ⟨i, o, none⟩ = some v → (X.setCell ⟨B, 0, none⟩ u).cell? ⟨i, o, none⟩ = some v := fun {i o v} hi e => by
    rw [World.cell?_setCell_far _ _ _ _ (by show B ≠ i; omega)]; exact e
  refine ⟨h.cb.far (by omega), ⟨k (by omega) h.s.1, k (by omega) h.s.2⟩, ⟨k (by omega) h.r.1, k (by omega) h.r.2⟩, ?_, ?_, ⟨k (by omega) h.e.c, ?_⟩⟩
  · rw [World.frozen?_setCell]; exact h.f0
  · rw [World.frozen?_setCell]; exact h.f1
  · rw [World.frozen?_setCell]; exact h.e.f
theorem kf_below {B n : Nat} {W W' : World} (h : Below n W W') (hn : W.heap.size ≤ n) : KeepsFrom B W W' :=
  ⟨h.size, fun k o _ hk _ => (h.block k (by have := (Array.getElem?_eq_some_iff.1 hk).1; omega)).trans hk⟩
def foundW (W : World) (B : Nat) (x y : Int) (cap : Nat) (more : Array Value) : World :=
  (((W.setCell ⟨B, 0, none⟩ (.slice (some ⟨W.heap.size + 1, 0, none⟩) 1 cap)).alloc (.cells #[.int .i64 x, .int .i64 y] 43)).alloc (.cells (#[.int .i64 x, .int .i64 y] ++ more) 43)).drew
theorem res_found {w X W : World} {c : Cnt} {lo hi : Int} {B : Nat} (hI : ResAt w X W c lo hi B []) (hB : w.heap.size + 1 + 1 + 1 < B) (hBX : B < X.heap.size) (x y : Int) (cap : Nat) (more : Array Value) :
    KeepsFrom X.heap.size W (foundW W B x y cap more) ∧ StayC (TurnBlk B X.heap.size) W (foundW W B x y cap more) ∧ ResAt w X (foundW W B x y cap more) c lo hi B [(x, y)] := by
  unfold foundW
  obtain ⟨hf, h1 | ⟨_, _, _, e, _⟩⟩ := hI.fd
  rotate_left
  · cases e
  have hs := hI.sz
  have hc := World.cell?_setCell_same W ⟨B, 0, none⟩ (.slice (some ⟨W.heap.size + 1, 0, none⟩) 1 cap) h1.2
  have hfz : (W.setCell ⟨B, 0, none⟩ (.slice (some ⟨W.heap.size + 1, 0, none⟩) 1 cap)).frozen? ⟨B, 0, none⟩ = false := by rw [World.frozen?_setCell]; exact hf
  have hri := hI.i.far (u := .slice (some ⟨W.heap.size + 1, 0, none⟩) 1 cap) hB
  have hbl := hI.bel.setCell (p := ⟨B, 0, none⟩) (by show w.heap.size ≤ B; omega) (.slice (some ⟨W.heap.size + 1, 0, none⟩) 1 cap)
  have hkf : KeepsFrom X.heap.size W (W.setCell ⟨B, 0, none⟩ (.slice (some ⟨W.heap.size + 1, 0, none⟩) 1 cap)) := (KeepsOthers.setCell _ _ _).from _
  have hst : StayC (TurnBlk B X.heap.size) W (W.setCell ⟨B, 0, none⟩ (.slice (some ⟨W.heap.size + 1, 0, none⟩) 1 cap)) := ⟨by simp, fun k o hk h _ => (Below.heap_setCell _ _ _ _ (by have := hk.1; show k ≠ B; omega)).trans h⟩
  have hvs : (W.setCell ⟨B, 0, none⟩ (.slice (some ⟨W.heap.size + 1, 0, none⟩) 1 cap)).heap.size = W.heap.size := by simp
  generalize W.setCell ⟨B, 0, none⟩ (.slice (some ⟨W.heap.size + 1, 0, none⟩) 1 cap) = V at *
  rw [← hvs] at hc
  have b1 := below_alloc (Below.refl V.heap.size V) (.cells #[.int .i64 x, .int .i64 y] 43)
  have b2 := below_alloc b1 (.cells (#[.int .i64 x, .int .i64 y] ++ more) 43)
  have b3 : Below V.heap.size V (((V.alloc (.cells #[.int .i64 x, .int .i64 y] 43)).alloc (.cells (#[.int .i64 x, .int .i64 y] ++ more) 43)).drew) := b2.trans ⟨rfl, rfl, rfl, Nat.le_refl _, fun _ _ => rfl⟩
  have e1 : (V.alloc (.cells #[.int .i64 x, .int .i64 y] 43)).heap.size = V.heap.size + 1 := by simp
  have k : ∀ (U : World) (t : TypeId), SpBox (U.alloc (.cells (#[.int .i64 x, .int .i64 y] ++ more) t)).drew U.heap.size x y := fun U t => ⟨by simp; rw [Array.getElem?_append_left (by simp)]; rfl, by simp; rw [Array.getElem?_append_left (by simp)]; rfl⟩
  have k1 := k (V.alloc (.cells #[.int .i64 x, .int .i64 y] 43)) 43
  rw [e1] at k1
  exact ⟨hkf.trans (kf_below b3 (Nat.le_refl _)), hst.trans (StayC.of_below b3), hri.below b3, hbl.trans (b3.mono hbl.size), ⟨(b3.frozen (p := ⟨B, 0, none⟩) (cell_lt hc)).trans hfz, .inr ⟨(x, y), V.heap.size + 1, cap, rfl, cell_below b3 hc, by omega, k1⟩⟩, Nat.le_trans hs (by rw [← hvs]; exact b3.size)⟩
theorem res_leave {w X : World} {D : Nat} {x y e0 : Int} {tmps : Array Value} (hs : SpBox X (w.heap.size + 1 + 1) x y) (he : X.cell? ⟨w.heap.size + 1 + 1 + 1, 0, none⟩ = some (.int .i64 e0)) (hB : Below w.heap.size w X) (hD : w.heap.size ≤ D) (hK : X.heap[D]? = some (.deferred (some [])))
    (h6 : tmps.getD 6 undef = .pointer (some ⟨w.heap.size + 1 + 1, 0, none⟩)) (h7 : tmps.getD 7 undef = .pointer (some ⟨w.heap.size + 1 + 1 + 1, 0, none⟩)) :
    LeavesInM Fence.wide 9 Try.prog Try.f34 tmps (fun e w' => e = Ending.returned (resVal ((x, y), e0)) ∧ Below w.heap.size w w') [{ target := .collected D, args := #[] }] .returning X := by
  have k : StayC (fun _ => True) X (X.putObj D (.deferred none)) := StayC.putObj (w := w) X D _ _ hD hK rfl rfl
  refine ⟨by simp, .inl ⟨_, _, rfl, run_takeDeferred hK, ?_⟩⟩
  exact ⟨_, res_two h6 h7 (hs.stay k trivial) (k.cell trivial he), rfl, hB.trans ⟨rfl, rfl, rfl, by simp, fun i hi => World.putObj_heap_other (by omega)⟩⟩
theorem turn_facts {c : Cnt} {m lo hi : Int} (h : CntIn c) (hm : -1000000000000000 ≤ m ∧ m ≤ 1000000000000000) (hlo : -1000000000000000 ≤ lo ∧ lo ≤ 1000000000000000) (hhi : -1000000000000000 ≤ hi ∧ hi ≤ 1000000000000000) :
    ((turnN c m lo hi : Nat) : Int) = max 0 (lastS c m lo hi + 1 - firstS c m lo) ∧ (-4000000000000000000 ≤ firstS c m lo ∧ firstS c m lo ≤ 4000000000000000000) ∧ turnN c m lo hi ≤ 10000 ∧
    (∀ k, firstS c m lo ≤ k → k ≤ lastS c m lo hi → -2000000000000000000 ≤ k * c.r ∧ k * c.r ≤ 2000000000000000000) ∧ (-1000000000000000000 ≤ midS c m ∧ midS c m ≤ 1000000000000000000) := by
  have hf := h.f
  have ho := h.o
  have hr := h.r
  have hfa := fault_bd h
  have q1 := mul_bd c.f lo 1000 1000000000000000 (by omega) hlo
  have q2 := mul_bd c.f hi 1000 1000000000000000 (by omega) hhi
  have hmid : midS c m = m - c.o := rfl
  have hfb := ceilS_bd (c.f * lo - midS c m - faultS c) c.r 2000000000000000000 (by omega) (by omega)
  have hN : ((turnN c m lo hi : Nat) : Int) = max 0 (lastS c m lo hi + 1 - firstS c m lo) := by unfold turnN; omega
  have hls : lastS c m lo hi = min (farS c m hi) (firstS c m lo + 2 * c.f - 1) := rfl
  have hfi : firstS c m lo = ceilS (c.f * lo - midS c m - faultS c) c.r := rfl
  refine ⟨hN, ⟨by omega, by omega⟩, by omega, fun k h1 h2 => ?_, by omega, by omega⟩
  have a1 : c.f * lo - midS c m - faultS c ≤ k * c.r := (ceil_iff _ _ _ hr.1).1 (by rw [← hfi]; exact h1)
  have a2 : k ≤ (c.f * hi - midS c m + faultS c) / c.r := by have : farS c m hi = (c.f * hi - midS c m + faultS c) / c.r := rfl; omega
  have a3 : k * c.r ≤ c.f * hi - midS c m + faultS c := (Int.le_ediv_iff_mul_le (by omega)).1 a2
  constructor <;> omega
set_option maxRecDepth 100000 in
set_option maxHeartbeats 8000000 in
theorem resolve_no (c : Cnt) (m lo hi : Int) (w : World) (h : CntIn c) (hno : (showB c m && inDiff lo && inDiff hi) = false) :
    Calls Try.prog 34 #[cntVal c, .int .i64 m, .agg #[.int .i64 lo, .int .i64 hi]] w fun e w' => e = .returned (resVal ((0, 0), 6)) ∧ Below w.heap.size w w' := by
  have HS := Lib.hid (fun W => canShow_any c m W h)
  have HL := Lib.hid (fun W => isDifference_any lo W)
  have HR := Lib.hid (fun W => isDifference_any hi W)
  change Hid (∀ W, Calls Try.prog 39 #[.int .i64 lo] W fun e w' => e = .returned (.bool (inDiff lo)) ∧ W = w') at HL
  change Hid (∀ W, Calls Try.prog 39 #[.int .i64 hi] W fun e w' => e = .returned (.bool (inDiff hi)) ∧ W = w') at HR
  obtain ⟨hR, hB⟩ := resIn_new w c lo hi
  have HR0 := Lib.hid hR
  have HB0 := Lib.hid hB
  obtain ⟨W, hW⟩ : ∃ W, W = resW w c lo hi := ⟨_, rfl⟩
  have hW' := hW
  rw [← hW] at HR0 HB0
  unfold resW cntObj at hW'
  clear h hR hB hW
  unfold cntVal at *
  obtain ⟨cf, co, cj, cg, cr, cd, ci⟩ := c
  dsimp only at *
  refine (callsIn_wide (n := 9)).1 ?_
  have hro : Fence.wide.round = none := rfl
  refine callsIn_of_wp_marks Try.func34 rfl trivial ?_ hro
  simp only [Try.ntmps34, List.size_toArray, List.length_cons, List.length_nil, Nat.reduceAdd, Nat.reduceSub, Array.replicate_succ, Array.replicate_zero, List.push_toArray, List.append_toArray, List.nil_append, List.cons_append]
  refine wpIn_wide.2 ?_
  go_upto_region 1 with fail
  rw [← hW']
  clear hW'
  obtain ⟨c0, c1, c2, c3, c4, c5, c6⟩ := HR0.out.cb
  have hz := cell_lt c0
  obtain ⟨s0, s1⟩ := HR0.out.s
  have hzs := cell_lt s0
  dsimp only at c0 c1 c2 c3 c4 c5 c6
  cases hs : showB ⟨cf, co, cj, cg, cr, cd, ci⟩ m
  · rw [hs] at HS
    go_wp2_with (go_at_call 35; refine (HS.out _).mono ?_; rintro e w1 ⟨rfl, hb1⟩; have hr1 := HR0.out.below hb1; obtain ⟨q0, q1⟩ := hr1.r; have g0 := hr1.f0; have g1 := hr1.f1; have z0 := hr1.e.c; have z1 := hr1.e.f; have hzq := cell_lt q0; have hze := cell_lt z0)
    exact res_ret hr1 (below_go HB0.out hb1) 0 0 6 rfl rfl
  · rw [hs] at HS
    cases hl : inDiff lo
    · rw [hl] at HL
      go_wp2_with (first | (go_at_call 35; refine (HS.out _).mono ?_; rintro e w1 ⟨rfl, hb1⟩; have hr1 := HR0.out.below hb1; obtain ⟨q0, q1⟩ := hr1.r; obtain ⟨p0, p1⟩ := hr1.s; have hzp := cell_lt p0; have g0 := hr1.f0; have g1 := hr1.f1; have z0 := hr1.e.c; have z1 := hr1.e.f; have hzq := cell_lt q0; have hze := cell_lt z0) | (go_at_call 39; refine (HL.out _).mono ?_; rintro e w2 ⟨rfl, rfl⟩))
      exact res_ret hr1 (below_go HB0.out hb1) 0 0 6 rfl rfl
    · rw [hl] at HL
      have hh : inDiff hi = false := by rw [hs, hl] at hno; simpa using hno
      rw [hh] at HR
      go_wp2_with (first | (go_at_call 35; refine (HS.out _).mono ?_; rintro e w1 ⟨rfl, hb1⟩; have hr1 := HR0.out.below hb1; obtain ⟨q0, q1⟩ := hr1.r; obtain ⟨p0, p1⟩ := hr1.s; have hzp := cell_lt p0; have g0 := hr1.f0; have g1 := hr1.f1; have z0 := hr1.e.c; have z1 := hr1.e.f; have hzq := cell_lt q0; have hze := cell_lt z0) | (go_at_call 39; (first | refine (HL.out _).mono ?_ | refine (HR.out _).mono ?_); rintro e w2 ⟨rfl, rfl⟩))
      exact res_ret hr1 (below_go HB0.out hb1) 0 0 6 rfl rfl
set_option maxRecDepth 100000 in
set_option maxHeartbeats 8000000 in
theorem resolve_arg (c : Cnt) (m lo hi : Int) (w : World) (h : CntIn c) (hs : showB c m = true) (hl : inDiff lo = true) (hh : inDiff hi = true) (hlt : hi < lo) :
    Calls Try.prog 34 #[cntVal c, .int .i64 m, .agg #[.int .i64 lo, .int .i64 hi]] w fun e w' => e = .returned (resVal ((0, 0), 1)) ∧ Below w.heap.size w w' := by
  have HS := Lib.hid (fun W => canShow_any c m W h)
  have HL := Lib.hid (fun W => isDifference_any lo W)
  have HR := Lib.hid (fun W => isDifference_any hi W)
  change Hid (∀ W, Calls Try.prog 39 #[.int .i64 lo] W fun e w' => e = .returned (.bool (inDiff lo)) ∧ W = w') at HL
  change Hid (∀ W, Calls Try.prog 39 #[.int .i64 hi] W fun e w' => e = .returned (.bool (inDiff hi)) ∧ W = w') at HR
  obtain ⟨hR, hB⟩ := resIn_new w c lo hi
  have HR0 := Lib.hid hR
  have HB0 := Lib.hid hB
  obtain ⟨W, hW⟩ : ∃ W, W = resW w c lo hi := ⟨_, rfl⟩
  have hW' := hW
  rw [← hW] at HR0 HB0
  unfold resW cntObj at hW'
  clear h hR hB hW
  unfold cntVal at *
  obtain ⟨cf, co, cj, cg, cr, cd, ci⟩ := c
  dsimp only at *
  refine (callsIn_wide (n := 9)).1 ?_
  have hro : Fence.wide.round = none := rfl
  refine callsIn_of_wp_marks Try.func34 rfl trivial ?_ hro
  simp only [Try.ntmps34, List.size_toArray, List.length_cons, List.length_nil, Nat.reduceAdd, Nat.reduceSub, Array.replicate_succ, Array.replicate_zero, List.push_toArray, List.append_toArray, List.nil_append, List.cons_append]
  refine wpIn_wide.2 ?_
  go_upto_region 1 with fail
  rw [← hW']
  clear hW'
  obtain ⟨c0, c1, c2, c3, c4, c5, c6⟩ := HR0.out.cb
  have hz := cell_lt c0
  obtain ⟨s0, s1⟩ := HR0.out.s
  have hzs := cell_lt s0
  dsimp only at c0 c1 c2 c3 c4 c5 c6
  rw [hs] at HS
  rw [hl] at HL
  rw [hh] at HR
  go_wp2_with (first | (go_at_call 35; refine (HS.out _).mono ?_; rintro e w1 ⟨rfl, hb1⟩; have hr1 := HR0.out.below hb1; obtain ⟨q0, q1⟩ := hr1.r; obtain ⟨p0, p1⟩ := hr1.s; have hzp := cell_lt p0; have g0 := hr1.f0; have g1 := hr1.f1; have z0 := hr1.e.c; have z1 := hr1.e.f; have hzq := cell_lt q0; have hze := cell_lt z0) | (go_at_call 39; (first | refine (HL.out _).mono ?_ | refine (HR.out _).mono ?_); rintro e w2 ⟨rfl, rfl⟩))
  exact res_ret hr1 (below_go HB0.out hb1) 0 0 1 rfl rfl
set_option maxRecDepth 100000 in
set_option maxHeartbeats 8000000 in
theorem resolve_yes (c : Cnt) (m lo hi : Int) (w : World) (h : CntIn c) (hs : showB c m = true) (hl : inDiff lo = true) (hh : inDiff hi = true) (hlt : ¬ hi < lo) (hm : -1000000000000000 ≤ m ∧ m ≤ 1000000000000000) :
    Calls Try.prog 34 #[cntVal c, .int .i64 m, .agg #[.int .i64 lo, .int .i64 hi]] w fun e w' => e = .returned (resVal (pickS (foundL c m lo hi))) ∧ Below w.heap.size w w' := by
  have HT := Lib.hid (fun W => turns_any c m lo hi W h hm (inDiff_bd hl) (inDiff_bd hh))
  have HS := Lib.hid (fun W => canShow_any c m W h)
  have HL := Lib.hid (fun W => isDifference_any lo W)
  have HR := Lib.hid (fun W => isDifference_any hi W)
  change Hid (∀ W, Calls Try.prog 39 #[.int .i64 lo] W fun e w' => e = .returned (.bool (inDiff lo)) ∧ W = w') at HL
  change Hid (∀ W, Calls Try.prog 39 #[.int .i64 hi] W fun e w' => e = .returned (.bool (inDiff hi)) ∧ W = w') at HR
  obtain ⟨hR, hB⟩ := resIn_new w c lo hi
  have HR0 := Lib.hid hR
  have HB0 := Lib.hid hB
  obtain ⟨W, hW⟩ : ∃ W, W = resW w c lo hi := ⟨_, rfl⟩
  have hW' := hW
  rw [← hW] at HR0 HB0
  unfold resW cntObj at hW'
  have HCI := Lib.hid h
  clear h hR hB hW
  unfold cntVal at *
  obtain ⟨cf, co, cj, cg, cr, cd, ci⟩ := c
  dsimp only at *
  refine (callsIn_wide (n := 9)).1 ?_
  have hro : Fence.wide.round = none := rfl
  refine callsIn_of_wp_marks Try.func34 rfl trivial ?_ hro
  simp only [Try.ntmps34, List.size_toArray, List.length_cons, List.length_nil, Nat.reduceAdd, Nat.reduceSub, Array.replicate_succ, Array.replicate_zero, List.push_toArray, List.append_toArray, List.nil_append, List.cons_append]
  refine wpIn_wide.2 ?_
  go_upto_region 1 with fail
  rw [← hW']
  clear hW'
  obtain ⟨c0, c1, c2, c3, c4, c5, c6⟩ := HR0.out.cb
  have hz := cell_lt c0
  obtain ⟨s0, s1⟩ := HR0.out.s
  have hzs := cell_lt s0
  dsimp only at c0 c1 c2 c3 c4 c5 c6
  rw [hs] at HS
  rw [hl] at HL
  rw [hh] at HR
  go_upto_region 3 with (first | (go_at_call 35; refine (HS.out _).mono ?_; rintro e w1 ⟨rfl, hb1⟩; have hr1 := HR0.out.below hb1; obtain ⟨q0, q1⟩ := hr1.r; obtain ⟨p0, p1⟩ := hr1.s; have hzp := cell_lt p0; have g0 := hr1.f0; have g1 := hr1.f1; have z0 := hr1.e.c; have z1 := hr1.e.f; have hzq := cell_lt q0; have hze := cell_lt z0) | (go_at_call 39; (first | refine (HL.out _).mono ?_ | refine (HR.out _).mono ?_); rintro e w2 ⟨rfl, rfl⟩))
  have b0 := hr1.cb
  obtain ⟨d0, d1, d2, d3, d4, d5, d6⟩ := hr1.cb
  have hzd := cell_lt d0
  dsimp only at d0 d1 d2 d3 d4 d5 d6
  clear c0 c1 c2 c3 c4 c5 c6 hz s0 s1 hzs q0 q1 g0 g1 z0 z1 hzq hze
  go_wp2_with fail
  refine (HT.out _).mono ?_
  rintro e W3 ⟨b8, b9, rfl, hTI, hg8, hg9, hb3⟩
  have esz : (w1.alloc (.cells #[.slice none 0 0] 105)).heap.size = w1.heap.size + 1 := by simp
  have hfb : FoundAt (w1.alloc (.cells #[.slice none 0 0] 105)) w1.heap.size [] := ⟨by simp, .inl ⟨rfl, by simp⟩⟩
  have hbA := below_alloc (Below.refl w1.heap.size w1) (.cells #[.slice none 0 0] 105)
  have HA0 : Hid (ResAt w W3 W3 ⟨cf, co, cj, cg, cr, cd, ci⟩ lo hi w1.heap.size []) := Lib.hid ⟨(hr1.below hbA).below hb3, (((below_go HB0.out hb1).trans (hbA.mono (below_go HB0.out hb1).size)).trans (hb3.mono (Nat.le_trans (below_go HB0.out hb1).size hbA.size))), hfb.below hb3, Nat.le_refl _⟩
  rw [esz] at hTI hg8 hg9 ⊢
  have hB1 : w.heap.size + 1 + 1 + 1 < w1.heap.size := cell_lt hr1.e.c
  clear hbA hfb hb3 esz HT
  generalize w1.heap.size = B at *
  have hz8 : b8 < W3.heap.size := cell_lt hTI.a.c
  have hz9 : b9 < W3.heap.size := cell_lt hTI.z.c
  have hzm : B + 1 + 1 + 1 < W3.heap.size := cell_lt hTI.t.m
  obtain ⟨N, hN⟩ : ∃ N, N = turnN ⟨cf, co, cj, cg, cr, cd, ci⟩ m lo hi := ⟨_, rfl⟩
  have HN := Lib.hid hN
  have htf := turn_facts HCI.out hm (inDiff_bd hl) (inDiff_bd hh)
  have hST := turns1_stops 8 (B + 1) b8 b9 N (TurnBlk B W3.heap.size) ⟨cf, co, cj, cg, cr, cd, ci⟩ lo hi _ _ _ HCI.out (by constructor <;> omega) (by constructor <;> omega) (by constructor <;> omega) (by constructor <;> omega) (by constructor <;> omega) (by rw [hN]; exact htf.1) htf.2.1 (by rw [hN]; exact htf.2.2.1) htf.2.2.2.1 htf.2.2.2.2 (by decide) W3 hTI
  have hsz : w.heap.size ≤ W3.heap.size := by omega
  clear hN hTI htf
  go_wp2_with fail
  refine (wpIn_wide (n := 9)).1 ?_
  refine wpIn_rangeFunc_ownH hro (by decide) (gf := 74) (lb := #[.pointer (some ⟨b8, 0, none⟩), .pointer (some ⟨b9, 0, none⟩), .pointer (some ⟨B + 1, 0, none⟩), .pointer (some ⟨B + 1 + 1 + 1, 0, none⟩), .pointer (some ⟨B + 1 + 1, 0, none⟩)]) rfl trivial (enters_of Try.func74 (by kernel_rfl) rfl)
    hST (fun h k => h.trans k) StayC.putObj (Below.refl _ _) (fun _ => rfl)
    (fun pre W => ResAt w W3 W ⟨cf, co, cj, cg, cr, cd, ci⟩ lo hi B pre) (fun cc pre W => cc = .ret ∧ 2 ≤ pre.length ∧ ResOut w W)
    (own_resAt hsz) (fun cc => own_resOut cc hsz) HA0.out
    (fun d a' W => ∃ g, a' = { tmps := #[.agg #[.int .i64 cf, .int .i64 co, .int .i64 cj, .int .i64 cg, .int .i64 cr, .int .i64 cd, .int .i64 ci], .int .i64 m, .agg #[.int .i64 lo, .int .i64 hi], .pointer (some ⟨w.heap.size, 0, none⟩), undef, .pointer (some ⟨w.heap.size + 1, 0, none⟩), .pointer (some ⟨w.heap.size + 1 + 1, 0, none⟩), .pointer (some ⟨w.heap.size + 1 + 1 + 1, 0, none⟩), .pointer (some ⟨B, 0, none⟩), .pointer (some ⟨g, 0, none⟩), .agg #[.int .i64 cf, .int .i64 co, .int .i64 cj, .int .i64 cg, .int .i64 cr, .int .i64 cd, .int .i64 ci], .int .i64 m, .bool true, .bool false, .bool false, .pointer (some ⟨w.heap.size + 1, 0, none⟩), .int .i64 lo, .bool true, .bool false, .bool false, .bool false, .pointer (some ⟨w.heap.size + 1, 1, none⟩), .int .i64 hi, .bool true, .bool false, .bool false, undef, .pointer (some ⟨w.heap.size + 1, 0, none⟩), .int .i64 lo, .pointer (some ⟨w.heap.size + 1, 1, none⟩), .int .i64 hi, .bool (decide (hi < lo)), undef, .agg #[.int .i64 cf, .int .i64 co, .int .i64 cj, .int .i64 cg, .int .i64 cr, .int .i64 cd, .int .i64 ci], .int .i64 m, .agg #[.int .i64 lo, .int .i64 hi], .func (.func 74) #[] #[.pointer (some ⟨b8, 0, none⟩), .pointer (some ⟨b9, 0, none⟩), .pointer (some ⟨B + 1, 0, none⟩), .pointer (some ⟨B + 1 + 1 + 1, 0, none⟩), .pointer (some ⟨B + 1 + 1, 0, none⟩)], spVal d, undef, undef, undef, undef, undef, undef, undef, undef, undef, undef, undef, undef, undef, undef, undef], defers := [] } ∧ SpBox W g d.1 d.2 ∧ B < g)
    (fun d a' s A C row hs hg hr => by
      obtain ⟨g, e, h0, h1⟩ := hs
      exact ⟨g, e, h0.stay (stay_grown hg (fun r e => (hr r e).2)) trivial, h1⟩) ?assign ?body ?done ?stop
  case assign =>
    intro lp pre d W K hI hK
    have hBW : B < W.heap.size := Nat.lt_of_lt_of_le (by omega) hI.sz
    obtain ⟨x, y⟩ := d
    unfold spVal at *
    dsimp only at *
    gi_wp2
    refine hK _ _ ((KeepsOthers.alloc _ _).from _) (StayC.of_below (below_alloc (Below.refl _ _) _)) (hI.below (below_alloc (Below.refl _ _) _)) ⟨_, rfl, SpBox.new _ _ _ _, hBW⟩
  case body =>
    rintro lp pre d a' W hlp hrc hI ⟨g, rfl, hg, hgB⟩ hlen
    obtain ⟨x, y⟩ := d
    unfold spVal at *
    dsimp only at hg
    obtain ⟨hf, ⟨rfl, hc⟩ | ⟨x1, g1, cap, rfl, hc, hg1, hs1⟩⟩ := hI.fd
    · have hzB := cell_lt hc
      obtain ⟨hg0, hg1⟩ := hg
      have hzg := cell_lt hg0
      gi_wp2
      exact res_found hI hB1 (by omega) x y _ _
    · have hzB := cell_lt hc
      obtain ⟨q0, q1⟩ := hI.i.r
      have g0 := hI.i.f0
      have g1 := hI.i.f1
      have z0 := hI.i.e.c
      have z1 := hI.i.e.f
      have hzq := cell_lt q0
      have hze := cell_lt z0
      obtain ⟨hw1, hw2⟩ := hI.i.wrote 0 0 8
      have hw3 := wrote_below hI.bel 0 0 8
      gi_wp2
      exact ⟨(((KeepsOthers.setCell _ _ _).trans (KeepsOthers.setCell _ _ _)).trans (KeepsOthers.setCell _ _ _)).from _, rfl, by simp, hw1, hw2, hw3⟩
  case done =>
    rintro D ys W hD hys hI hK
    obtain ⟨hf, ⟨rfl, hc⟩ | ⟨⟨x, y⟩, g, cap, rfl, hc, hgB, hs1⟩⟩ := hI.fd
    · have hzB := cell_lt hc
      obtain ⟨q0, q1⟩ := hI.i.r
      have g0 := hI.i.f0
      have g1 := hI.i.f1
      have z0 := hI.i.e.c
      have z1 := hI.i.e.f
      have hzq := cell_lt q0
      have hze := cell_lt z0
      obtain ⟨hw1, hw2⟩ := hI.i.wrote 0 0 12
      have hw3 := wrote_below hI.bel 0 0 12
      have hpk : pickS (foundL ⟨cf, co, cj, cg, cr, cd, ci⟩ m lo hi) = ((0, 0), 12) := by
        unfold foundL
        rw [← HN.out, ← hys]
        rfl
      have HK2 : (wroteR W w.heap.size 0 0 12).heap[D]? = some (.deferred (some [])) := by
        unfold wroteR
        rw [Below.heap_setCell _ _ _ _ (by show D ≠ w.heap.size + 1 + 1 + 1; omega), Below.heap_setCell _ _ _ _ (by show D ≠ w.heap.size + 1 + 1; omega), Below.heap_setCell _ _ _ _ (by show D ≠ w.heap.size + 1 + 1; omega)]
        exact hK
      go_wp2_with fail
      rw [hpk]
      exact res_leave hw1 hw2 hw3 (by omega) HK2 rfl rfl
    · have hzB := cell_lt hc
      obtain ⟨q0, q1⟩ := hI.i.r
      have g0 := hI.i.f0
      have g1 := hI.i.f1
      have z0 := hI.i.e.c
      have z1 := hI.i.e.f
      have hzq := cell_lt q0
      have hze := cell_lt z0
      obtain ⟨p0, p1⟩ := hs1
      dsimp only at p0 p1
      have hzg := cell_lt p0
      obtain ⟨hw1, hw2⟩ := hI.i.wrote x y 0
      have hw3 := wrote_below hI.bel x y 0
      have hpk : pickS (foundL ⟨cf, co, cj, cg, cr, cd, ci⟩ m lo hi) = ((x, y), 0) := by
        unfold foundL
        rw [← HN.out, ← hys]
        rfl
      have HK2 : (wroteR W w.heap.size x y 0).heap[D]? = some (.deferred (some [])) := by
        unfold wroteR
        rw [Below.heap_setCell _ _ _ _ (by show D ≠ w.heap.size + 1 + 1 + 1; omega), Below.heap_setCell _ _ _ _ (by show D ≠ w.heap.size + 1 + 1; omega), Below.heap_setCell _ _ _ _ (by show D ≠ w.heap.size + 1 + 1; omega)]
        exact hK
      go_wp2_with fail
      rw [hpk]
      exact res_leave hw1 hw2 hw3 (by omega) HK2 rfl rfl
  case stop =>
    rintro D cc pre W hD hpre ⟨rfl, h2, hw1, hw2, hw3⟩ hK
    have hpk : pickS (foundL ⟨cf, co, cj, cg, cr, cd, ci⟩ m lo hi) = ((0, 0), 8) := by
      unfold foundL
      rw [← HN.out]
      obtain ⟨tl, htl⟩ := hpre
      rw [← htl]
      match pre, h2 with
      | _ :: _ :: _, _ => rfl
    gi_wp2
    rw [hpk]
    exact res_leave hw1 hw2 hw3 (by omega) hK rfl rfl
end Go.Proofs.Ytlelamjbfjneiaa.Ct
