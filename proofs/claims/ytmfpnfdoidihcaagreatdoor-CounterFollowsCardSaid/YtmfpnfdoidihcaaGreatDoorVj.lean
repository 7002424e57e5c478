/- Laws over a counter and a world: what they hold in memory. · A law's own counter and world, made side by side in any order: what is known between the steps. -/
import Derived.Test.YtmfpnfdoidihcaaGreatDoorOv
import Derived.Test.YtmfpnfdoidihcaaGreatDoorVd
import Derived.Test.YtmfpnfdoidihcaaGreatDoorVf
import Derived.Deep.RegionHeld3
namespace Go.Proofs.YtmfpnfdoidihcaaGreatDoor.Ct
open Go Go.RowKit Go.Shelf
attribute [local go_sem] Oper.semAt_some
/-- what the law holds: a counter and a world of its own, and the world that came in -/
structure MeetIn (w X : World) (c : Cnt) (W : Wd.Wld) (p2 q1 q2 : Option Addr) (c2 d1 d2 b1 b2 : Nat) : Prop where
  cb : CBox X b1 c
  g0 : X.cell? ⟨b2, 0, none⟩ = some (.int .u64 W.seed)
  g1 : X.cell? ⟨b2, 1, none⟩ = some (.slice q1 W.chs.length d1)
  g2 : X.cell? ⟨b2, 2, none⟩ = some (.slice q2 W.cls.length d2)
  r2 : X.cell? ⟨w.heap.size + 1, 2, none⟩ = some (.slice p2 W.cls.length c2)
  own : Wd.WldIn X W q1 q2
  bel : Below w.heap.size w X
theorem MeetIn.below {w X Y : World} {c : Cnt} {W : Wd.Wld} {p2 q1 q2 : Option Addr} {c2 d1 d2 b1 b2 : Nat} (h : MeetIn w X c W p2 q1 q2 c2 d1 d2 b1 b2) (hb : Below X.heap.size X Y) : MeetIn w Y c W p2 q1 q2 c2 d1 d2 b1 b2 :=
  ⟨h.cb.below hb, cell_below hb h.g0, cell_below hb h.g1, cell_below hb h.g2, cell_below hb h.r2, h.own.below hb, h.bel.trans (hb.mono h.bel.size)⟩
/-- what a law over a counter and a world begins with -/
structure MeetAt (w X : World) (c : Cnt) (W : Wd.Wld) (p1 p2 : Option Addr) (c1 c2 : Nat) : Prop where
  z0 : X.cell? ⟨w.heap.size, 0, none⟩ = some (.int .i64 c.f)
  z1 : X.cell? ⟨w.heap.size, 1, none⟩ = some (.int .i64 c.o)
  z2 : X.cell? ⟨w.heap.size, 2, none⟩ = some (.int .i64 c.j)
  z3 : X.cell? ⟨w.heap.size, 3, none⟩ = some (.int .i64 c.g)
  z4 : X.cell? ⟨w.heap.size, 4, none⟩ = some (.int .i64 c.r)
  z5 : X.cell? ⟨w.heap.size, 5, none⟩ = some (.int .i64 c.d)
  z6 : X.cell? ⟨w.heap.size, 6, none⟩ = some (.int .i64 c.i)
  r0 : X.cell? ⟨w.heap.size + 1, 0, none⟩ = some (.int .u64 W.seed)
  r1 : X.cell? ⟨w.heap.size + 1, 1, none⟩ = some (.slice p1 W.chs.length c1)
  r2 : X.cell? ⟨w.heap.size + 1, 2, none⟩ = some (.slice p2 W.cls.length c2)
  own : Wd.WldIn X W p1 p2
  bel : Below w.heap.size w X
theorem MeetAt.below {w X Y : World} {c : Cnt} {W : Wd.Wld} {p1 p2 : Option Addr} {c1 c2 : Nat} (h : MeetAt w X c W p1 p2 c1 c2) (hb : Below X.heap.size X Y) : MeetAt w Y c W p1 p2 c1 c2 :=
  ⟨cell_below hb h.z0, cell_below hb h.z1, cell_below hb h.z2, cell_below hb h.z3, cell_below hb h.z4, cell_below hb h.z5, cell_below hb h.z6, cell_below hb h.r0, cell_below hb h.r1, cell_below hb h.r2, h.own.below hb, h.bel.trans (hb.mono h.bel.size)⟩
theorem MeetAt.new {w : World} (c : Cnt) (W : Wd.Wld) (p1 p2 : Option Addr) (c1 c2 : Nat) (hW : Wd.WldIn w W p1 p2) : MeetAt w ((w.alloc (.cells #[.int .i64 c.f, .int .i64 c.o, .int .i64 c.j, .int .i64 c.g, .int .i64 c.r, .int .i64 c.d, .int .i64 c.i] 23)).alloc (.cells #[.int .u64 W.seed, .slice p1 W.chs.length c1, .slice p2 W.cls.length c2] 28)) c W p1 p2 c1 c2 := by
  have hb := below_alloc (below_alloc (Below.refl w.heap.size w) (.cells #[.int .i64 c.f, .int .i64 c.o, .int .i64 c.j, .int .i64 c.g, .int .i64 c.r, .int .i64 c.d, .int .i64 c.i] 23)) (.cells #[.int .u64 W.seed, .slice p1 W.chs.length c1, .slice p2 W.cls.length c2] 28)
  exact ⟨by simp, by simp, by simp, by simp, by simp, by simp, by simp, by simp, by simp, by simp, hW.below hb, hb⟩
end Go.Proofs.YtmfpnfdoidihcaaGreatDoor.Ct
namespace Go.Proofs.YtmfpnfdoidihcaaGreatDoor.Ct
open Go Go.RowKit Go.Shelf
/-- nothing but block b has changed -/
structure Only (b : Nat) (X Y : World) : Prop where
  os : Y.os = X.os
  tape : Y.tape = X.tape
  output : Y.output = X.output
  size : Y.heap.size = X.heap.size
  block : ∀ k, k ≠ b → Y.heap[k]? = X.heap[k]?
variable {w w1 X Y : World} {b b' n : Nat}
theorem Only.refl (b : Nat) (X : World) : Only b X X := ⟨rfl, rfl, rfl, rfl, fun _ _ => rfl⟩
theorem Only.set (h : Only b X Y) (i : Nat) (v : Value) : Only b X (Y.setCell ⟨b, i, none⟩ v) :=
  ⟨h.os, h.tape, h.output, by rw [← h.size]; simp [World.setCell], fun k hk => (Below.heap_setCell Y ⟨b, i, none⟩ v k hk).trans (h.block k hk)⟩
theorem Only.below {A : World} (h : Only b X Y) (hb : Below n A X) (hn : n ≤ b) : Below n A Y :=
  hb.trans ⟨h.os, h.tape, h.output, Nat.le_of_eq h.size.symm, fun k hk => h.block k (by omega)⟩
theorem Only.cell (h : Only b X Y) {k o : Nat} {v : Value} (hk : k ≠ b) (hc : X.cell? ⟨k, o, none⟩ = some v) : Y.cell? ⟨k, o, none⟩ = some v :=
  (World.cell?_of_block (a := ⟨k, o, none⟩) (h.block k hk)).trans hc
theorem Only.frozen (h : Only b X Y) {k o : Nat} (hk : k ≠ b) (hc : X.frozen? ⟨k, o, none⟩ = false) : Y.frozen? ⟨k, o, none⟩ = false :=
  (World.frozen?_of_block (a := ⟨k, o, none⟩) (h.block k hk)).trans hc
/-- a box for a counter, fresh -/
structure ZC (X : World) (b : Nat) : Prop where
  c0 : X.cell? ⟨b, 0, none⟩ = some (.int .i64 0)
  c1 : X.cell? ⟨b, 1, none⟩ = some (.int .i64 0)
  c2 : X.cell? ⟨b, 2, none⟩ = some (.int .i64 0)
  c3 : X.cell? ⟨b, 3, none⟩ = some (.int .i64 0)
  c4 : X.cell? ⟨b, 4, none⟩ = some (.int .i64 0)
  c5 : X.cell? ⟨b, 5, none⟩ = some (.int .i64 0)
  c6 : X.cell? ⟨b, 6, none⟩ = some (.int .i64 0)
  f0 : X.frozen? ⟨b, 0, none⟩ = false
  f1 : X.frozen? ⟨b, 1, none⟩ = false
  f2 : X.frozen? ⟨b, 2, none⟩ = false
  f3 : X.frozen? ⟨b, 3, none⟩ = false
  f4 : X.frozen? ⟨b, 4, none⟩ = false
  f5 : X.frozen? ⟨b, 5, none⟩ = false
  f6 : X.frozen? ⟨b, 6, none⟩ = false
theorem ZC.new (X : World) (t : TypeId) : ZC (X.alloc (.cells #[.int .i64 0, .int .i64 0, .int .i64 0, .int .i64 0, .int .i64 0, .int .i64 0, .int .i64 0] t)) X.heap.size :=
  ⟨by simp, by simp, by simp, by simp, by simp, by simp, by simp, by simp, by simp, by simp, by simp, by simp, by simp, by simp⟩
theorem fz_below {o : Nat} {v : Value} (hb : Below X.heap.size X Y) (hc : X.cell? ⟨b, o, none⟩ = some v) (h : X.frozen? ⟨b, o, none⟩ = false) : Y.frozen? ⟨b, o, none⟩ = false :=
  (hb.frozen (p := ⟨b, o, none⟩) (cell_lt hc)).trans h
theorem ZC.below (h : ZC X b) (hb : Below X.heap.size X Y) : ZC Y b :=
  ⟨cell_below hb h.c0, cell_below hb h.c1, cell_below hb h.c2, cell_below hb h.c3, cell_below hb h.c4, cell_below hb h.c5, cell_below hb h.c6,
   fz_below hb h.c0 h.f0, fz_below hb h.c1 h.f1, fz_below hb h.c2 h.f2, fz_below hb h.c3 h.f3, fz_below hb h.c4 h.f4, fz_below hb h.c5 h.f5, fz_below hb h.c6 h.f6⟩
theorem ZC.only (h : ZC X b) (hb : Only b' X Y) (hn : b ≠ b') : ZC Y b :=
  ⟨hb.cell hn h.c0, hb.cell hn h.c1, hb.cell hn h.c2, hb.cell hn h.c3, hb.cell hn h.c4, hb.cell hn h.c5, hb.cell hn h.c6, hb.frozen hn h.f0, hb.frozen hn h.f1, hb.frozen hn h.f2, hb.frozen hn h.f3, hb.frozen hn h.f4, hb.frozen hn h.f5, hb.frozen hn h.f6⟩
/-- a box for a world, fresh -/
structure ZW (X : World) (b : Nat) : Prop where
  c0 : X.cell? ⟨b, 0, none⟩ = some (.int .u64 0)
  c1 : X.cell? ⟨b, 1, none⟩ = some (.slice none 0 0)
  c2 : X.cell? ⟨b, 2, none⟩ = some (.slice none 0 0)
  f0 : X.frozen? ⟨b, 0, none⟩ = false
  f1 : X.frozen? ⟨b, 1, none⟩ = false
  f2 : X.frozen? ⟨b, 2, none⟩ = false
theorem ZW.new (X : World) (t : TypeId) : ZW (X.alloc (.cells #[.int .u64 0, .slice none 0 0, .slice none 0 0] t)) X.heap.size := ⟨by simp, by simp, by simp, by simp, by simp, by simp⟩
theorem ZW.below (h : ZW X b) (hb : Below X.heap.size X Y) : ZW Y b :=
  ⟨cell_below hb h.c0, cell_below hb h.c1, cell_below hb h.c2, fz_below hb h.c0 h.f0, fz_below hb h.c1 h.f1, fz_below hb h.c2 h.f2⟩
theorem ZW.only (h : ZW X b) (hb : Only b' X Y) (hn : b ≠ b') : ZW Y b :=
  ⟨hb.cell hn h.c0, hb.cell hn h.c1, hb.cell hn h.c2, hb.frozen hn h.f0, hb.frozen hn h.f1, hb.frozen hn h.f2⟩
theorem CBox.only {c : Cnt} (h : CBox X b c) (hb : Only b' X Y) (hn : b ≠ b') : CBox Y b c :=
  ⟨hb.cell hn h.c0, hb.cell hn h.c1, hb.cell hn h.c2, hb.cell hn h.c3, hb.cell hn h.c4, hb.cell hn h.c5, hb.cell hn h.c6⟩
/-- a world's box -/
structure WB (X : World) (b : Nat) (W : Wd.Wld) (q1 q2 : Option Addr) (d1 d2 : Nat) : Prop where
  c0 : X.cell? ⟨b, 0, none⟩ = some (.int .u64 W.seed)
  c1 : X.cell? ⟨b, 1, none⟩ = some (.slice q1 W.chs.length d1)
  c2 : X.cell? ⟨b, 2, none⟩ = some (.slice q2 W.cls.length d2)
  f0 : X.frozen? ⟨b, 0, none⟩ = false
theorem WB.below {W : Wd.Wld} {q1 q2 : Option Addr} {d1 d2 : Nat} (h : WB X b W q1 q2 d1 d2) (hb : Below X.heap.size X Y) : WB Y b W q1 q2 d1 d2 := ⟨cell_below hb h.c0, cell_below hb h.c1, cell_below hb h.c2, fz_below hb h.c0 h.f0⟩
theorem WB.only {W : Wd.Wld} {q1 q2 : Option Addr} {d1 d2 : Nat} (h : WB X b W q1 q2 d1 d2) (hb : Only b' X Y) (hn : b ≠ b') : WB Y b W q1 q2 d1 d2 := ⟨hb.cell hn h.c0, hb.cell hn h.c1, hb.cell hn h.c2, hb.frozen hn h.f0⟩
theorem other_cell {X : World} {b i j : Nat} {u v : Value} (hij : i ≠ j) (h : X.cell? ⟨b, j, none⟩ = some v) : (X.setCell ⟨b, i, none⟩ u).cell? ⟨b, j, none⟩ = some v := by
  rw [World.cell?_setCell_other X ⟨b, i, none⟩ ⟨b, j, none⟩ u (fun e => by cases e; exact hij rfl)]; exact h
/-- a counter is stored -/
theorem ZC.store (h : ZC X b) (c : Cnt) : ∀ Y, Y = ((((((X.setCell ⟨b, 0, none⟩ (.int .i64 c.f)).setCell ⟨b, 1, none⟩ (.int .i64 c.o)).setCell ⟨b, 2, none⟩ (.int .i64 c.j)).setCell ⟨b, 3, none⟩ (.int .i64 c.g)).setCell ⟨b, 4, none⟩ (.int .i64 c.r)).setCell ⟨b, 5, none⟩ (.int .i64 c.d)).setCell ⟨b, 6, none⟩ (.int .i64 c.i) → CBox Y b c ∧ Only b X Y := by
  rintro _ rfl
  refine ⟨⟨?_, ?_, ?_, ?_, ?_, ?_, ?_⟩, (((((((Only.refl b X).set 0 _).set 1 _).set 2 _).set 3 _).set 4 _).set 5 _).set 6 _⟩
  · exact other_cell (by decide) (other_cell (by decide) (other_cell (by decide) (other_cell (by decide) (other_cell (by decide) (other_cell (by decide) (World.cell?_setCell_same _ _ _ h.c0))))))
  · exact other_cell (by decide) (other_cell (by decide) (other_cell (by decide) (other_cell (by decide) (other_cell (by decide) (World.cell?_setCell_same _ _ _ (other_cell (by decide) h.c1))))))
  · exact other_cell (by decide) (other_cell (by decide) (other_cell (by decide) (other_cell (by decide) (World.cell?_setCell_same _ _ _ (other_cell (by decide) (other_cell (by decide) h.c2))))))
  · exact other_cell (by decide) (other_cell (by decide) (other_cell (by decide) (World.cell?_setCell_same _ _ _ (other_cell (by decide) (other_cell (by decide) (other_cell (by decide) h.c3))))))
  · exact other_cell (by decide) (other_cell (by decide) (World.cell?_setCell_same _ _ _ (other_cell (by decide) (other_cell (by decide) (other_cell (by decide) (other_cell (by decide) h.c4))))))
  · exact other_cell (by decide) (World.cell?_setCell_same _ _ _ (other_cell (by decide) (other_cell (by decide) (other_cell (by decide) (other_cell (by decide) (other_cell (by decide) h.c5))))))
  · exact World.cell?_setCell_same _ _ _ (other_cell (by decide) (other_cell (by decide) (other_cell (by decide) (other_cell (by decide) (other_cell (by decide) (other_cell (by decide) h.c6))))))
theorem ZW.store (h : ZW X b) (W : Wd.Wld) (q1 q2 : Option Addr) (d1 d2 : Nat) : ∀ Y, Y = ((X.setCell ⟨b, 0, none⟩ (.int .u64 W.seed)).setCell ⟨b, 1, none⟩ (.slice q1 W.chs.length d1)).setCell ⟨b, 2, none⟩ (.slice q2 W.cls.length d2) → WB Y b W q1 q2 d1 d2 ∧ Only b X Y := by
  rintro _ rfl
  refine ⟨⟨?_, ?_, ?_, by rw [World.frozen?_setCell, World.frozen?_setCell, World.frozen?_setCell]; exact h.f0⟩, (((Only.refl b X).set 0 _).set 1 _).set 2 _⟩
  · exact other_cell (by decide) (other_cell (by decide) (World.cell?_setCell_same _ _ _ h.c0))
  · exact other_cell (by decide) (World.cell?_setCell_same _ _ _ (other_cell (by decide) h.c1))
  · exact World.cell?_setCell_same _ _ _ (other_cell (by decide) (other_cell (by decide) h.c2))
/-- a world of the call's own, in none of these blocks -/
def WldNo (n : Nat) (bad : Nat → Prop) (X : World) (W : Wd.Wld) (q1 q2 : Option Addr) : Prop := ∀ Z : World, (∀ k o, n ≤ k → ¬ bad k → X.heap[k]? = some o → Z.heap[k]? = some o) → Wd.WldIn Z W q1 q2
theorem WldNo.in_ {bad : Nat → Prop} {W : Wd.Wld} {q1 q2 : Option Addr} (h : WldNo n bad X W q1 q2) : Wd.WldIn X W q1 q2 := h X fun _ _ _ _ h => h
theorem WldNo.alloc {bad : Nat → Prop} {W : Wd.Wld} {q1 q2 : Option Addr} (h : WldNo n bad X W q1 q2) (o : Obj) : WldNo n (fun k => bad k ∨ k = X.heap.size) (X.alloc o) W q1 q2 := fun Z hZ => h Z fun k u hk hb hX => by
  have hlt : k < X.heap.size := (Array.getElem?_eq_some_iff.1 hX).1
  exact hZ k u hk (fun e => e.elim hb (fun e => by omega)) ((Below.heap_alloc X o k hlt).trans hX)
theorem WldNo.only {bad : Nat → Prop} {W : Wd.Wld} {q1 q2 : Option Addr} (h : WldNo n bad X W q1 q2) (hb : Only b X Y) (hbad : bad b) : WldNo n bad Y W q1 q2 := fun Z hZ => h Z fun k u hk hnb hX => by
  refine hZ k u hk hnb ((hb.block k (fun e => ?_)).trans hX)
  subst e; exact hnb hbad
theorem WldNo.call {bad : Nat → Prop} {W : Wd.Wld} {q1 q2 : Option Addr} (h : Wd.WldFr X.heap.size Y W q1 q2) (hn : n ≤ X.heap.size) (hb : ∀ k, bad k → k < X.heap.size) : WldNo n bad Y W q1 q2 := fun Z hZ => h Z fun k u hk hX => hZ k u (by omega) (fun e => by have := hb k e; omega) hX
theorem keepM {W' : World} {c : Cnt} {W : Wd.Wld} {p1 p2 : Option Addr} {c1 c2 : Nat} (h : MeetAt w w1 c W p1 p2 c1 c2) (hb : Below w1.heap.size w1 W') : MeetAt w W' c W p1 p2 c1 c2 := h.below hb
/-- the two boxes, at last -/
theorem meet_done {c : Cnt} {W : Wd.Wld} {p1 p2 q1 q2 : Option Addr} {c1 c2 d1 d2 b1 b2 : Nat} {bad : Nat → Prop} (h : MeetAt w w1 c W p1 p2 c1 c2) (hb : Below w1.heap.size w1 X) (hcb : CBox X b1 c) (hw : WB X b2 W q1 q2 d1 d2) (ho : WldNo n bad X W q1 q2) : MeetIn w X c W p2 q1 q2 c2 d1 d2 b1 b2 :=
  ⟨hcb, hw.c0, hw.c1, hw.c2, cell_below hb h.r2, ho.in_, h.bel.trans (hb.mono h.bel.size)⟩
/-- the law's own world gets another seed -/
theorem meet_seed {c : Cnt} {W : Wd.Wld} {p2 q1 q2 : Option Addr} {c2 d1 d2 b1 b2 : Nat} (h : MeetIn w X c W p2 q1 q2 c2 d1 d2 b1 b2) (hno : ∃ (n : Nat) (bad : Nat → Prop), WldNo n bad X W q1 q2 ∧ bad b2) (hb : b1 ≠ b2 ∧ w.heap.size + 1 < b2) (seed : Int) : MeetIn w (X.setCell ⟨b2, 0, none⟩ (.int .u64 seed)) c (Wd.reseed W seed) p2 q1 q2 c2 d1 d2 b1 b2 := by
  obtain ⟨n, bad, hW, hbad⟩ := hno
  have ho : Only b2 X (X.setCell ⟨b2, 0, none⟩ (.int .u64 seed)) := (Only.refl b2 X).set 0 _
  exact ⟨h.cb.only ho hb.1, World.cell?_setCell_same _ _ _ h.g0, other_cell (by decide) h.g1, other_cell (by decide) h.g2, ho.cell (by omega) h.r2, (hW.only ho hbad).in_, ho.below h.bel (by omega)⟩
end Go.Proofs.YtmfpnfdoidihcaaGreatDoor.Ct
