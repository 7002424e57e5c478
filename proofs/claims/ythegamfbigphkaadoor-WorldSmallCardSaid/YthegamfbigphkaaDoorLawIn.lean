/- A law's own world: its box, what lies behind it, and the calls on it with their answers named. -/
import Derived.Test.YthegamfbigphkaaDoorAwake
import Derived.Test.YthegamfbigphkaaDoorOwn
import Derived.Test.YthegamfbigphkaaDoorPlain
namespace Go.Proofs.YthegamfbigphkaaDoor
open Go Go.RowKit
/-- y: the world in which Own has returned; the box of its answer is the block behind it -/
structure LawIn (w y X : World) (W : Wld) (seed : Int) (q1 q2 : Option Addr) (d1 d2 : Nat) : Prop where
  bel : Below w.heap.size w X
  own : Below y.heap.size y X
  c0 : X.cell? ⟨y.heap.size, 0, none⟩ = some (.int .u64 seed)
  c1 : X.cell? ⟨y.heap.size, 1, none⟩ = some (.slice q1 W.chs.length d1)
  c2 : X.cell? ⟨y.heap.size, 2, none⟩ = some (.slice q2 W.cls.length d2)
  f0 : X.frozen? ⟨y.heap.size, 0, none⟩ = false
variable {w y X Y : World} {W : Wld} {seed : Int} {q1 q2 : Option Addr} {d1 d2 : Nat}
theorem LawIn.below (h : LawIn w y X W seed q1 q2 d1 d2) (hb : Below X.heap.size X Y) : LawIn w y Y W seed q1 q2 d1 d2 :=
  ⟨h.bel.trans (hb.mono h.bel.size), h.own.trans (hb.mono h.own.size), cell_below hb h.c0, cell_below hb h.c1, cell_below hb h.c2,
    (hb.frozen (p := ⟨y.heap.size, 0, none⟩) (cell_lt h.c0)).trans h.f0⟩
theorem lawIn_new (hb : Below w.heap.size w y) : LawIn w y (y.alloc (.cells #[.int .u64 seed, .slice q1 W.chs.length d1, .slice q2 W.cls.length d2] 32)) W seed q1 q2 d1 d2 :=
  ⟨below_alloc' hb _, below_alloc' (Below.refl _ _) _, by simp, by simp, by simp, by simp⟩
theorem LawIn.seeded (h : LawIn w y X W seed q1 q2 d1 d2) (hle : w.heap.size ≤ y.heap.size) (s : Int) : LawIn w y (X.setCell ⟨y.heap.size, 0, none⟩ (.int .u64 s)) W s q1 q2 d1 d2 := by
  refine ⟨h.bel.setCell hle _, h.own.setCell (Nat.le_refl _) _, World.cell?_setCell_same _ _ _ h.c0, ?_, ?_, ?_⟩
  · rw [World.cell?_setCell_other X ⟨y.heap.size, 0, none⟩ ⟨y.heap.size, 1, none⟩ _ (fun e => by cases e)]; exact h.c1
  · rw [World.cell?_setCell_other X ⟨y.heap.size, 0, none⟩ ⟨y.heap.size, 2, none⟩ _ (fun e => by cases e)]; exact h.c2
  · have := h.f0
    simpa using this
/-- two cells of a pair that lies in a box -/
def Two (X : World) (b : Nat) (x z : Int) : Prop := X.cell? ⟨b, 0, none⟩ = some (.int .i64 x) ∧ X.cell? ⟨b, 1, none⟩ = some (.int .i64 z)
theorem Two.below {b : Nat} {x z : Int} (h : Two X b x z) (hb : Below X.heap.size X Y) : Two Y b x z := ⟨cell_below hb h.1, cell_below hb h.2⟩
theorem two_new (x z : Int) (t : TypeId) : Two (X.alloc (.cells #[.int .i64 x, .int .i64 z] t)) X.heap.size x z := ⟨by simp, by simp⟩
theorem Two.set {b b' o' : Nat} {x z : Int} {u : Value} (h : Two X b x z) (hne : b' ≠ b) : Two (X.setCell ⟨b', o', none⟩ u) b x z := ⟨set_far h.1 hne, set_far h.2 hne⟩
/-- the second cell of a box may be written -/
def Free1 (X : World) (b : Nat) : Prop := X.frozen? ⟨b, 1, none⟩ = false
theorem Free1.below {b : Nat} (h : Free1 X b) (hb : Below X.heap.size X Y) (hlt : b < X.heap.size) : Free1 Y b := (hb.frozen (p := ⟨b, 1, none⟩) hlt).trans h
theorem free1_new (x z : Value) (t : TypeId) : Free1 (X.alloc (.cells #[x, z] t)) X.heap.size := by unfold Free1; simp
theorem LawIn.far {b o : Nat} {u : Value} (h : LawIn w y X W seed q1 q2 d1 d2) (hle : w.heap.size ≤ y.heap.size) (hb : y.heap.size < b) : LawIn w y (X.setCell ⟨b, o, none⟩ u) W seed q1 q2 d1 d2 := by
  refine ⟨h.bel.setCell (by dsimp only; omega) _, h.own.setCell (by dsimp only; omega) _, set_far h.c0 (by omega), set_far h.c1 (by omega), set_far h.c2 (by omega), ?_⟩
  have := h.f0
  simpa using this
theorem Two.second {b : Nat} {x z : Int} (h : Two X b x z) (z' : Int) : Two (X.setCell ⟨b, 1, none⟩ (.int .i64 z')) b x z' := by
  refine ⟨?_, World.cell?_setCell_same _ _ _ h.2⟩
  rw [World.cell?_setCell_other X ⟨b, 1, none⟩ ⟨b, 0, none⟩ _ (fun e => by cases e)]; exact h.1
/-! the calls, their answers named -/
def PairRet (g : PairErr) (X : World) (e : Ending) (Y : World) : Prop := ∃ a b c : Int, e = .returned (.tuple #[.agg #[.int .i64 a, .int .i64 b], .int .i64 c]) ∧ Hid (g = ⟨a, b, c⟩) ∧ Below X.heap.size X Y
def IntRet (g : IntErr) (X : World) (e : Ending) (Y : World) : Prop := ∃ a c : Int, e = .returned (.tuple #[.int .i64 a, .int .i64 c]) ∧ Hid (g = ⟨a, c⟩) ∧ Below X.heap.size X Y
theorem reach_named (W : Wld) (k s : Int) (p1 p2 : Option Addr) (k1 k2 : Nat) (X : World) (ht : Tabs X) (hW : WldIn X W p1 p2) :
    Calls Tryd.prog 23 #[.agg #[.int .u64 W.seed, .slice p1 W.chs.length k1, .slice p2 W.cls.length k2], .int .i64 k, .int .i64 s] X (PairRet (reachE W k s) X) :=
  (reach_any W k s p1 p2 k1 k2 X ht hW).mono fun _ _ ⟨h1, h2⟩ => ⟨_, _, _, h1, Lib.hid rfl, h2⟩
theorem growth_named (W : Wld) (k s t : Int) (p1 p2 : Option Addr) (k1 k2 : Nat) (X : World) (ht : Tabs X) (hW : WldIn X W p1 p2) :
    Calls Tryd.prog 31 #[.agg #[.int .u64 W.seed, .slice p1 W.chs.length k1, .slice p2 W.cls.length k2], .int .i64 k, .int .i64 s, .int .i64 t] X (PairRet (growthE W k s t) X) :=
  (growth_any W k s t p1 p2 k1 k2 X ht hW).mono fun _ _ ⟨h1, h2⟩ => ⟨_, _, _, h1, Lib.hid rfl, h2⟩
theorem read_named (W : Wld) (k s : Int) (p1 p2 : Option Addr) (k1 k2 : Nat) (X : World) (ht : Tabs X) (hW : WldIn X W p1 p2) :
    Calls Tryd.prog 25 #[.agg #[.int .u64 W.seed, .slice p1 W.chs.length k1, .slice p2 W.cls.length k2], .int .i64 k, .int .i64 s] X (PairRet (readE W k s) X) :=
  (read_any W k s p1 p2 k1 k2 X ht hW).mono fun _ _ ⟨h1, h2⟩ => ⟨_, _, _, h1, Lib.hid rfl, h2⟩
theorem shown_named (W : Wld) (seed k s : Int) (p1 p2 : Option Addr) (k1 k2 : Nat) (X : World) (ht : Tabs X) (hW : WldIn X W p1 p2) :
    Calls Tryd.prog 21 #[.agg #[.int .u64 seed, .slice p1 W.chs.length k1, .slice p2 W.cls.length k2], .int .i64 k, .int .i64 s] X (IntRet (shownE (reseed W seed) k s) X) :=
  (shown_any (reseed W seed) k s p1 p2 k1 k2 X ht hW).mono fun _ _ ⟨h1, h2⟩ => ⟨_, _, h1, Lib.hid rfl, h2⟩
theorem phase_named (W : Wld) (seed k s : Int) (p1 p2 : Option Addr) (k1 k2 : Nat) (X : World) (ht : Tabs X) (hW : WldIn X W p1 p2) :
    Calls Tryd.prog 19 #[.agg #[.int .u64 seed, .slice p1 W.chs.length k1, .slice p2 W.cls.length k2], .int .i64 k, .int .i64 s] X (IntRet (phaseE (reseed W seed) k s) X) :=
  (phase_any (reseed W seed) k s p1 p2 k1 k2 X ht hW).mono fun _ _ ⟨h1, h2⟩ => ⟨_, _, h1, Lib.hid rfl, h2⟩
theorem back_named (W : Wld) (k ms mf : Int) (p1 p2 : Option Addr) (k1 k2 : Nat) (X : World) (ht : Tabs X) (hW : WldIn X W p1 p2) (hms : -9223372036854775808 ≤ ms ∧ ms ≤ 9223372036854775807) :
    Calls Tryd.prog 33 #[.agg #[.int .u64 W.seed, .slice p1 W.chs.length k1, .slice p2 W.cls.length k2], .int .i64 k, .agg #[.int .i64 ms, .int .i64 mf]] X (IntRet (backE W k ms mf) X) :=
  (Back_any W k ms mf p1 p2 k1 k2 X ht hW hms).mono fun _ _ ⟨h1, h2⟩ => ⟨_, _, h1, Lib.hid rfl, h2⟩
end Go.Proofs.YthegamfbigphkaaDoor
