/- Layer 2: the examples of the chapter hold. -/
import Derived.Test.YtlelamjbfjneiaaAv
namespace Go.Proofs.Ytlelamjbfjneiaa.Ct
open Go Go.RowKit Go.Shelf
attribute [local go_sem] Oper.semAt_some
def exD (k : Nat) : Int := ([149, 150, 449, 450, -50, -51, 1049] : List Int)[k]?.getD 0
def exS (k : Nat) : Int := ([100, 200, 400, -500, 0, -100, 0] : List Int)[k]?.getD 0
theorem ex_pair (k : Nat) (hk : k < 7) : (-1000000000000000 ≤ exD k ∧ exD k ≤ 1000000000000000) ∧ wrapS (exC 1) (roundS (exC 1) (1 * exD k + 0)) = exS k := by
  have : k = 0 ∨ k = 1 ∨ k = 2 ∨ k = 3 ∨ k = 4 ∨ k = 5 ∨ k = 6 := by omega
  rcases this with rfl | rfl | rfl | rfl | rfl | rfl | rfl <;> exact ⟨by decide, by kernel_rfl⟩
/-- the counter of the examples in its box -/
structure ExBox (X : World) (b : Nat) (f : Int) : Prop where
  c : CBox X b (exC f)
  z : X.frozen? ⟨b, 0, none⟩ = false
theorem ExBox.below {X Y : World} {b : Nat} {f : Int} (h : ExBox X b f) (hb : Below X.heap.size X Y) : ExBox Y b f := ⟨h.c.below hb, (hb.frozen (p := ⟨b, 0, none⟩) (cell_lt h.c.c0)).trans h.z⟩
theorem ExBox.put {X : World} {b : Nat} {f : Int} (h : ExBox X b f) (g : Int) : ExBox (X.setCell ⟨b, 0, none⟩ (.int .i64 g)) b g := by
  have k : ∀ {o : Nat} {v : Value}, o ≠ 0 → X.cell? ⟨b, o, none⟩ = some v → (X.setCell ⟨b, 0, none⟩ (.int .i64 g)).cell? ⟨b, o, none⟩ = some v := fun {o v} hne hv => by
    rw [World.cell?_setCell_other _ ⟨b, 0, none⟩ ⟨b, o, none⟩ _ (fun e => hne (by cases e; rfl))]; exact hv
  exact ⟨⟨World.cell?_setCell_same _ _ _ h.c.c0, k (by decide) h.c.c1, k (by decide) h.c.c2, k (by decide) h.c.c3, k (by decide) h.c.c4, k (by decide) h.c.c5, k (by decide) h.c.c6⟩, by rw [World.frozen?_setCell]; exact h.z⟩
/-- the pairs of the examples -/
def PairsAt (X : World) (b : Nat) : Prop := ∀ k, k < 7 → X.cell? ⟨b, k * 2, none⟩ = some (.int .i64 (exD k)) ∧ X.cell? ⟨b, k * 2 + 1, none⟩ = some (.int .i64 (exS k))
theorem PairsAt.below {X Y : World} {b : Nat} (h : PairsAt X b) (hb : Below X.heap.size X Y) : PairsAt Y b := fun k hk => ⟨cell_below hb (h k hk).1, cell_below hb (h k hk).2⟩
def exPairs : Obj := .cells #[.int .i64 149, .int .i64 100, .int .i64 150, .int .i64 200, .int .i64 449, .int .i64 400, .int .i64 450, .int .i64 (-500), .int .i64 (-50), .int .i64 0, .int .i64 (-51), .int .i64 (-100), .int .i64 1049, .int .i64 0] 62
theorem pairs_new (X : World) : PairsAt (X.alloc exPairs) X.heap.size := by
  intro k hk
  have : k = 0 ∨ k = 1 ∨ k = 2 ∨ k = 3 ∨ k = 4 ∨ k = 5 ∨ k = 6 := by omega
  unfold exPairs
  rcases this with rfl | rfl | rfl | rfl | rfl | rfl | rfl <;> exact ⟨by simp; rfl, by simp; rfl⟩
theorem exbox_new (X : World) : ExBox (X.alloc (.cells #[.int .i64 1, .int .i64 0, .int .i64 0, .int .i64 100, .int .i64 1000, .int .i64 1, .int .i64 0] 56)) X.heap.size 1 := ⟨CBox.new X (exC 1), by simp⟩
/-- a span in a box that may be written -/
def SpF (X : World) (b : Nat) (x y : Int) : Prop := (X.cell? ⟨b, 0, none⟩ = some (.int .i64 x) ∧ X.cell? ⟨b, 1, none⟩ = some (.int .i64 y)) ∧ X.frozen? ⟨b, 0, none⟩ = false ∧ X.frozen? ⟨b, 1, none⟩ = false
theorem SpF.new (X : World) (x y : Int) (t : TypeId) : SpF (X.alloc (.cells #[.int .i64 x, .int .i64 y] t)) X.heap.size x y := ⟨⟨by simp, by simp⟩, by simp, by simp⟩
theorem SpF.below {X Y : World} {b : Nat} {x y : Int} (h : SpF X b x y) (hb : Below X.heap.size X Y) : SpF Y b x y :=
  ⟨⟨cell_below hb h.1.1, cell_below hb h.1.2⟩, (hb.frozen (p := ⟨b, 0, none⟩) (cell_lt h.1.1)).trans h.2.1, (hb.frozen (p := ⟨b, 1, none⟩) (cell_lt h.1.1)).trans h.2.2⟩
theorem FnAt.bel {X Y : World} {m : Nat → Int} {n b o : Nat} (h : FnAt X m n b o) (hb : Below X.heap.size X Y) : FnAt Y m n b o := fun i hi => cell_below hb (h i hi)
theorem three_at (X : World) (x y z : Int) (m : Nat → Int) (h0 : x = m 0) (h1 : y = m 1) (h2 : z = m 2) : FnIn (X.alloc (.cells #[.int .i64 x, .int .i64 y, .int .i64 z] 3)) m 3 (some ⟨X.heap.size, 0, none⟩) := by
  refine .inr ⟨X.heap.size, 0, rfl, fun i hi => ?_⟩
  have : i = 0 ∨ i = 1 ∨ i = 2 := by omega
  subst h0 h1 h2
  rcases this with rfl | rfl | rfl <;> simp
theorem three_in {X : World} (x y z : Int) (m : Nat → Int) (h0 : x = m 0) (h1 : y = m 1) (h2 : z = m 2) {g : Nat} (hg : X.heap.size = g) : FnIn (X.alloc (.cells #[.int .i64 x, .int .i64 y, .int .i64 z] 3)) m 3 (some ⟨g, 0, none⟩) := hg ▸ three_at X x y z m h0 h1 h2
theorem SpF.far {X : World} {b b' o : Nat} {x y : Int} {u : Value} (h : SpF X b x y) (hne : b' ≠ b) : SpF (X.setCell ⟨b', o, none⟩ u) b x y :=
  ⟨⟨by rw [World.cell?_setCell_far _ _ _ _ hne]; exact h.1.1, by rw [World.cell?_setCell_far _ _ _ _ hne]; exact h.1.2⟩, by rw [World.frozen?_setCell]; exact h.2.1, by rw [World.frozen?_setCell]; exact h.2.2⟩
/-- the bounds of the examples -/
structure ExL (X : World) (b : Nat) (k : Int) : Prop where
  c : ∀ i, i < 3 → BndCells X b (0 + i * 4) (bndAt (exL k) i)
  z : X.frozen? ⟨b, 10, none⟩ = false
theorem ExL.bin {X : World} {b : Nat} {k : Int} (h : ExL X b k) : BndsIn X (exL k) (some ⟨b, 0, none⟩) := .inr ⟨b, 0, rfl, h.c⟩
theorem ExL.below {X Y : World} {b : Nat} {k : Int} (h : ExL X b k) (hb : Below X.heap.size X Y) : ExL Y b k :=
  ⟨fun i hi => (h.c i hi).of (cell_below hb), (hb.frozen (p := ⟨b, 10, none⟩) (cell_lt (h.c 0 (by decide)).1.1)).trans h.z⟩
theorem exl_new (X : World) : ExL (X.alloc (.cells #[.int .i64 0, .int .i64 1, .int .i64 1, .int .i64 3, .int .i64 1, .int .i64 2, .int .i64 1, .int .i64 3, .int .i64 0, .int .i64 2, .int .i64 5, .int .i64 9] 46)) X.heap.size 5 := by
  refine ⟨fun i hi => ?_, by simp⟩
  have : i = 0 ∨ i = 1 ∨ i = 2 := by omega
  rcases this with rfl | rfl | rfl <;> exact ⟨⟨by simp; rfl, by simp; rfl⟩, by simp; rfl, by simp; rfl⟩
theorem ExL.put {X : World} {b : Nat} (h : ExL X b 5) : ExL (X.setCell ⟨b, 10, none⟩ (.int .i64 7)) b 7 := by
  have k : ∀ {o : Nat} {v : Value}, o ≠ 10 → X.cell? ⟨b, o, none⟩ = some v → (X.setCell ⟨b, 10, none⟩ (.int .i64 7)).cell? ⟨b, o, none⟩ = some v := fun {o v} hne hv => by
    rw [World.cell?_setCell_other _ ⟨b, 10, none⟩ ⟨b, o, none⟩ _ (fun e => hne (by cases e; rfl))]; exact hv
  refine ⟨fun i hi => ?_, by rw [World.frozen?_setCell]; exact h.z⟩
  have : i = 0 ∨ i = 1 ∨ i = 2 := by omega
  rcases this with rfl | rfl | rfl
  · have q := h.c 0 (by decide)
    exact ⟨⟨k (by decide) q.1.1, k (by decide) q.1.2⟩, k (by decide) q.2.1, k (by decide) q.2.2⟩
  · have q := h.c 1 (by decide)
    exact ⟨⟨k (by decide) q.1.1, k (by decide) q.1.2⟩, k (by decide) q.2.1, k (by decide) q.2.2⟩
  · have q := h.c 2 (by decide)
    exact ⟨⟨k (by decide) q.1.1, k (by decide) q.1.2⟩, World.cell?_setCell_same _ _ _ q.2.1, k (by decide) q.2.2⟩
def exMat : List (List Int) := [[0, 3, 6], [-2, 0, 3], [-5, -2, 0]]
theorem mat_rows {w X : World} {g : Nat} {bs : Nat → Nat} (h : MatAt w X 3 g bs exMat) : RowsIn X (fun i j => getM exMat i j) (fun _ => 3) 3 g 0 := fun i hi =>
  ⟨some ⟨bs i, 0, none⟩, 3, by rw [Nat.zero_add]; exact h.rows i hi, .inr ⟨bs i, 0, rfl, fun j hj => by rw [Nat.zero_add]; exact (h.at_ i j hi hj).1⟩, by show 3 ≤ maxLen; decide⟩
def rowsW (X : World) : World := (((X.alloc (.cells #[.int .i64 0, .int .i64 3, .int .i64 6] 3)).alloc (.cells #[.int .i64 (-2), .int .i64 0, .int .i64 3] 3)).alloc (.cells #[.int .i64 (-5), .int .i64 (-2), .int .i64 0] 3)).alloc (.cells #[.slice (some ⟨X.heap.size, 0, none⟩) 3 3, .slice (some ⟨X.heap.size + 1, 0, none⟩) 3 3, .slice (some ⟨X.heap.size + 1 + 1, 0, none⟩) 3 3] 52)
theorem rows_new (X : World) : RowsIn (rowsW X) (fun i j => getM exMat i j) (fun _ => 3) 3 (X.heap.size + 1 + 1 + 1) 0 ∧ Below X.heap.size X (rowsW X) := by
  have al : ∀ (Y : World) (o : Obj), (Y.alloc o).heap.size = Y.heap.size + 1 := fun Y o => by simp
  have f1 := three_at X 0 3 6 (getM exMat 0) rfl rfl rfl
  have f2 := three_at (X.alloc (.cells #[.int .i64 0, .int .i64 3, .int .i64 6] 3)) (-2) 0 3 (getM exMat 1) rfl rfl rfl
  have f3 := three_at ((X.alloc (.cells #[.int .i64 0, .int .i64 3, .int .i64 6] 3)).alloc (.cells #[.int .i64 (-2), .int .i64 0, .int .i64 3] 3)) (-5) (-2) 0 (getM exMat 2) rfl rfl rfl
  have hb := below_alloc (below_alloc (below_alloc (below_alloc (Below.refl X.heap.size X) (.cells #[.int .i64 0, .int .i64 3, .int .i64 6] 3)) (.cells #[.int .i64 (-2), .int .i64 0, .int .i64 3] 3)) (.cells #[.int .i64 (-5), .int .i64 (-2), .int .i64 0] 3)) (.cells #[.slice (some ⟨X.heap.size, 0, none⟩) 3 3, .slice (some ⟨X.heap.size + 1, 0, none⟩) 3 3, .slice (some ⟨X.heap.size + 1 + 1, 0, none⟩) 3 3] 52)
  unfold rowsW
  generalize hY1 : X.alloc (.cells #[.int .i64 0, .int .i64 3, .int .i64 6] 3) = Y1 at *
  have s1 : Y1.heap.size = X.heap.size + 1 := by rw [← hY1]; exact al _ _
  generalize hY2 : Y1.alloc (.cells #[.int .i64 (-2), .int .i64 0, .int .i64 3] 3) = Y2 at *
  have s2 : Y2.heap.size = X.heap.size + 1 + 1 := by rw [← hY2, al, s1]
  generalize hY3 : Y2.alloc (.cells #[.int .i64 (-5), .int .i64 (-2), .int .i64 0] 3) = Y3 at *
  have s3 : Y3.heap.size = X.heap.size + 1 + 1 + 1 := by rw [← hY3, al, s2]
  have b12 : Below Y1.heap.size Y1 Y2 := by rw [← hY2]; exact below_alloc (Below.refl _ _) _
  have b23 : Below Y2.heap.size Y2 Y3 := by rw [← hY3]; exact below_alloc (Below.refl _ _) _
  have b34 := below_alloc (Below.refl Y3.heap.size Y3) (.cells #[.slice (some ⟨X.heap.size, 0, none⟩) 3 3, .slice (some ⟨X.heap.size + 1, 0, none⟩) 3 3, .slice (some ⟨X.heap.size + 1 + 1, 0, none⟩) 3 3] 52)
  have c0 : ∀ i (v : Value), (#[Value.slice (some ⟨X.heap.size, 0, none⟩) 3 3, .slice (some ⟨X.heap.size + 1, 0, none⟩) 3 3, .slice (some ⟨X.heap.size + 1 + 1, 0, none⟩) 3 3] : Array Value)[i]? = some v → (Y3.alloc (.cells #[.slice (some ⟨X.heap.size, 0, none⟩) 3 3, .slice (some ⟨X.heap.size + 1, 0, none⟩) 3 3, .slice (some ⟨X.heap.size + 1 + 1, 0, none⟩) 3 3] 52)).cell? ⟨X.heap.size + 1 + 1 + 1, i, none⟩ = some v := fun i v hv => by
    rw [← s3]; simpa using hv
  rw [s1] at f2
  rw [s2] at f3
  refine ⟨fun i hi => ?_, hb⟩
  have : i = 0 ∨ i = 1 ∨ i = 2 := by omega
  rcases this with rfl | rfl | rfl
  · exact ⟨_, 3, c0 0 _ rfl, ((f1.below b12).below b23).below b34, by decide⟩
  · exact ⟨_, 3, c0 1 _ rfl, (f2.below b23).below b34, by decide⟩
  · exact ⟨_, 3, c0 2 _ rfl, f3.below b34, by decide⟩
theorem uses_new (X : World) : UsesIn (X.alloc (.cells #[.int .i64 2, .bool false, .int .i64 0, .bool true, .int .i64 1, .bool true] 41)) [(2, false), (0, true), (1, true)] (some ⟨X.heap.size, 0, none⟩) ∧ Below X.heap.size X (X.alloc (.cells #[.int .i64 2, .bool false, .int .i64 0, .bool true, .int .i64 1, .bool true] 41)) := by
  refine ⟨.inr ⟨_, 0, rfl, fun i hi => ?_⟩, below_alloc (Below.refl _ _) _⟩
  have : i = 0 ∨ i = 1 ∨ i = 2 := by simp at hi; omega
  rcases this with rfl | rfl | rfl <;> exact ⟨by simp; rfl, by simp; rfl⟩
theorem refute_yes (u : List (Int × Bool)) (q p : Option Addr) (cq cp : Nat) (w : World) (hu : u.length ≤ 240) (hc : cutB (exL 7) u = true) (hs : BndsIn w (exL 7) p) (hq : UsesIn w u q) :
    Calls Try.prog 10 #[.int .i64 3, .slice p 3 cp, .slice q u.length cq] w fun e w' => e = .returned (.int .i64 0) ∧ Below w.heap.size w w' := by
  have h := refute_any 3 (exL 7) u p q cp cq w net7 hu hs hq
  rw [if_pos hc] at h
  exact h
set_option maxRecDepth 100000 in
set_option maxHeartbeats 8000000 in
theorem awake2_any (w : World) : Calls Try.prog 5 #[] w fun e w' => e = .returned (.bool true) ∧ Below w.heap.size w w' := by
  have b0 := below_alloc (Below.refl w.heap.size w) (.cells #[.int .i64 1, .int .i64 0, .int .i64 0, .int .i64 100, .int .i64 1000, .int .i64 1, .int .i64 0] 56)
  have b1 := below_alloc (Below.refl (w.alloc (.cells #[.int .i64 1, .int .i64 0, .int .i64 0, .int .i64 100, .int .i64 1000, .int .i64 1, .int .i64 0] 56)).heap.size _) exPairs
  have e1 : (w.alloc (.cells #[.int .i64 1, .int .i64 0, .int .i64 0, .int .i64 100, .int .i64 1000, .int .i64 1, .int .i64 0] 56)).heap.size = w.heap.size + 1 := by simp
  have p0 := pairs_new (w.alloc (.cells #[.int .i64 1, .int .i64 0, .int .i64 0, .int .i64 100, .int .i64 1000, .int .i64 1, .int .i64 0] 56))
  rw [e1] at p0
  have HB0 := Lib.hid (bt b0 b1)
  have HE0 := Lib.hid ((exbox_new w).below b1)
  have HP0 := Lib.hid p0
  unfold exPairs at HB0 HE0 HP0
  clear b0 b1 e1 p0
  go_enter Try.func5, Try.ntmps5
  go_wp2_with fail
  generalize (w.alloc (.cells #[.int .i64 1, .int .i64 0, .int .i64 0, .int .i64 100, .int .i64 1000, .int .i64 1, .int .i64 0] 56)).alloc (.cells #[.int .i64 149, .int .i64 100, .int .i64 150, .int .i64 200, .int .i64 449, .int .i64 400, .int .i64 450, .int .i64 (-500), .int .i64 (-50), .int .i64 0, .int .i64 (-51), .int .i64 (-100), .int .i64 1049, .int .i64 0] 62) = W0 at *
  go_loopw [0, 3, 4, 5, 30] (fun s0 s3 s4 s5 i wr => ∃ (k : Nat) (v3 v4 v5 : Value), k ≤ 7 ∧ s0 = .bool false ∧ s3 = v3 ∧ s4 = v4 ∧ s5 = v5 ∧ i = .int .i64 (k : Int) ∧ Hid (ExBox wr w.heap.size 1) ∧ Hid (PairsAt wr (w.heap.size + 1)) ∧ Hid (Below w.heap.size w wr)) (fun _ _ _ _ i _ => 7 - (intOf i).toNat)
  case atStart => exact ⟨0, _, _, _, Nat.zero_le _, rfl, rfl, rfl, rfl, rfl, HE0, HP0, HB0⟩
  case round =>
    obtain ⟨k, v3, v4, v5, hk, rfl, rfl, rfl, rfl, rfl, HE, HP, HB⟩ := hrel
    by_cases hlt : k < 7
    · have hki : (k : Int) < 7 := by omega
      have HK := Lib.hid hlt
      obtain ⟨x0, x1⟩ := HP.out k hlt
      have zx := cell_lt x0
      have hb := below_alloc (Below.refl wr.heap.size wr) (.cells #[.int .i64 (exD k), .int .i64 (exS k)] 62)
      obtain ⟨c0, c1, c2, c3, c4, c5, c6⟩ := (HE.out.below hb).c
      simp only [exC] at c0 c1 c2 c3 c4 c5 c6
      have zc := cell_lt c0
      have y0 : (wr.alloc (.cells #[.int .i64 (exD k), .int .i64 (exS k)] 62)).cell? ⟨wr.heap.size, 0, none⟩ = some (.int .i64 (exD k)) ∧ (wr.alloc (.cells #[.int .i64 (exD k), .int .i64 (exS k)] 62)).cell? ⟨wr.heap.size, 1, none⟩ = some (.int .i64 (exS k)) := ⟨by simp, by simp⟩
      have Y0 := Lib.hid y0.2
      have HB1 := Lib.hid hb
      obtain ⟨y0, -⟩ := y0
      have HSH := Lib.hid (aw_show 1 (exD k) (exS k) (.inl rfl) (ex_pair k hlt).1 (ex_pair k hlt).2)
      have w1 : IntKind.i64.wrap ((k : Int) + 1) = (k : Int) + 1 := IntWalk.i64_in _ (by omega)
      clear hlt hb
      go_upto_region 5 with fail
      clear x0 x1 zx
      generalize wr.alloc (.cells #[.int .i64 (exD k), .int .i64 (exS k)] 62) = Y at *
      have zy := cell_lt y0
      generalize exD k = dk at *
      generalize exS k = sk at *
      go_wp2_with (go_at_call 19; refine (HSH.out _).mono ?_; rintro e w2 ⟨rfl, hb2⟩; have y1 := cell_below hb2 Y0.out; have zy1 := cell_lt y1; have HB2 := Lib.hid hb2; clear hb2)
      go_roundw
      case rel => exact ⟨k + 1, _, _, _, HK.out, rfl, rfl, rfl, rfl, by simp, Lib.hid ((HE.out.below HB1.out).below HB2.out), Lib.hid ((HP.out.below HB1.out).below HB2.out), Lib.hid (bt (bt HB.out HB1.out) HB2.out)⟩
      case measure => have := HK.out; simp [intOf]; omega
    · obtain rfl : k = 7 := by omega
      clear hlt hk HB0 HE0 HP0 HP
      have hki : ¬ ((7 : Nat) : Int) < 7 := by decide
      generalize wr = A0 at *
      have HEa := HE
      have HBa := HB
      clear HE HB
      obtain ⟨c0, c1, c2, c3, c4, c5, c6⟩ := HEa.out.c
      simp only [exC] at c0 c1 c2 c3 c4 c5 c6
      have zc := cell_lt c0
      go_wp2_with fail
      refine (aw_res 1 0 900 50 150 0 r1 _).mono ?_
      rintro e w1 ⟨rfl, hb⟩
      have HW1 := Lib.hid (show w.heap.size < w1.heap.size from Nat.lt_of_lt_of_le zc hb.size)
      have HE1 := Lib.hid (HEa.out.below hb)
      have HB1 := Lib.hid (bt HBa.out hb)
      clear c0 c1 c2 c3 c4 c5 c6 zc hb HEa HBa
      obtain ⟨c0, c1, c2, c3, c4, c5, c6⟩ := HE1.out.c
      simp only [exC] at c0 c1 c2 c3 c4 c5 c6
      have zc := cell_lt c0
      go_wp2_with fail
      have hx := below_alloc (Below.refl w1.heap.size w1) (.cells #[.int .i64 50, .int .i64 150] 43)
      have S1 := Lib.hid (SpF.new w1 50 150 43)
      have HX := Lib.hid hx
      clear hx
      have HE' := Lib.hid (HE1.out.below HX.out)
      have HB' := Lib.hid (bt HB1.out HX.out)
      clear c0 c1 c2 c3 c4 c5 c6 zc HX HE1 HB1 
      generalize w1.alloc (.cells #[.int .i64 50, .int .i64 150] 43) = X1 at *
      refine (aw_res 1 140 900 140 150 0 r2 _).mono ?_
      rintro e w2 ⟨rfl, hb⟩
      have HE2 := Lib.hid (HE'.out.below hb)
      have HB2 := Lib.hid (bt HB'.out hb)
      have S1k2 := Lib.hid (S1.out.below hb)
      clear hb HE' HB' S1
      obtain ⟨c0, c1, c2, c3, c4, c5, c6⟩ := HE2.out.c
      simp only [exC] at c0 c1 c2 c3 c4 c5 c6
      have zc := cell_lt c0
      go_wp2_with fail
      have hx := below_alloc (Below.refl w2.heap.size w2) (.cells #[.int .i64 140, .int .i64 150] 43)
      have S2 := Lib.hid (SpF.new w2 140 150 43)
      have S1k2' := Lib.hid (S1k2.out.below hx)
      have HX := Lib.hid hx
      clear hx
      have HE' := Lib.hid (HE2.out.below HX.out)
      have HB' := Lib.hid (bt HB2.out HX.out)
      clear c0 c1 c2 c3 c4 c5 c6 zc HX HE2 HB2 S1k2
      generalize w2.alloc (.cells #[.int .i64 140, .int .i64 150] 43) = X2 at *
      refine (aw_res 1 0 1100 0 0 8 r3 _).mono ?_
      rintro e w3 ⟨rfl, hb⟩
      have HE3 := Lib.hid (HE'.out.below hb)
      have HB3 := Lib.hid (bt HB'.out hb)
      have S1k3 := Lib.hid (S1k2'.out.below hb)
      have S2k3 := Lib.hid (S2.out.below hb)
      clear hb HE' HB' S1k2' S2
      obtain ⟨c0, c1, c2, c3, c4, c5, c6⟩ := HE3.out.c
      simp only [exC] at c0 c1 c2 c3 c4 c5 c6
      have zc := cell_lt c0
      go_wp2_with fail
      have hx := below_alloc (Below.refl w3.heap.size w3) (.cells #[.int .i64 0, .int .i64 0] 43)
      have S3 := Lib.hid (SpF.new w3 0 0 43)
      have S1k3' := Lib.hid (S1k3.out.below hx)
      have S2k3' := Lib.hid (S2k3.out.below hx)
      have HX := Lib.hid hx
      clear hx
      have HE' := Lib.hid (HE3.out.below HX.out)
      have HB' := Lib.hid (bt HB3.out HX.out)
      clear c0 c1 c2 c3 c4 c5 c6 zc HX HE3 HB3 S1k3 S2k3
      generalize w3.alloc (.cells #[.int .i64 0, .int .i64 0] 43) = X3 at *
      refine (aw_res 1 200 900 0 0 12 r4 _).mono ?_
      rintro e w4 ⟨rfl, hb⟩
      have HE4 := Lib.hid (HE'.out.below hb)
      have HB4 := Lib.hid (bt HB'.out hb)
      have S1k4 := Lib.hid (S1k3'.out.below hb)
      have S2k4 := Lib.hid (S2k3'.out.below hb)
      have S3k4 := Lib.hid (S3.out.below hb)
      clear hb HE' HB' S1k3' S2k3' S3
      obtain ⟨c0, c1, c2, c3, c4, c5, c6⟩ := HE4.out.c
      simp only [exC] at c0 c1 c2 c3 c4 c5 c6
      have zc := cell_lt c0
      go_wp2_with fail
      have hx := below_alloc (below_alloc (Below.refl w4.heap.size w4) (.cells #[.int .i64 0, .int .i64 0] 43)) (.cells #[.int .i64 400, .int .i64 (-500), .int .i64 (-400)] 3)
      have hs : FnIn ((w4.alloc (.cells #[.int .i64 0, .int .i64 0] 43)).alloc (.cells #[.int .i64 400, .int .i64 (-500), .int .i64 (-400)] 3)) exM 3 (some ⟨w4.heap.size + 1, 0, none⟩) := three_in 400 (-500) (-400) exM rfl rfl rfl (by simp)
      have HEx := Lib.hid (HE4.out.below hx)
      have HBx := Lib.hid (bt HB4.out hx)
      have S1x := Lib.hid (S1k4.out.below hx)
      have S2x := Lib.hid (S2k4.out.below hx)
      have HSX := Lib.hid hs
      clear hx hs c0 c1 c2 c3 c4 c5 c6 zc HE4 HB4 S1k4 S2k4 S3k4
      generalize (w4.alloc (.cells #[.int .i64 0, .int .i64 0] 43)).alloc (.cells #[.int .i64 400, .int .i64 (-500), .int .i64 (-400)] 3) = X4 at *
      refine (aw_unw (w4.heap.size + 1) _ HSX.out).mono ?_
      rintro e w5 ⟨g, rfl, hu, -, hb⟩
      have HE5 := Lib.hid (HEx.out.below hb)
      have HB5 := Lib.hid (bt HBx.out hb)
      have S1k5 := Lib.hid (S1x.out.below hb)
      have S2k5 := Lib.hid (S2x.out.below hb)
      have HU := Lib.hid hu
      clear hb hu HEx HBx S1x S2x HSX
      obtain ⟨⟨d0, d1⟩, -, -⟩ := S1k5.out
      obtain ⟨⟨q0, q1⟩, -, -⟩ := S2k5.out
      have zd := cell_lt d0
      have zq := cell_lt q0
      have hx := below_alloc (Below.refl w5.heap.size w5) (.cells #[.int .i64 400, .int .i64 500, .int .i64 600] 3)
      have HT : Hid (FnIn (w5.alloc (.cells #[.int .i64 400, .int .i64 500, .int .i64 600] 3)) (unwS (exC 1) exM) 3 (some ⟨w5.heap.size, 0, none⟩)) := Lib.hid (three_at _ 400 500 600 _ unw0.1.symm unw0.2.1.symm unw0.2.2.symm)
      have HT2 : Hid (FnIn (w5.alloc (.cells #[.int .i64 400, .int .i64 500, .int .i64 600] 3)) (unwS (exC 1) exM) 3 (some ⟨g, 0, none⟩)) := Lib.hid (.inr ⟨g, 0, rfl, HU.out.bel hx⟩)
      have HX := Lib.hid hx
      clear hx
      go_upto_region 16 with (go_at_call 20; refine (sameInts_yes (unwS (exC 1) exM) 3 (some ⟨g, 0, none⟩) (some ⟨w5.heap.size, 0, none⟩) 3 3 _ (by decide) HT2.out HT.out).mono ?_; rintro e w6 ⟨rfl, hb⟩; have HB6 := Lib.hid (bt HX.out hb); clear hb)
      have HE6 := Lib.hid (HE5.out.below HB6.out)
      have HBB := Lib.hid (bt HB5.out HB6.out)
      have S1k6 := Lib.hid (S1k5.out.below HB6.out)
      clear d0 d1 q0 q1 zd zq HT HT2 HX HB6 HE5 HB5 S1k5 S2k5 HU
      have hc0 := HE6.out.c.c0
      have zc := cell_lt hc0
      have hf0 := HE6.out.z
      simp only [exC] at hc0
      have HE7 := Lib.hid (HE6.out.put 10)
      have HB7 := Lib.hid (HBB.out.setCell (p := ⟨w.heap.size, 0, none⟩) (Nat.le_refl _) (.int .i64 10))
      have S1k7 := Lib.hid (S1k6.out.far (b' := w.heap.size) (o := 0) (u := .int .i64 10) (by have := HW1.out; omega))
      go_upto_region 17 with fail
      clear hc0 zc hf0 HE6 HBB S1k6
      generalize w6.setCell ⟨w.heap.size, 0, none⟩ (.int .i64 10) = X6 at *
      obtain ⟨c0, c1, c2, c3, c4, c5, c6⟩ := HE7.out.c
      simp only [exC] at c0 c1 c2 c3 c4 c5 c6
      have zc := cell_lt c0
      go_upto_region 18 with (go_at_call 19; refine (aw_show 10 7 100 (.inr rfl) (by decide) (by kernel_rfl) _).mono ?_; rintro e w7 ⟨rfl, hb⟩; have HB8 := Lib.hid hb; clear hb)
      clear c0 c1 c2 c3 c4 c5 c6 zc
      obtain ⟨c0, c1, c2, c3, c4, c5, c6⟩ := (HE7.out.below HB8.out).c
      simp only [exC] at c0 c1 c2 c3 c4 c5 c6
      have zc := cell_lt c0
      have HB9 := Lib.hid (bt HB7.out HB8.out)
      have S1k8 := Lib.hid (S1k7.out.below HB8.out)
      clear HE7 HB7 S1k7 HB8
      go_upto_region 19 with (go_at_call 17; refine (aw_res 10 (-40) 40 5 15 0 r5 _).mono ?_; rintro e w8 ⟨rfl, hb⟩; have HB10 := Lib.hid (bt HB9.out hb); have S1k9 := Lib.hid (S1k8.out.below hb); clear hb; obtain ⟨⟨d0, d1⟩, df0, df1⟩ := S1k9.out; have zd := cell_lt d0)
      have hsb : SpBox ((w8.setCell ⟨w1.heap.size, 0, none⟩ (.int .i64 5)).setCell ⟨w1.heap.size, 1, none⟩ (.int .i64 15)) w1.heap.size 5 15 := SpBox.set d0 d1
      have HB11 := Lib.hid ((HB10.out.setCell (p := ⟨w1.heap.size, 0, none⟩) (by show w.heap.size ≤ w1.heap.size; have := HW1.out; omega) (.int .i64 5)).setCell (p := ⟨w1.heap.size, 1, none⟩) (by show w.heap.size ≤ w1.heap.size; have := HW1.out; omega) (.int .i64 15))
      clear c0 c1 c2 c3 c4 c5 c6 zc d0 d1 df0 df1 zd HB9 S1k8 HB10 S1k9
      generalize (w8.setCell ⟨w1.heap.size, 0, none⟩ (.int .i64 5)).setCell ⟨w1.heap.size, 1, none⟩ (.int .i64 15) = X8 at *
      obtain ⟨d0, d1⟩ := hsb
      have zd := cell_lt d0
      go_upto_region 21 with fail
      clear d0 d1 zd
      have HL0 := Lib.hid (exl_new X8)
      have HB12 := Lib.hid (below_alloc HB11.out (.cells #[.int .i64 0, .int .i64 1, .int .i64 1, .int .i64 3, .int .i64 1, .int .i64 2, .int .i64 1, .int .i64 3, .int .i64 0, .int .i64 2, .int .i64 5, .int .i64 9] 46))
      have HWB := Lib.hid HB11.out.size
      clear HB11
      go_wp2_with fail
      generalize X8.alloc (.cells #[.int .i64 0, .int .i64 1, .int .i64 1, .int .i64 3, .int .i64 1, .int .i64 2, .int .i64 1, .int .i64 3, .int .i64 0, .int .i64 2, .int .i64 5, .int .i64 9] 46) = X9 at *
      refine (narrow_ok 3 (exL 5) (some ⟨X8.heap.size, 0, none⟩) 3 X9 HL0.out.bin net5 calm5 nar5).mono ?_
      rintro e w9 ⟨g2, bs, rfl, hm⟩
      rw [nar5M] at hm
      have HL1 := Lib.hid (HL0.out.below hm.bel)
      have HB13 := Lib.hid (bt HB12.out hm.bel)
      have HM := Lib.hid (mat_rows hm)
      clear hm HL0 HB12
      obtain ⟨hrn, hrb⟩ := rows_new w9
      have HR := Lib.hid hrn
      have HM2 := Lib.hid (HM.out.below hrb)
      have HL2 := Lib.hid (HL1.out.below hrb)
      have HB14 := Lib.hid (bt HB13.out hrb)
      unfold rowsW at HR HM2 HL2 HB14
      clear hrn hrb HM HL1 HB13
      go_upto_region 25 with (go_at_call 9; refine (sameLists_yes _ _ 3 g2 0 (w9.heap.size + 1 + 1 + 1) 0 3 3 _ (by decide) HM2.out HR.out).mono ?_; rintro e w10 ⟨rfl, hb⟩; have HB15 := Lib.hid (bt HB14.out hb); have HL3 := Lib.hid (HL2.out.below hb); clear hb)
      clear HR HM2 HL2 HB14
      have q0 := (HL3.out.c 2 (by decide)).2.1
      have qf := HL3.out.z
      have zq := cell_lt q0
      simp only [exL, bndAt, Nat.zero_add, Nat.reduceMul, Nat.reduceAdd, List.getElem?_cons_succ, List.getElem?_cons_zero, Option.getD_some] at q0
      have HL4 := Lib.hid HL3.out.put
      have HB16 := Lib.hid (HB15.out.setCell (p := ⟨X8.heap.size, 10, none⟩) (by show w.heap.size ≤ X8.heap.size; exact HWB.out) (.int .i64 7))
      go_upto_region 26 with fail
      clear q0 qf zq HL3 HB15
      generalize w10.setCell ⟨X8.heap.size, 10, none⟩ (.int .i64 7) = Y0 at *
      go_upto_region 28 with (first | (go_at_call 7; refine (narrow_no 3 (exL 7) (some ⟨X8.heap.size, 0, none⟩) 3 Y0 HL4.out.bin net7 calm7 nar7).mono ?_; rintro e w11 ⟨rfl, hb⟩; have HB17 := Lib.hid (bt HB16.out hb); have HL5 := Lib.hid (HL4.out.below hb); clear hb) | (go_at_call 13; refine (contradict_any 3 (exL 7) (some ⟨X8.heap.size, 0, none⟩) 3 _ HL5.out.bin net7).mono ?_; rintro e w12 ⟨⟨u, pu, cu, rfl, hu, hc, -⟩, hb⟩; obtain ⟨u1, u2, u3'⟩ := con7 u hc; rw [if_neg u2]; have HB18 := Lib.hid (bt HB17.out hb); have HL6 := Lib.hid (HL5.out.below hb); have HU1 := Lib.hid (And.intro hu (And.intro u1 u3')); clear hb hu hc u1 u2 u3'))
      have HRF := Lib.hid (refute_yes u pu (some ⟨X8.heap.size, 0, none⟩) cu 3 w12 HU1.out.2.1 HU1.out.2.2 HL6.out.bin HU1.out.1)
      go_wp2_with (first | (go_at_call 10; refine HRF.out.mono ?_; rintro e w13 ⟨rfl, hb⟩; have HB19 := Lib.hid (bt HB18.out hb); have HL7 := Lib.hid (HL6.out.below hb); clear hb; obtain ⟨hu3, hb3⟩ := uses_new w13; have HU3 := Lib.hid hu3; have HB20 := Lib.hid (bt HB19.out hb3); have HL8 := Lib.hid (HL7.out.below hb3); clear hu3 hb3; clear HRF) | (go_at_call 10; refine (refute_yes [(2, false), (0, true), (1, true)] (some ⟨w13.heap.size, 0, none⟩) (some ⟨X8.heap.size, 0, none⟩) 3 3 _ (by decide) cut7 HL8.out.bin HU3.out).mono ?_; rintro e w14 ⟨rfl, hb⟩; have HB21 := Lib.hid (bt HB20.out hb); clear hb))
      go_ret
      exact ⟨rfl, HB21.out⟩
end Go.Proofs.Ytlelamjbfjneiaa.Ct
