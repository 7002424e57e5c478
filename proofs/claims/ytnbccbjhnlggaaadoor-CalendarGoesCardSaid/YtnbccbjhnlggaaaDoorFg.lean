/- Layer 9 (calendar): one date before another. -/
import Derived.Test.YtnbccbjhnlggaaaDoorFf
import Derived.Test.YtnbccbjhnlggaaaDoorDs
import Derived.Test.YtnbccbjhnlggaaaDoorEea
import Derived.BigQuiet
namespace Go.Proofs.YtnbccbjhnlggaaaDoor.Cal
open Go Go.RowKit
attribute [local go_sem] Oper.semAt_some
def six (a b c d e f : Int) : Nat → Int := fun i => if i = 0 then a else if i = 1 then b else if i = 2 then c else if i = 3 then d else if i = 4 then e else f
def sixW (w : World) (a b c d e f x y z s t u : Int) : World := (w.alloc (.cells #[.int .i64 a, .int .i64 b, .int .i64 c, .int .i64 d, .int .i64 e, .int .i64 f] 33)).alloc (.cells #[.int .i64 x, .int .i64 y, .int .i64 z, .int .i64 s, .int .i64 t, .int .i64 u] 33)
theorem six_start (w : World) (a b c d e f x y z s t u : Int) : DBox (sixW w a b c d e f x y z s t u) w.heap.size a b c d e f ∧ DBox (sixW w a b c d e f x y z s t u) (w.heap.size + 1) x y z s t u ∧ Below w.heap.size w (sixW w a b c d e f x y z s t u) := by
  have b1 := below_alloc (Below.refl w.heap.size w) (.cells #[.int .i64 a, .int .i64 b, .int .i64 c, .int .i64 d, .int .i64 e, .int .i64 f] 33)
  have h1 := DBox.new w a b c d e f
  have e1 : (w.alloc (.cells #[.int .i64 a, .int .i64 b, .int .i64 c, .int .i64 d, .int .i64 e, .int .i64 f] 33)).heap.size = w.heap.size + 1 := by simp
  unfold sixW
  generalize w.alloc (.cells #[.int .i64 a, .int .i64 b, .int .i64 c, .int .i64 d, .int .i64 e, .int .i64 f] 33) = W1 at *
  have b2 := below_alloc (Below.refl W1.heap.size W1) (.cells #[.int .i64 x, .int .i64 y, .int .i64 z, .int .i64 s, .int .i64 t, .int .i64 u] 33)
  have h2 := DBox.new W1 x y z s t u
  rw [e1] at h2
  exact ⟨h1.below b2, h2, bt b1 b2⟩
def set6 (W : World) (a : Nat) (c0 c1 c2 c3 c4 c5 : Int) : World := (((((W.setCell ⟨a, 0, none⟩ (.int .i64 c0)).setCell ⟨a, 1, none⟩ (.int .i64 c1)).setCell ⟨a, 2, none⟩ (.int .i64 c2)).setCell ⟨a, 3, none⟩ (.int .i64 c3)).setCell ⟨a, 4, none⟩ (.int .i64 c4)).setCell ⟨a, 5, none⟩ (.int .i64 c5)
theorem set_oth {W : World} {a o o' : Nat} {x v : Value} (hne : o ≠ o') (h : W.cell? ⟨a, o, none⟩ = some x) : (W.setCell ⟨a, o', none⟩ v).cell? ⟨a, o, none⟩ = some x := by
  rw [World.cell?_setCell_other _ ⟨a, o', none⟩ ⟨a, o, none⟩ _ (fun e => hne (by cases e; rfl))]; exact h
theorem set6_box {W : World} {a : Nat} (h : Res6 W a) (c0 c1 c2 c3 c4 c5 : Int) : DBox (set6 W a c0 c1 c2 c3 c4 c5) a c0 c1 c2 c3 c4 c5 := by
  obtain ⟨⟨u0, r0⟩, ⟨u1, r1⟩, ⟨u2, r2⟩, ⟨u3, r3⟩, ⟨u4, r4⟩, ⟨u5, r5⟩, -⟩ := h
  unfold set6
  have o := fun {X : World} {o o' : Nat} {x v : Value} (hne : o ≠ o') (h : X.cell? ⟨a, o, none⟩ = some x) => set_oth (v := v) (a := a) hne h
  refine ⟨?_, ?_, ?_, ?_, ?_, ?_⟩
  · exact o (by decide) (o (by decide) (o (by decide) (o (by decide) (o (by decide) (World.cell?_setCell_same _ _ _ r0)))))
  · exact o (by decide) (o (by decide) (o (by decide) (o (by decide) (World.cell?_setCell_same _ _ _ (o (by decide) r1)))))
  · exact o (by decide) (o (by decide) (o (by decide) (World.cell?_setCell_same _ _ _ (o (by decide) (o (by decide) r2)))))
  · exact o (by decide) (o (by decide) (World.cell?_setCell_same _ _ _ (o (by decide) (o (by decide) (o (by decide) r3)))))
  · exact o (by decide) (World.cell?_setCell_same _ _ _ (o (by decide) (o (by decide) (o (by decide) (o (by decide) r4)))))
  · exact World.cell?_setCell_same _ _ _ (o (by decide) (o (by decide) (o (by decide) (o (by decide) (o (by decide) r5)))))
theorem set6_res {W : World} {a b : Nat} (h : Res6 W b) (hne : b ≠ a) (c0 c1 c2 c3 c4 c5 : Int) : Res6 (set6 W a c0 c1 c2 c3 c4 c5) b := by
  unfold set6
  have f := fun {o : Nat} (q : ∃ v, W.cell? ⟨b, o, none⟩ = some v) => q.imp fun _ e => farC hne (farC hne (farC hne (farC hne (farC hne (farC hne e (o' := 0) (v := .int .i64 c0)) (o' := 1) (v := .int .i64 c1)) (o' := 2) (v := .int .i64 c2)) (o' := 3) (v := .int .i64 c3)) (o' := 4) (v := .int .i64 c4)) (o' := 5) (v := .int .i64 c5)
  exact ⟨f h.r0, f h.r1, f h.r2, f h.r3, f h.r4, f h.r5, fun i => by rw [World.frozen?_setCell, World.frozen?_setCell, World.frozen?_setCell, World.frozen?_setCell, World.frozen?_setCell, World.frozen?_setCell]; exact h.z i⟩
theorem set6_dbox {W : World} {a b : Nat} {y m d hh mi s : Int} (h : DBox W b y m d hh mi s) (hne : b ≠ a) (c0 c1 c2 c3 c4 c5 : Int) : DBox (set6 W a c0 c1 c2 c3 c4 c5) b y m d hh mi s := by
  unfold set6
  have f := fun {o : Nat} {x : Value} (e : W.cell? ⟨b, o, none⟩ = some x) => farC hne (farC hne (farC hne (farC hne (farC hne (farC hne e (o' := 0) (v := .int .i64 c0)) (o' := 1) (v := .int .i64 c1)) (o' := 2) (v := .int .i64 c2)) (o' := 3) (v := .int .i64 c3)) (o' := 4) (v := .int .i64 c4)) (o' := 5) (v := .int .i64 c5)
  exact ⟨f h.c0, f h.c1, f h.c2, f h.c3, f h.c4, f h.c5⟩
theorem set6_below {w W : World} {k a : Nat} (h : Below k w W) (hk : k ≤ a) (c0 c1 c2 c3 c4 c5 : Int) : Below k w (set6 W a c0 c1 c2 c3 c4 c5) := by
  have st : ∀ (X : World) (o : Nat) (v : Value), Below k w X → Below k w (X.setCell ⟨a, o, none⟩ v) := fun X o v h => h.setCell (p := ⟨a, o, none⟩) hk _
  exact st _ _ _ (st _ _ _ (st _ _ _ (st _ _ _ (st _ _ _ (st _ _ _ h)))))
theorem box_fn {W : World} {a : Nat} {c0 c1 c2 c3 c4 c5 : Int} (h : DBox W a c0 c1 c2 c3 c4 c5) : FnAt W (six c0 c1 c2 c3 c4 c5) 6 a 0 := by
  intro i hi
  rw [Nat.zero_add]
  match i, hi with
  | 0, _ => exact h.c0
  | 1, _ => exact h.c1
  | 2, _ => exact h.c2
  | 3, _ => exact h.c3
  | 4, _ => exact h.c4
  | 5, _ => exact h.c5
theorem Res6.zero (w : World) (t : TypeId) : Res6 (w.alloc (.cells #[.int .i64 0, .int .i64 0, .int .i64 0, .int .i64 0, .int .i64 0, .int .i64 0] t)) w.heap.size := ⟨⟨.int .i64 0, by simp⟩, ⟨.int .i64 0, by simp⟩, ⟨.int .i64 0, by simp⟩, ⟨.int .i64 0, by simp⟩, ⟨.int .i64 0, by simp⟩, ⟨.int .i64 0, by simp⟩, fun i => by simp⟩
theorem FnAt.below {w w' : World} {f : Nat → Int} {n b o : Nat} (h : FnAt w f n b o) (hb : Below w.heap.size w w') : FnAt w' f n b o := fun i hi => cell_below hb (h i hi)
set_option maxRecDepth 100000 in
set_option maxHeartbeats 4000000 in
theorem lbefore_any (a b c d e f x y z s t u : Int) (w : World) :
    Calls Tryd.prog 13 #[.agg #[.int .i64 a, .int .i64 b, .int .i64 c, .int .i64 d, .int .i64 e, .int .i64 f], .agg #[.int .i64 x, .int .i64 y, .int .i64 z, .int .i64 s, .int .i64 t, .int .i64 u]] w fun e' w' => e' = .returned (.bool (decide (lexF (six a b c d e f) (six x y z s t u) 0 6 < 0))) ∧ Below w.heap.size w w' := by
  obtain ⟨L, hL⟩ : ∃ L, lexF (six a b c d e f) (six x y z s t u) 0 6 = L := ⟨_, rfl⟩
  rw [hL]
  have HLL := Lib.hid hL
  clear hL
  obtain ⟨h1, h2, hb⟩ := six_start w a b c d e f x y z s t u
  unfold sixW at h1 h2 hb
  have H1 := Lib.hid h1
  have H2 := Lib.hid h2
  have A0 := Lib.hid hb
  clear h1 h2 hb
  go_enter Tryd.func13, Tryd.ntmps13
  go_upto_region 1 with fail
  generalize (w.alloc (.cells #[.int .i64 a, .int .i64 b, .int .i64 c, .int .i64 d, .int .i64 e, .int .i64 f] 33)).alloc (.cells #[.int .i64 x, .int .i64 y, .int .i64 z, .int .i64 s, .int .i64 t, .int .i64 u] 33) = W1 at *
  obtain ⟨x0, x1, x2, x3, x4, x5⟩ := H1.out
  obtain ⟨y0, y1, y2, y3, y4, y5⟩ := H2.out
  have zx := cell_lt x0
  have zy := cell_lt y0
  have HK := Lib.hid (show ∀ X, Below W1.heap.size W1 X → (fun w' => w'.cell? ⟨w.heap.size, 0, none⟩ = some (.int .i64 a) ∧ w'.cell? ⟨w.heap.size, 1, none⟩ = some (.int .i64 b) ∧ w'.cell? ⟨w.heap.size, 2, none⟩ = some (.int .i64 c) ∧ w'.cell? ⟨w.heap.size, 3, none⟩ = some (.int .i64 d) ∧ w'.cell? ⟨w.heap.size, 4, none⟩ = some (.int .i64 e) ∧ w'.cell? ⟨w.heap.size, 5, none⟩ = some (.int .i64 f) ∧ w'.cell? ⟨w.heap.size + 1, 0, none⟩ = some (.int .i64 x) ∧ w'.cell? ⟨w.heap.size + 1, 1, none⟩ = some (.int .i64 y) ∧ w'.cell? ⟨w.heap.size + 1, 2, none⟩ = some (.int .i64 z) ∧ w'.cell? ⟨w.heap.size + 1, 3, none⟩ = some (.int .i64 s) ∧ w'.cell? ⟨w.heap.size + 1, 4, none⟩ = some (.int .i64 t) ∧ w'.cell? ⟨w.heap.size + 1, 5, none⟩ = some (.int .i64 u)) X from fun X h => ⟨cell_below h x0, cell_below h x1, cell_below h x2, cell_below h x3, cell_below h x4, cell_below h x5, cell_below h y0, cell_below h y1, cell_below h y2, cell_below h y3, cell_below h y4, cell_below h y5⟩)
  clear zx zy
  refine wp_region_held_drew (S := (fun w' => w'.cell? ⟨w.heap.size, 0, none⟩ = some (.int .i64 a) ∧ w'.cell? ⟨w.heap.size, 1, none⟩ = some (.int .i64 b) ∧ w'.cell? ⟨w.heap.size, 2, none⟩ = some (.int .i64 c) ∧ w'.cell? ⟨w.heap.size, 3, none⟩ = some (.int .i64 d) ∧ w'.cell? ⟨w.heap.size, 4, none⟩ = some (.int .i64 e) ∧ w'.cell? ⟨w.heap.size, 5, none⟩ = some (.int .i64 f) ∧ w'.cell? ⟨w.heap.size + 1, 0, none⟩ = some (.int .i64 x) ∧ w'.cell? ⟨w.heap.size + 1, 1, none⟩ = some (.int .i64 y) ∧ w'.cell? ⟨w.heap.size + 1, 2, none⟩ = some (.int .i64 z) ∧ w'.cell? ⟨w.heap.size + 1, 3, none⟩ = some (.int .i64 s) ∧ w'.cell? ⟨w.heap.size + 1, 4, none⟩ = some (.int .i64 t) ∧ w'.cell? ⟨w.heap.size + 1, 5, none⟩ = some (.int .i64 u))) (by kernel_rfl) (HK.out _ (Below.drew (Below.refl _ _))) (fun hHeld => ?_)
  have HB1 := Lib.hid (Below.drew (Below.refl W1.heap.size W1))
  have HZ1 : Hid (W1.drew.heap.size = W1.heap.size) := Lib.hid rfl
  clear x0 x1 x2 x3 x4 x5 y0 y1 y2 y3 y4 y5
  generalize W1.drew = W2 at *
  refine wpAnyH_take (i := 0) (v := ?_) rfl (by kernel_rfl) (by kernel_rfl) (by kernel_rfl) (fun _ _ _ h => h) (Or.inl ⟨by rfl, ?_⟩) (by assumption) ?_
  rotate_left
  · intro w hSw; (try dsimp only at hSw); go_simp; try with_reducible rfl
  simp only [Act.put, List.getElem_toArray, List.getElem_cons_zero, List.setIfInBounds_toArray, List.set_cons_zero, List.set_cons_succ]
  refine wpAnyH_take (i := 1) (v := ?_) rfl (by kernel_rfl) (by kernel_rfl) (by kernel_rfl) (fun _ _ _ h => h) (Or.inl ⟨by rfl, ?_⟩) (by assumption) ?_
  rotate_left
  · intro w hSw; (try dsimp only at hSw); go_simp; try with_reducible rfl
  simp only [Act.put, List.getElem_toArray, List.getElem_cons_succ, List.getElem_cons_zero, List.setIfInBounds_toArray, List.set_cons_zero, List.set_cons_succ]
  refine wpAnyH_take (i := 2) (v := ?_) rfl (by kernel_rfl) (by kernel_rfl) (by kernel_rfl) (fun _ _ _ h => h) (Or.inl ⟨by rfl, ?_⟩) (by assumption) ?_
  rotate_left
  · intro w hSw; (try dsimp only at hSw); go_simp; try with_reducible rfl
  simp only [Act.put, List.getElem_toArray, List.getElem_cons_succ, List.getElem_cons_zero, List.setIfInBounds_toArray, List.set_cons_zero, List.set_cons_succ]
  refine wpAnyH_take (i := 3) (v := ?_) rfl (by kernel_rfl) (by kernel_rfl) (by kernel_rfl) (fun _ _ _ h => h) (Or.inl ⟨by rfl, ?_⟩) (by assumption) ?_
  rotate_left
  · intro w hSw; (try dsimp only at hSw); go_simp; try with_reducible rfl
  simp only [Act.put, List.getElem_toArray, List.getElem_cons_succ, List.getElem_cons_zero, List.setIfInBounds_toArray, List.set_cons_zero, List.set_cons_succ]
  refine wpAnyH_take (i := 4) (v := ?_) rfl (by kernel_rfl) (by kernel_rfl) (by kernel_rfl) (fun _ _ _ h => h) (Or.inl ⟨by rfl, ?_⟩) (by assumption) ?_
  rotate_left
  · intro w hSw; (try dsimp only at hSw); go_simp; try with_reducible rfl
  simp only [Act.put, List.getElem_toArray, List.getElem_cons_succ, List.getElem_cons_zero, List.setIfInBounds_toArray, List.set_cons_zero, List.set_cons_succ]
  refine wpAnyH_take (i := 5) (v := ?_) rfl (by kernel_rfl) (by kernel_rfl) (by kernel_rfl) (fun _ _ _ h => h) (Or.inl ⟨by rfl, ?_⟩) (by assumption) ?_
  rotate_left
  · intro w hSw; (try dsimp only at hSw); go_simp; try with_reducible rfl
  simp only [Act.put, List.getElem_toArray, List.getElem_cons_succ, List.getElem_cons_zero, List.setIfInBounds_toArray, List.set_cons_zero, List.set_cons_succ]
  refine wpAnyH_take (i := 6) (v := ?_) rfl (by kernel_rfl) (by kernel_rfl) (by kernel_rfl) (fun _ _ _ h => h) (Or.inl ⟨by rfl, ?_⟩) (by assumption) ?_
  rotate_left
  · intro w hSw; (try dsimp only at hSw); go_simp; try with_reducible rfl
  simp only [Act.put, List.getElem_toArray, List.getElem_cons_succ, List.getElem_cons_zero, List.setIfInBounds_toArray, List.set_cons_zero, List.set_cons_succ]
  refine wpAnyH_take (i := 7) (v := ?_) rfl (by kernel_rfl) (by kernel_rfl) (by kernel_rfl) (fun _ _ _ h => h) (Or.inl ⟨by rfl, ?_⟩) (by assumption) ?_
  rotate_left
  · intro w hSw; (try dsimp only at hSw); go_simp; try with_reducible rfl
  simp only [Act.put, List.getElem_toArray, List.getElem_cons_succ, List.getElem_cons_zero, List.setIfInBounds_toArray, List.set_cons_zero, List.set_cons_succ]
  refine wpAnyH_take (i := 8) (v := ?_) rfl (by kernel_rfl) (by kernel_rfl) (by kernel_rfl) (fun _ _ _ h => h) (Or.inl ⟨by rfl, ?_⟩) (by assumption) ?_
  rotate_left
  · intro w hSw; (try dsimp only at hSw); go_simp; try with_reducible rfl
  simp only [Act.put, List.getElem_toArray, List.getElem_cons_succ, List.getElem_cons_zero, List.setIfInBounds_toArray, List.set_cons_zero, List.set_cons_succ]
  refine wpAnyH_take (i := 9) (v := ?_) rfl (by kernel_rfl) (by kernel_rfl) (by kernel_rfl) (fun _ _ _ h => h) (Or.inl ⟨by rfl, ?_⟩) (by assumption) ?_
  rotate_left
  · intro w hSw; (try dsimp only at hSw); go_simp; try with_reducible rfl
  simp only [Act.put, List.getElem_toArray, List.getElem_cons_succ, List.getElem_cons_zero, List.setIfInBounds_toArray, List.set_cons_zero, List.set_cons_succ]
  refine wpAnyH_take (i := 10) (v := ?_) rfl (by kernel_rfl) (by kernel_rfl) (by kernel_rfl) (fun _ _ _ h => h) (Or.inl ⟨by rfl, ?_⟩) (by assumption) ?_
  rotate_left
  · intro w hSw; (try dsimp only at hSw); go_simp; try with_reducible rfl
  simp only [Act.put, List.getElem_toArray, List.getElem_cons_succ, List.getElem_cons_zero, List.setIfInBounds_toArray, List.set_cons_zero, List.set_cons_succ]
  refine wpAnyH_take (i := 11) (v := ?_) rfl (by kernel_rfl) (by kernel_rfl) (by kernel_rfl) (fun _ _ _ h => h) (Or.inl ⟨by rfl, ?_⟩) (by assumption) ?_
  rotate_left
  · intro w hSw; (try dsimp only at hSw); go_simp; try with_reducible rfl
  simp only [Act.put, List.getElem_toArray, List.getElem_cons_succ, List.getElem_cons_zero, List.setIfInBounds_toArray, List.set_cons_zero, List.set_cons_succ]
  refine wpAnyH_take (i := 12) (v := ?_) rfl (by kernel_rfl) (by kernel_rfl) (by kernel_rfl) (fun _ _ _ h => h) (Or.inl ⟨by rfl, ?_⟩) (by assumption) ?_
  rotate_left
  · intro w hSw; (try dsimp only at hSw); go_simp; try with_reducible rfl
  simp only [Act.put, List.getElem_toArray, List.getElem_cons_succ, List.getElem_cons_zero, List.setIfInBounds_toArray, List.set_cons_zero, List.set_cons_succ]
  refine wpAnyH_take (i := 13) (v := ?_) rfl (by kernel_rfl) (by kernel_rfl) (by kernel_rfl) (fun _ _ _ h => h) (Or.inl ⟨by rfl, ?_⟩) (by assumption) ?_
  rotate_left
  · intro w hSw; (try dsimp only at hSw); go_simp; try with_reducible rfl
  simp only [Act.put, List.getElem_toArray, List.getElem_cons_succ, List.getElem_cons_zero, List.setIfInBounds_toArray, List.set_cons_zero, List.set_cons_succ]
  refine wpAnyH_take (i := 14) (v := ?_) rfl (by kernel_rfl) (by kernel_rfl) (by kernel_rfl) (fun _ _ _ h => h) (Or.inl ⟨by rfl, ?_⟩) (by assumption) ?_
  rotate_left
  · intro w hSw; (try dsimp only at hSw); go_simp; try with_reducible rfl
  simp only [Act.put, List.getElem_toArray, List.getElem_cons_succ, List.getElem_cons_zero, List.setIfInBounds_toArray, List.set_cons_zero, List.set_cons_succ]
  refine wpAnyH_take (i := 15) (v := ?_) rfl (by kernel_rfl) (by kernel_rfl) (by kernel_rfl) (fun _ _ _ h => h) (Or.inl ⟨by rfl, ?_⟩) (by assumption) ?_
  rotate_left
  · intro w hSw; (try dsimp only at hSw); go_simp; try with_reducible rfl
  simp only [Act.put, List.getElem_toArray, List.getElem_cons_succ, List.getElem_cons_zero, List.setIfInBounds_toArray, List.set_cons_zero, List.set_cons_succ]
  refine wpAnyH_take (i := 16) (v := ?_) rfl (by kernel_rfl) (by kernel_rfl) (by kernel_rfl) (fun _ _ _ h => h) (Or.inl ⟨by rfl, ?_⟩) (by assumption) ?_
  rotate_left
  · intro w hSw; (try dsimp only at hSw); go_simp; try with_reducible rfl
  simp only [Act.put, List.getElem_toArray, List.getElem_cons_succ, List.getElem_cons_zero, List.setIfInBounds_toArray, List.set_cons_zero, List.set_cons_succ]
  refine wpAnyH_take (i := 17) (v := ?_) rfl (by kernel_rfl) (by kernel_rfl) (by kernel_rfl) (fun _ _ _ h => h) (Or.inl ⟨by rfl, ?_⟩) (by assumption) ?_
  rotate_left
  · intro w hSw; (try dsimp only at hSw); go_simp; try with_reducible rfl
  simp only [Act.put, List.getElem_toArray, List.getElem_cons_succ, List.getElem_cons_zero, List.setIfInBounds_toArray, List.set_cons_zero, List.set_cons_succ]
  refine wpAnyH_take (i := 18) (v := ?_) rfl (by kernel_rfl) (by kernel_rfl) (by kernel_rfl) (fun _ _ _ h => h) (Or.inl ⟨by rfl, ?_⟩) (by assumption) ?_
  rotate_left
  · intro w hSw; (try dsimp only at hSw); go_simp; try with_reducible rfl
  simp only [Act.put, List.getElem_toArray, List.getElem_cons_succ, List.getElem_cons_zero, List.setIfInBounds_toArray, List.set_cons_zero, List.set_cons_succ]
  refine wpAnyH_take (i := 19) (v := ?_) rfl (by kernel_rfl) (by kernel_rfl) (by kernel_rfl) (fun _ _ _ h => h) (Or.inl ⟨by rfl, ?_⟩) (by assumption) ?_
  rotate_left
  · intro w hSw; (try dsimp only at hSw); go_simp; try with_reducible rfl
  simp only [Act.put, List.getElem_toArray, List.getElem_cons_succ, List.getElem_cons_zero, List.setIfInBounds_toArray, List.set_cons_zero, List.set_cons_succ]
  refine wpAnyH_take (i := 20) (v := ?_) rfl (by kernel_rfl) (by kernel_rfl) (by kernel_rfl) (fun _ _ _ h => h) (Or.inl ⟨by rfl, ?_⟩) (by assumption) ?_
  rotate_left
  · intro w hSw; (try dsimp only at hSw); go_simp; try with_reducible rfl
  simp only [Act.put, List.getElem_toArray, List.getElem_cons_succ, List.getElem_cons_zero, List.setIfInBounds_toArray, List.set_cons_zero, List.set_cons_succ]
  refine wpAnyH_take (i := 21) (v := ?_) rfl (by kernel_rfl) (by kernel_rfl) (by kernel_rfl) (fun _ _ _ h => h) (Or.inl ⟨by rfl, ?_⟩) (by assumption) ?_
  rotate_left
  · intro w hSw; (try dsimp only at hSw); go_simp; try with_reducible rfl
  simp only [Act.put, List.getElem_toArray, List.getElem_cons_succ, List.getElem_cons_zero, List.setIfInBounds_toArray, List.set_cons_zero, List.set_cons_succ]
  refine wpAnyH_take (i := 22) (v := ?_) rfl (by kernel_rfl) (by kernel_rfl) (by kernel_rfl) (fun _ _ _ h => h) (Or.inl ⟨by rfl, ?_⟩) (by assumption) ?_
  rotate_left
  · intro w hSw; (try dsimp only at hSw); go_simp; try with_reducible rfl
  simp only [Act.put, List.getElem_toArray, List.getElem_cons_succ, List.getElem_cons_zero, List.setIfInBounds_toArray, List.set_cons_zero, List.set_cons_succ]
  refine wpAnyH_take (i := 23) (v := ?_) rfl (by kernel_rfl) (by kernel_rfl) (by kernel_rfl) (fun _ _ _ h => h) (Or.inl ⟨by rfl, ?_⟩) (by assumption) ?_
  rotate_left
  · intro w hSw; (try dsimp only at hSw); go_simp; try with_reducible rfl
  simp only [Act.put, List.getElem_toArray, List.getElem_cons_succ, List.getElem_cons_zero, List.setIfInBounds_toArray, List.set_cons_zero, List.set_cons_succ]
  refine wpAnyH_take (i := 24) (v := ?_) rfl (by kernel_rfl) (by kernel_rfl) (by kernel_rfl) (fun _ _ _ h => h) (Or.inl ⟨by rfl, ?_⟩) (by assumption) ?_
  rotate_left
  · intro w hSw; (try dsimp only at hSw); go_simp; try with_reducible rfl
  simp only [Act.put, List.getElem_toArray, List.getElem_cons_succ, List.getElem_cons_zero, List.setIfInBounds_toArray, List.set_cons_zero, List.set_cons_succ]
  refine wpAnyH_take (i := 25) (v := ?_) rfl (by kernel_rfl) (by kernel_rfl) (by kernel_rfl) (fun _ _ _ h => h) (Or.inl ⟨by rfl, ?_⟩) (by assumption) ?_
  rotate_left
  · intro w hSw; (try dsimp only at hSw); go_simp; try with_reducible rfl
  simp only [Act.put, List.getElem_toArray, List.getElem_cons_succ, List.getElem_cons_zero, List.setIfInBounds_toArray, List.set_cons_zero, List.set_cons_succ]
  clear hHeld
  refine wpAnyH_ready (rs := [26, 27]) (by kernel_rfl) (by simp) ?_
  refine AllReadyH.cons rfl (fun K hK => ?_) (AllReadyH.cons rfl (fun K hK => ?_) AllReadyH.nil)
  · go_simp
    have HA1 := Lib.hid (Res6.zero W2 90)
    have HB2 := Lib.hid (below_alloc (Below.refl W2.heap.size W2) (.cells #[.int .i64 0, .int .i64 0, .int .i64 0, .int .i64 0, .int .i64 0, .int .i64 0] 90))
    have HZ2 : Hid ((W2.alloc (.cells #[.int .i64 0, .int .i64 0, .int .i64 0, .int .i64 0, .int .i64 0, .int .i64 0] 90)).heap.size = W2.heap.size + 1) := Lib.hid (by simp)
    refine hK.out _ _ (HK.out _ (bt HB1.out HB2.out)) (fun hHeld => ?_)
    clear hK K hHeld
    generalize W2.alloc (.cells #[.int .i64 0, .int .i64 0, .int .i64 0, .int .i64 0, .int .i64 0, .int .i64 0] 90) = W3 at *
    refine wpAnyH_ready (rs := [27]) (by kernel_rfl) (by simp) ?_
    refine AllReadyH.cons rfl (fun K hK => ?_) AllReadyH.nil
    go_simp
    have HA2 := Lib.hid (Res6.zero W3 90)
    have HB3 := Lib.hid (below_alloc (Below.refl W3.heap.size W3) (.cells #[.int .i64 0, .int .i64 0, .int .i64 0, .int .i64 0, .int .i64 0, .int .i64 0] 90))
    have HA1 := Lib.hid (HA1.out.below HB3.out)
    have HB4 := Lib.hid (bt (bt HB1.out HB2.out) HB3.out)
    refine hK.out _ _ (HK.out _ HB4.out) (fun hHeld => ?_)
    clear hK K hHeld HB3
    generalize W3.alloc (.cells #[.int .i64 0, .int .i64 0, .int .i64 0, .int .i64 0, .int .i64 0, .int .i64 0] 90) = W4 at *
    have hne : W2.heap.size ≠ W3.heap.size := by have := HZ2.out; omega
    have hge : W1.heap.size ≤ W2.heap.size ∧ W1.heap.size ≤ W3.heap.size := by have := HZ2.out; have := HZ1.out; omega
    have HX4 := HA1
    have HY4 := HA2
    clear HA1 HA2
    obtain ⟨bx, hbx⟩ : ∃ q, W2.heap.size = q := ⟨_, rfl⟩
    obtain ⟨bY, hbY⟩ : ∃ q, W3.heap.size = q := ⟨_, rfl⟩
    rw [hbx, hbY] at hne hge
    rw [hbx] at HX4 ⊢
    rw [hbY] at HY4 ⊢
    clear hbx hbY
    obtain ⟨⟨u0, r0⟩, ⟨u1, r1⟩, ⟨u2, r2⟩, ⟨u3, r3⟩, ⟨u4, r4⟩, ⟨u5, r5⟩, rz⟩ := HX4.out
    have z0 := rz 0
    have z1 := rz 1
    have z2 := rz 2
    have z3 := rz 3
    have z4 := rz 4
    have z5 := rz 5
    have zr := cell_lt r0
    clear rz
    refine wpAnyH_ready (rs := [28]) (by kernel_rfl) (by simp) ?_
    refine AllReadyH.cons rfl (fun K hK => ?_) AllReadyH.nil
    go_simp
    have hb5 := set6_below HB4.out (show W1.heap.size ≤ bx by omega) a b c d e f
    have hd5 := set6_box HX4.out a b c d e f
    have ho5 := set6_res HY4.out (show bY ≠ bx by omega) a b c d e f
    refine hK.out _ _ (HK.out _ hb5) (fun hHeld => ?_)
    clear hK K hHeld r0 r1 r2 r3 r4 r5 z0 z1 z2 z3 z4 z5 zr
    change Below _ _ ((((((W4.setCell ⟨bx, 0, none⟩ (.int .i64 a)).setCell ⟨bx, 1, none⟩ (.int .i64 b)).setCell ⟨bx, 2, none⟩ (.int .i64 c)).setCell ⟨bx, 3, none⟩ (.int .i64 d)).setCell ⟨bx, 4, none⟩ (.int .i64 e)).setCell ⟨bx, 5, none⟩ (.int .i64 f)) at hb5
    change DBox ((((((W4.setCell ⟨bx, 0, none⟩ (.int .i64 a)).setCell ⟨bx, 1, none⟩ (.int .i64 b)).setCell ⟨bx, 2, none⟩ (.int .i64 c)).setCell ⟨bx, 3, none⟩ (.int .i64 d)).setCell ⟨bx, 4, none⟩ (.int .i64 e)).setCell ⟨bx, 5, none⟩ (.int .i64 f)) _ _ _ _ _ _ _ at hd5
    change Res6 ((((((W4.setCell ⟨bx, 0, none⟩ (.int .i64 a)).setCell ⟨bx, 1, none⟩ (.int .i64 b)).setCell ⟨bx, 2, none⟩ (.int .i64 c)).setCell ⟨bx, 3, none⟩ (.int .i64 d)).setCell ⟨bx, 4, none⟩ (.int .i64 e)).setCell ⟨bx, 5, none⟩ (.int .i64 f)) _ at ho5
    have HB5 := Lib.hid hb5
    have HX5 := Lib.hid hd5
    have HY5 := Lib.hid ho5
    clear hb5 hd5 ho5
    generalize ((((((W4.setCell ⟨bx, 0, none⟩ (.int .i64 a)).setCell ⟨bx, 1, none⟩ (.int .i64 b)).setCell ⟨bx, 2, none⟩ (.int .i64 c)).setCell ⟨bx, 3, none⟩ (.int .i64 d)).setCell ⟨bx, 4, none⟩ (.int .i64 e)).setCell ⟨bx, 5, none⟩ (.int .i64 f)) = W5 at *
    obtain ⟨⟨u0, r0⟩, ⟨u1, r1⟩, ⟨u2, r2⟩, ⟨u3, r3⟩, ⟨u4, r4⟩, ⟨u5, r5⟩, rz⟩ := HY5.out
    have z0 := rz 0
    have z1 := rz 1
    have z2 := rz 2
    have z3 := rz 3
    have z4 := rz 4
    have z5 := rz 5
    have zr := cell_lt r0
    clear rz
    refine wpAnyH_ready (rs := [29]) (by kernel_rfl) (by simp) ?_
    refine AllReadyH.cons rfl (fun K hK => ?_) AllReadyH.nil
    go_simp
    have hb5 := set6_below HB5.out (show W1.heap.size ≤ bY by omega) x y z s t u
    have hd5 := set6_box HY5.out x y z s t u
    have ho5 := set6_dbox HX5.out (show bx ≠ bY by omega) x y z s t u
    refine hK.out _ _ (HK.out _ hb5) (fun hHeld => ?_)
    clear hK K hHeld r0 r1 r2 r3 r4 r5 z0 z1 z2 z3 z4 z5 zr
    change Below _ _ ((((((W5.setCell ⟨bY, 0, none⟩ (.int .i64 x)).setCell ⟨bY, 1, none⟩ (.int .i64 y)).setCell ⟨bY, 2, none⟩ (.int .i64 z)).setCell ⟨bY, 3, none⟩ (.int .i64 s)).setCell ⟨bY, 4, none⟩ (.int .i64 t)).setCell ⟨bY, 5, none⟩ (.int .i64 u)) at hb5
    change DBox ((((((W5.setCell ⟨bY, 0, none⟩ (.int .i64 x)).setCell ⟨bY, 1, none⟩ (.int .i64 y)).setCell ⟨bY, 2, none⟩ (.int .i64 z)).setCell ⟨bY, 3, none⟩ (.int .i64 s)).setCell ⟨bY, 4, none⟩ (.int .i64 t)).setCell ⟨bY, 5, none⟩ (.int .i64 u)) _ _ _ _ _ _ _ at hd5
    change DBox ((((((W5.setCell ⟨bY, 0, none⟩ (.int .i64 x)).setCell ⟨bY, 1, none⟩ (.int .i64 y)).setCell ⟨bY, 2, none⟩ (.int .i64 z)).setCell ⟨bY, 3, none⟩ (.int .i64 s)).setCell ⟨bY, 4, none⟩ (.int .i64 t)).setCell ⟨bY, 5, none⟩ (.int .i64 u)) _ _ _ _ _ _ _ at ho5
    have HB6 := Lib.hid hb5
    have HY6 := Lib.hid hd5
    have HX6 := Lib.hid ho5
    clear hb5 hd5 ho5
    generalize ((((((W5.setCell ⟨bY, 0, none⟩ (.int .i64 x)).setCell ⟨bY, 1, none⟩ (.int .i64 y)).setCell ⟨bY, 2, none⟩ (.int .i64 z)).setCell ⟨bY, 3, none⟩ (.int .i64 s)).setCell ⟨bY, 4, none⟩ (.int .i64 t)).setCell ⟨bY, 5, none⟩ (.int .i64 u)) = W6 at *
    refine wpAnyH_done (by kernel_rfl) ?_ _
    go_upto_region 2 with fail
    have HCP := Lib.hid (fun nq => compare_any (six a b c d e f) (six x y z s t u) 6 bx 0 bY 0 6 6 (W6.drewN nq) ((box_fn HX6.out).below (below_drewN (Below.refl _ _) _)) ((box_fn HY6.out).below (below_drewN (Below.refl _ _) _)) (by decide) (by decide))
    rw [HLL.out] at HCP
    go_quiet ((go_at_call 44; exact Calls.quiet_of_same (qs (HCP.out _))))
    go_wp2
    go_ret
    exact ⟨rfl, below_drewN (bt A0.out HB6.out) _⟩
  · go_simp
    have HA1 := Lib.hid (Res6.zero W2 90)
    have HB2 := Lib.hid (below_alloc (Below.refl W2.heap.size W2) (.cells #[.int .i64 0, .int .i64 0, .int .i64 0, .int .i64 0, .int .i64 0, .int .i64 0] 90))
    have HZ2 : Hid ((W2.alloc (.cells #[.int .i64 0, .int .i64 0, .int .i64 0, .int .i64 0, .int .i64 0, .int .i64 0] 90)).heap.size = W2.heap.size + 1) := Lib.hid (by simp)
    refine hK.out _ _ (HK.out _ (bt HB1.out HB2.out)) (fun hHeld => ?_)
    clear hK K hHeld
    generalize W2.alloc (.cells #[.int .i64 0, .int .i64 0, .int .i64 0, .int .i64 0, .int .i64 0, .int .i64 0] 90) = W3 at *
    refine wpAnyH_ready (rs := [26]) (by kernel_rfl) (by simp) ?_
    refine AllReadyH.cons rfl (fun K hK => ?_) AllReadyH.nil
    go_simp
    have HA2 := Lib.hid (Res6.zero W3 90)
    have HB3 := Lib.hid (below_alloc (Below.refl W3.heap.size W3) (.cells #[.int .i64 0, .int .i64 0, .int .i64 0, .int .i64 0, .int .i64 0, .int .i64 0] 90))
    have HA1 := Lib.hid (HA1.out.below HB3.out)
    have HB4 := Lib.hid (bt (bt HB1.out HB2.out) HB3.out)
    refine hK.out _ _ (HK.out _ HB4.out) (fun hHeld => ?_)
    clear hK K hHeld HB3
    generalize W3.alloc (.cells #[.int .i64 0, .int .i64 0, .int .i64 0, .int .i64 0, .int .i64 0, .int .i64 0] 90) = W4 at *
    have hne : W2.heap.size ≠ W3.heap.size := by have := HZ2.out; omega
    have hge : W1.heap.size ≤ W2.heap.size ∧ W1.heap.size ≤ W3.heap.size := by have := HZ2.out; have := HZ1.out; omega
    have HX4 := HA2
    have HY4 := HA1
    clear HA1 HA2
    obtain ⟨bx, hbx⟩ : ∃ q, W3.heap.size = q := ⟨_, rfl⟩
    obtain ⟨bY, hbY⟩ : ∃ q, W2.heap.size = q := ⟨_, rfl⟩
    rw [hbx, hbY] at hne hge
    rw [hbx] at HX4 ⊢
    rw [hbY] at HY4 ⊢
    clear hbx hbY
    obtain ⟨⟨u0, r0⟩, ⟨u1, r1⟩, ⟨u2, r2⟩, ⟨u3, r3⟩, ⟨u4, r4⟩, ⟨u5, r5⟩, rz⟩ := HX4.out
    have z0 := rz 0
    have z1 := rz 1
    have z2 := rz 2
    have z3 := rz 3
    have z4 := rz 4
    have z5 := rz 5
    have zr := cell_lt r0
    clear rz
    refine wpAnyH_ready (rs := [28]) (by kernel_rfl) (by simp) ?_
    refine AllReadyH.cons rfl (fun K hK => ?_) AllReadyH.nil
    go_simp
    have hb5 := set6_below HB4.out (show W1.heap.size ≤ bx by omega) a b c d e f
    have hd5 := set6_box HX4.out a b c d e f
    have ho5 := set6_res HY4.out (show bY ≠ bx by omega) a b c d e f
    refine hK.out _ _ (HK.out _ hb5) (fun hHeld => ?_)
    clear hK K hHeld r0 r1 r2 r3 r4 r5 z0 z1 z2 z3 z4 z5 zr
    change Below _ _ ((((((W4.setCell ⟨bx, 0, none⟩ (.int .i64 a)).setCell ⟨bx, 1, none⟩ (.int .i64 b)).setCell ⟨bx, 2, none⟩ (.int .i64 c)).setCell ⟨bx, 3, none⟩ (.int .i64 d)).setCell ⟨bx, 4, none⟩ (.int .i64 e)).setCell ⟨bx, 5, none⟩ (.int .i64 f)) at hb5
    change DBox ((((((W4.setCell ⟨bx, 0, none⟩ (.int .i64 a)).setCell ⟨bx, 1, none⟩ (.int .i64 b)).setCell ⟨bx, 2, none⟩ (.int .i64 c)).setCell ⟨bx, 3, none⟩ (.int .i64 d)).setCell ⟨bx, 4, none⟩ (.int .i64 e)).setCell ⟨bx, 5, none⟩ (.int .i64 f)) _ _ _ _ _ _ _ at hd5
    change Res6 ((((((W4.setCell ⟨bx, 0, none⟩ (.int .i64 a)).setCell ⟨bx, 1, none⟩ (.int .i64 b)).setCell ⟨bx, 2, none⟩ (.int .i64 c)).setCell ⟨bx, 3, none⟩ (.int .i64 d)).setCell ⟨bx, 4, none⟩ (.int .i64 e)).setCell ⟨bx, 5, none⟩ (.int .i64 f)) _ at ho5
    have HB5 := Lib.hid hb5
    have HX5 := Lib.hid hd5
    have HY5 := Lib.hid ho5
    clear hb5 hd5 ho5
    generalize ((((((W4.setCell ⟨bx, 0, none⟩ (.int .i64 a)).setCell ⟨bx, 1, none⟩ (.int .i64 b)).setCell ⟨bx, 2, none⟩ (.int .i64 c)).setCell ⟨bx, 3, none⟩ (.int .i64 d)).setCell ⟨bx, 4, none⟩ (.int .i64 e)).setCell ⟨bx, 5, none⟩ (.int .i64 f)) = W5 at *
    obtain ⟨⟨u0, r0⟩, ⟨u1, r1⟩, ⟨u2, r2⟩, ⟨u3, r3⟩, ⟨u4, r4⟩, ⟨u5, r5⟩, rz⟩ := HY5.out
    have z0 := rz 0
    have z1 := rz 1
    have z2 := rz 2
    have z3 := rz 3
    have z4 := rz 4
    have z5 := rz 5
    have zr := cell_lt r0
    clear rz
    refine wpAnyH_ready (rs := [29]) (by kernel_rfl) (by simp) ?_
    refine AllReadyH.cons rfl (fun K hK => ?_) AllReadyH.nil
    go_simp
    have hb5 := set6_below HB5.out (show W1.heap.size ≤ bY by omega) x y z s t u
    have hd5 := set6_box HY5.out x y z s t u
    have ho5 := set6_dbox HX5.out (show bx ≠ bY by omega) x y z s t u
    refine hK.out _ _ (HK.out _ hb5) (fun hHeld => ?_)
    clear hK K hHeld r0 r1 r2 r3 r4 r5 z0 z1 z2 z3 z4 z5 zr
    change Below _ _ ((((((W5.setCell ⟨bY, 0, none⟩ (.int .i64 x)).setCell ⟨bY, 1, none⟩ (.int .i64 y)).setCell ⟨bY, 2, none⟩ (.int .i64 z)).setCell ⟨bY, 3, none⟩ (.int .i64 s)).setCell ⟨bY, 4, none⟩ (.int .i64 t)).setCell ⟨bY, 5, none⟩ (.int .i64 u)) at hb5
    change DBox ((((((W5.setCell ⟨bY, 0, none⟩ (.int .i64 x)).setCell ⟨bY, 1, none⟩ (.int .i64 y)).setCell ⟨bY, 2, none⟩ (.int .i64 z)).setCell ⟨bY, 3, none⟩ (.int .i64 s)).setCell ⟨bY, 4, none⟩ (.int .i64 t)).setCell ⟨bY, 5, none⟩ (.int .i64 u)) _ _ _ _ _ _ _ at hd5
    change DBox ((((((W5.setCell ⟨bY, 0, none⟩ (.int .i64 x)).setCell ⟨bY, 1, none⟩ (.int .i64 y)).setCell ⟨bY, 2, none⟩ (.int .i64 z)).setCell ⟨bY, 3, none⟩ (.int .i64 s)).setCell ⟨bY, 4, none⟩ (.int .i64 t)).setCell ⟨bY, 5, none⟩ (.int .i64 u)) _ _ _ _ _ _ _ at ho5
    have HB6 := Lib.hid hb5
    have HY6 := Lib.hid hd5
    have HX6 := Lib.hid ho5
    clear hb5 hd5 ho5
    generalize ((((((W5.setCell ⟨bY, 0, none⟩ (.int .i64 x)).setCell ⟨bY, 1, none⟩ (.int .i64 y)).setCell ⟨bY, 2, none⟩ (.int .i64 z)).setCell ⟨bY, 3, none⟩ (.int .i64 s)).setCell ⟨bY, 4, none⟩ (.int .i64 t)).setCell ⟨bY, 5, none⟩ (.int .i64 u)) = W6 at *
    refine wpAnyH_done (by kernel_rfl) ?_ _
    go_upto_region 2 with fail
    have HCP := Lib.hid (fun nq => compare_any (six a b c d e f) (six x y z s t u) 6 bx 0 bY 0 6 6 (W6.drewN nq) ((box_fn HX6.out).below (below_drewN (Below.refl _ _) _)) ((box_fn HY6.out).below (below_drewN (Below.refl _ _) _)) (by decide) (by decide))
    rw [HLL.out] at HCP
    go_quiet ((go_at_call 44; exact Calls.quiet_of_same (qs (HCP.out _))))
    go_wp2
    go_ret
    exact ⟨rfl, below_drewN (bt A0.out HB6.out) _⟩
end Go.Proofs.YtnbccbjhnlggaaaDoor.Cal
