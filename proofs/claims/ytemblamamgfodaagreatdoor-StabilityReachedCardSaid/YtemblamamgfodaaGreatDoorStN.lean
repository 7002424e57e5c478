/- Contracts of layer 3: what a variance's call is walked with. -/
import Derived.Test.YtemblamamgfodaaGreatDoorStG
namespace Go.Proofs.YtemblamamgfodaaGreatDoor
open Go Go.RowKit Go.Shelf
attribute [local go_sem] Oper.semAt_some
def sqSum (xs : List SInt) : Int := (xs.map fun d => d.1 * d.1).sum
structure VarE where
  n : Int
  d : Int
  e : Int
def varE (xs : List SInt) (dv : Int) : VarE := if xs = [] then ⟨0, 0, 4⟩ else ⟨lowN (sqSum xs) (xs.length * dv), lowD (sqSum xs) (xs.length * dv), 0⟩
def varVal (v : VarE) : Value := .tuple #[.agg #[.int .i64 v.n, .int .i64 v.d], .int .i64 v.e]
def divTwo (m tau : Int) : Int := 2 * m * m * tau * tau
/-- the blocks of a variance's call, from block B on -/
structure OfBox (W : World) (B : Nat) (fn fd : Value) (tau : Int) (sv : Value) : Prop where
  f0 : W.cell? ⟨B, 0, none⟩ = some fn
  f1 : W.cell? ⟨B, 1, none⟩ = some fd
  s0 : W.cell? ⟨B + 1, 0, none⟩ = some (.int .i64 tau)
  s1 : W.cell? ⟨B + 1, 1, none⟩ = some sv
  r0 : W.cell? ⟨B + 2, 0, none⟩ = some (.int .i64 0)
  r1 : W.cell? ⟨B + 2, 1, none⟩ = some (.int .i64 0)
  q0 : W.frozen? ⟨B + 2, 0, none⟩ = false
  q1 : W.frozen? ⟨B + 2, 1, none⟩ = false
theorem OfBox.start (w : World) (fn fd : Value) (tau : Int) (sv : Value) : OfBox (((w.alloc (.cells #[fn, fd] 131)).alloc (.cells #[.int .i64 tau, sv] 56)).alloc (.cells #[.int .i64 0, .int .i64 0] 58)) w.heap.size fn fd tau sv := by
  exact ⟨by simp [go_sem], by simp [go_sem], by simp [go_sem], by simp [go_sem], by simp [go_sem], by simp [go_sem], by simp [go_sem], by simp [go_sem]⟩
theorem OfBox.below {A C : World} {B : Nat} {fn fd : Value} {tau : Int} {sv : Value} (h : OfBox A B fn fd tau sv) (hb : Below A.heap.size A C) : OfBox C B fn fd tau sv :=
  ⟨cell_below hb h.f0, cell_below hb h.f1, cell_below hb h.s0, cell_below hb h.s1, cell_below hb h.r0, cell_below hb h.r1,
   (hb.frozen (p := ⟨B + 2, 0, none⟩) (cell_lt h.r0)).trans h.q0, (hb.frozen (p := ⟨B + 2, 1, none⟩) (cell_lt h.r1)).trans h.q1⟩
theorem OfBox.kept {W W' : World} {row : Option Nat} {B : Nat} {fn fd : Value} {tau : Int} {sv : Value} (h : OfBox W B fn fd tau sv) (hg : W.grownBy W' row) (hr : ∀ r, row = some r → ∃ o : Obj, W.heap[r]? = some o ∧ o.isCells = false) : OfBox W' B fn fd tau sv :=
  ⟨cell_kept h.f0 hg hr, cell_kept h.f1 hg hr, cell_kept h.s0 hg hr, cell_kept h.s1 hg hr, cell_kept h.r0 hg hr, cell_kept h.r1 hg hr, (frozen_kept h.r0 hg hr).trans h.q0, (frozen_kept h.r1 hg hr).trans h.q1⟩
theorem OfBox.set {W : World} {B b : Nat} {fn fd : Value} {tau : Int} {sv : Value} (h : OfBox W B fn fd tau sv) (hb : B + 2 < b) (v : Value) : OfBox (W.setCell ⟨b, 0, none⟩ v) B fn fd tau sv := by
  obtain ⟨a0, a1, a2, a3, a4, a5, a6, a7⟩ := h
  refine ⟨?_, ?_, ?_, ?_, ?_, ?_, ?_, ?_⟩
  · rw [World.cell?_setCell_far _ _ _ _ (by show b ≠ B; omega)]; exact a0
  · rw [World.cell?_setCell_far _ _ _ _ (by show b ≠ B; omega)]; exact a1
  · rw [World.cell?_setCell_far _ _ _ _ (by show b ≠ B + 1; omega)]; exact a2
  · rw [World.cell?_setCell_far _ _ _ _ (by show b ≠ B + 1; omega)]; exact a3
  · rw [World.cell?_setCell_far _ _ _ _ (by show b ≠ B + 2; omega)]; exact a4
  · rw [World.cell?_setCell_far _ _ _ _ (by show b ≠ B + 2; omega)]; exact a5
  · rw [World.frozen?_setCell]; exact a6
  · rw [World.frozen?_setCell]; exact a7
/-- .. with the boxes of the sum and of the count at S and S + 1 -/
structure OfAt (w : World) (S : Nat) (fn fd : Value) (tau : Int) (sv : Value) (sum cnt : Int) (W : World) : Prop where
  box : OfBox W w.heap.size fn fd tau sv
  s0 : W.cell? ⟨S, 0, none⟩ = some (.int .i64 sum)
  s1 : W.frozen? ⟨S, 0, none⟩ = false
  c0 : W.cell? ⟨S + 1, 0, none⟩ = some (.int .i64 cnt)
  c1 : W.frozen? ⟨S + 1, 0, none⟩ = false
  below : Below w.heap.size w W
theorem OfAt.own {w : World} {S B : Nat} {fn fd : Value} {tau : Int} {sv : Value} (hB : w.heap.size ≤ B) :
    OwnFrom B (fun (pre : List SInt) W => OfAt w S fn fd tau sv (sqSum pre) pre.length W) := fun _ _ _ _ h hg hr =>
  ⟨h.box.kept hg (fun r e => (hr r e).2), cell_kept h.s0 hg (fun r e => (hr r e).2), (frozen_kept h.s0 hg (fun r e => (hr r e).2)).trans h.s1, cell_kept h.c0 hg (fun r e => (hr r e).2), (frozen_kept h.c0 hg (fun r e => (hr r e).2)).trans h.c1,
    h.below.grown hg h.below.size (fun k e => Nat.le_trans hB (hr k e).1)⟩
theorem OfAt.step {w : World} {S : Nat} {fn fd : Value} {tau : Int} {sv : Value} {sum cnt : Int} {W : World} (h : OfAt w S fn fd tau sv sum cnt W) (hS : w.heap.size + 2 < S) (a b : Int) :
    OfAt w S fn fd tau sv a b ((W.setCell ⟨S, 0, none⟩ (.int .i64 a)).setCell ⟨S + 1, 0, none⟩ (.int .i64 b)) := by
  refine ⟨(h.box.set hS _).set (by omega) _, ?_, ?_, ?_, ?_, ?_⟩
  · rw [World.cell?_setCell_far _ _ _ _ (by show S + 1 ≠ S; omega)]; exact World.cell?_setCell_same _ _ _ (u := .int .i64 sum) h.s0
  · rw [World.frozen?_setCell, World.frozen?_setCell]; exact h.s1
  · exact World.cell?_setCell_same _ _ _ (u := .int .i64 cnt) (by rw [World.cell?_setCell_far _ _ _ _ (by show S ≠ S + 1; omega)]; exact h.c0)
  · rw [World.frozen?_setCell, World.frozen?_setCell]; exact h.c1
  · exact (h.below.setCell (p := ⟨S, 0, none⟩) (by show w.heap.size ≤ S; omega) _).setCell (p := ⟨S + 1, 0, none⟩) (by show w.heap.size ≤ S + 1; omega) _
theorem mul_bd2 {x y a b : Int} (hx : 0 ≤ x ∧ x ≤ a) (hy : 0 ≤ y ∧ y ≤ b) : 0 ≤ x * y ∧ x * y ≤ a * b :=
  ⟨Int.mul_nonneg hx.1 hy.1, Int.mul_le_mul hx.2 hy.2 hy.1 (by omega)⟩
theorem sq_bd (d : SInt) : 0 ≤ d.1 * d.1 ∧ d.1 * d.1 ≤ 40000000000000000 := by
  obtain ⟨x, h1, h2⟩ := d
  by_cases h : 0 ≤ x
  · exact mul_bd2 ⟨h, h2⟩ ⟨h, h2⟩
  · have := mul_bd2 (x := -x) (y := -x) (a := 200000000) (b := 200000000) (by omega) (by omega)
    rw [Int.neg_mul_neg] at this
    exact this
theorem sqSum_snoc (pre : List SInt) (d : SInt) : sqSum (pre ++ [d]) = sqSum pre + d.1 * d.1 := by simp [sqSum]
theorem sqSum_bd : ∀ xs : List SInt, 0 ≤ sqSum xs ∧ sqSum xs ≤ xs.length * 40000000000000000
  | [] => by simp [sqSum]
  | d :: xs => by
    have h := sqSum_bd xs
    have h2 := sq_bd d
    have e : sqSum (d :: xs) = d.1 * d.1 + sqSum xs := by simp [sqSum]
    rw [e]
    simp only [List.length_cons]
    omega
theorem set2 {w : World} {b : Nat} {x y : Value} (u v : Value) (h0 : w.cell? ⟨b, 0, none⟩ = some x) (h1 : w.cell? ⟨b, 1, none⟩ = some y) :
    ((w.setCell ⟨b, 0, none⟩ u).setCell ⟨b, 1, none⟩ v).cell? ⟨b, 0, none⟩ = some u ∧ ((w.setCell ⟨b, 0, none⟩ u).setCell ⟨b, 1, none⟩ v).cell? ⟨b, 1, none⟩ = some v := by
  refine ⟨?_, two_c1 u v h1⟩
  rw [World.cell?_setCell_other]
  · exact two_c0 u h0
  · simp
theorem divTwo_bd (m tau : Int) (hm : 1 ≤ m ∧ m ≤ 32) (ht : 1 ≤ tau ∧ tau ≤ 1000) : (0 ≤ 2 * m * m ∧ 2 * m * m ≤ 2048) ∧ (0 ≤ 2 * m * m * tau ∧ 2 * m * m * tau ≤ 2048000) ∧ (1 ≤ divTwo m tau ∧ divTwo m tau ≤ 2048000000) := by
  have h1 := mul_bd2 (x := 2 * m) (y := m) (a := 64) (b := 32) (by omega) (by omega)
  have h2 := mul_bd2 (x := 2 * m * m) (y := tau) (a := 2048) (b := 1000) (by omega) (by omega)
  have h3 := mul_bd2 (x := 2 * m * m * tau) (y := tau) (a := 2048000) (b := 1000) (by omega) (by omega)
  have h4 : 0 < 2 * m * m * tau * tau := Int.mul_pos (Int.mul_pos (Int.mul_pos (by omega) (by omega)) (by omega)) (by omega)
  unfold divTwo
  omega
theorem divTwo_last (m tau : Int) (hm : 1 ≤ m ∧ m ≤ 32) (ht : 1 ≤ tau ∧ tau ≤ 1000) : 1 ≤ divTwo m tau ∧ divTwo m tau ≤ 2048000000 := (divTwo_bd m tau hm ht).2.2
theorem divTwo_any (m tau : Int) (w : World) (hm : 1 ≤ m ∧ m ≤ 32) (ht : 1 ≤ tau ∧ tau ≤ 1000) :
    Calls Tryz.prog 94 #[.int .i64 m, .int .i64 tau] w fun e w' => e = .returned (.int .i64 (divTwo m tau)) ∧ w = w' := by
  obtain ⟨h1, h2, h3⟩ := divTwo_bd m tau hm ht
  unfold divTwo at *
  have w1 : IntKind.i64.wrap (2 * m) = 2 * m := IntWalk.i64_in _ (by omega)
  have w2 : IntKind.i64.wrap (2 * m * m) = 2 * m * m := IntWalk.i64_in _ (by omega)
  have w3 : IntKind.i64.wrap (2 * m * m * tau) = 2 * m * m * tau := IntWalk.i64_in _ (by omega)
  have w4 : IntKind.i64.wrap (2 * m * m * tau * tau) = 2 * m * m * tau * tau := IntWalk.i64_in _ (by omega)
  go_enter Tryz.func94, Tryz.ntmps94
  go_wp2
  go_ret
  exact ⟨rfl, rfl⟩
def divSix (m tau : Int) : Int := 6 * m * m * tau * tau
theorem divSix_bd (m tau : Int) (hm : 1 ≤ m ∧ m ≤ 32) (ht : 1 ≤ tau ∧ tau ≤ 1000) : (0 ≤ 6 * m * m ∧ 6 * m * m ≤ 6144) ∧ (0 ≤ 6 * m * m * tau ∧ 6 * m * m * tau ≤ 6144000) ∧ (1 ≤ divSix m tau ∧ divSix m tau ≤ 6144000000) := by
  have h1 := mul_bd2 (x := 6 * m) (y := m) (a := 192) (b := 32) (by omega) (by omega)
  have h2 := mul_bd2 (x := 6 * m * m) (y := tau) (a := 6144) (b := 1000) (by omega) (by omega)
  have h3 := mul_bd2 (x := 6 * m * m * tau) (y := tau) (a := 6144000) (b := 1000) (by omega) (by omega)
  have h4 : 0 < 6 * m * m * tau * tau := Int.mul_pos (Int.mul_pos (Int.mul_pos (by omega) (by omega)) (by omega)) (by omega)
  unfold divSix
  omega
theorem divSix_last (m tau : Int) (hm : 1 ≤ m ∧ m ≤ 32) (ht : 1 ≤ tau ∧ tau ≤ 1000) : 1 ≤ divSix m tau ∧ divSix m tau ≤ 6144000000 := (divSix_bd m tau hm ht).2.2
theorem divSix_any (m tau : Int) (w : World) (hm : 1 ≤ m ∧ m ≤ 32) (ht : 1 ≤ tau ∧ tau ≤ 1000) :
    Calls Tryz.prog 101 #[.int .i64 m, .int .i64 tau] w fun e w' => e = .returned (.int .i64 (divSix m tau)) ∧ w = w' := by
  obtain ⟨h1, h2, h3⟩ := divSix_bd m tau hm ht
  unfold divSix at *
  have w1 : IntKind.i64.wrap (6 * m) = 6 * m := IntWalk.i64_in _ (by omega)
  have w2 : IntKind.i64.wrap (6 * m * m) = 6 * m * m := IntWalk.i64_in _ (by omega)
  have w3 : IntKind.i64.wrap (6 * m * m * tau) = 6 * m * m * tau := IntWalk.i64_in _ (by omega)
  have w4 : IntKind.i64.wrap (6 * m * m * tau * tau) = 6 * m * m * tau * tau := IntWalk.i64_in _ (by omega)
  go_enter Tryz.func101, Tryz.ntmps101
  go_wp2
  go_ret
  exact ⟨rfl, rfl⟩
def divTime (m _tau : Int) : Int := 6 * m * m
theorem divTime_last (m tau : Int) (hm : 1 ≤ m ∧ m ≤ 32) (_ht : 1 ≤ tau ∧ tau ≤ 1000) : 1 ≤ divTime m tau ∧ divTime m tau ≤ 6144 := by
  have h1 := mul_bd2 (x := 6 * m) (y := m) (a := 192) (b := 32) (by omega) (by omega)
  have h4 : 0 < 6 * m * m := Int.mul_pos (by omega) (by omega)
  unfold divTime
  omega
theorem divTime_any (m tau : Int) (w : World) (hm : 1 ≤ m ∧ m ≤ 32) (ht : 1 ≤ tau ∧ tau ≤ 1000) :
    Calls Tryz.prog 102 #[.int .i64 m, .int .i64 tau] w fun e w' => e = .returned (.int .i64 (divTime m tau)) ∧ w = w' := by
  have h1 := divTime_last m tau hm ht
  unfold divTime at *
  have w1 : IntKind.i64.wrap (6 * m) = 6 * m := IntWalk.i64_in _ (by omega)
  have w2 : IntKind.i64.wrap (6 * m * m) = 6 * m * m := IntWalk.i64_in _ (by omega)
  go_enter Tryz.func102, Tryz.ntmps102
  go_wp2
  go_ret
  exact ⟨rfl, rfl⟩
def divMod (m tau : Int) : Int := 2 * m * m * m * m * tau * tau
theorem divMod_bd (m tau : Int) (hm : 1 ≤ m ∧ m ≤ 32) (ht : 1 ≤ tau ∧ tau ≤ 1000) : (0 ≤ 2 * m * m ∧ 2 * m * m ≤ 2048) ∧ (0 ≤ 2 * m * m * m ∧ 2 * m * m * m ≤ 65536) ∧ (0 ≤ 2 * m * m * m * m ∧ 2 * m * m * m * m ≤ 2097152) ∧ (0 ≤ 2 * m * m * m * m * tau ∧ 2 * m * m * m * m * tau ≤ 2097152000) ∧ (1 ≤ divMod m tau ∧ divMod m tau ≤ 2097152000000) := by
  have h1 := mul_bd2 (x := 2 * m) (y := m) (a := 64) (b := 32) (by omega) (by omega)
  have h2 := mul_bd2 (x := 2 * m * m) (y := m) (a := 2048) (b := 32) (by omega) (by omega)
  have h3 := mul_bd2 (x := 2 * m * m * m) (y := m) (a := 65536) (b := 32) (by omega) (by omega)
  have h5 := mul_bd2 (x := 2 * m * m * m * m) (y := tau) (a := 2097152) (b := 1000) (by omega) (by omega)
  have h6 := mul_bd2 (x := 2 * m * m * m * m * tau) (y := tau) (a := 2097152000) (b := 1000) (by omega) (by omega)
  have h4 : 0 < 2 * m * m * m * m * tau * tau := Int.mul_pos (Int.mul_pos (Int.mul_pos (Int.mul_pos (Int.mul_pos (by omega) (by omega)) (by omega)) (by omega)) (by omega)) (by omega)
  unfold divMod
  omega
theorem divMod_last (m tau : Int) (hm : 1 ≤ m ∧ m ≤ 32) (ht : 1 ≤ tau ∧ tau ≤ 1000) : 1 ≤ divMod m tau ∧ divMod m tau ≤ 2097152000000 := (divMod_bd m tau hm ht).2.2.2.2
theorem divMod_any (m tau : Int) (w : World) (hm : 1 ≤ m ∧ m ≤ 32) (ht : 1 ≤ tau ∧ tau ≤ 1000) :
    Calls Tryz.prog 99 #[.int .i64 m, .int .i64 tau] w fun e w' => e = .returned (.int .i64 (divMod m tau)) ∧ w = w' := by
  obtain ⟨h1, h2, h3, h4, h5⟩ := divMod_bd m tau hm ht
  unfold divMod at *
  have w1 : IntKind.i64.wrap (2 * m) = 2 * m := IntWalk.i64_in _ (by omega)
  have w2 : IntKind.i64.wrap (2 * m * m) = 2 * m * m := IntWalk.i64_in _ (by omega)
  have w3 : IntKind.i64.wrap (2 * m * m * m) = 2 * m * m * m := IntWalk.i64_in _ (by omega)
  have w4 : IntKind.i64.wrap (2 * m * m * m * m) = 2 * m * m * m * m := IntWalk.i64_in _ (by omega)
  have w5 : IntKind.i64.wrap (2 * m * m * m * m * tau) = 2 * m * m * m * m * tau := IntWalk.i64_in _ (by omega)
  have w6 : IntKind.i64.wrap (2 * m * m * m * m * tau * tau) = 2 * m * m * m * m * tau * tau := IntWalk.i64_in _ (by omega)
  go_enter Tryz.func99, Tryz.ntmps99
  go_wp2
  go_ret
  exact ⟨rfl, rfl⟩
theorem quiet_in {f : FuncId} {args : Array Value} {w : World} {k n : Nat} {v : Value} (h : Calls Tryz.prog f args (w.drewN k) fun e w' => e = .returned v ∧ w.drewN k = w') : CallsIn Fence.wide n Tryz.prog f args (w.drewN k) fun e w'' => e = .returned v ∧ ∃ m, w'' = w.drewN m :=
  callsIn_wide.2 (h.mono fun _ _ ⟨he, hm⟩ => ⟨he, k, hm.symm⟩)
theorem OfAt.later {w : World} {S : Nat} {fn fd : Value} {tau : Int} {sv : Value} {sum cnt : Int} {W C : World} (h : OfAt w S fn fd tau sv sum cnt W) (hb : Below W.heap.size W C) : OfAt w S fn fd tau sv sum cnt C :=
  ⟨h.box.below hb, cell_below hb h.s0, (hb.frozen (p := ⟨S, 0, none⟩) (cell_lt h.s0)).trans h.s1, cell_below hb h.c0, (hb.frozen (p := ⟨S + 1, 0, none⟩) (cell_lt h.c0)).trans h.c1, h.below.trans (hb.mono h.below.size)⟩
theorem OfBox.drewN {W : World} {B : Nat} {fn fd : Value} {tau : Int} {sv : Value} (h : OfBox W B fn fd tau sv) (n : Nat) : OfBox (W.drewN n) B fn fd tau sv := ⟨h.f0, h.f1, h.s0, h.s1, h.r0, h.r1, h.q0, h.q1⟩
theorem OfAt.drewN {w : World} {S : Nat} {fn fd : Value} {tau : Int} {sv : Value} {sum cnt : Int} {W : World} (h : OfAt w S fn fd tau sv sum cnt W) (n : Nat) : OfAt w S fn fd tau sv sum cnt (W.drewN n) :=
  ⟨h.box.drewN n, h.s0, h.s1, h.c0, h.c1, h.below.trans ⟨rfl, rfl, rfl, Nat.le_refl _, fun _ _ => rfl⟩⟩
end Go.Proofs.YtemblamamgfodaaGreatDoor
