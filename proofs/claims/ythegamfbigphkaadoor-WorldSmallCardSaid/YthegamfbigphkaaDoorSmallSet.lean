/- Contract: the law's set, which turns one number of a world of two clocks. -/
import Derived.Test.YthegamfbigphkaaDoorOwn
import Derived.Test.YthegamfbigphkaaDoorTrack
namespace Go.Proofs.YthegamfbigphkaaDoor
open Go Go.RowKit
/-- events of the reference, in a row of the law's own -/
theorem evtsR_own {w : World} {b : Nat} {v : Value} {l : List Evt} (hm : l.length ≤ maxLen) (h : w.ownsRow b 75 3 v l.length (evRow l)) : EvSlice w l v := by
  rcases h.2 with ⟨rfl, h0⟩ | ⟨g, cap, cur, rfl, _⟩
  · exact ⟨none, 0, by rw [h0], hm, .inl h0⟩
  · refine ⟨_, cap, rfl, hm, .inr ⟨g, 0, rfl, fun i hi => ⟨?_, ?_, ?_⟩⟩⟩
    · exact own_cells h (i * 3 + 0) _ (row_get evCells 3 (fun _ => rfl) l i 0 hi (by decide))
    · rw [Nat.add_assoc]; exact own_cells h (i * 3 + 1) _ (row_get evCells 3 (fun _ => rfl) l i 1 hi (by decide))
    · rw [Nat.add_assoc]; exact own_cells h (i * 3 + 2) _ (row_get evCells 3 (fun _ => rfl) l i 2 hi (by decide))
def duoCells (c0 c1 : Clk) (v : Value) : Array Value :=
  #[.int .i64 c0.kind, .int .i64 c0.phase, .int .i64 c0.rate, .int .i64 c0.drift, .int .i64 c0.white, .int .i64 c0.walk, .int .i64 c0.heat, .int .i64 c0.room, .slice none 0 0,
    .int .i64 c1.kind, .int .i64 c1.phase, .int .i64 c1.rate, .int .i64 c1.drift, .int .i64 c1.white, .int .i64 c1.walk, .int .i64 c1.heat, .int .i64 c1.room, v]
/-- a world of one chamber and two clocks, in blocks of its own -/
structure Duo (X : World) (n : Nat) (ch : Cham) (c0 c1 : Clk) (v : Value) : Prop where
  a : X.heap[n]? = some (.cells #[.int .i64 ch.base, .int .i64 ch.swing, .int .i64 ch.period] 70 (0, 0))
  c : X.heap[n + 2]? = some (.cells (duoCells c0 c1 v) 73 (0, 0))
  d : X.heap[n + 3]? = some (.cells #[.int .u64 0, .slice (some ⟨n, 0, none⟩) 1 1, .slice (some ⟨n + 2, 0, none⟩) 2 2] 26 (0, 0))
  e : X.ownsRow n 75 3 v c1.evs.length (evRow c1.evs)
  e0 : c0.evs = []
def duoW (ch : Cham) (c0 c1 : Clk) : Wld := ⟨0, [ch], [c0, c1]⟩
theorem Duo.wld {X : World} {n : Nat} {ch : Cham} {c0 c1 : Clk} {v : Value} (h : Duo X n ch c0 c1 v) (hm : c1.evs.length ≤ 40) : WldIn X (duoW ch c0 c1) (some ⟨n, 0, none⟩) (some ⟨n + 2, 0, none⟩) := by
  have he1 := evtsR_own (by unfold maxLen; omega) h.e
  have he0 : EvSlice X c0.evs (.slice none 0 0) := ⟨none, 0, by rw [h.e0]; rfl, by rw [h.e0]; simp [maxLen], .inl (by rw [h.e0]; rfl)⟩
  have cc := fun (i : Nat) (u : Value) (hu : (duoCells c0 c1 v)[i]? = some u) => blk_cell h.c i u hu
  refine ⟨by simp [duoW, maxLen], by simp [duoW, maxLen], .inr ⟨n, 0, rfl, fun i hi => ?_⟩, .inr ⟨n + 2, 0, rfl, fun i hi => ?_⟩⟩
  · obtain rfl : i = 0 := by simp [duoW] at hi; omega
    exact ⟨blk_cell h.a 0 _ rfl, blk_cell h.a 1 _ rfl, blk_cell h.a 2 _ rfl⟩
  · have hi2 : i = 0 ∨ i = 1 := by simp [duoW] at hi; omega
    rcases hi2 with rfl | rfl
    · exact ⟨⟨cc 0 _ rfl, cc 1 _ rfl, cc 2 _ rfl, cc 3 _ rfl, cc 4 _ rfl, cc 5 _ rfl, cc 6 _ rfl, cc 7 _ rfl⟩, _, cc 8 _ rfl, he0⟩
    · exact ⟨⟨cc 9 _ rfl, cc 10 _ rfl, cc 11 _ rfl, cc 12 _ rfl, cc 13 _ rfl, cc 14 _ rfl, cc 15 _ rfl, cc 16 _ rfl⟩, _, cc 17 _ rfl, he1⟩
theorem Duo.far {X : World} {n : Nat} {ch : Cham} {c0 c1 : Clk} {v : Value} (h : Duo X n ch c0 c1 v) : v.ownBlock ≠ some n ∧ v.ownBlock ≠ some (n + 2) ∧ v.ownBlock ≠ some (n + 3) :=
  ⟨own_far h.e h.a (by decide), own_far h.e h.c (by decide), own_far h.e h.d (by decide)⟩
theorem duo_c {X : World} {n : Nat} {ch : Cham} {c0 c1 c2 : Clk} {v : Value} (i : Nat) (u : Value) (h : Duo X n ch c0 c1 v) (hev : c2.evs = c1.evs) (hc : (duoCells c0 c1 v).setIfInBounds i u = duoCells c0 c2 v) : Duo (X.setCell ⟨n + 2, i, none⟩ u) n ch c0 c2 v := by
  refine ⟨blk_set_far _ h.a (by dsimp only; omega), ?_, blk_set_far _ h.d (by dsimp only; omega), ?_, h.e0⟩
  · have := blk_set i u h.c; rwa [hc] at this
  · rw [hev]; exact own_set h.e u h.far.2.1
theorem duo_a {X : World} {n : Nat} {ch ch2 : Cham} {c0 c1 : Clk} {v : Value} (i : Nat) (u : Value) (h : Duo X n ch c0 c1 v) (hc : (#[.int .i64 ch.base, .int .i64 ch.swing, .int .i64 ch.period] : Array Value).setIfInBounds i u = #[.int .i64 ch2.base, .int .i64 ch2.swing, .int .i64 ch2.period]) : Duo (X.setCell ⟨n, i, none⟩ u) n ch2 c0 c1 v := by
  refine ⟨?_, blk_set_far _ h.c (by dsimp only; omega), blk_set_far _ h.d (by dsimp only; omega), own_set h.e u h.far.1, h.e0⟩
  have := blk_set i u h.a; rwa [hc] at this
/-- the world as the law makes it: one event of the second clock in a block of its own -/
structure Duo0 (X : World) (n : Nat) (ki : Int) : Prop where
  duo : Duo X n ⟨5, 5, 9⟩ ⟨1, 0, 0, 0, 0, 0, 0, 0, []⟩ ⟨ki, 0, 0, 0, 0, 0, 0, 0, [⟨2, 3, 0⟩]⟩ (.slice (some ⟨n + 1, 0, none⟩) 1 1)
  b : X.heap[n + 1]? = some (.cells #[.int .i64 2, .int .i64 3, .int .i64 0] 75 (0, 0))
theorem duo_b {X : World} {n : Nat} {ki a s z : Int} (i : Nat) (u : Value) (h : Duo0 X n ki) (hc : (#[.int .i64 2, .int .i64 3, .int .i64 0] : Array Value).setIfInBounds i u = #[.int .i64 a, .int .i64 s, .int .i64 z]) :
    Duo (X.setCell ⟨n + 1, i, none⟩ u) n ⟨5, 5, 9⟩ ⟨1, 0, 0, 0, 0, 0, 0, 0, []⟩ ⟨ki, 0, 0, 0, 0, 0, 0, 0, [⟨a, s, z⟩]⟩ (.slice (some ⟨n + 1, 0, none⟩) 1 1) := by
  refine ⟨blk_set_far _ h.duo.a (by dsimp only; omega), blk_set_far _ h.duo.c (by dsimp only; omega), blk_set_far _ h.duo.d (by dsimp only; omega), ⟨rfl, .inr ⟨n + 1, 1, #[.int .i64 a, .int .i64 s, .int .i64 z], rfl, by omega, ?_, Nat.le_refl _, by simp [maxLen], rfl, rfl⟩⟩, rfl⟩
  have := blk_set i u h.b; rwa [hc] at this
/-- behind the turn of a number -/
def Turned (n : Nat) (X Y : World) : Prop := ∃ ch c0 c1 v, Duo Y n ch c0 c1 v ∧ c1.evs.length ≤ 21 ∧ Below n X Y
set_option maxRecDepth 100000 in
set_option maxHeartbeats 1000000 in
theorem set_0 (n : Nat) (ki v : Int) (X : World) (h : Duo0 X n ki) :
    Calls Tryd.prog 39 #[.pointer (some ⟨n + 3, 0, none⟩), .int .i64 0, .int .i64 v] X fun e Y => e = .returned (.tuple #[]) ∧ Turned n X Y := by
  have d2 : X.cell? ⟨n + 3, 2, none⟩ = some (.slice (some ⟨n + 2, 0, none⟩) 2 2) := blk_cell h.duo.d 2 _ rfl
  have d1 : X.cell? ⟨n + 3, 1, none⟩ = some (.slice (some ⟨n, 0, none⟩) 1 1) := blk_cell h.duo.d 1 _ rfl
  have hz := cell_lt d2
  have x0 := blk_cell h.duo.c 10 _ rfl
  have f0 := blk_free h.duo.c 10
  have hzx := cell_lt x0
  have H := Lib.hid h
  clear h
  go_enter Tryd.func39, Tryd.ntmps39
  go_wp2
  go_end0
  exact ⟨rfl, _, _, _, _, duo_c 10 (.int .i64 v) H.out.duo (c2 := ⟨ki, v, 0, 0, 0, 0, 0, 0, [⟨2, 3, 0⟩]⟩) rfl rfl, by simp, (Below.refl _ _).setCell (by dsimp only; omega) _⟩
set_option maxRecDepth 100000 in
set_option maxHeartbeats 1000000 in
theorem set_1 (n : Nat) (ki v : Int) (X : World) (h : Duo0 X n ki) :
    Calls Tryd.prog 39 #[.pointer (some ⟨n + 3, 0, none⟩), .int .i64 1, .int .i64 v] X fun e Y => e = .returned (.tuple #[]) ∧ Turned n X Y := by
  have d2 : X.cell? ⟨n + 3, 2, none⟩ = some (.slice (some ⟨n + 2, 0, none⟩) 2 2) := blk_cell h.duo.d 2 _ rfl
  have d1 : X.cell? ⟨n + 3, 1, none⟩ = some (.slice (some ⟨n, 0, none⟩) 1 1) := blk_cell h.duo.d 1 _ rfl
  have hz := cell_lt d2
  have x0 := blk_cell h.duo.c 11 _ rfl
  have f0 := blk_free h.duo.c 11
  have hzx := cell_lt x0
  have H := Lib.hid h
  clear h
  go_enter Tryd.func39, Tryd.ntmps39
  go_wp2
  go_end0
  exact ⟨rfl, _, _, _, _, duo_c 11 (.int .i64 v) H.out.duo (c2 := ⟨ki, 0, v, 0, 0, 0, 0, 0, [⟨2, 3, 0⟩]⟩) rfl rfl, by simp, (Below.refl _ _).setCell (by dsimp only; omega) _⟩
set_option maxRecDepth 100000 in
set_option maxHeartbeats 1000000 in
theorem set_2 (n : Nat) (ki v : Int) (X : World) (h : Duo0 X n ki) :
    Calls Tryd.prog 39 #[.pointer (some ⟨n + 3, 0, none⟩), .int .i64 2, .int .i64 v] X fun e Y => e = .returned (.tuple #[]) ∧ Turned n X Y := by
  have d2 : X.cell? ⟨n + 3, 2, none⟩ = some (.slice (some ⟨n + 2, 0, none⟩) 2 2) := blk_cell h.duo.d 2 _ rfl
  have d1 : X.cell? ⟨n + 3, 1, none⟩ = some (.slice (some ⟨n, 0, none⟩) 1 1) := blk_cell h.duo.d 1 _ rfl
  have hz := cell_lt d2
  have x0 := blk_cell h.duo.c 12 _ rfl
  have f0 := blk_free h.duo.c 12
  have hzx := cell_lt x0
  have H := Lib.hid h
  clear h
  go_enter Tryd.func39, Tryd.ntmps39
  go_wp2
  go_end0
  exact ⟨rfl, _, _, _, _, duo_c 12 (.int .i64 v) H.out.duo (c2 := ⟨ki, 0, 0, v, 0, 0, 0, 0, [⟨2, 3, 0⟩]⟩) rfl rfl, by simp, (Below.refl _ _).setCell (by dsimp only; omega) _⟩
set_option maxRecDepth 100000 in
set_option maxHeartbeats 1000000 in
theorem set_3 (n : Nat) (ki v : Int) (X : World) (h : Duo0 X n ki) :
    Calls Tryd.prog 39 #[.pointer (some ⟨n + 3, 0, none⟩), .int .i64 3, .int .i64 v] X fun e Y => e = .returned (.tuple #[]) ∧ Turned n X Y := by
  have d2 : X.cell? ⟨n + 3, 2, none⟩ = some (.slice (some ⟨n + 2, 0, none⟩) 2 2) := blk_cell h.duo.d 2 _ rfl
  have d1 : X.cell? ⟨n + 3, 1, none⟩ = some (.slice (some ⟨n, 0, none⟩) 1 1) := blk_cell h.duo.d 1 _ rfl
  have hz := cell_lt d2
  have x0 := blk_cell h.duo.c 13 _ rfl
  have f0 := blk_free h.duo.c 13
  have hzx := cell_lt x0
  have H := Lib.hid h
  clear h
  go_enter Tryd.func39, Tryd.ntmps39
  go_wp2
  go_end0
  exact ⟨rfl, _, _, _, _, duo_c 13 (.int .i64 v) H.out.duo (c2 := ⟨ki, 0, 0, 0, v, 0, 0, 0, [⟨2, 3, 0⟩]⟩) rfl rfl, by simp, (Below.refl _ _).setCell (by dsimp only; omega) _⟩
set_option maxRecDepth 100000 in
set_option maxHeartbeats 1000000 in
theorem set_4 (n : Nat) (ki v : Int) (X : World) (h : Duo0 X n ki) :
    Calls Tryd.prog 39 #[.pointer (some ⟨n + 3, 0, none⟩), .int .i64 4, .int .i64 v] X fun e Y => e = .returned (.tuple #[]) ∧ Turned n X Y := by
  have d2 : X.cell? ⟨n + 3, 2, none⟩ = some (.slice (some ⟨n + 2, 0, none⟩) 2 2) := blk_cell h.duo.d 2 _ rfl
  have d1 : X.cell? ⟨n + 3, 1, none⟩ = some (.slice (some ⟨n, 0, none⟩) 1 1) := blk_cell h.duo.d 1 _ rfl
  have hz := cell_lt d2
  have x0 := blk_cell h.duo.c 14 _ rfl
  have f0 := blk_free h.duo.c 14
  have hzx := cell_lt x0
  have H := Lib.hid h
  clear h
  go_enter Tryd.func39, Tryd.ntmps39
  go_wp2
  go_end0
  exact ⟨rfl, _, _, _, _, duo_c 14 (.int .i64 v) H.out.duo (c2 := ⟨ki, 0, 0, 0, 0, v, 0, 0, [⟨2, 3, 0⟩]⟩) rfl rfl, by simp, (Below.refl _ _).setCell (by dsimp only; omega) _⟩
set_option maxRecDepth 100000 in
set_option maxHeartbeats 1000000 in
theorem set_5 (n : Nat) (ki v : Int) (X : World) (h : Duo0 X n ki) :
    Calls Tryd.prog 39 #[.pointer (some ⟨n + 3, 0, none⟩), .int .i64 5, .int .i64 v] X fun e Y => e = .returned (.tuple #[]) ∧ Turned n X Y := by
  have d2 : X.cell? ⟨n + 3, 2, none⟩ = some (.slice (some ⟨n + 2, 0, none⟩) 2 2) := blk_cell h.duo.d 2 _ rfl
  have d1 : X.cell? ⟨n + 3, 1, none⟩ = some (.slice (some ⟨n, 0, none⟩) 1 1) := blk_cell h.duo.d 1 _ rfl
  have hz := cell_lt d2
  have x0 := blk_cell h.duo.c 15 _ rfl
  have f0 := blk_free h.duo.c 15
  have hzx := cell_lt x0
  have H := Lib.hid h
  clear h
  go_enter Tryd.func39, Tryd.ntmps39
  go_wp2
  go_end0
  exact ⟨rfl, _, _, _, _, duo_c 15 (.int .i64 v) H.out.duo (c2 := ⟨ki, 0, 0, 0, 0, 0, v, 0, [⟨2, 3, 0⟩]⟩) rfl rfl, by simp, (Below.refl _ _).setCell (by dsimp only; omega) _⟩
set_option maxRecDepth 100000 in
set_option maxHeartbeats 1000000 in
theorem set_6 (n : Nat) (ki v : Int) (X : World) (h : Duo0 X n ki) :
    Calls Tryd.prog 39 #[.pointer (some ⟨n + 3, 0, none⟩), .int .i64 6, .int .i64 v] X fun e Y => e = .returned (.tuple #[]) ∧ Turned n X Y := by
  have d2 : X.cell? ⟨n + 3, 2, none⟩ = some (.slice (some ⟨n + 2, 0, none⟩) 2 2) := blk_cell h.duo.d 2 _ rfl
  have d1 : X.cell? ⟨n + 3, 1, none⟩ = some (.slice (some ⟨n, 0, none⟩) 1 1) := blk_cell h.duo.d 1 _ rfl
  have hz := cell_lt d2
  have x0 := blk_cell h.duo.c 16 _ rfl
  have f0 := blk_free h.duo.c 16
  have hzx := cell_lt x0
  have H := Lib.hid h
  clear h
  go_enter Tryd.func39, Tryd.ntmps39
  go_wp2
  go_end0
  exact ⟨rfl, _, _, _, _, duo_c 16 (.int .i64 v) H.out.duo (c2 := ⟨ki, 0, 0, 0, 0, 0, 0, v, [⟨2, 3, 0⟩]⟩) rfl rfl, by simp, (Below.refl _ _).setCell (by dsimp only; omega) _⟩
set_option maxRecDepth 100000 in
set_option maxHeartbeats 1000000 in
theorem set_7 (n : Nat) (ki v : Int) (X : World) (h : Duo0 X n ki) :
    Calls Tryd.prog 39 #[.pointer (some ⟨n + 3, 0, none⟩), .int .i64 7, .int .i64 v] X fun e Y => e = .returned (.tuple #[]) ∧ Turned n X Y := by
  have d2 : X.cell? ⟨n + 3, 2, none⟩ = some (.slice (some ⟨n + 2, 0, none⟩) 2 2) := blk_cell h.duo.d 2 _ rfl
  have d1 : X.cell? ⟨n + 3, 1, none⟩ = some (.slice (some ⟨n, 0, none⟩) 1 1) := blk_cell h.duo.d 1 _ rfl
  have hz := cell_lt d2
  have x0 := blk_cell h.duo.a 0 _ rfl
  have f0 := blk_free h.duo.a 0
  have hzx := cell_lt x0
  have H := Lib.hid h
  clear h
  go_enter Tryd.func39, Tryd.ntmps39
  go_wp2
  go_end0
  exact ⟨rfl, _, _, _, _, duo_a 0 (.int .i64 v) H.out.duo (ch2 := ⟨v, 5, 9⟩) rfl, by simp, (Below.refl _ _).setCell (by dsimp only; omega) _⟩
set_option maxRecDepth 100000 in
set_option maxHeartbeats 1000000 in
theorem set_8 (n : Nat) (ki v : Int) (X : World) (h : Duo0 X n ki) :
    Calls Tryd.prog 39 #[.pointer (some ⟨n + 3, 0, none⟩), .int .i64 8, .int .i64 v] X fun e Y => e = .returned (.tuple #[]) ∧ Turned n X Y := by
  have d2 : X.cell? ⟨n + 3, 2, none⟩ = some (.slice (some ⟨n + 2, 0, none⟩) 2 2) := blk_cell h.duo.d 2 _ rfl
  have d1 : X.cell? ⟨n + 3, 1, none⟩ = some (.slice (some ⟨n, 0, none⟩) 1 1) := blk_cell h.duo.d 1 _ rfl
  have hz := cell_lt d2
  have x0 := blk_cell h.duo.a 1 _ rfl
  have f0 := blk_free h.duo.a 1
  have hzx := cell_lt x0
  have H := Lib.hid h
  clear h
  go_enter Tryd.func39, Tryd.ntmps39
  go_wp2
  go_end0
  exact ⟨rfl, _, _, _, _, duo_a 1 (.int .i64 v) H.out.duo (ch2 := ⟨5, v, 9⟩) rfl, by simp, (Below.refl _ _).setCell (by dsimp only; omega) _⟩
set_option maxRecDepth 100000 in
set_option maxHeartbeats 1000000 in
theorem set_9 (n : Nat) (ki v : Int) (X : World) (h : Duo0 X n ki) :
    Calls Tryd.prog 39 #[.pointer (some ⟨n + 3, 0, none⟩), .int .i64 9, .int .i64 v] X fun e Y => e = .returned (.tuple #[]) ∧ Turned n X Y := by
  have d2 : X.cell? ⟨n + 3, 2, none⟩ = some (.slice (some ⟨n + 2, 0, none⟩) 2 2) := blk_cell h.duo.d 2 _ rfl
  have d1 : X.cell? ⟨n + 3, 1, none⟩ = some (.slice (some ⟨n, 0, none⟩) 1 1) := blk_cell h.duo.d 1 _ rfl
  have hz := cell_lt d2
  have x0 := blk_cell h.duo.a 2 _ rfl
  have f0 := blk_free h.duo.a 2
  have hzx := cell_lt x0
  have H := Lib.hid h
  clear h
  go_enter Tryd.func39, Tryd.ntmps39
  go_wp2
  go_end0
  exact ⟨rfl, _, _, _, _, duo_a 2 (.int .i64 v) H.out.duo (ch2 := ⟨5, 5, v⟩) rfl, by simp, (Below.refl _ _).setCell (by dsimp only; omega) _⟩
set_option maxRecDepth 100000 in
set_option maxHeartbeats 1000000 in
theorem set_10 (n : Nat) (ki v : Int) (X : World) (h : Duo0 X n ki) :
    Calls Tryd.prog 39 #[.pointer (some ⟨n + 3, 0, none⟩), .int .i64 10, .int .i64 v] X fun e Y => e = .returned (.tuple #[]) ∧ Turned n X Y := by
  have d2 : X.cell? ⟨n + 3, 2, none⟩ = some (.slice (some ⟨n + 2, 0, none⟩) 2 2) := blk_cell h.duo.d 2 _ rfl
  have d1 : X.cell? ⟨n + 3, 1, none⟩ = some (.slice (some ⟨n, 0, none⟩) 1 1) := blk_cell h.duo.d 1 _ rfl
  have hz := cell_lt d2
  have x17 : X.cell? ⟨n + 2, 17, none⟩ = some (.slice (some ⟨n + 1, 0, none⟩) 1 1) := blk_cell h.duo.c 17 _ rfl
  have x0 := blk_cell h.b 1 _ rfl
  have f0 := blk_free h.b 1
  have hzx := cell_lt x0
  have hzy := cell_lt x17
  have H := Lib.hid h
  clear h
  go_enter Tryd.func39, Tryd.ntmps39
  go_wp2
  go_end0
  exact ⟨rfl, _, _, _, _, duo_b 1 (.int .i64 v) H.out (a := 2) (s := v) (z := 0) rfl, by simp, (Below.refl _ _).setCell (by dsimp only; omega) _⟩
set_option maxRecDepth 100000 in
set_option maxHeartbeats 1000000 in
theorem set_11 (n : Nat) (ki v : Int) (X : World) (h : Duo0 X n ki) :
    Calls Tryd.prog 39 #[.pointer (some ⟨n + 3, 0, none⟩), .int .i64 11, .int .i64 v] X fun e Y => e = .returned (.tuple #[]) ∧ Turned n X Y := by
  have d2 : X.cell? ⟨n + 3, 2, none⟩ = some (.slice (some ⟨n + 2, 0, none⟩) 2 2) := blk_cell h.duo.d 2 _ rfl
  have d1 : X.cell? ⟨n + 3, 1, none⟩ = some (.slice (some ⟨n, 0, none⟩) 1 1) := blk_cell h.duo.d 1 _ rfl
  have hz := cell_lt d2
  have x17 : X.cell? ⟨n + 2, 17, none⟩ = some (.slice (some ⟨n + 1, 0, none⟩) 1 1) := blk_cell h.duo.c 17 _ rfl
  have x0 := blk_cell h.b 2 _ rfl
  have f0 := blk_free h.b 2
  have hzx := cell_lt x0
  have hzy := cell_lt x17
  have H := Lib.hid h
  clear h
  go_enter Tryd.func39, Tryd.ntmps39
  go_wp2
  go_end0
  exact ⟨rfl, _, _, _, _, duo_b 2 (.int .i64 v) H.out (a := 2) (s := 3) (z := v) rfl, by simp, (Below.refl _ _).setCell (by dsimp only; omega) _⟩
set_option maxRecDepth 100000 in
set_option maxHeartbeats 1000000 in
theorem set_12 (n : Nat) (ki v : Int) (X : World) (h : Duo0 X n ki) :
    Calls Tryd.prog 39 #[.pointer (some ⟨n + 3, 0, none⟩), .int .i64 12, .int .i64 v] X fun e Y => e = .returned (.tuple #[]) ∧ Turned n X Y := by
  have d2 : X.cell? ⟨n + 3, 2, none⟩ = some (.slice (some ⟨n + 2, 0, none⟩) 2 2) := blk_cell h.duo.d 2 _ rfl
  have d1 : X.cell? ⟨n + 3, 1, none⟩ = some (.slice (some ⟨n, 0, none⟩) 1 1) := blk_cell h.duo.d 1 _ rfl
  have hz := cell_lt d2
  have x17 : X.cell? ⟨n + 2, 17, none⟩ = some (.slice (some ⟨n + 1, 0, none⟩) 1 1) := blk_cell h.duo.c 17 _ rfl
  have x0 := blk_cell h.b 0 _ rfl
  have f0 := blk_free h.b 0
  have hzx := cell_lt x0
  have hzy := cell_lt x17
  have H := Lib.hid h
  clear h
  go_enter Tryd.func39, Tryd.ntmps39
  go_wp2
  go_end0
  exact ⟨rfl, _, _, _, _, duo_b 0 (.int .i64 v) H.out (a := v) (s := 3) (z := 0) rfl, by simp, (Below.refl _ _).setCell (by dsimp only; omega) _⟩
theorem infoEvR : (Tryd.prog.info? 75).map (fun i => (i.zero, i.size, i.bytes)) = some (some (.agg #[.int .i64 0, .int .i64 0, .int .i64 0]), 3, 24) := by kernel_rfl
theorem Duo.boxed {X w1 : World} {o : Obj} {n : Nat} {ch : Cham} {c0 c1 : Clk} {v : Value} (h : Duo X n ch c0 c1 v) (hg : (X.alloc o).grownBy w1 v.ownBlock) :
    w1.cell? ⟨n + 2, 17, none⟩ = some v ∧ w1.frozen? ⟨n + 2, 17, none⟩ = false := by
  have e := blk_grown (blk_alloc h.c o) hg h.far.2.1
  exact ⟨blk_cell e 17 _ rfl, blk_free e 17⟩
theorem Duo.next {X w1 : World} {o : Obj} {n : Nat} {ch : Cham} {c0 c1 : Clk} {v v' : Value} {ev : Evt} (h : Duo X n ch c0 c1 v) (hg : (X.alloc o).grownBy w1 v.ownBlock)
    (hown : w1.ownsRow n 75 3 v' (c1.evs.length + 1) (evRow c1.evs ++ evCells ev)) : Duo (w1.setCell ⟨n + 2, 17, none⟩ v') n ch c0 { c1 with evs := c1.evs ++ [ev] } v' := by
  have ec := blk_grown (blk_alloc h.c o) hg h.far.2.1
  refine ⟨blk_set_far _ (blk_grown (blk_alloc h.a o) hg h.far.1) (by dsimp only; omega), ?_, blk_set_far _ (blk_grown (blk_alloc h.d o) hg h.far.2.2) (by dsimp only; omega), ?_, h.e0⟩
  · have := blk_set 17 v' ec; exact this
  · have e1 : evRow (c1.evs ++ [ev]) = evRow c1.evs ++ evCells ev := by simp [evRow]
    have e2 : (c1.evs ++ [ev]).length = c1.evs.length + 1 := by simp
    show World.ownsRow _ _ _ _ _ (c1.evs ++ [ev]).length (evRow (c1.evs ++ [ev]))
    rw [e1, e2]
    exact own_set hown _ (own_far hown ec (by decide))
set_option maxRecDepth 100000 in
set_option maxHeartbeats 2000000 in
theorem set_13 (n : Nat) (ki v : Int) (X : World) (h : Duo0 X n ki) (hn : n + 4 ≤ X.heap.size) :
    Calls Tryd.prog 39 #[.pointer (some ⟨n + 3, 0, none⟩), .int .i64 13, .int .i64 v] X fun e Y => e = .returned (.tuple #[]) ∧ Turned n X Y := by
  obtain ⟨i0, hi0, hz0, hz1, hz2⟩ := info_parts infoEvR
  have d2 : X.cell? ⟨n + 3, 2, none⟩ = some (.slice (some ⟨n + 2, 0, none⟩) 2 2) := blk_cell h.duo.d 2 _ rfl
  have d1 : X.cell? ⟨n + 3, 1, none⟩ = some (.slice (some ⟨n, 0, none⟩) 1 1) := blk_cell h.duo.d 1 _ rfl
  have hz := cell_lt d2
  have H := Lib.hid h
  clear h
  go_enter Tryd.func39, Tryd.ntmps39
  go_wp2
  clear d1 d2 hz
  go_loopw [7] (fun i wr => ∃ (q : Nat) (vv : Value) (es : List Evt), q ≤ 20 ∧ i = .int .i64 q ∧ es.length = q + 1 ∧ n + 4 ≤ wr.heap.size ∧ Hid (Duo wr n ⟨5, 5, 9⟩ ⟨1, 0, 0, 0, 0, 0, 0, 0, []⟩ ⟨ki, 0, 0, 0, 0, 0, 0, 0, es⟩ vv) ∧ Hid (Below n X wr)) (fun i _ => 20 - (intOf i).toNat)
  case atStart => exact ⟨0, _, _, by omega, rfl, rfl, hn, Lib.hid H.out.duo, Lib.hid (Below.refl _ _)⟩
  case round =>
    obtain ⟨q, vv, es, hq, rfl, hes, hnz, HD, HB⟩ := hrel
    by_cases h20 : q < 20
    · have d20 : decide ((q : Int) < 20) = true := by simp; omega
      by_cases hv : (q : Int) < v
      · have dv : decide ((q : Int) < v) = true := by simpa using hv
        have x17 : wr.cell? ⟨n + 2, 17, none⟩ = some vv := blk_cell HD.out.c 17 _ rfl
        have hzx := cell_lt x17
        have HROW := Lib.hid HD.out.e
        have HES := Lib.hid hes
        clear hes
        go_wp2_with (at_builtin; refine wpList_append_lies _ rfl (.tmp 127) (.tmp 134) _ rfl n 75 i0 _ 3 24 Tryd.underlying71 hi0 hz0 hz1 hz2 rfl (by omega) vv es.length _ rfl (HROW.out.alloc _) ⟨wr.heap.size, 0, none⟩ 1 1 (evCells ⟨1 + (q : Int) % 4, 4 + (q : Int), 0⟩) rfl rfl (World.news_of_block (cs := (evCells ⟨1 + (q : Int) % 4, 4 + (q : Int), 0⟩).toArray) (t := 75) (fr := (0, 0)) (heap_alloc_new wr _)) (by simp [Value.oneCell', evCells]) (by omega) (by have := HES.out; unfold maxLen; omega) (by have := HES.out; omega) (by simp; omega) _ rfl ?_; intro gg cap w1 hown1 hgrow _ _; obtain ⟨st1, st2⟩ := HD.out.boxed hgrow; have HND := Lib.hid (HD.out.next hgrow hown1); have HB2 := Lib.hid ((HB.out.alloc (by omega) _).grown hgrow (by simp; omega) (fun g hx => (HROW.out.lt g hx).1)); have hsz := hgrow.size; simp only [World.size_alloc] at hsz; clear hown1 hgrow)
        go_roundw
        case rel => exact ⟨q + 1, _, _, by omega, by go_num, by rw [List.length_append, HES.out]; rfl, by simp; omega, HND, Lib.hid (HB2.out.setCell (by dsimp only; omega) _)⟩
        case measure => simp [intOf]; omega
      · have dv : decide ((q : Int) < v) = false := by simpa using hv
        go_wp2
        go_end0
        exact ⟨rfl, _, _, _, _, HD.out, by show es.length ≤ 21; omega, HB.out⟩
    · have d20 : decide ((q : Int) < 20) = false := by simp; omega
      by_cases hv : (q : Int) < v
      · have dv : decide ((q : Int) < v) = true := by simpa using hv
        go_wp2
        go_end0
        exact ⟨rfl, _, _, _, _, HD.out, by show es.length ≤ 21; omega, HB.out⟩
      · have dv : decide ((q : Int) < v) = false := by simpa using hv
        go_wp2
        go_end0
        exact ⟨rfl, _, _, _, _, HD.out, by show es.length ≤ 21; omega, HB.out⟩
end Go.Proofs.YthegamfbigphkaaDoor
