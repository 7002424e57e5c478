/- Contracts of the methods of a clock at work. · The walk of a clock: a loop over an iterator. -/
import Derived.Test.YtlelamjbfjneiaaGreatDoorQ21
import Derived.Test.YtlelamjbfjneiaaGreatDoorQ02
import Derived.Deep.RegionHeld3
import Derived.RangeFuncNested
import Derived.RangeFuncBound
import Derived.RangeFuncCalls
import Derived.RangeFuncLeaves
import Derived.Shelf.Abstract
import Derived.Shelf.RegionOpen
import Derived.OwnWalkIn
import Derived.TacticsInMore
import Derived.LoopNIn
import Derived.LoopIn
namespace Go.Proofs.YtlelamjbfjneiaaGreatDoor.Wd
open Go Go.RowKit
theorem quiet_eq {P : Program} {f : FuncId} {args : Array Value} {w : World} {n : Nat} {v : Value}
    (h : Calls P f args (w.drewN n) fun e w' => e = .returned v ∧ w.drewN n = w') : Calls P f args (w.drewN n) fun e w'' => e = .returned v ∧ ∃ m, w'' = w.drewN m :=
  Calls.quiet_of_same (h.mono fun _ _ ⟨a, b⟩ => ⟨a, b.symm⟩)
theorem field_stopped (x y z : Value) (w : World) : (Instr.field 164 (.agg #[x, y, z]) 2).run Tryz.prog w = .ok z w := by kernel_rfl
theorem past_nil (a : Nat) (p : Option Addr) (cap : Nat) (s : Int) (w : World)
    (he : w.cell? ⟨a, 8, none⟩ = some (.slice p 0 cap)) :
    Calls Tryz.prog 112 #[.pointer (some ⟨a, 0, none⟩), .int .i64 s] w fun e w' => e = .returned (.agg #[.int .i64 0, .int .i64 0, .bool false]) ∧ Below w.heap.size w w' := by
  have hza := cell_lt he
  go_enter Tryz.func112, Tryz.ntmps112
  go_wp2
  go_rounds 1
  go_returns
  exact ⟨rfl, by go_grown⟩
def pastVal (p : Past) : Value := .agg #[.int .i64 p.jumped, .int .i64 p.kicked, .bool p.stopped]
theorem past_at {a m : Nat} {c : Clk} {seed k : Int} {r : Cham} {v : Value} (s : Int) (w : World) (h : AtWork w a m c seed k r v) (he : evsOk c.evs = true) (h0 : 0 ≤ s) (h1 : s ≤ 1000000) :
    Calls Tryz.prog 112 #[.pointer (some ⟨a, 0, none⟩), .int .i64 s] w fun e w' => e = .returned (pastVal (pastS s c.evs)) ∧ Below w.heap.size w w' := by
  obtain ⟨p, cap, hv, hm, hs⟩ := h.slice
  have h8 := h.evs
  rw [hv] at h8
  obtain ⟨hl, hok⟩ := evsOk_parts he
  rcases hs with hn | ⟨b, o, rfl, hc⟩
  · rw [hn] at h8
    rw [List.eq_nil_of_length_eq_zero hn]
    exact past_nil a p cap s w h8
  · exact past_any a m cap c.evs s w b o hl hok h0 h1 h8 hc h.map h.fx
set_option maxRecDepth 100000 in
theorem runs_at {a m : Nat} {c : Clk} {seed k : Int} {r : Cham} {v : Value} (s : Int) (w : World) (h : AtWork w a m c seed k r v) (he : evsOk c.evs = true) (h0 : 0 ≤ s) (h1 : s ≤ 1000000) :
    Calls Tryz.prog 91 #[.pointer (some ⟨a, 0, none⟩), .int .i64 s] w fun e w' => e = .returned (.bool (!(pastS s c.evs).stopped)) ∧ Below w.heap.size w w' := by
  have hc := past_at s w h he h0 h1
  unfold pastVal at hc
  have HC := Lib.hid hc
  clear hc h
  have hfl := field_stopped (.int .i64 (pastS s c.evs).jumped) (.int .i64 (pastS s c.evs).kicked) (.bool (pastS s c.evs).stopped)
  go_enter Tryz.func91, Tryz.ntmps91
  go_wp2_with (go_at_call 112; refine HC.out.mono ?_; rintro e w' ⟨rfl, hb⟩)
  go_ret
  exact ⟨rfl, hb⟩
theorem strayed_at {a m : Nat} {c : Clk} {seed k : Int} {r : Cham} {v : Value} (x y : Int) (w : World) (h : AtWork w a m c seed k r v) (hc : ClkIn c) (h0 : 0 ≤ x) (h1 : x ≤ y) (h2 : y ≤ 1000000) :
    Calls Tryz.prog 99 #[.pointer (some ⟨a, 0, none⟩), .int .i64 x, .int .i64 y] w fun e w' => e = .returned (.int .i64 (strayedS c x y)) ∧ w = w' := by
  have h5 := h.nums.2.2.2.2.2.1
  simp only [Nat.zero_add] at h5
  obtain ⟨w0, w1⟩ := hc.walk
  have hd : 0 ≤ y / 100 - x / 100 := by omega
  have hd' : y / 100 - x / 100 ≤ 10000 := by omega
  have hm := mul_bd c.walk (y / 100 - x / 100) 1000000000 10000 (by omega) ⟨hd, hd'⟩
  clear hd hd' h hc
  go_enter Tryz.func99, Tryz.ntmps99
  go_wp2
  go_ret
  exact ⟨rfl, rfl⟩
set_option maxRecDepth 100000 in
theorem white_at {a m : Nat} {c : Clk} {seed k : Int} {r : Cham} {v : Value} (s : Int) (w : World) (h : AtWork w a m c seed k r v) (hc : ClkIn c) (h0 : 0 ≤ s) (h1 : s ≤ 1000000) (hk : 0 ≤ k ∧ k ≤ 16) :
    Calls Tryz.prog 93 #[.pointer (some ⟨a, 0, none⟩), .int .i64 s] w fun e w' => e = .returned (.int .i64 (whiteS seed k c s)) ∧ Below w.heap.size w w' := by
  have h4 := h.nums.2.2.2.2.1
  have h9 := h.seed
  have h10 := h.index
  simp only [Nat.zero_add] at h4
  obtain ⟨w0, w1⟩ := hc.white
  clear h hc
  go_enter Tryz.func93, Tryz.ntmps93
  go_wp2
  go_quiet ((first | (go_at_call 72; exact quiet_eq (source_any _ _ _ _ (by omega) (by omega) (by omega) (by omega))) | (go_at_call 71; exact quiet_eq (draw_any _ _ _ _ (by omega) (by omega) (by omega) (by omega)))))
  go_wp2
  go_ret
  exact ⟨rfl, by refine below_drewN ?_ _; go_grown⟩
theorem floor_q (a b : Int) {w : World} {n : Nat} (h1 : -9223372036854775807 ≤ a ∧ a ≤ 9223372036854775807) (hb : 1 ≤ b ∧ b ≤ 9223372036854775807) :
    Calls Tryz.prog 74 #[.int .i64 a, .int .i64 b] (w.drewN n) fun e w'' => e = .returned (.int .i64 (a / b)) ∧ ∃ m, w'' = w.drewN m :=
  quiet_eq (floor_any a b _ h1.1 h1.2 hb.1 hb.2)
theorem temp_keep (W0 : World) (c : Cham) (s : Int) (w : World) (hb : Below W0.heap.size W0 w) (h1 : chamOk c = true) (h4 : 0 ≤ s) (h5 : s ≤ 1000000) :
    Calls Tryz.prog 116 #[.agg #[.int .i64 c.base, .int .i64 c.swing, .int .i64 c.period], .int .i64 s] w fun e w' => e = .returned (.int .i64 (tempS c s)) ∧ Below W0.heap.size W0 w' :=
  (temp_any c s w h1 h4 h5).mono fun _ _ ⟨a, b⟩ => ⟨a, hb.trans (b.mono hb.size)⟩
set_option maxRecDepth 100000 in
set_option maxHeartbeats 1000000 in
theorem fixed_at {a m : Nat} {c : Clk} {seed k : Int} {r : Cham} {v : Value} (s : Int) (w : World) (h : AtWork w a m c seed k r v) (hc : ClkIn c) (hr : chamOk r = true) (h0 : 0 ≤ s) (h1 : s ≤ 1000000) :
    Calls Tryz.prog 98 #[.pointer (some ⟨a, 0, none⟩), .int .i64 s] w fun e w' => e = .returned (.int .i64 (fixedS c r s)) ∧ Below w.heap.size w w' := by
  have hp := past_at s w h hc.evs h0 h1
  unfold pastVal at hp
  have HP := Lib.hid hp
  obtain ⟨p1, p2⟩ := past_bd hc s h0 h1
  obtain ⟨g1, g2⟩ := aged_bd hc s h0 h1
  obtain ⟨t1, t2⟩ := warm_bd hc hr s
  obtain ⟨q1, q2⟩ := half_bd s h0 h1
  have rb := rate_bd hc s h0 h1
  have cp := hc.phase
  have hfin : fixedS c r s = c.phase + (c.rate * s + (pastS s c.evs).kicked + c.drift * (s * (s - 1) / 2) / 86400) / 1000 + c.heat * (tempS r s - tempS r 0) + (pastS s c.evs).jumped := rfl
  have HF := Lib.hid hfin
  have H := Lib.hid h
  have HR := Lib.hid hr
  unfold agedS at g2
  unfold warmedS at t2
  clear hp hc hfin h hr
  generalize pastS s c.evs = p at *
  obtain ⟨ju, ki, st⟩ := p
  dsimp only at p1 p2
  have g3 : -100000000000000 ≤ (c.rate * s + ki + c.drift * (s * (s - 1) / 2) / 86400) / 1000 ∧ (c.rate * s + ki + c.drift * (s * (s - 1) / 2) / 86400) / 1000 ≤ 100000000000000 := by omega
  go_enter Tryz.func98, Tryz.ntmps98
  go_wp2_with fail
  refine HP.out.mono ?_
  rintro e w1 ⟨rfl, hb⟩
  have hw1 := H.out.below hb
  have HB := Lib.hid hb
  obtain ⟨-, c1, c2, c3, -, -, c6, -⟩ := hw1.nums
  obtain ⟨r1, r2, r3⟩ := hw1.room
  simp only [Nat.zero_add, Nat.reduceAdd] at c1 c2 c3 c6 r1 r2 r3
  have hz := cell_lt c3
  have HW := Lib.hid hw1
  clear hw1 hb
  go_wp2_with (go_at_call 74; refine (floor_any _ _ _ (by omega) (by omega) (by omega) (by omega)).mono ?_; rintro e w' ⟨rfl, rfl⟩)
  go_quiet ((go_at_call 74; exact floor_q _ _ (by omega) (by omega)))
  go_wp2_with fail
  have z1 := Below.cell (p := ⟨w1.heap.size, 0, none⟩) (Below.refl (w1.heap.size + 1) (w1.alloc (.cells #[.int .i64 ju, .int .i64 ki, .bool st] 164))) (by simp)
  obtain ⟨W0, hW0⟩ : ∃ W0, W0 = (w1.alloc (.cells #[.int .i64 ju, .int .i64 ki, .bool st] 164)) := ⟨_, rfl⟩
  have k0 : W0.cell? ⟨w1.heap.size, 0, none⟩ = some (.int .i64 ju) := by rw [hW0]; simp
  have hbw : Below w1.heap.size w1 W0 := by rw [hW0]; exact (Below.refl _ _).alloc (Nat.le_refl _) _
  have k1 := cell_below hbw c1
  have k6 := cell_below hbw c6
  have m1 := cell_below hbw r1
  have m2 := cell_below hbw r2
  have m3 := cell_below hbw r3
  rw [← hW0]
  clear z1 c1 c2 c3 c6 r1 r2 r3 hz g1 g2 q1 q2
  have HBW := Lib.hid hbw
  have HW0 := Lib.hid hW0
  clear hbw hW0
  have u1 := IntWalk.i64_in (tempS r s - tempS r 0) (by omega)
  have u2 := IntWalk.i64_in (c.heat * (tempS r s - tempS r 0)) (by omega)
  go_region_held3 (fun w' => Below W0.heap.size W0 w' ∧ w'.cell? ⟨a, 6, none⟩ = some (.int .i64 c.heat) ∧ w'.cell? ⟨a, 11, none⟩ = some (.int .i64 r.base) ∧ w'.cell? ⟨a, 12, none⟩ = some (.int .i64 r.swing) ∧ w'.cell? ⟨a, 13, none⟩ = some (.int .i64 r.period))
    (first | exact ⟨below_drewN (Below.refl _ _) _, k6, m1, m2, m3⟩ | exact ⟨Below.drew (below_drewN (Below.refl _ _) _), k6, m1, m2, m3⟩ | exact ⟨(by assumption), cell_below (by assumption) k6, cell_below (by assumption) m1, cell_below (by assumption) m2, cell_below (by assumption) m3⟩)
    (first | (go_at_call 116; refine (temp_keep W0 r _ _ (by first | assumption | exact below_drewN (Below.refl _ _) _ | exact Below.drew (below_drewN (Below.refl _ _) _)) HR.out (by first | assumption | decide) (by first | assumption | decide)).mono ?_; rintro e w2 ⟨rfl, hb2⟩))
  clear u1 u2
  have n0 := cell_below hb2 k0
  have n1 := cell_below hb2 k1
  go_wp2_with fail
  go_quiet (fail)
  go_wp2
  go_ret
  refine ⟨ret_i64 HF.out.symm, ?_⟩
  exact below_drewN (HB.out.trans ((HBW.out.trans (hb2.mono HBW.out.size)).mono HB.out.size)) _
end Go.Proofs.YtlelamjbfjneiaaGreatDoor.Wd
namespace Go.Proofs.YtlelamjbfjneiaaGreatDoor.Wd
open Go Go.RowKit Go.Shelf
attribute [local go_sem] Oper.semAt_some
theorem draws_at (a : Nat) (x y : Int) (w : World) :
    Calls Tryz.prog 132 #[.pointer (some ⟨a, 0, none⟩), .int .i64 x, .int .i64 y] w fun e w' =>
      e = .returned (.func (.func 137) #[] #[.pointer (some ⟨w.heap.size, 0, none⟩), .pointer (some ⟨w.heap.size + 1, 0, none⟩), .pointer (some ⟨w.heap.size + 1 + 1, 0, none⟩)]) ∧
      ((w.alloc (.cells #[.pointer (some ⟨a, 0, none⟩)] 123)).alloc (.cells #[.int .i64 x] 3)).alloc (.cells #[.int .i64 y] 3) = w' := by
  go_enter Tryz.func132, Tryz.ntmps132
  go_wp2
  go_ret
  exact ⟨rfl, rfl⟩
/-- what lies below a block, but for one block, lies as it lay -/
def Keeps (n₀ sb : Nat) (A B : World) : Prop := A.heap.size ≤ B.heap.size ∧ ∀ k, k < n₀ → k ≠ sb → B.heap[k]? = A.heap[k]?
theorem Keeps.trans {n₀ sb : Nat} {A B C : World} (h : Keeps n₀ sb A B) (k : Keeps n₀ sb B C) : Keeps n₀ sb A C :=
  ⟨Nat.le_trans h.1 k.1, fun i h1 h2 => (k.2 i h1 h2).trans (h.2 i h1 h2)⟩
theorem Keeps.refl {n₀ sb : Nat} {A : World} : Keeps n₀ sb A A := ⟨Nat.le_refl _, fun _ _ _ => rfl⟩
theorem Keeps.putObj {n₀ sb : Nat} {w : World} (hn : n₀ ≤ w.heap.size) (W : World) (l : Nat) (o o' : Obj) (hl : w.heap.size ≤ l) (_h : W.heap[l]? = some o) (_ : o.isCells = false) (_ : o.isWalk = false) : Keeps n₀ sb W (W.putObj l o') :=
  ⟨by simp, fun k hk _ => World.putObj_heap_other (by omega)⟩
theorem Keeps.cell {n₀ sb b o : Nat} {A B : World} {v : Value} (h : Keeps n₀ sb A B) (hb : b < n₀) (hs : b ≠ sb) (hc : A.cell? ⟨b, o, none⟩ = some v) : B.cell? ⟨b, o, none⟩ = some v := by
  rw [← hc]; exact World.cell?_of_block (a := ⟨b, o, none⟩) (h.2 b hb hs)
theorem Keeps.of_below {n₀ sb B : Nat} {A C : World} (h : Below B A C) (hn : n₀ ≤ B) : Keeps n₀ sb A C := ⟨h.size, fun k hk _ => h.block k (by omega)⟩
/-- what the iterator reads -/
def DrawsIn (w : World) (B0 B1 B2 a : Nat) (x y seed k walk : Int) : Prop :=
  w.cell? ⟨B0, 0, none⟩ = some (.pointer (some ⟨a, 0, none⟩)) ∧ w.cell? ⟨B1, 0, none⟩ = some (.int .i64 x) ∧ w.cell? ⟨B2, 0, none⟩ = some (.int .i64 y) ∧
  w.cell? ⟨a, 9, none⟩ = some (.int .u64 seed) ∧ w.cell? ⟨a, 10, none⟩ = some (.int .i64 k) ∧ w.cell? ⟨a, 5, none⟩ = some (.int .i64 walk)
theorem DrawsIn.keeps {A B : World} {n₀ sb B0 B1 B2 a : Nat} {x y seed k walk : Int} (h : DrawsIn A B0 B1 B2 a x y seed k walk) (hk : Keeps n₀ sb A B) (h0 : B0 < n₀ ∧ B0 ≠ sb) (h1 : B1 < n₀ ∧ B1 ≠ sb) (h2 : B2 < n₀ ∧ B2 ≠ sb) (h3 : a < n₀ ∧ a ≠ sb) : DrawsIn B B0 B1 B2 a x y seed k walk :=
  ⟨hk.cell h0.1 h0.2 h.1, hk.cell h1.1 h1.2 h.2.1, hk.cell h2.1 h2.2 h.2.2.1, hk.cell h3.1 h3.2 h.2.2.2.1, hk.cell h3.1 h3.2 h.2.2.2.2.1, hk.cell h3.1 h3.2 h.2.2.2.2.2⟩
set_option maxRecDepth 100000 in
set_option maxHeartbeats 2000000 in
theorem draws1_in (n l B0 B1 B2 a n₀ sb : Nat) (x y seed k walk : Int) (h0 : B0 < n₀ ∧ B0 ≠ sb) (h1 : B1 < n₀ ∧ B1 ≠ sb) (h2 : B2 < n₀ ∧ B2 ≠ sb) (h3 : a < n₀ ∧ a ≠ sb)
    (hw : 0 ≤ walk ∧ walk ≤ 1000000000) (hk : 0 ≤ k ∧ k ≤ 16) (hx : 0 ≤ x) (hxy : x ≤ y) (hy : y ≤ 1000000) (hn : 1 ≤ n) (J Jx : List DInt → World → Prop) (W : World)
    (hY : ∀ pre d W1, J pre W1 → pre.length < (y / 100 - x / 100).toNat → YieldAt Fence.wide (n - 1) Tryz.prog l #[.int .i64 d.1] W1 fun e W' =>
      (e = .returned (.bool true) ∧ J (pre ++ [d]) W' ∧ Keeps n₀ sb W1 W') ∨ (e = .returned (.bool false) ∧ Jx (pre ++ [d]) W'))
    (hJ : AbidesFrom W.heap.size J) (hD : DrawsIn W B0 B1 B2 a x y seed k walk) (hJ0 : J [] W) :
    CallsIn Fence.wide n Tryz.prog 137 #[.func (.yield l) #[] #[], .pointer (some ⟨B0, 0, none⟩), .pointer (some ⟨B1, 0, none⟩), .pointer (some ⟨B2, 0, none⟩)] W fun e W' => (∃ v, e = .returned v) ∧
      ((∃ ys, ys = drawL (sourceS seed 1 k) walk (x / 100) hw (y / 100 - x / 100).toNat ∧ J ys W') ∨ (∃ pre, pre <+: drawL (sourceS seed 1 k) walk (x / 100) hw (y / 100 - x / 100).toNat ∧ Jx pre W')) := by
  have hro : Fence.wide.round = none := rfl
  obtain ⟨d0, d1, d2, d3, d4, d5⟩ := hD
  refine callsIn_of_wp Tryz.func137 rfl trivial ?_ hro
  simp only [Tryz.ntmps137, List.size_toArray, List.length_cons, List.length_nil, Nat.reduceAdd, Nat.reduceSub, Array.replicate_succ, Array.replicate_zero, List.push_toArray, List.append_toArray, List.nil_append, List.cons_append]
  refine wpIn_wide.2 ?_
  go_wp2_with fail
  go_quiet ((go_at_call 72; exact quiet_eq (source_any _ _ _ _ (by omega) (by omega) (by omega) (by omega))))
  go_wp2_with fail
  refine (wpIn_wide (n := n)).1 ?_
  have hJ1 : J [] (W.drewN nq) := hJ _ _ _ none hJ0 ⟨rfl, rfl, rfl, Nat.le_refl _, fun _ _ _ => rfl⟩ (fun r e => by cases e)
  have hD1 : DrawsIn (W.drewN nq) B0 B1 B2 a x y seed k walk := ⟨d0, d1, d2, d3, d4, d5⟩
  generalize W.drewN nq = W1 at *
  clear d0 d1 d2 d3 d4 d5 hJ hJ0
  have HD := Lib.hid hD1
  clear hD1
  gi_loopw [6] (fun i wr => ∃ j : Nat, j ≤ (y / 100 - x / 100).toNat ∧ i = .int .i64 (x / 100 + 1 + j) ∧ DrawsIn wr B0 B1 B2 a x y seed k walk ∧ J (drawL (sourceS seed 1 k) walk (x / 100) hw j) wr) (fun i _ => (y / 100 + 1 - intOf i).toNat)
  case atStart => exact ⟨0, Nat.zero_le _, by simp, HD.out, hJ1⟩
  case round =>
    obtain ⟨j, hj, rfl, hD, hJj⟩ := hrel
    by_cases hlt : j < (y / 100 - x / 100).toNat
    · obtain ⟨fn, tmps, assign, body, hy, hR⟩ := hY _ ⟨drawS (sourceS seed 1 k) (x / 100 + j + 1) walk, by have := drawS_bd (sourceS seed 1 k) (x / 100 + j + 1) walk hw.1; omega⟩ wr hJj (by rw [drawL_len]; exact hlt)
      rw [← drawL_succ] at hR
      obtain ⟨d0, d1, d2, d3, d4, d5⟩ := id hD
      have HDD := Lib.hid hD
      clear hD
      have hle : x / 100 + 1 + (j : Int) ≤ y / 100 := by omega
      have e1 : x / 100 + (j : Int) + 1 = x / 100 + 1 + j := by omega
      dsimp only at hy
      generalize hq : x / 100 + (j : Int) + 1 = q at *
      subst e1
      clear hq
      gi_wp2_with (refine ⟨trivial, ?_⟩; gi_at_call 71; refine (callsIn_wide.2 (draw_any _ _ _ _ (by omega) (by omega) (by omega) (by omega))).mono ?_; rintro e w' ⟨rfl, rfl⟩)
      refine hR.mono ?_
      rintro e W3 (⟨rfl, hJ3, hk3⟩ | ⟨rfl, hJx3⟩)
      · gi_wp2
        go_roundw
        case rel => exact ⟨j + 1, by omega, by simp; omega, HDD.out.keeps hk3 h0 h1 h2 h3, hJ3⟩
        case measure => simp [intOf]; omega
      · gi_wp2
        refine bodyPost_ret (results_none rfl _ _ _) rfl ?_
        exact ⟨⟨_, rfl⟩, .inr ⟨_, drawL_prefix _ _ _ _ _ _ (by omega), hJx3⟩⟩
    · obtain ⟨d0, d1, d2, d3, d4, d5⟩ := hD
      have hle : y / 100 < x / 100 + 1 + (j : Int) := by omega
      obtain rfl : j = (y / 100 - x / 100).toNat := by omega
      gi_wp2
      go_end0
      exact ⟨⟨_, rfl⟩, .inl ⟨_, rfl, hJj⟩⟩
theorem draws1_stops (n B0 B1 B2 a n₀ sb : Nat) (x y seed k walk : Int) (h0 : B0 < n₀ ∧ B0 ≠ sb) (h1 : B1 < n₀ ∧ B1 ≠ sb) (h2 : B2 < n₀ ∧ B2 ≠ sb) (h3 : a < n₀ ∧ a ≠ sb)
    (hw : 0 ≤ walk ∧ walk ≤ 1000000000) (hk : 0 ≤ k ∧ k ≤ 16) (hx : 0 ≤ x) (hxy : x ≤ y) (hy : y ≤ 1000000) (hn : 1 ≤ n) (w : World) (hn0 : n₀ ≤ w.heap.size) (hD : DrawsIn w B0 B1 B2 a x y seed k walk) :
    SeqStopsK Fence.wide n Tryz.prog 137 #[.pointer (some ⟨B0, 0, none⟩), .pointer (some ⟨B1, 0, none⟩), .pointer (some ⟨B2, 0, none⟩)] (fun d : DInt => #[.int .i64 d.1]) (Keeps n₀ sb)
      (fun ys => ys = drawL (sourceS seed 1 k) walk (x / 100) hw (y / 100 - x / 100).toNat) (fun pre => pre <+: drawL (sourceS seed 1 k) walk (x / 100) hw (y / 100 - x / 100).toNat) (y / 100 - x / 100).toNat w := by
  intro l J Jx W hW hJ _ hY hJ0
  exact draws1_in n l B0 B1 B2 a n₀ sb x y seed k walk h0 h1 h2 h3 hw hk hx hxy hy hn J Jx W hY hJ (hD.keeps (Keeps.of_below hW hn0) h0 h1 h2 h3) hJ0
set_option maxRecDepth 100000 in
set_option maxHeartbeats 2000000 in
theorem walked_at {a m : Nat} {c : Clk} {seed k : Int} {r : Cham} {v : Value} (x y : Int) (w : World) (h : AtWork w a m c seed k r v) (hc : ClkIn c) (hk : 0 ≤ k ∧ k ≤ 16) (hx : 0 ≤ x) (hxy : x ≤ y) (hy : y ≤ 1000000) :
    Calls Tryz.prog 113 #[.pointer (some ⟨a, 0, none⟩), .int .i64 x, .int .i64 y] w fun e w' => e = .returned (.int .i64 (walkedS seed k c.walk x y)) ∧ Below w.heap.size w w' := by
  refine (callsIn_wide (n := 9)).1 ?_
  have hro : Fence.wide.round = none := rfl
  have h5 := h.nums.2.2.2.2.2.1
  simp only [Nat.zero_add] at h5
  have h9 := h.seed
  have h10 := h.index
  have hza := cell_lt h5
  have hw := hc.walk
  clear h hc
  refine callsIn_of_wp_marks Tryz.func113 rfl trivial ?_ hro
  simp only [Tryz.ntmps113, List.size_toArray, List.length_cons, List.length_nil, Nat.reduceAdd, Nat.reduceSub, Array.replicate_succ, Array.replicate_zero, List.push_toArray, List.append_toArray, List.nil_append, List.cons_append]
  gi_wp2_with (refine ⟨trivial, ?_⟩; gi_at_call 132; refine (callsIn_wide.2 (draws_at _ _ _ _)).mono ?_; rintro e w' ⟨rfl, rfl⟩)
  have hB0 : Below w.heap.size w (((((w.alloc (.cells #[.int .i64 0] 3)).alloc (.cells #[.pointer (some ⟨a, 0, none⟩)] 123)).alloc (.cells #[.int .i64 x] 3)).alloc (.cells #[.int .i64 y] 3))) := by go_grown
  have hD : DrawsIn (((((w.alloc (.cells #[.int .i64 0] 3)).alloc (.cells #[.pointer (some ⟨a, 0, none⟩)] 123)).alloc (.cells #[.int .i64 x] 3)).alloc (.cells #[.int .i64 y] 3))) (w.heap.size + 1) (w.heap.size + 1 + 1) (w.heap.size + 1 + 1 + 1) a x y seed k c.walk :=
    ⟨by simp [go_sem], by simp [go_sem], by simp [go_sem], cell_below hB0 h9, cell_below hB0 h10, cell_below hB0 h5⟩
  refine wpIn_rangeFunc_ownF hro (by decide) (gf := 137) (lb := #[.pointer (some ⟨w.heap.size + 1, 0, none⟩), .pointer (some ⟨w.heap.size + 1 + 1, 0, none⟩), .pointer (some ⟨w.heap.size + 1 + 1 + 1, 0, none⟩)]) rfl trivial (enters_of Tryz.func137 (by kernel_rfl) rfl)
    (draws1_stops 8 (w.heap.size + 1) (w.heap.size + 1 + 1) (w.heap.size + 1 + 1 + 1) a (w.heap.size + 4) w.heap.size x y seed k c.walk (by omega) (by omega) (by omega) (by omega) hw hk hx hxy hy (by decide) _ (by simp) hD) (fun h k => h.trans k) (Keeps.putObj (by simp)) (Below.refl _ _) (fun _ => rfl)
    (fun pre W => (W.cell? ⟨w.heap.size, 0, none⟩ = some (.int .i64 (sumD pre)) ∧ W.frozen? ⟨w.heap.size, 0, none⟩ = false) ∧ Below w.heap.size w W)
    (fun _ _ _ => False)
    (OwnFrom.and (Own.from (fun s A B row hs hg hr => ⟨cell_kept hs.1 hg hr, (frozen_kept hs.1 hg hr).trans hs.2⟩) _) (ownFrom_below (Nat.le_refl _) (by simp; omega)))
    (fun _ _ _ _ _ hs _ _ => hs)
    ⟨⟨by simp [go_sem, sumD], by simp [go_sem]⟩, hB0⟩
    (fun d => { tmps := #[.pointer (some ⟨a, 0, none⟩), .int .i64 x, .int .i64 y, undef, undef, undef, .int .i64 0, .pointer (some ⟨w.heap.size, 0, none⟩), .int .i64 d.1, .pointer (some ⟨a, 0, none⟩), .int .i64 x, .int .i64 y, .func (.func 137) #[] #[.pointer (some ⟨w.heap.size + 1, 0, none⟩), .pointer (some ⟨w.heap.size + 1 + 1, 0, none⟩), .pointer (some ⟨w.heap.size + 1 + 1 + 1, 0, none⟩)], .int .i64 d.1, undef, undef, undef, undef], defers := [] }) ?assign ?body ?done ?stop
  case assign =>
    intro l x W K hK
    gi_wp2
    exact hK
  case body =>
    rintro l pre d W ⟨⟨hc, hf⟩, hB⟩ hlen
    have b1 := sumD_bd pre
    have b2 := d.2
    have b3 : pre.length ≤ 10000 := by omega
    gi_wp2
    exact ⟨KeepsOthers.setCell _ _ _, ⟨by simp, fun k _ hk => Below.heap_setCell _ _ _ _ hk⟩, ⟨by rw [sumD_snoc]; exact World.cell?_setCell_same' _ _ _ (by rw [hc]; rfl), by rw [World.frozen?_setCell]; exact hf⟩, hB.setCell (p := ⟨w.heap.size, 0, none⟩) (Nat.le_refl _) _⟩
  case done =>
    rintro D ys W hD rfl ⟨⟨hc, _⟩, hB⟩ hK
    gi_wp2
    refine ⟨by simp, .inl ⟨_, _, rfl, run_takeDeferred hK, ?_⟩⟩
    exact ⟨_, results_tmp rfl _ _ _, by rw [show walkedS seed k c.walk x y = sumD (drawL (sourceS seed 1 k) c.walk (x / 100) hw (y / 100 - x / 100).toNat) from (sumD_drawL _ _ _ _ _).symm]; rfl, hB.trans (belowK_b (w := w) (Nat.le_refl _) W D _ _ (by simp at hD; omega) hK rfl rfl)⟩
  case stop =>
    rintro D c pre W _ _ h _
    exact h.elim
end Go.Proofs.YtlelamjbfjneiaaGreatDoor.Wd
