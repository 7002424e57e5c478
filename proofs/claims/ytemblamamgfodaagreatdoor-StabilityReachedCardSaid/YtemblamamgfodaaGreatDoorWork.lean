/- Contracts of the methods of a clock at work. -/
import Derived.Test.YtemblamamgfodaaGreatDoorPast
import Derived.Test.YtemblamamgfodaaGreatDoorPlain
import Derived.Deep.RegionHeld3
namespace Go.Proofs.YtemblamamgfodaaGreatDoor.Wd
open Go Go.RowKit
theorem quiet_eq {P : Program} {f : FuncId} {args : Array Value} {w : World} {n : Nat} {v : Value}
    (h : Calls P f args (w.drewN n) fun e w' => e = .returned v ∧ w.drewN n = w') : Calls P f args (w.drewN n) fun e w'' => e = .returned v ∧ ∃ m, w'' = w.drewN m :=
  Calls.quiet_of_same (h.mono fun _ _ ⟨a, b⟩ => ⟨a, b.symm⟩)
theorem field_stopped (x y z : Value) (w : World) : (Instr.field 179 (.agg #[x, y, z]) 2).run Tryz.prog w = .ok z w := by kernel_rfl
theorem past_nil (a : Nat) (p : Option Addr) (cap : Nat) (s : Int) (w : World)
    (he : w.cell? ⟨a, 8, none⟩ = some (.slice p 0 cap)) :
    Calls Tryz.prog 105 #[.pointer (some ⟨a, 0, none⟩), .int .i64 s] w fun e w' => e = .returned (.agg #[.int .i64 0, .int .i64 0, .bool false]) ∧ Below w.heap.size w w' := by
  have hza := cell_lt he
  go_enter Tryz.func105, Tryz.ntmps105
  go_wp2
  go_rounds 1
  go_returns
  exact ⟨rfl, by go_grown⟩
def pastVal (p : Past) : Value := .agg #[.int .i64 p.jumped, .int .i64 p.kicked, .bool p.stopped]
theorem past_at {a m : Nat} {c : Clk} {seed k : Int} {r : Cham} {v : Value} (s : Int) (w : World) (h : AtWork w a m c seed k r v) (he : evsOk c.evs = true) (h0 : 0 ≤ s) (h1 : s ≤ 1000000) :
    Calls Tryz.prog 105 #[.pointer (some ⟨a, 0, none⟩), .int .i64 s] w fun e w' => e = .returned (pastVal (pastS s c.evs)) ∧ Below w.heap.size w w' := by
  obtain ⟨p, cap, hv, hm, hs⟩ := h.slice
  have h8 := h.evs
  rw [hv] at h8
  obtain ⟨hl, hok⟩ := evsOk_parts he
  rcases hs with hn | ⟨b, o, rfl, hc⟩
  · rw [hn] at h8
    rw [List.eq_nil_of_length_eq_zero hn]
    exact past_nil a p cap s w h8
  · exact past_any a m cap c.evs s w b o hl hok h0 h1 h8 hc h.map h.fx
set_option maxRecDepth 100000 in
theorem runs_at {a m : Nat} {c : Clk} {seed k : Int} {r : Cham} {v : Value} (s : Int) (w : World) (h : AtWork w a m c seed k r v) (he : evsOk c.evs = true) (h0 : 0 ≤ s) (h1 : s ≤ 1000000) :
    Calls Tryz.prog 73 #[.pointer (some ⟨a, 0, none⟩), .int .i64 s] w fun e w' => e = .returned (.bool (!(pastS s c.evs).stopped)) ∧ Below w.heap.size w w' := by
  have hc := past_at s w h he h0 h1
  unfold pastVal at hc
  have HC := Lib.hid hc
  clear hc h
  have hfl := field_stopped (.int .i64 (pastS s c.evs).jumped) (.int .i64 (pastS s c.evs).kicked) (.bool (pastS s c.evs).stopped)
  go_enter Tryz.func73, Tryz.ntmps73
  go_wp2_with (go_at_call 105; refine HC.out.mono ?_; rintro e w' ⟨rfl, hb⟩)
  go_ret
  exact ⟨rfl, hb⟩
theorem strayed_at {a m : Nat} {c : Clk} {seed k : Int} {r : Cham} {v : Value} (x y : Int) (w : World) (h : AtWork w a m c seed k r v) (hc : ClkIn c) (h0 : 0 ≤ x) (h1 : x ≤ y) (h2 : y ≤ 1000000) :
    Calls Tryz.prog 56 #[.pointer (some ⟨a, 0, none⟩), .int .i64 x, .int .i64 y] w fun e w' => e = .returned (.int .i64 (strayedS c x y)) ∧ w = w' := by
  have h5 := h.nums.2.2.2.2.2.1
  simp only [Nat.zero_add] at h5
  obtain ⟨w0, w1⟩ := hc.walk
  have hd : 0 ≤ y / 100 - x / 100 := by omega
  have hd' : y / 100 - x / 100 ≤ 10000 := by omega
  have hm := mul_bd c.walk (y / 100 - x / 100) 1000000000 10000 (by omega) ⟨hd, hd'⟩
  clear hd hd' h hc
  go_enter Tryz.func56, Tryz.ntmps56
  go_wp2
  go_ret
  exact ⟨rfl, rfl⟩
set_option maxRecDepth 100000 in
theorem white_at {a m : Nat} {c : Clk} {seed k : Int} {r : Cham} {v : Value} (s : Int) (w : World) (h : AtWork w a m c seed k r v) (hc : ClkIn c) (h0 : 0 ≤ s) (h1 : s ≤ 1000000) (hk : 0 ≤ k ∧ k ≤ 16) :
    Calls Tryz.prog 75 #[.pointer (some ⟨a, 0, none⟩), .int .i64 s] w fun e w' => e = .returned (.int .i64 (whiteS seed k c s)) ∧ Below w.heap.size w w' := by
  have h4 := h.nums.2.2.2.2.1
  have h9 := h.seed
  have h10 := h.index
  simp only [Nat.zero_add] at h4
  obtain ⟨w0, w1⟩ := hc.white
  clear h hc
  go_enter Tryz.func75, Tryz.ntmps75
  go_wp2
  go_quiet ((first | (go_at_call 112; exact quiet_eq (source_any _ _ _ _ (by omega) (by omega) (by omega) (by omega))) | (go_at_call 111; exact quiet_eq (draw_any _ _ _ _ (by omega) (by omega) (by omega) (by omega)))))
  go_wp2
  go_ret
  exact ⟨rfl, by refine below_drewN ?_ _; go_grown⟩
theorem floor_q (a b : Int) {w : World} {n : Nat} (h1 : -9223372036854775807 ≤ a ∧ a ≤ 9223372036854775807) (hb : 1 ≤ b ∧ b ≤ 9223372036854775807) :
    Calls Tryz.prog 106 #[.int .i64 a, .int .i64 b] (w.drewN n) fun e w'' => e = .returned (.int .i64 (a / b)) ∧ ∃ m, w'' = w.drewN m :=
  quiet_eq (floor_any a b _ h1.1 h1.2 hb.1 hb.2)
theorem temp_keep (W0 : World) (c : Cham) (s : Int) (w : World) (hb : Below W0.heap.size W0 w) (h1 : chamOk c = true) (h4 : 0 ≤ s) (h5 : s ≤ 1000000) :
    Calls Tryz.prog 107 #[.agg #[.int .i64 c.base, .int .i64 c.swing, .int .i64 c.period], .int .i64 s] w fun e w' => e = .returned (.int .i64 (tempS c s)) ∧ Below W0.heap.size W0 w' :=
  (temp_any c s w h1 h4 h5).mono fun _ _ ⟨a, b⟩ => ⟨a, hb.trans (b.mono hb.size)⟩
set_option maxRecDepth 100000 in
set_option maxHeartbeats 1000000 in
theorem fixed_at {a m : Nat} {c : Clk} {seed k : Int} {r : Cham} {v : Value} (s : Int) (w : World) (h : AtWork w a m c seed k r v) (hc : ClkIn c) (hr : chamOk r = true) (h0 : 0 ≤ s) (h1 : s ≤ 1000000) :
    Calls Tryz.prog 55 #[.pointer (some ⟨a, 0, none⟩), .int .i64 s] w fun e w' => e = .returned (.int .i64 (fixedS c r s)) ∧ Below w.heap.size w w' := by
  have hp := past_at s w h hc.evs h0 h1
  unfold pastVal at hp
  have HP := Lib.hid hp
  obtain ⟨p1, p2⟩ := past_bd hc s h0 h1
  obtain ⟨g1, g2⟩ := aged_bd hc s h0 h1
  obtain ⟨t1, t2⟩ := warm_bd hc hr s
  obtain ⟨q1, q2⟩ := half_bd s h0 h1
  have rb := rate_bd hc s h0 h1
  have cp := hc.phase
  have hfin : fixedS c r s = c.phase + (c.rate * s + (pastS s c.evs).kicked + c.drift * (s * (s - 1) / 2) / 86400) / 1000 + c.heat * (tempS r s - tempS r 0) + (pastS s c.evs).jumped := rfl
  have HF := Lib.hid hfin
  have H := Lib.hid h
  have HR := Lib.hid hr
  unfold agedS at g2
  unfold warmedS at t2
  clear hp hc hfin h hr
  generalize pastS s c.evs = p at *
  obtain ⟨ju, ki, st⟩ := p
  dsimp only at p1 p2
  have g3 : -100000000000000 ≤ (c.rate * s + ki + c.drift * (s * (s - 1) / 2) / 86400) / 1000 ∧ (c.rate * s + ki + c.drift * (s * (s - 1) / 2) / 86400) / 1000 ≤ 100000000000000 := by omega
  go_enter Tryz.func55, Tryz.ntmps55
  go_wp2_with fail
  refine HP.out.mono ?_
  rintro e w1 ⟨rfl, hb⟩
  have hw1 := H.out.below hb
  have HB := Lib.hid hb
  obtain ⟨-, c1, c2, c3, -, -, c6, -⟩ := hw1.nums
  obtain ⟨r1, r2, r3⟩ := hw1.room
  simp only [Nat.zero_add, Nat.reduceAdd] at c1 c2 c3 c6 r1 r2 r3
  have hz := cell_lt c3
  have HW := Lib.hid hw1
  clear hw1 hb
  go_wp2_with (go_at_call 106; refine (floor_any _ _ _ (by omega) (by omega) (by omega) (by omega)).mono ?_; rintro e w' ⟨rfl, rfl⟩)
  go_quiet ((go_at_call 106; exact floor_q _ _ (by omega) (by omega)))
  go_wp2_with fail
  have z1 := Below.cell (p := ⟨w1.heap.size, 0, none⟩) (Below.refl (w1.heap.size + 1) (w1.alloc (.cells #[.int .i64 ju, .int .i64 ki, .bool st] 179))) (by simp)
  obtain ⟨W0, hW0⟩ : ∃ W0, W0 = (w1.alloc (.cells #[.int .i64 ju, .int .i64 ki, .bool st] 179)) := ⟨_, rfl⟩
  have k0 : W0.cell? ⟨w1.heap.size, 0, none⟩ = some (.int .i64 ju) := by rw [hW0]; simp
  have hbw : Below w1.heap.size w1 W0 := by rw [hW0]; exact (Below.refl _ _).alloc (Nat.le_refl _) _
  have k1 := cell_below hbw c1
  have k6 := cell_below hbw c6
  have m1 := cell_below hbw r1
  have m2 := cell_below hbw r2
  have m3 := cell_below hbw r3
  rw [← hW0]
  clear z1 c1 c2 c3 c6 r1 r2 r3 hz g1 g2 q1 q2
  have HBW := Lib.hid hbw
  have HW0 := Lib.hid hW0
  clear hbw hW0
  have u1 := IntWalk.i64_in (tempS r s - tempS r 0) (by omega)
  have u2 := IntWalk.i64_in (c.heat * (tempS r s - tempS r 0)) (by omega)
  go_region_held3 (fun w' => Below W0.heap.size W0 w' ∧ w'.cell? ⟨a, 6, none⟩ = some (.int .i64 c.heat) ∧ w'.cell? ⟨a, 11, none⟩ = some (.int .i64 r.base) ∧ w'.cell? ⟨a, 12, none⟩ = some (.int .i64 r.swing) ∧ w'.cell? ⟨a, 13, none⟩ = some (.int .i64 r.period))
    (first | exact ⟨below_drewN (Below.refl _ _) _, k6, m1, m2, m3⟩ | exact ⟨Below.drew (below_drewN (Below.refl _ _) _), k6, m1, m2, m3⟩ | exact ⟨(by assumption), cell_below (by assumption) k6, cell_below (by assumption) m1, cell_below (by assumption) m2, cell_below (by assumption) m3⟩)
    (first | (go_at_call 107; refine (temp_keep W0 r _ _ (by first | assumption | exact below_drewN (Below.refl _ _) _ | exact Below.drew (below_drewN (Below.refl _ _) _)) HR.out (by first | assumption | decide) (by first | assumption | decide)).mono ?_; rintro e w2 ⟨rfl, hb2⟩))
  clear u1 u2
  have n0 := cell_below hb2 k0
  have n1 := cell_below hb2 k1
  go_wp2_with fail
  go_quiet (fail)
  go_wp2
  go_ret
  refine ⟨ret_i64 HF.out.symm, ?_⟩
  exact below_drewN (HB.out.trans ((HBW.out.trans (hb2.mono HBW.out.size)).mono HB.out.size)) _
end Go.Proofs.YtemblamamgfodaaGreatDoor.Wd
