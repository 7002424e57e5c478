/- Contracts of layer 2: Ceil; what two spans have in common; a turn. -/
import Derived.Test.YtlelamjbfjneiaaCd
import Derived.Deep.RegionHeld3
import Derived.Deep.CutRange
namespace Go.Proofs.Ytlelamjbfjneiaa.Ct
open Go Go.RowKit
attribute [local go_sem] Oper.semAt_some
/-- rounded up -/
def ceilS (a b : Int) : Int := -((-a) / b)
theorem ceil_iff (a b x : Int) (hb : 1 ≤ b) : ceilS a b ≤ x ↔ a ≤ x * b := by
  unfold ceilS
  have h := Int.le_ediv_iff_mul_le (a := -x) (b := -a) (c := b) (by omega)
  rw [Int.neg_mul] at h
  omega
theorem ceil_up (a b : Int) (hb : 1 ≤ b) (h : 0 < a.tmod b) : a.tdiv b + 1 = ceilS a b := by
  have h1 : (-a).tmod b < 0 := by rw [Int.neg_tmod]; omega
  have h2 := floor_neg (-a) b hb h1
  rw [Int.neg_tdiv] at h2
  unfold ceilS
  omega
theorem ceil_at (a b : Int) (hb : 1 ≤ b) (h : ¬ 0 < a.tmod b) : a.tdiv b = ceilS a b := by
  have h1 : ¬ (-a).tmod b < 0 := by rw [Int.neg_tmod]; omega
  have h2 := floor_pos (-a) b hb h1
  rw [Int.neg_tdiv] at h2
  unfold ceilS
  omega
theorem ceilS_bd (a b B : Int) (hb : 1 ≤ b) (h : -B ≤ a ∧ a ≤ B) : -B ≤ ceilS a b ∧ ceilS a b ≤ B := by
  have h0 : 0 ≤ B := by omega
  refine ⟨?_, (ceil_iff a b B hb).2 ?_⟩
  · unfold ceilS
    have := Int.ediv_le_of_le_mul (a := -a) (b := B) (c := b) (by omega) (by have := Int.mul_le_mul_of_nonneg_left hb h0; omega)
    omega
  · have := Int.mul_le_mul_of_nonneg_left hb h0
    omega
theorem floorS_bd (a b B : Int) (hb : 1 ≤ b) (h : -B ≤ a ∧ a ≤ B) : -B ≤ a / b ∧ a / b ≤ B := by
  have := ceilS_bd (-a) b B hb (by omega)
  unfold ceilS at this
  rw [Int.neg_neg] at this
  omega
theorem ceil_any (a b : Int) (w : World) (h1 : -9000000000000000000 ≤ a ∧ a ≤ 9000000000000000000) (hb : 1 ≤ b ∧ b ≤ 9223372036854775807) :
    Calls Try.prog 73 #[.int .i64 a, .int .i64 b] w fun e w' => e = .returned (.int .i64 (ceilS a b)) ∧ w = w' := by
  have hd := tdiv_bd a b hb.1 (by omega) (by omega)
  have hm := tmod_bd a b hb.1
  have hc := ceilS_bd a b 9000000000000000000 hb.1 h1
  have hne : (b == 0) = false := by simp; omega
  have hnz : ¬ b = 0 := by omega
  have k1 : IntKind.i64.wrap (a.tdiv b) = a.tdiv b := IntWalk.i64_in _ (by omega)
  have k2 : IntKind.i64.wrap (a.tmod b) = a.tmod b := IntWalk.i64_in _ (by omega)
  by_cases h : 0 < a.tmod b
  · have H := Lib.hid (ceil_up a b hb.1 h)
    have k3 : IntKind.i64.wrap (a.tdiv b + 1) = a.tdiv b + 1 := by rw [H.out]; exact IntWalk.i64_in _ (by omega)
    clear hd hm hc
    go_enter Try.func73, Try.ntmps73
    go_wp2
    go_ret
    exact ⟨ret_i64 H.out, rfl⟩
  · have H := Lib.hid (ceil_at a b hb.1 h)
    clear hd hm hc
    go_enter Try.func73, Try.ntmps73
    go_wp2
    go_ret
    exact ⟨ret_i64 H.out, rfl⟩
theorem common_any (a b c d : Int) (w : World) :
    Calls Try.prog 75 #[.agg #[.int .i64 a, .int .i64 b], .agg #[.int .i64 c, .int .i64 d]] w fun e w' => e = .returned (.agg #[.int .i64 (max a c), .int .i64 (min b d)]) ∧ Below w.heap.size w w' := by
  obtain ⟨x, hx⟩ : ∃ x, max a c = x := ⟨_, rfl⟩
  obtain ⟨y, hy⟩ : ∃ y, min b d = y := ⟨_, rfl⟩
  rw [hx, hy]
  go_enter Try.func75, Try.ntmps75
  go_wp2
  all_goals
    refine bodyPost_ret (v := .agg #[.int .i64 x, .int .i64 y]) (by simp [results, Try.results75, go_sem]; omega) rfl ?_
    exact ⟨rfl, by go_grown⟩
/-- the span of a turn -/
def turnLo (c : Cnt) (x : Int) : Int := ceilS (x - faultS c) c.f
def turnHi (c : Cnt) (x : Int) : Int := (x + faultS c) / c.f
theorem fault_bd {c : Cnt} (h : CntIn c) : 0 ≤ faultS c ∧ faultS c ≤ 1500000000 := by
  have := h.j
  have := h.g
  unfold faultS
  omega
theorem CBox.far {X : World} {b b' o : Nat} {c : Cnt} {u : Value} (h : CBox X b c) (hne : b' ≠ b) : CBox (X.setCell ⟨b', o, none⟩ u) b c := by
  have k : ∀ {o' : Nat} {v : Value}, X.cell? ⟨b, o', none⟩ = some v → (X.setCell ⟨b', o, none⟩ u).cell? ⟨b, o', none⟩ = some v := fun hv => by rw [World.cell?_setCell_far _ _ _ _ hne]; exact hv
  exact ⟨k h.c0, k h.c1, k h.c2, k h.c3, k h.c4, k h.c5, k h.c6⟩
theorem CBox.cells {X : World} {b : Nat} {c : Cnt} (h : CBox X b c) : X.cell? ⟨b, 0, none⟩ = some (.int .i64 c.f) ∧ X.cell? ⟨b, 1, none⟩ = some (.int .i64 c.o) ∧ X.cell? ⟨b, 2, none⟩ = some (.int .i64 c.j) ∧ X.cell? ⟨b, 3, none⟩ = some (.int .i64 c.g) ∧ X.cell? ⟨b, 4, none⟩ = some (.int .i64 c.r) ∧ X.cell? ⟨b, 5, none⟩ = some (.int .i64 c.d) ∧ X.cell? ⟨b, 6, none⟩ = some (.int .i64 c.i) :=
  ⟨h.c0, h.c1, h.c2, h.c3, h.c4, h.c5, h.c6⟩
theorem below_go {A B C : World} (h : Below A.heap.size A B) (k : Below B.heap.size B C) : Below A.heap.size A C := h.trans (k.mono h.size)
set_option maxRecDepth 100000 in
set_option maxHeartbeats 4000000 in
theorem turn_any (c : Cnt) (x : Int) (w : World) (h : CntIn c) (hx : -4000000000000000000 ≤ x ∧ x ≤ 4000000000000000000) :
    Calls Try.prog 76 #[cntVal c, .int .i64 x] w fun e w' => e = .returned (.agg #[.int .i64 (turnLo c x), .int .i64 (turnHi c x)]) ∧ Below w.heap.size w w' := by
  have hf := h.f
  have hfa := fault_bd h
  have a0 := below_alloc (below_alloc (Below.refl w.heap.size w) (cntObj c)) (.cells #[.int .i64 0, .int .i64 0] 43)
  have hb0 : CBox ((w.alloc (cntObj c)).alloc (.cells #[.int .i64 0, .int .i64 0] 43)) w.heap.size c := (CBox.new w c).below (below_alloc (Below.refl _ _) _)
  have hr0 : ((w.alloc (cntObj c)).alloc (.cells #[.int .i64 0, .int .i64 0] 43)).cell? ⟨w.heap.size + 1, 0, none⟩ = some (.int .i64 0) ∧ ((w.alloc (cntObj c)).alloc (.cells #[.int .i64 0, .int .i64 0] 43)).cell? ⟨w.heap.size + 1, 1, none⟩ = some (.int .i64 0) := by
    unfold cntObj; exact ⟨by simp, by simp⟩
  have hfz : ((w.alloc (cntObj c)).alloc (.cells #[.int .i64 0, .int .i64 0] 43)).frozen? ⟨w.heap.size + 1, 0, none⟩ = false ∧ ((w.alloc (cntObj c)).alloc (.cells #[.int .i64 0, .int .i64 0] 43)).frozen? ⟨w.heap.size + 1, 1, none⟩ = false := by
    unfold cntObj; exact ⟨by simp, by simp⟩
  have A0 := Lib.hid a0
  have HB := Lib.hid hb0
  have HR := Lib.hid hr0
  have HFZ := Lib.hid hfz
  have HE := Lib.hid (fun W => error_any c W h)
  have HC := Lib.hid (fun W => ceil_any (x - faultS c) c.f W (by omega) (by omega))
  have HF := Lib.hid (fun W => floor_any (x + faultS c) c.f W (by omega) (by omega))
  have w1 : IntKind.i64.wrap (x - faultS c) = x - faultS c := IntWalk.i64_in _ (by omega)
  have w2 : IntKind.i64.wrap (x + faultS c) = x + faultS c := IntWalk.i64_in _ (by omega)
  have HLO : Hid (ceilS (x - faultS c) c.f = turnLo c x) := Lib.hid rfl
  have HHI : Hid ((x + faultS c) / c.f = turnHi c x) := Lib.hid rfl
  generalize faultS c = fa at *
  unfold cntVal at HE
  unfold cntObj at A0 HB HR HFZ
  unfold cntVal
  clear a0 hb0 hr0 hfz h hfa hx hf
  go_enter Try.func76, Try.ntmps76
  go_upto_region 1 with fail
  generalize (w.alloc (.cells #[.int .i64 c.f, .int .i64 c.o, .int .i64 c.j, .int .i64 c.g, .int .i64 c.r, .int .i64 c.d, .int .i64 c.i] 56)).alloc (.cells #[.int .i64 0, .int .i64 0] 43) = W0 at *
  have hB0 : Below W0.heap.size W0 W0.drew := Below.drew (Below.refl _ _)
  obtain ⟨c0, c1, c2, c3, c4, c5, c6⟩ := HB.out
  have hz := cell_lt c0
  have hz1 := cell_lt HR.out.1
  go_region_held3 (fun w' => w'.cell? ⟨w.heap.size, 0, none⟩ = some (.int .i64 c.f) ∧ w'.cell? ⟨w.heap.size, 1, none⟩ = some (.int .i64 c.o) ∧ w'.cell? ⟨w.heap.size, 2, none⟩ = some (.int .i64 c.j) ∧ w'.cell? ⟨w.heap.size, 3, none⟩ = some (.int .i64 c.g) ∧ w'.cell? ⟨w.heap.size, 4, none⟩ = some (.int .i64 c.r) ∧ w'.cell? ⟨w.heap.size, 5, none⟩ = some (.int .i64 c.d) ∧ w'.cell? ⟨w.heap.size, 6, none⟩ = some (.int .i64 c.i))
    (first | exact (HB.out.below hB0).cells | exact (HB.out.below hbk).cells | exact (((HB.out.below hbk).far (by omega)).far (by omega)).cells)
    (first | (go_at_call 36; refine (HE.out _).mono ?_; rintro e wk ⟨rfl, hbq⟩; have hbk := below_go (by first | exact hbk | exact hB0) hbq; clear hbq; have k0 := cell_below hbk HR.out.1; have k1 := cell_below hbk HR.out.2; have f0 := (hbk.frozen (p := ⟨w.heap.size + 1, 0, none⟩) hz1).trans HFZ.out.1; have f1 := (hbk.frozen (p := ⟨w.heap.size + 1, 1, none⟩) hz1).trans HFZ.out.2) |
      (go_at_call 73; refine (HC.out _).mono ?_; rintro e w' ⟨rfl, rfl⟩) | (go_at_call 69; refine (HF.out _).mono ?_; rintro e w' ⟨rfl, rfl⟩))
  all_goals
    have m0 := World.cell?_setCell_same wk ⟨w.heap.size + 1, 0, none⟩ (.int .i64 (turnLo c x)) k0
    have m0' : ((wk.setCell ⟨w.heap.size + 1, 0, none⟩ (.int .i64 (turnLo c x))).setCell ⟨w.heap.size + 1, 1, none⟩ (.int .i64 (turnHi c x))).cell? ⟨w.heap.size + 1, 0, none⟩ = some (.int .i64 (turnLo c x)) := by rw [World.cell?_setCell_other _ ⟨w.heap.size + 1, 1, none⟩ ⟨w.heap.size + 1, 0, none⟩ _ (fun e => by cases e)]; exact m0
    have m1' : ((wk.setCell ⟨w.heap.size + 1, 0, none⟩ (.int .i64 (turnLo c x))).setCell ⟨w.heap.size + 1, 1, none⟩ (.int .i64 (turnHi c x))).cell? ⟨w.heap.size + 1, 1, none⟩ = some (.int .i64 (turnHi c x)) := World.cell?_setCell_same _ _ _ (u := .int .i64 0) (by rw [World.cell?_setCell_other wk ⟨w.heap.size + 1, 0, none⟩ ⟨w.heap.size + 1, 1, none⟩ _ (fun e => by cases e)]; exact k1)
    rw [HLO.out, HHI.out]
    have HFIN := Lib.hid (((A0.out.trans (hbk.mono A0.out.size)).setCell (p := ⟨w.heap.size + 1, 0, none⟩) (by show w.heap.size ≤ w.heap.size + 1; omega) (.int .i64 (turnLo c x))).setCell (p := ⟨w.heap.size + 1, 1, none⟩) (by show w.heap.size ≤ w.heap.size + 1; omega) (.int .i64 (turnHi c x)))
    go_wp2_with fail
    refine bodyPost_ret (v := .agg #[.int .i64 (turnLo c x), .int .i64 (turnHi c x)]) (by simp [results, Try.results76, go_sem, m0', m1']) rfl ?_
    exact ⟨rfl, HFIN.out⟩
end Go.Proofs.Ytlelamjbfjneiaa.Ct
