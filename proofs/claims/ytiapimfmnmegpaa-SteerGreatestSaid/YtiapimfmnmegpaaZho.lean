/- Stage 6 (steer): whether each disturbance leads to a state for which a law is meant. -/
import Derived.Test.YtiapimfmnmegpaaZbe
namespace Go.Proofs.Ytiapimfmnmegpaa.St
open Go Go.RowKit Go.Shelf
attribute [local go_sem] Oper.semAt_some
def hldP (l r z : Int) (f : Nat → Int) (e q : Int) (D : Nat) : Bool := (thrL l r z f e q D).isEmpty
theorem hld_iff {l r z : Int} {f : Nat → Int} {e q : Int} {D : Nat} (hD : 2 * z + 1 = (D : Int)) : hldP l r z f e q D = true ↔ ∀ d : Int, -z ≤ d → d ≤ z → meaP l r f (e + q + d) q = true := by
  unfold hldP thrL
  rw [List.isEmpty_iff, List.filter_eq_nil_iff]
  constructor
  · intro h d h1 h2
    have := h ⟨(d + z).toNat, by omega⟩ ((fl_mem D D (Nat.le_refl _) _).2 (by show (d + z).toNat < D; omega))
    unfold thrP at this
    simp only [Bool.not_eq_true', Bool.not_eq_false] at this
    rw [show (((d + z).toNat : Nat) : Int) - z = d by omega] at this
    exact this
  · intro h k _
    have := h ((k.1 : Int) - z) (by omega) (by have := k.2; omega)
    unfold thrP
    simp [this]
/-- the boxes that threats makes -/
theorem thr_boxes (w : World) (l r s z : Int) (p : Option Addr) (N c : Nat) (e g q : Int) {w' : World}
    (h : ((w.alloc (.cells #[.int .i64 l, .int .i64 r, .int .i64 s, .int .i64 z, .slice p N c] 68)).alloc (.cells #[.int .i64 e, .int .i64 g] 56)).alloc (.cells #[.int .i64 q] 3) = w') :
    CtlAt w' w.heap.size l r s z p N c ∧ EntAt w' (w.heap.size + 1) e g ∧ Boxed w' (w.heap.size + 1 + 1) 3 (.int .i64 q) ∧ Below w.heap.size w w' ∧ w'.heap.size = w.heap.size + 3 := by
  obtain ⟨W0, hW0, h1, h2, h3, h4⟩ := ctl_start w l r s z p N c e g
  rw [hW0] at h
  have b3 := below_alloc (Below.refl W0.heap.size W0) (.cells #[.int .i64 q] 3)
  have h5 := Boxed.new W0 3 (.int .i64 q)
  rw [h4] at h5
  subst h
  exact ⟨h1.below b3, h2.below b3, h5, bt h3 b3, by simp [h4]⟩
set_option maxRecDepth 100000 in
set_option maxHeartbeats 4000000 in
theorem holds1_any (Bc Bs : Nat) (l r s z e g0 q : Int) (h : PlanOk l r s z) (he : (-1000 ≤ e ∧ e ≤ 1000) ∧ (-1000 ≤ q ∧ q ≤ 1000)) (fn : Nat → Int) (p : Option Addr) (N c : Nat) (hN : sizP l r = (N : Int)) (hc : N ≤ c) (D : Nat) (hD : 2 * z + 1 = (D : Int)) (w : World)
    (hC : CtlAt w Bc l r s z p N c) (hE : EntAt w Bs e g0) (hn : NumIn w fn N p) :
    Calls Try.prog 57 #[.int .i64 q, .pointer (some ⟨Bc, 0, none⟩), .pointer (some ⟨Bs, 0, none⟩)] w fun x w' => x = .returned (.bool (hldP l r z fn e q D)) ∧ Below w.heap.size w w' := by
  rw [show hldP l r z fn e q D = (thrL l r z fn e q D).isEmpty from rfl]
  obtain ⟨all, hall⟩ : ∃ all, thrL l r z fn e q D = all := ⟨_, rfl⟩
  rw [hall]
  have HALL := Lib.hid hall
  clear hall
  refine (callsIn_wide (n := 9)).1 ?_
  have hro : Fence.wide.round = none := rfl
  refine callsIn_of_wp_marks Try.func57 rfl trivial ?_ hro
  simp only [Try.ntmps57, List.size_toArray, List.length_cons, List.length_nil, Nat.reduceAdd, Nat.reduceSub, Array.replicate_succ, Array.replicate_zero, List.push_toArray, List.append_toArray, List.nil_append, List.cons_append]
  refine wpIn_wide.2 ?_
  obtain ⟨x0, x1, x2, x3, x4⟩ := hC.c
  have z0 := cell_lt x0
  have y0 := hE.c0
  have y1 := hE.c1
  have zy := cell_lt y0
  go_wp2_with (go_at_call 51; refine (threats_any _ _ _ _ _ _ _ _ _ _ _).mono ?_; rintro e w' ⟨rfl, hw'⟩)
  clear x0 x1 x2 x3 x4 z0 y0 y1 zy
  obtain ⟨W1, hW1⟩ : ∃ W1, w.alloc (.cells #[.bool false] 4) = W1 := ⟨_, rfl⟩
  have hB1 : Below w.heap.size w W1 := by rw [← hW1]; exact below_alloc (Below.refl _ _) _
  have hs1 : W1.heap.size = w.heap.size + 1 := by rw [← hW1]; simp
  have bR1 : Boxed W1 w.heap.size 4 (.bool false) := by rw [← hW1]; exact Boxed.new w _ _
  rw [hW1] at hw'
  obtain ⟨k1, k2, k3, k4, k5⟩ := thr_boxes W1 l r s z p N c e g0 q hw'
  rw [hs1] at k1 k2 k3 k5
  have hB2 := bt hB1 k4
  have bR2 := box_bel bR1 k4
  have hn2 := hn.below hB2
  clear hw' hW1
  have HST := threats1_f 8 (w.heap.size + 1) (w.heap.size + 1 + 1) (w.heap.size + 1 + 1 + 1) l r s z e g0 q h he fn p N c hN hc D hD (fun _ _ => True) (fun _ _ _ => trivial) (fun _ _ _ _ => trivial) (by decide) w' (fun _ _ => trivial) k1 k2 k3 hn2
  have hwn : w.heap.size < w'.heap.size := by omega
  rw [HALL.out] at HST
  refine (wpIn_wide (n := 9)).1 ?_
  refine range_f (by decide) (gf := 58) (lb := #[.pointer (some ⟨w.heap.size + 1, 0, none⟩), .pointer (some ⟨w.heap.size + 1 + 1, 0, none⟩), .pointer (some ⟨w.heap.size + 1 + 1 + 1, 0, none⟩)]) rfl (enters_of Try.func58 (by kernel_rfl) rfl) HST (fun _ => rfl)
    (fun pre X => pre = [] ∧ Boxed X w.heap.size 4 (.bool false) ∧ Below w.heap.size w X) (fun _ pre X => Boxed X w.heap.size 4 (.bool false) ∧ Below w.heap.size w X)
    (fun s X Y row hs hg hr => ⟨hs.1, cells_grown hg hr hs.2.1, hs.2.2.grown hg hs.2.2.size (fun k e => by have := (hr k e).1; omega)⟩)
    (fun _ s X Y row hs hg hr => ⟨cells_grown hg hr hs.1, hs.2.grown hg hs.2.size (fun k e => by have := (hr k e).1; omega)⟩) (fun _ _ _ => trivial) ⟨rfl, bR2, hB2⟩
    (fun x a' X => a' = { tmps := #[.int .i64 q, .pointer (some ⟨Bc, 0, none⟩), .pointer (some ⟨Bs, 0, none⟩), undef, .pointer (some ⟨w.heap.size, 0, none⟩), .agg #[.int .i64 l, .int .i64 r, .int .i64 s, .int .i64 z, .slice p N c], .agg #[.int .i64 e, .int .i64 g0], .int .i64 q, .func (.func 58) #[] #[.pointer (some ⟨w.heap.size + 1, 0, none⟩), .pointer (some ⟨w.heap.size + 1 + 1, 0, none⟩), .pointer (some ⟨w.heap.size + 1 + 1 + 1, 0, none⟩)], .int .i64 ((x.1 : Int) - z)], defers := [] })
    (fun _ _ _ _ _ _ hs _ _ => hs) ?assign ?body ?done ?stop
  case assign =>
    rintro l2 pre x X K i1 hK
    gi_wp2
    exact hK _ _ (KeepsFrom.refl _ _) (KpF.refl _ _) i1 (by simp [encT])
  case stop =>
    rintro D' pre x X hD' hpx ⟨i1, i2⟩ hK
    have hne : all.isEmpty = false := by
      obtain ⟨t, ht⟩ := hpx
      rw [← ht]
      cases pre <;> rfl
    have hb0 := i1.cell
    have hbx : Boxed (X.putObj D' (.deferred none)) w.heap.size 4 (.bool false) := (World.putObj_heap_other (by omega)).trans i1
    have hb1 := hbx.cell
    gi_wp2
    refine ⟨by simp, .inl ⟨_, _, rfl, run_takeDeferred hK, ?_⟩⟩
    refine ⟨.bool false, by simp [results, Try.results57, go_sem, hb1], by rw [hne], ?_⟩
    exact i2.grown (grownBy_putObj' _ D' _) i2.size (fun k e => by cases e; omega)
  case done =>
    rintro D' X hD' ⟨i0, i1, i2⟩ hK
    subst i0
    have hb0 := i1.cell
    have zb := cell_lt hb0
    have fb := i1.frozen
    have HS := Lib.hid (i1.set (.bool true))
    have HD := Lib.hid (show (X.setCell ⟨w.heap.size, 0, none⟩ (.bool true)).heap[D']? = some (.deferred (some [])) from (Below.heap_setCell _ _ _ _ (by show D' ≠ w.heap.size; omega)).trans hK)
    have HB := Lib.hid (i2.setCell (p := ⟨w.heap.size, 0, none⟩) (Nat.le_refl _) (.bool true))
    go_wp2_with fail
    generalize X.setCell ⟨w.heap.size, 0, none⟩ (.bool true) = X2 at *
    refine ⟨by simp, .inl ⟨_, _, rfl, run_takeDeferred HD.out, ?_⟩⟩
    have hbx : Boxed (X2.putObj D' (.deferred none)) w.heap.size 4 (.bool true) := (World.putObj_heap_other (by omega)).trans HS.out
    have hb1 := hbx.cell
    refine ⟨.bool true, by simp [results, Try.results57, go_sem, hb1], rfl, ?_⟩
    exact HB.out.grown (grownBy_putObj' _ D' _) HB.out.size (fun k e => by cases e; omega)
  case body =>
    rintro l2 pre x a' X _ ⟨i0, i1, i2⟩ rfl hlen
    have hb0 := i1.cell
    have zb := cell_lt hb0
    have fb := i1.frozen
    have HS := Lib.hid (i1.set (.bool false))
    have HB := Lib.hid (i2.setCell (p := ⟨w.heap.size, 0, none⟩) (Nat.le_refl _) (.bool false))
    have HK := Lib.hid (((KeepsOthers.setCell X ⟨w.heap.size, 0, none⟩ (.bool false))).from w'.heap.size)
    gi_wp2
    exact ⟨HK.out, HS.out, HB.out⟩
end Go.Proofs.Ytiapimfmnmegpaa.St
