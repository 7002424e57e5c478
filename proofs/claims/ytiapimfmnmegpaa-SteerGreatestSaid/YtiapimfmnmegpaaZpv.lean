/- Stage 6 (steer): whether a law is proved; Prove. -/
import Derived.Test.YtiapimfmnmegpaaZaw
namespace Go.Proofs.Ytiapimfmnmegpaa.St
open Go Go.RowKit Go.Shelf
attribute [local go_sem] Oper.semAt_some
/-- the number of a state can be taken there, and holds -/
def okL (l r s z : Int) (f : Nat → Int) (D k : Nat) : Bool := allP r s (stQ r k) (f k) && hldP l r z f (stE l r k) (f k) D
def provP (l r s z : Int) (f : Nat → Int) (D N : Nat) : Bool := (meaL f N).all fun k => okL l r s z f D k.1
theorem prov_iff {l r s z : Int} {f : Nat → Int} {D N : Nat} : provP l r s z f D N = true ↔ ∀ k, k < N → f k < 1000 → okL l r s z f D k = true := by
  unfold provP
  rw [List.all_eq_true]
  constructor
  · intro h k hk hf
    exact h ⟨k, hk⟩ (meaL_mem.2 hf)
  · intro h d hd
    exact h d.1 d.2 (meaL_mem.1 hd)
set_option maxRecDepth 100000 in
set_option maxHeartbeats 4000000 in
theorem isProved_any {l r s z : Int} (h : PlanOk l r s z) (fn : Nat → Int) (b o : Nat) (N c D : Nat) (hN : sizP l r = (N : Int)) (hc : N ≤ c) (hD : 2 * z + 1 = (D : Int)) (w : World) (hn : NumIn w fn N (some ⟨b, o, none⟩)) :
    Calls Try.prog 38 #[.agg #[.int .i64 l, .int .i64 r, .int .i64 s, .int .i64 z, .slice (some ⟨b, o, none⟩) N c]] w fun e w' => e = .returned (.bool (provP l r s z fn D N)) ∧ Below w.heap.size w w' := by
  have HPR := Lib.hid (show provP l r s z fn D N = (meaL fn N).all fun k => okL l r s z fn D k.1 from rfl)
  obtain ⟨res, hres⟩ : ∃ res, provP l r s z fn D N = res := ⟨_, rfl⟩
  rw [hres] at HPR ⊢
  clear hres
  refine (callsIn_wide (n := 9)).1 ?_
  have hro : Fence.wide.round = none := rfl
  refine callsIn_of_wp_marks Try.func38 rfl trivial ?_ hro
  simp only [Try.ntmps38, List.size_toArray, List.length_cons, List.length_nil, Nat.reduceAdd, Nat.reduceSub, Array.replicate_succ, Array.replicate_zero, List.push_toArray, List.append_toArray, List.nil_append, List.cons_append]
  refine wpIn_wide.2 ?_
  obtain ⟨W0, hW0, k1, k2, k3, k4⟩ : ∃ W0, (w.alloc (.cells #[.int .i64 l, .int .i64 r, .int .i64 s, .int .i64 z, .slice (some ⟨b, o, none⟩) N c] 68)).alloc (.cells #[.bool false] 4) = W0 ∧ CtlAt W0 w.heap.size l r s z (some ⟨b, o, none⟩) N c ∧ Boxed W0 (w.heap.size + 1) 4 (.bool false) ∧ Below w.heap.size w W0 ∧ W0.heap.size = w.heap.size + 2 := by
    refine ⟨_, rfl, ?_⟩
    have b1 := below_alloc (Below.refl w.heap.size w) (.cells #[.int .i64 l, .int .i64 r, .int .i64 s, .int .i64 z, .slice (some ⟨b, o, none⟩) N c] 68)
    have h1 := CtlAt.new w l r s z (some ⟨b, o, none⟩) N c
    have e1 : (w.alloc (.cells #[.int .i64 l, .int .i64 r, .int .i64 s, .int .i64 z, .slice (some ⟨b, o, none⟩) N c] 68)).heap.size = w.heap.size + 1 := by simp
    generalize w.alloc (.cells #[.int .i64 l, .int .i64 r, .int .i64 s, .int .i64 z, .slice (some ⟨b, o, none⟩) N c] 68) = W1 at *
    have b2 := below_alloc (Below.refl W1.heap.size W1) (.cells #[.bool false] 4)
    have h2 := Boxed.new W1 4 (.bool false)
    rw [e1] at h2
    exact ⟨h1.below b2, h2, bt b1 b2, by simp [e1]⟩
  go_upto_region 1 with fail
  clear hW0
  obtain ⟨x0, x1, x2, x3, x4⟩ := k1.c
  have z0 := cell_lt x0
  go_wp2_with (go_at_call 48; refine (means_any _ _ _ _ _ _ _ _).mono ?_; rintro e w2 ⟨rfl, hw2⟩)
  clear x0 x1 x2 x3 x4 z0
  have b3 := below_alloc (Below.refl W0.heap.size W0) (.cells #[.int .i64 l, .int .i64 r, .int .i64 s, .int .i64 z, .slice (some ⟨b, o, none⟩) N c] 68)
  have k5 := CtlAt.new W0 l r s z (some ⟨b, o, none⟩) N c
  rw [k4] at k5
  have hs2 : w2.heap.size = w.heap.size + 3 := by rw [← hw2]; simp [k4]
  rw [hw2] at b3 k5
  have k1' := k1.below b3
  have k2' := box_bel k2 b3
  have hB2 := bt k3 b3
  have hn2 := hn.below hB2
  clear hw2 k1 k2 b3 k3 k4
  have HST := meant1_f 8 (w.heap.size + 2) b o l r s z h N c hN (fun k => decide (fn k < 1000)) (fun _ _ => True) (fun _ _ _ => trivial) (by decide) w2 k5
  have HSZ := Lib.hid (siz_bd h)
  have hwn : w.heap.size + 1 < w2.heap.size := by omega
  refine (wpIn_wide (n := 9)).1 ?_
  refine range_f (by decide) (gf := 55) (lb := #[.pointer (some ⟨w.heap.size + 2, 0, none⟩)]) rfl (enters_of Try.func55 (by kernel_rfl) rfl) HST (fun _ => rfl)
    (fun pre X => (∀ d ∈ pre, okL l r s z fn D d.1 = true) ∧ CtlAt X w.heap.size l r s z (some ⟨b, o, none⟩) N c ∧ Boxed X (w.heap.size + 1) 4 (.bool false) ∧ NumIn X fn N (some ⟨b, o, none⟩) ∧ Below w.heap.size w X) (fun _ pre X => (∃ (p : List (Fin N)) (d : Fin N), pre = p ++ [d] ∧ okL l r s z fn D d.1 = false) ∧ Boxed X (w.heap.size + 1) 4 (.bool false) ∧ Below w.heap.size w X)
    (fun pre X Y row hs hg hr => ⟨hs.1, cells_grown hg hr hs.2.1, cells_grown hg hr hs.2.2.1, hs.2.2.2.1.kp (kpf_grown (f := fun _ _ => True) hg hr) (fun _ _ _ _ => trivial), hs.2.2.2.2.grown hg hs.2.2.2.2.size (fun k e => by have := (hr k e).1; omega)⟩)
    (fun _ pre X Y row hs hg hr => ⟨hs.1, cells_grown hg hr hs.2.1, hs.2.2.grown hg hs.2.2.size (fun k e => by have := (hr k e).1; omega)⟩)
    (fun pre X hs k hk => by
      obtain ⟨b', o', e, hi⟩ := hs.2.2.2.1.resolve_left (by omega)
      cases e
      exact ⟨_, hi k hk, rfl⟩)
    ⟨by simp, k1', k2', hn2, hB2⟩
    (fun d a' X => ∃ Bh, EntAt X Bh (stE l r d.1) (stQ r d.1) ∧ a' = { tmps := #[.agg #[.int .i64 l, .int .i64 r, .int .i64 s, .int .i64 z, .slice (some ⟨b, o, none⟩) N c], .pointer (some ⟨w.heap.size, 0, none⟩), .pointer (some ⟨w.heap.size + 1, 0, none⟩), .int .i64 (d.1 : Int), .pointer (some ⟨Bh, 0, none⟩), undef, .agg #[.int .i64 l, .int .i64 r, .int .i64 s, .int .i64 z, .slice (some ⟨b, o, none⟩) N c], .func (.func 55) #[] #[.pointer (some ⟨w.heap.size + 2, 0, none⟩)], .int .i64 (d.1 : Int), .agg #[.int .i64 (stE l r d.1), .int .i64 (stQ r d.1)], undef, undef, undef, undef, undef, undef, undef, undef, undef, undef, undef, undef, undef, undef, undef, undef, undef, undef, undef], defers := [] })
    (fun d a' _ X Y row hs hg hr => by
      obtain ⟨Bh, e1, e2⟩ := hs
      exact ⟨Bh, cells_grown hg hr e1, e2⟩) ?assign ?body ?done ?stop
  case assign =>
    rintro l2 pre d X K ⟨e1, e2, e3, e4, e5⟩ hK
    unfold encS
    gi_wp2
    have hb := below_alloc (Below.refl X.heap.size X) (.cells #[.int .i64 (stE l r d.1), .int .i64 (stQ r d.1)] 56)
    exact hK _ _ ((KeepsOthers.alloc _ _).from _) (KpF.of_below hb) ⟨e1, e2.below hb, box_bel e3 hb, e4.below hb, bt e5 hb⟩ ⟨_, World.alloc_heap_new _ _, rfl⟩
  case stop =>
    rintro D' pre x X hD' hpx ⟨⟨p, d, hpd, hok⟩, i1, i2⟩ hK
    have hres : res = false := by
      rw [HPR.out]
      obtain ⟨tl, htl⟩ := hpx
      obtain ⟨-, hxd⟩ := List.append_inj' hpd rfl
      rw [show meaL fn N = pre ++ [x] ++ tl from htl.symm]
      cases hxd
      simp [hok]
    have hbx : Boxed (X.putObj D' (.deferred none)) (w.heap.size + 1) 4 (.bool false) := (World.putObj_heap_other (by omega)).trans i1
    have hb1 := hbx.cell
    gi_wp2
    refine ⟨by simp, .inl ⟨_, _, rfl, run_takeDeferred hK, ?_⟩⟩
    refine ⟨.bool false, by simp [results, Try.results38, go_sem, hb1], by rw [hres], ?_⟩
    exact i2.grown (grownBy_putObj' _ D' _) i2.size (fun k e => by cases e; omega)
  case done =>
    rintro D' X hD' ⟨e1, e2, e3, e4, e5⟩ hK
    have hres : res = true := by
      rw [HPR.out, List.all_eq_true]
      exact e1
    have hb0 := e3.cell
    have zb := cell_lt hb0
    have fb := e3.frozen
    have HS := Lib.hid (e3.set (.bool true))
    have HD := Lib.hid (show (X.setCell ⟨w.heap.size + 1, 0, none⟩ (.bool true)).heap[D']? = some (.deferred (some [])) from (Below.heap_setCell _ _ _ _ (by show D' ≠ w.heap.size + 1; omega)).trans hK)
    have HB := Lib.hid (e5.setCell (p := ⟨w.heap.size + 1, 0, none⟩) (Nat.le_succ _) (.bool true))
    clear e1 e2 e3 e4 e5
    go_wp2_with fail
    generalize X.setCell ⟨w.heap.size + 1, 0, none⟩ (.bool true) = X2 at *
    refine ⟨by simp, .inl ⟨_, _, rfl, run_takeDeferred HD.out, ?_⟩⟩
    have hbx : Boxed (X2.putObj D' (.deferred none)) (w.heap.size + 1) 4 (.bool true) := (World.putObj_heap_other (by omega)).trans HS.out
    have hb1 := hbx.cell
    refine ⟨.bool true, by simp [results, Try.results38, go_sem, hb1], by rw [hres], ?_⟩
    exact HB.out.grown (grownBy_putObj' _ D' _) HB.out.size (fun k e => by cases e; omega)
  case body =>
    rintro l2 pre d a' X hd ⟨e1, e2, e3, e4, e5⟩ ⟨Bh, hB, rfl⟩ hlen
    obtain ⟨b', o', e, hi⟩ := e4.resolve_left (by have := d.2; omega)
    cases e
    have hv := hi d.1 d.2
    have zv := cell_lt hv
    obtain ⟨x0, x1, x2, x3, x4⟩ := e2.c
    have zx := cell_lt x0
    have y0 := hB.c0
    have y1 := hB.c1
    have zy := cell_lt y0
    have hk0 : (0 : Int) ≤ (d.1 : Int) := by omega
    have hkN : (d.1 : Int) < N := by have := d.2; omega
    have hkn := d.2
    obtain ⟨⟨hs1, hs2'⟩, hs3, hs4⟩ := st_bd h hN d.2
    have hl2 := h.l2
    have hr2 := h.r2
    have HAL := Lib.hid (fun W => allows_any (e := stE l r d.1) (g := stQ r d.1) (q := fn d.1) h ⟨hs3, hs4⟩ W)
    have HOK := Lib.hid (show okL l r s z fn D d.1 = (allP r s (stQ r d.1) (fn d.1) && hldP l r z fn (stE l r d.1) (fn d.1) D) from rfl)
    have HFI := Lib.hid (fun (hno : okL l r s z fn D d.1 = false) X2 (hb2 : Below X.heap.size X X2) => show endsF w2.heap.size (KpF fun _ _ => True) (fun pre X => (∀ d ∈ pre, okL l r s z fn D d.1 = true) ∧ CtlAt X w.heap.size l r s z (some ⟨b, o, none⟩) N c ∧ Boxed X (w.heap.size + 1) 4 (.bool false) ∧ NumIn X fn N (some ⟨b, o, none⟩) ∧ Below w.heap.size w X) (fun _ pre X => (∃ (p : List (Fin N)) (d : Fin N), pre = p ++ [d] ∧ okL l r s z fn D d.1 = false) ∧ Boxed X (w.heap.size + 1) 4 (.bool false) ∧ Below w.heap.size w X) (pre ++ [d]) X .ret { tmps := #[], defers := [] } (X2.setCell ⟨w.heap.size + 1, 0, none⟩ (.bool false)) from
      ⟨(keeps_below hb2).trans ((KeepsOthers.setCell _ _ _).from _), ⟨pre, d, rfl, hno⟩, (box_bel e3 hb2).set _, (bt e5 hb2).setCell (p := ⟨w.heap.size + 1, 0, none⟩) (Nat.le_succ _) _⟩)
    cases ha : allP r s (stQ r d.1) (fn d.1)
    · have hno : okL l r s z fn D d.1 = false := by rw [HOK.out, ha]; rfl
      rw [ha] at HAL
      have HE := Lib.hid (HFI.out hno)
      clear ha hno HFI HOK
      gi_wp2
      refine ⟨trivial, (CallsIn.inRound l2 (callsIn_wide.2 (HAL.out X))).mono ?_⟩
      rintro e' X2 ⟨rfl, hb2⟩
      have c0 := (box_bel e3 hb2).cell
      have f0 := (box_bel e3 hb2).frozen
      have z0 := cell_lt c0
      have HE2 := Lib.hid (HE.out X2 hb2)
      clear x0 x1 x2 x3 x4 zx y0 y1 zy hv zv hb2
      gi_wp2
      refine ⟨trivial, ?_⟩
      go_at_K
      gi_wp2
      refine ⟨fun _ h => (by cases h), ?_⟩
      go_at_K
      gi_wp2
      exact HE2.out
    · have hok : okL l r s z fn D d.1 = hldP l r z fn (stE l r d.1) (fn d.1) D := by rw [HOK.out, ha]; rfl
      rw [ha] at HAL
      have hqa : -1000 ≤ fn d.1 ∧ fn d.1 ≤ 1000 := by have := all_bd ha; omega
      have hea : -1000 ≤ stE l r d.1 ∧ stE l r d.1 ≤ 1000 := by omega
      clear ha HOK
      have HALL := Lib.hid (fun W => holdf_any l r s z (stE l r d.1) (stQ r d.1) (some ⟨b, o, none⟩) N c W)
      gi_wp2
      refine ⟨trivial, (CallsIn.inRound l2 (callsIn_wide.2 (HAL.out X))).mono ?_⟩
      rintro e' X2 ⟨rfl, hb2⟩
      have HE2 := Lib.hid (e2.below hb2)
      have HBE := Lib.hid (hB.below hb2)
      have HN2 := Lib.hid (NumIn.below e4 hb2)
      have HB2 := Lib.hid hb2
      clear x0 x1 x2 x3 x4 zx y0 y1 zy
      obtain ⟨x0, x1, x2, x3, x4⟩ := HE2.out.c
      have zx := cell_lt x0
      have y0 := HBE.out.c0
      have y1 := HBE.out.c1
      have zy := cell_lt y0
      clear hv zv hb2
      gi_wp2
      refine ⟨trivial, (CallsIn.inRound l2 (callsIn_wide.2 (HALL.out X2))).mono ?_⟩
      rintro e' X3 ⟨rfl, hw3⟩
      obtain ⟨X3', hX3', j1, j2, j3, j4⟩ := ctl_start X2 l r s z (some ⟨b, o, none⟩) N c (stE l r d.1) (stQ r d.1)
      rw [hX3'] at hw3
      subst hw3
      clear hX3' x0 x1 x2 x3 x4 zx y0 y1 zy
      have HHO := Lib.hid (holds1_any X2.heap.size (X2.heap.size + 1) l r s z (stE l r d.1) (stQ r d.1) (fn d.1) h ⟨hea, hqa⟩ fn (some ⟨b, o, none⟩) N c hN hc D hD X3' j1 j2 (HN2.out.below j3))
      have HB3 := Lib.hid (bt HB2.out j3)
      clear j1 j2 j3 j4
      cases hMd : hldP l r z fn (stE l r d.1) (fn d.1) D
      · have HE := Lib.hid (HFI.out (hok.trans hMd))
        rw [hMd] at HHO
        clear hok hMd HFI
        gi_wp2
        refine ⟨trivial, (CallsIn.inRound l2 (callsIn_wide.2 HHO.out)).mono ?_⟩
        rintro e' X4 ⟨rfl, hb4⟩
        have hb5 := bt HB3.out hb4
        have c0 := (box_bel e3 hb5).cell
        have f0 := (box_bel e3 hb5).frozen
        have z0 := cell_lt c0
        have HE5 := Lib.hid (HE.out X4 hb5)
        clear hb4 hb5
        gi_wp2
        exact HE5.out
      · have HO := Lib.hid (hok.trans hMd)
        rw [hMd] at HHO
        clear hok hMd HFI
        gi_wp2
        refine ⟨trivial, (CallsIn.inRound l2 (callsIn_wide.2 HHO.out)).mono ?_⟩
        rintro e' X4 ⟨rfl, hb4⟩
        have HB5 := Lib.hid (bt HB3.out hb4)
        clear hb4
        gi_wp2
        refine ⟨keeps_below HB5.out, KpF.of_below HB5.out, ?_, e2.below HB5.out, box_bel e3 HB5.out, NumIn.below (.inr ⟨b, o, rfl, hi⟩) HB5.out, bt e5 HB5.out⟩
        intro x hx
        rcases List.mem_append.1 hx with hx | hx
        · exact e1 x hx
        · rw [List.mem_singleton.1 hx]; exact HO.out
end Go.Proofs.Ytiapimfmnmegpaa.St
