/- Layer 2, the reference: Resolve. -/
import Derived.Test.YtlelamjbfjneiaaSb
import Derived.Test.YtlelamjbfjneiaaSd
namespace Go.Proofs.Ytlelamjbfjneiaa.Ct
open Go Go.RowKit Go.Shelf
attribute [local go_sem] Oper.semAt_some
def refResS (c : Cnt) (m lo hi : Int) : (Int × Int) × Int :=
  if cntB c = true then (if (showB c m && inDiff lo && inDiff hi) = true then (if hi < lo then ((0, 0), 1) else pickS (refL c m lo hi)) else ((0, 0), 6)) else ((0, 0), 30)
theorem refRes_same (c : Cnt) (m lo hi : Int) : refResS c m lo hi = resolveS c m lo hi := by
  unfold refResS resolveS resS
  by_cases hc : cntB c = true
  · rw [if_pos hc, if_pos hc]
    by_cases hs : (showB c m && inDiff lo && inDiff hi) = true
    · rw [if_pos hs, if_pos hs]
      by_cases hl : hi < lo
      · rw [if_pos hl, if_pos hl]
      · rw [if_neg hl, if_neg hl]; exact ref_same (cntB_in hc) m lo hi (by omega)
    · rw [if_neg hs, if_neg hs]
  · rw [if_neg hc, if_neg hc]
theorem res_six {c : Cnt} {m lo hi : Int} (hc : cntB c = true) (h : m < -(c.r / 2) ∨ c.r / 2 ≤ m ∨ lo < -1000000000000000 ∨ 1000000000000000 < lo ∨ hi < -1000000000000000 ∨ 1000000000000000 < hi) : refResS c m lo hi = ((0, 0), 6) := by
  unfold refResS
  rw [if_pos hc, if_neg]
  unfold showB inDiff
  simp only [Bool.and_eq_true, decide_eq_true_eq]
  omega
def rrsW (w : World) (c : Cnt) (lo hi : Int) : World := ((w.alloc (rcObj c)).alloc (.cells #[.int .i64 lo, .int .i64 hi] 43)).alloc (.cells #[.int .i64 0, .int .i64 0] 43)
theorem rrs_new (w : World) (c : Cnt) (lo hi : Int) : RsvIn (rrsW w c lo hi) w.heap.size c lo hi ∧ Below w.heap.size w (rrsW w c lo hi) := by
  have e1 : (w.alloc (rcObj c)).heap.size = w.heap.size + 1 := by simp
  have e2 : ∀ v, ((w.alloc (rcObj c)).alloc v).heap.size = w.heap.size + 1 + 1 := by simp
  have k : ∀ (X : World) (x y : Int) (t : TypeId), (X.alloc (.cells #[.int .i64 x, .int .i64 y] t)).frozen? ⟨X.heap.size, 0, none⟩ = false ∧ (X.alloc (.cells #[.int .i64 x, .int .i64 y] t)).frozen? ⟨X.heap.size, 1, none⟩ = false := fun X x y t => ⟨by simp, by simp⟩
  have b1 := below_alloc (Below.refl (w.alloc (rcObj c)).heap.size _) (.cells #[.int .i64 lo, .int .i64 hi] 43)
  have b2 := fun v => below_alloc (Below.refl ((w.alloc (rcObj c)).alloc v).heap.size _) (.cells #[.int .i64 0, .int .i64 0] 43)
  have s1 := SpBox.new (w.alloc (rcObj c)) lo hi 43
  have s2 := fun v => SpBox.new ((w.alloc (rcObj c)).alloc v) 0 0 43
  have g2 := fun v => k ((w.alloc (rcObj c)).alloc v) 0 0 43
  rw [e1] at s1
  simp only [e2] at s2 g2
  refine ⟨⟨((RBox.new w c).below b1).below (b2 _), s1.below (b2 _), s2 _, (g2 _).1, (g2 _).2⟩, ?_⟩
  exact below_alloc (below_alloc (below_alloc (Below.refl _ _) _) _) _
theorem rrs_two {X : World} {tmps : Array Value} {b : Nat} {x y e : Int} (h6 : tmps.getD 6 undef = .pointer (some ⟨b, 0, none⟩)) (h7 : tmps.getD 7 undef = .int .i64 e) (hs : SpBox X b x y) :
    (results Try.f31 tmps).run Try.prog X = .ok (.tuple #[spVal (x, y), .int .i64 e]) X := by
  obtain ⟨s0, s1⟩ := hs
  simp only [results, show Try.f31.results = #[.cell 6 43, .tmp 7] from rfl]
  rw [Array.getD_eq_getD_getElem?] at h6 h7
  simp [Sem.run_bind, Result.andThen, h6, h7, go_sem, s0, s1, spVal]
/-- the span found last -/
def lastP (L : List (Int × Int)) : Int × Int := L.getLast?.getD (0, 0)
theorem lastP_snoc (L : List (Int × Int)) (x : Int × Int) : lastP (L ++ [x]) = x := by simp [lastP]
/-- the loop of Resolve -/
structure RLp (w X : World) (c : Cnt) (lo hi : Int) (b9 : Nat) (L : List (Int × Int)) : Prop where
  i : RsvIn X w.heap.size c lo hi
  o : SpBox X b9 (lastP L).1 (lastP L).2
  f0 : X.frozen? ⟨b9, 0, none⟩ = false
  f1 : X.frozen? ⟨b9, 1, none⟩ = false
  gt : w.heap.size + 1 + 1 < b9
  bel : Below w.heap.size w X
theorem RLp.below {w X Y : World} {c : Cnt} {lo hi : Int} {b9 : Nat} {L : List (Int × Int)} (h : RLp w X c lo hi b9 L) (hb : Below X.heap.size X Y) : RLp w Y c lo hi b9 L :=
  ⟨h.i.below hb, h.o.below hb, (hb.frozen (p := ⟨b9, 0, none⟩) (cell_lt h.o.1)).trans h.f0, (hb.frozen (p := ⟨b9, 1, none⟩) (cell_lt h.o.1)).trans h.f1, h.gt, below_go h.bel hb⟩
theorem SpBox.far {X : World} {b b' o : Nat} {x y : Int} {u : Value} (h : SpBox X b x y) (hne : b' ≠ b) : SpBox (X.setCell ⟨b', o, none⟩ u) b x y :=
  ⟨by rw [World.cell?_setCell_far _ _ _ _ hne]; exact h.1, by rw [World.cell?_setCell_far _ _ _ _ hne]; exact h.2⟩
theorem RsvIn.far {X : World} {b b' o : Nat} {c : Cnt} {lo hi : Int} {u : Value} (h : RsvIn X b c lo hi) (h0 : b' ≠ b) (h1 : b' ≠ b + 1) (h2 : b' ≠ b + 1 + 1) : RsvIn (X.setCell ⟨b', o, none⟩ u) b c lo hi :=
  ⟨h.cb.far h0, h.s.far h1, h.r.far h2, by rw [World.frozen?_setCell]; exact h.f0, by rw [World.frozen?_setCell]; exact h.f1⟩
theorem RLp.put {w X : World} {c : Cnt} {lo hi : Int} {b9 : Nat} {L : List (Int × Int)} (h : RLp w X c lo hi b9 L) (x y : Int) : RLp w ((X.setCell ⟨b9, 0, none⟩ (.int .i64 x)).setCell ⟨b9, 1, none⟩ (.int .i64 y)) c lo hi b9 (L ++ [(x, y)]) := by
  have hg := h.gt
  refine ⟨(h.i.far (by omega) (by omega) (by omega)).far (by omega) (by omega) (by omega), ?_, by rw [World.frozen?_setCell, World.frozen?_setCell]; exact h.f0, by rw [World.frozen?_setCell, World.frozen?_setCell]; exact h.f1, hg, (h.bel.setCell (p := ⟨b9, 0, none⟩) (by show w.heap.size ≤ b9; omega) _).setCell (p := ⟨b9, 1, none⟩) (by show w.heap.size ≤ b9; omega) _⟩
  rw [lastP_snoc]
  exact SpBox.set h.o.1 h.o.2
theorem pick_nil {L : List (Int × Int)} (h : L.length = 0) : pickS L = ((0, 0), 12) := by rw [List.length_eq_zero_iff.1 h]; rfl
theorem pick_one {L : List (Int × Int)} (h : L.length = 1) : pickS L = (lastP L, 0) := by
  match L, h with
  | [x], _ => rfl
theorem pick_more {L : List (Int × Int)} (h : 1 < L.length) : pickS L = ((0, 0), 8) := by
  match L, h with
  | _ :: _ :: _, _ => rfl
set_option maxRecDepth 100000 in
set_option maxHeartbeats 8000000 in
theorem rResolve_any (c : Cnt) (m lo hi : Int) (w : World) :
    Calls Try.prog 31 #[cntVal c, .int .i64 m, .agg #[.int .i64 lo, .int .i64 hi]] w fun e w' => e = .returned (resVal (refResS c m lo hi)) ∧ Below w.heap.size w w' := by
  have HCK := Lib.hid (fun W => rcheck_any c W)
  obtain ⟨hR, hB⟩ := rrs_new w c lo hi
  have HR0 := Lib.hid hR
  have HB0 := Lib.hid hB
  obtain ⟨W, hW⟩ : ∃ W, W = rrsW w c lo hi := ⟨_, rfl⟩
  have hW' := hW
  rw [← hW] at HR0 HB0
  unfold rrsW rcObj at hW'
  clear hR hB hW
  unfold cntVal at *
  by_cases hc : cntB c = true
  · rw [show checkC c = 0 from if_pos hc] at HCK
    have HC0 := Lib.hid hc
    have HCI := Lib.hid (cntB_in hc)
    have hro := HCI.out.r
    have kh : IntKind.i64.wrap (c.r.tdiv 2) = c.r / 2 := IntWalk.i64_quo c.r 2 (by omega)
    have khb : IntKind.i64.wrap (c.r / 2) = c.r / 2 := IntWalk.i64_in _ (by omega)
    have kn : IntKind.i64.wrap (-(c.r / 2)) = -(c.r / 2) := IntWalk.i64_in _ (by omega)
    clear hc
    by_cases q0 : m < -(c.r / 2)
    · rw [res_six HC0.out (by omega)]
      go_enter Try.func31, Try.ntmps31
      go_upto_region 1 with fail
      rw [← hW']
      clear hW'
      obtain ⟨c0, c1, c2, c3, c4, c5, c6⟩ := HR0.out.cb
      have hz := cell_lt c0
      go_wp2_with (go_at_call 16; refine (HCK.out _).mono ?_; rintro e w1 ⟨rfl, hb1⟩; have hr1 := HR0.out.below hb1; obtain ⟨d0, d1, d2, d3, d4, d5, d6⟩ := hr1.cb; have hzd := cell_lt d0; obtain ⟨p0, p1⟩ := hr1.s; have hzp := cell_lt p0; obtain ⟨q0, q1⟩ := hr1.r; have g0 := hr1.f0; have g1 := hr1.f1; have hzq := cell_lt q0)
      exact bodyPost_ret (rrs_two rfl rfl (SpBox.set hr1.r.1 hr1.r.2)) rfl ⟨rfl, rsv_below (below_go HB0.out hb1) _ _⟩
    · skip
      by_cases q1 : c.r / 2 ≤ m
      · rw [res_six HC0.out (by omega)]
        go_enter Try.func31, Try.ntmps31
        go_upto_region 1 with fail
        rw [← hW']
        clear hW'
        obtain ⟨c0, c1, c2, c3, c4, c5, c6⟩ := HR0.out.cb
        have hz := cell_lt c0
        go_wp2_with (go_at_call 16; refine (HCK.out _).mono ?_; rintro e w1 ⟨rfl, hb1⟩; have hr1 := HR0.out.below hb1; obtain ⟨d0, d1, d2, d3, d4, d5, d6⟩ := hr1.cb; have hzd := cell_lt d0; obtain ⟨p0, p1⟩ := hr1.s; have hzp := cell_lt p0; obtain ⟨q0, q1⟩ := hr1.r; have g0 := hr1.f0; have g1 := hr1.f1; have hzq := cell_lt q0)
        exact bodyPost_ret (rrs_two rfl rfl (SpBox.set hr1.r.1 hr1.r.2)) rfl ⟨rfl, rsv_below (below_go HB0.out hb1) _ _⟩
      · skip
        by_cases q2 : lo < -1000000000000000
        · rw [res_six HC0.out (by omega)]
          go_enter Try.func31, Try.ntmps31
          go_upto_region 1 with fail
          rw [← hW']
          clear hW'
          obtain ⟨c0, c1, c2, c3, c4, c5, c6⟩ := HR0.out.cb
          have hz := cell_lt c0
          go_wp2_with (go_at_call 16; refine (HCK.out _).mono ?_; rintro e w1 ⟨rfl, hb1⟩; have hr1 := HR0.out.below hb1; obtain ⟨d0, d1, d2, d3, d4, d5, d6⟩ := hr1.cb; have hzd := cell_lt d0; obtain ⟨p0, p1⟩ := hr1.s; have hzp := cell_lt p0; obtain ⟨q0, q1⟩ := hr1.r; have g0 := hr1.f0; have g1 := hr1.f1; have hzq := cell_lt q0)
          exact bodyPost_ret (rrs_two rfl rfl (SpBox.set hr1.r.1 hr1.r.2)) rfl ⟨rfl, rsv_below (below_go HB0.out hb1) _ _⟩
        · skip
          by_cases q3 : 1000000000000000 < lo
          · rw [res_six HC0.out (by omega)]
            go_enter Try.func31, Try.ntmps31
            go_upto_region 1 with fail
            rw [← hW']
            clear hW'
            obtain ⟨c0, c1, c2, c3, c4, c5, c6⟩ := HR0.out.cb
            have hz := cell_lt c0
            go_wp2_with (go_at_call 16; refine (HCK.out _).mono ?_; rintro e w1 ⟨rfl, hb1⟩; have hr1 := HR0.out.below hb1; obtain ⟨d0, d1, d2, d3, d4, d5, d6⟩ := hr1.cb; have hzd := cell_lt d0; obtain ⟨p0, p1⟩ := hr1.s; have hzp := cell_lt p0; obtain ⟨q0, q1⟩ := hr1.r; have g0 := hr1.f0; have g1 := hr1.f1; have hzq := cell_lt q0)
            exact bodyPost_ret (rrs_two rfl rfl (SpBox.set hr1.r.1 hr1.r.2)) rfl ⟨rfl, rsv_below (below_go HB0.out hb1) _ _⟩
          · skip
            by_cases q4 : hi < -1000000000000000
            · rw [res_six HC0.out (by omega)]
              go_enter Try.func31, Try.ntmps31
              go_upto_region 1 with fail
              rw [← hW']
              clear hW'
              obtain ⟨c0, c1, c2, c3, c4, c5, c6⟩ := HR0.out.cb
              have hz := cell_lt c0
              go_wp2_with (go_at_call 16; refine (HCK.out _).mono ?_; rintro e w1 ⟨rfl, hb1⟩; have hr1 := HR0.out.below hb1; obtain ⟨d0, d1, d2, d3, d4, d5, d6⟩ := hr1.cb; have hzd := cell_lt d0; obtain ⟨p0, p1⟩ := hr1.s; have hzp := cell_lt p0; obtain ⟨q0, q1⟩ := hr1.r; have g0 := hr1.f0; have g1 := hr1.f1; have hzq := cell_lt q0)
              exact bodyPost_ret (rrs_two rfl rfl (SpBox.set hr1.r.1 hr1.r.2)) rfl ⟨rfl, rsv_below (below_go HB0.out hb1) _ _⟩
            · skip
              by_cases q5 : 1000000000000000 < hi
              · rw [res_six HC0.out (by omega)]
                go_enter Try.func31, Try.ntmps31
                go_upto_region 1 with fail
                rw [← hW']
                clear hW'
                obtain ⟨c0, c1, c2, c3, c4, c5, c6⟩ := HR0.out.cb
                have hz := cell_lt c0
                go_wp2_with (go_at_call 16; refine (HCK.out _).mono ?_; rintro e w1 ⟨rfl, hb1⟩; have hr1 := HR0.out.below hb1; obtain ⟨d0, d1, d2, d3, d4, d5, d6⟩ := hr1.cb; have hzd := cell_lt d0; obtain ⟨p0, p1⟩ := hr1.s; have hzp := cell_lt p0; obtain ⟨q0, q1⟩ := hr1.r; have g0 := hr1.f0; have g1 := hr1.f1; have hzq := cell_lt q0)
                exact bodyPost_ret (rrs_two rfl rfl (SpBox.set hr1.r.1 hr1.r.2)) rfl ⟨rfl, rsv_below (below_go HB0.out hb1) _ _⟩
              · skip
                by_cases hlt : hi < lo
                · have hx : refResS c m lo hi = ((0, 0), 1) := by
                    unfold refResS
                    rw [if_pos HC0.out, if_pos (by unfold showB inDiff; simp only [Bool.and_eq_true, decide_eq_true_eq]; omega), if_pos hlt]
                  rw [hx]
                  clear hx
                  go_enter Try.func31, Try.ntmps31
                  go_upto_region 1 with fail
                  rw [← hW']
                  clear hW'
                  obtain ⟨c0, c1, c2, c3, c4, c5, c6⟩ := HR0.out.cb
                  have hz := cell_lt c0
                  go_wp2_with (go_at_call 16; refine (HCK.out _).mono ?_; rintro e w1 ⟨rfl, hb1⟩; have hr1 := HR0.out.below hb1; obtain ⟨d0, d1, d2, d3, d4, d5, d6⟩ := hr1.cb; have hzd := cell_lt d0; obtain ⟨p0, p1⟩ := hr1.s; have hzp := cell_lt p0; obtain ⟨q0, q1⟩ := hr1.r; have g0 := hr1.f0; have g1 := hr1.f1; have hzq := cell_lt q0)
                  exact bodyPost_ret (rrs_two rfl rfl (SpBox.set hr1.r.1 hr1.r.2)) rfl ⟨rfl, rsv_below (below_go HB0.out hb1) _ _⟩
                · skip
                  have hx : refResS c m lo hi = pickS (refL c m lo hi) := by
                    unfold refResS
                    rw [if_pos HC0.out, if_pos (by unfold showB inDiff; simp only [Bool.and_eq_true, decide_eq_true_eq]; omega), if_neg hlt]
                  rw [hx]
                  clear hx
                  go_enter Try.func31, Try.ntmps31
                  go_upto_region 1 with fail
                  rw [← hW']
                  clear hW'
                  obtain ⟨c0, c1, c2, c3, c4, c5, c6⟩ := HR0.out.cb
                  have hz := cell_lt c0
                  go_upto_region 7 with (go_at_call 16; refine (HCK.out _).mono ?_; rintro e w1 ⟨rfl, hb1⟩; have hr1 := HR0.out.below hb1; obtain ⟨d0, d1, d2, d3, d4, d5, d6⟩ := hr1.cb; have hzd := cell_lt d0; obtain ⟨p0, p1⟩ := hr1.s; have hzp := cell_lt p0; obtain ⟨q0, q1⟩ := hr1.r; have g0 := hr1.f0; have g1 := hr1.f1; have hzq := cell_lt q0)
                  clear c0 c1 c2 c3 c4 c5 c6 hz q0 q1 g0 g1 hzq p0 p1 hzp
                  have HR1 := Lib.hid hr1
                  have HB1 := Lib.hid (below_go HB0.out hb1)
                  have HFA := Lib.hid (fun W => rfault_any c W HCI.out)
                  unfold cntVal at HFA
                  clear hr1 hb1 HR0 HB0 kh khb kn
                  go_upto_region 8 with (go_at_call 54; refine (HFA.out _).mono ?_; rintro e w2 ⟨rfl, hb2⟩; have HR2 := Lib.hid (HR1.out.below hb2); have HB2 := Lib.hid (below_go HB1.out hb2); clear hb2)
                  clear d0 d1 d2 d3 d4 d5 d6 hzd HFA HR1 HB1
                  have hbx := below_alloc (Below.refl w2.heap.size w2) (.cells #[.int .i64 0, .int .i64 0] 43)
                  have fz : (w2.alloc (.cells #[.int .i64 0, .int .i64 0] 43)).frozen? ⟨w2.heap.size, 0, none⟩ = false ∧ (w2.alloc (.cells #[.int .i64 0, .int .i64 0] 43)).frozen? ⟨w2.heap.size, 1, none⟩ = false := ⟨by simp, by simp⟩
                  have HLP : Hid (RLp w (w2.alloc (.cells #[.int .i64 0, .int .i64 0] 43)) c lo hi w2.heap.size []) := Lib.hid ⟨HR2.out.below hbx, SpBox.new w2 0 0 43, fz.1, fz.2, cell_lt HR2.out.r.1, below_go HB2.out hbx⟩
                  clear hbx fz
                  go_upto_region 10 with fail
                  clear HR2 HB2
                  generalize w2.alloc (.cells #[.int .i64 0, .int .i64 0] 43) = W3 at *
                  generalize w2.heap.size = b9 at *
                  have hf := HCI.out.f
                  have ho := HCI.out.o
                  have hfb := fault_bd HCI.out
                  have q1' := mul_bd c.f lo 1000 1000000000000000 (by omega) (by omega)
                  have q2' := mul_bd c.f hi 1000 1000000000000000 (by omega) (by omega)
                  have hfi : ceilS (c.f * lo + c.o - faultS c - m) c.r = firstS c m lo := by unfold firstS midS; rw [show c.f * lo - (m - c.o) - faultS c = c.f * lo + c.o - faultS c - m by omega]
                  have hla : (c.f * hi + c.o + faultS c - m) / c.r = farS c m hi := by unfold farS midS; rw [show c.f * hi - (m - c.o) + faultS c = c.f * hi + c.o + faultS c - m by omega]
                  have HUP := Lib.hid (fun W => rup_any (c.f * lo + c.o - faultS c - m) c.r W (by omega) (by omega))
                  have HDN := Lib.hid (fun W => rdown_any (c.f * hi + c.o + faultS c - m) c.r W (by omega) (by omega))
                  rw [hfi] at HUP
                  rw [hla] at HDN
                  have hfib : -2000000000000000000 ≤ firstS c m lo ∧ firstS c m lo ≤ 2000000000000000000 := by unfold firstS midS; exact ceilS_bd _ _ _ hro.1 (by omega)
                  have hlab : -2000000000000000000 ≤ farS c m hi ∧ farS c m hi ≤ 2000000000000000000 := by unfold farS midS; exact floorS_bd _ _ _ hro.1 (by omega)
                  have HKR : Hid (∀ k : Int, firstS c m lo ≤ k → k ≤ farS c m hi → c.f * lo - midS c m - faultS c ≤ k * c.r ∧ k * c.r ≤ c.f * hi - midS c m + faultS c) := Lib.hid fun k h1 h2 => ⟨(ceil_iff _ _ _ hro.1).1 h1, (Int.le_ediv_iff_mul_le (by omega)).1 h2⟩
                  have k1 : IntKind.i64.wrap (c.f * lo) = c.f * lo := IntWalk.i64_in _ (by omega)
                  have k2 : IntKind.i64.wrap (c.f * lo + c.o) = c.f * lo + c.o := IntWalk.i64_in _ (by omega)
                  have k3 : IntKind.i64.wrap (c.f * lo + c.o - faultS c) = c.f * lo + c.o - faultS c := IntWalk.i64_in _ (by omega)
                  have k4 : IntKind.i64.wrap (c.f * lo + c.o - faultS c - m) = c.f * lo + c.o - faultS c - m := IntWalk.i64_in _ (by omega)
                  have l1 : IntKind.i64.wrap (c.f * hi) = c.f * hi := IntWalk.i64_in _ (by omega)
                  have l2 : IntKind.i64.wrap (c.f * hi + c.o) = c.f * hi + c.o := IntWalk.i64_in _ (by omega)
                  have l3 : IntKind.i64.wrap (c.f * hi + c.o + faultS c) = c.f * hi + c.o + faultS c := IntWalk.i64_in _ (by omega)
                  have l4 : IntKind.i64.wrap (c.f * hi + c.o + faultS c - m) = c.f * hi + c.o + faultS c - m := IntWalk.i64_in _ (by omega)
                  have HBD := Lib.hid (And.intro hfb (And.intro q1' q2'))
                  have HML := Lib.hid (show (-(c.r / 2) ≤ m ∧ m < c.r / 2) ∧ lo ≤ hi by omega)
                  have HRN : Hid (refN c m lo hi = (min (farS c m hi) (firstS c m lo + 2499) + 1 - firstS c m lo).toNat) := Lib.hid rfl
                  have HRL : Hid (refL c m lo hi = spanL c (midS c m) lo hi (firstS c m lo) (refN c m lo hi)) := Lib.hid rfl
                  obtain ⟨d0, d1, d2, d3, d4, d5, d6⟩ := HLP.out.i.cb
                  have hzd := cell_lt d0
                  obtain ⟨p0, p1⟩ := HLP.out.i.s
                  have hzp := cell_lt p0
                  clear hf ho hfb q1' q2' hfi hla q0 q1 q2 q3 q4 q5 hlt hro
                  go_wp2_with fail
                  refine (HUP.out _).mono ?_
                  rintro e W4 ⟨rfl, hw⟩
                  obtain rfl := hw
                  go_wp2_with fail
                  refine (HDN.out _).mono ?_
                  rintro e W5 ⟨rfl, hw⟩
                  obtain rfl := hw
                  go_wp2_with fail
                  clear k1 k2 k3 k4 l1 l2 l3 l4 HUP HDN d0 d1 d2 d3 d4 d5 d6 hzd p0 p1 hzp
                  generalize firstS c m lo = fi at *
                  generalize farS c m hi = la at *
                  generalize refN c m lo hi = N at *
                  go_loopw [10, 13, 14, 15, 16] (fun s10 s13 s14 s15 s16 wx => ∃ (j : Nat) (v14 v15 v16 : Value), j ≤ N ∧ s10 = .int .i64 ((spanL c (midS c m) lo hi fi j).length : Int) ∧ s13 = .int .i64 (fi + (j : Int)) ∧ s14 = v14 ∧ s15 = v15 ∧ s16 = v16 ∧ Hid (RLp w wx c lo hi b9 (spanL c (midS c m) lo hi fi j))) (fun _ s13 _ _ _ _ => N - (intOf s13 - fi).toNat)
                  case atStart => exact ⟨0, _, _, _, Nat.zero_le _, rfl, by simp, rfl, rfl, rfl, HLP⟩
                  case round =>
                    obtain ⟨j, v14, v15, v16, hj, rfl, rfl, rfl, rfl, rfl, HL⟩ := hrel
                    have hrn := HRN.out
                    have kf : IntKind.i64.wrap (fi + 2500) = fi + 2500 := IntWalk.i64_in _ (by omega)
                    go_upto_region 13 with fail
                    go_cut [103] from 95 to 140 (fun sb wx => sb = .bool (decide (j < N)) ∧ Hid (RLp w wx c lo hi b9 (spanL c (midS c m) lo hi fi j)))
                    case first =>
                      by_cases h1 : j < N
                      · have h2 : fi + (j : Int) ≤ la := by omega
                        have h3 : fi + (j : Int) < fi + 2500 := by omega
                        clear hrn
                        go_wp2_with fail
                        go_meet
                        exact ⟨by simp [h1], HL⟩
                      · by_cases h2 : fi + (j : Int) ≤ la
                        · have h3 : ¬ fi + (j : Int) < fi + 2500 := by omega
                          clear hrn
                          go_wp2_with fail
                          go_meet
                          exact ⟨by simp [h1], HL⟩
                        · clear hrn
                          go_wp2_with fail
                          go_meet
                          exact ⟨by simp [h1], HL⟩
                    case rest =>
                      obtain ⟨rfl, HL2⟩ := hcut
                      clear kf HL
                      by_cases hlt : j < N
                      · have HJ := Lib.hid hlt
                        have hkl : fi + (j : Int) ≤ la := by omega
                        have hj25 : j < 2500 := by omega
                        obtain ⟨hfb, hq1, hq2⟩ := HBD.out
                        obtain ⟨hk1, hk2⟩ := HKR.out (fi + (j : Int)) (by omega) hkl
                        have hmid : midS c m = m - c.o := rfl
                        have ho := HCI.out.o
                        have hr := HCI.out.r
                        have hml := HML.out
                        have hff := HCI.out.f
                        have hsl := spanL_le c (midS c m) lo hi fi j
                        obtain ⟨kr, hkr⟩ : ∃ kr, kr = (fi + (j : Int)) * c.r := ⟨_, rfl⟩
                        rw [← hkr] at hk1 hk2
                        have w1 : IntKind.i64.wrap ((fi + (j : Int)) * c.r) = kr := by rw [← hkr]; exact IntWalk.i64_in _ (by omega)
                        have w2' : IntKind.i64.wrap (m + kr) = m + kr := IntWalk.i64_in _ (by omega)
                        obtain ⟨xx, hxx⟩ : ∃ xx, xx = midS c m + kr := ⟨_, rfl⟩
                        have w3 : IntKind.i64.wrap (m + kr - c.o) = xx := by rw [hxx, hmid, IntWalk.i64_in _ (by omega)]; omega
                        have w4 : IntKind.i64.wrap (xx - faultS c) = xx - faultS c := IntWalk.i64_in _ (by omega)
                        have w5 : IntKind.i64.wrap (xx + faultS c) = xx + faultS c := IntWalk.i64_in _ (by omega)
                        obtain ⟨U, hU⟩ : ∃ U, U = turnLo c xx := ⟨_, rfl⟩
                        obtain ⟨V, hV⟩ : ∃ V, V = turnHi c xx := ⟨_, rfl⟩
                        have HU := Lib.hid (fun W => (rup_any (xx - faultS c) c.f W (by omega) (by omega)).mono fun _ _ ⟨h1, h2⟩ => And.intro (h1.trans (show Ending.returned (Value.int .i64 (turnLo c xx)) = Ending.returned (.int .i64 U) by rw [hU])) h2.symm)
                        have HV := Lib.hid (fun W => (rdown_any (xx + faultS c) c.f W (by omega) (by omega)).mono fun _ _ ⟨h1, h2⟩ => And.intro (h1.trans (show Ending.returned (Value.int .i64 (turnHi c xx)) = Ending.returned (.int .i64 V) by rw [hV])) h2.symm)
                        obtain ⟨X, hX⟩ : ∃ X, (if lo < U then U else lo) = X := ⟨_, rfl⟩
                        obtain ⟨Y, hY⟩ : ∃ Y, (if V < hi then V else hi) = Y := ⟨_, rfl⟩
                        have e1 : xLo c (midS c m) lo (fi + (j : Int)) = X := by unfold xLo; rw [← hkr, ← hxx, ← hU, ← hX]; split <;> omega
                        have e2 : xHi c (midS c m) hi (fi + (j : Int)) = Y := by unfold xHi; rw [← hkr, ← hxx, ← hV, ← hY]; split <;> omega
                        have hsp : spanL c (midS c m) lo hi fi (j + 1) = if X ≤ Y then spanL c (midS c m) lo hi fi j ++ [(X, Y)] else spanL c (midS c m) lo hi fi j := by rw [spanL, e1, e2]
                        have w6 : IntKind.i64.wrap (fi + (j : Int) + 1) = fi + (j : Int) + 1 := IntWalk.i64_in _ (by omega)
                        generalize spanL c (midS c m) lo hi fi j = Lj at *
                        have w7 : IntKind.i64.wrap ((Lj.length : Int) + 1) = (Lj.length : Int) + 1 := IntWalk.i64_in _ (by omega)
                        have HSP := Lib.hid hsp
                        obtain ⟨d0, d1, d2, d3, d4, d5, d6⟩ := HL2.out.i.cb
                        have hzd := cell_lt d0
                        obtain ⟨p0, p1⟩ := HL2.out.i.s
                        have hzp := cell_lt p0
                        clear hfb hq1 hq2 hk1 hk2 hmid ho hr hml hff hsl hkr hxx hU hV e1 e2 hsp hrn hj25 hkl hfib hlab
                        go_upto_region 16 with fail
                        go_quiet (first | (go_at_call 55; exact Calls.quiet_of_same (HU.out _)) | (go_at_call 56; exact Calls.quiet_of_same (HV.out _)))
                        clear hX hY HU HV w1 w2' w3 w4 w5 d0 d1 d2 d3 d4 d5 d6 hzd p0 p1 hzp
                        have HL3 := Lib.hid (HL2.out.below (below_drewN (Below.refl wc.heap.size wc) nq))
                        generalize wc.drewN nq = W8 at *
                        by_cases hxy : X ≤ Y
                        · obtain ⟨o0, o1⟩ := HL3.out.o
                          have of0 := HL3.out.f0
                          have of1 := HL3.out.f1
                          have hzo := cell_lt o0
                          have hsp := HSP.out
                          rw [if_pos hxy] at hsp
                          have HPUT := Lib.hid (HL3.out.put X Y)
                          have HSP2 := Lib.hid hsp
                          clear hsp
                          go_wp2_with fail
                          go_roundw
                          case rel => exact ⟨j + 1, _, _, _, HJ.out, by rw [HSP2.out]; simp, by push_cast; rw [Int.add_assoc], rfl, rfl, rfl, by rw [HSP2.out]; exact HPUT⟩
                          case measure => have := HJ.out; simp [intOf]; omega
                        · have hsp := HSP.out
                          rw [if_neg hxy] at hsp
                          have HSP2 := Lib.hid hsp
                          clear hsp
                          go_wp2_with fail
                          go_roundw
                          case rel => exact ⟨j + 1, _, _, _, HJ.out, by rw [HSP2.out], by push_cast; rw [Int.add_assoc], rfl, rfl, rfl, by rw [HSP2.out]; exact HL3⟩
                          case measure => have := HJ.out; simp [intOf]; omega
                      · obtain rfl : j = N := by omega
                        rw [← HRL.out] at HL2
                        rw [← HRL.out]
                        obtain ⟨L, hL⟩ : ∃ L, L = refL c m lo hi := ⟨_, rfl⟩
                        rw [← hL] at HL2 ⊢
                        have hsl := spanL_le c (midS c m) lo hi fi j
                        have HLQ := Lib.hid hL
                        clear hL hrn hfib hlab HRL
                        obtain ⟨q0, q1⟩ := HL2.out.i.r
                        have g0 := HL2.out.i.f0
                        have g1 := HL2.out.i.f1
                        have hzq := cell_lt q0
                        by_cases h0 : L.length = 0
                        · have hi0 : (L.length : Int) = 0 := by omega
                          have hP := Lib.hid (pick_nil h0)
                          clear h0 hsl
                          go_wp2_with fail
                          exact bodyPost_ret (rrs_two rfl rfl (SpBox.set HL2.out.i.r.1 HL2.out.i.r.2)) rfl ⟨by rw [← HLQ.out, hP.out]; rfl, rsv_below HL2.out.bel _ _⟩
                        · have hi0 : ¬ (L.length : Int) = 0 := by omega
                          by_cases h1 : 1 < L.length
                          · have hi1 : 1 < (L.length : Int) := by omega
                            have hP := Lib.hid (pick_more h1)
                            clear h0 h1 hsl
                            go_wp2_with fail
                            exact bodyPost_ret (rrs_two rfl rfl (SpBox.set HL2.out.i.r.1 HL2.out.i.r.2)) rfl ⟨by rw [← HLQ.out, hP.out]; rfl, rsv_below HL2.out.bel _ _⟩
                          · have hi1 : ¬ 1 < (L.length : Int) := by omega
                            have hP := Lib.hid (pick_one (show L.length = 1 by omega))
                            obtain ⟨o0, o1⟩ := HL2.out.o
                            have hzo := cell_lt o0
                            clear h0 h1 hsl
                            go_wp2_with fail
                            exact bodyPost_ret (rrs_two rfl rfl (SpBox.set HL2.out.i.r.1 HL2.out.i.r.2)) rfl ⟨by rw [← HLQ.out, hP.out]; rfl, rsv_below HL2.out.bel _ _⟩
  · rw [show checkC c = 30 from if_neg hc] at HCK
    have hx : refResS c m lo hi = ((0, 0), 30) := if_neg hc
    rw [hx]
    clear hx hc
    go_enter Try.func31, Try.ntmps31
    go_upto_region 1 with fail
    rw [← hW']
    clear hW'
    obtain ⟨c0, c1, c2, c3, c4, c5, c6⟩ := HR0.out.cb
    have hz := cell_lt c0
    go_wp2_with (go_at_call 16; refine (HCK.out _).mono ?_; rintro e w1 ⟨rfl, hb1⟩; have hr1 := HR0.out.below hb1; obtain ⟨d0, d1, d2, d3, d4, d5, d6⟩ := hr1.cb; have hzd := cell_lt d0; obtain ⟨p0, p1⟩ := hr1.s; have hzp := cell_lt p0; obtain ⟨q0, q1⟩ := hr1.r; have g0 := hr1.f0; have g1 := hr1.f1; have hzq := cell_lt q0)
    exact bodyPost_ret (rrs_two rfl rfl (SpBox.set hr1.r.1 hr1.r.2)) rfl ⟨rfl, rsv_below (below_go HB0.out hb1) _ _⟩
end Go.Proofs.Ytlelamjbfjneiaa.Ct
