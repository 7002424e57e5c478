/- Contracts of layer 2: Resolve. -/
import Derived.Test.YtlelamjbfjneiaaNn
namespace Go.Proofs.Ytlelamjbfjneiaa.Ct
open Go Go.RowKit Go.Shelf
attribute [local go_sem] Oper.semAt_some
theorem showB_bd {c : Cnt} (h : CntIn c) {m : Int} (hs : showB c m = true) : -1000000000000000 ≤ m ∧ m ≤ 1000000000000000 := by
  unfold showB at hs
  simp only [Bool.and_eq_true, decide_eq_true_eq] at hs
  have hr := h.r
  omega
theorem resolve_any (c : Cnt) (m lo hi : Int) (w : World) (h : CntIn c) :
    Calls Try.prog 34 #[cntVal c, .int .i64 m, .agg #[.int .i64 lo, .int .i64 hi]] w fun e w' => e = .returned (resVal (resS c m lo hi)) ∧ Below w.heap.size w w' := by
  unfold resS
  by_cases hno : (showB c m && inDiff lo && inDiff hi) = true
  · have hall := hno
    simp only [Bool.and_eq_true] at hall
    obtain ⟨⟨hs, hl⟩, hh⟩ := hall
    rw [if_pos hno]
    by_cases hlt : hi < lo
    · rw [if_pos hlt]; exact resolve_arg c m lo hi w h hs hl hh hlt
    · rw [if_neg hlt]; exact resolve_yes c m lo hi w h hs hl hh hlt (showB_bd h hs)
  · rw [if_neg hno]; exact resolve_no c m lo hi w h (by simpa using hno)
def resolveS (c : Cnt) (m lo hi : Int) : (Int × Int) × Int := if cntB c = true then resS c m lo hi else ((0, 0), 30)
/-- the boxes of Resolve -/
structure RsvIn (X : World) (b : Nat) (c : Cnt) (lo hi : Int) : Prop where
  cb : CBox X b c
  s : SpBox X (b + 1) lo hi
  r : SpBox X (b + 1 + 1) 0 0
  f0 : X.frozen? ⟨b + 1 + 1, 0, none⟩ = false
  f1 : X.frozen? ⟨b + 1 + 1, 1, none⟩ = false
theorem RsvIn.below {X Y : World} {b : Nat} {c : Cnt} {lo hi : Int} (h : RsvIn X b c lo hi) (hb : Below X.heap.size X Y) : RsvIn Y b c lo hi :=
  ⟨h.cb.below hb, h.s.below hb, h.r.below hb, (hb.frozen (p := ⟨b + 1 + 1, 0, none⟩) (cell_lt h.r.1)).trans h.f0, (hb.frozen (p := ⟨b + 1 + 1, 1, none⟩) (cell_lt h.r.1)).trans h.f1⟩
def rsvW (w : World) (c : Cnt) (lo hi : Int) : World := ((w.alloc (cntObj c)).alloc (.cells #[.int .i64 lo, .int .i64 hi] 43)).alloc (.cells #[.int .i64 0, .int .i64 0] 43)
theorem rsvIn_new (w : World) (c : Cnt) (lo hi : Int) : RsvIn (rsvW w c lo hi) w.heap.size c lo hi ∧ Below w.heap.size w (rsvW w c lo hi) := by
  have e1 : (w.alloc (cntObj c)).heap.size = w.heap.size + 1 := by simp
  have e2 : ∀ v, ((w.alloc (cntObj c)).alloc v).heap.size = w.heap.size + 1 + 1 := by simp
  have k : ∀ (X : World) (x y : Int) (t : TypeId), (X.alloc (.cells #[.int .i64 x, .int .i64 y] t)).frozen? ⟨X.heap.size, 0, none⟩ = false ∧ (X.alloc (.cells #[.int .i64 x, .int .i64 y] t)).frozen? ⟨X.heap.size, 1, none⟩ = false := fun X x y t => ⟨by simp, by simp⟩
  have b1 := below_alloc (Below.refl (w.alloc (cntObj c)).heap.size _) (.cells #[.int .i64 lo, .int .i64 hi] 43)
  have b2 := fun v => below_alloc (Below.refl ((w.alloc (cntObj c)).alloc v).heap.size _) (.cells #[.int .i64 0, .int .i64 0] 43)
  have s1 := SpBox.new (w.alloc (cntObj c)) lo hi 43
  have s2 := fun v => SpBox.new ((w.alloc (cntObj c)).alloc v) 0 0 43
  have g2 := fun v => k ((w.alloc (cntObj c)).alloc v) 0 0 43
  rw [e1] at s1
  simp only [e2] at s2 g2
  refine ⟨⟨((CBox.new w c).below b1).below (b2 _), s1.below (b2 _), s2 _, (g2 _).1, (g2 _).2⟩, ?_⟩
  exact below_alloc (below_alloc (below_alloc (Below.refl _ _) _) _) _
theorem rsv_two {X : World} {tmps : Array Value} {b : Nat} {x y e : Int} (h6 : tmps.getD 6 undef = .pointer (some ⟨b, 0, none⟩)) (h7 : tmps.getD 7 undef = .int .i64 e) (hs : SpBox X b x y) :
    (results Try.f17 tmps).run Try.prog X = .ok (.tuple #[spVal (x, y), .int .i64 e]) X := by
  obtain ⟨s0, s1⟩ := hs
  simp only [results, show Try.f17.results = #[.cell 6 43, .tmp 7] from rfl]
  rw [Array.getD_eq_getD_getElem?] at h6 h7
  simp [Sem.run_bind, Result.andThen, h6, h7, go_sem, s0, s1, spVal]
theorem rsv_below {w X : World} (hB : Below w.heap.size w X) (x y : Value) : Below w.heap.size w ((X.setCell ⟨w.heap.size + 1 + 1, 0, none⟩ x).setCell ⟨w.heap.size + 1 + 1, 1, none⟩ y) :=
  (hB.setCell (p := ⟨w.heap.size + 1 + 1, 0, none⟩) (by show w.heap.size ≤ w.heap.size + 1 + 1; omega) _).setCell (p := ⟨w.heap.size + 1 + 1, 1, none⟩) (by show w.heap.size ≤ w.heap.size + 1 + 1; omega) _
set_option maxRecDepth 100000 in
set_option maxHeartbeats 8000000 in
theorem Resolve_any (c : Cnt) (m lo hi : Int) (w : World) :
    Calls Try.prog 17 #[cntVal c, .int .i64 m, .agg #[.int .i64 lo, .int .i64 hi]] w fun e w' => e = .returned (resVal (resolveS c m lo hi)) ∧ Below w.heap.size w w' := by
  have HCK := Lib.hid (fun W => check_any c W)
  have HRS := Lib.hid (fun (hc : cntB c = true) W => resolve_any c m lo hi W (cntB_in hc))
  obtain ⟨hR, hB⟩ := rsvIn_new w c lo hi
  have HR0 := Lib.hid hR
  have HB0 := Lib.hid hB
  obtain ⟨W, hW⟩ : ∃ W, W = rsvW w c lo hi := ⟨_, rfl⟩
  have hW' := hW
  rw [← hW] at HR0 HB0
  unfold rsvW cntObj at hW'
  clear hR hB hW
  unfold cntVal at *
  obtain ⟨⟨⟨x, y⟩, e0⟩, hx⟩ : ∃ r, r = resolveS c m lo hi := ⟨_, rfl⟩
  rw [← hx]
  unfold resolveS at hx
  go_enter Try.func17, Try.ntmps17
  go_upto_region 1 with fail
  rw [← hW']
  clear hW'
  obtain ⟨c0, c1, c2, c3, c4, c5, c6⟩ := HR0.out.cb
  have hz := cell_lt c0
  by_cases hc : cntB c = true
  · rw [show checkC c = 0 from if_pos hc] at HCK
    rw [if_pos hc] at hx
    have HRY := Lib.hid (HRS.out hc)
    rw [← hx] at HRY
    unfold resVal spVal at HRY
    dsimp only at HRY
    clear hx HRS hc
    go_wp2_with (first | (go_at_call 15; refine (HCK.out _).mono ?_; rintro e w1 ⟨rfl, hb1⟩; have hr1 := HR0.out.below hb1; obtain ⟨d0, d1, d2, d3, d4, d5, d6⟩ := hr1.cb; have hzd := cell_lt d0; obtain ⟨p0, p1⟩ := hr1.s; have hzp := cell_lt p0) |
      (go_at_call 34; refine (HRY.out _).mono ?_; rintro e w2 ⟨rfl, hb2⟩; have hr2 := hr1.below hb2; obtain ⟨q0, q1⟩ := hr2.r; have g0 := hr2.f0; have g1 := hr2.f1; have hzq := cell_lt q0))
    exact bodyPost_ret (rsv_two rfl rfl (SpBox.set hr2.r.1 hr2.r.2)) rfl ⟨rfl, rsv_below (below_go (below_go HB0.out hb1) hb2) _ _⟩
  · rw [show checkC c = 30 from if_neg hc] at HCK
    rw [if_neg hc] at hx
    cases hx
    clear HRS hc
    go_wp2_with (go_at_call 15; refine (HCK.out _).mono ?_; rintro e w1 ⟨rfl, hb1⟩; have hr1 := HR0.out.below hb1; obtain ⟨q0, q1⟩ := hr1.r; have g0 := hr1.f0; have g1 := hr1.f1; have hzq := cell_lt q0)
    exact bodyPost_ret (rsv_two rfl rfl (SpBox.set hr1.r.1 hr1.r.2)) rfl ⟨rfl, rsv_below (below_go HB0.out hb1) _ _⟩
end Go.Proofs.Ytlelamjbfjneiaa.Ct
