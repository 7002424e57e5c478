/- Layer 9 (calendar): Extend, where both tables are right. (by gen_gb9.py) -/
import Derived.Test.YtgnfaemnehmgcaaGreatDoorQ43
namespace Go.Proofs.YtgnfaemnehmgcaaGreatDoor.Cal
open Go Go.RowKit
attribute [local go_sem] Oper.semAt_some
/-- what Check says of a value, in every world behind W -/
def ChkIn (W : World) (v : Value) (r : Int) : Prop := ∀ X, Below W.heap.size W X → Calls Tryz.prog 33 #[v] X fun e w' => e = .returned (.int .i64 r) ∧ Below W.heap.size W w'
/-- the boxes of Extend -/
structure ExtB (W : World) (a : Nat) (b1 u1 : Int) (n1 c1 : Nat) (p1 : Option Addr) (b2 u2 : Int) (n2 c2 : Nat) (p2 : Option Addr) : Prop where
  ta : TBox W a b1 u1 n1 c1 p1
  tb : TBox W (a + 1) b2 u2 n2 c2 p2
  bz : ∀ i, W.frozen? ⟨a + 1, i, none⟩ = false
  r : Res3 W (a + 1 + 1)
theorem ExtB.below {W X : World} {a : Nat} {b1 u1 : Int} {n1 c1 : Nat} {p1 : Option Addr} {b2 u2 : Int} {n2 c2 : Nat} {p2 : Option Addr} (h : ExtB W a b1 u1 n1 c1 p1 b2 u2 n2 c2 p2) (hb : Below W.heap.size W X) : ExtB X a b1 u1 n1 c1 p1 b2 u2 n2 c2 p2 :=
  ⟨h.ta.below hb, h.tb.below hb, fun i => (hb.frozen (p := ⟨a + 1, i, none⟩) (cell_lt h.tb.c0)).trans (h.bz i), h.r.below hb⟩
theorem ExtB.new (w : World) (b1 u1 : Int) (n1 c1 : Nat) (p1 : Option Addr) (b2 u2 : Int) (n2 c2 : Nat) (p2 : Option Addr) :
    ExtB (((w.alloc (.cells #[.int .i64 b1, .slice p1 n1 c1, .int .i64 u1] 24)).alloc (.cells #[.int .i64 b2, .slice p2 n2 c2, .int .i64 u2] 24)).alloc (.cells #[.int .i64 0, .slice none 0 0, .int .i64 0] 24)) w.heap.size b1 u1 n1 c1 p1 b2 u2 n2 c2 p2 := by
  have t1 := TBox.new w b1 u1 n1 c1 p1 24
  have b2' := below_alloc (Below.refl (w.alloc (.cells #[.int .i64 b1, .slice p1 n1 c1, .int .i64 u1] 24)).heap.size (w.alloc (.cells #[.int .i64 b1, .slice p1 n1 c1, .int .i64 u1] 24))) (.cells #[.int .i64 b2, .slice p2 n2 c2, .int .i64 u2] 24)
  have e1 : (w.alloc (.cells #[.int .i64 b1, .slice p1 n1 c1, .int .i64 u1] 24)).heap.size = w.heap.size + 1 := by simp
  have t2 := TBox.new (w.alloc (.cells #[.int .i64 b1, .slice p1 n1 c1, .int .i64 u1] 24)) b2 u2 n2 c2 p2 24
  have z2 : ∀ i, ((w.alloc (.cells #[.int .i64 b1, .slice p1 n1 c1, .int .i64 u1] 24)).alloc (.cells #[.int .i64 b2, .slice p2 n2 c2, .int .i64 u2] 24)).frozen? ⟨(w.alloc (.cells #[.int .i64 b1, .slice p1 n1 c1, .int .i64 u1] 24)).heap.size, i, none⟩ = false := fun i => by simp
  have t1' := t1.below b2'
  rw [e1] at t2 z2
  generalize hW : (w.alloc (.cells #[.int .i64 b1, .slice p1 n1 c1, .int .i64 u1] 24)).alloc (.cells #[.int .i64 b2, .slice p2 n2 c2, .int .i64 u2] 24) = W at *
  have e2 : W.heap.size = w.heap.size + 1 + 1 := by rw [← hW]; simp
  have b3 := below_alloc (Below.refl W.heap.size W) (.cells #[.int .i64 0, .slice none 0 0, .int .i64 0] 24)
  have r3 := Res3.new W (.int .i64 0) (.slice none 0 0) (.int .i64 0) 24
  rw [e2] at r3
  exact ⟨t1'.below b3, t2.below b3, fun i => (b3.frozen (p := ⟨w.heap.size + 1, i, none⟩) (cell_lt t2.c0)).trans (z2 i), r3⟩
theorem LpIn.less {w : World} {f : Nat → Int × Int} {n k : Nat} {p : Option Addr} (hk : k ≤ n) (h : LpIn w f n p) : LpIn w f k p := by
  rcases h with h | ⟨b, o, e, hi⟩
  · exact .inl (by omega)
  · exact .inr ⟨b, o, e, fun i hi' => hi i (by omega)⟩
theorem two_ints (w : World) (x y : Int) (t : TypeId) : FnIn (w.alloc (.cells #[.int .i64 x, .int .i64 y] t)) (fun i => if i = 0 then x else y) 2 (some ⟨w.heap.size, 0, none⟩) :=
  .inr ⟨_, _, rfl, fun i hi => by
    rcases (by omega : i = 0 ∨ i = 1) with rfl | rfl
    · simp
    · simp⟩
set_option maxRecDepth 100000 in
set_option maxHeartbeats 4000000 in
theorem Extend_ok {b u1 u2 : Int} {n1 n2 c1 c2 : Nat} {p1 p2 : Option Addr} {f g : Nat → Int × Int} (h1 : tabE b u1 n1 f = 0) (h2 : tabE b u2 n2 g = 0) (hu : u1 ≤ u2) (hn : n1 ≤ n2) (hlt : ∀ j, j < n1 → (g j).1 < u1) (hge : n1 < n2 → u1 ≤ (g n1).1) (heq : eqF f g n1 = true)
    (w : World) (hw : Mon w) (hs1 : LpIn w f n1 p1) (hs2 : LpIn w g n2 p2) (hc1 : n1 ≤ c1) (hc2 : n2 ≤ c2) (hm2 : c2 ≤ maxLen) (hp2 : p2 = none → n2 = 0) :
    Calls Tryz.prog 15 #[.agg #[.int .i64 b, .slice p1 n1 c1, .int .i64 u1], .agg #[.int .i64 b, .slice p2 n2 c2, .int .i64 u2]] w fun e w' => ∃ q cq, e = .returned (.tuple #[.agg #[.int .i64 b, .slice q n2 cq, .int .i64 u2], .int .i64 0]) ∧ n2 ≤ cq ∧ cq ≤ maxLen ∧ LpIn w' g n2 q ∧ Below w.heap.size w w' := by
  have A1 := below_alloc (Below.refl w.heap.size w) (.cells #[.int .i64 b, .slice p1 n1 c1, .int .i64 u1] 24)
  have A2 := below_alloc A1 (.cells #[.int .i64 b, .slice p2 n2 c2, .int .i64 u2] 24)
  have A3 := below_alloc A2 (.cells #[.int .i64 0, .slice none 0 0, .int .i64 0] 24)
  have HX0 := Lib.hid (ExtB.new w b u1 n1 c1 p1 b u2 n2 c2 p2)
  have HT1 := Lib.hid (tab_ok h1)
  have HT2 := Lib.hid (tab_ok h2)
  have hn2 := HT2.out.n1
  have HW := Lib.hid (hw.below A3)
  have HS1 := Lib.hid (hs1.below A3)
  have HS2 := Lib.hid (hs2.below A3)
  have HH := Lib.hid (And.intro h1 h2)
  have HC := Lib.hid (And.intro hc1 (And.intro hc2 hm2))
  have HP := Lib.hid hp2
  have HLT := Lib.hid (And.intro hlt hge)
  have HEQ := Lib.hid heq
  have HNN := Lib.hid hn
  have A3 := Lib.hid A3
  clear A1 A2 h1 h2 hw hs1 hs2 hc1 hc2 hm2 hp2 hlt hge heq hn
  go_enter Tryz.func15, Tryz.ntmps15
  go_upto_region 1 with fail
  generalize ((w.alloc (.cells #[.int .i64 b, .slice p1 n1 c1, .int .i64 u1] 24)).alloc (.cells #[.int .i64 b, .slice p2 n2 c2, .int .i64 u2] 24)).alloc (.cells #[.int .i64 0, .slice none 0 0, .int .i64 0] 24) = W1 at *
  obtain ⟨a, ha⟩ : ∃ a, w.heap.size = a := ⟨_, rfl⟩
  have HAE := Lib.hid ha
  rw [ha] at HX0 ⊢
  have HB0 := Lib.hid (Below.refl W1.heap.size W1)
  have N1 := Lib.hid (show ChkIn W1 (.agg #[.int .i64 b, .slice p1 n1 c1, .int .i64 u1]) 0 from fun X hX => Calls.bel hX (by have := Check_any b u1 n1 c1 p1 f X (HW.out.below hX) (HS1.out.below hX) (by have := HT1.out.n1; omega); rwa [HH.out.1] at this))
  have N2 := Lib.hid (show ChkIn W1 (.agg #[.int .i64 b, .slice p2 n2 c2, .int .i64 u2]) 0 from fun X hX => Calls.bel hX (by have := Check_any b u2 n2 c2 p2 g X (HW.out.below hX) (HS2.out.below hX) (by have := HT2.out.n1; omega); rwa [HH.out.2] at this))
  have HCH := Lib.hid (fun X (hX : Below W1.heap.size W1 X) v r (hv : ChkIn W1 v r) => hv X hX)
  have HOR := Lib.hid (fun X (hX : Below W1.heap.size W1 X) => Calls.bel (bt hX (below_alloc (Below.refl X.heap.size X) (.cells #[.int .i64 0, .int .i64 0] 50))) (or_any _ 2 2 _ _ (by decide) (two_ints X 0 0 50)))
  obtain ⟨⟨x0, x1, x2⟩, ⟨y0, y1, y2⟩, bz, rr⟩ := HX0.out
  have zx := cell_lt x0
  have zy := cell_lt y0
  have HK := Lib.hid (show ∀ X, Below W1.heap.size W1 X → (fun w' => Below W1.heap.size W1 w' ∧ w'.cell? ⟨a, 0, none⟩ = some (.int .i64 b) ∧ w'.cell? ⟨a, 1, none⟩ = some (.slice p1 n1 c1) ∧ w'.cell? ⟨a, 2, none⟩ = some (.int .i64 u1) ∧ w'.cell? ⟨a + 1, 0, none⟩ = some (.int .i64 b) ∧ w'.cell? ⟨a + 1, 1, none⟩ = some (.slice p2 n2 c2) ∧ w'.cell? ⟨a + 1, 2, none⟩ = some (.int .i64 u2)) X from fun X h => ⟨h, cell_below h x0, cell_below h x1, cell_below h x2, cell_below h y0, cell_below h y1, cell_below h y2⟩)
  clear bz rr ha
  refine wp_region_held_drew (S := (fun w' => Below W1.heap.size W1 w' ∧ w'.cell? ⟨a, 0, none⟩ = some (.int .i64 b) ∧ w'.cell? ⟨a, 1, none⟩ = some (.slice p1 n1 c1) ∧ w'.cell? ⟨a, 2, none⟩ = some (.int .i64 u1) ∧ w'.cell? ⟨a + 1, 0, none⟩ = some (.int .i64 b) ∧ w'.cell? ⟨a + 1, 1, none⟩ = some (.slice p2 n2 c2) ∧ w'.cell? ⟨a + 1, 2, none⟩ = some (.int .i64 u2))) (by kernel_rfl) (HK.out _ (Below.drew (Below.refl _ _))) (fun hHeld => ?_)
  refine wpAnyH_take (i := 0) (v := ?_) rfl (by kernel_rfl) (by kernel_rfl) (by kernel_rfl) (fun _ _ _ h => h) (Or.inl ⟨by rfl, ?_⟩) (by assumption) ?_
  rotate_left
  · intro w hSw; (try dsimp only at hSw); go_simp; try with_reducible rfl
  simp only [Act.put, List.getElem_toArray, List.getElem_cons_zero, List.setIfInBounds_toArray, List.set_cons_zero, List.set_cons_succ]
  refine wpAnyH_take (i := 2) (v := ?_) rfl (by kernel_rfl) (by kernel_rfl) (by kernel_rfl) (fun _ _ _ h => h) (Or.inl ⟨by rfl, ?_⟩) (by assumption) ?_
  rotate_left
  · intro w hSw; (try dsimp only at hSw); go_simp; try with_reducible rfl
  simp only [Act.put, List.getElem_toArray, List.getElem_cons_succ, List.getElem_cons_zero, List.setIfInBounds_toArray, List.set_cons_zero, List.set_cons_succ]
  refine wpAnyH_ready (rs := [1]) (by kernel_rfl) (by simp) ?_
  refine AllReadyH.cons rfl (fun K hK => ?_) AllReadyH.nil
  go_simp
  go_at_call 33
  refine (HCH.out _ (Below.drew HB0.out) _ _ N1.out).mono ?_
  rintro e w3 ⟨rfl, hbw3⟩
  go_wp2_with fail
  refine hK.out _ _ (HK.out _ hbw3) (fun hHeldw3 => ?_)
  clear hK K
  refine wpAnyH_ready (rs := [3]) (by kernel_rfl) (by simp) ?_
  refine AllReadyH.cons rfl (fun K hK => ?_) AllReadyH.nil
  go_simp
  go_at_call 33
  refine (HCH.out _ hbw3 _ _ N2.out).mono ?_
  rintro e w4 ⟨rfl, hbw4⟩
  go_wp2_with fail
  refine hK.out _ _ (HK.out _ hbw4) (fun hHeldw4 => ?_)
  clear hK K
  have hb5 := below_alloc hbw4 (.cells #[.int .i64 0, .int .i64 0] 50)
  refine wpAnyH_ready (rs := [4]) (by kernel_rfl) (by simp) ?_
  refine AllReadyH.cons rfl (fun K hK => ?_) AllReadyH.nil
  go_simp
  refine hK.out _ _ (HK.out _ (hb5)) (fun hHeldm4 => ?_)
  clear hK K
  refine wpAnyH_ready (rs := [5]) (by kernel_rfl) (by simp) ?_
  refine AllReadyH.cons rfl (fun K hK => ?_) AllReadyH.nil
  go_simp
  go_at_call 71
  refine (HOR.out _ hbw4).mono ?_
  rintro e w6 ⟨rfl, hbw6⟩
  go_wp2_with fail
  refine hK.out _ _ (HK.out _ hbw6) (fun hHeldw6 => ?_)
  clear hK K
  refine wpAnyH_take (i := 6) (v := ?_) rfl (by kernel_rfl) (by kernel_rfl) (by kernel_rfl) (fun _ _ _ h => h) (Or.inl ⟨by rfl, ?_⟩) (by assumption) ?_
  rotate_left
  · intro w hSw; (try dsimp only at hSw); go_simp; try with_reducible rfl
  simp only [Act.put, List.getElem_toArray, List.getElem_cons_succ, List.getElem_cons_zero, List.setIfInBounds_toArray, List.set_cons_zero, List.set_cons_succ]
  refine wpAnyH_done (by kernel_rfl) ?_ _
  have HB6 := Lib.hid hbw6
  clear hHeld hHeldw3 hHeldw4 hHeldm4 hHeldw6 hbw3 hbw4 hb5 N1 N2 HCH HOR x0 x1 x2 y0 y1 y2 zx zy
  have HX6 := Lib.hid (HX0.out.below HB6.out)
  obtain ⟨⟨x0, x1, x2⟩, ⟨y0, y1, y2⟩, bz, rr⟩ := HX6.out
  have zx := cell_lt x0
  have zy := cell_lt y0
  clear bz rr
  have hnu : ¬ u2 < u1 := by omega
  go_upto_region 6 with fail
  have HBF := Lib.hid (fun X (hX : Below W1.heap.size W1 X) => Calls.bel hX (before_at b u2 u1 n2 c2 n1 p2 g X (HS2.out.below hX) (by omega) HC.out.2.1 HC.out.2.2 HNN.out HLT.out.1 HLT.out.2))
  have HEQL := Lib.hid (fun X (hX : Below W1.heap.size W1 X) => Calls.bel hX (equalL_any f g n1 c1 c2 p1 p2 X (by have := HT1.out.n1; omega) (HS1.out.below hX) (LpIn.less HNN.out (HS2.out.below hX))))
  rw [HEQ.out] at HEQL
  refine wp_region_held_drew (S := (fun w' => Below W1.heap.size W1 w' ∧ w'.cell? ⟨a, 0, none⟩ = some (.int .i64 b) ∧ w'.cell? ⟨a, 1, none⟩ = some (.slice p1 n1 c1) ∧ w'.cell? ⟨a, 2, none⟩ = some (.int .i64 u1) ∧ w'.cell? ⟨a + 1, 0, none⟩ = some (.int .i64 b) ∧ w'.cell? ⟨a + 1, 1, none⟩ = some (.slice p2 n2 c2) ∧ w'.cell? ⟨a + 1, 2, none⟩ = some (.int .i64 u2))) (by kernel_rfl) (HK.out _ (Below.drew HB6.out)) (fun hHeld => ?_)
  refine wpAnyH_take (i := 0) (v := ?_) rfl (by kernel_rfl) (by kernel_rfl) (by kernel_rfl) (fun _ _ _ h => h) (Or.inl ⟨by rfl, ?_⟩) (by assumption) ?_
  rotate_left
  · intro w hSw; (try dsimp only at hSw); go_simp; try with_reducible rfl
  simp only [Act.put, List.getElem_toArray, List.getElem_cons_zero, List.setIfInBounds_toArray, List.set_cons_zero, List.set_cons_succ]
  refine wpAnyH_take (i := 1) (v := ?_) rfl (by kernel_rfl) (by kernel_rfl) (by kernel_rfl) (fun _ _ _ h => h) (Or.inl ⟨by rfl, ?_⟩) (by assumption) ?_
  rotate_left
  · intro w hSw; (try dsimp only at hSw); go_simp; try with_reducible rfl
  simp only [Act.put, List.getElem_toArray, List.getElem_cons_succ, List.getElem_cons_zero, List.setIfInBounds_toArray, List.set_cons_zero, List.set_cons_succ]
  refine wpAnyH_take (i := 2) (v := ?_) rfl (by kernel_rfl) (by kernel_rfl) (by kernel_rfl) (fun _ _ _ h => h) (Or.inl ⟨by rfl, ?_⟩) (by assumption) ?_
  rotate_left
  · intro w hSw; (try dsimp only at hSw); go_simp; try with_reducible rfl
  simp only [Act.put, List.getElem_toArray, List.getElem_cons_succ, List.getElem_cons_zero, List.setIfInBounds_toArray, List.set_cons_zero, List.set_cons_succ]
  refine wpAnyH_take (i := 3) (v := ?_) rfl (by kernel_rfl) (by kernel_rfl) (by kernel_rfl) (fun _ _ _ h => h) (Or.inl ⟨by rfl, ?_⟩) (by assumption) ?_
  rotate_left
  · intro w hSw; (try dsimp only at hSw); go_simp; try with_reducible rfl
  simp only [Act.put, List.getElem_toArray, List.getElem_cons_succ, List.getElem_cons_zero, List.setIfInBounds_toArray, List.set_cons_zero, List.set_cons_succ]
  refine wpAnyH_take (i := 4) (v := ?_) rfl (by kernel_rfl) (by kernel_rfl) (by kernel_rfl) (fun _ _ _ h => h) (Or.inl ⟨by rfl, ?_⟩) (by assumption) ?_
  rotate_left
  · intro w hSw; (try dsimp only at hSw); go_simp; try with_reducible rfl
  simp only [Act.put, List.getElem_toArray, List.getElem_cons_succ, List.getElem_cons_zero, List.setIfInBounds_toArray, List.set_cons_zero, List.set_cons_succ]
  refine wpAnyH_take (i := 5) (v := ?_) rfl (by kernel_rfl) (by kernel_rfl) (by kernel_rfl) (fun _ _ _ h => h) (Or.inl ⟨by rfl, ?_⟩) (by assumption) ?_
  rotate_left
  · intro w hSw; (try dsimp only at hSw); go_simp; try with_reducible rfl
  simp only [Act.put, List.getElem_toArray, List.getElem_cons_succ, List.getElem_cons_zero, List.setIfInBounds_toArray, List.set_cons_zero, List.set_cons_succ]
  refine wpAnyH_take (i := 6) (v := ?_) rfl (by kernel_rfl) (by kernel_rfl) (by kernel_rfl) (fun _ _ _ h => h) (Or.inl ⟨by rfl, ?_⟩) (by assumption) ?_
  rotate_left
  · intro w hSw; (try dsimp only at hSw); go_simp; try with_reducible rfl
  simp only [Act.put, List.getElem_toArray, List.getElem_cons_succ, List.getElem_cons_zero, List.setIfInBounds_toArray, List.set_cons_zero, List.set_cons_succ]
  refine wpAnyH_take (i := 7) (v := ?_) rfl (by kernel_rfl) (by kernel_rfl) (by kernel_rfl) (fun _ _ _ h => h) (Or.inl ⟨by rfl, ?_⟩) (by assumption) ?_
  rotate_left
  · intro w hSw; (try dsimp only at hSw); go_simp; try with_reducible rfl
  simp only [Act.put, List.getElem_toArray, List.getElem_cons_succ, List.getElem_cons_zero, List.setIfInBounds_toArray, List.set_cons_zero, List.set_cons_succ]
  refine wpAnyH_take (i := 8) (v := ?_) rfl (by kernel_rfl) (by kernel_rfl) (by kernel_rfl) (fun _ _ _ h => h) (Or.inl ⟨by rfl, ?_⟩) (by assumption) ?_
  rotate_left
  · intro w hSw; (try dsimp only at hSw); go_simp; try with_reducible rfl
  simp only [Act.put, List.getElem_toArray, List.getElem_cons_succ, List.getElem_cons_zero, List.setIfInBounds_toArray, List.set_cons_zero, List.set_cons_succ]
  refine wpAnyH_take (i := 9) (v := ?_) rfl (by kernel_rfl) (by kernel_rfl) (by kernel_rfl) (fun _ _ _ h => h) (Or.inl ⟨by rfl, ?_⟩) (by assumption) ?_
  rotate_left
  · intro w hSw; (try dsimp only at hSw); go_simp; try with_reducible rfl
  simp only [Act.put, List.getElem_toArray, List.getElem_cons_succ, List.getElem_cons_zero, List.setIfInBounds_toArray, List.set_cons_zero, List.set_cons_succ]
  refine wpAnyH_take (i := 10) (v := ?_) rfl (by kernel_rfl) (by kernel_rfl) (by kernel_rfl) (fun _ _ _ h => h) (Or.inl ⟨by rfl, ?_⟩) (by assumption) ?_
  rotate_left
  · intro w hSw; (try dsimp only at hSw); go_simp; try with_reducible rfl
  simp only [Act.put, List.getElem_toArray, List.getElem_cons_succ, List.getElem_cons_zero, List.setIfInBounds_toArray, List.set_cons_zero, List.set_cons_succ]
  refine wpAnyH_ready (rs := [11]) (by kernel_rfl) (by simp) ?_
  refine AllReadyH.cons rfl (fun K hK => ?_) AllReadyH.nil
  go_simp
  go_at_call 73
  refine (HBF.out _ (Below.drew HB6.out)).mono ?_
  rintro e w7 ⟨rfl, hbw7⟩
  go_wp2_with fail
  refine hK.out _ _ (HK.out _ hbw7) (fun hHeldw7 => ?_)
  clear hK K
  refine wpAnyH_ready (rs := [12]) (by kernel_rfl) (by simp) ?_
  refine AllReadyH.cons rfl (fun K hK => ?_) AllReadyH.nil
  go_simp
  go_at_call 72
  refine (HEQL.out _ hbw7).mono ?_
  rintro e w8 ⟨rfl, hbw8⟩
  go_wp2_with fail
  refine hK.out _ _ (HK.out _ hbw8) (fun hHeldw8 => ?_)
  clear hK K
  refine wpAnyH_take (i := 13) (v := ?_) rfl (by kernel_rfl) (by kernel_rfl) (by kernel_rfl) (fun _ _ _ h => h) (Or.inl ⟨by rfl, ?_⟩) (by assumption) ?_
  rotate_left
  · intro w hSw; (try dsimp only at hSw); go_simp; try with_reducible rfl
  simp only [Act.put, List.getElem_toArray, List.getElem_cons_succ, List.getElem_cons_zero, List.setIfInBounds_toArray, List.set_cons_zero, List.set_cons_succ]
  refine wpAnyH_take (i := 14) (v := ?_) rfl (by kernel_rfl) (by kernel_rfl) (by kernel_rfl) (fun _ _ _ h => h) (Or.inl ⟨by rfl, ?_⟩) (by assumption) ?_
  rotate_left
  · intro w hSw; (try dsimp only at hSw); go_simp; try with_reducible rfl
  simp only [Act.put, List.getElem_toArray, List.getElem_cons_succ, List.getElem_cons_zero, List.setIfInBounds_toArray, List.set_cons_zero, List.set_cons_succ]
  refine wpAnyH_done (by kernel_rfl) ?_ _
  have HB8 := Lib.hid hbw8
  clear hHeld hHeldw7 hHeldw8 hbw7 hbw8 HBF HEQL x0 x1 x2 y0 y1 y2 zx zy
  have HX8 := Lib.hid (HX0.out.below HB8.out)
  obtain ⟨⟨x0, x1, x2⟩, ⟨y0, y1, y2⟩, bz, rr⟩ := HX8.out
  have zy := cell_lt y0
  have z1 := bz 1
  have HCL := Lib.hid (clone_any g n2 c2 p2 w8 (by omega) HP.out (HS2.out.below HB8.out))
  clear x0 x1 x2 rr bz
  go_upto_region 9 with (go_at_call 70; refine HCL.out.mono ?_; rintro e w9 ⟨q, cq, rfl, g1, g2, g3, g4, hb9⟩; have HB9 := Lib.hid hb9; have HG := Lib.hid (And.intro g1 (And.intro g2 (And.intro g3 g4))); have hy1 := cell_below hb9 y1; have zy1 := cell_lt hy1; have hz1 := (hb9.frozen (p := ⟨a + 1, 1, none⟩) zy).trans z1; clear g1 g2 g3 g4 hb9)
  have hX9 := HX0.out.below (bt HB8.out HB9.out)
  have hy0 := hX9.tb.c0
  have hy2 := hX9.tb.c2
  have hlt := Lib.hid (show a + 1 + 1 < w8.heap.size from HX8.out.r.lt)
  obtain ⟨⟨v0, r0⟩, ⟨v1, r1⟩, ⟨v2, r2⟩, rz⟩ := hX9.r
  have z0 := rz 0
  have z1 := rz 1
  have z2 := rz 2
  have zr := cell_lt r0
  clear rz y0 y1 y2 zy hX9
  go_wp2_with fail
  refine bodyPost_ret (v := .tuple #[.agg #[.int .i64 b, .slice q n2 cq, .int .i64 u2], .int .i64 0]) (by simp [results, Tryz.results15, go_sem, r0, r1, r2]) rfl ⟨q, cq, rfl, HG.out.1, HG.out.2.1, ?_, ?_⟩
  · have ne0 : ∀ b o, q = some ⟨b, o, none⟩ → b ≠ a + 1 + 1 := fun b o e => by have := HG.out.2.2.2 b o e; have := hlt.out; omega
    have ne1 : ∀ b o, q = some ⟨b, o, none⟩ → b ≠ a + 1 := fun b o e => by have := HG.out.2.2.2 b o e; have := hlt.out; omega
    exact (((HG.out.2.2.1.set ne1).set ne0).set ne0).set ne0
  · have st : ∀ (X : World) (i o : Nat) (v : Value), a ≤ i → Below w.heap.size w X → Below w.heap.size w (X.setCell ⟨i, o, none⟩ v) := fun X i o v h hb => hb.setCell (p := ⟨i, o, none⟩) (by rw [HAE.out]; exact h) _
    exact st _ _ _ _ (by omega) (st _ _ _ _ (by omega) (st _ _ _ _ (by omega) (st _ _ _ _ (by omega) (bt (bt A3.out HB8.out) HB9.out))))
set_option maxRecDepth 100000 in
set_option maxHeartbeats 4000000 in
theorem Extend_leap {b u1 u2 : Int} {n1 n2 c1 c2 : Nat} {p1 p2 : Option Addr} {f g : Nat → Int × Int} (h1 : tabE b u1 n1 f = 0) (h2 : tabE b u2 n2 g = 0) (hu : u1 ≤ u2) (hn : n1 ≤ n2) (hlt : ∀ j, j < n1 → (g j).1 < u1) (hge : n1 < n2 → u1 ≤ (g n1).1) (heq : eqF f g n1 = false)
    (w : World) (hw : Mon w) (hs1 : LpIn w f n1 p1) (hs2 : LpIn w g n2 p2) (hc1 : n1 ≤ c1) (hc2 : n2 ≤ c2) (hm2 : c2 ≤ maxLen) (hp2 : p2 = none → n2 = 0) :
    Calls Tryz.prog 15 #[.agg #[.int .i64 b, .slice p1 n1 c1, .int .i64 u1], .agg #[.int .i64 b, .slice p2 n2 c2, .int .i64 u2]] w fun e w' => e = .returned (.tuple #[.agg #[.int .i64 0, .slice none 0 0, .int .i64 0], .int .i64 91]) ∧ Below w.heap.size w w' := by
  have A1 := below_alloc (Below.refl w.heap.size w) (.cells #[.int .i64 b, .slice p1 n1 c1, .int .i64 u1] 24)
  have A2 := below_alloc A1 (.cells #[.int .i64 b, .slice p2 n2 c2, .int .i64 u2] 24)
  have A3 := below_alloc A2 (.cells #[.int .i64 0, .slice none 0 0, .int .i64 0] 24)
  have HX0 := Lib.hid (ExtB.new w b u1 n1 c1 p1 b u2 n2 c2 p2)
  have HT1 := Lib.hid (tab_ok h1)
  have HT2 := Lib.hid (tab_ok h2)
  have hn2 := HT2.out.n1
  have HW := Lib.hid (hw.below A3)
  have HS1 := Lib.hid (hs1.below A3)
  have HS2 := Lib.hid (hs2.below A3)
  have HH := Lib.hid (And.intro h1 h2)
  have HC := Lib.hid (And.intro hc1 (And.intro hc2 hm2))
  have HP := Lib.hid hp2
  have HLT := Lib.hid (And.intro hlt hge)
  have HEQ := Lib.hid heq
  have HNN := Lib.hid hn
  have A3 := Lib.hid A3
  clear A1 A2 h1 h2 hw hs1 hs2 hc1 hc2 hm2 hp2 hlt hge heq hn
  go_enter Tryz.func15, Tryz.ntmps15
  go_upto_region 1 with fail
  generalize ((w.alloc (.cells #[.int .i64 b, .slice p1 n1 c1, .int .i64 u1] 24)).alloc (.cells #[.int .i64 b, .slice p2 n2 c2, .int .i64 u2] 24)).alloc (.cells #[.int .i64 0, .slice none 0 0, .int .i64 0] 24) = W1 at *
  obtain ⟨a, ha⟩ : ∃ a, w.heap.size = a := ⟨_, rfl⟩
  have HAE := Lib.hid ha
  rw [ha] at HX0 ⊢
  have HB0 := Lib.hid (Below.refl W1.heap.size W1)
  have N1 := Lib.hid (show ChkIn W1 (.agg #[.int .i64 b, .slice p1 n1 c1, .int .i64 u1]) 0 from fun X hX => Calls.bel hX (by have := Check_any b u1 n1 c1 p1 f X (HW.out.below hX) (HS1.out.below hX) (by have := HT1.out.n1; omega); rwa [HH.out.1] at this))
  have N2 := Lib.hid (show ChkIn W1 (.agg #[.int .i64 b, .slice p2 n2 c2, .int .i64 u2]) 0 from fun X hX => Calls.bel hX (by have := Check_any b u2 n2 c2 p2 g X (HW.out.below hX) (HS2.out.below hX) (by have := HT2.out.n1; omega); rwa [HH.out.2] at this))
  have HCH := Lib.hid (fun X (hX : Below W1.heap.size W1 X) v r (hv : ChkIn W1 v r) => hv X hX)
  have HOR := Lib.hid (fun X (hX : Below W1.heap.size W1 X) => Calls.bel (bt hX (below_alloc (Below.refl X.heap.size X) (.cells #[.int .i64 0, .int .i64 0] 50))) (or_any _ 2 2 _ _ (by decide) (two_ints X 0 0 50)))
  obtain ⟨⟨x0, x1, x2⟩, ⟨y0, y1, y2⟩, bz, rr⟩ := HX0.out
  have zx := cell_lt x0
  have zy := cell_lt y0
  have HK := Lib.hid (show ∀ X, Below W1.heap.size W1 X → (fun w' => Below W1.heap.size W1 w' ∧ w'.cell? ⟨a, 0, none⟩ = some (.int .i64 b) ∧ w'.cell? ⟨a, 1, none⟩ = some (.slice p1 n1 c1) ∧ w'.cell? ⟨a, 2, none⟩ = some (.int .i64 u1) ∧ w'.cell? ⟨a + 1, 0, none⟩ = some (.int .i64 b) ∧ w'.cell? ⟨a + 1, 1, none⟩ = some (.slice p2 n2 c2) ∧ w'.cell? ⟨a + 1, 2, none⟩ = some (.int .i64 u2)) X from fun X h => ⟨h, cell_below h x0, cell_below h x1, cell_below h x2, cell_below h y0, cell_below h y1, cell_below h y2⟩)
  clear bz rr ha
  refine wp_region_held_drew (S := (fun w' => Below W1.heap.size W1 w' ∧ w'.cell? ⟨a, 0, none⟩ = some (.int .i64 b) ∧ w'.cell? ⟨a, 1, none⟩ = some (.slice p1 n1 c1) ∧ w'.cell? ⟨a, 2, none⟩ = some (.int .i64 u1) ∧ w'.cell? ⟨a + 1, 0, none⟩ = some (.int .i64 b) ∧ w'.cell? ⟨a + 1, 1, none⟩ = some (.slice p2 n2 c2) ∧ w'.cell? ⟨a + 1, 2, none⟩ = some (.int .i64 u2))) (by kernel_rfl) (HK.out _ (Below.drew (Below.refl _ _))) (fun hHeld => ?_)
  refine wpAnyH_take (i := 0) (v := ?_) rfl (by kernel_rfl) (by kernel_rfl) (by kernel_rfl) (fun _ _ _ h => h) (Or.inl ⟨by rfl, ?_⟩) (by assumption) ?_
  rotate_left
  · intro w hSw; (try dsimp only at hSw); go_simp; try with_reducible rfl
  simp only [Act.put, List.getElem_toArray, List.getElem_cons_zero, List.setIfInBounds_toArray, List.set_cons_zero, List.set_cons_succ]
  refine wpAnyH_take (i := 2) (v := ?_) rfl (by kernel_rfl) (by kernel_rfl) (by kernel_rfl) (fun _ _ _ h => h) (Or.inl ⟨by rfl, ?_⟩) (by assumption) ?_
  rotate_left
  · intro w hSw; (try dsimp only at hSw); go_simp; try with_reducible rfl
  simp only [Act.put, List.getElem_toArray, List.getElem_cons_succ, List.getElem_cons_zero, List.setIfInBounds_toArray, List.set_cons_zero, List.set_cons_succ]
  refine wpAnyH_ready (rs := [1]) (by kernel_rfl) (by simp) ?_
  refine AllReadyH.cons rfl (fun K hK => ?_) AllReadyH.nil
  go_simp
  go_at_call 33
  refine (HCH.out _ (Below.drew HB0.out) _ _ N1.out).mono ?_
  rintro e w3 ⟨rfl, hbw3⟩
  go_wp2_with fail
  refine hK.out _ _ (HK.out _ hbw3) (fun hHeldw3 => ?_)
  clear hK K
  refine wpAnyH_ready (rs := [3]) (by kernel_rfl) (by simp) ?_
  refine AllReadyH.cons rfl (fun K hK => ?_) AllReadyH.nil
  go_simp
  go_at_call 33
  refine (HCH.out _ hbw3 _ _ N2.out).mono ?_
  rintro e w4 ⟨rfl, hbw4⟩
  go_wp2_with fail
  refine hK.out _ _ (HK.out _ hbw4) (fun hHeldw4 => ?_)
  clear hK K
  have hb5 := below_alloc hbw4 (.cells #[.int .i64 0, .int .i64 0] 50)
  refine wpAnyH_ready (rs := [4]) (by kernel_rfl) (by simp) ?_
  refine AllReadyH.cons rfl (fun K hK => ?_) AllReadyH.nil
  go_simp
  refine hK.out _ _ (HK.out _ (hb5)) (fun hHeldm4 => ?_)
  clear hK K
  refine wpAnyH_ready (rs := [5]) (by kernel_rfl) (by simp) ?_
  refine AllReadyH.cons rfl (fun K hK => ?_) AllReadyH.nil
  go_simp
  go_at_call 71
  refine (HOR.out _ hbw4).mono ?_
  rintro e w6 ⟨rfl, hbw6⟩
  go_wp2_with fail
  refine hK.out _ _ (HK.out _ hbw6) (fun hHeldw6 => ?_)
  clear hK K
  refine wpAnyH_take (i := 6) (v := ?_) rfl (by kernel_rfl) (by kernel_rfl) (by kernel_rfl) (fun _ _ _ h => h) (Or.inl ⟨by rfl, ?_⟩) (by assumption) ?_
  rotate_left
  · intro w hSw; (try dsimp only at hSw); go_simp; try with_reducible rfl
  simp only [Act.put, List.getElem_toArray, List.getElem_cons_succ, List.getElem_cons_zero, List.setIfInBounds_toArray, List.set_cons_zero, List.set_cons_succ]
  refine wpAnyH_done (by kernel_rfl) ?_ _
  have HB6 := Lib.hid hbw6
  clear hHeld hHeldw3 hHeldw4 hHeldm4 hHeldw6 hbw3 hbw4 hb5 N1 N2 HCH HOR x0 x1 x2 y0 y1 y2 zx zy
  have HX6 := Lib.hid (HX0.out.below HB6.out)
  obtain ⟨⟨x0, x1, x2⟩, ⟨y0, y1, y2⟩, bz, rr⟩ := HX6.out
  have zx := cell_lt x0
  have zy := cell_lt y0
  clear bz rr
  have hnu : ¬ u2 < u1 := by omega
  go_upto_region 6 with fail
  have HBF := Lib.hid (fun X (hX : Below W1.heap.size W1 X) => Calls.bel hX (before_at b u2 u1 n2 c2 n1 p2 g X (HS2.out.below hX) (by omega) HC.out.2.1 HC.out.2.2 HNN.out HLT.out.1 HLT.out.2))
  have HEQL := Lib.hid (fun X (hX : Below W1.heap.size W1 X) => Calls.bel hX (equalL_any f g n1 c1 c2 p1 p2 X (by have := HT1.out.n1; omega) (HS1.out.below hX) (LpIn.less HNN.out (HS2.out.below hX))))
  rw [HEQ.out] at HEQL
  refine wp_region_held_drew (S := (fun w' => Below W1.heap.size W1 w' ∧ w'.cell? ⟨a, 0, none⟩ = some (.int .i64 b) ∧ w'.cell? ⟨a, 1, none⟩ = some (.slice p1 n1 c1) ∧ w'.cell? ⟨a, 2, none⟩ = some (.int .i64 u1) ∧ w'.cell? ⟨a + 1, 0, none⟩ = some (.int .i64 b) ∧ w'.cell? ⟨a + 1, 1, none⟩ = some (.slice p2 n2 c2) ∧ w'.cell? ⟨a + 1, 2, none⟩ = some (.int .i64 u2))) (by kernel_rfl) (HK.out _ (Below.drew HB6.out)) (fun hHeld => ?_)
  refine wpAnyH_take (i := 0) (v := ?_) rfl (by kernel_rfl) (by kernel_rfl) (by kernel_rfl) (fun _ _ _ h => h) (Or.inl ⟨by rfl, ?_⟩) (by assumption) ?_
  rotate_left
  · intro w hSw; (try dsimp only at hSw); go_simp; try with_reducible rfl
  simp only [Act.put, List.getElem_toArray, List.getElem_cons_zero, List.setIfInBounds_toArray, List.set_cons_zero, List.set_cons_succ]
  refine wpAnyH_take (i := 1) (v := ?_) rfl (by kernel_rfl) (by kernel_rfl) (by kernel_rfl) (fun _ _ _ h => h) (Or.inl ⟨by rfl, ?_⟩) (by assumption) ?_
  rotate_left
  · intro w hSw; (try dsimp only at hSw); go_simp; try with_reducible rfl
  simp only [Act.put, List.getElem_toArray, List.getElem_cons_succ, List.getElem_cons_zero, List.setIfInBounds_toArray, List.set_cons_zero, List.set_cons_succ]
  refine wpAnyH_take (i := 2) (v := ?_) rfl (by kernel_rfl) (by kernel_rfl) (by kernel_rfl) (fun _ _ _ h => h) (Or.inl ⟨by rfl, ?_⟩) (by assumption) ?_
  rotate_left
  · intro w hSw; (try dsimp only at hSw); go_simp; try with_reducible rfl
  simp only [Act.put, List.getElem_toArray, List.getElem_cons_succ, List.getElem_cons_zero, List.setIfInBounds_toArray, List.set_cons_zero, List.set_cons_succ]
  refine wpAnyH_take (i := 3) (v := ?_) rfl (by kernel_rfl) (by kernel_rfl) (by kernel_rfl) (fun _ _ _ h => h) (Or.inl ⟨by rfl, ?_⟩) (by assumption) ?_
  rotate_left
  · intro w hSw; (try dsimp only at hSw); go_simp; try with_reducible rfl
  simp only [Act.put, List.getElem_toArray, List.getElem_cons_succ, List.getElem_cons_zero, List.setIfInBounds_toArray, List.set_cons_zero, List.set_cons_succ]
  refine wpAnyH_take (i := 4) (v := ?_) rfl (by kernel_rfl) (by kernel_rfl) (by kernel_rfl) (fun _ _ _ h => h) (Or.inl ⟨by rfl, ?_⟩) (by assumption) ?_
  rotate_left
  · intro w hSw; (try dsimp only at hSw); go_simp; try with_reducible rfl
  simp only [Act.put, List.getElem_toArray, List.getElem_cons_succ, List.getElem_cons_zero, List.setIfInBounds_toArray, List.set_cons_zero, List.set_cons_succ]
  refine wpAnyH_take (i := 5) (v := ?_) rfl (by kernel_rfl) (by kernel_rfl) (by kernel_rfl) (fun _ _ _ h => h) (Or.inl ⟨by rfl, ?_⟩) (by assumption) ?_
  rotate_left
  · intro w hSw; (try dsimp only at hSw); go_simp; try with_reducible rfl
  simp only [Act.put, List.getElem_toArray, List.getElem_cons_succ, List.getElem_cons_zero, List.setIfInBounds_toArray, List.set_cons_zero, List.set_cons_succ]
  refine wpAnyH_take (i := 6) (v := ?_) rfl (by kernel_rfl) (by kernel_rfl) (by kernel_rfl) (fun _ _ _ h => h) (Or.inl ⟨by rfl, ?_⟩) (by assumption) ?_
  rotate_left
  · intro w hSw; (try dsimp only at hSw); go_simp; try with_reducible rfl
  simp only [Act.put, List.getElem_toArray, List.getElem_cons_succ, List.getElem_cons_zero, List.setIfInBounds_toArray, List.set_cons_zero, List.set_cons_succ]
  refine wpAnyH_take (i := 7) (v := ?_) rfl (by kernel_rfl) (by kernel_rfl) (by kernel_rfl) (fun _ _ _ h => h) (Or.inl ⟨by rfl, ?_⟩) (by assumption) ?_
  rotate_left
  · intro w hSw; (try dsimp only at hSw); go_simp; try with_reducible rfl
  simp only [Act.put, List.getElem_toArray, List.getElem_cons_succ, List.getElem_cons_zero, List.setIfInBounds_toArray, List.set_cons_zero, List.set_cons_succ]
  refine wpAnyH_take (i := 8) (v := ?_) rfl (by kernel_rfl) (by kernel_rfl) (by kernel_rfl) (fun _ _ _ h => h) (Or.inl ⟨by rfl, ?_⟩) (by assumption) ?_
  rotate_left
  · intro w hSw; (try dsimp only at hSw); go_simp; try with_reducible rfl
  simp only [Act.put, List.getElem_toArray, List.getElem_cons_succ, List.getElem_cons_zero, List.setIfInBounds_toArray, List.set_cons_zero, List.set_cons_succ]
  refine wpAnyH_take (i := 9) (v := ?_) rfl (by kernel_rfl) (by kernel_rfl) (by kernel_rfl) (fun _ _ _ h => h) (Or.inl ⟨by rfl, ?_⟩) (by assumption) ?_
  rotate_left
  · intro w hSw; (try dsimp only at hSw); go_simp; try with_reducible rfl
  simp only [Act.put, List.getElem_toArray, List.getElem_cons_succ, List.getElem_cons_zero, List.setIfInBounds_toArray, List.set_cons_zero, List.set_cons_succ]
  refine wpAnyH_take (i := 10) (v := ?_) rfl (by kernel_rfl) (by kernel_rfl) (by kernel_rfl) (fun _ _ _ h => h) (Or.inl ⟨by rfl, ?_⟩) (by assumption) ?_
  rotate_left
  · intro w hSw; (try dsimp only at hSw); go_simp; try with_reducible rfl
  simp only [Act.put, List.getElem_toArray, List.getElem_cons_succ, List.getElem_cons_zero, List.setIfInBounds_toArray, List.set_cons_zero, List.set_cons_succ]
  refine wpAnyH_ready (rs := [11]) (by kernel_rfl) (by simp) ?_
  refine AllReadyH.cons rfl (fun K hK => ?_) AllReadyH.nil
  go_simp
  go_at_call 73
  refine (HBF.out _ (Below.drew HB6.out)).mono ?_
  rintro e w7 ⟨rfl, hbw7⟩
  go_wp2_with fail
  refine hK.out _ _ (HK.out _ hbw7) (fun hHeldw7 => ?_)
  clear hK K
  refine wpAnyH_ready (rs := [12]) (by kernel_rfl) (by simp) ?_
  refine AllReadyH.cons rfl (fun K hK => ?_) AllReadyH.nil
  go_simp
  go_at_call 72
  refine (HEQL.out _ hbw7).mono ?_
  rintro e w8 ⟨rfl, hbw8⟩
  go_wp2_with fail
  refine hK.out _ _ (HK.out _ hbw8) (fun hHeldw8 => ?_)
  clear hK K
  refine wpAnyH_take (i := 13) (v := ?_) rfl (by kernel_rfl) (by kernel_rfl) (by kernel_rfl) (fun _ _ _ h => h) (Or.inl ⟨by rfl, ?_⟩) (by assumption) ?_
  rotate_left
  · intro w hSw; (try dsimp only at hSw); go_simp; try with_reducible rfl
  simp only [Act.put, List.getElem_toArray, List.getElem_cons_succ, List.getElem_cons_zero, List.setIfInBounds_toArray, List.set_cons_zero, List.set_cons_succ]
  refine wpAnyH_take (i := 14) (v := ?_) rfl (by kernel_rfl) (by kernel_rfl) (by kernel_rfl) (fun _ _ _ h => h) (Or.inl ⟨by rfl, ?_⟩) (by assumption) ?_
  rotate_left
  · intro w hSw; (try dsimp only at hSw); go_simp; try with_reducible rfl
  simp only [Act.put, List.getElem_toArray, List.getElem_cons_succ, List.getElem_cons_zero, List.setIfInBounds_toArray, List.set_cons_zero, List.set_cons_succ]
  refine wpAnyH_done (by kernel_rfl) ?_ _
  have HB8 := Lib.hid hbw8
  clear hHeld hHeldw7 hHeldw8 hbw7 hbw8 HBF HEQL x0 x1 x2 y0 y1 y2 zx zy
  have HX8 := Lib.hid (HX0.out.below HB8.out)
  obtain ⟨⟨x0, x1, x2⟩, ⟨y0, y1, y2⟩, bz, rr⟩ := HX8.out
  obtain ⟨⟨v0, r0⟩, ⟨v1, r1⟩, ⟨v2, r2⟩, rz⟩ := rr
  have z0 := rz 0
  have z1 := rz 1
  have z2 := rz 2
  have zr := cell_lt r0
  clear rz bz x0 x1 x2 y0 y1 y2
  go_wp2_with fail
  refine bodyPost_ret (v := .tuple #[.agg #[.int .i64 0, .slice none 0 0, .int .i64 0], .int .i64 91]) (by simp [results, Tryz.results15, go_sem, r0, r1, r2]) rfl ⟨rfl, ?_⟩
  have st : ∀ (X : World) (i o : Nat) (v : Value), a ≤ i → Below w.heap.size w X → Below w.heap.size w (X.setCell ⟨i, o, none⟩ v) := fun X i o v h hb => hb.setCell (p := ⟨i, o, none⟩) (by rw [HAE.out]; exact h) _
  exact st _ _ _ _ (by omega) (st _ _ _ _ (by omega) (st _ _ _ _ (by omega) (bt A3.out HB8.out)))

end Go.Proofs.YtgnfaemnehmgcaaGreatDoor.Cal
