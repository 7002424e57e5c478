/-  -/
import Derived.Test.YtgnfaemnehmgcaaGreatDoorQ16
namespace Go.Proofs.YtgnfaemnehmgcaaGreatDoor.Cal
open Go Go.RowKit
attribute [local go_sem] Oper.semAt_some
theorem eql_nilL2 (w : World) (a : Option Addr) (n c n' c' : Nat) : (binOp .eql 22 (.slice a n c) (.slice none n' c')).run Tryz.prog w = .ok (.bool a.isNone) w := Lib.run_eql_slice_nil w _ _ a n c n' c' Tryz.underlying22
attribute [local go_sem] eql_nilL2
theorem equalL_len (n m c1 c2 : Nat) (p q : Option Addr) (w : World) (h : n ≠ m) :
    Calls Tryz.prog 72 #[.slice p n c1, .slice q m c2] w fun e w' => e = .returned (.bool false) ∧ Below w.heap.size w w' := by
  have hv : ((n : Int) == (m : Int)) = false := beq_eq_false_iff_ne.2 (by omega)
  go_enter Tryz.func72, Tryz.ntmps72
  go_wp2_with fail
  go_ret
  exact ⟨rfl, Below.refl _ _⟩
theorem own_leapsF {X : World} {B : Nat} {e : TypeId} {v : Value} {n : Nat} {f : Nat → Int × Int} (h : X.ownsRow B e 2 v n (lv f n)) : ∀ g o q c m, v = .slice q m c → q = some ⟨g, o, none⟩ → ∀ i, X.frozen? ⟨g, i, none⟩ = false := by
  intro g o q c m hv hq i
  rcases h.2 with ⟨rfl, h0⟩ | ⟨g', cap, cur, rfl, hge, hg, rest⟩
  · cases hv; cases hq
  · cases hv; cases hq
    simp [World.frozen?, hg]
set_option maxRecDepth 100000 in
set_option maxHeartbeats 1000000 in
theorem clone_own (f : Nat → Int × Int) (n c : Nat) (p : Option Addr) (w : World) (hn : n ≤ 1000) (hp : p = none → n = 0) (hs : LpIn w f n p) :
    Calls Tryz.prog 70 #[.slice p n c] w fun e w' => ∃ q cq, e = .returned (.slice q n cq) ∧ n ≤ cq ∧ cq ≤ maxLen ∧ LpIn w' f n q ∧ (∀ b o, q = some ⟨b, o, none⟩ → w.heap.size ≤ b ∧ ∀ i, w'.frozen? ⟨b, i, none⟩ = false) ∧ Below w.heap.size w w' := by
  cases p with
  | none =>
    obtain rfl : n = 0 := hp rfl
    clear hp hs
    go_enter Tryz.func70, Tryz.ntmps70
    go_wp2
    go_ret
    exact ⟨none, 0, rfl, Nat.le_refl _, by simp [maxLen], .inl rfl, fun b o e => (by cases e), Below.refl _ _⟩
  | some a =>
    obtain ⟨i0, hi0, hz0, hz1, hz2⟩ := info_parts infoLeap
    have b1 := below_alloc (Below.refl w.heap.size w) (.cells #[] 33)
    have hcell : ∀ j u, (lv f n)[j]? = some u → (w.alloc (.cells #[] 33)).cell? (a.add j) = some u := fun j u hj => by
      have hlt : j < n * 2 := by rw [← lv_len f n]; exact (List.getElem?_eq_some_iff.1 hj).1
      obtain ⟨bb, oo, e, hsi⟩ := hs.resolve_left (by omega)
      cases e
      exact lv_cells (hsi.below b1) j u hj
    have HCE := Lib.hid hcell
    have HEO := Lib.hid (empty_own w)
    have HB1 := Lib.hid b1
    clear hcell hs hp b1
    go_enter Tryz.func70, Tryz.ntmps70
    go_wp2_with (at_builtin; refine wpList_append_own_at _ rfl _ _ _ rfl w.heap.size 33 i0 (.agg #[.int .i64 0, .int .i64 0]) 2 16 Tryz.underlying22 hi0 hz0 hz1 hz2 rfl (by decide) _ 0 [] rfl HEO.out a n c (lv f n) rfl (by rw [lv_len]) HCE.out (lv_one f n) (by unfold maxLen; omega) (by omega) (by simp) ?_; intro v' w1 hown hg _ _; have HOWN := Lib.hid hown; have HG := Lib.hid hg; clear hown hg)
    have HB := Lib.hid (Below.grown HB1.out HG.out HB1.out.size (fun k hk => by
      have e : (some w.heap.size : Option Nat) = some k := hk
      cases e
      exact Nat.le_refl _))
    have hown := HOWN.out
    simp only [Nat.zero_add, List.nil_append] at hown
    obtain ⟨q, cq, hvq, h1, h2, h3, h4⟩ := own_leaps hown
    have HZ := Lib.hid (fun g o hq => own_leapsF hown g o q cq n hvq hq)
    subst hvq
    have H3 := Lib.hid h3
    have H4 := Lib.hid h4
    have H12 := Lib.hid (And.intro h1 h2)
    clear hown HOWN HG h1 h2 h3 h4
    go_wp2_with fail
    go_ret
    exact ⟨q, cq, rfl, H12.out.1, H12.out.2, H3.out, fun b o e => ⟨H4.out b o e, HZ.out b o e⟩, HB.out⟩
set_option maxRecDepth 100000 in
set_option maxHeartbeats 4000000 in
theorem Extend_own {b u1 u2 : Int} {n1 n2 c1 c2 : Nat} {p1 p2 : Option Addr} {f g : Nat → Int × Int} (h1 : tabE b u1 n1 f = 0) (h2 : tabE b u2 n2 g = 0) (hu : u1 ≤ u2) (k : Nat) (hn : k ≤ n2) (hlt : ∀ j, j < k → (g j).1 < u1) (hge : k < n2 → u1 ≤ (g k).1) (heq : n1 = k ∧ eqF f g n1 = true)
    (w : World) (hw : Mon w) (hs1 : LpIn w f n1 p1) (hs2 : LpIn w g n2 p2) (hc1 : n1 ≤ c1) (hc2 : n2 ≤ c2) (hm2 : c2 ≤ maxLen) (hp2 : p2 = none → n2 = 0) :
    Calls Tryz.prog 15 #[.agg #[.int .i64 b, .slice p1 n1 c1, .int .i64 u1], .agg #[.int .i64 b, .slice p2 n2 c2, .int .i64 u2]] w fun e w' => ∃ q cq, e = .returned (.tuple #[.agg #[.int .i64 b, .slice q n2 cq, .int .i64 u2], .int .i64 0]) ∧ n2 ≤ cq ∧ cq ≤ maxLen ∧ LpIn w' g n2 q ∧ (∀ bl o, q = some ⟨bl, o, none⟩ → w.heap.size ≤ bl ∧ ∀ i, w'.frozen? ⟨bl, i, none⟩ = false) ∧ Below w.heap.size w w' := by
  have A1 := below_alloc (Below.refl w.heap.size w) (.cells #[.int .i64 b, .slice p1 n1 c1, .int .i64 u1] 24)
  have A2 := below_alloc A1 (.cells #[.int .i64 b, .slice p2 n2 c2, .int .i64 u2] 24)
  have A3 := below_alloc A2 (.cells #[.int .i64 0, .slice none 0 0, .int .i64 0] 24)
  have HX0 := Lib.hid (ExtB.new w b u1 n1 c1 p1 b u2 n2 c2 p2)
  have HT1 := Lib.hid (tab_ok h1)
  have HT2 := Lib.hid (tab_ok h2)
  have hn2 := HT2.out.n1
  have HW := Lib.hid (hw.below A3)
  have HS1 := Lib.hid (hs1.below A3)
  have HS2 := Lib.hid (hs2.below A3)
  have HH := Lib.hid (And.intro h1 h2)
  have HC := Lib.hid (And.intro hc1 (And.intro hc2 hm2))
  have HP := Lib.hid hp2
  have HLT := Lib.hid (And.intro hlt hge)
  have HEQ := Lib.hid heq
  have HNN := Lib.hid hn
  have A3 := Lib.hid A3
  clear A1 A2 h1 h2 hw hs1 hs2 hc1 hc2 hm2 hp2 hlt hge heq hn
  go_enter Tryz.func15, Tryz.ntmps15
  go_upto_region 1 with fail
  generalize ((w.alloc (.cells #[.int .i64 b, .slice p1 n1 c1, .int .i64 u1] 24)).alloc (.cells #[.int .i64 b, .slice p2 n2 c2, .int .i64 u2] 24)).alloc (.cells #[.int .i64 0, .slice none 0 0, .int .i64 0] 24) = W1 at *
  obtain ⟨a, ha⟩ : ∃ a, w.heap.size = a := ⟨_, rfl⟩
  have HAE := Lib.hid ha
  rw [ha] at HX0 ⊢
  have HB0 := Lib.hid (Below.refl W1.heap.size W1)
  have N1 := Lib.hid (show ChkIn W1 (.agg #[.int .i64 b, .slice p1 n1 c1, .int .i64 u1]) 0 from fun X hX => Calls.bel hX (by have := Check_any b u1 n1 c1 p1 f X (HW.out.below hX) (HS1.out.below hX) (by have := HT1.out.n1; omega); rwa [HH.out.1] at this))
  have N2 := Lib.hid (show ChkIn W1 (.agg #[.int .i64 b, .slice p2 n2 c2, .int .i64 u2]) 0 from fun X hX => Calls.bel hX (by have := Check_any b u2 n2 c2 p2 g X (HW.out.below hX) (HS2.out.below hX) (by have := HT2.out.n1; omega); rwa [HH.out.2] at this))
  have HCH := Lib.hid (fun X (hX : Below W1.heap.size W1 X) v r (hv : ChkIn W1 v r) => hv X hX)
  have HOR := Lib.hid (fun X (hX : Below W1.heap.size W1 X) => Calls.bel (bt hX (below_alloc (Below.refl X.heap.size X) (.cells #[.int .i64 0, .int .i64 0] 50))) (or_any _ 2 2 _ _ (by decide) (two_ints X 0 0 50)))
  obtain ⟨⟨x0, x1, x2⟩, ⟨y0, y1, y2⟩, bz, rr⟩ := HX0.out
  have zx := cell_lt x0
  have zy := cell_lt y0
  have HK := Lib.hid (show ∀ X, Below W1.heap.size W1 X → (fun w' => Below W1.heap.size W1 w' ∧ w'.cell? ⟨a, 0, none⟩ = some (.int .i64 b) ∧ w'.cell? ⟨a, 1, none⟩ = some (.slice p1 n1 c1) ∧ w'.cell? ⟨a, 2, none⟩ = some (.int .i64 u1) ∧ w'.cell? ⟨a + 1, 0, none⟩ = some (.int .i64 b) ∧ w'.cell? ⟨a + 1, 1, none⟩ = some (.slice p2 n2 c2) ∧ w'.cell? ⟨a + 1, 2, none⟩ = some (.int .i64 u2)) X from fun X h => ⟨h, cell_below h x0, cell_below h x1, cell_below h x2, cell_below h y0, cell_below h y1, cell_below h y2⟩)
  clear bz rr ha
  refine wp_region_held_drew (S := (fun w' => Below W1.heap.size W1 w' ∧ w'.cell? ⟨a, 0, none⟩ = some (.int .i64 b) ∧ w'.cell? ⟨a, 1, none⟩ = some (.slice p1 n1 c1) ∧ w'.cell? ⟨a, 2, none⟩ = some (.int .i64 u1) ∧ w'.cell? ⟨a + 1, 0, none⟩ = some (.int .i64 b) ∧ w'.cell? ⟨a + 1, 1, none⟩ = some (.slice p2 n2 c2) ∧ w'.cell? ⟨a + 1, 2, none⟩ = some (.int .i64 u2))) (by kernel_rfl) (HK.out _ (Below.drew (Below.refl _ _))) (fun hHeld => ?_)
  refine wpAnyH_take (i := 0) (v := ?_) rfl (by kernel_rfl) (by kernel_rfl) (by kernel_rfl) (fun _ _ _ h => h) (Or.inl ⟨by rfl, ?_⟩) (by assumption) ?_
  rotate_left
  · intro w hSw; (try dsimp only at hSw); go_simp; try with_reducible rfl
  simp only [Act.put, List.getElem_toArray, List.getElem_cons_zero, List.setIfInBounds_toArray, List.set_cons_zero, List.set_cons_succ]
  refine wpAnyH_take (i := 2) (v := ?_) rfl (by kernel_rfl) (by kernel_rfl) (by kernel_rfl) (fun _ _ _ h => h) (Or.inl ⟨by rfl, ?_⟩) (by assumption) ?_
  rotate_left
  · intro w hSw; (try dsimp only at hSw); go_simp; try with_reducible rfl
  simp only [Act.put, List.getElem_toArray, List.getElem_cons_succ, List.getElem_cons_zero, List.setIfInBounds_toArray, List.set_cons_zero, List.set_cons_succ]
  refine wpAnyH_ready (rs := [1]) (by kernel_rfl) (by simp) ?_
  refine AllReadyH.cons rfl (fun K hK => ?_) AllReadyH.nil
  go_simp
  go_at_call 33
  refine (HCH.out _ (Below.drew HB0.out) _ _ N1.out).mono ?_
  rintro e w3 ⟨rfl, hbw3⟩
  go_wp2_with fail
  refine hK.out _ _ (HK.out _ hbw3) (fun hHeldw3 => ?_)
  clear hK K
  refine wpAnyH_ready (rs := [3]) (by kernel_rfl) (by simp) ?_
  refine AllReadyH.cons rfl (fun K hK => ?_) AllReadyH.nil
  go_simp
  go_at_call 33
  refine (HCH.out _ hbw3 _ _ N2.out).mono ?_
  rintro e w4 ⟨rfl, hbw4⟩
  go_wp2_with fail
  refine hK.out _ _ (HK.out _ hbw4) (fun hHeldw4 => ?_)
  clear hK K
  have hb5 := below_alloc hbw4 (.cells #[.int .i64 0, .int .i64 0] 50)
  refine wpAnyH_ready (rs := [4]) (by kernel_rfl) (by simp) ?_
  refine AllReadyH.cons rfl (fun K hK => ?_) AllReadyH.nil
  go_simp
  refine hK.out _ _ (HK.out _ (hb5)) (fun hHeldm4 => ?_)
  clear hK K
  refine wpAnyH_ready (rs := [5]) (by kernel_rfl) (by simp) ?_
  refine AllReadyH.cons rfl (fun K hK => ?_) AllReadyH.nil
  go_simp
  go_at_call 71
  refine (HOR.out _ hbw4).mono ?_
  rintro e w6 ⟨rfl, hbw6⟩
  go_wp2_with fail
  refine hK.out _ _ (HK.out _ hbw6) (fun hHeldw6 => ?_)
  clear hK K
  refine wpAnyH_take (i := 6) (v := ?_) rfl (by kernel_rfl) (by kernel_rfl) (by kernel_rfl) (fun _ _ _ h => h) (Or.inl ⟨by rfl, ?_⟩) (by assumption) ?_
  rotate_left
  · intro w hSw; (try dsimp only at hSw); go_simp; try with_reducible rfl
  simp only [Act.put, List.getElem_toArray, List.getElem_cons_succ, List.getElem_cons_zero, List.setIfInBounds_toArray, List.set_cons_zero, List.set_cons_succ]
  refine wpAnyH_done (by kernel_rfl) ?_ _
  have HB6 := Lib.hid hbw6
  clear hHeld hHeldw3 hHeldw4 hHeldm4 hHeldw6 hbw3 hbw4 hb5 N1 N2 HCH HOR x0 x1 x2 y0 y1 y2 zx zy
  have HX6 := Lib.hid (HX0.out.below HB6.out)
  obtain ⟨⟨x0, x1, x2⟩, ⟨y0, y1, y2⟩, bz, rr⟩ := HX6.out
  have zx := cell_lt x0
  have zy := cell_lt y0
  clear bz rr
  have hnu : ¬ u2 < u1 := by omega
  go_upto_region 6 with fail
  have HBF := Lib.hid (fun X (hX : Below W1.heap.size W1 X) => Calls.bel hX (before_at b u2 u1 n2 c2 k p2 g X (HS2.out.below hX) (by omega) HC.out.2.1 HC.out.2.2 HNN.out HLT.out.1 HLT.out.2))
  have HEQL := Lib.hid (show ∀ X, Below W1.heap.size W1 X → Calls Tryz.prog 72 #[.slice p1 n1 c1, .slice p2 k c2] X fun e w' => e = .returned (.bool true) ∧ Below W1.heap.size W1 w' from fun X (hX : Below W1.heap.size W1 X) => Calls.bel hX (by rw [← HEQ.out.1, ← HEQ.out.2]; exact equalL_any f g n1 c1 c2 p1 p2 X (by have := HT1.out.n1; omega) (HS1.out.below hX) (LpIn.less (by have := HNN.out; have := HEQ.out.1; omega) (HS2.out.below hX))))
  refine wp_region_held_drew (S := (fun w' => Below W1.heap.size W1 w' ∧ w'.cell? ⟨a, 0, none⟩ = some (.int .i64 b) ∧ w'.cell? ⟨a, 1, none⟩ = some (.slice p1 n1 c1) ∧ w'.cell? ⟨a, 2, none⟩ = some (.int .i64 u1) ∧ w'.cell? ⟨a + 1, 0, none⟩ = some (.int .i64 b) ∧ w'.cell? ⟨a + 1, 1, none⟩ = some (.slice p2 n2 c2) ∧ w'.cell? ⟨a + 1, 2, none⟩ = some (.int .i64 u2))) (by kernel_rfl) (HK.out _ (Below.drew HB6.out)) (fun hHeld => ?_)
  refine wpAnyH_take (i := 0) (v := ?_) rfl (by kernel_rfl) (by kernel_rfl) (by kernel_rfl) (fun _ _ _ h => h) (Or.inl ⟨by rfl, ?_⟩) (by assumption) ?_
  rotate_left
  · intro w hSw; (try dsimp only at hSw); go_simp; try with_reducible rfl
  simp only [Act.put, List.getElem_toArray, List.getElem_cons_zero, List.setIfInBounds_toArray, List.set_cons_zero, List.set_cons_succ]
  refine wpAnyH_take (i := 1) (v := ?_) rfl (by kernel_rfl) (by kernel_rfl) (by kernel_rfl) (fun _ _ _ h => h) (Or.inl ⟨by rfl, ?_⟩) (by assumption) ?_
  rotate_left
  · intro w hSw; (try dsimp only at hSw); go_simp; try with_reducible rfl
  simp only [Act.put, List.getElem_toArray, List.getElem_cons_succ, List.getElem_cons_zero, List.setIfInBounds_toArray, List.set_cons_zero, List.set_cons_succ]
  refine wpAnyH_take (i := 2) (v := ?_) rfl (by kernel_rfl) (by kernel_rfl) (by kernel_rfl) (fun _ _ _ h => h) (Or.inl ⟨by rfl, ?_⟩) (by assumption) ?_
  rotate_left
  · intro w hSw; (try dsimp only at hSw); go_simp; try with_reducible rfl
  simp only [Act.put, List.getElem_toArray, List.getElem_cons_succ, List.getElem_cons_zero, List.setIfInBounds_toArray, List.set_cons_zero, List.set_cons_succ]
  refine wpAnyH_take (i := 3) (v := ?_) rfl (by kernel_rfl) (by kernel_rfl) (by kernel_rfl) (fun _ _ _ h => h) (Or.inl ⟨by rfl, ?_⟩) (by assumption) ?_
  rotate_left
  · intro w hSw; (try dsimp only at hSw); go_simp; try with_reducible rfl
  simp only [Act.put, List.getElem_toArray, List.getElem_cons_succ, List.getElem_cons_zero, List.setIfInBounds_toArray, List.set_cons_zero, List.set_cons_succ]
  refine wpAnyH_take (i := 4) (v := ?_) rfl (by kernel_rfl) (by kernel_rfl) (by kernel_rfl) (fun _ _ _ h => h) (Or.inl ⟨by rfl, ?_⟩) (by assumption) ?_
  rotate_left
  · intro w hSw; (try dsimp only at hSw); go_simp; try with_reducible rfl
  simp only [Act.put, List.getElem_toArray, List.getElem_cons_succ, List.getElem_cons_zero, List.setIfInBounds_toArray, List.set_cons_zero, List.set_cons_succ]
  refine wpAnyH_take (i := 5) (v := ?_) rfl (by kernel_rfl) (by kernel_rfl) (by kernel_rfl) (fun _ _ _ h => h) (Or.inl ⟨by rfl, ?_⟩) (by assumption) ?_
  rotate_left
  · intro w hSw; (try dsimp only at hSw); go_simp; try with_reducible rfl
  simp only [Act.put, List.getElem_toArray, List.getElem_cons_succ, List.getElem_cons_zero, List.setIfInBounds_toArray, List.set_cons_zero, List.set_cons_succ]
  refine wpAnyH_take (i := 6) (v := ?_) rfl (by kernel_rfl) (by kernel_rfl) (by kernel_rfl) (fun _ _ _ h => h) (Or.inl ⟨by rfl, ?_⟩) (by assumption) ?_
  rotate_left
  · intro w hSw; (try dsimp only at hSw); go_simp; try with_reducible rfl
  simp only [Act.put, List.getElem_toArray, List.getElem_cons_succ, List.getElem_cons_zero, List.setIfInBounds_toArray, List.set_cons_zero, List.set_cons_succ]
  refine wpAnyH_take (i := 7) (v := ?_) rfl (by kernel_rfl) (by kernel_rfl) (by kernel_rfl) (fun _ _ _ h => h) (Or.inl ⟨by rfl, ?_⟩) (by assumption) ?_
  rotate_left
  · intro w hSw; (try dsimp only at hSw); go_simp; try with_reducible rfl
  simp only [Act.put, List.getElem_toArray, List.getElem_cons_succ, List.getElem_cons_zero, List.setIfInBounds_toArray, List.set_cons_zero, List.set_cons_succ]
  refine wpAnyH_take (i := 8) (v := ?_) rfl (by kernel_rfl) (by kernel_rfl) (by kernel_rfl) (fun _ _ _ h => h) (Or.inl ⟨by rfl, ?_⟩) (by assumption) ?_
  rotate_left
  · intro w hSw; (try dsimp only at hSw); go_simp; try with_reducible rfl
  simp only [Act.put, List.getElem_toArray, List.getElem_cons_succ, List.getElem_cons_zero, List.setIfInBounds_toArray, List.set_cons_zero, List.set_cons_succ]
  refine wpAnyH_take (i := 9) (v := ?_) rfl (by kernel_rfl) (by kernel_rfl) (by kernel_rfl) (fun _ _ _ h => h) (Or.inl ⟨by rfl, ?_⟩) (by assumption) ?_
  rotate_left
  · intro w hSw; (try dsimp only at hSw); go_simp; try with_reducible rfl
  simp only [Act.put, List.getElem_toArray, List.getElem_cons_succ, List.getElem_cons_zero, List.setIfInBounds_toArray, List.set_cons_zero, List.set_cons_succ]
  refine wpAnyH_take (i := 10) (v := ?_) rfl (by kernel_rfl) (by kernel_rfl) (by kernel_rfl) (fun _ _ _ h => h) (Or.inl ⟨by rfl, ?_⟩) (by assumption) ?_
  rotate_left
  · intro w hSw; (try dsimp only at hSw); go_simp; try with_reducible rfl
  simp only [Act.put, List.getElem_toArray, List.getElem_cons_succ, List.getElem_cons_zero, List.setIfInBounds_toArray, List.set_cons_zero, List.set_cons_succ]
  refine wpAnyH_ready (rs := [11]) (by kernel_rfl) (by simp) ?_
  refine AllReadyH.cons rfl (fun K hK => ?_) AllReadyH.nil
  go_simp
  go_at_call 73
  refine (HBF.out _ (Below.drew HB6.out)).mono ?_
  rintro e w7 ⟨rfl, hbw7⟩
  go_wp2_with fail
  refine hK.out _ _ (HK.out _ hbw7) (fun hHeldw7 => ?_)
  clear hK K
  refine wpAnyH_ready (rs := [12]) (by kernel_rfl) (by simp) ?_
  refine AllReadyH.cons rfl (fun K hK => ?_) AllReadyH.nil
  go_simp
  go_at_call 72
  refine (HEQL.out _ hbw7).mono ?_
  rintro e w8 ⟨rfl, hbw8⟩
  go_wp2_with fail
  refine hK.out _ _ (HK.out _ hbw8) (fun hHeldw8 => ?_)
  clear hK K
  refine wpAnyH_take (i := 13) (v := ?_) rfl (by kernel_rfl) (by kernel_rfl) (by kernel_rfl) (fun _ _ _ h => h) (Or.inl ⟨by rfl, ?_⟩) (by assumption) ?_
  rotate_left
  · intro w hSw; (try dsimp only at hSw); go_simp; try with_reducible rfl
  simp only [Act.put, List.getElem_toArray, List.getElem_cons_succ, List.getElem_cons_zero, List.setIfInBounds_toArray, List.set_cons_zero, List.set_cons_succ]
  refine wpAnyH_take (i := 14) (v := ?_) rfl (by kernel_rfl) (by kernel_rfl) (by kernel_rfl) (fun _ _ _ h => h) (Or.inl ⟨by rfl, ?_⟩) (by assumption) ?_
  rotate_left
  · intro w hSw; (try dsimp only at hSw); go_simp; try with_reducible rfl
  simp only [Act.put, List.getElem_toArray, List.getElem_cons_succ, List.getElem_cons_zero, List.setIfInBounds_toArray, List.set_cons_zero, List.set_cons_succ]
  refine wpAnyH_done (by kernel_rfl) ?_ _
  have HB8 := Lib.hid hbw8
  clear hHeld hHeldw7 hHeldw8 hbw7 hbw8 HBF HEQL x0 x1 x2 y0 y1 y2 zx zy
  have HX8 := Lib.hid (HX0.out.below HB8.out)
  obtain ⟨⟨x0, x1, x2⟩, ⟨y0, y1, y2⟩, bz, rr⟩ := HX8.out
  have zy := cell_lt y0
  have z1 := bz 1
  have HCL := Lib.hid (clone_own g n2 c2 p2 w8 (by omega) HP.out (HS2.out.below HB8.out))
  clear x0 x1 x2 rr bz
  go_upto_region 9 with (go_at_call 70; refine HCL.out.mono ?_; rintro e w9 ⟨q, cq, rfl, g1, g2, g3, g4, hb9⟩; have HB9 := Lib.hid hb9; have HG := Lib.hid (And.intro g1 (And.intro g2 (And.intro g3 g4))); have hy1 := cell_below hb9 y1; have zy1 := cell_lt hy1; have hz1 := (hb9.frozen (p := ⟨a + 1, 1, none⟩) zy).trans z1; clear g1 g2 g3 g4 hb9)
  have hX9 := HX0.out.below (bt HB8.out HB9.out)
  have hy0 := hX9.tb.c0
  have hy2 := hX9.tb.c2
  have hlt := Lib.hid (show a + 1 + 1 < w8.heap.size from HX8.out.r.lt)
  obtain ⟨⟨v0, r0⟩, ⟨v1, r1⟩, ⟨v2, r2⟩, rz⟩ := hX9.r
  have z0 := rz 0
  have z1 := rz 1
  have z2 := rz 2
  have zr := cell_lt r0
  clear rz y0 y1 y2 zy hX9
  go_wp2_with fail
  refine bodyPost_ret (v := .tuple #[.agg #[.int .i64 b, .slice q n2 cq, .int .i64 u2], .int .i64 0]) (by simp [results, Tryz.results15, go_sem, r0, r1, r2]) rfl ⟨q, cq, rfl, HG.out.1, HG.out.2.1, ?_, ?_, ?_⟩
  · have ne0 : ∀ b o, q = some ⟨b, o, none⟩ → b ≠ a + 1 + 1 := fun b o e => by have := (HG.out.2.2.2 b o e).1; have := hlt.out; omega
    have ne1 : ∀ b o, q = some ⟨b, o, none⟩ → b ≠ a + 1 := fun b o e => by have := (HG.out.2.2.2 b o e).1; have := hlt.out; omega
    exact (((HG.out.2.2.1.set ne1).set ne0).set ne0).set ne0
  · exact fun b o e => ⟨Nat.le_trans (by have := HX8.out.r.lt; have := HAE.out; omega) (HG.out.2.2.2 b o e).1, fun i => by simp only [World.frozen?_setCell]; exact (HG.out.2.2.2 b o e).2 i⟩
  · have st : ∀ (X : World) (i o : Nat) (v : Value), a ≤ i → Below w.heap.size w X → Below w.heap.size w (X.setCell ⟨i, o, none⟩ v) := fun X i o v h hb => hb.setCell (p := ⟨i, o, none⟩) (by rw [HAE.out]; exact h) _
    exact st _ _ _ _ (by omega) (st _ _ _ _ (by omega) (st _ _ _ _ (by omega) (st _ _ _ _ (by omega) (bt (bt A3.out HB8.out) HB9.out))))
set_option maxRecDepth 100000 in
set_option maxHeartbeats 4000000 in
theorem Extend_leap2 {b u1 u2 : Int} {n1 n2 c1 c2 : Nat} {p1 p2 : Option Addr} {f g : Nat → Int × Int} (h1 : tabE b u1 n1 f = 0) (h2 : tabE b u2 n2 g = 0) (hu : u1 ≤ u2) (k : Nat) (hn : k ≤ n2) (hlt : ∀ j, j < k → (g j).1 < u1) (hge : k < n2 → u1 ≤ (g k).1) (heq : n1 = k → eqF f g n1 = false)
    (w : World) (hw : Mon w) (hs1 : LpIn w f n1 p1) (hs2 : LpIn w g n2 p2) (hc1 : n1 ≤ c1) (hc2 : n2 ≤ c2) (hm2 : c2 ≤ maxLen) (hp2 : p2 = none → n2 = 0) :
    Calls Tryz.prog 15 #[.agg #[.int .i64 b, .slice p1 n1 c1, .int .i64 u1], .agg #[.int .i64 b, .slice p2 n2 c2, .int .i64 u2]] w fun e w' => e = .returned (.tuple #[.agg #[.int .i64 0, .slice none 0 0, .int .i64 0], .int .i64 91]) ∧ Below w.heap.size w w' := by
  have A1 := below_alloc (Below.refl w.heap.size w) (.cells #[.int .i64 b, .slice p1 n1 c1, .int .i64 u1] 24)
  have A2 := below_alloc A1 (.cells #[.int .i64 b, .slice p2 n2 c2, .int .i64 u2] 24)
  have A3 := below_alloc A2 (.cells #[.int .i64 0, .slice none 0 0, .int .i64 0] 24)
  have HX0 := Lib.hid (ExtB.new w b u1 n1 c1 p1 b u2 n2 c2 p2)
  have HT1 := Lib.hid (tab_ok h1)
  have HT2 := Lib.hid (tab_ok h2)
  have hn2 := HT2.out.n1
  have HW := Lib.hid (hw.below A3)
  have HS1 := Lib.hid (hs1.below A3)
  have HS2 := Lib.hid (hs2.below A3)
  have HH := Lib.hid (And.intro h1 h2)
  have HC := Lib.hid (And.intro hc1 (And.intro hc2 hm2))
  have HP := Lib.hid hp2
  have HLT := Lib.hid (And.intro hlt hge)
  have HEQ := Lib.hid heq
  have HNN := Lib.hid hn
  have A3 := Lib.hid A3
  clear A1 A2 h1 h2 hw hs1 hs2 hc1 hc2 hm2 hp2 hlt hge heq hn
  go_enter Tryz.func15, Tryz.ntmps15
  go_upto_region 1 with fail
  generalize ((w.alloc (.cells #[.int .i64 b, .slice p1 n1 c1, .int .i64 u1] 24)).alloc (.cells #[.int .i64 b, .slice p2 n2 c2, .int .i64 u2] 24)).alloc (.cells #[.int .i64 0, .slice none 0 0, .int .i64 0] 24) = W1 at *
  obtain ⟨a, ha⟩ : ∃ a, w.heap.size = a := ⟨_, rfl⟩
  have HAE := Lib.hid ha
  rw [ha] at HX0 ⊢
  have HB0 := Lib.hid (Below.refl W1.heap.size W1)
  have N1 := Lib.hid (show ChkIn W1 (.agg #[.int .i64 b, .slice p1 n1 c1, .int .i64 u1]) 0 from fun X hX => Calls.bel hX (by have := Check_any b u1 n1 c1 p1 f X (HW.out.below hX) (HS1.out.below hX) (by have := HT1.out.n1; omega); rwa [HH.out.1] at this))
  have N2 := Lib.hid (show ChkIn W1 (.agg #[.int .i64 b, .slice p2 n2 c2, .int .i64 u2]) 0 from fun X hX => Calls.bel hX (by have := Check_any b u2 n2 c2 p2 g X (HW.out.below hX) (HS2.out.below hX) (by have := HT2.out.n1; omega); rwa [HH.out.2] at this))
  have HCH := Lib.hid (fun X (hX : Below W1.heap.size W1 X) v r (hv : ChkIn W1 v r) => hv X hX)
  have HOR := Lib.hid (fun X (hX : Below W1.heap.size W1 X) => Calls.bel (bt hX (below_alloc (Below.refl X.heap.size X) (.cells #[.int .i64 0, .int .i64 0] 50))) (or_any _ 2 2 _ _ (by decide) (two_ints X 0 0 50)))
  obtain ⟨⟨x0, x1, x2⟩, ⟨y0, y1, y2⟩, bz, rr⟩ := HX0.out
  have zx := cell_lt x0
  have zy := cell_lt y0
  have HK := Lib.hid (show ∀ X, Below W1.heap.size W1 X → (fun w' => Below W1.heap.size W1 w' ∧ w'.cell? ⟨a, 0, none⟩ = some (.int .i64 b) ∧ w'.cell? ⟨a, 1, none⟩ = some (.slice p1 n1 c1) ∧ w'.cell? ⟨a, 2, none⟩ = some (.int .i64 u1) ∧ w'.cell? ⟨a + 1, 0, none⟩ = some (.int .i64 b) ∧ w'.cell? ⟨a + 1, 1, none⟩ = some (.slice p2 n2 c2) ∧ w'.cell? ⟨a + 1, 2, none⟩ = some (.int .i64 u2)) X from fun X h => ⟨h, cell_below h x0, cell_below h x1, cell_below h x2, cell_below h y0, cell_below h y1, cell_below h y2⟩)
  clear bz rr ha
  refine wp_region_held_drew (S := (fun w' => Below W1.heap.size W1 w' ∧ w'.cell? ⟨a, 0, none⟩ = some (.int .i64 b) ∧ w'.cell? ⟨a, 1, none⟩ = some (.slice p1 n1 c1) ∧ w'.cell? ⟨a, 2, none⟩ = some (.int .i64 u1) ∧ w'.cell? ⟨a + 1, 0, none⟩ = some (.int .i64 b) ∧ w'.cell? ⟨a + 1, 1, none⟩ = some (.slice p2 n2 c2) ∧ w'.cell? ⟨a + 1, 2, none⟩ = some (.int .i64 u2))) (by kernel_rfl) (HK.out _ (Below.drew (Below.refl _ _))) (fun hHeld => ?_)
  refine wpAnyH_take (i := 0) (v := ?_) rfl (by kernel_rfl) (by kernel_rfl) (by kernel_rfl) (fun _ _ _ h => h) (Or.inl ⟨by rfl, ?_⟩) (by assumption) ?_
  rotate_left
  · intro w hSw; (try dsimp only at hSw); go_simp; try with_reducible rfl
  simp only [Act.put, List.getElem_toArray, List.getElem_cons_zero, List.setIfInBounds_toArray, List.set_cons_zero, List.set_cons_succ]
  refine wpAnyH_take (i := 2) (v := ?_) rfl (by kernel_rfl) (by kernel_rfl) (by kernel_rfl) (fun _ _ _ h => h) (Or.inl ⟨by rfl, ?_⟩) (by assumption) ?_
  rotate_left
  · intro w hSw; (try dsimp only at hSw); go_simp; try with_reducible rfl
  simp only [Act.put, List.getElem_toArray, List.getElem_cons_succ, List.getElem_cons_zero, List.setIfInBounds_toArray, List.set_cons_zero, List.set_cons_succ]
  refine wpAnyH_ready (rs := [1]) (by kernel_rfl) (by simp) ?_
  refine AllReadyH.cons rfl (fun K hK => ?_) AllReadyH.nil
  go_simp
  go_at_call 33
  refine (HCH.out _ (Below.drew HB0.out) _ _ N1.out).mono ?_
  rintro e w3 ⟨rfl, hbw3⟩
  go_wp2_with fail
  refine hK.out _ _ (HK.out _ hbw3) (fun hHeldw3 => ?_)
  clear hK K
  refine wpAnyH_ready (rs := [3]) (by kernel_rfl) (by simp) ?_
  refine AllReadyH.cons rfl (fun K hK => ?_) AllReadyH.nil
  go_simp
  go_at_call 33
  refine (HCH.out _ hbw3 _ _ N2.out).mono ?_
  rintro e w4 ⟨rfl, hbw4⟩
  go_wp2_with fail
  refine hK.out _ _ (HK.out _ hbw4) (fun hHeldw4 => ?_)
  clear hK K
  have hb5 := below_alloc hbw4 (.cells #[.int .i64 0, .int .i64 0] 50)
  refine wpAnyH_ready (rs := [4]) (by kernel_rfl) (by simp) ?_
  refine AllReadyH.cons rfl (fun K hK => ?_) AllReadyH.nil
  go_simp
  refine hK.out _ _ (HK.out _ (hb5)) (fun hHeldm4 => ?_)
  clear hK K
  refine wpAnyH_ready (rs := [5]) (by kernel_rfl) (by simp) ?_
  refine AllReadyH.cons rfl (fun K hK => ?_) AllReadyH.nil
  go_simp
  go_at_call 71
  refine (HOR.out _ hbw4).mono ?_
  rintro e w6 ⟨rfl, hbw6⟩
  go_wp2_with fail
  refine hK.out _ _ (HK.out _ hbw6) (fun hHeldw6 => ?_)
  clear hK K
  refine wpAnyH_take (i := 6) (v := ?_) rfl (by kernel_rfl) (by kernel_rfl) (by kernel_rfl) (fun _ _ _ h => h) (Or.inl ⟨by rfl, ?_⟩) (by assumption) ?_
  rotate_left
  · intro w hSw; (try dsimp only at hSw); go_simp; try with_reducible rfl
  simp only [Act.put, List.getElem_toArray, List.getElem_cons_succ, List.getElem_cons_zero, List.setIfInBounds_toArray, List.set_cons_zero, List.set_cons_succ]
  refine wpAnyH_done (by kernel_rfl) ?_ _
  have HB6 := Lib.hid hbw6
  clear hHeld hHeldw3 hHeldw4 hHeldm4 hHeldw6 hbw3 hbw4 hb5 N1 N2 HCH HOR x0 x1 x2 y0 y1 y2 zx zy
  have HX6 := Lib.hid (HX0.out.below HB6.out)
  obtain ⟨⟨x0, x1, x2⟩, ⟨y0, y1, y2⟩, bz, rr⟩ := HX6.out
  have zx := cell_lt x0
  have zy := cell_lt y0
  clear bz rr
  have hnu : ¬ u2 < u1 := by omega
  go_upto_region 6 with fail
  have HBF := Lib.hid (fun X (hX : Below W1.heap.size W1 X) => Calls.bel hX (before_at b u2 u1 n2 c2 k p2 g X (HS2.out.below hX) (by omega) HC.out.2.1 HC.out.2.2 HNN.out HLT.out.1 HLT.out.2))
  have HEQL := Lib.hid (show ∀ X, Below W1.heap.size W1 X → Calls Tryz.prog 72 #[.slice p1 n1 c1, .slice p2 k c2] X fun e w' => e = .returned (.bool false) ∧ Below W1.heap.size W1 w' from fun X (hX : Below W1.heap.size W1 X) => Calls.bel hX (if e : n1 = k then (by rw [← HEQ.out e, ← e]; exact equalL_any f g n1 c1 c2 p1 p2 X (by have := HT1.out.n1; omega) (HS1.out.below hX) (LpIn.less (by have := HNN.out; omega) (HS2.out.below hX))) else equalL_len n1 k c1 c2 p1 p2 X e))
  refine wp_region_held_drew (S := (fun w' => Below W1.heap.size W1 w' ∧ w'.cell? ⟨a, 0, none⟩ = some (.int .i64 b) ∧ w'.cell? ⟨a, 1, none⟩ = some (.slice p1 n1 c1) ∧ w'.cell? ⟨a, 2, none⟩ = some (.int .i64 u1) ∧ w'.cell? ⟨a + 1, 0, none⟩ = some (.int .i64 b) ∧ w'.cell? ⟨a + 1, 1, none⟩ = some (.slice p2 n2 c2) ∧ w'.cell? ⟨a + 1, 2, none⟩ = some (.int .i64 u2))) (by kernel_rfl) (HK.out _ (Below.drew HB6.out)) (fun hHeld => ?_)
  refine wpAnyH_take (i := 0) (v := ?_) rfl (by kernel_rfl) (by kernel_rfl) (by kernel_rfl) (fun _ _ _ h => h) (Or.inl ⟨by rfl, ?_⟩) (by assumption) ?_
  rotate_left
  · intro w hSw; (try dsimp only at hSw); go_simp; try with_reducible rfl
  simp only [Act.put, List.getElem_toArray, List.getElem_cons_zero, List.setIfInBounds_toArray, List.set_cons_zero, List.set_cons_succ]
  refine wpAnyH_take (i := 1) (v := ?_) rfl (by kernel_rfl) (by kernel_rfl) (by kernel_rfl) (fun _ _ _ h => h) (Or.inl ⟨by rfl, ?_⟩) (by assumption) ?_
  rotate_left
  · intro w hSw; (try dsimp only at hSw); go_simp; try with_reducible rfl
  simp only [Act.put, List.getElem_toArray, List.getElem_cons_succ, List.getElem_cons_zero, List.setIfInBounds_toArray, List.set_cons_zero, List.set_cons_succ]
  refine wpAnyH_take (i := 2) (v := ?_) rfl (by kernel_rfl) (by kernel_rfl) (by kernel_rfl) (fun _ _ _ h => h) (Or.inl ⟨by rfl, ?_⟩) (by assumption) ?_
  rotate_left
  · intro w hSw; (try dsimp only at hSw); go_simp; try with_reducible rfl
  simp only [Act.put, List.getElem_toArray, List.getElem_cons_succ, List.getElem_cons_zero, List.setIfInBounds_toArray, List.set_cons_zero, List.set_cons_succ]
  refine wpAnyH_take (i := 3) (v := ?_) rfl (by kernel_rfl) (by kernel_rfl) (by kernel_rfl) (fun _ _ _ h => h) (Or.inl ⟨by rfl, ?_⟩) (by assumption) ?_
  rotate_left
  · intro w hSw; (try dsimp only at hSw); go_simp; try with_reducible rfl
  simp only [Act.put, List.getElem_toArray, List.getElem_cons_succ, List.getElem_cons_zero, List.setIfInBounds_toArray, List.set_cons_zero, List.set_cons_succ]
  refine wpAnyH_take (i := 4) (v := ?_) rfl (by kernel_rfl) (by kernel_rfl) (by kernel_rfl) (fun _ _ _ h => h) (Or.inl ⟨by rfl, ?_⟩) (by assumption) ?_
  rotate_left
  · intro w hSw; (try dsimp only at hSw); go_simp; try with_reducible rfl
  simp only [Act.put, List.getElem_toArray, List.getElem_cons_succ, List.getElem_cons_zero, List.setIfInBounds_toArray, List.set_cons_zero, List.set_cons_succ]
  refine wpAnyH_take (i := 5) (v := ?_) rfl (by kernel_rfl) (by kernel_rfl) (by kernel_rfl) (fun _ _ _ h => h) (Or.inl ⟨by rfl, ?_⟩) (by assumption) ?_
  rotate_left
  · intro w hSw; (try dsimp only at hSw); go_simp; try with_reducible rfl
  simp only [Act.put, List.getElem_toArray, List.getElem_cons_succ, List.getElem_cons_zero, List.setIfInBounds_toArray, List.set_cons_zero, List.set_cons_succ]
  refine wpAnyH_take (i := 6) (v := ?_) rfl (by kernel_rfl) (by kernel_rfl) (by kernel_rfl) (fun _ _ _ h => h) (Or.inl ⟨by rfl, ?_⟩) (by assumption) ?_
  rotate_left
  · intro w hSw; (try dsimp only at hSw); go_simp; try with_reducible rfl
  simp only [Act.put, List.getElem_toArray, List.getElem_cons_succ, List.getElem_cons_zero, List.setIfInBounds_toArray, List.set_cons_zero, List.set_cons_succ]
  refine wpAnyH_take (i := 7) (v := ?_) rfl (by kernel_rfl) (by kernel_rfl) (by kernel_rfl) (fun _ _ _ h => h) (Or.inl ⟨by rfl, ?_⟩) (by assumption) ?_
  rotate_left
  · intro w hSw; (try dsimp only at hSw); go_simp; try with_reducible rfl
  simp only [Act.put, List.getElem_toArray, List.getElem_cons_succ, List.getElem_cons_zero, List.setIfInBounds_toArray, List.set_cons_zero, List.set_cons_succ]
  refine wpAnyH_take (i := 8) (v := ?_) rfl (by kernel_rfl) (by kernel_rfl) (by kernel_rfl) (fun _ _ _ h => h) (Or.inl ⟨by rfl, ?_⟩) (by assumption) ?_
  rotate_left
  · intro w hSw; (try dsimp only at hSw); go_simp; try with_reducible rfl
  simp only [Act.put, List.getElem_toArray, List.getElem_cons_succ, List.getElem_cons_zero, List.setIfInBounds_toArray, List.set_cons_zero, List.set_cons_succ]
  refine wpAnyH_take (i := 9) (v := ?_) rfl (by kernel_rfl) (by kernel_rfl) (by kernel_rfl) (fun _ _ _ h => h) (Or.inl ⟨by rfl, ?_⟩) (by assumption) ?_
  rotate_left
  · intro w hSw; (try dsimp only at hSw); go_simp; try with_reducible rfl
  simp only [Act.put, List.getElem_toArray, List.getElem_cons_succ, List.getElem_cons_zero, List.setIfInBounds_toArray, List.set_cons_zero, List.set_cons_succ]
  refine wpAnyH_take (i := 10) (v := ?_) rfl (by kernel_rfl) (by kernel_rfl) (by kernel_rfl) (fun _ _ _ h => h) (Or.inl ⟨by rfl, ?_⟩) (by assumption) ?_
  rotate_left
  · intro w hSw; (try dsimp only at hSw); go_simp; try with_reducible rfl
  simp only [Act.put, List.getElem_toArray, List.getElem_cons_succ, List.getElem_cons_zero, List.setIfInBounds_toArray, List.set_cons_zero, List.set_cons_succ]
  refine wpAnyH_ready (rs := [11]) (by kernel_rfl) (by simp) ?_
  refine AllReadyH.cons rfl (fun K hK => ?_) AllReadyH.nil
  go_simp
  go_at_call 73
  refine (HBF.out _ (Below.drew HB6.out)).mono ?_
  rintro e w7 ⟨rfl, hbw7⟩
  go_wp2_with fail
  refine hK.out _ _ (HK.out _ hbw7) (fun hHeldw7 => ?_)
  clear hK K
  refine wpAnyH_ready (rs := [12]) (by kernel_rfl) (by simp) ?_
  refine AllReadyH.cons rfl (fun K hK => ?_) AllReadyH.nil
  go_simp
  go_at_call 72
  refine (HEQL.out _ hbw7).mono ?_
  rintro e w8 ⟨rfl, hbw8⟩
  go_wp2_with fail
  refine hK.out _ _ (HK.out _ hbw8) (fun hHeldw8 => ?_)
  clear hK K
  refine wpAnyH_take (i := 13) (v := ?_) rfl (by kernel_rfl) (by kernel_rfl) (by kernel_rfl) (fun _ _ _ h => h) (Or.inl ⟨by rfl, ?_⟩) (by assumption) ?_
  rotate_left
  · intro w hSw; (try dsimp only at hSw); go_simp; try with_reducible rfl
  simp only [Act.put, List.getElem_toArray, List.getElem_cons_succ, List.getElem_cons_zero, List.setIfInBounds_toArray, List.set_cons_zero, List.set_cons_succ]
  refine wpAnyH_take (i := 14) (v := ?_) rfl (by kernel_rfl) (by kernel_rfl) (by kernel_rfl) (fun _ _ _ h => h) (Or.inl ⟨by rfl, ?_⟩) (by assumption) ?_
  rotate_left
  · intro w hSw; (try dsimp only at hSw); go_simp; try with_reducible rfl
  simp only [Act.put, List.getElem_toArray, List.getElem_cons_succ, List.getElem_cons_zero, List.setIfInBounds_toArray, List.set_cons_zero, List.set_cons_succ]
  refine wpAnyH_done (by kernel_rfl) ?_ _
  have HB8 := Lib.hid hbw8
  clear hHeld hHeldw7 hHeldw8 hbw7 hbw8 HBF HEQL x0 x1 x2 y0 y1 y2 zx zy
  have HX8 := Lib.hid (HX0.out.below HB8.out)
  obtain ⟨⟨x0, x1, x2⟩, ⟨y0, y1, y2⟩, bz, rr⟩ := HX8.out
  obtain ⟨⟨v0, r0⟩, ⟨v1, r1⟩, ⟨v2, r2⟩, rz⟩ := rr
  have z0 := rz 0
  have z1 := rz 1
  have z2 := rz 2
  have zr := cell_lt r0
  clear rz bz x0 x1 x2 y0 y1 y2
  go_wp2_with fail
  refine bodyPost_ret (v := .tuple #[.agg #[.int .i64 0, .slice none 0 0, .int .i64 0], .int .i64 91]) (by simp [results, Tryz.results15, go_sem, r0, r1, r2]) rfl ⟨rfl, ?_⟩
  have st : ∀ (X : World) (i o : Nat) (v : Value), a ≤ i → Below w.heap.size w X → Below w.heap.size w (X.setCell ⟨i, o, none⟩ v) := fun X i o v h hb => hb.setCell (p := ⟨i, o, none⟩) (by rw [HAE.out]; exact h) _
  exact st _ _ _ _ (by omega) (st _ _ _ _ (by omega) (st _ _ _ _ (by omega) (bt A3.out HB8.out)))

set_option maxRecDepth 100000 in
set_option maxHeartbeats 4000000 in
theorem Extend_base {b1 b2 u1 u2 : Int} {n1 n2 c1 c2 : Nat} {p1 p2 : Option Addr} {f g : Nat → Int × Int} (h1 : tabE b1 u1 n1 f = 0) (h2 : tabE b2 u2 n2 g = 0) (hu : u1 ≤ u2) (hbb : b1 ≠ b2)
    (w : World) (hw : Mon w) (hs1 : LpIn w f n1 p1) (hs2 : LpIn w g n2 p2) (hc1 : n1 ≤ c1) (hc2 : n2 ≤ c2) (hm2 : c2 ≤ maxLen) (hp2 : p2 = none → n2 = 0) :
    Calls Tryz.prog 15 #[.agg #[.int .i64 b1, .slice p1 n1 c1, .int .i64 u1], .agg #[.int .i64 b2, .slice p2 n2 c2, .int .i64 u2]] w fun e w' => e = .returned (.tuple #[.agg #[.int .i64 0, .slice none 0 0, .int .i64 0], .int .i64 91]) ∧ Below w.heap.size w w' := by
  have A1 := below_alloc (Below.refl w.heap.size w) (.cells #[.int .i64 b1, .slice p1 n1 c1, .int .i64 u1] 24)
  have A2 := below_alloc A1 (.cells #[.int .i64 b2, .slice p2 n2 c2, .int .i64 u2] 24)
  have A3 := below_alloc A2 (.cells #[.int .i64 0, .slice none 0 0, .int .i64 0] 24)
  have HX0 := Lib.hid (ExtB.new w b1 u1 n1 c1 p1 b2 u2 n2 c2 p2)
  have HT1 := Lib.hid (tab_ok h1)
  have HT2 := Lib.hid (tab_ok h2)
  have hn2 := HT2.out.n1
  have HW := Lib.hid (hw.below A3)
  have HS1 := Lib.hid (hs1.below A3)
  have HS2 := Lib.hid (hs2.below A3)
  have HH := Lib.hid (And.intro h1 h2)
  have HC := Lib.hid (And.intro hc1 (And.intro hc2 hm2))
  have HP := Lib.hid hp2
  have hbq : (b1 == b2) = false := by simpa using hbb
  have A3 := Lib.hid A3
  clear A1 A2 h1 h2 hw hs1 hs2 hc1 hc2 hm2 hp2
  go_enter Tryz.func15, Tryz.ntmps15
  go_upto_region 1 with fail
  generalize ((w.alloc (.cells #[.int .i64 b1, .slice p1 n1 c1, .int .i64 u1] 24)).alloc (.cells #[.int .i64 b2, .slice p2 n2 c2, .int .i64 u2] 24)).alloc (.cells #[.int .i64 0, .slice none 0 0, .int .i64 0] 24) = W1 at *
  obtain ⟨a, ha⟩ : ∃ a, w.heap.size = a := ⟨_, rfl⟩
  have HAE := Lib.hid ha
  rw [ha] at HX0 ⊢
  have HB0 := Lib.hid (Below.refl W1.heap.size W1)
  have N1 := Lib.hid (show ChkIn W1 (.agg #[.int .i64 b1, .slice p1 n1 c1, .int .i64 u1]) 0 from fun X hX => Calls.bel hX (by have := Check_any b1 u1 n1 c1 p1 f X (HW.out.below hX) (HS1.out.below hX) (by have := HT1.out.n1; omega); rwa [HH.out.1] at this))
  have N2 := Lib.hid (show ChkIn W1 (.agg #[.int .i64 b2, .slice p2 n2 c2, .int .i64 u2]) 0 from fun X hX => Calls.bel hX (by have := Check_any b2 u2 n2 c2 p2 g X (HW.out.below hX) (HS2.out.below hX) (by have := HT2.out.n1; omega); rwa [HH.out.2] at this))
  have HCH := Lib.hid (fun X (hX : Below W1.heap.size W1 X) v r (hv : ChkIn W1 v r) => hv X hX)
  have HOR := Lib.hid (fun X (hX : Below W1.heap.size W1 X) => Calls.bel (bt hX (below_alloc (Below.refl X.heap.size X) (.cells #[.int .i64 0, .int .i64 0] 50))) (or_any _ 2 2 _ _ (by decide) (two_ints X 0 0 50)))
  obtain ⟨⟨x0, x1, x2⟩, ⟨y0, y1, y2⟩, bz, rr⟩ := HX0.out
  have zx := cell_lt x0
  have zy := cell_lt y0
  have HK := Lib.hid (show ∀ X, Below W1.heap.size W1 X → (fun w' => Below W1.heap.size W1 w' ∧ w'.cell? ⟨a, 0, none⟩ = some (.int .i64 b1) ∧ w'.cell? ⟨a, 1, none⟩ = some (.slice p1 n1 c1) ∧ w'.cell? ⟨a, 2, none⟩ = some (.int .i64 u1) ∧ w'.cell? ⟨a + 1, 0, none⟩ = some (.int .i64 b2) ∧ w'.cell? ⟨a + 1, 1, none⟩ = some (.slice p2 n2 c2) ∧ w'.cell? ⟨a + 1, 2, none⟩ = some (.int .i64 u2)) X from fun X h => ⟨h, cell_below h x0, cell_below h x1, cell_below h x2, cell_below h y0, cell_below h y1, cell_below h y2⟩)
  clear bz rr ha
  refine wp_region_held_drew (S := (fun w' => Below W1.heap.size W1 w' ∧ w'.cell? ⟨a, 0, none⟩ = some (.int .i64 b1) ∧ w'.cell? ⟨a, 1, none⟩ = some (.slice p1 n1 c1) ∧ w'.cell? ⟨a, 2, none⟩ = some (.int .i64 u1) ∧ w'.cell? ⟨a + 1, 0, none⟩ = some (.int .i64 b2) ∧ w'.cell? ⟨a + 1, 1, none⟩ = some (.slice p2 n2 c2) ∧ w'.cell? ⟨a + 1, 2, none⟩ = some (.int .i64 u2))) (by kernel_rfl) (HK.out _ (Below.drew (Below.refl _ _))) (fun hHeld => ?_)
  refine wpAnyH_take (i := 0) (v := ?_) rfl (by kernel_rfl) (by kernel_rfl) (by kernel_rfl) (fun _ _ _ h => h) (Or.inl ⟨by rfl, ?_⟩) (by assumption) ?_
  rotate_left
  · intro w hSw; (try dsimp only at hSw); go_simp; try with_reducible rfl
  simp only [Act.put, List.getElem_toArray, List.getElem_cons_zero, List.setIfInBounds_toArray, List.set_cons_zero, List.set_cons_succ]
  refine wpAnyH_take (i := 2) (v := ?_) rfl (by kernel_rfl) (by kernel_rfl) (by kernel_rfl) (fun _ _ _ h => h) (Or.inl ⟨by rfl, ?_⟩) (by assumption) ?_
  rotate_left
  · intro w hSw; (try dsimp only at hSw); go_simp; try with_reducible rfl
  simp only [Act.put, List.getElem_toArray, List.getElem_cons_succ, List.getElem_cons_zero, List.setIfInBounds_toArray, List.set_cons_zero, List.set_cons_succ]
  refine wpAnyH_ready (rs := [1]) (by kernel_rfl) (by simp) ?_
  refine AllReadyH.cons rfl (fun K hK => ?_) AllReadyH.nil
  go_simp
  go_at_call 33
  refine (HCH.out _ (Below.drew HB0.out) _ _ N1.out).mono ?_
  rintro e w3 ⟨rfl, hbw3⟩
  go_wp2_with fail
  refine hK.out _ _ (HK.out _ hbw3) (fun hHeldw3 => ?_)
  clear hK K
  refine wpAnyH_ready (rs := [3]) (by kernel_rfl) (by simp) ?_
  refine AllReadyH.cons rfl (fun K hK => ?_) AllReadyH.nil
  go_simp
  go_at_call 33
  refine (HCH.out _ hbw3 _ _ N2.out).mono ?_
  rintro e w4 ⟨rfl, hbw4⟩
  go_wp2_with fail
  refine hK.out _ _ (HK.out _ hbw4) (fun hHeldw4 => ?_)
  clear hK K
  have hb5 := below_alloc hbw4 (.cells #[.int .i64 0, .int .i64 0] 50)
  refine wpAnyH_ready (rs := [4]) (by kernel_rfl) (by simp) ?_
  refine AllReadyH.cons rfl (fun K hK => ?_) AllReadyH.nil
  go_simp
  refine hK.out _ _ (HK.out _ (hb5)) (fun hHeldm4 => ?_)
  clear hK K
  refine wpAnyH_ready (rs := [5]) (by kernel_rfl) (by simp) ?_
  refine AllReadyH.cons rfl (fun K hK => ?_) AllReadyH.nil
  go_simp
  go_at_call 71
  refine (HOR.out _ hbw4).mono ?_
  rintro e w6 ⟨rfl, hbw6⟩
  go_wp2_with fail
  refine hK.out _ _ (HK.out _ hbw6) (fun hHeldw6 => ?_)
  clear hK K
  refine wpAnyH_take (i := 6) (v := ?_) rfl (by kernel_rfl) (by kernel_rfl) (by kernel_rfl) (fun _ _ _ h => h) (Or.inl ⟨by rfl, ?_⟩) (by assumption) ?_
  rotate_left
  · intro w hSw; (try dsimp only at hSw); go_simp; try with_reducible rfl
  simp only [Act.put, List.getElem_toArray, List.getElem_cons_succ, List.getElem_cons_zero, List.setIfInBounds_toArray, List.set_cons_zero, List.set_cons_succ]
  refine wpAnyH_done (by kernel_rfl) ?_ _
  have HB6 := Lib.hid hbw6
  clear hHeld hHeldw3 hHeldw4 hHeldm4 hHeldw6 hbw3 hbw4 hb5 N1 N2 HCH HOR x0 x1 x2 y0 y1 y2 zx zy
  have HX6 := Lib.hid (HX0.out.below HB6.out)
  obtain ⟨⟨x0, x1, x2⟩, ⟨y0, y1, y2⟩, bz, rr⟩ := HX6.out
  have zx := cell_lt x0
  have zy := cell_lt y0
  obtain ⟨⟨v0, r0⟩, ⟨v1, r1⟩, ⟨v2, r2⟩, rz⟩ := rr
  have z0 := rz 0
  have z1 := rz 1
  have z2 := rz 2
  have zr := cell_lt r0
  clear rz bz
  have hnu : ¬ u2 < u1 := by omega
  go_upto_region 6 with fail
  go_quiet (fail)
  go_wp2_with fail
  refine bodyPost_ret (v := .tuple #[.agg #[.int .i64 0, .slice none 0 0, .int .i64 0], .int .i64 91]) (by simp [results, Tryz.results15, go_sem, r0, r1, r2]) rfl ⟨rfl, ?_⟩
  have st : ∀ (X : World) (i o : Nat) (v : Value), a ≤ i → Below w.heap.size w X → Below w.heap.size w (X.setCell ⟨i, o, none⟩ v) := fun X i o v h hb => hb.setCell (p := ⟨i, o, none⟩) (by rw [HAE.out]; exact h) _
  exact st _ _ _ _ (by omega) (st _ _ _ _ (by omega) (st _ _ _ _ (by omega) (below_drewN (bt A3.out HB6.out) _)))
set_option maxRecDepth 100000 in
set_option maxHeartbeats 4000000 in
theorem Extend_state {b1 b2 u1 u2 : Int} {n1 n2 c1 c2 : Nat} {p1 p2 : Option Addr} {f g : Nat → Int × Int} (h1 : tabE b1 u1 n1 f = 0) (h2 : tabE b2 u2 n2 g = 0) (hst : u2 < u1)
    (w : World) (hw : Mon w) (hs1 : LpIn w f n1 p1) (hs2 : LpIn w g n2 p2) (hc1 : n1 ≤ c1) (hc2 : n2 ≤ c2) (hm2 : c2 ≤ maxLen) (hp2 : p2 = none → n2 = 0) :
    Calls Tryz.prog 15 #[.agg #[.int .i64 b1, .slice p1 n1 c1, .int .i64 u1], .agg #[.int .i64 b2, .slice p2 n2 c2, .int .i64 u2]] w fun e w' => e = .returned (.tuple #[.agg #[.int .i64 0, .slice none 0 0, .int .i64 0], .int .i64 9]) ∧ Below w.heap.size w w' := by
  have A1 := below_alloc (Below.refl w.heap.size w) (.cells #[.int .i64 b1, .slice p1 n1 c1, .int .i64 u1] 24)
  have A2 := below_alloc A1 (.cells #[.int .i64 b2, .slice p2 n2 c2, .int .i64 u2] 24)
  have A3 := below_alloc A2 (.cells #[.int .i64 0, .slice none 0 0, .int .i64 0] 24)
  have HX0 := Lib.hid (ExtB.new w b1 u1 n1 c1 p1 b2 u2 n2 c2 p2)
  have HT1 := Lib.hid (tab_ok h1)
  have HT2 := Lib.hid (tab_ok h2)
  have hn2 := HT2.out.n1
  have HW := Lib.hid (hw.below A3)
  have HS1 := Lib.hid (hs1.below A3)
  have HS2 := Lib.hid (hs2.below A3)
  have HH := Lib.hid (And.intro h1 h2)
  have HC := Lib.hid (And.intro hc1 (And.intro hc2 hm2))
  have HP := Lib.hid hp2
  have A3 := Lib.hid A3
  clear A1 A2 h1 h2 hw hs1 hs2 hc1 hc2 hm2 hp2
  go_enter Tryz.func15, Tryz.ntmps15
  go_upto_region 1 with fail
  generalize ((w.alloc (.cells #[.int .i64 b1, .slice p1 n1 c1, .int .i64 u1] 24)).alloc (.cells #[.int .i64 b2, .slice p2 n2 c2, .int .i64 u2] 24)).alloc (.cells #[.int .i64 0, .slice none 0 0, .int .i64 0] 24) = W1 at *
  obtain ⟨a, ha⟩ : ∃ a, w.heap.size = a := ⟨_, rfl⟩
  have HAE := Lib.hid ha
  rw [ha] at HX0 ⊢
  have HB0 := Lib.hid (Below.refl W1.heap.size W1)
  have N1 := Lib.hid (show ChkIn W1 (.agg #[.int .i64 b1, .slice p1 n1 c1, .int .i64 u1]) 0 from fun X hX => Calls.bel hX (by have := Check_any b1 u1 n1 c1 p1 f X (HW.out.below hX) (HS1.out.below hX) (by have := HT1.out.n1; omega); rwa [HH.out.1] at this))
  have N2 := Lib.hid (show ChkIn W1 (.agg #[.int .i64 b2, .slice p2 n2 c2, .int .i64 u2]) 0 from fun X hX => Calls.bel hX (by have := Check_any b2 u2 n2 c2 p2 g X (HW.out.below hX) (HS2.out.below hX) (by have := HT2.out.n1; omega); rwa [HH.out.2] at this))
  have HCH := Lib.hid (fun X (hX : Below W1.heap.size W1 X) v r (hv : ChkIn W1 v r) => hv X hX)
  have HOR := Lib.hid (fun X (hX : Below W1.heap.size W1 X) => Calls.bel (bt hX (below_alloc (Below.refl X.heap.size X) (.cells #[.int .i64 0, .int .i64 0] 50))) (or_any _ 2 2 _ _ (by decide) (two_ints X 0 0 50)))
  obtain ⟨⟨x0, x1, x2⟩, ⟨y0, y1, y2⟩, bz, rr⟩ := HX0.out
  have zx := cell_lt x0
  have zy := cell_lt y0
  have HK := Lib.hid (show ∀ X, Below W1.heap.size W1 X → (fun w' => Below W1.heap.size W1 w' ∧ w'.cell? ⟨a, 0, none⟩ = some (.int .i64 b1) ∧ w'.cell? ⟨a, 1, none⟩ = some (.slice p1 n1 c1) ∧ w'.cell? ⟨a, 2, none⟩ = some (.int .i64 u1) ∧ w'.cell? ⟨a + 1, 0, none⟩ = some (.int .i64 b2) ∧ w'.cell? ⟨a + 1, 1, none⟩ = some (.slice p2 n2 c2) ∧ w'.cell? ⟨a + 1, 2, none⟩ = some (.int .i64 u2)) X from fun X h => ⟨h, cell_below h x0, cell_below h x1, cell_below h x2, cell_below h y0, cell_below h y1, cell_below h y2⟩)
  clear bz rr ha
  refine wp_region_held_drew (S := (fun w' => Below W1.heap.size W1 w' ∧ w'.cell? ⟨a, 0, none⟩ = some (.int .i64 b1) ∧ w'.cell? ⟨a, 1, none⟩ = some (.slice p1 n1 c1) ∧ w'.cell? ⟨a, 2, none⟩ = some (.int .i64 u1) ∧ w'.cell? ⟨a + 1, 0, none⟩ = some (.int .i64 b2) ∧ w'.cell? ⟨a + 1, 1, none⟩ = some (.slice p2 n2 c2) ∧ w'.cell? ⟨a + 1, 2, none⟩ = some (.int .i64 u2))) (by kernel_rfl) (HK.out _ (Below.drew (Below.refl _ _))) (fun hHeld => ?_)
  refine wpAnyH_take (i := 0) (v := ?_) rfl (by kernel_rfl) (by kernel_rfl) (by kernel_rfl) (fun _ _ _ h => h) (Or.inl ⟨by rfl, ?_⟩) (by assumption) ?_
  rotate_left
  · intro w hSw; (try dsimp only at hSw); go_simp; try with_reducible rfl
  simp only [Act.put, List.getElem_toArray, List.getElem_cons_zero, List.setIfInBounds_toArray, List.set_cons_zero, List.set_cons_succ]
  refine wpAnyH_take (i := 2) (v := ?_) rfl (by kernel_rfl) (by kernel_rfl) (by kernel_rfl) (fun _ _ _ h => h) (Or.inl ⟨by rfl, ?_⟩) (by assumption) ?_
  rotate_left
  · intro w hSw; (try dsimp only at hSw); go_simp; try with_reducible rfl
  simp only [Act.put, List.getElem_toArray, List.getElem_cons_succ, List.getElem_cons_zero, List.setIfInBounds_toArray, List.set_cons_zero, List.set_cons_succ]
  refine wpAnyH_ready (rs := [1]) (by kernel_rfl) (by simp) ?_
  refine AllReadyH.cons rfl (fun K hK => ?_) AllReadyH.nil
  go_simp
  go_at_call 33
  refine (HCH.out _ (Below.drew HB0.out) _ _ N1.out).mono ?_
  rintro e w3 ⟨rfl, hbw3⟩
  go_wp2_with fail
  refine hK.out _ _ (HK.out _ hbw3) (fun hHeldw3 => ?_)
  clear hK K
  refine wpAnyH_ready (rs := [3]) (by kernel_rfl) (by simp) ?_
  refine AllReadyH.cons rfl (fun K hK => ?_) AllReadyH.nil
  go_simp
  go_at_call 33
  refine (HCH.out _ hbw3 _ _ N2.out).mono ?_
  rintro e w4 ⟨rfl, hbw4⟩
  go_wp2_with fail
  refine hK.out _ _ (HK.out _ hbw4) (fun hHeldw4 => ?_)
  clear hK K
  have hb5 := below_alloc hbw4 (.cells #[.int .i64 0, .int .i64 0] 50)
  refine wpAnyH_ready (rs := [4]) (by kernel_rfl) (by simp) ?_
  refine AllReadyH.cons rfl (fun K hK => ?_) AllReadyH.nil
  go_simp
  refine hK.out _ _ (HK.out _ (hb5)) (fun hHeldm4 => ?_)
  clear hK K
  refine wpAnyH_ready (rs := [5]) (by kernel_rfl) (by simp) ?_
  refine AllReadyH.cons rfl (fun K hK => ?_) AllReadyH.nil
  go_simp
  go_at_call 71
  refine (HOR.out _ hbw4).mono ?_
  rintro e w6 ⟨rfl, hbw6⟩
  go_wp2_with fail
  refine hK.out _ _ (HK.out _ hbw6) (fun hHeldw6 => ?_)
  clear hK K
  refine wpAnyH_take (i := 6) (v := ?_) rfl (by kernel_rfl) (by kernel_rfl) (by kernel_rfl) (fun _ _ _ h => h) (Or.inl ⟨by rfl, ?_⟩) (by assumption) ?_
  rotate_left
  · intro w hSw; (try dsimp only at hSw); go_simp; try with_reducible rfl
  simp only [Act.put, List.getElem_toArray, List.getElem_cons_succ, List.getElem_cons_zero, List.setIfInBounds_toArray, List.set_cons_zero, List.set_cons_succ]
  refine wpAnyH_done (by kernel_rfl) ?_ _
  have HB6 := Lib.hid hbw6
  clear hHeld hHeldw3 hHeldw4 hHeldm4 hHeldw6 hbw3 hbw4 hb5 N1 N2 HCH HOR x0 x1 x2 y0 y1 y2 zx zy
  have HX6 := Lib.hid (HX0.out.below HB6.out)
  obtain ⟨⟨x0, x1, x2⟩, ⟨y0, y1, y2⟩, bz, rr⟩ := HX6.out
  have zx := cell_lt x0
  have zy := cell_lt y0
  obtain ⟨⟨v0, r0⟩, ⟨v1, r1⟩, ⟨v2, r2⟩, rz⟩ := rr
  have z0 := rz 0
  have z1 := rz 1
  have z2 := rz 2
  have zr := cell_lt r0
  clear rz bz
  go_wp2_with fail
  refine bodyPost_ret (v := .tuple #[.agg #[.int .i64 0, .slice none 0 0, .int .i64 0], .int .i64 9]) (by simp [results, Tryz.results15, go_sem, r0, r1, r2]) rfl ⟨rfl, ?_⟩
  have st : ∀ (X : World) (i o : Nat) (v : Value), a ≤ i → Below w.heap.size w X → Below w.heap.size w (X.setCell ⟨i, o, none⟩ v) := fun X i o v h hb => hb.setCell (p := ⟨i, o, none⟩) (by rw [HAE.out]; exact h) _
  exact st _ _ _ _ (by omega) (st _ _ _ _ (by omega) (st _ _ _ _ (by omega) (bt A3.out HB6.out)))
set_option maxRecDepth 100000 in
set_option maxHeartbeats 4000000 in
theorem Extend_bad {b1 b2 u1 u2 : Int} {n1 n2 c1 c2 : Nat} {p1 p2 : Option Addr} {f g : Nat → Int × Int} {e1 e2 E : Int} (h1 : tabE b1 u1 n1 f = e1) (h2 : tabE b2 u2 n2 g = e2) (hm1 : n1 ≤ 1000) (hm2' : n2 ≤ 1000) (hE : orF (fun i => if i = 0 then e1 else e2) 2 = E) (hE0 : E ≠ 0)
    (w : World) (hw : Mon w) (hs1 : LpIn w f n1 p1) (hs2 : LpIn w g n2 p2) (hc1 : n1 ≤ c1) (hc2 : n2 ≤ c2) (hm2 : c2 ≤ maxLen) (hp2 : p2 = none → n2 = 0) :
    Calls Tryz.prog 15 #[.agg #[.int .i64 b1, .slice p1 n1 c1, .int .i64 u1], .agg #[.int .i64 b2, .slice p2 n2 c2, .int .i64 u2]] w fun e w' => e = .returned (.tuple #[.agg #[.int .i64 0, .slice none 0 0, .int .i64 0], .int .i64 E]) ∧ Below w.heap.size w w' := by
  have A1 := below_alloc (Below.refl w.heap.size w) (.cells #[.int .i64 b1, .slice p1 n1 c1, .int .i64 u1] 24)
  have A2 := below_alloc A1 (.cells #[.int .i64 b2, .slice p2 n2 c2, .int .i64 u2] 24)
  have A3 := below_alloc A2 (.cells #[.int .i64 0, .slice none 0 0, .int .i64 0] 24)
  have HX0 := Lib.hid (ExtB.new w b1 u1 n1 c1 p1 b2 u2 n2 c2 p2)
  have HT1 := Lib.hid hm1
  have HT2 := Lib.hid hm2'
  have HW := Lib.hid (hw.below A3)
  have HS1 := Lib.hid (hs1.below A3)
  have HS2 := Lib.hid (hs2.below A3)
  have HH := Lib.hid (And.intro h1 h2)
  have HC := Lib.hid (And.intro hc1 (And.intro hc2 hm2))
  have HP := Lib.hid hp2
  have HE := Lib.hid hE
  have HEZ : (E == 0) = false := by simpa using hE0
  have A3 := Lib.hid A3
  clear A1 A2 h1 h2 hw hs1 hs2 hc1 hc2 hm2 hp2 hE hm1 hm2'
  go_enter Tryz.func15, Tryz.ntmps15
  go_upto_region 1 with fail
  generalize ((w.alloc (.cells #[.int .i64 b1, .slice p1 n1 c1, .int .i64 u1] 24)).alloc (.cells #[.int .i64 b2, .slice p2 n2 c2, .int .i64 u2] 24)).alloc (.cells #[.int .i64 0, .slice none 0 0, .int .i64 0] 24) = W1 at *
  obtain ⟨a, ha⟩ : ∃ a, w.heap.size = a := ⟨_, rfl⟩
  have HAE := Lib.hid ha
  rw [ha] at HX0 ⊢
  have HB0 := Lib.hid (Below.refl W1.heap.size W1)
  have N1 := Lib.hid (show ChkIn W1 (.agg #[.int .i64 b1, .slice p1 n1 c1, .int .i64 u1]) e1 from fun X hX => Calls.bel hX (by have := Check_any b1 u1 n1 c1 p1 f X (HW.out.below hX) (HS1.out.below hX) (by have := HT1.out; omega); rwa [HH.out.1] at this))
  have N2 := Lib.hid (show ChkIn W1 (.agg #[.int .i64 b2, .slice p2 n2 c2, .int .i64 u2]) e2 from fun X hX => Calls.bel hX (by have := Check_any b2 u2 n2 c2 p2 g X (HW.out.below hX) (HS2.out.below hX) (by have := HT2.out; omega); rwa [HH.out.2] at this))
  have HCH := Lib.hid (fun X (hX : Below W1.heap.size W1 X) v r (hv : ChkIn W1 v r) => hv X hX)
  have HOR := Lib.hid (fun X (hX : Below W1.heap.size W1 X) => Calls.bel (bt hX (below_alloc (Below.refl X.heap.size X) (.cells #[.int .i64 e1, .int .i64 e2] 50))) (or_any _ 2 2 _ _ (by decide) (two_ints X e1 e2 50)))
  rw [HE.out] at HOR
  obtain ⟨⟨x0, x1, x2⟩, ⟨y0, y1, y2⟩, bz, rr⟩ := HX0.out
  have zx := cell_lt x0
  have zy := cell_lt y0
  have HK := Lib.hid (show ∀ X, Below W1.heap.size W1 X → (fun w' => Below W1.heap.size W1 w' ∧ w'.cell? ⟨a, 0, none⟩ = some (.int .i64 b1) ∧ w'.cell? ⟨a, 1, none⟩ = some (.slice p1 n1 c1) ∧ w'.cell? ⟨a, 2, none⟩ = some (.int .i64 u1) ∧ w'.cell? ⟨a + 1, 0, none⟩ = some (.int .i64 b2) ∧ w'.cell? ⟨a + 1, 1, none⟩ = some (.slice p2 n2 c2) ∧ w'.cell? ⟨a + 1, 2, none⟩ = some (.int .i64 u2)) X from fun X h => ⟨h, cell_below h x0, cell_below h x1, cell_below h x2, cell_below h y0, cell_below h y1, cell_below h y2⟩)
  clear bz rr ha
  refine wp_region_held_drew (S := (fun w' => Below W1.heap.size W1 w' ∧ w'.cell? ⟨a, 0, none⟩ = some (.int .i64 b1) ∧ w'.cell? ⟨a, 1, none⟩ = some (.slice p1 n1 c1) ∧ w'.cell? ⟨a, 2, none⟩ = some (.int .i64 u1) ∧ w'.cell? ⟨a + 1, 0, none⟩ = some (.int .i64 b2) ∧ w'.cell? ⟨a + 1, 1, none⟩ = some (.slice p2 n2 c2) ∧ w'.cell? ⟨a + 1, 2, none⟩ = some (.int .i64 u2))) (by kernel_rfl) (HK.out _ (Below.drew (Below.refl _ _))) (fun hHeld => ?_)
  refine wpAnyH_take (i := 0) (v := ?_) rfl (by kernel_rfl) (by kernel_rfl) (by kernel_rfl) (fun _ _ _ h => h) (Or.inl ⟨by rfl, ?_⟩) (by assumption) ?_
  rotate_left
  · intro w hSw; (try dsimp only at hSw); go_simp; try with_reducible rfl
  simp only [Act.put, List.getElem_toArray, List.getElem_cons_zero, List.setIfInBounds_toArray, List.set_cons_zero, List.set_cons_succ]
  refine wpAnyH_take (i := 2) (v := ?_) rfl (by kernel_rfl) (by kernel_rfl) (by kernel_rfl) (fun _ _ _ h => h) (Or.inl ⟨by rfl, ?_⟩) (by assumption) ?_
  rotate_left
  · intro w hSw; (try dsimp only at hSw); go_simp; try with_reducible rfl
  simp only [Act.put, List.getElem_toArray, List.getElem_cons_succ, List.getElem_cons_zero, List.setIfInBounds_toArray, List.set_cons_zero, List.set_cons_succ]
  refine wpAnyH_ready (rs := [1]) (by kernel_rfl) (by simp) ?_
  refine AllReadyH.cons rfl (fun K hK => ?_) AllReadyH.nil
  go_simp
  go_at_call 33
  refine (HCH.out _ (Below.drew HB0.out) _ _ N1.out).mono ?_
  rintro e w3 ⟨rfl, hbw3⟩
  go_wp2_with fail
  refine hK.out _ _ (HK.out _ hbw3) (fun hHeldw3 => ?_)
  clear hK K
  refine wpAnyH_ready (rs := [3]) (by kernel_rfl) (by simp) ?_
  refine AllReadyH.cons rfl (fun K hK => ?_) AllReadyH.nil
  go_simp
  go_at_call 33
  refine (HCH.out _ hbw3 _ _ N2.out).mono ?_
  rintro e w4 ⟨rfl, hbw4⟩
  go_wp2_with fail
  refine hK.out _ _ (HK.out _ hbw4) (fun hHeldw4 => ?_)
  clear hK K
  have hb5 := below_alloc hbw4 (.cells #[.int .i64 e1, .int .i64 e2] 50)
  refine wpAnyH_ready (rs := [4]) (by kernel_rfl) (by simp) ?_
  refine AllReadyH.cons rfl (fun K hK => ?_) AllReadyH.nil
  go_simp
  refine hK.out _ _ (HK.out _ (hb5)) (fun hHeldm4 => ?_)
  clear hK K
  refine wpAnyH_ready (rs := [5]) (by kernel_rfl) (by simp) ?_
  refine AllReadyH.cons rfl (fun K hK => ?_) AllReadyH.nil
  go_simp
  go_at_call 71
  refine (HOR.out _ hbw4).mono ?_
  rintro e w6 ⟨rfl, hbw6⟩
  go_wp2_with fail
  refine hK.out _ _ (HK.out _ hbw6) (fun hHeldw6 => ?_)
  clear hK K
  refine wpAnyH_take (i := 6) (v := ?_) rfl (by kernel_rfl) (by kernel_rfl) (by kernel_rfl) (fun _ _ _ h => h) (Or.inl ⟨by rfl, ?_⟩) (by assumption) ?_
  rotate_left
  · intro w hSw; (try dsimp only at hSw); go_simp; try with_reducible rfl
  simp only [Act.put, List.getElem_toArray, List.getElem_cons_succ, List.getElem_cons_zero, List.setIfInBounds_toArray, List.set_cons_zero, List.set_cons_succ]
  refine wpAnyH_done (by kernel_rfl) ?_ _
  have HB6 := Lib.hid hbw6
  clear hHeld hHeldw3 hHeldw4 hHeldm4 hHeldw6 hbw3 hbw4 hb5 N1 N2 HCH HOR x0 x1 x2 y0 y1 y2 zx zy
  have HX6 := Lib.hid (HX0.out.below HB6.out)
  obtain ⟨⟨x0, x1, x2⟩, ⟨y0, y1, y2⟩, bz, rr⟩ := HX6.out
  have zx := cell_lt x0
  have zy := cell_lt y0
  obtain ⟨⟨v0, r0⟩, ⟨v1, r1⟩, ⟨v2, r2⟩, rz⟩ := rr
  have z0 := rz 0
  have z1 := rz 1
  have z2 := rz 2
  have zr := cell_lt r0
  clear rz bz
  go_wp2_with fail
  refine bodyPost_ret (v := .tuple #[.agg #[.int .i64 0, .slice none 0 0, .int .i64 0], .int .i64 E]) (by simp [results, Tryz.results15, go_sem, r0, r1, r2]) rfl ⟨rfl, ?_⟩
  have st : ∀ (X : World) (i o : Nat) (v : Value), a ≤ i → Below w.heap.size w X → Below w.heap.size w (X.setCell ⟨i, o, none⟩ v) := fun X i o v h hb => hb.setCell (p := ⟨i, o, none⟩) (by rw [HAE.out]; exact h) _
  exact st _ _ _ _ (by omega) (st _ _ _ _ (by omega) (st _ _ _ _ (by omega) (bt A3.out HB6.out)))
end Go.Proofs.YtgnfaemnehmgcaaGreatDoor.Cal
