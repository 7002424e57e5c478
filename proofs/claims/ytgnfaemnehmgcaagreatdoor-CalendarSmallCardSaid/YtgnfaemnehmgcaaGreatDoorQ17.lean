/-  ·  ·  -/
import Derived.RangeFuncBox
import Derived.Test.YtgnfaemnehmgcaaGreatDoorQ15
import Derived.Test.YtgnfaemnehmgcaaGreatDoorQ16
import Derived.Test.YtgnfaemnehmgcaaGreatDoorQ12
import Derived.Test.YtgnfaemnehmgcaaGreatDoorQ14
namespace Go.Proofs.YtgnfaemnehmgcaaGreatDoor.Cal
open Go Go.RowKit
attribute [local go_sem] Oper.semAt_some
structure CpAt (w X : World) (b u : Int) (n c : Nat) (p : Option Addr) (f : Nat → Int × Int) (k : Nat) (v : Value) : Prop where
  t : TBox X w.heap.size b u n c p
  r2 : Res3 X (w.heap.size + 1)
  r3 : Res3 X (w.heap.size + 1 + 1)
  q0 : X.cell? ⟨w.heap.size + 1 + 1 + 1, 0, none⟩ = some (.int .i64 b)
  q1 : X.cell? ⟨w.heap.size + 1 + 1 + 1, 1, none⟩ = some v
  q2 : X.cell? ⟨w.heap.size + 1 + 1 + 1, 2, none⟩ = some (.int .i64 u)
  qz : ∀ i, X.frozen? ⟨w.heap.size + 1 + 1 + 1, i, none⟩ = false
  own : X.ownsRow (w.heap.size + 1 + 1 + 1 + 1) 63 2 v k (lv f k)
  bel : Below w.heap.size w X
theorem CpAt.below {w X Y : World} {b u : Int} {n c : Nat} {p : Option Addr} {f : Nat → Int × Int} {k : Nat} {v : Value} (h : CpAt w X b u n c p f k v) (hb : Below X.heap.size X Y) : CpAt w Y b u n c p f k v :=
  ⟨h.t.below hb, h.r2.below hb, h.r3.below hb, cell_below hb h.q0, cell_below hb h.q1, cell_below hb h.q2, fun i => (hb.frozen (p := ⟨w.heap.size + 1 + 1 + 1, i, none⟩) (cell_lt h.q0)).trans (h.qz i), own_keep h.own hb (Nat.le_refl _), bt h.bel hb⟩
theorem CpAt.more {w X Y : World} {b u : Int} {n c : Nat} {p : Option Addr} {f : Nat → Int × Int} {k : Nat} {v v' : Value} (h : CpAt w X b u n c p f k v) (hown : Y.ownsRow (w.heap.size + 1 + 1 + 1 + 1) 63 2 v' (k + 1) (lv f (k + 1))) (hg : X.grownBy Y v.ownBlock) :
    CpAt w (Y.setCell ⟨w.heap.size + 1 + 1 + 1, 1, none⟩ v') b u n c p f (k + 1) v' := by
  have hge : ∀ j, v.ownBlock = some j → w.heap.size + 1 + 1 + 1 + 1 ≤ j := fun j hj => own_geS h.own hj
  have hge' : ∀ j, v'.ownBlock = some j → w.heap.size + 1 + 1 + 1 + 1 ≤ j := fun j hj => own_geS hown hj
  have ne : ∀ a, a < w.heap.size + 1 + 1 + 1 + 1 → some a ≠ v.ownBlock := fun a ha e => by have := hge a e.symm; omega
  have q1 := grownO_cell hg h.q1 (ne _ (by omega))
  have far : ∀ {a o : Nat} {x : Value}, a ≠ w.heap.size + 1 + 1 + 1 → Y.cell? ⟨a, o, none⟩ = some x → (Y.setCell ⟨w.heap.size + 1 + 1 + 1, 1, none⟩ v').cell? ⟨a, o, none⟩ = some x := fun {a o x} hne hx => by
    rw [World.cell?_setCell_far _ _ _ _ (Ne.symm hne)]; exact hx
  have oth : ∀ {o : Nat} {x : Value}, o ≠ 1 → Y.cell? ⟨w.heap.size + 1 + 1 + 1, o, none⟩ = some x → (Y.setCell ⟨w.heap.size + 1 + 1 + 1, 1, none⟩ v').cell? ⟨w.heap.size + 1 + 1 + 1, o, none⟩ = some x := fun {o x} hne hx => by
    rw [World.cell?_setCell_other _ ⟨w.heap.size + 1 + 1 + 1, 1, none⟩ ⟨w.heap.size + 1 + 1 + 1, o, none⟩ _ (fun e => hne (by cases e; rfl))]; exact hx
  have t := h.t
  have r2 := h.r2.grown hg (ne _ (by omega))
  have r3 := h.r3.grown hg (ne _ (by omega))
  refine ⟨⟨far (by omega) (grownO_cell hg t.c0 (ne _ (by omega))), far (by omega) (grownO_cell hg t.c1 (ne _ (by omega))), far (by omega) (grownO_cell hg t.c2 (ne _ (by omega)))⟩,
    ⟨r2.r0.imp fun _ e => far (by omega) e, r2.r1.imp fun _ e => far (by omega) e, r2.r2.imp fun _ e => far (by omega) e, fun i => by rw [World.frozen?_setCell]; exact r2.z i⟩,
    ⟨r3.r0.imp fun _ e => far (by omega) e, r3.r1.imp fun _ e => far (by omega) e, r3.r2.imp fun _ e => far (by omega) e, fun i => by rw [World.frozen?_setCell]; exact r3.z i⟩,
    oth (by decide) (grownO_cell hg h.q0 (ne _ (by omega))), World.cell?_setCell_same _ _ _ q1, oth (by decide) (grownO_cell hg h.q2 (ne _ (by omega))),
    fun i => by rw [World.frozen?_setCell]; exact grownO_frozen hg (cell_lt h.q0) (ne _ (by omega)) (h.qz i),
    own_set hown _ (fun e => by have h5 : w.heap.size + 1 + 1 + 1 + 1 ≤ w.heap.size + 1 + 1 + 1 := hge' _ e; omega), ?_⟩
  exact (Below.grown h.bel hg h.bel.size (fun j hj => by have := hge j hj; omega)).setCell (p := ⟨w.heap.size + 1 + 1 + 1, 1, none⟩) (by show w.heap.size ≤ w.heap.size + 1 + 1 + 1; omega) _
theorem cp_start (w : World) (b u : Int) (n c : Nat) (p : Option Addr) (f : Nat → Int × Int) : CpAt w ((((w.alloc (.cells #[.int .i64 b, .slice p n c, .int .i64 u] 24)).alloc (.cells #[.int .i64 0, .slice none 0 0, .int .i64 0] 24)).alloc (.cells #[.int .i64 0, .slice none 0 0, .int .i64 0] 55)).alloc (.cells #[.int .i64 b, .slice none 0 0, .int .i64 u] 55)) b u n c p f 0 (.slice none 0 0) := by
  have b1 := below_alloc (Below.refl w.heap.size w) (.cells #[.int .i64 b, .slice p n c, .int .i64 u] 24)
  have h1 := TBox.new w b u n c p 24
  have e1 : (w.alloc (.cells #[.int .i64 b, .slice p n c, .int .i64 u] 24)).heap.size = w.heap.size + 1 := by simp
  generalize w.alloc (.cells #[.int .i64 b, .slice p n c, .int .i64 u] 24) = W1 at *
  have b2 := below_alloc (Below.refl W1.heap.size W1) (.cells #[.int .i64 0, .slice none 0 0, .int .i64 0] 24)
  have h2 := Res3.new W1 (.int .i64 0) (.slice none 0 0) (.int .i64 0) 24
  have e2 : (W1.alloc (.cells #[.int .i64 0, .slice none 0 0, .int .i64 0] 24)).heap.size = w.heap.size + 1 + 1 := by simp [e1]
  rw [e1] at h2
  have h1 := h1.below b2
  have b1 := bt b1 b2
  generalize W1.alloc (.cells #[.int .i64 0, .slice none 0 0, .int .i64 0] 24) = W2 at *
  have b3 := below_alloc (Below.refl W2.heap.size W2) (.cells #[.int .i64 0, .slice none 0 0, .int .i64 0] 55)
  have h3 := Res3.new W2 (.int .i64 0) (.slice none 0 0) (.int .i64 0) 55
  have e3 : (W2.alloc (.cells #[.int .i64 0, .slice none 0 0, .int .i64 0] 55)).heap.size = w.heap.size + 1 + 1 + 1 := by simp [e2]
  rw [e2] at h3
  have h1 := h1.below b3
  have h2 := h2.below b3
  have b1 := bt b1 b3
  generalize W2.alloc (.cells #[.int .i64 0, .slice none 0 0, .int .i64 0] 55) = W3 at *
  have b4 := below_alloc (Below.refl W3.heap.size W3) (.cells #[.int .i64 b, .slice none 0 0, .int .i64 u] 55)
  obtain ⟨q0, q1, q2⟩ := TBox.new W3 b u 0 0 none 55
  have qz : ∀ i, (W3.alloc (.cells #[.int .i64 b, .slice none 0 0, .int .i64 u] 55)).frozen? ⟨W3.heap.size, i, none⟩ = false := fun i => by simp
  rw [e3] at q0 q1 q2 qz
  exact ⟨h1.below b4, h2.below b4, h3.below b4, q0, q1, q2, qz, World.ownsRow_nil _ _ _ _, bt b1 b4⟩

set_option maxRecDepth 100000 in
set_option maxHeartbeats 2000000 in
theorem copied_any (b u : Int) (f : Nat → Int × Int) (n c : Nat) (p : Option Addr) (w : World) (hn : n ≤ 1000) (hp : p = none → n = 0) (hs : LpIn w f n p) :
    Calls Tryz.prog 14 #[.agg #[.int .i64 b, .slice p n c, .int .i64 u]] w fun e w' => ∃ q cq qr cr, e = .returned (.tuple #[.agg #[.int .i64 b, .slice q n cq, .int .i64 u], .agg #[.int .i64 b, .slice qr n cr, .int .i64 u]]) ∧ (n ≤ cq ∧ cq ≤ maxLen) ∧ LpIn w' f n q ∧ LpIn w' f n qr ∧ Below w.heap.size w w' := by
  obtain ⟨i0, hi0, hz0, hz1, hz2⟩ := info_parts infoLeapR
  have HC := Lib.hid (cp_start w b u n c p f)
  have HS := Lib.hid hs
  have HP := Lib.hid hp
  clear hs hp
  go_enter Tryz.func14, Tryz.ntmps14
  go_upto_region 2 with fail
  generalize (((w.alloc (.cells #[.int .i64 b, .slice p n c, .int .i64 u] 24)).alloc (.cells #[.int .i64 0, .slice none 0 0, .int .i64 0] 24)).alloc (.cells #[.int .i64 0, .slice none 0 0, .int .i64 0] 55)).alloc (.cells #[.int .i64 b, .slice none 0 0, .int .i64 u] 55) = W0 at *
  obtain ⟨x0, x1, x2⟩ := HC.out.t
  have zx := cell_lt x0
  go_wp2_with fail
  clear x0 x1 x2 zx
  go_loopw [6, 15] (fun s6 s15 wr => ∃ (k : Nat) (v6 v : Value), k ≤ n ∧ s6 = v6 ∧ s15 = .int .i64 (k : Int) ∧ Hid (CpAt w wr b u n c p f k v)) (fun _ s _ => n - (intOf s).toNat)
  case atStart => exact ⟨0, _, _, Nat.zero_le _, rfl, rfl, HC⟩
  case round =>
    obtain ⟨k, v6, v, hk, rfl, rfl, HA⟩ := hrel
    by_cases hlt : k < n
    · have hki : (k : Int) < n := by omega
      have vk : IntKind.i64.wrap ((k : Int) + 1) = (k : Int) + 1 := IntWalk.i64_in _ (by omega)
      obtain ⟨bb, oo, rfl, hsi⟩ := HS.out.resolve_left (by omega)
      obtain ⟨y0, y1⟩ := (hsi.below HA.out.bel) k hlt
      have zy := cell_lt y0
      have hb1 := below_alloc (Below.refl wr.heap.size wr) (.cells #[.int .i64 (f k).1, .int .i64 (f k).2] 33)
      have g0 : (wr.alloc (.cells #[.int .i64 (f k).1, .int .i64 (f k).2] 33)).cell? ⟨wr.heap.size, 0, none⟩ = some (.int .i64 (f k).1) := by simp
      have g1 : (wr.alloc (.cells #[.int .i64 (f k).1, .int .i64 (f k).2] 33)).cell? ⟨wr.heap.size, 1, none⟩ = some (.int .i64 (f k).2) := by simp
      have HA1 := Lib.hid (HA.out.below hb1)
      have HLV : Hid (lv f (k + 1) = lv f k ++ [.int .i64 (f k).1, .int .i64 (f k).2]) := Lib.hid rfl
      have HK := Lib.hid hlt
      clear hlt hsi hb1
      generalize (f k).1 = dk at *
      generalize (f k).2 = sk at *
      go_upto_region 5 with fail
      generalize wr.alloc (.cells #[.int .i64 dk, .int .i64 sk] 33) = W1 at *
      clear y0 y1 zy
      have zg := cell_lt g0
      have q1 := HA1.out.q1
      have zq := cell_lt q1
      have qz := HA1.out.qz 1
      go_wp2_with (at_builtin; refine wpList_append_own_at _ rfl _ _ _ rfl (w.heap.size + 1 + 1 + 1 + 1) 63 i0 (.agg #[.int .i64 0, .int .i64 0]) 2 16 Tryz.underlying53 hi0 hz0 hz1 hz2 rfl (by decide) _ k _ rfl (HA1.out.own.alloc _) ⟨W1.heap.size, 0, none⟩ 1 1 [.int .i64 dk, .int .i64 sk] rfl rfl (two_new _ _ _ _) (by simp [Value.oneCell']) (by unfold maxLen; omega) (by omega) (by have := cell_lt HA1.out.q0; simp; omega) ?_; intro v' w2 hown hg _ _; obtain ⟨g', cap', rfl⟩ := ownsRow_succ hown; have HA2 := Lib.hid ((HA1.out.below (below_alloc (Below.refl _ _) _)).more (by rw [HLV.out]; exact hown) hg); have q2 := grownO_cell hg (cell_below (below_alloc (Below.refl _ _) _) q1) (fun e => by have := own_geS HA1.out.own e.symm; omega); have zq2 := cell_lt q2; have qz2 := grownO_frozen hg (by have := cell_lt q1; simp; omega) (fun e => by have := own_geS HA1.out.own e.symm; omega) ((below_alloc (Below.refl W1.heap.size W1) _).frozen (p := ⟨w.heap.size + 1 + 1 + 1, 1, none⟩) (cell_lt q1) |>.trans qz); clear hown hg)
      go_roundw
      case rel => exact ⟨k + 1, _, _, HK.out, rfl, by simp, HA2⟩
      case measure => have := HK.out; simp [intOf]; omega
    · obtain rfl : k = n := by omega
      have hki : ¬ ((k : Int) < k) := by omega
      clear hlt
      go_wp2_with fail
      obtain ⟨qr, cr, rfl, hq1, hq2, hlr, hgr⟩ := own_leaps HA.out.own
      have HLR := Lib.hid hlr
      have HGR := Lib.hid hgr
      clear hq1 hq2 hlr hgr
      have hsf : ∀ (X : World) (o : Nat) (v : Value), (fun w' => w'.cell? ⟨w.heap.size, 0, none⟩ = some (.int .i64 b) ∧ w'.cell? ⟨w.heap.size, 1, none⟩ = some (.slice p k c) ∧ w'.cell? ⟨w.heap.size, 2, none⟩ = some (.int .i64 u) ∧ w'.cell? ⟨w.heap.size + 1 + 1 + 1, 0, none⟩ = some (.int .i64 b) ∧ w'.cell? ⟨w.heap.size + 1 + 1 + 1, 1, none⟩ = some (.slice qr k cr) ∧ w'.cell? ⟨w.heap.size + 1 + 1 + 1, 2, none⟩ = some (.int .i64 u)) X → (fun w' => w'.cell? ⟨w.heap.size, 0, none⟩ = some (.int .i64 b) ∧ w'.cell? ⟨w.heap.size, 1, none⟩ = some (.slice p k c) ∧ w'.cell? ⟨w.heap.size, 2, none⟩ = some (.int .i64 u) ∧ w'.cell? ⟨w.heap.size + 1 + 1 + 1, 0, none⟩ = some (.int .i64 b) ∧ w'.cell? ⟨w.heap.size + 1 + 1 + 1, 1, none⟩ = some (.slice qr k cr) ∧ w'.cell? ⟨w.heap.size + 1 + 1 + 1, 2, none⟩ = some (.int .i64 u)) (X.setCell ⟨w.heap.size + 1, o, none⟩ v) := fun X o v h => by
        obtain ⟨h0, h1, h2, h3, h4, h5⟩ := h
        exact ⟨farC (by omega) h0, farC (by omega) h1, farC (by omega) h2, farC (by omega) h3, farC (by omega) h4, farC (by omega) h5⟩
      have hsg : ∀ (X : World) (o : Nat) (v : Value), (fun w' => w'.cell? ⟨w.heap.size, 0, none⟩ = some (.int .i64 b) ∧ w'.cell? ⟨w.heap.size, 1, none⟩ = some (.slice p k c) ∧ w'.cell? ⟨w.heap.size, 2, none⟩ = some (.int .i64 u) ∧ w'.cell? ⟨w.heap.size + 1 + 1 + 1, 0, none⟩ = some (.int .i64 b) ∧ w'.cell? ⟨w.heap.size + 1 + 1 + 1, 1, none⟩ = some (.slice qr k cr) ∧ w'.cell? ⟨w.heap.size + 1 + 1 + 1, 2, none⟩ = some (.int .i64 u)) X → (fun w' => w'.cell? ⟨w.heap.size, 0, none⟩ = some (.int .i64 b) ∧ w'.cell? ⟨w.heap.size, 1, none⟩ = some (.slice p k c) ∧ w'.cell? ⟨w.heap.size, 2, none⟩ = some (.int .i64 u) ∧ w'.cell? ⟨w.heap.size + 1 + 1 + 1, 0, none⟩ = some (.int .i64 b) ∧ w'.cell? ⟨w.heap.size + 1 + 1 + 1, 1, none⟩ = some (.slice qr k cr) ∧ w'.cell? ⟨w.heap.size + 1 + 1 + 1, 2, none⟩ = some (.int .i64 u)) (X.setCell ⟨w.heap.size + 1 + 1, o, none⟩ v) := fun X o v h => by
        obtain ⟨h0, h1, h2, h3, h4, h5⟩ := h
        exact ⟨farC (by omega) h0, farC (by omega) h1, farC (by omega) h2, farC (by omega) h3, farC (by omega) h4, farC (by omega) h5⟩
      have hsb : ∀ X, Below wr.heap.size wr X → (fun w' => w'.cell? ⟨w.heap.size, 0, none⟩ = some (.int .i64 b) ∧ w'.cell? ⟨w.heap.size, 1, none⟩ = some (.slice p k c) ∧ w'.cell? ⟨w.heap.size, 2, none⟩ = some (.int .i64 u) ∧ w'.cell? ⟨w.heap.size + 1 + 1 + 1, 0, none⟩ = some (.int .i64 b) ∧ w'.cell? ⟨w.heap.size + 1 + 1 + 1, 1, none⟩ = some (.slice qr k cr) ∧ w'.cell? ⟨w.heap.size + 1 + 1 + 1, 2, none⟩ = some (.int .i64 u)) X := fun X h => ⟨cell_below h HA.out.t.c0, cell_below h HA.out.t.c1, cell_below h HA.out.t.c2, cell_below h HA.out.q0, cell_below h HA.out.q1, cell_below h HA.out.q2⟩
      have HSF := Lib.hid hsf
      have HSG := Lib.hid hsg
      have HSB := Lib.hid hsb
      have HCL := Lib.hid (fun X (hX : LpIn X f k p) => clone_any f k c p X hn HP.out hX)
      clear hsf hsg hsb
      refine wp_region_held_drew (S := (fun w' => w'.cell? ⟨w.heap.size, 0, none⟩ = some (.int .i64 b) ∧ w'.cell? ⟨w.heap.size, 1, none⟩ = some (.slice p k c) ∧ w'.cell? ⟨w.heap.size, 2, none⟩ = some (.int .i64 u) ∧ w'.cell? ⟨w.heap.size + 1 + 1 + 1, 0, none⟩ = some (.int .i64 b) ∧ w'.cell? ⟨w.heap.size + 1 + 1 + 1, 1, none⟩ = some (.slice qr k cr) ∧ w'.cell? ⟨w.heap.size + 1 + 1 + 1, 2, none⟩ = some (.int .i64 u))) (by kernel_rfl) (HSB.out _ (Below.drew (Below.refl _ _))) (fun hHeld => ?_)
      refine wpAnyH_take (i := 0) (v := ?_) rfl (by kernel_rfl) (by kernel_rfl) (by kernel_rfl) (fun _ _ _ h => h) (Or.inl ⟨by rfl, ?_⟩) (by assumption) ?_
      rotate_left
      · intro w hSw; (try dsimp only at hSw); go_simp; try with_reducible rfl
      simp only [Act.put, List.getElem_toArray, List.getElem_cons_zero, List.setIfInBounds_toArray, List.set_cons_zero, List.set_cons_succ]
      refine wpAnyH_take (i := 1) (v := ?_) rfl (by kernel_rfl) (by kernel_rfl) (by kernel_rfl) (fun _ _ _ h => h) (Or.inl ⟨by rfl, ?_⟩) (by assumption) ?_
      rotate_left
      · intro w hSw; (try dsimp only at hSw); go_simp; try with_reducible rfl
      simp only [Act.put, List.getElem_toArray, List.getElem_cons_succ, List.getElem_cons_zero, List.setIfInBounds_toArray, List.set_cons_zero, List.set_cons_succ]
      refine wpAnyH_take (i := 2) (v := ?_) rfl (by kernel_rfl) (by kernel_rfl) (by kernel_rfl) (fun _ _ _ h => h) (Or.inl ⟨by rfl, ?_⟩) (by assumption) ?_
      rotate_left
      · intro w hSw; (try dsimp only at hSw); go_simp; try with_reducible rfl
      simp only [Act.put, List.getElem_toArray, List.getElem_cons_succ, List.getElem_cons_zero, List.setIfInBounds_toArray, List.set_cons_zero, List.set_cons_succ]
      refine wpAnyH_take (i := 3) (v := ?_) rfl (by kernel_rfl) (by kernel_rfl) (by kernel_rfl) (fun _ _ _ h => h) (Or.inl ⟨by rfl, ?_⟩) (by assumption) ?_
      rotate_left
      · intro w hSw; (try dsimp only at hSw); go_simp; try with_reducible rfl
      simp only [Act.put, List.getElem_toArray, List.getElem_cons_succ, List.getElem_cons_zero, List.setIfInBounds_toArray, List.set_cons_zero, List.set_cons_succ]
      refine wpAnyH_take (i := 5) (v := ?_) rfl (by kernel_rfl) (by kernel_rfl) (by kernel_rfl) (fun _ _ _ h => h) (Or.inl ⟨by rfl, ?_⟩) (by assumption) ?_
      rotate_left
      · intro w hSw; (try dsimp only at hSw); go_simp; try with_reducible rfl
      simp only [Act.put, List.getElem_toArray, List.getElem_cons_succ, List.getElem_cons_zero, List.setIfInBounds_toArray, List.set_cons_zero, List.set_cons_succ]
      refine wpAnyH_take (i := 6) (v := ?_) rfl (by kernel_rfl) (by kernel_rfl) (by kernel_rfl) (fun _ _ _ h => h) (Or.inl ⟨by rfl, ?_⟩) (by assumption) ?_
      rotate_left
      · intro w hSw; (try dsimp only at hSw); go_simp; try with_reducible rfl
      simp only [Act.put, List.getElem_toArray, List.getElem_cons_succ, List.getElem_cons_zero, List.setIfInBounds_toArray, List.set_cons_zero, List.set_cons_succ]
      refine wpAnyH_take (i := 8) (v := ?_) rfl (by kernel_rfl) (by kernel_rfl) (by kernel_rfl) (fun _ _ _ h => h) (Or.inl ⟨by rfl, ?_⟩) (by assumption) ?_
      rotate_left
      · intro w hSw; (try dsimp only at hSw); go_simp; try with_reducible rfl
      simp only [Act.put, List.getElem_toArray, List.getElem_cons_succ, List.getElem_cons_zero, List.setIfInBounds_toArray, List.set_cons_zero, List.set_cons_succ]
      refine wpAnyH_ready (rs := [4]) (by kernel_rfl) (by simp) ?_
      refine AllReadyH.cons rfl (fun K hK => ?_) AllReadyH.nil
      go_simp
      go_at_call 70
      refine (HCL.out _ (HS.out.below (HA.out.bel.trans (Below.drew (Below.refl _ _))))).mono ?_
      rintro e w2 ⟨q, cq, rfl, hq1, hq2, hlq, hgq, hb2⟩
      have HGQ := Lib.hid hgq
      have hbw : Below wr.heap.size wr w2 := Below.trans (Below.drew (Below.refl _ _)) hb2
      go_wp2_with fail
      refine hK.out _ _ (HSB.out _ hbw) (fun hHeld2 => ?_)
      clear hK K hHeld
      have HQ := Lib.hid (And.intro hq1 hq2)
      have HLQ := Lib.hid hlq
      have HA2 := Lib.hid (HA.out.below hbw)
      have HLR2 := Lib.hid (HLR.out.below hbw)
      clear hq1 hq2 hlq hb2 hbw hgq
      refine wpAnyH_take (i := 7) (v := ?_) rfl (by kernel_rfl) (by kernel_rfl) (by kernel_rfl) (fun _ _ _ h => h) (Or.inl ⟨by rfl, ?_⟩) (by assumption) ?_
      rotate_left
      · intro w hSw; (try dsimp only at hSw); go_simp; try with_reducible rfl
      simp only [Act.put, List.getElem_toArray, List.getElem_cons_succ, List.getElem_cons_zero, List.setIfInBounds_toArray, List.set_cons_zero, List.set_cons_succ]
      obtain ⟨⟨u0, s0⟩, ⟨u1, s1⟩, ⟨u2, s2⟩, sz⟩ := HA2.out.r2
      obtain ⟨⟨t0, e0⟩, ⟨t1, e1⟩, ⟨t2, e2⟩, ez⟩ := HA2.out.r3
      have sz0 := sz 0
      have sz1 := sz 1
      have sz2 := sz 2
      have ez0 := ez 0
      have ez1 := ez 1
      have ez2 := ez 2
      have zs := cell_lt s0
      have ze := cell_lt e0
      clear sz ez
      refine wpAnyH_ready (rs := [9]) (by kernel_rfl) (by simp) ?_
      refine AllReadyH.cons rfl (fun K hK => ?_) AllReadyH.nil
      go_simp
      refine hK.out _ _ (HSF.out _ _ _ (HSF.out _ _ _ (HSF.out _ _ _ hHeld2))) (fun hHeld3 => ?_)
      clear hK K
      refine wpAnyH_ready (rs := [10]) (by kernel_rfl) (by simp) ?_
      refine AllReadyH.cons rfl (fun K hK => ?_) AllReadyH.nil
      go_simp
      refine hK.out _ _ (HSG.out _ _ _ (HSG.out _ _ _ (HSG.out _ _ _ hHeld3))) (fun hHeld4 => ?_)
      clear hK K
      refine wpAnyH_done (by kernel_rfl) ?_ _
      clear hHeld2 hHeld3 hHeld4
      go_wp2
      refine bodyPost_ret (v := .tuple #[.agg #[.int .i64 b, .slice q k cq, .int .i64 u], .agg #[.int .i64 b, .slice qr k cr, .int .i64 u]]) (by simp [results, Tryz.results14, go_sem, s0, s1, s2, e0, e1, e2]) rfl ⟨q, cq, qr, cr, rfl, HQ.out, ?_, ?_, ?_⟩
      · have ne : ∀ b o, q = some ⟨b, o, none⟩ → w.heap.size + 1 + 1 + 1 < b := fun b o e => by
          have h1 := HGQ.out b o e
          have h2 := cell_lt HA.out.q0
          have h3 : wr.heap.size ≤ b := h1
          omega
        exact (((((HLQ.out.set (fun b o e => by have := ne b o e; omega)).set (fun b o e => by have := ne b o e; omega)).set (fun b o e => by have := ne b o e; omega)).set (fun b o e => by have := ne b o e; omega)).set (fun b o e => by have := ne b o e; omega)).set (fun b o e => by have := ne b o e; omega)
      · have ne : ∀ b o, qr = some ⟨b, o, none⟩ → w.heap.size + 1 + 1 + 1 < b := fun b o e => by have := HGR.out b o e; omega
        exact (((((HLR2.out.set (fun b o e => by have := ne b o e; omega)).set (fun b o e => by have := ne b o e; omega)).set (fun b o e => by have := ne b o e; omega)).set (fun b o e => by have := ne b o e; omega)).set (fun b o e => by have := ne b o e; omega)).set (fun b o e => by have := ne b o e; omega)
      · have st : ∀ (X : World) (a o : Nat) (v : Value), w.heap.size ≤ a → Below w.heap.size w X → Below w.heap.size w (X.setCell ⟨a, o, none⟩ v) := fun X a o v ha h => h.setCell (p := ⟨a, o, none⟩) ha _
        exact st _ _ _ _ (by omega) (st _ _ _ _ (by omega) (st _ _ _ _ (by omega) (st _ _ _ _ (by omega) (st _ _ _ _ (by omega) (st _ _ _ _ (by omega) HA2.out.bel)))))
end Go.Proofs.YtgnfaemnehmgcaaGreatDoor.Cal
namespace Go.Proofs.YtgnfaemnehmgcaaGreatDoor.Cal
open Go Go.RowKit
attribute [local go_sem] Oper.semAt_some
theorem known_day {b u : Int} {n : Nat} {f : Nat → Int × Int} {s : Int} (hk : knownE b u n f s = 0) : ∃ D, IsDayOf u n f s D := by
  obtain ⟨ht, hi⟩ := knownE_zero hk
  have hb := inB_bd hi
  exact (tab_ok ht).day_exists hb.1 hb.2
end Go.Proofs.YtgnfaemnehmgcaaGreatDoor.Cal
namespace Go.Proofs.YtgnfaemnehmgcaaGreatDoor.Cal
open Go Go.RowKit
attribute [local go_sem] Oper.semAt_some
def Pair (g r : FuncId) (b u : Int) (n : Nat) (f : Nat → Int × Int) (mk : Value → Array Value) (v : Value) : Prop :=
  (∀ (X : World) (c : Nat) (p : Option Addr), Mon X → LpIn X f n p → n ≤ c → c ≤ maxLen → Calls Tryz.prog g (mk (.agg #[.int .i64 b, .slice p n c, .int .i64 u])) X fun e w' => e = .returned v ∧ Below X.heap.size X w') ∧
  (∀ (X : World) (c : Nat) (p : Option Addr), LpIn X f n p → Calls Tryz.prog r (mk (.agg #[.int .i64 b, .slice p n c, .int .i64 u])) X fun e w' => e = .returned v ∧ Below X.heap.size X w')
theorem len_pair (b u d : Int) (n : Nat) (f : Nat → Int × Int) (hn : n ≤ 1000) : ∃ x e, Pair 35 36 b u n f (fun t => #[t, .int .i64 d]) (.tuple #[.int .i64 x, .int .i64 e]) :=
  ⟨_, _, fun X c p hX hl _ _ => Length_any b u d n c p f X hX hl (by omega), fun X c p hl => rLength_any b u d n c p f X hl (by omega)⟩
theorem off_pair (b u d : Int) (n : Nat) (f : Nat → Int × Int) (hn : n ≤ 1000) : ∃ x e, Pair 37 38 b u n f (fun t => #[t, .int .i64 d]) (.tuple #[.int .i64 x, .int .i64 e]) :=
  ⟨_, _, fun X c p hX hl h1 h2 => Offset_any b u d n c p f X hX hl (by omega) h1 h2, fun X c p hl => rOffset_any b u d n c p f X hl (by omega)⟩
theorem tot_pair (b u : Int) (n : Nat) (f : Nat → Int × Int) (hn : n ≤ 1000) : ∃ x e, Pair 39 40 b u n f (fun t => #[t]) (.tuple #[.int .i64 x, .int .i64 e]) :=
  ⟨_, _, fun X c p hX hl h1 h2 => Total_any b u n c p f X hX hl (by omega) h1 h2, fun X c p hl => rTotal_any b u n c p f X hl (by omega)⟩
theorem chk_pair (b u : Int) (n : Nat) (f : Nat → Int × Int) (hn : n ≤ 1000) : ∃ e, Pair 33 34 b u n f (fun t => #[t]) (.int .i64 e) :=
  ⟨_, fun X c p hX hl _ _ => Check_any b u n c p f X hX hl (by omega), fun X c p hl => rCheck_any b u n c p f X hl (by omega)⟩
theorem sec_pair (b u y m d h mi s : Int) (n : Nat) (f : Nat → Int × Int) (hn : n ≤ 1000) : ∃ x e, Pair 25 41 b u n f (fun t => #[t, .agg #[.int .i64 y, .int .i64 m, .int .i64 d, .int .i64 h, .int .i64 mi, .int .i64 s]]) (.tuple #[.int .i64 x, .int .i64 e]) := by
  by_cases ht : tabE b u n f = 0
  · cases hd : okDate y m d
    · have hm : momB y m d h mi s = false := by unfold momB; rw [hd]; rfl
      exact ⟨_, _, fun X c p hX hl _ _ => Seconds_mom ht y m d h mi s hm c p X hX hl, fun X c p hl => rSeconds_day ht y m d h mi s hd c p X hl⟩
    · obtain ⟨k, rfl, hdt⟩ := okDate_yes hd
      have hsame := sec_same (tab_ok ht) hdt.civ.n_bd.1 h mi s
      cases hb : secB u f n (dayN y k d) h mi s
      · rw [hb] at hsame
        by_cases hall : tB h = true ∧ miB mi = true ∧ sB s = true
        · obtain ⟨h1, h2, h3⟩ := hall
          rw [h1, h2, h3] at hsame
          exact ⟨_, _, fun X c p hX hl _ _ => Seconds_has ht hdt h mi s h1 h2 h3 (by simpa using hsame.symm) c p X hX hl, fun X c p hl => rSeconds_bad ht hdt h mi s hb c p X hl⟩
        · have hm : momB y (k : Int) d h mi s = false := by
            unfold momB
            rw [Bool.eq_false_iff]; intro hc
            simp only [Bool.and_eq_true] at hc
            exact hall ⟨hc.1.1.2, hc.1.2, hc.2⟩
          exact ⟨_, _, fun X c p hX hl _ _ => Seconds_mom ht y (k : Int) d h mi s hm c p X hX hl, fun X c p hl => rSeconds_bad ht hdt h mi s hb c p X hl⟩
      · rw [hb] at hsame
        have hsame := hsame.symm
        simp only [Bool.and_eq_true] at hsame
        obtain ⟨⟨⟨h1, h2⟩, h3⟩, h4⟩ := hsame
        obtain ⟨_, b2, b3, _, _⟩ := secB_true hb
        refine ⟨_, _, fun X c p hX hl h5 h6 => Seconds_ok ht hdt h mi s h1 h2 h3 h4 c p X hX hl h5 h6, fun X c p hl => ?_⟩
        rw [num_same f n b2 b3]
        exact rSeconds_good ht hdt h mi s hb c p X hl
  · exact ⟨_, _, fun X c p hX hl _ _ => Seconds_tab ht y m d h mi s c p X hX hl (by omega), fun X c p hl => rSeconds_tab ht y m d h mi s c p X hl (by omega)⟩
theorem dat_pair (b u s : Int) (n : Nat) (f : Nat → Int × Int) (hn : n ≤ 1000) : ∃ y m d h mi sc e, Pair 42 43 b u n f (fun t => #[t, .int .i64 s]) (.tuple #[.agg #[.int .i64 y, .int .i64 m, .int .i64 d, .int .i64 h, .int .i64 mi, .int .i64 sc], .int .i64 e]) := by
  by_cases hk : knownE b u n f s = 0
  · obtain ⟨D, hD⟩ := known_day hk
    have hci := civ_is D ⟨hD.d1, by have := hD.d2; have := (tab_ok (knownE_zero hk).1).u2; omega⟩
    exact ⟨_, _, _, _, _, _, _, fun X c p hX hl h1 h2 => Dates_ok hk hD hci c p X hX hl h1 h2, fun X c p hl => rDates_ok hk hD hci c p X hl⟩
  · exact ⟨_, _, _, _, _, _, _, fun X c p hX hl h1 h2 => Dates_no hk c p X hX hl (by omega) h1 h2, fun X c p hl => rDates_no hk c p X hl (by omega)⟩
theorem atm_pair (b u s : Int) (n : Nat) (f : Nat → Int × Int) (hn : n ≤ 1000) : ∃ x e, Pair 44 45 b u n f (fun t => #[t, .int .i64 s]) (.tuple #[.int .i64 x, .int .i64 e]) := by
  by_cases hk : knownE b u n f s = 0
  · exact ⟨_, _, fun X c p hX hl h1 h2 => Atomic_ok hk c p X hX hl h1 h2, fun X c p hl => rAtomic_ok hk c p X hl⟩
  · exact ⟨_, _, fun X c p hX hl h1 h2 => Atomic_no hk c p X hX hl (by omega) h1 h2, fun X c p hl => rAtomic_no hk c p X hl (by omega)⟩
theorem ann_pair (b u s : Int) (n : Nat) (f : Nat → Int × Int) (hn : n ≤ 1000) : ∃ x e, Pair 46 47 b u n f (fun t => #[t, .int .i64 s]) (.tuple #[.int .i64 x, .int .i64 e]) := by
  by_cases hk : knownE b u n f s = 0
  · obtain ⟨D, hD⟩ := known_day hk
    exact ⟨_, _, fun X c p hX hl h1 h2 => Announced_ok hk hD c p X hX hl h1 h2, fun X c p hl => rAnnounced_ok hk hD c p X hl⟩
  · exact ⟨_, _, fun X c p hX hl h1 h2 => Announced_no hk c p X hX hl (by omega) h1 h2, fun X c p hl => rAnnounced_no hk c p X hl (by omega)⟩
end Go.Proofs.YtgnfaemnehmgcaaGreatDoor.Cal
