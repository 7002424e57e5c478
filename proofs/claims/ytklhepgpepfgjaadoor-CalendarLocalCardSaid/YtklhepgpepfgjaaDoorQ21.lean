/- Layer 9 (calendar): the table that the law makes of numbers. (by gen_fc.py) -/
import Derived.Test.YtklhepgpepfgjaaDoorQ20
import Derived.Test.YtklhepgpepfgjaaDoorQ17
namespace Go.Proofs.YtklhepgpepfgjaaDoor.Cal
open Go Go.RowKit
attribute [local go_sem] Oper.semAt_some
theorem lv_congr {f g : Nat → Int × Int} : ∀ n, (∀ j, j < n → f j = g j) → lv f n = lv g n
  | 0, _ => rfl
  | n + 1, h => by rw [lv, lv, lv_congr n (fun j hj => h j (by omega)), h n (by omega)]
theorem lv_put (f : Nat → Int × Int) (n : Nat) (x : Int × Int) : lv (putL f n x) (n + 1) = lv f n ++ [.int .i64 x.1, .int .i64 x.2] := by
  rw [lv, putL_at, lv_congr n (fun j hj => putL_ne f n x hj)]
/-- a table as it is made -/
structure MdAt (w X : World) (u : Int) (n : Nat) (f : Nat → Int × Int) (v : Value) : Prop where
  r : Res3 X w.heap.size
  q0 : X.cell? ⟨w.heap.size + 1, 0, none⟩ = some (.int .i64 10)
  q1 : X.cell? ⟨w.heap.size + 1, 1, none⟩ = some v
  q2 : X.cell? ⟨w.heap.size + 1, 2, none⟩ = some (.int .i64 u)
  qz : ∀ i, X.frozen? ⟨w.heap.size + 1, i, none⟩ = false
  own : X.ownsRow (w.heap.size + 1 + 1) 81 2 v n (lv f n)
  bel : Below w.heap.size w X
theorem MdAt.below {w X Y : World} {u : Int} {n : Nat} {f : Nat → Int × Int} {v : Value} (h : MdAt w X u n f v) (hb : Below X.heap.size X Y) : MdAt w Y u n f v :=
  ⟨h.r.below hb, cell_below hb h.q0, cell_below hb h.q1, cell_below hb h.q2, fun i => (hb.frozen (p := ⟨w.heap.size + 1, i, none⟩) (cell_lt h.q0)).trans (h.qz i), own_keep h.own hb (Nat.le_refl _), bt h.bel hb⟩
theorem MdAt.more {w X Y : World} {u : Int} {n : Nat} {f : Nat → Int × Int} {v v' : Value} (h : MdAt w X u n f v) (x : Int × Int) (hown : Y.ownsRow (w.heap.size + 1 + 1) 81 2 v' (n + 1) (lv f n ++ [.int .i64 x.1, .int .i64 x.2])) (hg : X.grownBy Y v.ownBlock) :
    MdAt w (Y.setCell ⟨w.heap.size + 1, 1, none⟩ v') u (n + 1) (putL f n x) v' := by
  rw [← lv_put] at hown
  have hge : ∀ j, v.ownBlock = some j → w.heap.size + 1 + 1 ≤ j := fun j hj => own_geS h.own hj
  have hge' : ∀ j, v'.ownBlock = some j → w.heap.size + 1 + 1 ≤ j := fun j hj => own_geS hown hj
  have ne : ∀ a, a < w.heap.size + 1 + 1 → some a ≠ v.ownBlock := fun a ha e => by have := hge a e.symm; omega
  have q1 := grownO_cell hg h.q1 (ne _ (by omega))
  have far : ∀ {a o : Nat} {x : Value}, a ≠ w.heap.size + 1 → Y.cell? ⟨a, o, none⟩ = some x → (Y.setCell ⟨w.heap.size + 1, 1, none⟩ v').cell? ⟨a, o, none⟩ = some x := fun {a o x} hne hx => by
    rw [World.cell?_setCell_far _ _ _ _ (Ne.symm hne)]; exact hx
  have oth : ∀ {o : Nat} {x : Value}, o ≠ 1 → Y.cell? ⟨w.heap.size + 1, o, none⟩ = some x → (Y.setCell ⟨w.heap.size + 1, 1, none⟩ v').cell? ⟨w.heap.size + 1, o, none⟩ = some x := fun {o x} hne hx => by
    rw [World.cell?_setCell_other _ ⟨w.heap.size + 1, 1, none⟩ ⟨w.heap.size + 1, o, none⟩ _ (fun e => hne (by cases e; rfl))]; exact hx
  have r := h.r.grown hg (ne _ (by omega))
  refine ⟨⟨r.r0.imp fun _ e => far (by omega) e, r.r1.imp fun _ e => far (by omega) e, r.r2.imp fun _ e => far (by omega) e, fun i => by rw [World.frozen?_setCell]; exact r.z i⟩,
    oth (by decide) (grownO_cell hg h.q0 (ne _ (by omega))), World.cell?_setCell_same _ _ _ q1, oth (by decide) (grownO_cell hg h.q2 (ne _ (by omega))),
    fun i => by rw [World.frozen?_setCell]; exact grownO_frozen hg (cell_lt h.q0) (ne _ (by omega)) (h.qz i),
    own_set hown _ (fun e => by have h5 : w.heap.size + 1 + 1 ≤ w.heap.size + 1 := hge' _ e; omega), ?_⟩
  exact (Below.grown h.bel hg h.bel.size (fun j hj => by have := hge j hj; omega)).setCell (p := ⟨w.heap.size + 1, 1, none⟩) (by show w.heap.size ≤ w.heap.size + 1; omega) _
theorem MdAt.till {w X : World} {u : Int} {n : Nat} {f : Nat → Int × Int} {v : Value} (h : MdAt w X u n f v) (u' : Int) : MdAt w (X.setCell ⟨w.heap.size + 1, 2, none⟩ (.int .i64 u')) u' n f v := by
  have hge : ∀ j, v.ownBlock = some j → w.heap.size + 1 + 1 ≤ j := fun j hj => own_geS h.own hj
  have oth : ∀ {o : Nat} {x : Value}, o ≠ 2 → X.cell? ⟨w.heap.size + 1, o, none⟩ = some x → (X.setCell ⟨w.heap.size + 1, 2, none⟩ (.int .i64 u')).cell? ⟨w.heap.size + 1, o, none⟩ = some x := fun {o x} hne hx => by
    rw [World.cell?_setCell_other _ ⟨w.heap.size + 1, 2, none⟩ ⟨w.heap.size + 1, o, none⟩ _ (fun e => hne (by cases e; rfl))]; exact hx
  refine ⟨⟨h.r.r0.imp fun _ e => farC (by omega) e, h.r.r1.imp fun _ e => farC (by omega) e, h.r.r2.imp fun _ e => farC (by omega) e, fun i => by rw [World.frozen?_setCell]; exact h.r.z i⟩,
    oth (by decide) h.q0, oth (by decide) h.q1, World.cell?_setCell_same _ _ _ h.q2, fun i => by rw [World.frozen?_setCell]; exact h.qz i,
    own_set h.own _ (fun e => by have h5 : w.heap.size + 1 + 1 ≤ w.heap.size + 1 := hge _ e; omega), ?_⟩
  exact h.bel.setCell (p := ⟨w.heap.size + 1, 2, none⟩) (by show w.heap.size ≤ w.heap.size + 1; omega) _
theorem md_start (w : World) (f : Nat → Int × Int) : MdAt w ((w.alloc (.cells #[.int .i64 0, .slice none 0 0, .int .i64 0] 24)).alloc (.cells #[.int .i64 10, .slice none 0 0, .int .i64 41357] 24)) 41357 0 f (.slice none 0 0) := by
  have b1 := below_alloc (Below.refl w.heap.size w) (.cells #[.int .i64 0, .slice none 0 0, .int .i64 0] 24)
  have h1 := Res3.new w (.int .i64 0) (.slice none 0 0) (.int .i64 0) 24
  have e1 : (w.alloc (.cells #[.int .i64 0, .slice none 0 0, .int .i64 0] 24)).heap.size = w.heap.size + 1 := by simp
  generalize w.alloc (.cells #[.int .i64 0, .slice none 0 0, .int .i64 0] 24) = W1 at *
  have b2 := below_alloc (Below.refl W1.heap.size W1) (.cells #[.int .i64 10, .slice none 0 0, .int .i64 41357] 24)
  obtain ⟨q0, q1, q2⟩ := TBox.new W1 10 41357 0 0 none 24
  have qz : ∀ i, (W1.alloc (.cells #[.int .i64 10, .slice none 0 0, .int .i64 41357] 24)).frozen? ⟨W1.heap.size, i, none⟩ = false := fun i => by simp
  rw [e1] at q0 q1 q2 qz
  exact ⟨h1.below b2, q0, q1, q2, qz, World.ownsRow_nil _ _ _ _, bt b1 b2⟩
/-- what the law's table is -/
def MadeRet (w : World) (e : Ending) (w' : World) : Prop := ∃ (b u : Int) (n c : Nat) (p : Option Addr) (f : Nat → Int × Int), e = .returned (.agg #[.int .i64 b, .slice p n c, .int .i64 u]) ∧ TabOk b u n f ∧ n ≤ 12 ∧ n ≤ c ∧ c ≤ maxLen ∧ LpIn w' f n p ∧ Below w.heap.size w w'

set_option maxRecDepth 100000 in
set_option maxHeartbeats 2000000 in
theorem Made_any (g : Nat → Int) (nl cl : Nat) (pl : Option Addr) (w : World) (hw : Mon w) (hl : ByIn w g nl pl) (hm : nl ≤ maxLen) :
    Calls Tryd.prog 7 #[.slice pl nl cl] w (MadeRet w) := by
  obtain ⟨i0, hi0, hz0, hz1, hz2⟩ := info_parts infoLeap
  have HC := Lib.hid (md_start w (fun _ => (0, 0)))
  have HL := Lib.hid hl
  have HW := Lib.hid hw
  have HML := Lib.hid hm
  have hml : nl ≤ 9223372036854775807 := by unfold maxLen at hm; omega
  clear hl hw hm
  go_enter Tryd.func7, Tryd.ntmps7
  go_upto_region 4 with fail
  generalize (w.alloc (.cells #[.int .i64 0, .slice none 0 0, .int .i64 0] 24)).alloc (.cells #[.int .i64 10, .slice none 0 0, .int .i64 41357] 24) = W0 at *
  go_loopw [4, 5, 6, 7] (fun s4 s5 s6 s7 wr => ∃ (k a : Nat) (u : Int) (f : Nat → Int × Int) (v6 v7 v : Value), k ≤ 12 ∧ a ≤ 40 * k ∧ s4 = .int .i64 (a : Int) ∧ s5 = .int .i64 (2 * (k : Int)) ∧ s6 = v6 ∧ s7 = v7 ∧ Hid (MdAt w wr u k f v ∧ Grw u k f a)) (fun _ s _ _ _ => 24 - (intOf s).toNat)
  case atStart => exact ⟨0, 0, _, _, _, _, _, Nat.zero_le _, Nat.zero_le _, rfl, rfl, rfl, rfl, Lib.hid ⟨HC.out, Grw.nil _⟩⟩
  case round =>
    obtain ⟨k, a, u, f, v6, v7, v, hk, hak, rfl, rfl, rfl, rfl, HA⟩ := hrel
    have v1 : IntKind.i64.wrap (2 * (k : Int) + 1) = 2 * (k : Int) + 1 := IntWalk.i64_in _ (by omega)
    have v2 : IntKind.i64.wrap (2 * (k : Int) + 2) = 2 * ((k + 1 : Nat) : Int) := by rw [IntWalk.i64_in _ (by omega)]; omega
    by_cases hlt : 2 * k + 1 < nl
    · have hki : 2 * (k : Int) + 1 < nl := by omega
      by_cases h12 : k < 12
      · have h24 : 2 * (k : Int) < 24 := by omega
        obtain ⟨bb, oo, rfl, hsi⟩ := HL.out.resolve_left (by omega)
        obtain ⟨y0, xb⟩ := (hsi (2 * k) (by omega))
        obtain ⟨y1, yb⟩ := (hsi (2 * k + 1) (by omega))
        have HYW := Lib.hid y1
        have y0 := cell_below HA.out.1.bel y0
        have y1 := cell_below HA.out.1.bel y1
        generalize g (2 * k) = x at *
        generalize g (2 * k + 1) = y at *
        have ti0 : (2 * (k : Int)).toNat = 2 * k := by omega
        have ti1 : (2 * (k : Int) + 1).toNat = 2 * k + 1 := by omega
        obtain ⟨a', ha'⟩ : ∃ a' : Nat, (a : Int) + (1 + x % 40) = (a' : Int) := ⟨a + (1 + (x % 40).toNat), by omega⟩
        have hal : a < a' ∧ a' ≤ 40 * (k + 1) := by omega
        have HM := Lib.hid (fun X hX => monthEnd_any a' X hX (by omega))
        rw [← ha'] at HM
        have hd := mE_bd (n := a') (by omega)
        have HG := Lib.hid (fun s hs => HA.out.2.put (n := k) (by omega) hal.1 (by omega) (s := s) (x := y) hs yb.1)
        have HAK := Lib.hid (show k + 1 ≤ 12 ∧ a' ≤ 40 * (k + 1) ∧ (a : Int) + (1 + x % 40) = (a' : Int) by omega)
        generalize mE a' = dd at *
        obtain ⟨uu, hu⟩ : ∃ uu, (if 88069 < dd + 1 + y then 88069 else dd + 1 + y) = uu := ⟨_, rfl⟩
        rw [hu] at HG
        have hn0 : ¬ dd < 0 := by omega
        have HK := Lib.hid hlt
        clear hsi ha' hal
        by_cases h4 : y % 4 = 0
        · go_upto_region 12 with (go_at_call 31; refine (HM.out _ (HW.out.below HA.out.1.bel)).mono ?_; rintro e w' ⟨rfl, rfl⟩)
          have q1 := HA.out.1.q1
          have zq := cell_lt q1
          have qz := HA.out.1.qz 1
          clear y0 y1
          go_upto_region 13 with (at_builtin; refine wpList_append_own_at _ rfl _ _ _ rfl (w.heap.size + 1 + 1) 81 i0 (.agg #[.int .i64 0, .int .i64 0]) 2 16 Tryd.underlying22 hi0 hz0 hz1 hz2 rfl (by decide) _ k _ rfl (HA.out.1.own.alloc _) ⟨wr.heap.size, 0, none⟩ 1 1 [.int .i64 dd, .int .i64 (-1)] rfl rfl (two_new _ _ _ _) (by simp [Value.oneCell']) (by unfold maxLen; omega) (by omega) (by have := cell_lt HA.out.1.q0; simp; omega) ?_; intro v' w2 hown hg _ _; obtain ⟨g', cap', rfl⟩ := ownsRow_succ hown; have HA2 := Lib.hid ((HA.out.1.below (below_alloc (Below.refl _ _) _)).more (dd, (-1)) hown hg); have q2 := grownO_cell hg (cell_below (below_alloc (Below.refl _ _) _) q1) (fun e => by have := own_geS HA.out.1.own e.symm; omega); have zq2 := cell_lt q2; have qz2 := grownO_frozen hg (by have := cell_lt q1; simp; omega) (fun e => by have := own_geS HA.out.1.own e.symm; omega) ((below_alloc (Below.refl wr.heap.size wr) _).frozen (p := ⟨w.heap.size + 1, 1, none⟩) (cell_lt q1) |>.trans qz); clear hown hg)
          clear q1 zq qz
          generalize w2.setCell ⟨w.heap.size + 1, 1, none⟩ (.slice (some ⟨g', 0, none⟩) (k + 1) cap') = W3 at *
          clear q2 zq2 qz2
          have y1 := cell_below HA2.out.bel HYW.out
          have q2 := HA2.out.q2
          have zq := cell_lt q2
          have qz := HA2.out.qz 2
          go_wp2_with fail
          go_roundw
          case rel => exact ⟨k + 1, a', uu, _, _, _, _, HAK.out.1, HAK.out.2.1, congrArg (Value.int .i64) HAK.out.2.2, congrArg (Value.int .i64) (by omega), rfl, rfl, Lib.hid ⟨by first | exact HA2.out.till uu | (have := HA2.out.till uu; simpa [hu] using this), HG.out (-1) (by decide)⟩⟩
          case measure => simp [intOf]; omega
        · go_upto_region 12 with (go_at_call 31; refine (HM.out _ (HW.out.below HA.out.1.bel)).mono ?_; rintro e w' ⟨rfl, rfl⟩)
          have q1 := HA.out.1.q1
          have zq := cell_lt q1
          have qz := HA.out.1.qz 1
          clear y0 y1
          go_upto_region 13 with (at_builtin; refine wpList_append_own_at _ rfl _ _ _ rfl (w.heap.size + 1 + 1) 81 i0 (.agg #[.int .i64 0, .int .i64 0]) 2 16 Tryd.underlying22 hi0 hz0 hz1 hz2 rfl (by decide) _ k _ rfl (HA.out.1.own.alloc _) ⟨wr.heap.size, 0, none⟩ 1 1 [.int .i64 dd, .int .i64 (1)] rfl rfl (two_new _ _ _ _) (by simp [Value.oneCell']) (by unfold maxLen; omega) (by omega) (by have := cell_lt HA.out.1.q0; simp; omega) ?_; intro v' w2 hown hg _ _; obtain ⟨g', cap', rfl⟩ := ownsRow_succ hown; have HA2 := Lib.hid ((HA.out.1.below (below_alloc (Below.refl _ _) _)).more (dd, (1)) hown hg); have q2 := grownO_cell hg (cell_below (below_alloc (Below.refl _ _) _) q1) (fun e => by have := own_geS HA.out.1.own e.symm; omega); have zq2 := cell_lt q2; have qz2 := grownO_frozen hg (by have := cell_lt q1; simp; omega) (fun e => by have := own_geS HA.out.1.own e.symm; omega) ((below_alloc (Below.refl wr.heap.size wr) _).frozen (p := ⟨w.heap.size + 1, 1, none⟩) (cell_lt q1) |>.trans qz); clear hown hg)
          clear q1 zq qz
          generalize w2.setCell ⟨w.heap.size + 1, 1, none⟩ (.slice (some ⟨g', 0, none⟩) (k + 1) cap') = W3 at *
          clear q2 zq2 qz2
          have y1 := cell_below HA2.out.bel HYW.out
          have q2 := HA2.out.q2
          have zq := cell_lt q2
          have qz := HA2.out.qz 2
          go_wp2_with fail
          go_roundw
          case rel => exact ⟨k + 1, a', uu, _, _, _, _, HAK.out.1, HAK.out.2.1, congrArg (Value.int .i64) HAK.out.2.2, congrArg (Value.int .i64) (by omega), rfl, rfl, Lib.hid ⟨by first | exact HA2.out.till uu | (have := HA2.out.till uu; simpa [hu] using this), HG.out (1) (by decide)⟩⟩
          case measure => simp [intOf]; omega
      · have h24 : ¬ 2 * (k : Int) < 24 := by omega
        have h0 : (0 : Int) < nl := by omega
        obtain ⟨p, c, rfl, hc1, hc2, hlp, hge⟩ := own_leaps HA.out.1.own
        have HP := Lib.hid (And.intro (And.intro hc1 hc2) (And.intro hlp hge))
        clear hc1 hc2 hlp hge
        obtain ⟨bb, oo, rfl, hsi⟩ := HL.out.resolve_left (by omega)
        obtain ⟨y0, xb⟩ := (hsi 0 (by omega))
        have y0 := cell_below HA.out.1.bel y0
        rw [Nat.add_zero] at y0
        generalize g 0 = x at *
        clear hsi
        have q0 := HA.out.1.q0
        have q1 := HA.out.1.q1
        have q2 := HA.out.1.q2
        have zq := cell_lt q0
        have qz := HA.out.1.qz 0
        obtain ⟨⟨r0v, r0⟩, ⟨r1v, r1⟩, ⟨r2v, r2⟩, rz⟩ := HA.out.1.r
        have z0 := rz 0
        have z1 := rz 1
        have z2 := rz 2
        clear rz
        go_wp2_with fail
        refine bodyPost_ret (v := .agg #[.int .i64 (x % 100), .slice p k c, .int .i64 u]) (by simp [results, Tryd.results7, go_sem, r0, r1, r2]) rfl ⟨_, _, _, _, _, _, rfl, HA.out.2.base (by omega), hk, HP.out.1.1, HP.out.1.2, ?_, ?_⟩
        · have ne0 : ∀ b o, p = some ⟨b, o, none⟩ → b ≠ w.heap.size := fun b o e => by have := HP.out.2.2 b o e; omega
          have ne1 : ∀ b o, p = some ⟨b, o, none⟩ → b ≠ w.heap.size + 1 := fun b o e => by have := HP.out.2.2 b o e; omega
          exact (((HP.out.2.1.set ne1).set ne0).set ne0).set ne0
        · have st : ∀ (X : World) (a o : Nat) (v : Value), w.heap.size ≤ a → Below w.heap.size w X → Below w.heap.size w (X.setCell ⟨a, o, none⟩ v) := fun X a o v ha h => h.setCell (p := ⟨a, o, none⟩) ha _
          exact st _ _ _ _ (by omega) (st _ _ _ _ (by omega) (st _ _ _ _ (by omega) (st _ _ _ _ (by omega) HA.out.1.bel)))
    · have hki : ¬ 2 * (k : Int) + 1 < nl := by omega
      by_cases h0n : 0 < nl
      · have h0 : (0 : Int) < nl := by omega
        obtain ⟨p, c, rfl, hc1, hc2, hlp, hge⟩ := own_leaps HA.out.1.own
        have HP := Lib.hid (And.intro (And.intro hc1 hc2) (And.intro hlp hge))
        clear hc1 hc2 hlp hge
        obtain ⟨bb, oo, rfl, hsi⟩ := HL.out.resolve_left (by omega)
        obtain ⟨y0, xb⟩ := (hsi 0 (by omega))
        have y0 := cell_below HA.out.1.bel y0
        rw [Nat.add_zero] at y0
        generalize g 0 = x at *
        clear hsi
        have q0 := HA.out.1.q0
        have q1 := HA.out.1.q1
        have q2 := HA.out.1.q2
        have zq := cell_lt q0
        have qz := HA.out.1.qz 0
        obtain ⟨⟨r0v, r0⟩, ⟨r1v, r1⟩, ⟨r2v, r2⟩, rz⟩ := HA.out.1.r
        have z0 := rz 0
        have z1 := rz 1
        have z2 := rz 2
        clear rz
        go_wp2_with fail
        refine bodyPost_ret (v := .agg #[.int .i64 (x % 100), .slice p k c, .int .i64 u]) (by simp [results, Tryd.results7, go_sem, r0, r1, r2]) rfl ⟨_, _, _, _, _, _, rfl, HA.out.2.base (by omega), hk, HP.out.1.1, HP.out.1.2, ?_, ?_⟩
        · have ne0 : ∀ b o, p = some ⟨b, o, none⟩ → b ≠ w.heap.size := fun b o e => by have := HP.out.2.2 b o e; omega
          have ne1 : ∀ b o, p = some ⟨b, o, none⟩ → b ≠ w.heap.size + 1 := fun b o e => by have := HP.out.2.2 b o e; omega
          exact (((HP.out.2.1.set ne1).set ne0).set ne0).set ne0
        · have st : ∀ (X : World) (a o : Nat) (v : Value), w.heap.size ≤ a → Below w.heap.size w X → Below w.heap.size w (X.setCell ⟨a, o, none⟩ v) := fun X a o v ha h => h.setCell (p := ⟨a, o, none⟩) ha _
          exact st _ _ _ _ (by omega) (st _ _ _ _ (by omega) (st _ _ _ _ (by omega) (st _ _ _ _ (by omega) HA.out.1.bel)))
      · have h0 : ¬ (0 : Int) < nl := by omega
        obtain ⟨p, c, rfl, hc1, hc2, hlp, hge⟩ := own_leaps HA.out.1.own
        have HP := Lib.hid (And.intro (And.intro hc1 hc2) (And.intro hlp hge))
        clear hc1 hc2 hlp hge
        have q0 := HA.out.1.q0
        have q1 := HA.out.1.q1
        have q2 := HA.out.1.q2
        have zq := cell_lt q0
        obtain ⟨⟨r0v, r0⟩, ⟨r1v, r1⟩, ⟨r2v, r2⟩, rz⟩ := HA.out.1.r
        have z0 := rz 0
        have z1 := rz 1
        have z2 := rz 2
        have zr := cell_lt r0
        clear rz
        go_wp2_with fail
        refine bodyPost_ret (v := .agg #[.int .i64 (10), .slice p k c, .int .i64 u]) (by simp [results, Tryd.results7, go_sem, r0, r1, r2]) rfl ⟨_, _, _, _, _, _, rfl, HA.out.2.base (by decide), hk, HP.out.1.1, HP.out.1.2, ?_, ?_⟩
        · have ne0 : ∀ b o, p = some ⟨b, o, none⟩ → b ≠ w.heap.size := fun b o e => by have := HP.out.2.2 b o e; omega
          have ne1 : ∀ b o, p = some ⟨b, o, none⟩ → b ≠ w.heap.size + 1 := fun b o e => by have := HP.out.2.2 b o e; omega
          exact ((HP.out.2.1.set ne0).set ne0).set ne0
        · have st : ∀ (X : World) (a o : Nat) (v : Value), w.heap.size ≤ a → Below w.heap.size w X → Below w.heap.size w (X.setCell ⟨a, o, none⟩ v) := fun X a o v ha h => h.setCell (p := ⟨a, o, none⟩) ha _
          exact st _ _ _ _ (by omega) (st _ _ _ _ (by omega) (st _ _ _ _ (by omega) HA.out.1.bel))
end Go.Proofs.YtklhepgpepfgjaaDoor.Cal
