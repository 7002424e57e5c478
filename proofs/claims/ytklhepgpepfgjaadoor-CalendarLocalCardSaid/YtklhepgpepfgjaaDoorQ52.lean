/- Layer 9 (calendar): the zone that the law makes of numbers. -/
import Derived.Test.YtklhepgpepfgjaaDoorQ21
import Derived.Test.YtklhepgpepfgjaaDoorQ34
import Derived.Deep.AppendLies
namespace Go.Proofs.YtklhepgpepfgjaaDoor.Cal
open Go Go.RowKit
attribute [local go_sem] Oper.semAt_some
theorem infoChg : (Tryd.prog.info? 58).map (fun i => (i.zero, i.size, i.bytes)) = some (some (.agg #[.int .i64 0, .int .i64 0]), 2, 16) := by kernel_rfl
/-- a zone as it is made -/
structure ZdAt (w X : World) (o : Int) (n : Nat) (f : Nat → Int × Int) (v : Value) : Prop where
  r : Res2 X w.heap.size
  q0 : X.cell? ⟨w.heap.size + 1, 0, none⟩ = some (.int .i64 o)
  q1 : X.cell? ⟨w.heap.size + 1, 1, none⟩ = some v
  qz : ∀ i, X.frozen? ⟨w.heap.size + 1, i, none⟩ = false
  own : X.ownsRow (w.heap.size + 1 + 1) 58 2 v n (lv f n)
  bel : Below w.heap.size w X
theorem ZdAt.below {w X Y : World} {o : Int} {n : Nat} {f : Nat → Int × Int} {v : Value} (h : ZdAt w X o n f v) (hb : Below X.heap.size X Y) : ZdAt w Y o n f v :=
  ⟨h.r.below hb, cell_below hb h.q0, cell_below hb h.q1, fun i => (hb.frozen (p := ⟨w.heap.size + 1, i, none⟩) (cell_lt h.q0)).trans (h.qz i), own_keep h.own hb (Nat.le_refl _), bt h.bel hb⟩
theorem ZdAt.more {w X Y : World} {o : Int} {n : Nat} {f : Nat → Int × Int} {v v' : Value} (h : ZdAt w X o n f v) (x : Int × Int) (hown : Y.ownsRow (w.heap.size + 1 + 1) 58 2 v' (n + 1) (lv f n ++ [.int .i64 x.1, .int .i64 x.2])) (hg : X.grownBy Y v.ownBlock) :
    ZdAt w (Y.setCell ⟨w.heap.size + 1, 1, none⟩ v') o (n + 1) (putL f n x) v' := by
  rw [← lv_put] at hown
  have hge : ∀ j, v.ownBlock = some j → w.heap.size + 1 + 1 ≤ j := fun j hj => own_geS h.own hj
  have hge' : ∀ j, v'.ownBlock = some j → w.heap.size + 1 + 1 ≤ j := fun j hj => own_geS hown hj
  have ne : ∀ a, a < w.heap.size + 1 + 1 → some a ≠ v.ownBlock := fun a ha e => by have := hge a e.symm; omega
  have q1 := grownO_cell hg h.q1 (ne _ (by omega))
  have far : ∀ {a o : Nat} {x : Value}, a ≠ w.heap.size + 1 → Y.cell? ⟨a, o, none⟩ = some x → (Y.setCell ⟨w.heap.size + 1, 1, none⟩ v').cell? ⟨a, o, none⟩ = some x := fun {a o x} hne hx => by
    rw [World.cell?_setCell_far _ _ _ _ (Ne.symm hne)]; exact hx
  have oth : ∀ {o : Nat} {x : Value}, o ≠ 1 → Y.cell? ⟨w.heap.size + 1, o, none⟩ = some x → (Y.setCell ⟨w.heap.size + 1, 1, none⟩ v').cell? ⟨w.heap.size + 1, o, none⟩ = some x := fun {o x} hne hx => by
    rw [World.cell?_setCell_other _ ⟨w.heap.size + 1, 1, none⟩ ⟨w.heap.size + 1, o, none⟩ _ (fun e => hne (by cases e; rfl))]; exact hx
  refine ⟨⟨?_, ?_, fun i => ?_⟩, oth (by decide) (grownO_cell hg h.q0 (ne _ (by omega))), World.cell?_setCell_same _ _ _ q1,
    fun i => by rw [World.frozen?_setCell]; exact grownO_frozen hg (cell_lt h.q0) (ne _ (by omega)) (h.qz i),
    own_set hown _ (fun e => by have h5 : w.heap.size + 1 + 1 ≤ w.heap.size + 1 := hge' _ e; omega), ?_⟩
  · obtain ⟨u, hu⟩ := h.r.r0
    exact ⟨u, far (by omega) (grownO_cell hg hu (ne _ (by omega)))⟩
  · obtain ⟨u, hu⟩ := h.r.r1
    exact ⟨u, far (by omega) (grownO_cell hg hu (ne _ (by omega)))⟩
  · rw [World.frozen?_setCell]; exact grownO_frozen hg h.r.lt (ne _ (by omega)) (h.r.z i)
  exact (Below.grown h.bel hg h.bel.size (fun j hj => by have := hge j hj; omega)).setCell (p := ⟨w.heap.size + 1, 1, none⟩) (by show w.heap.size ≤ w.heap.size + 1; omega) _
theorem ZdAt.off {w X : World} {o : Int} {n : Nat} {f : Nat → Int × Int} {v : Value} (h : ZdAt w X o n f v) (o' : Int) : ZdAt w (X.setCell ⟨w.heap.size + 1, 0, none⟩ (.int .i64 o')) o' n f v := by
  have hge : ∀ j, v.ownBlock = some j → w.heap.size + 1 + 1 ≤ j := fun j hj => own_geS h.own hj
  have oth : ∀ {o : Nat} {x : Value}, o ≠ 0 → X.cell? ⟨w.heap.size + 1, o, none⟩ = some x → (X.setCell ⟨w.heap.size + 1, 0, none⟩ (.int .i64 o')).cell? ⟨w.heap.size + 1, o, none⟩ = some x := fun {o x} hne hx => by
    rw [World.cell?_setCell_other _ ⟨w.heap.size + 1, 0, none⟩ ⟨w.heap.size + 1, o, none⟩ _ (fun e => hne (by cases e; rfl))]; exact hx
  refine ⟨⟨h.r.r0.imp fun _ e => farC (by omega) e, h.r.r1.imp fun _ e => farC (by omega) e, fun i => by rw [World.frozen?_setCell]; exact h.r.z i⟩,
    World.cell?_setCell_same _ _ _ h.q0, oth (by decide) h.q1, fun i => by rw [World.frozen?_setCell]; exact h.qz i,
    own_set h.own _ (fun e => by have h5 : w.heap.size + 1 + 1 ≤ w.heap.size + 1 := hge _ e; omega), ?_⟩
  exact h.bel.setCell (p := ⟨w.heap.size + 1, 0, none⟩) (by show w.heap.size ≤ w.heap.size + 1; omega) _
theorem zd_start (w : World) (f : Nat → Int × Int) : ZdAt w ((w.alloc (.cells #[.int .i64 0, .slice none 0 0] 27)).alloc (.cells #[.int .i64 0, .slice none 0 0] 27)) 0 0 f (.slice none 0 0) := by
  have b1 := below_alloc (Below.refl w.heap.size w) (.cells #[.int .i64 0, .slice none 0 0] 27)
  have h1 := Res2.new w (.int .i64 0) (.slice none 0 0) 27
  have e1 : (w.alloc (.cells #[.int .i64 0, .slice none 0 0] 27)).heap.size = w.heap.size + 1 := by simp
  generalize w.alloc (.cells #[.int .i64 0, .slice none 0 0] 27) = W1 at *
  have b2 := below_alloc (Below.refl W1.heap.size W1) (.cells #[.int .i64 0, .slice none 0 0] 27)
  obtain ⟨q0, q1⟩ := ZBox.new W1 0 0 0 none 27
  have qz : ∀ i, (W1.alloc (.cells #[.int .i64 0, .slice none 0 0] 27)).frozen? ⟨W1.heap.size, i, none⟩ = false := fun i => by simp
  rw [e1] at q0 q1 qz
  exact ⟨h1.below b2, q0, q1, qz, World.ownsRow_nil _ _ _ _, bt b1 b2⟩
/-- what is known of the changes -/
structure GrZ (n : Nat) (f : Nat → Int × Int) (a : Nat) : Prop where
  ok : ∀ i, i < n → (-720 ≤ (f i).2 ∧ (f i).2 ≤ 720) ∧ 0 ≤ (f i).1 ∧ (f i).1 < a
  lt : ∀ i, i + 1 < n → (f i).1 < (f (i + 1)).1
theorem GrZ.put {n : Nat} {f : Nat → Int × Int} {a a' : Nat} (h : GrZ n f a) (haa : a < a') {x : Int} (hx : -720 ≤ x ∧ x ≤ 720) : GrZ (n + 1) (putL f n (a, x)) a' := by
  constructor
  · intro i hi
    by_cases e : i = n
    · subst e; rw [putL_at]; exact ⟨hx, by omega, by omega⟩
    · rw [putL_ne f n _ (by omega)]; have := h.ok i (by omega); exact ⟨this.1, this.2.1, by omega⟩
  · intro i hi
    by_cases e : i + 1 = n
    · subst e; rw [putL_at, putL_ne f _ _ (by omega)]; have := h.ok i (by omega); omega
    · rw [putL_ne f n _ (by omega), putL_ne f n _ (by omega)]; exact h.lt i (by omega)
theorem GrZ.zone {n : Nat} {f : Nat → Int × Int} {a : Nat} (h : GrZ n f a) (hn : n ≤ 10) {o : Int} (ho : -720 ≤ o ∧ o ≤ 720) : ZoneOk o n f :=
  ⟨by omega, by omega, fun i hi => by have := h.ok i hi; omega, h.lt⟩
def ZmRet (w : World) (e : Ending) (w' : World) : Prop := ∃ (o : Int) (n c : Nat) (p : Option Addr) (f : Nat → Int × Int), e = .returned (.agg #[.int .i64 o, .slice p n c]) ∧ ZoneOk o n f ∧ (∀ i, i < n → (f i).1 ≤ 9223372036854775807) ∧ LpIn w' f n p ∧ Below w.heap.size w w'
set_option maxRecDepth 100000 in
set_option maxHeartbeats 4000000 in
theorem zoned_any (g : Nat → Int) (nl cl : Nat) (pl : Option Addr) (s : Int) (hs : 0 ≤ s ∧ s ≤ 100000000000) (w : World) (hl : ByIn w g nl pl) (hm : nl ≤ maxLen) :
    Calls Tryd.prog 10 #[.slice pl nl cl, .int .i64 s] w (ZmRet w) := by
  obtain ⟨i0, hi0, hz0, hz1, hz2⟩ := info_parts infoChg
  have HC := Lib.hid (zd_start w (fun _ => (0, 0)))
  have HL := Lib.hid hl
  have hml : nl ≤ 9223372036854775807 := by unfold maxLen at hm; omega
  clear hl
  go_enter Tryd.func10, Tryd.ntmps10
  go_upto_region 2 with fail
  generalize (w.alloc (.cells #[.int .i64 0, .slice none 0 0] 27)).alloc (.cells #[.int .i64 0, .slice none 0 0] 27) = W0 at *
  have v0 : IntKind.i64.wrap (s - 20000) = s - 20000 := IntWalk.i64_in _ (by omega)
  by_cases h0 : 0 < nl
  · have h0i : (0 : Int) < nl := by omega
    obtain ⟨bb, oo, rfl, hsi⟩ := HL.out.resolve_left (by omega)
    obtain ⟨y0, xb⟩ := (hsi 0 (by omega))
    have y0 := cell_below HC.out.bel y0
    rw [Nat.add_zero] at y0
    have zy := cell_lt y0
    generalize g 0 = x at *
    have q0 := HC.out.q0
    have zq := cell_lt q0
    have qz := HC.out.qz 0
    go_upto_region 5 with fail
    have HS0 := Lib.hid (show ZdAt w (W0.setCell ⟨w.heap.size + 1, 0, none⟩ (.int .i64 (15 * (x % 97) - 720))) (15 * (x % 97) - 720) 0 (fun _ => (0, 0)) (.slice none 0 0) from HC.out.off _)
    obtain ⟨a0, ha0⟩ : ∃ a0 : Nat, (if s - 20000 < 0 then 0 else s - 20000) = (a0 : Int) := ⟨(if s - 20000 < 0 then 0 else s - 20000).toNat, by split <;> omega⟩
    rw [ha0]
    have hab : a0 ≤ 100000000000 := by split at ha0 <;> omega
    clear ha0 q0 zq qz
    generalize (W0.setCell ⟨w.heap.size + 1, 0, none⟩ (.int .i64 (15 * (x % 97) - 720))) = W1 at *
    go_wp2_with fail
    go_loopw [6, 7] (fun s6 s7 wr => ∃ (k a : Nat) (f : Nat → Int × Int) (v : Value), k ≤ 10 ∧ a ≤ 100000000000 + 10201 * k ∧ s6 = .int .i64 (a : Int) ∧ s7 = .int .i64 (2 * (k : Int) + 1) ∧ Hid (ZdAt w wr (15 * (x % 97) - 720) k f v ∧ GrZ k f a)) (fun _ s7 _ => 21 - (intOf s7).toNat)
    case atStart => exact ⟨0, a0, _, _, Nat.zero_le _, by omega, rfl, rfl, Lib.hid ⟨HS0.out, ⟨fun i hi => absurd hi (Nat.not_lt_zero i), fun i hi => absurd hi (by omega)⟩⟩⟩
    case round =>
      obtain ⟨k, a, f, v, hk, hak, rfl, rfl, HA⟩ := hrel
      have v1 : IntKind.i64.wrap (2 * (k : Int) + 1 + 1) = 2 * (k : Int) + 2 := by rw [IntWalk.i64_in _ (by omega)]; omega
      have v2 : IntKind.i64.wrap (2 * (k : Int) + 1 + 2) = 2 * ((k + 1 : Nat) : Int) + 1 := by rw [IntWalk.i64_in _ (by omega)]; omega
      by_cases hlt : 2 * k + 2 < nl
      · have hki : 2 * (k : Int) + 2 < nl := by omega
        have hki1 : 2 * (k : Int) + 1 < nl := by omega
        by_cases h10 : k < 10
        · have h21 : 2 * (k : Int) + 1 < 21 := by omega
          obtain ⟨bb2, oo2, hp2, hsi⟩ := HL.out.resolve_left (by omega)
          obtain ⟨rfl, rfl⟩ : bb2 = bb ∧ oo2 = oo := by cases hp2; exact ⟨rfl, rfl⟩
          obtain ⟨y1, xb1⟩ := (hsi (2 * k + 1) (by omega))
          obtain ⟨y2, xb2⟩ := (hsi (2 * k + 2) (by omega))
          have HY2 := Lib.hid y2
          have y1 := cell_below HA.out.1.bel y1
          generalize g (2 * k + 1) = x1 at *
          generalize g (2 * k + 2) = x2 at *
          have ti1 : (2 * (k : Int) + 1).toNat = 2 * k + 1 := by omega
          have ti2 : (2 * (k : Int) + 2).toNat = 2 * k + 2 := by omega
          have q1 := HA.out.1.q1
          have zq := cell_lt q1
          have qz := HA.out.1.qz 1
          have HK := Lib.hid hlt
          clear hsi
          go_upto_region 8 with fail
          obtain ⟨m1, tm1⟩ : ∃ m1, x1.tmod 97 = m1 := ⟨_, rfl⟩
          have hm1 : 0 ≤ m1 ∧ m1 ≤ 96 := by rw [← tm1, Int.tmod_eq_emod_of_nonneg xb1.1]; omega
          have w1 : IntKind.i64.wrap m1 = m1 := IntWalk.i64_in _ (by omega)
          have w2 : IntKind.i64.wrap (15 * m1) = 15 * m1 := IntWalk.i64_in _ (by omega)
          obtain ⟨oc, hoc⟩ : ∃ oc, 15 * m1 - 720 = oc := ⟨_, rfl⟩
          have hocb : -720 ≤ oc ∧ oc ≤ 720 := by omega
          have w3 : IntKind.i64.wrap (15 * m1 - 720) = oc := by rw [hoc]; exact IntWalk.i64_in _ (by omega)
          have HOC := Lib.hid hocb
          clear hoc hocb hm1
          have hbb : bb2 < w.heap.size := by
            rcases HL.out with e | ⟨b3, o3, e, hi⟩
            · omega
            · cases e; exact cell_lt (hi 0 (by omega)).1
          have HD := Lib.hid (HA.out.1.below (below_alloc (Below.drew (Below.refl wr.heap.size wr)) (.cells #[.int .i64 (a : Int), .int .i64 oc] 58)))
          have hp1 : (0 : Int) ≤ 2 * (k : Int) + 1 := by omega
          have HD := HD
          refine wp_region_held_drew (S := (fun w' => w'.cell? ⟨bb2, oo2 + (2 * k + 1), none⟩ = some (.int .u8 x1))) (by kernel_rfl) y1 (fun hHeld => ?_)
          refine wpAnyH_take (i := 0) (v := ?_) rfl (by kernel_rfl) (by kernel_rfl) (by kernel_rfl) (fun _ _ _ h => h) (Or.inl ⟨by rfl, ?_⟩) (by assumption) ?_
          rotate_left
          · intro w hSw; (try dsimp only at hSw); go_simp; try with_reducible rfl
          simp only [Act.put, List.getElem_toArray, List.getElem_cons_zero, List.setIfInBounds_toArray, List.set_cons_zero, List.set_cons_succ]
          refine wpAnyH_take (i := 2) (v := ?_) rfl (by kernel_rfl) (by kernel_rfl) (by kernel_rfl) (fun _ _ _ h => h) (Or.inl ⟨by rfl, ?_⟩) (by assumption) ?_
          rotate_left
          · intro w hSw; (try dsimp only at hSw); go_simp; try with_reducible rfl
          simp only [Act.put, List.getElem_toArray, List.getElem_cons_succ, List.getElem_cons_zero, List.setIfInBounds_toArray, List.set_cons_zero, List.set_cons_succ]
          refine wpAnyH_take (i := 3) (v := ?_) rfl (by kernel_rfl) (by kernel_rfl) (by kernel_rfl) (fun _ _ _ h => h) (Or.inl ⟨by rfl, ?_⟩) (by assumption) ?_
          rotate_left
          · intro w hSw; (try dsimp only at hSw); go_simp; try with_reducible rfl
          simp only [Act.put, List.getElem_toArray, List.getElem_cons_succ, List.getElem_cons_zero, List.setIfInBounds_toArray, List.set_cons_zero, List.set_cons_succ]
          refine wpAnyH_take (i := 4) (v := ?_) rfl (by kernel_rfl) (by kernel_rfl) (by kernel_rfl) (fun _ _ _ h => h) (Or.inl ⟨by rfl, ?_⟩) (by assumption) ?_
          rotate_left
          · intro w hSw; (try dsimp only at hSw); go_simp; try with_reducible rfl
          simp only [Act.put, List.getElem_toArray, List.getElem_cons_succ, List.getElem_cons_zero, List.setIfInBounds_toArray, List.set_cons_zero, List.set_cons_succ]
          refine wpAnyH_take (i := 5) (v := ?_) rfl (by kernel_rfl) (by kernel_rfl) (by kernel_rfl) (fun _ _ _ h => h) (Or.inl ⟨by rfl, ?_⟩) (by assumption) ?_
          rotate_left
          · intro w hSw; (try dsimp only at hSw); go_simp; try with_reducible rfl
          simp only [Act.put, List.getElem_toArray, List.getElem_cons_succ, List.getElem_cons_zero, List.setIfInBounds_toArray, List.set_cons_zero, List.set_cons_succ]
          refine wpAnyH_take (i := 6) (v := ?_) rfl (by kernel_rfl) (by kernel_rfl) (by kernel_rfl) (fun _ _ _ h => h) (Or.inl ⟨by rfl, ?_⟩) (by assumption) ?_
          rotate_left
          · intro w hSw; (try dsimp only at hSw); go_simp; try with_reducible rfl
          simp only [Act.put, List.getElem_toArray, List.getElem_cons_succ, List.getElem_cons_zero, List.setIfInBounds_toArray, List.set_cons_zero, List.set_cons_succ]
          refine wpAnyH_take (i := 7) (v := ?_) rfl (by kernel_rfl) (by kernel_rfl) (by kernel_rfl) (fun _ _ _ h => h) (Or.inl ⟨by rfl, ?_⟩) (by assumption) ?_
          rotate_left
          · intro w hSw; (try dsimp only at hSw); go_simp; try with_reducible rfl
          simp only [Act.put, List.getElem_toArray, List.getElem_cons_succ, List.getElem_cons_zero, List.setIfInBounds_toArray, List.set_cons_zero, List.set_cons_succ]
          refine wpAnyH_take (i := 8) (v := ?_) rfl (by kernel_rfl) (by kernel_rfl) (by kernel_rfl) (fun _ _ _ h => h) (Or.inl ⟨by rfl, ?_⟩) (by assumption) ?_
          rotate_left
          · intro w hSw; (try dsimp only at hSw); go_simp; try with_reducible rfl
          simp only [Act.put, List.getElem_toArray, List.getElem_cons_succ, List.getElem_cons_zero, List.setIfInBounds_toArray, List.set_cons_zero, List.set_cons_succ]
          refine wpAnyH_take (i := 9) (v := ?_) rfl (by kernel_rfl) (by kernel_rfl) (by kernel_rfl) (fun _ _ _ h => h) (Or.inl ⟨by rfl, ?_⟩) (by assumption) ?_
          rotate_left
          · intro w hSw; (try dsimp only at hSw); go_simp; try with_reducible rfl
          simp only [Act.put, List.getElem_toArray, List.getElem_cons_succ, List.getElem_cons_zero, List.setIfInBounds_toArray, List.set_cons_zero, List.set_cons_succ]
          refine wpAnyH_take (i := 10) (v := ?_) rfl (by kernel_rfl) (by kernel_rfl) (by kernel_rfl) (fun _ _ _ h => h) (Or.inl ⟨by rfl, ?_⟩) (by assumption) ?_
          rotate_left
          · intro w hSw; (try dsimp only at hSw); go_simp; try with_reducible rfl
          simp only [Act.put, List.getElem_toArray, List.getElem_cons_succ, List.getElem_cons_zero, List.setIfInBounds_toArray, List.set_cons_zero, List.set_cons_succ]
          refine wpAnyH_take (i := 11) (v := ?_) rfl (by kernel_rfl) (by kernel_rfl) (by kernel_rfl) (fun _ _ _ h => h) (Or.inl ⟨by rfl, ?_⟩) (by assumption) ?_
          rotate_left
          · intro w hSw; (try dsimp only at hSw); go_simp; try with_reducible rfl
          simp only [Act.put, List.getElem_toArray, List.getElem_cons_succ, List.getElem_cons_zero, List.setIfInBounds_toArray, List.set_cons_zero, List.set_cons_succ]
          refine wpAnyH_ready (rs := [1, 12]) (by kernel_rfl) (by simp) ?_
          refine AllReadyH.cons rfl (fun K hK => ?_) (AllReadyH.cons rfl (fun K hK => ?_) AllReadyH.nil)
          · skip
            have q1d : wr.drew.cell? ⟨w.heap.size + 1, 1, none⟩ = some v := q1
            go_simp
            refine hK.out _ _ y1 (fun hHeld1 => ?_)
            clear hK K
            refine wpAnyH_ready (rs := [12]) (by kernel_rfl) (by simp) ?_
            refine AllReadyH.cons rfl (fun K hK => ?_) AllReadyH.nil
            go_simp
            refine hK.out _ _ (cell_below (below_alloc (Below.refl wr.drew.heap.size wr.drew) _) y1) (fun hHeldm => ?_)
            clear hK K
            refine wpAnyH_ready (rs := [13]) (by kernel_rfl) (by simp) ?_
            refine AllReadyH.cons rfl (fun K hK => ?_) AllReadyH.nil
            (refine step_append_lies _ rfl (.tmp 34) (.tmp 45) _ rfl (w.heap.size + 1 + 1) 58 i0 (.agg #[.int .i64 0, .int .i64 0]) 2 16 Tryd.underlying25 hi0 hz0 hz1 hz2 rfl (by decide) _ k _ rfl (World.ownsRow.alloc (w := wr.drew) HA.out.1.own _) ⟨_, 0, none⟩ 1 1 [.int .i64 (a : Int), .int .i64 oc] rfl rfl (two_new _ _ _ _) (by simp [Value.oneCell']) (by decide) (by unfold maxLen; omega) (by omega) (by have := cell_lt HA.out.1.q0; simp; omega) _ rfl ?_)
            intro gn cn z1 hown hg _ _
            have hy1z := grownO_cell hg (cell_below (below_alloc (Below.drew (Below.refl wr.heap.size wr)) _) y1) (fun e => by have := own_geS HA.out.1.own e.symm; omega)
            have q2 := grownO_cell hg HD.out.q1 (fun e => by have := own_geS HA.out.1.own e.symm; omega)
            have zq2 := cell_lt q2
            have qz2 := grownO_frozen hg (cell_lt HD.out.q1) (fun e => by have := own_geS HA.out.1.own e.symm; omega) (HD.out.qz 1)
            have HA2 := Lib.hid (HD.out.more (a, oc) hown hg)
            clear hown hg
            refine hK.out _ _ hy1z (fun hHeld2 => ?_)
            clear hK K
            simp only [Act.put, List.getElem_toArray, List.getElem_cons_succ, List.getElem_cons_zero, List.setIfInBounds_toArray, List.set_cons_zero, List.set_cons_succ]
            refine wpAnyH_take (i := 14) (v := ?_) rfl (by kernel_rfl) (by kernel_rfl) (by kernel_rfl) (fun _ _ _ h => h) (Or.inl ⟨by rfl, ?_⟩) (by assumption) ?_
            rotate_left
            · intro w hSw; (try dsimp only at hSw); go_simp; try with_reducible rfl
            simp only [Act.put, List.getElem_toArray, List.getElem_cons_succ, List.getElem_cons_zero, List.setIfInBounds_toArray, List.set_cons_zero, List.set_cons_succ]
            refine wpAnyH_ready (rs := [15]) (by kernel_rfl) (by simp) ?_
            refine AllReadyH.cons rfl (fun K hK => ?_) AllReadyH.nil
            go_simp
            refine hK.out _ _ (farC (by omega) hy1z) (fun hHeld3 => ?_)
            clear hK K
            refine wpAnyH_done (by kernel_rfl) ?_ _
            clear hy1z q2 zq2 qz2 hHeld hHeld2 hHeld3
            generalize z1.setCell ⟨w.heap.size + 1, 1, none⟩ (.slice (some ⟨gn, 0, none⟩) (k + 1) cn) = W3 at *
            clear q1 zq qz y1 w1 w2 w3 tm1
            have y2 := cell_below HA2.out.bel HY2.out
            have zy2 := cell_lt y2
            have hp2 : (0 : Int) ≤ 2 * (k : Int) + 2 := by omega
            have w4 : IntKind.i64.wrap (40 * x2) = 40 * x2 := IntWalk.i64_in _ (by omega)
            have w5 : IntKind.i64.wrap (1 + 40 * x2) = 1 + 40 * x2 := IntWalk.i64_in _ (by omega)
            obtain ⟨a', ha'⟩ : ∃ a' : Nat, (a : Int) + (1 + 40 * x2) = (a' : Int) := ⟨a + (1 + 40 * x2.toNat), by omega⟩
            have w6 : IntKind.i64.wrap ((a : Int) + (1 + 40 * x2)) = (a' : Int) := by rw [ha']; exact IntWalk.i64_in _ (by omega)
            have HG := Lib.hid (HA.out.2.put (n := k) (a' := a') (by omega) HOC.out)
            have HAK := Lib.hid (show k + 1 ≤ 10 ∧ a' ≤ 100000000000 + 10201 * (k + 1) by omega)
            clear ha'
            go_wp2_with fail
            go_roundw
            case rel => exact ⟨k + 1, a', _, _, HAK.out.1, HAK.out.2, rfl, by simp, Lib.hid ⟨HA2.out, HG.out⟩⟩
            case measure => simp [intOf]; omega
          · skip
            go_simp
            refine hK.out _ _ (cell_below (below_alloc (Below.refl wr.drew.heap.size wr.drew) _) y1) (fun hHeldm => ?_)
            clear hK K
            refine wpAnyH_ready (rs := [1]) (by kernel_rfl) (by simp) ?_
            refine AllReadyH.cons rfl (fun K hK => ?_) AllReadyH.nil
            have q1d := HD.out.q1
            go_simp
            refine hK.out _ _ (cell_below (below_alloc (Below.refl wr.drew.heap.size wr.drew) _) y1) (fun hHeld1 => ?_)
            clear hK K
            refine wpAnyH_ready (rs := [13]) (by kernel_rfl) (by simp) ?_
            refine AllReadyH.cons rfl (fun K hK => ?_) AllReadyH.nil
            (refine step_append_lies _ rfl (.tmp 34) (.tmp 45) _ rfl (w.heap.size + 1 + 1) 58 i0 (.agg #[.int .i64 0, .int .i64 0]) 2 16 Tryd.underlying25 hi0 hz0 hz1 hz2 rfl (by decide) _ k _ rfl (World.ownsRow.alloc (w := wr.drew) HA.out.1.own _) ⟨_, 0, none⟩ 1 1 [.int .i64 (a : Int), .int .i64 oc] rfl rfl (two_new _ _ _ _) (by simp [Value.oneCell']) (by decide) (by unfold maxLen; omega) (by omega) (by have := cell_lt HA.out.1.q0; simp; omega) _ rfl ?_)
            intro gn cn z1 hown hg _ _
            have hy1z := grownO_cell hg (cell_below (below_alloc (Below.drew (Below.refl wr.heap.size wr)) _) y1) (fun e => by have := own_geS HA.out.1.own e.symm; omega)
            have q2 := grownO_cell hg HD.out.q1 (fun e => by have := own_geS HA.out.1.own e.symm; omega)
            have zq2 := cell_lt q2
            have qz2 := grownO_frozen hg (cell_lt HD.out.q1) (fun e => by have := own_geS HA.out.1.own e.symm; omega) (HD.out.qz 1)
            have HA2 := Lib.hid (HD.out.more (a, oc) hown hg)
            clear hown hg
            refine hK.out _ _ hy1z (fun hHeld2 => ?_)
            clear hK K
            simp only [Act.put, List.getElem_toArray, List.getElem_cons_succ, List.getElem_cons_zero, List.setIfInBounds_toArray, List.set_cons_zero, List.set_cons_succ]
            refine wpAnyH_take (i := 14) (v := ?_) rfl (by kernel_rfl) (by kernel_rfl) (by kernel_rfl) (fun _ _ _ h => h) (Or.inl ⟨by rfl, ?_⟩) (by assumption) ?_
            rotate_left
            · intro w hSw; (try dsimp only at hSw); go_simp; try with_reducible rfl
            simp only [Act.put, List.getElem_toArray, List.getElem_cons_succ, List.getElem_cons_zero, List.setIfInBounds_toArray, List.set_cons_zero, List.set_cons_succ]
            refine wpAnyH_ready (rs := [15]) (by kernel_rfl) (by simp) ?_
            refine AllReadyH.cons rfl (fun K hK => ?_) AllReadyH.nil
            go_simp
            refine hK.out _ _ (farC (by omega) hy1z) (fun hHeld3 => ?_)
            clear hK K
            refine wpAnyH_done (by kernel_rfl) ?_ _
            clear hy1z q2 zq2 qz2 hHeld hHeld2 hHeld3
            generalize z1.setCell ⟨w.heap.size + 1, 1, none⟩ (.slice (some ⟨gn, 0, none⟩) (k + 1) cn) = W3 at *
            clear q1 zq qz y1 w1 w2 w3 tm1
            have y2 := cell_below HA2.out.bel HY2.out
            have zy2 := cell_lt y2
            have hp2 : (0 : Int) ≤ 2 * (k : Int) + 2 := by omega
            have w4 : IntKind.i64.wrap (40 * x2) = 40 * x2 := IntWalk.i64_in _ (by omega)
            have w5 : IntKind.i64.wrap (1 + 40 * x2) = 1 + 40 * x2 := IntWalk.i64_in _ (by omega)
            obtain ⟨a', ha'⟩ : ∃ a' : Nat, (a : Int) + (1 + 40 * x2) = (a' : Int) := ⟨a + (1 + 40 * x2.toNat), by omega⟩
            have w6 : IntKind.i64.wrap ((a : Int) + (1 + 40 * x2)) = (a' : Int) := by rw [ha']; exact IntWalk.i64_in _ (by omega)
            have HG := Lib.hid (HA.out.2.put (n := k) (a' := a') (by omega) HOC.out)
            have HAK := Lib.hid (show k + 1 ≤ 10 ∧ a' ≤ 100000000000 + 10201 * (k + 1) by omega)
            clear ha'
            go_wp2_with fail
            go_roundw
            case rel => exact ⟨k + 1, a', _, _, HAK.out.1, HAK.out.2, rfl, by simp, Lib.hid ⟨HA2.out, HG.out⟩⟩
            case measure => simp [intOf]; omega
        · have h21 : ¬ 2 * (k : Int) + 1 < 21 := by omega
          obtain ⟨p, c, rfl, -, -, hlp, hge⟩ := own_leaps HA.out.1.own
          have HP := Lib.hid (And.intro hlp hge)
          clear hlp hge
          have q0 := HA.out.1.q0
          have q1 := HA.out.1.q1
          have zq := cell_lt q0
          obtain ⟨⟨r0v, r0⟩, ⟨r1v, r1⟩, rz⟩ := HA.out.1.r
          have z0 := rz 0
          have z1 := rz 1
          have zr := cell_lt r0
          clear rz
          go_wp2_with fail
          refine bodyPost_ret (v := .agg #[.int .i64 (15 * (x % 97) - 720), .slice p k c]) (by simp [results, Tryd.results10, go_sem, r0, r1]) rfl ⟨_, _, _, _, _, rfl, HA.out.2.zone hk (by omega), fun i hi => by have := HA.out.2.ok i hi; omega, ?_, ?_⟩
          · have ne0 : ∀ b o, p = some ⟨b, o, none⟩ → b ≠ w.heap.size := fun b o e => by have := HP.out.2 b o e; omega
            exact (HP.out.1.set ne0).set ne0
          · exact (HA.out.1.bel.setCell (p := ⟨w.heap.size, _, none⟩) (Nat.le_refl _) _).setCell (p := ⟨w.heap.size, _, none⟩) (Nat.le_refl _) _
      · have hki : ¬ 2 * (k : Int) + 2 < nl := by omega
        obtain ⟨p, c, rfl, -, -, hlp, hge⟩ := own_leaps HA.out.1.own
        have HP := Lib.hid (And.intro hlp hge)
        clear hlp hge
        have q0 := HA.out.1.q0
        have q1 := HA.out.1.q1
        have zq := cell_lt q0
        obtain ⟨⟨r0v, r0⟩, ⟨r1v, r1⟩, rz⟩ := HA.out.1.r
        have z0 := rz 0
        have z1 := rz 1
        have zr := cell_lt r0
        clear rz
        go_wp2_with fail
        refine bodyPost_ret (v := .agg #[.int .i64 (15 * (x % 97) - 720), .slice p k c]) (by simp [results, Tryd.results10, go_sem, r0, r1]) rfl ⟨_, _, _, _, _, rfl, HA.out.2.zone hk (by omega), fun i hi => by have := HA.out.2.ok i hi; omega, ?_, ?_⟩
        · have ne0 : ∀ b o, p = some ⟨b, o, none⟩ → b ≠ w.heap.size := fun b o e => by have := HP.out.2 b o e; omega
          exact (HP.out.1.set ne0).set ne0
        · exact (HA.out.1.bel.setCell (p := ⟨w.heap.size, _, none⟩) (Nat.le_refl _) _).setCell (p := ⟨w.heap.size, _, none⟩) (Nat.le_refl _) _
  · have h0i : ¬ (0 : Int) < nl := by omega
    have h2i : ¬ (2 : Int) < nl := by omega
    obtain rfl : nl = 0 := by omega
    obtain ⟨a0, ha0⟩ : ∃ a0 : Nat, (if s - 20000 < 0 then 0 else s - 20000) = (a0 : Int) := ⟨(if s - 20000 < 0 then 0 else s - 20000).toNat, by split <;> omega⟩
    go_upto_region 5 with fail
    go_wp2_with fail
    go_loopw [6, 7] (fun s6 s7 wr => s6 = .int .i64 (a0 : Int) ∧ s7 = .int .i64 1 ∧ Hid (ZdAt w wr 0 0 (fun _ => (0, 0)) (.slice none 0 0))) (fun _ _ _ => 0)
    case atStart => exact ⟨rfl, rfl, HC⟩
    case round =>
      obtain ⟨rfl, rfl, HA⟩ := hrel
      have q0 := HA.out.q0
      have q1 := HA.out.q1
      have zq := cell_lt q0
      obtain ⟨⟨r0v, r0⟩, ⟨r1v, r1⟩, rz⟩ := HA.out.r
      have z0 := rz 0
      have z1 := rz 1
      have zr := cell_lt r0
      clear rz
      have n20 : ¬ (2 : Int) < 0 := by decide
      go_wp2_with fail
      refine bodyPost_ret (v := .agg #[.int .i64 0, .slice none 0 0]) (by simp [results, Tryd.results10, go_sem, r0, r1]) rfl ⟨0, 0, 0, none, fun _ => (0, 0), rfl, ⟨by decide, by decide, fun i hi => absurd hi (Nat.not_lt_zero i), fun i hi => absurd hi (by omega)⟩, fun i hi => absurd hi (Nat.not_lt_zero i), .inl rfl, ?_⟩
      exact (HA.out.bel.setCell (p := ⟨w.heap.size, _, none⟩) (Nat.le_refl _) _).setCell (p := ⟨w.heap.size, _, none⟩) (Nat.le_refl _) _
end Go.Proofs.YtklhepgpepfgjaaDoor.Cal
