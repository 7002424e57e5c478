/- Stage 6 (steer): the chart. -/
import Derived.Test.YtiapimfmnmegpaaZcp
import Derived.WalkMore
namespace Go.Proofs.Ytiapimfmnmegpaa.St
open Go Go.RowKit Go.Shelf
attribute [local go_sem] Oper.semAt_some
def zerosV (n : Nat) : Array Value := madeCells #[.int .i64 0] n
theorem zeros_at (n i : Nat) (hi : i < n) : (zerosV n)[i]? = some (.int .i64 0) := by
  have h2 : (zerosV n)[i]? = (zerosV n).toList[i]? := Array.getElem?_toList.symm
  rw [h2]
  unfold zerosV
  rw [toList_madeCells_one, List.getElem?_replicate, if_pos hi]
theorem zeros_row (X : World) (n : Nat) : NumW (X.alloc (.cells (zerosV n) 3)) (fun _ => 0) n X.heap.size 0 :=
  ⟨fun i hi => ⟨by have := zeros_at n i hi; simp [this], by simp⟩, ⟨_, _, World.alloc_heap_new X _⟩⟩
/-- a law in its box may be written -/
structure CtlW (W : World) (B : Nat) : Prop where
  c : ∀ i, i < 5 → ∃ v, W.cell? ⟨B, i, none⟩ = some v
  z : ∀ i, W.frozen? ⟨B, i, none⟩ = false
/-- what the chart holds between its rounds -/
structure ChAt (w X : World) (l r s z : Int) (N Bc b : Nat) (f : Nat → Int) : Prop where
  num : NumW X f N b 0
  ctl : CtlAt X Bc l r s z (some ⟨b, 0, none⟩) N N
  res : CtlW X (w.heap.size + 1)
  b2 : w.heap.size + 2 ≤ b
  c2 : w.heap.size + 2 ≤ Bc
  ne : Bc ≠ b
  bel : Below w.heap.size w X
theorem CtlW.same {W X : World} {B : Nat} (h : CtlW W B) (e : X.heap[B]? = W.heap[B]?) : CtlW X B :=
  ⟨fun i hi => by obtain ⟨v, hv⟩ := h.c i hi; exact ⟨v, (World.cell?_of_block (a := ⟨B, i, none⟩) e).trans hv⟩, fun i => by rw [← h.z i]; simp only [World.frozen?, e]⟩
theorem CtlW.lt {W : World} {B : Nat} (h : CtlW W B) : B < W.heap.size := by obtain ⟨v, hv⟩ := h.c 0 (by decide); exact cell_lt hv
theorem ChAt.below {w X Y : World} {l r s z : Int} {N Bc b : Nat} {f : Nat → Int} (h : ChAt w X l r s z N Bc b f) (hb : Below X.heap.size X Y) : ChAt w Y l r s z N Bc b f :=
  ⟨h.num.below hb, h.ctl.below hb, h.res.same (hb.block _ h.res.lt), h.b2, h.c2, h.ne, h.bel.trans (hb.mono h.bel.size)⟩
theorem ChAt.gb {w X Y : World} {l r s z : Int} {N Bc b : Nat} {f g : Nat → Int} (h : ChAt w X l r s z N Bc b f) (hb : X.grownBy Y (some b)) (hn : NumW Y g N b 0) : ChAt w Y l r s z N Bc b g := by
  have hbl := h.num.lt
  have hcl : Bc < X.heap.size := (Array.getElem?_eq_some_iff.1 h.ctl).1
  have h1 := h.ne
  have h2 := h.b2
  refine ⟨hn, (hb.block Bc hcl (fun e => h1 (by cases e; rfl))).trans h.ctl, h.res.same (hb.block _ h.res.lt (fun e => by cases e; omega)), h.b2, h.c2, h.ne, h.bel.grown hb h.bel.size (fun k e => by cases e; omega)⟩
theorem ChAt.put {w X : World} {l r s z : Int} {N Bc b : Nat} {f : Nat → Int} (h : ChAt w X l r s z N Bc b f) {j : Nat} (hj : j < N) (x : Int) : ChAt w (X.setCell ⟨b, j, none⟩ (.int .i64 x)) l r s z N Bc b (fun i => if i = j then x else f i) := by
  refine h.gb (grownBy_setOff X b j _) ?_
  have := h.num.put hj x
  rw [Nat.zero_add] at this
  exact this
theorem ChAt.congr {w X : World} {l r s z : Int} {N Bc b : Nat} {f g : Nat → Int} (h : ChAt w X l r s z N Bc b f) (e : ∀ i, i < N → f i = g i) : ChAt w X l r s z N Bc b g := ⟨h.num.congr e, h.ctl, h.res, h.b2, h.c2, h.ne, h.bel⟩
theorem ctl_store {X : World} {Bc b N : Nat} (l r s z : Int) (h : X.heap[Bc]? = some (.cells #[.int .i64 0, .int .i64 0, .int .i64 0, .int .i64 0, .slice none 0 0] 68)) : CtlAt (((((X.setCell ⟨Bc, 0, none⟩ (.int .i64 l)).setCell ⟨Bc, 1, none⟩ (.int .i64 r)).setCell ⟨Bc, 2, none⟩ (.int .i64 s)).setCell ⟨Bc, 3, none⟩ (.int .i64 z)).setCell ⟨Bc, 4, none⟩ (.slice (some ⟨b, 0, none⟩) N N)) Bc l r s z (some ⟨b, 0, none⟩) N N := by
  unfold CtlAt
  simp [World.setCell, Array.getElem?_modify, h]
theorem sets_other {X : World} {Bc b N : Nat} (l r s z : Int) {k : Nat} (hk : k ≠ Bc) : (((((X.setCell ⟨Bc, 0, none⟩ (.int .i64 l)).setCell ⟨Bc, 1, none⟩ (.int .i64 r)).setCell ⟨Bc, 2, none⟩ (.int .i64 s)).setCell ⟨Bc, 3, none⟩ (.int .i64 z)).setCell ⟨Bc, 4, none⟩ (.slice (some ⟨b, 0, none⟩) N N)).heap[k]? = X.heap[k]? := by
  have hs : ∀ (Y : World) (i : Nat) (v : Value), (Y.setCell ⟨Bc, i, none⟩ v).heap[k]? = Y.heap[k]? := fun Y i v => Below.heap_setCell _ _ _ _ (by show k ≠ Bc; exact hk)
  rw [hs, hs, hs, hs, hs]
theorem sets_below {n : Nat} {W X : World} {Bc b N : Nat} (l r s z : Int) (h : Below n W X) (hn : n ≤ Bc) : Below n W (((((X.setCell ⟨Bc, 0, none⟩ (.int .i64 l)).setCell ⟨Bc, 1, none⟩ (.int .i64 r)).setCell ⟨Bc, 2, none⟩ (.int .i64 s)).setCell ⟨Bc, 3, none⟩ (.int .i64 z)).setCell ⟨Bc, 4, none⟩ (.slice (some ⟨b, 0, none⟩) N N)) :=
  ((((h.setCell (p := ⟨Bc, _, none⟩) hn _).setCell (p := ⟨Bc, _, none⟩) hn _).setCell (p := ⟨Bc, _, none⟩) hn _).setCell (p := ⟨Bc, _, none⟩) hn _).setCell (p := ⟨Bc, _, none⟩) hn _
theorem ch_start {w W0 X : World} {N Bc b : Nat} (l r s z : Int) (hB0 : Below w.heap.size w W0) (hs0 : W0.heap.size = w.heap.size + 2) (hR : CtlW W0 (w.heap.size + 1)) (hbX : Below W0.heap.size W0 X) (hnX : NumW X (fun _ => 0) N b 0)
    (hcX : X.heap[Bc]? = some (.cells #[.int .i64 0, .int .i64 0, .int .i64 0, .int .i64 0, .slice none 0 0] 68)) (hb2 : w.heap.size + 2 ≤ b) (hc2 : w.heap.size + 2 ≤ Bc) (hne : Bc ≠ b) :
    (CtlC X Bc 0 0 0 0 none 0 0 ∧ ∀ i, X.frozen? ⟨Bc, i, none⟩ = false) ∧ (ChAt w (((((X.setCell ⟨Bc, 0, none⟩ (.int .i64 l)).setCell ⟨Bc, 1, none⟩ (.int .i64 r)).setCell ⟨Bc, 2, none⟩ (.int .i64 s)).setCell ⟨Bc, 3, none⟩ (.int .i64 z)).setCell ⟨Bc, 4, none⟩ (.slice (some ⟨b, 0, none⟩) N N)) l r s z N Bc b (fun _ => 0) ∧ Below W0.heap.size W0 (((((X.setCell ⟨Bc, 0, none⟩ (.int .i64 l)).setCell ⟨Bc, 1, none⟩ (.int .i64 r)).setCell ⟨Bc, 2, none⟩ (.int .i64 s)).setCell ⟨Bc, 3, none⟩ (.int .i64 z)).setCell ⟨Bc, 4, none⟩ (.slice (some ⟨b, 0, none⟩) N N))) := by
  refine ⟨⟨by constructor <;> simp [World.cell?, hcX], fun i => by simp [World.frozen?, hcX]⟩, ⟨hnX.same (sets_other l r s z (by omega)), ctl_store l r s z hcX, (hR.same (hbX.block _ hR.lt)).same (sets_other l r s z (by omega)), hb2, hc2, hne, sets_below l r s z (bt hB0 hbX) (by omega)⟩, sets_below l r s z hbX (by omega)⟩
set_option maxRecDepth 100000 in
set_option maxHeartbeats 4000000 in
theorem chart_any (l r s z : Int) (h : PlanOk l r s z) (N D V : Nat) (hN : sizP l r = (N : Int)) (hD : 2 * z + 1 = (D : Int)) (hV : 2 * r + 1 = (V : Int)) (w : World) :
    Calls Try.prog 33 #[.agg #[.int .i64 l, .int .i64 r, .int .i64 s, .int .i64 z]] w fun e w' => ∃ b, e = .returned (.agg #[.int .i64 l, .int .i64 r, .int .i64 s, .int .i64 z, .slice (some ⟨b, 0, none⟩) N N]) ∧ NumW w' (chF l r s z D V N) N b 0 ∧ w.heap.size ≤ b ∧ Below w.heap.size w w' := by
  obtain ⟨i1, hi1, hy0, hy1, hy2⟩ := info_parts infoInt
  have HSZ := Lib.hid (siz_bd h)
  have hmI : ∀ W : World, (Instr.makeSlice 24 (.int .i64 (N : Int)) (.int .i64 (N : Int))).run Try.prog W = .ok (.slice (some ⟨W.heap.size, 0, none⟩) N N) (W.alloc (.cells (zerosV N) 3)) := fun W => by
    have hs := HSZ.out
    have h := run_make (P := Try.prog) W 24 3 i1 (.int .i64 0) Try.underlying24 hi1 hy0 .i64 .i64 N N (by omega) (by omega) (by rw [hy2]; omega) (by omega)
    rw [hy1, Int.toNat_natCast, Nat.mul_one, show (Value.int .i64 0).cells = #[.int .i64 0] from rfl] at h
    exact h
  have HSI := Lib.hid (fun W => by have := size_any h W; rw [hN] at this; exact this)
  go_enter Try.func33, Try.ntmps33
  obtain ⟨W0, hW0⟩ : ∃ W0, (w.alloc (.cells #[.int .i64 l, .int .i64 r, .int .i64 s, .int .i64 z] 27)).alloc (.cells #[.int .i64 0, .int .i64 0, .int .i64 0, .int .i64 0, .slice none 0 0] 68) = W0 := ⟨_, rfl⟩
  have hP : PlAt W0 w.heap.size l r s z := by
    rw [← hW0]
    exact heap_below (below_alloc (Below.refl _ _) _) (World.alloc_heap_new w _)
  have hR : CtlW W0 (w.heap.size + 1) := by
    rw [← hW0]
    refine ⟨fun i hi => ?_, fun i => by simp⟩
    rcases (by omega : i = 0 ∨ i = 1 ∨ i = 2 ∨ i = 3 ∨ i = 4) with rfl | rfl | rfl | rfl | rfl
    · exact ⟨.int .i64 0, by simp⟩
    · exact ⟨.int .i64 0, by simp⟩
    · exact ⟨.int .i64 0, by simp⟩
    · exact ⟨.int .i64 0, by simp⟩
    · exact ⟨.slice none 0 0, by simp⟩
  have hB0 : Below w.heap.size w W0 := by rw [← hW0]; exact below_alloc (below_alloc (Below.refl _ _) _) _
  have hs0 : W0.heap.size = w.heap.size + 2 := by rw [← hW0]; simp
  go_upto_region 1 with fail
  clear hW0
  have HP := Lib.hid hP
  have HR := Lib.hid hR
  have HB0 := Lib.hid hB0
  have HS0 := Lib.hid hs0
  clear hP hR hB0 hs0
  go_step3
  refine wp_seq_k (fun K hK => ?_)
  go_cut [3] from 8 to 12 (fun s3 wx => ∃ Bc b, s3 = .pointer (some ⟨Bc, 0, none⟩) ∧ Hid (ChAt w wx l r s z N Bc b (fun _ => 0)))
  case first =>
    obtain ⟨x0, x1, x2, x3⟩ := HP.out.c
    have z0 := cell_lt x0
    have HK := Lib.hid (show ∀ X, Below W0.heap.size W0 X → (fun w' => Below W0.heap.size W0 w' ∧ w'.cell? ⟨w.heap.size, 0, none⟩ = some (.int .i64 l) ∧ w'.cell? ⟨w.heap.size, 1, none⟩ = some (.int .i64 r) ∧ w'.cell? ⟨w.heap.size, 2, none⟩ = some (.int .i64 s) ∧ w'.cell? ⟨w.heap.size, 3, none⟩ = some (.int .i64 z)) X from
      fun X hX => ⟨hX, cell_below hX x0, cell_below hX x1, cell_below hX x2, cell_below hX x3⟩)
    have hs0 := HS0.out
    refine wp_region_held_drew (S := (fun w' => Below W0.heap.size W0 w' ∧ w'.cell? ⟨w.heap.size, 0, none⟩ = some (.int .i64 l) ∧ w'.cell? ⟨w.heap.size, 1, none⟩ = some (.int .i64 r) ∧ w'.cell? ⟨w.heap.size, 2, none⟩ = some (.int .i64 s) ∧ w'.cell? ⟨w.heap.size, 3, none⟩ = some (.int .i64 z))) (by kernel_rfl) (HK.out _ (Below.drew (Below.refl _ _))) (fun hHeld => ?_)
    refine wpAnyH_take (i := 0) (v := ?_) rfl (by kernel_rfl) (by kernel_rfl) (by kernel_rfl) (fun _ _ _ h => h) (Or.inl ⟨by rfl, ?_⟩) (by assumption) ?_
    rotate_left
    · intro w hSw; (try dsimp only at hSw); go_simp; try with_reducible rfl
    simp only [Act.put, List.getElem_toArray, List.getElem_cons_zero, List.setIfInBounds_toArray, List.set_cons_zero, List.set_cons_succ]
    refine wpAnyH_take (i := 1) (v := ?_) rfl (by kernel_rfl) (by kernel_rfl) (by kernel_rfl) (fun _ _ _ h => h) (Or.inl ⟨by rfl, ?_⟩) (by assumption) ?_
    rotate_left
    · intro w hSw; (try dsimp only at hSw); go_simp; try with_reducible rfl
    simp only [Act.put, List.getElem_toArray, List.getElem_cons_succ, List.getElem_cons_zero, List.setIfInBounds_toArray, List.set_cons_zero, List.set_cons_succ]
    refine wpAnyH_ready (rs := [2, 5]) (by kernel_rfl) (by simp) ?_
    refine AllReadyH.cons rfl (fun K0 hK0 => ?_) (AllReadyH.cons rfl (fun K0 hK0 => ?_) AllReadyH.nil)
    · go_simp
      go_at_call 37
      refine (HSI.out _).mono ?_
      rintro e w2 ⟨rfl, hw2⟩
      have hbw2 : Below W0.heap.size W0 w2 := bt (Below.drew (Below.refl _ _)) hw2
      go_wp2_with fail
      refine hK0.out _ _ (HK.out _ hbw2) (fun hHeld => ?_)
      clear hK0 K0
      refine wpAnyH_ready (rs := [3, 5]) (by kernel_rfl) (by simp) ?_
      refine AllReadyH.cons rfl (fun K0 hK0 => ?_) (AllReadyH.cons rfl (fun K0 hK0 => ?_) AllReadyH.nil)
      · go_simp
        refine hK0.out _ _ (HK.out _ (below_alloc hbw2 _)) (fun hHeld => ?_)
        clear hK0 K0
        refine wpAnyH_take (i := 4) (v := ?_) rfl (by kernel_rfl) (by kernel_rfl) (by kernel_rfl) (fun _ _ _ h => h) (Or.inl ⟨by rfl, ?_⟩) (by assumption) ?_
        rotate_left
        · intro w hSw; (try dsimp only at hSw); go_simp; try with_reducible rfl
        simp only [Act.put, List.getElem_toArray, List.getElem_cons_succ, List.getElem_cons_zero, List.setIfInBounds_toArray, List.set_cons_zero, List.set_cons_succ]
        refine wpAnyH_ready (rs := [5]) (by kernel_rfl) (by simp) ?_
        refine AllReadyH.cons rfl (fun K0 hK0 => ?_) AllReadyH.nil
        go_simp
        refine hK0.out _ _ (HK.out _ (below_alloc (below_alloc hbw2 _) _)) (fun hHeld => ?_)
        clear hK0 K0
        have hbX : Below W0.heap.size W0 ((w2.alloc (.cells (zerosV N) 3)).alloc (.cells #[.int .i64 0, .int .i64 0, .int .i64 0, .int .i64 0, .slice none 0 0] 68)) := below_alloc (below_alloc hbw2 _) _
        have hnX : NumW ((w2.alloc (.cells (zerosV N) 3)).alloc (.cells #[.int .i64 0, .int .i64 0, .int .i64 0, .int .i64 0, .slice none 0 0] 68)) (fun _ => 0) N (w2.heap.size) 0 := (zeros_row w2 N).below (below_alloc (Below.refl _ _) _)
        have hcX : ((w2.alloc (.cells (zerosV N) 3)).alloc (.cells #[.int .i64 0, .int .i64 0, .int .i64 0, .int .i64 0, .slice none 0 0] 68)).heap[w2.heap.size + 1]? = some (.cells #[.int .i64 0, .int .i64 0, .int .i64 0, .int .i64 0, .slice none 0 0] 68) := by have := World.alloc_heap_new (w2.alloc (.cells (zerosV N) 3)) (.cells #[.int .i64 0, .int .i64 0, .int .i64 0, .int .i64 0, .slice none 0 0] 68); rwa [World.size_alloc] at this
        have hb2X : w.heap.size + 2 ≤ w2.heap.size := by have := hbw2.size; omega
        have hc2X : w.heap.size + 2 ≤ w2.heap.size + 1 := by have := hbw2.size; omega
        have hneX : w2.heap.size + 1 ≠ w2.heap.size := by omega
        obtain ⟨⟨⟨p0, p1, p2, p3, p4⟩, pz⟩, HCH⟩ := ch_start l r s z HB0.out HS0.out HR.out hbX hnX hcX hb2X hc2X hneX
        have pz0 := pz 0
        have pz1 := pz 1
        have pz2 := pz 2
        have pz3 := pz 3
        have pz4 := pz 4
        have zp := cell_lt p0
        refine wpAnyH_ready (rs := [6]) (by kernel_rfl) (by simp) ?_
        refine AllReadyH.cons rfl (fun K0 hK0 => ?_) AllReadyH.nil
        have HCH2 := Lib.hid HCH
        have HBX := Lib.hid (HK.out _ HCH.2)
        clear HCH hbX hnX hcX pz
        generalize ((w2.alloc (.cells (zerosV N) 3)).alloc (.cells #[.int .i64 0, .int .i64 0, .int .i64 0, .int .i64 0, .slice none 0 0] 68)) = XX at *
        generalize hBg : w2.heap.size + 1 = BB at *
        go_simp
        refine hK0.out _ _ HBX.out (fun hHeld => ?_)
        clear hK0 K0
        refine wpAnyH_done (by kernel_rfl) ?_ _
        go_wp2_with fail
        go_meet
        exact ⟨_, _, rfl, Lib.hid HCH2.out.1⟩
      · go_simp
        refine hK0.out _ _ (HK.out _ (below_alloc hbw2 _)) (fun hHeld => ?_)
        clear hK0 K0
        refine wpAnyH_ready (rs := [3]) (by kernel_rfl) (by simp) ?_
        refine AllReadyH.cons rfl (fun K0 hK0 => ?_) AllReadyH.nil
        go_simp
        refine hK0.out _ _ (HK.out _ (below_alloc (below_alloc hbw2 _) _)) (fun hHeld => ?_)
        clear hK0 K0
        refine wpAnyH_take (i := 4) (v := ?_) rfl (by kernel_rfl) (by kernel_rfl) (by kernel_rfl) (fun _ _ _ h => h) (Or.inl ⟨by rfl, ?_⟩) (by assumption) ?_
        rotate_left
        · intro w hSw; (try dsimp only at hSw); go_simp; try with_reducible rfl
        simp only [Act.put, List.getElem_toArray, List.getElem_cons_succ, List.getElem_cons_zero, List.setIfInBounds_toArray, List.set_cons_zero, List.set_cons_succ]
        have hbX : Below W0.heap.size W0 ((w2.alloc (.cells #[.int .i64 0, .int .i64 0, .int .i64 0, .int .i64 0, .slice none 0 0] 68)).alloc (.cells (zerosV N) 3)) := below_alloc (below_alloc hbw2 _) _
        have hnX : NumW ((w2.alloc (.cells #[.int .i64 0, .int .i64 0, .int .i64 0, .int .i64 0, .slice none 0 0] 68)).alloc (.cells (zerosV N) 3)) (fun _ => 0) N (w2.heap.size + 1) 0 := by have := zeros_row (w2.alloc (.cells #[.int .i64 0, .int .i64 0, .int .i64 0, .int .i64 0, .slice none 0 0] 68)) N; rwa [World.size_alloc] at this
        have hcX : ((w2.alloc (.cells #[.int .i64 0, .int .i64 0, .int .i64 0, .int .i64 0, .slice none 0 0] 68)).alloc (.cells (zerosV N) 3)).heap[w2.heap.size]? = some (.cells #[.int .i64 0, .int .i64 0, .int .i64 0, .int .i64 0, .slice none 0 0] 68) := heap_below (below_alloc (Below.refl _ _) _) (World.alloc_heap_new w2 _)
        have hb2X : w.heap.size + 2 ≤ w2.heap.size + 1 := by have := hbw2.size; omega
        have hc2X : w.heap.size + 2 ≤ w2.heap.size := by have := hbw2.size; omega
        have hneX : w2.heap.size ≠ w2.heap.size + 1 := by omega
        obtain ⟨⟨⟨p0, p1, p2, p3, p4⟩, pz⟩, HCH⟩ := ch_start l r s z HB0.out HS0.out HR.out hbX hnX hcX hb2X hc2X hneX
        have pz0 := pz 0
        have pz1 := pz 1
        have pz2 := pz 2
        have pz3 := pz 3
        have pz4 := pz 4
        have zp := cell_lt p0
        refine wpAnyH_ready (rs := [6]) (by kernel_rfl) (by simp) ?_
        refine AllReadyH.cons rfl (fun K0 hK0 => ?_) AllReadyH.nil
        have HCH2 := Lib.hid HCH
        have HBX := Lib.hid (HK.out _ HCH.2)
        clear HCH hbX hnX hcX pz
        generalize ((w2.alloc (.cells #[.int .i64 0, .int .i64 0, .int .i64 0, .int .i64 0, .slice none 0 0] 68)).alloc (.cells (zerosV N) 3)) = XX at *
        generalize hBg : w2.heap.size = BB at *
        go_simp
        refine hK0.out _ _ HBX.out (fun hHeld => ?_)
        clear hK0 K0
        refine wpAnyH_done (by kernel_rfl) ?_ _
        go_wp2_with fail
        go_meet
        exact ⟨_, _, rfl, Lib.hid HCH2.out.1⟩
    · go_simp
      refine hK0.out _ _ (HK.out _ (below_alloc (Below.drew (Below.refl _ _)) _)) (fun hHeld => ?_)
      clear hK0 K0
      refine wpAnyH_ready (rs := [2]) (by kernel_rfl) (by simp) ?_
      refine AllReadyH.cons rfl (fun K0 hK0 => ?_) AllReadyH.nil
      go_simp
      go_at_call 37
      refine (HSI.out _).mono ?_
      rintro e w2 ⟨rfl, hw2⟩
      have hbw2 : Below W0.heap.size W0 w2 := bt (below_alloc (Below.drew (Below.refl _ _)) _) hw2
      go_wp2_with fail
      refine hK0.out _ _ (HK.out _ hbw2) (fun hHeld => ?_)
      clear hK0 K0
      refine wpAnyH_ready (rs := [3]) (by kernel_rfl) (by simp) ?_
      refine AllReadyH.cons rfl (fun K0 hK0 => ?_) AllReadyH.nil
      go_simp
      refine hK0.out _ _ (HK.out _ (below_alloc hbw2 _)) (fun hHeld => ?_)
      clear hK0 K0
      refine wpAnyH_take (i := 4) (v := ?_) rfl (by kernel_rfl) (by kernel_rfl) (by kernel_rfl) (fun _ _ _ h => h) (Or.inl ⟨by rfl, ?_⟩) (by assumption) ?_
      rotate_left
      · intro w hSw; (try dsimp only at hSw); go_simp; try with_reducible rfl
      simp only [Act.put, List.getElem_toArray, List.getElem_cons_succ, List.getElem_cons_zero, List.setIfInBounds_toArray, List.set_cons_zero, List.set_cons_succ]
      have hbX : Below W0.heap.size W0 (w2.alloc (.cells (zerosV N) 3)) := below_alloc hbw2 _
      have hnX : NumW (w2.alloc (.cells (zerosV N) 3)) (fun _ => 0) N (w2.heap.size) 0 := zeros_row w2 N
      have hcX : (w2.alloc (.cells (zerosV N) 3)).heap[w.heap.size + 2]? = some (.cells #[.int .i64 0, .int .i64 0, .int .i64 0, .int .i64 0, .slice none 0 0] 68) := by rw [← hs0]; exact heap_below (below_alloc (Below.refl _ _) _) (heap_below hw2 (World.alloc_heap_new W0.drew _))
      have hb2X : w.heap.size + 2 ≤ w2.heap.size := by have := hbw2.size; omega
      have hc2X : w.heap.size + 2 ≤ w.heap.size + 2 := by omega
      have hneX : w.heap.size + 2 ≠ w2.heap.size := by have := hw2.size; simp at this; omega
      obtain ⟨⟨⟨p0, p1, p2, p3, p4⟩, pz⟩, HCH⟩ := ch_start l r s z HB0.out HS0.out HR.out hbX hnX hcX hb2X hc2X hneX
      have pz0 := pz 0
      have pz1 := pz 1
      have pz2 := pz 2
      have pz3 := pz 3
      have pz4 := pz 4
      have zp := cell_lt p0
      refine wpAnyH_ready (rs := [6]) (by kernel_rfl) (by simp) ?_
      refine AllReadyH.cons rfl (fun K0 hK0 => ?_) AllReadyH.nil
      have HCH2 := Lib.hid HCH
      have HBX := Lib.hid (HK.out _ HCH.2)
      clear HCH hbX hnX hcX pz
      generalize (w2.alloc (.cells (zerosV N) 3)) = XX at *
      generalize hBg : w.heap.size + 2 = BB at *
      go_simp
      refine hK0.out _ _ HBX.out (fun hHeld => ?_)
      clear hK0 K0
      refine wpAnyH_done (by kernel_rfl) ?_ _
      go_wp2_with fail
      go_meet
      exact ⟨_, _, rfl, Lib.hid HCH2.out.1⟩
  case rest =>
    obtain ⟨Bc, b, rfl, HA⟩ := hcut
    have HSZ2 := HSZ.out
    have HRN := Lib.hid (fun f X (hX : NumW X f N b 0) => renew_any l r s z h f b 0 N N D V hN (Nat.le_refl _) hD hV X hX)
    have HRC := Lib.hid (fun f n => rnd_cnt h (f := f) (D := D) (V := V) (N := N) n)
    have HML := Lib.hid (mea_len (fun _ => 0) N)
    have HNZ : (N : Int) ≤ 2025 := by omega
    clear HP HR HB0 HS0 HSI hmI hi1 hy0 hy1 hy2 hN h HSZ HSZ2
    go_wp2_with fail
    go_step3
    go_wp2_with fail
    go_loopw [4, 5, 7] (fun s4 s5 s7 wr => ∃ (n : Nat) (v5 v7 : Value), s4 = .int .i64 (1001 + (n : Int)) ∧ s5 = v5 ∧ s7 = v7 ∧ Hid (ChAt w wr l r s z N Bc b (itC l r s z D V n)) ∧ Hid ((∀ i, i < n → renL l r s z (itC l r s z D V i) D V N ≠ []) ∧ n + (meaL (itC l r s z D V n) N).length ≤ N)) (fun s4 _ _ _ => 9000 - (intOf s4).toNat)
    case atStart => exact ⟨0, _, _, by simp, rfl, rfl, HA, Lib.hid ⟨fun i hi => absurd hi (Nat.not_lt_zero i), by have := HML.out; simpa [itC] using this⟩⟩
    case round =>
      obtain ⟨n, v5, v7, rfl, rfl, rfl, HA, HI⟩ := hrel
      obtain ⟨x0, x1, x2, x3, x4⟩ := HA.out.ctl.c
      have zx := cell_lt x0
      have HR1 := Lib.hid (HRN.out (itC l r s z D V n) wr HA.out.num)
      have HGV := Lib.hid (fun k hk => giv_all (l := l) (r := r) (s := s) (z := z) (itC l r s z D V n) D V N n k hk)
      have HRM := Lib.hid (fun x => ren_mem (l := l) (r := r) (s := s) (z := z) (f := itC l r s z D V n) (D := D) (V := V) (N := N) (x := x))
      have HRE := Lib.hid (fun hs => rndN_eq (l := l) (r := r) (s := s) (z := z) (D := D) (V := V) (N := N) (m := n) hs N 0 (Nat.zero_le _) (by have := HI.out.2; omega) (fun i _ hi => HI.out.1 i hi))
      have HRS := Lib.hid (HRC.out (itC l r s z D V n) n)
      have HNB := Lib.hid (show (n : Int) ≤ 2025 by have := HI.out.2; omega)
      have HLN := Lib.hid (show (renL l r s z (itC l r s z D V n) D V N).length ≤ N from Nat.le_trans (lost_len l r s z (itC l r s z D V n) D V (meaL (itC l r s z D V n) N)) (mea_len _ N))
      obtain ⟨L, hL⟩ : ∃ L, renL l r s z (itC l r s z D V n) D V N = L := ⟨_, rfl⟩
      rw [hL] at HR1 HGV HRM HRS HLN
      have HL := Lib.hid hL
      have HRE := Lib.hid (fun hs => HRE.out (by rw [HL.out]; exact hs))
      have hbl := HA.out.num.lt
      clear hL
      go_upto_region 10 with (go_at_call 47; refine HR1.out.mono ?_; rintro e w1 ⟨⟨q, cr, rfl, hq1, hq2, hq3⟩, hnum, hgb⟩)
      have HA1 := Lib.hid (HA.out.gb hgb hnum)
      have HQ := Lib.hid (show NumIn w1 (atL L) L.length q ∧ ∀ b' o', q = some ⟨b', o', none⟩ → b' ≠ b from ⟨hq2, fun b' o' e => by have := hq3 b' o' e; omega⟩)
      clear x0 x1 x2 x3 x4 zx hq2 hq3 hnum hgb HR1
      by_cases h0 : L = []
      · subst h0
        obtain ⟨x0, x1, x2, x3, x4⟩ := HA1.out.ctl.c
        have zx := cell_lt x0
        obtain ⟨v0, r0⟩ := HA1.out.res.c 0 (by decide)
        obtain ⟨v1, r1⟩ := HA1.out.res.c 1 (by decide)
        obtain ⟨v2, r2⟩ := HA1.out.res.c 2 (by decide)
        obtain ⟨v3, r3⟩ := HA1.out.res.c 3 (by decide)
        obtain ⟨v4, r4⟩ := HA1.out.res.c 4 (by decide)
        have f0 := HA1.out.res.z 0
        have f1 := HA1.out.res.z 1
        have f2 := HA1.out.res.z 2
        have f3 := HA1.out.res.z 3
        have f4 := HA1.out.res.z 4
        have zr := cell_lt r0
        have hlen : (([] : List Int).length : Int) = 0 := rfl
        have HCF := Lib.hid (show chF l r s z D V N = renF l r s z (itC l r s z D V n) D V by unfold chF; rw [HRE.out rfl])
        go_wp2_with fail
        refine bodyPost_ret (v := .agg #[.int .i64 l, .int .i64 r, .int .i64 s, .int .i64 z, .slice (some ⟨b, 0, none⟩) N N]) (by simp [results, Try.results33, go_sem, r0, r1, r2, r3, r4]) rfl ⟨b, rfl, ?_, by have := HA1.out.b2; omega, ?_⟩
        · rw [HCF.out]
          exact HA1.out.num.same (sets_other l r s z (by have := HA1.out.b2; omega))
        · exact sets_below l r s z HA1.out.bel (by omega)
      · have h1 : 1 ≤ L.length := by
          cases L with
          | nil => exact absurd rfl h0
          | cons _ _ => simp
        have hlen : ((L.length : Int) == 0) = false := by simp; omega
        have hlen2 : ¬ (L.length : Int) = 0 := by omega
        have HRS2 := Lib.hid (HRS.out h0)
        clear HRS HRE
        go_wp2_with fail
        go_loopw [7, 19] (fun s7 s19 wr => ∃ (j : Nat) (v7 : Value), s7 = v7 ∧ s19 = .int .i64 (j : Int) ∧ j ≤ L.length ∧ Hid (ChAt w wr l r s z N Bc b (givL (renF l r s z (itC l r s z D V n) D V) L (1001 + (n : Int)) j)) ∧ Hid (NumIn wr (atL L) L.length q)) (fun _ s19 _ => L.length - (intOf s19).toNat)
        case atStart => exact ⟨0, _, rfl, rfl, Nat.zero_le _, Lib.hid (HA1.out.congr (fun i _ => (giv_zero _ _ _ i).symm)), Lib.hid HQ.out.1⟩
        case round =>
          obtain ⟨j, v7, rfl, rfl, hj, HB, HN⟩ := hrel
          by_cases hlt : j < L.length
          · have hji : (j : Int) < L.length := by omega
            obtain ⟨b', o', rfl, hi⟩ := HN.out.resolve_left (by omega)
            have hq := hi j hlt
            have zq := cell_lt hq
            obtain ⟨k, hk, hkN, -⟩ := (HRM.out (atL L j)).1 (atL_mem hlt)
            rw [hk] at hq
            have hkI : (k : Int) < N := by omega
            have hk0 : (0 : Int) ≤ (k : Int) := by omega
            obtain ⟨u0, u1⟩ := HB.out.num.c k hkN
            rw [Nat.zero_add] at u0 u1
            have zu := cell_lt u0
            obtain ⟨x0, x1, x2, x3, x4⟩ := HB.out.ctl.c
            have zx := cell_lt x0
            have HJ := Lib.hid hlt
            have HB2 := Lib.hid ((HB.out.put hkN (1001 + (n : Int))).congr (fun i _ => (giv_succ _ L (1001 + (n : Int)) hlt k i hk).symm))
            have hne := HQ.out.2 b' o' rfl
            have HN2 := Lib.hid (show NumIn (wr.setCell ⟨b, k, none⟩ (.int .i64 (1001 + (n : Int)))) (atL L) L.length (some ⟨b', o', none⟩) from .inr ⟨b', o', rfl, fun i hi' => by
              rw [World.cell?_setCell_other _ ⟨b, k, none⟩ ⟨b', o' + i, none⟩ _ (fun q => hne (by cases q; rfl))]
              exact hi i hi'⟩)
            clear hi hlt hk hne
            have vj : IntKind.i64.wrap ((j : Int) + 1) = ((j + 1 : Nat) : Int) := by rw [IntWalk.i64_in _ (by have := HJ.out; have := HLN.out; omega)]; omega
            go_wp2_with fail
            go_roundw
            case rel => exact ⟨j + 1, _, rfl, rfl, HJ.out, HB2, HN2⟩
            case measure => have := HJ.out; simp [intOf]; omega
          · obtain rfl : j = L.length := by omega
            have hji : ¬ ((L.length : Int) < L.length) := by omega
            have HB3 := Lib.hid (show ChAt w wr l r s z N Bc b (itC l r s z D V (n + 1)) from HB.out.congr (fun i hi => HGV.out i hi))
            have vn : IntKind.i64.wrap (1001 + (n : Int) + 1) = 1001 + ((n + 1 : Nat) : Int) := by rw [IntWalk.i64_in _ (by have := HNB.out; omega)]; omega
            go_wp2_with fail
            go_roundw
            case rel => exact ⟨n + 1, _, _, rfl, rfl, rfl, HB3, Lib.hid ⟨fun i hi => by
              by_cases e : i = n
              · subst e; rw [HL.out]; exact h0
              · exact HI.out.1 i (by omega), by have := HRS2.out; have := HI.out.2; simp only [itC]; omega⟩⟩
            case measure => have := HNB.out; simp [intOf]; omega
end Go.Proofs.Ytiapimfmnmegpaa.St
