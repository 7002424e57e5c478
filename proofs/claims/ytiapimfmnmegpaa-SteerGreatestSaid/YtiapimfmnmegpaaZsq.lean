/- Stage 6 (steer): a loop over an iterator that itself loops over another one, and whose body may leave: what such an iterator may count on (SeqF), and the statement's law (range_f). -/
import Derived.Test.YtiapimfmnmegpaaProg
import Derived.WalkKit
import Derived.Handy
import Derived.Lib.Hide
import Derived.WalkSmall
import Derived.Deep.QuietTactic
import Derived.BigQuiet
import Derived.Outline
import Derived.LoopTactic
import Derived.IntWalk
import Derived.StillTailTactics
import Derived.Deep.RegionHeld3
import Derived.Laws.EntriesVeiled
import Derived.Deep.CutRange
import Derived.Deep.AppendLies
import Derived.Maps.AppendAt
import Derived.RangeFuncNested
import Derived.RangeFuncBound
import Derived.RangeFuncCalls
import Derived.RangeFuncLeaves
import Derived.RangeFuncBox
import Derived.Shelf.Abstract
import Derived.Shelf.RegionOpen
import Derived.OwnWalkIn
import Derived.TacticsInMore
import Derived.LoopNIn
import Derived.LoopIn
namespace Go.Proofs.Ytiapimfmnmegpaa.St
open Go Go.RowKit Go.Shelf
attribute [local go_sem] Oper.semAt_some
theorem cell_lt {w : World} {b o : Nat} {v : Value} (h : w.cell? ⟨b, o, none⟩ = some v) : b < w.heap.size := World.block_lt_of_cell? w ⟨b, o, none⟩ h
theorem cell_below {w w' : World} {b o : Nat} {v : Value} (hb : Below w.heap.size w w') (h : w.cell? ⟨b, o, none⟩ = some v) : w'.cell? ⟨b, o, none⟩ = some v :=
  (hb.cell (p := ⟨b, o, none⟩) (cell_lt h)).trans h
theorem below_alloc {X Y : World} (h : Below X.heap.size X Y) (o : Obj) : Below X.heap.size X (Y.alloc o) := h.alloc h.size o
theorem bt {X Y Z : World} (h : Below X.heap.size X Y) (k : Below Y.heap.size Y Z) : Below X.heap.size X Z := h.trans (k.mono h.size)
theorem heap_below {X Y : World} {b : Nat} {o : Obj} (h : Below X.heap.size X Y) (hb : X.heap[b]? = some o) : Y.heap[b]? = some o := by
  rw [h.block b (Array.getElem?_eq_some_iff.1 hb).1]; exact hb
theorem gbw {A B : World} (h : Below A.heap.size A B) : A.grownBy B none := ⟨h.os, h.tape, h.output, h.size, fun k hk _ => h.block k hk⟩
theorem keeps_up {B C : Nat} {X Y : World} (h : KeepsFrom B X Y) (hBC : B ≤ C) : KeepsFrom C X Y := ⟨h.size, fun k o hk h1 h2 => h.same k o (Nat.le_trans hBC hk) h1 h2⟩
theorem keeps_put (W : World) (l : Nat) (o' : Obj) : KeepsFrom (l + 1) W (W.putObj l o') := ⟨by simp, fun _ _ _ h1 _ => (World.putObj_heap_other (by omega)).trans h1⟩
theorem keeps_below {B : Nat} {X Y : World} (h : Below X.heap.size X Y) : KeepsFrom B X Y := ⟨h.size, fun _ _ _ h1 _ => heap_below h h1⟩
/-- the cells of the blocks and types of which f holds lie as they lay -/
structure KpF (f : Nat → TypeId → Prop) (X Y : World) : Prop where
  size : X.heap.size ≤ Y.heap.size
  same : ∀ (k : Nat) (a : Array Value) (t : TypeId) (z : Nat × Nat), f k t → X.heap[k]? = some (Obj.cells a t z) → Y.heap[k]? = some (Obj.cells a t z)
theorem KpF.refl (f : Nat → TypeId → Prop) (X : World) : KpF f X X := ⟨Nat.le_refl _, fun _ _ _ _ _ h => h⟩
theorem KpF.trans {f : Nat → TypeId → Prop} {X Y Z : World} (h : KpF f X Y) (k : KpF f Y Z) : KpF f X Z :=
  ⟨Nat.le_trans h.size k.size, fun i a t z h1 h2 => k.same i a t z h1 (h.same i a t z h1 h2)⟩
theorem KpF.of_below {f : Nat → TypeId → Prop} {X Y : World} (h : Below X.heap.size X Y) : KpF f X Y := ⟨h.size, fun _ _ _ _ _ hk => heap_below h hk⟩
theorem KpF.putObj {f : Nat → TypeId → Prop} (W : World) (l : Nat) (o o' : Obj) (h : W.heap[l]? = some o) (hc : o.isCells = false) : KpF f W (W.putObj l o') :=
  ⟨by simp, fun k a t z _ hk => by
    by_cases e : k = l
    · subst e; rw [h] at hk; cases hk; cases hc
    · exact (World.putObj_heap_other e).trans hk⟩
theorem KpF.set {f : Nat → TypeId → Prop} {W : World} {B : Nat} {a0 : Array Value} {t0 : TypeId} {z0 : Nat × Nat} {o : Nat} (hB : W.heap[B]? = some (.cells a0 t0 z0)) (ht : ¬ f B t0) (v : Value) : KpF f W (W.setCell ⟨B, o, none⟩ v) :=
  ⟨by simp, fun k a t z h2 hk => by
    refine (Below.heap_setCell _ _ _ _ (fun e => ?_)).trans hk
    subst e
    rw [hB] at hk
    cases hk
    exact ht h2⟩
theorem cells_of_cell {A : World} {b o : Nat} {v : Value} (h : A.cell? ⟨b, o, none⟩ = some v) : ∃ a t z, A.heap[b]? = some (.cells a t z) := by
  have hl := cell_lt h
  obtain ⟨ob, hob⟩ : ∃ ob, A.heap[b]? = some ob := ⟨_, Array.getElem?_eq_getElem hl⟩
  cases ob with
  | cells a t z => exact ⟨a, t, z, hob⟩
  | _ => simp [World.cell?, hob] at h
theorem KpF.cell {f : Nat → TypeId → Prop} {X Y : World} (h : KpF f X Y) {b o : Nat} (hb : ∀ t, f b t) {v : Value} (hc : X.cell? ⟨b, o, none⟩ = some v) : Y.cell? ⟨b, o, none⟩ = some v := by
  obtain ⟨a, t, z, e⟩ := cells_of_cell hc
  rw [← hc]
  exact World.cell?_of_block (a := ⟨b, o, none⟩) ((h.same b a t z (hb t) e).trans e.symm)
theorem KpF.cellT {f : Nat → TypeId → Prop} {X Y : World} (h : KpF f X Y) {b : Nat} {a : Array Value} {t : TypeId} {z : Nat × Nat} (h1 : f b t) (hb : X.heap[b]? = some (Obj.cells a t z)) (o : Nat) : Y.cell? ⟨b, o, none⟩ = X.cell? ⟨b, o, none⟩ :=
  World.cell?_of_block (a := ⟨b, o, none⟩) ((h.same b a t z h1 hb).trans hb.symm)
theorem kpf_grown {f : Nat → TypeId → Prop} {M : Nat} {X Y : World} {row : Option Nat} (hg : X.grownBy Y row) (hr : ∀ r, row = some r → M ≤ r ∧ ∃ o : Obj, X.heap[r]? = some o ∧ o.isCells = false) : KpF f X Y := by
  have hb : ∀ k o, X.heap[k]? = some o → some k ≠ row → Y.heap[k]? = some o := fun k o h1 h2 => (hg.block k (Array.getElem?_eq_some_iff.1 h1).1 h2).trans h1
  refine ⟨hg.size, fun k a t z _ h3 => hb k _ h3 (fun e => ?_)⟩
  obtain ⟨-, o, ho, hc⟩ := hr k e.symm
  rw [h3] at ho; cases ho; cases hc
/-- a block of cells lies as it lay -/
theorem cells_grown {M : Nat} {X Y : World} {row : Option Nat} (hg : X.grownBy Y row) (hr : ∀ r, row = some r → M ≤ r ∧ ∃ o : Obj, X.heap[r]? = some o ∧ o.isCells = false) {k : Nat} {a : Array Value} {t : TypeId} {z : Nat × Nat} (h : X.heap[k]? = some (.cells a t z)) : Y.heap[k]? = some (.cells a t z) :=
  (kpf_grown (f := fun _ _ => True) hg hr).same k a t z trivial h
theorem cell_grown {M : Nat} {X Y : World} {row : Option Nat} (hg : X.grownBy Y row) (hr : ∀ r, row = some r → M ≤ r ∧ ∃ o : Obj, X.heap[r]? = some o ∧ o.isCells = false) {b o : Nat} {v : Value} (h : X.cell? ⟨b, o, none⟩ = some v) : Y.cell? ⟨b, o, none⟩ = some v :=
  (kpf_grown (f := fun _ _ => True) hg hr).cell (fun _ => trivial) h
/-- what an iterator that loops over another one may count on -/
def SeqF {α : Type} (n : Nat) (P : Program) (gf : Nat) (lb : Array Value) (encs : α → Array Value) (Kp : World → World → Prop) (Rq : World → Prop) (Px : α → Prop) (all : List α) (N : Nat) (w : World) : Prop :=
  ∀ (l : Nat) (J Jx : List α → World → Prop) (W : World), Below w.heap.size w W → l < W.heap.size → OwnFrom W.heap.size J → OwnFrom W.heap.size Jx → (∀ pre W1, J pre W1 → Rq W1) →
    (∀ pre x W1, Px x → J pre W1 → pre.length < N → YieldAt Fence.wide (n - 1) P l (encs x) W1 fun e W' =>
      (e = .returned (.bool true) ∧ J (pre ++ [x]) W' ∧ Kp W1 W' ∧ KeepsFrom (l + 1) W1 W') ∨ (e = .returned (.bool false) ∧ Jx (pre ++ [x]) W' ∧ KeepsFrom (l + 1) W1 W')) →
    J [] W → CallsIn Fence.wide n P gf (#[.func (.yield l) #[] #[]] ++ lb) W fun e W' => (∃ v, e = .returned v) ∧ (J all W' ∨ ∃ pre x, pre ++ [x] <+: all ∧ Jx (pre ++ [x]) W')
/-- how the body of a round may end -/
def endsF {α : Type} (B : Nat) (Kp : World → World → Prop) (I : List α → World → Prop) (Ix : Code → List α → World → Prop) (xs : List α) (W : World) : Exit → Act → World → Prop
  | .normal, _, W' => KeepsFrom B W W' ∧ Kp W W' ∧ I xs W'
  | .ret, _, W' => KeepsFrom B W W' ∧ Ix .ret xs W'
  | _, _, _ => False
theorem range_f {α : Type} {P : Program} {g : Operand} {ps : Array Tmp} {assign body : Code} {Q : Exit → Act → World → Prop} {a : Act} {w : World} {n : Nat} (h1 : 1 ≤ n)
    {gf : Nat} {lb : Array Value} (hg : a.eval g = .func (.func gf) #[] lb) (eg : ∀ args w, (callFunc gf args).run P w = .ok (.enter gf args) w)
    {encs : α → Array Value} {f : Nat → TypeId → Prop} {Rq : World → Prop} {Px : α → Prop} {all : List α} {N : Nat} (hseq : SeqF (n - 1) P gf lb encs (KpF f) Rq Px all N w)
    (hps : ∀ x, (encs x).size = ps.size)
    (I : List α → World → Prop) (Ix : Code → List α → World → Prop) (hI : OwnFrom w.heap.size I) (hIx : ∀ c, OwnFrom w.heap.size (Ix c)) (hRq : ∀ pre W, I pre W → Rq W) (h0 : I [] w) (Ax : α → Act → World → Prop) (hAx : ∀ x a', OwnFrom w.heap.size (fun (_ : Unit) W => Ax x a' W))
    (hassign : ∀ (l : Nat) (pre : List α) (x : α) (W : World) (K : Act → World → Prop), I pre W → (∀ a' W', KeepsFrom w.heap.size W W' → KpF f W W' → I pre W' → Ax x a' W' → K a' W') →
      assign.wpIn (Fence.wide.inRound l) (n - 1 - 1) P (Exit.then K (fun _ _ _ => False)) { tmps := (ps.zip (encs x)).foldl (fun t (p, v) => t.setIfInBounds p v) a.tmps, defers := [] } W)
    (hbody : ∀ (l : Nat) (pre : List α) (x : α) (a' : Act) (W : World), Px x → I pre W → Ax x a' W → pre.length < N →
      body.wpIn (Fence.wide.inRound l) (n - 1 - 1) P (endsF w.heap.size (KpF f) I Ix (pre ++ [x]) W) a' W)
    (hdone : ∀ (D : Nat) (W : World), w.heap.size ≤ D → I all W → W.heap[D]? = some (.deferred (some [])) → Q .normal { a with defers := { target := .collected D, args := #[] } :: a.defers } W)
    (hstop : ∀ (D : Nat) (pre : List α) (x : α) (W : World), w.heap.size ≤ D → pre ++ [x] <+: all → Ix .ret (pre ++ [x]) W → W.heap[D]? = some (.deferred (some [])) → Code.ret.wpIn Fence.wide n P Q { a with defers := { target := .collected D, args := #[] } :: a.defers } W) :
    (Code.rangeFunc g ps assign body).wpIn Fence.wide n P Q a w := by
  refine wpIn_rangeFunc (fun fn hfn => ?_)
  obtain ⟨rec, hrec⟩ : ∃ rec : LoopState → Option Code → Loop, rec = fun st pe => { state := st, pending := pe, fn, tmps := a.tmps, params := ps, assign, body, defers := w.heap.size } := ⟨_, rfl⟩
  obtain ⟨W1, hW1⟩ : ∃ W1, (w.alloc (.deferred (some []))).alloc (.loop (rec .ready none)) = W1 := ⟨_, rfl⟩
  have hs1 : W1.heap.size = w.heap.size + 2 := by rw [← hW1]; simp
  have hl1 : W1.heap[w.heap.size + 1]? = some (.loop (rec .ready none)) := by
    rw [← hW1]
    have := World.alloc_heap_new (w.alloc (.deferred (some []))) (.loop (rec .ready none))
    rwa [World.size_alloc] at this
  have hd1 : W1.heap[w.heap.size]? = some (.deferred (some [])) := by
    rw [← hW1]
    exact heap_below (below_alloc (Below.refl _ _) _) (World.alloc_heap_new w _)
  have hi1 : I [] W1 := by rw [← hW1]; exact hI.alloc _ (hI.alloc _ h0)
  have hb1 : Below w.heap.size w W1 := by rw [← hW1]; exact below_alloc (below_alloc (Below.refl _ _) _) _
  refine ⟨w.heap.size + 1, [{ target := .collected w.heap.size, args := #[] }], W1, { target := .fn (.func gf) lb, args := #[.func (.yield (w.heap.size + 1)) #[] #[]] },
    W1, gf, #[.func (.yield (w.heap.size + 1)) #[] #[]] ++ lb, W1, ?_, ?_, ?_, ?_, fun _ => h1, ?_⟩
  · rw [← hW1, hrec]; exact run_enterLoop_outer _ _ _ _ _
  · simp only [resolve, hg]
    simp [go_sem]
  · intro f' _; trivial
  · simp [invoke, go_sem, eg]
  have hne : ∀ {X : World} {row : Option Nat}, (∀ r, row = some r → W1.heap.size ≤ r ∧ ∃ o : Obj, X.heap[r]? = some o ∧ o.isCells = false) → ∀ k, k < W1.heap.size → some k ≠ row := fun hr k hk e => by
    have := (hr k e.symm).1
    omega
  refine (hseq (w.heap.size + 1) (fun pre W => I pre W ∧ W.heap[w.heap.size + 1]? = some (.loop (rec .ready none)) ∧ W.heap[w.heap.size]? = some (.deferred (some [])))
    (fun pre W => Ix .ret pre W ∧ W.heap[w.heap.size + 1]? = some (.loop (rec .done (some .ret))) ∧ W.heap[w.heap.size]? = some (.deferred (some []))) W1 hb1 (by omega) ?_ ?_ (fun pre W h => hRq pre W h.1) ?_ ⟨hi1, hl1, hd1⟩).mono ?_
  · intro s X Y row hs hg' hr
    refine ⟨hI s X Y row hs.1 hg' (fun r e => ⟨by have := (hr r e).1; omega, (hr r e).2⟩), ?_, ?_⟩
    · exact (hg'.block _ (Array.getElem?_eq_some_iff.1 hs.2.1).1 (hne hr _ (by omega))).trans hs.2.1
    · exact (hg'.block _ (Array.getElem?_eq_some_iff.1 hs.2.2).1 (hne hr _ (by omega))).trans hs.2.2
  · intro s X Y row hs hg' hr
    refine ⟨hIx _ s X Y row hs.1 hg' (fun r e => ⟨by have := (hr r e).1; omega, (hr r e).2⟩), ?_, ?_⟩
    · exact (hg'.block _ (Array.getElem?_eq_some_iff.1 hs.2.1).1 (hne hr _ (by omega))).trans hs.2.1
    · exact (hg'.block _ (Array.getElem?_eq_some_iff.1 hs.2.2).1 (hne hr _ (by omega))).trans hs.2.2
  · rintro pre x W hpx ⟨hi, hl, hd⟩ hlen
    have hy := run_yield (P := P) (args := encs x) hl (by rw [hrec]; exact hps x)
    rw [hrec] at hy
    refine ⟨fn, _, assign, body, hy, roundIn_of_wpIn hfn (hassign _ pre x W _ hi ?_)⟩
    clear hy
    intro a' Wa hkf hkq hia hax
    have hla := hkf.same _ _ (by omega) hl rfl
    have hda := hkf.same _ _ (Nat.le_refl _) hd rfl
    have hlt := (Array.getElem?_eq_some_iff.1 hla).1
    refine ⟨_, run_beginRound hla (by rw [hrec]), ?_⟩
    have hlb : (Wa.putObj (w.heap.size + 1) (.loop { rec .ready none with state := .busy })).heap[w.heap.size + 1]? = some (.loop { rec .ready none with state := .busy }) := World.putObj_heap_same hlt
    have hdb : (Wa.putObj (w.heap.size + 1) (.loop { rec .ready none with state := .busy })).heap[w.heap.size]? = some (.deferred (some [])) := (World.putObj_heap_other (by omega)).trans hda
    have hqb : KpF f Wa (Wa.putObj (w.heap.size + 1) (.loop { rec .ready none with state := .busy })) := KpF.putObj _ _ _ _ hla rfl
    have hib := hI.putObj (.loop { rec .ready none with state := .busy }) hia (by omega) hla rfl
    have hab := (hAx x a').putObj (s := ()) (.loop { rec .ready none with state := .busy }) hax (by omega) hla rfl
    have hkb := keeps_put Wa (w.heap.size + 1) (.loop { rec .ready none with state := .busy })
    have fin : ∀ (jump : Option Code) (W3 : World), KeepsFrom w.heap.size (Wa.putObj (w.heap.size + 1) (.loop { rec .ready none with state := .busy })) W3 →
        (Instr.endRound (w.heap.size + 1) jump).run P W3 = .ok (.bool jump.isNone) (W3.putObj (w.heap.size + 1) (.loop (rec (if jump.isNone then .ready else .done) jump))) ∧
        W3.heap[w.heap.size + 1]? = some (.loop { rec .ready none with state := .busy }) ∧
        (W3.putObj (w.heap.size + 1) (.loop (rec (if jump.isNone then .ready else .done) jump))).heap[w.heap.size + 1]? = some (.loop (rec (if jump.isNone then .ready else .done) jump)) ∧
        (W3.putObj (w.heap.size + 1) (.loop (rec (if jump.isNone then .ready else .done) jump))).heap[w.heap.size]? = some (.deferred (some [])) := fun jump W3 hk3 => by
      have hl3 := hk3.same _ _ (by omega) hlb rfl
      have := run_endRound (P := P) jump hl3
      rw [hrec] at this ⊢
      exact ⟨this, by rw [hrec] at hl3; exact hl3, World.putObj_heap_same (Array.getElem?_eq_some_iff.1 hl3).1, (World.putObj_heap_other (by omega)).trans (hk3.same _ _ (Nat.le_refl _) hdb rfl)⟩
    refine wpIn_mono (hbody _ pre x a' _ hpx hib hab hlen) ?_
    intro e a3 W3 hp
    cases e with
    | normal =>
      obtain ⟨hk3, hq3, hi3⟩ := hp
      obtain ⟨hr, hl3, hl4, hd4⟩ := fin none W3 hk3
      refine ⟨_, _, hr, .inl ⟨rfl, ⟨hI.putObj _ hi3 (by omega) hl3 rfl, hl4, hd4⟩, ?_, ?_⟩⟩
      · exact hkq.trans (hqb.trans (hq3.trans (KpF.putObj _ _ _ _ hl3 rfl)))
      · exact (keeps_up hkf (by omega)).trans (hkb.trans ((keeps_up hk3 (by omega)).trans (keeps_put W3 (w.heap.size + 1) _)))
    | ret =>
      obtain ⟨hk3, hi3⟩ := hp
      obtain ⟨hr, hl3, hl4, hd4⟩ := fin (some .ret) W3 hk3
      refine ⟨_, _, hr, .inr ⟨rfl, ⟨(hIx _).putObj _ hi3 (by omega) hl3 rfl, hl4, hd4⟩, ?_⟩⟩
      exact (keeps_up hkf (by omega)).trans (hkb.trans ((keeps_up hk3 (by omega)).trans (keeps_put W3 (w.heap.size + 1) _)))
    | exit id => exact hp.elim
    | goto t => exact hp.elim
    | panic ch => exact hp.elim
    | outgrown => exact hp.elim
  · rintro e W2 ⟨⟨v, rfl⟩, ⟨hi, hl, hd⟩ | ⟨pre, x, hpx, hi, hl, hd⟩⟩
    · exact ⟨none, _, by have := run_endLoop (P := P) hl (by rw [hrec]; simp); rw [hrec] at this; exact this, hdone _ _ (Nat.le_refl _) (hI.putObj _ hi (by omega) hl rfl) ((World.putObj_heap_other (by omega)).trans hd)⟩
    · exact ⟨some .ret, _, by have := run_endLoop (P := P) hl (by rw [hrec]; simp); rw [hrec] at this; exact this, hstop _ pre x _ (Nat.le_refl _) hpx ((hIx _).putObj _ hi (by omega) hl rfl) ((World.putObj_heap_other (by omega)).trans hd)⟩
end Go.Proofs.Ytiapimfmnmegpaa.St
