/- Stage 6 (steer): the first element whose cost is the least. -/
import Derived.Test.YtiapimfmnmegpaaZth
namespace Go.Proofs.Ytiapimfmnmegpaa.St
open Go Go.RowKit Go.Shelf
attribute [local go_sem] Oper.semAt_some
def bstep {α : Type} (v c : α → Int) (s : Int × Int × Bool) (x : α) : Int × Int × Bool := if s.2.2 = false ∨ c x < s.2.1 then (v x, c x, true) else s
def bestS {α : Type} (v c : α → Int) (l : List α) : Int × Int × Bool := l.foldl (bstep v c) (0, 0, false)
theorem bestS_snoc {α : Type} (v c : α → Int) (l : List α) (x : α) : bestS v c (l ++ [x]) = bstep v c (bestS v c l) x := by simp [bestS]
/-- what best's loop may write: its three variables -/
def bestF (n k : Nat) (t : TypeId) : Prop := (t ≠ 3 ∧ t ≠ 4) ∨ (k ≠ n + 1 ∧ k ≠ n + 1 + 1 ∧ k ≠ n + 1 + 1 + 1)
structure BestAt (n : Nat) (w : World) (gc : Nat) (lc : Array Value) (s : Int × Int × Bool) (X : World) : Prop where
  c : Boxed X n 91 (.func (.func gc) #[] lc)
  a : Boxed X (n + 1) 3 (.int .i64 s.1)
  b : Boxed X (n + 1 + 1) 3 (.int .i64 s.2.1)
  i : Boxed X (n + 1 + 1 + 1) 4 (.bool s.2.2)
  bel : Below n w X
set_option maxRecDepth 100000 in
set_option maxHeartbeats 4000000 in
theorem best_any {α : Type} (gf : Nat) (lb : Array Value) (eg : ∀ args w, (callFunc gf args).run Try.prog w = .ok (.enter gf args) w) (v cst : α → Int) (Px : α → Prop) (all : List α) (N : Nat) (gc : Nat) (lc : Array Value) (ec : ∀ args w, (callFunc gc args).run Try.prog w = .ok (.enter gc args) w) (w : World)
    (hseq : ∀ w', Below w.heap.size w w' → w'.heap.size = w.heap.size + 4 → SeqF 8 Try.prog gf lb (fun x => #[.int .i64 (v x)]) (KpF (bestF w.heap.size)) (fun _ => True) Px all N w')
    (hcost : ∀ x X, Px x → Below w.heap.size w X → Calls Try.prog gc (#[.int .i64 (v x)] ++ lc) X fun e w' => e = .returned (.int .i64 (cst x)) ∧ Below X.heap.size X w') :
    Calls Try.prog 50 #[.func (.func gf) #[] lb, .func (.func gc) #[] lc] w fun e w' => e = .returned (.tuple #[.int .i64 (bestS v cst all).1, .bool (bestS v cst all).2.2]) ∧ Below w.heap.size w w' := by
  have HSEQ := Lib.hid hseq
  have HCO := Lib.hid hcost
  clear hseq hcost
  refine (callsIn_wide (n := 9)).1 ?_
  have hro : Fence.wide.round = none := rfl
  refine callsIn_of_wp_marks Try.func50 rfl trivial ?_ hro
  simp only [Try.ntmps50, List.size_toArray, List.length_cons, List.length_nil, Nat.reduceAdd, Nat.reduceSub, Array.replicate_succ, Array.replicate_zero, List.push_toArray, List.append_toArray, List.nil_append, List.cons_append]
  refine wpIn_wide.2 ?_
  go_wp2
  obtain ⟨W0, hW0⟩ : ∃ W0, (((w.alloc (.cells #[.func (.func gc) #[] lc] 91)).alloc (.cells #[.int .i64 0] 3)).alloc (.cells #[.int .i64 0] 3)).alloc (.cells #[.bool false] 4) = W0 := ⟨_, rfl⟩
  have hB0 : Below w.heap.size w W0 := by
    rw [← hW0]
    exact below_alloc (below_alloc (below_alloc (below_alloc (Below.refl _ _) _) _) _) _
  have hsz : W0.heap.size = w.heap.size + 4 := by rw [← hW0]; simp
  have hA : BestAt w.heap.size w gc lc (0, 0, false) W0 := by
    refine ⟨?_, ?_, ?_, ?_, hB0⟩
    · rw [← hW0]
      exact (((Boxed.new w _ _).alloc _).alloc _).alloc _
    · rw [← hW0]
      have := (((Boxed.new (w.alloc (.cells #[.func (.func gc) #[] lc] 91)) 3 (.int .i64 0))).alloc (.cells #[.int .i64 0] 3)).alloc (.cells #[.bool false] 4)
      simpa using this
    · rw [← hW0]
      have := (Boxed.new ((w.alloc (.cells #[.func (.func gc) #[] lc] 91)).alloc (.cells #[.int .i64 0] 3)) 3 (.int .i64 0)).alloc (.cells #[.bool false] 4)
      simpa using this
    · rw [← hW0]
      have := Boxed.new (((w.alloc (.cells #[.func (.func gc) #[] lc] 91)).alloc (.cells #[.int .i64 0] 3)).alloc (.cells #[.int .i64 0] 3)) 4 (.bool false)
      simpa using this
  rw [hW0]
  clear hW0
  have HST := HSEQ.out W0 hB0 hsz
  have hwn : w.heap.size < W0.heap.size := by omega
  clear HSEQ
  refine (wpIn_wide (n := 9)).1 ?_
  refine range_f (by decide) (gf := gf) (lb := lb) rfl eg HST (fun _ => rfl)
    (fun pre X => BestAt w.heap.size w gc lc (bestS v cst pre) X) (fun _ _ _ => False)
    (fun s X Y row hs hg hr => ⟨cells_grown hg hr hs.c, cells_grown hg hr hs.a, cells_grown hg hr hs.b, cells_grown hg hr hs.i, hs.bel.grown hg hs.bel.size (fun k e => by have := (hr k e).1; omega)⟩)
    (fun _ _ _ _ _ hs _ _ => hs) (fun _ _ _ => trivial) hA
    (fun x a' X => a' = { tmps := #[.func (.func gf) #[] lb, .func (.func gc) #[] lc, undef, .pointer (some ⟨w.heap.size, 0, none⟩), .int .i64 0, .bool false, .pointer (some ⟨w.heap.size + 1, 0, none⟩), .pointer (some ⟨w.heap.size + 1 + 1, 0, none⟩), .pointer (some ⟨w.heap.size + 1 + 1 + 1, 0, none⟩), .int .i64 (v x), undef, .func (.func gf) #[] lb, .int .i64 (v x), undef, undef, undef, undef, undef, undef, undef, undef, undef, undef, undef, undef, undef, undef], defers := [] })
    (fun _ _ _ _ _ _ hs _ _ => hs) ?assign ?body ?done ?stop
  case assign =>
    rintro l2 pre x X K i1 hK
    gi_wp2
    exact hK _ _ (KeepsFrom.refl _ _) (KpF.refl _ _) i1 rfl
  case stop =>
    rintro D pre x X _ _ h _
    exact h.elim
  case done =>
    rintro D X hD i1 hK
    have a0 := i1.a.cell
    have b0 := i1.i.cell
    have za := cell_lt a0
    have zb := cell_lt b0
    have HB := Lib.hid i1.bel
    obtain ⟨x1, x2, x3⟩ := bestS v cst all
    dsimp only at a0 b0 ⊢
    go_wp2_with fail
    go_region
    have hK2 : X.drew.heap[D]? = some (.deferred (some [])) := hK
    go_wp2_with fail
    refine ⟨by simp, .inl ⟨_, _, rfl, run_takeDeferred hK2, ?_⟩⟩
    refine ⟨_, results_tmp2 rfl _ _ _, rfl, ?_⟩
    exact (Below.drew HB.out).grown (grownBy_putObj' _ D _) (by have := HB.out.size; simpa using this) (fun k e => by cases e; omega)
  case body =>
    rintro l2 pre x a' X hpx i1 rfl hlen
    have u0 := i1.c.cell
    have zu := cell_lt u0
    have HCX := Lib.hid (HCO.out x X hpx i1.bel)
    have HS := Lib.hid (bestS_snoc v cst pre x)
    obtain ⟨s, hs⟩ : ∃ s, bestS v cst pre = s := ⟨_, rfl⟩
    rw [hs] at i1 HS
    clear hs
    obtain ⟨sa, sb, si⟩ := s
    gi_wp2
    refine ⟨trivial, (CallsIn.inRound l2 (callsIn_wide.2 HCX.out)).mono ?_⟩
    rintro e X2 ⟨rfl, hb2⟩
    have HI := Lib.hid (show BestAt w.heap.size w gc lc (sa, sb, si) X2 from ⟨box_bel i1.c hb2, box_bel i1.a hb2, box_bel i1.b hb2, box_bel i1.i hb2, i1.bel.trans (hb2.mono i1.bel.size)⟩)
    have HB2 := Lib.hid hb2
    have HX0 := Lib.hid (show w.heap.size + 4 ≤ X2.heap.size by have := i1.i.lt; have := hb2.size; omega)
    clear u0 zu HCX hb2 i1
    have a0 := HI.out.a.cell
    have b0 := HI.out.b.cell
    have c0 := HI.out.i.cell
    have za := cell_lt a0
    have zb := cell_lt b0
    have zc := cell_lt c0
    have fa := HI.out.a.frozen
    have fb := HI.out.b.frozen
    have fc := HI.out.i.frozen
    dsimp only at a0 b0 c0
    have HF1 := Lib.hid (show ¬ bestF w.heap.size (w.heap.size + 1) 3 by unfold bestF; rintro (⟨h, _⟩ | ⟨h, _⟩) <;> exact h rfl)
    have HF2 := Lib.hid (show ¬ bestF w.heap.size (w.heap.size + 1 + 1) 3 by unfold bestF; rintro (⟨h, _⟩ | ⟨_, h, _⟩) <;> exact h rfl)
    have HF3 := Lib.hid (show ¬ bestF w.heap.size (w.heap.size + 1 + 1 + 1) 4 by unfold bestF; rintro (⟨_, h⟩ | ⟨_, _, h⟩) <;> exact h rfl)
    have HSET := Lib.hid (show (bstep v cst (sa, sb, si) x = (v x, cst x, true)) → KeepsFrom W0.heap.size X (((X2.setCell ⟨w.heap.size + 1, 0, none⟩ (.int .i64 (v x))).setCell ⟨w.heap.size + 1 + 1, 0, none⟩ (.int .i64 (cst x))).setCell ⟨w.heap.size + 1 + 1 + 1, 0, none⟩ (.bool true)) ∧
        KpF (bestF w.heap.size) X (((X2.setCell ⟨w.heap.size + 1, 0, none⟩ (.int .i64 (v x))).setCell ⟨w.heap.size + 1 + 1, 0, none⟩ (.int .i64 (cst x))).setCell ⟨w.heap.size + 1 + 1 + 1, 0, none⟩ (.bool true)) ∧
        BestAt w.heap.size w gc lc (bestS v cst (pre ++ [x])) (((X2.setCell ⟨w.heap.size + 1, 0, none⟩ (.int .i64 (v x))).setCell ⟨w.heap.size + 1 + 1, 0, none⟩ (.int .i64 (cst x))).setCell ⟨w.heap.size + 1 + 1 + 1, 0, none⟩ (.bool true)) from fun hst => by
      have h1 := HI.out
      obtain ⟨k0, k1, k2, k3, k4⟩ := h1
      refine ⟨?_, ?_, ?_⟩
      · exact (keeps_below HB2.out).trans (((KeepsOthers.setCell _ _ _).trans ((KeepsOthers.setCell _ _ _).trans (KeepsOthers.setCell _ _ _))).from _)
      · have e1 := KpF.set (o := 0) k1 HF1.out (.int .i64 (v x))
        have k2' := k2.other (show w.heap.size + 1 + 1 ≠ w.heap.size + 1 by omega) (.int .i64 (v x))
        have e2 := KpF.set (o := 0) k2' HF2.out (.int .i64 (cst x))
        have k3' := (k3.other (show w.heap.size + 1 + 1 + 1 ≠ w.heap.size + 1 by omega) (.int .i64 (v x))).other (show w.heap.size + 1 + 1 + 1 ≠ w.heap.size + 1 + 1 by omega) (.int .i64 (cst x))
        have e3 := KpF.set (o := 0) k3' HF3.out (.bool true)
        exact (KpF.of_below HB2.out).trans (e1.trans (e2.trans e3))
      · rw [HS.out, hst]
        refine ⟨?_, ?_, ?_, ?_, ?_⟩
        · exact ((k0.other (by omega) _).other (by omega) _).other (by omega) _
        · exact ((k1.set _).other (by omega) _).other (by omega) _
        · exact ((k2.other (by omega) _).set _).other (by omega) _
        · exact ((k3.other (by omega) _).other (by omega) _).set _
        · exact (((k4.setCell (p := ⟨w.heap.size + 1, 0, none⟩) (by show _ ≤ w.heap.size + 1; omega) _)).setCell (p := ⟨w.heap.size + 1 + 1, 0, none⟩) (by show _ ≤ w.heap.size + 1 + 1; omega) _).setCell (p := ⟨w.heap.size + 1 + 1 + 1, 0, none⟩) (by show _ ≤ w.heap.size + 1 + 1 + 1; omega) _)
    cases si
    · have HST2 := Lib.hid (HSET.out (by unfold bstep; rw [if_pos (.inl rfl)]))
      clear HSET HF1 HF2 HF3
      gi_wp2
      exact HST2.out
    · by_cases hlt : cst x < sb
      · have HST2 := Lib.hid (HSET.out (by unfold bstep; rw [if_pos (.inr hlt)]))
        clear HSET HF1 HF2 HF3
        gi_wp2
        exact HST2.out
      · have HST2 := Lib.hid (show bstep v cst (sa, sb, true) x = (sa, sb, true) by unfold bstep; rw [if_neg (by rintro (h | h); cases h; exact hlt h)])
        clear HSET HF1 HF2 HF3
        gi_wp2
        refine ⟨keeps_below HB2.out, KpF.of_below HB2.out, ?_⟩
        show BestAt w.heap.size w gc lc (bestS v cst (pre ++ [x])) X2
        rw [HS.out, HST2.out]
        exact HI.out
end Go.Proofs.Ytiapimfmnmegpaa.St
