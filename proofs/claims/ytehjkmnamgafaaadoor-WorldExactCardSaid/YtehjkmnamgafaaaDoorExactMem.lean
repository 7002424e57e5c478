/- WorldExact's own world in memory, and what its phases are. -/
import Derived.Test.YtehjkmnamgafaaaDoorExactLaw
import Derived.Test.YtehjkmnamgafaaaDoorLawIn
namespace Go.Proofs.YtehjkmnamgafaaaDoor
open Go Go.RowKit
def exClks (b : Nat) (start rate : Int) (last : Clk) : List Value :=
  clkCells (tube start rate []) (.slice none 0 0) ++ (clkCells (tube start rate []) (.slice (some ⟨b + 1 + 1 + 1, 0, none⟩) 1 1) ++ (clkCells (tube start rate []) (.slice (some ⟨b + 1 + 1 + 1 + 1, 0, none⟩) 1 1) ++ clkCells last (.slice none 0 0)))
/-- b: the size of memory when the law began -/
structure ExactBlk (w X : World) (seed start rate size sec : Int) (last : Clk) : Prop where
  ev1 : X.heap[w.heap.size + 1 + 1 + 1]? = some (.cells #[.int .i64 2, .int .i64 sec, .int .i64 size] 89 (0, 0))
  ev2 : X.heap[w.heap.size + 1 + 1 + 1 + 1]? = some (.cells #[.int .i64 1, .int .i64 sec, .int .i64 size] 89 (0, 0))
  cham : X.heap[w.heap.size + 1 + 1 + 1 + 1 + 1 + 1]? = some (.cells #[.int .i64 0, .int .i64 0, .int .i64 2] 90 (0, 0))
  clks : X.heap[w.heap.size + 1 + 1 + 1 + 1 + 1 + 1 + 1]? = some (.cells (exClks w.heap.size start rate last).toArray 86 (0, 0))
  box : X.heap[w.heap.size + 1 + 1 + 1 + 1 + 1 + 1 + 1 + 1]? = some (.cells #[.int .u64 seed, .slice (some ⟨w.heap.size + 1 + 1 + 1 + 1 + 1 + 1, 0, none⟩) 1 1, .slice (some ⟨w.heap.size + 1 + 1 + 1 + 1 + 1 + 1 + 1, 0, none⟩) 4 4] 32 (0, 0))
  bel : Below w.heap.size w X
theorem ExactBlk.below {w X Y : World} {seed start rate size sec : Int} {last : Clk} (h : ExactBlk w X seed start rate size sec last) (hb : Below X.heap.size X Y) : ExactBlk w Y seed start rate size sec last :=
  ⟨blk_below h.ev1 hb (heap_lt h.ev1), blk_below h.ev2 hb (heap_lt h.ev2), blk_below h.cham hb (heap_lt h.cham), blk_below h.clks hb (heap_lt h.clks), blk_below h.box hb (heap_lt h.box), h.bel.trans (hb.mono h.bel.size)⟩
theorem exact_new (w : World) (o0 o1 o2 o5 : Obj) (seed start rate size sec : Int) :
    ExactBlk w (((((((((w.alloc o0).alloc o1).alloc o2).alloc (.cells #[.int .i64 2, .int .i64 sec, .int .i64 size] 89)).alloc (.cells #[.int .i64 1, .int .i64 sec, .int .i64 size] 89)).alloc o5).alloc (.cells #[.int .i64 0, .int .i64 0, .int .i64 2] 90)).alloc
      (.cells (exClks w.heap.size start rate ⟨5, 0, 5, 0, 99, 99, 0, 0, []⟩).toArray 86)).alloc (.cells #[.int .u64 seed, .slice (some ⟨w.heap.size + 1 + 1 + 1 + 1 + 1 + 1, 0, none⟩) 1 1, .slice (some ⟨w.heap.size + 1 + 1 + 1 + 1 + 1 + 1 + 1, 0, none⟩) 4 4] 32)).drew
      seed start rate size sec ⟨5, 0, 5, 0, 99, 99, 0, 0, []⟩ := by
  have e : ∀ (V : World) (n : Nat) (o : Obj), V.heap.size = n → (V.alloc o).heap[n]? = some o := fun V n o hn => by subst hn; exact heap_alloc_new V o
  refine ⟨?_, ?_, ?_, ?_, ?_, ?_⟩
  · exact blk_alloc (blk_alloc (blk_alloc (blk_alloc (blk_alloc (e _ _ _ (by simp)) _) _) _) _) _
  · exact blk_alloc (blk_alloc (blk_alloc (blk_alloc (e _ _ _ (by simp)) _) _) _) _
  · exact blk_alloc (blk_alloc (e _ _ _ (by simp)) _) _
  · exact blk_alloc (e _ _ _ (by simp)) _
  · exact e _ _ _ (by simp)
  · exact below_drewN (below_alloc' (below_alloc' (below_alloc' (below_alloc' (below_alloc' (below_alloc' (below_alloc' (below_alloc' (below_alloc' (Below.refl _ _) _) _) _) _) _) _) _) _) _) 1
theorem one_event {X : World} {b : Nat} {k sec size : Int} {t : TypeId} (h : X.heap[b]? = some (.cells #[.int .i64 k, .int .i64 sec, .int .i64 size] t (0, 0))) : EvSlice X [⟨k, sec, size⟩] (.slice (some ⟨b, 0, none⟩) 1 1) :=
  ev_one ⟨blk_cell h 0 _ rfl, blk_cell h 1 _ rfl, blk_cell h 2 _ rfl⟩
theorem clk_cells {X : World} {g o : Nat} {cs : Array Value} {t : TypeId} {c : Clk} {v : Value} (h : X.heap[g]? = some (.cells cs t (0, 0))) (hc : ∀ j u, (clkCells c v)[j]? = some u → cs[o + j]? = some u) (hv : EvSlice X c.evs v) : ClkCells X g o c :=
  ⟨⟨blk_cell h _ _ (hc 0 _ rfl), blk_cell h _ _ (hc 1 _ rfl), blk_cell h _ _ (hc 2 _ rfl), blk_cell h _ _ (hc 3 _ rfl), blk_cell h _ _ (hc 4 _ rfl), blk_cell h _ _ (hc 5 _ rfl), blk_cell h _ _ (hc 6 _ rfl), blk_cell h _ _ (hc 7 _ rfl)⟩, v, blk_cell h _ _ (hc 8 _ rfl), hv⟩
theorem ex_at (b : Nat) (start rate : Int) (last : Clk) (i : Nat) (hi : i < 4) (c : Clk) (v : Value) (hc : ([(tube start rate [], .slice none 0 0), (tube start rate [], .slice (some ⟨b + 1 + 1 + 1, 0, none⟩) 1 1), (tube start rate [], .slice (some ⟨b + 1 + 1 + 1 + 1, 0, none⟩) 1 1), (last, .slice none 0 0)] : List (Clk × Value))[i]? = some (c, v)) :
    ∀ j u, (clkCells c v)[j]? = some u → (exClks b start rate last).toArray[i * 9 + j]? = some u := by
  intro j u hu
  have hj : j < 9 := by
    have := (List.getElem?_eq_some_iff.1 hu).1
    simpa [clkCells] using this
  have e : exClks b start rate last = clRow [(tube start rate [], .slice none 0 0), (tube start rate [], .slice (some ⟨b + 1 + 1 + 1, 0, none⟩) 1 1), (tube start rate [], .slice (some ⟨b + 1 + 1 + 1 + 1, 0, none⟩) 1 1), (last, .slice none 0 0)] := rfl
  rw [e]
  have hg := row_get (fun x : Clk × Value => clkCells x.1 x.2) 9 (fun _ => rfl) [(tube start rate [], .slice none 0 0), (tube start rate [], .slice (some ⟨b + 1 + 1 + 1, 0, none⟩) 1 1), (tube start rate [], .slice (some ⟨b + 1 + 1 + 1 + 1, 0, none⟩) 1 1), (last, .slice none 0 0)] i j (by simpa using hi) hj
  obtain ⟨_, hx⟩ := List.getElem?_eq_some_iff.1 hc
  rw [hx] at hg
  simp only [List.getElem?_toArray]
  exact hg.trans hu
theorem ExactBlk.wld {w X : World} {seed start rate size sec : Int} {last : Clk} (h : ExactBlk w X seed start rate size sec last) (hl : last.evs = []) :
    WldIn X (exactW seed start rate size sec last) (some ⟨w.heap.size + 1 + 1 + 1 + 1 + 1 + 1, 0, none⟩) (some ⟨w.heap.size + 1 + 1 + 1 + 1 + 1 + 1 + 1, 0, none⟩) := by
  refine ⟨by simp [exactW, maxLen], by simp [exactW, maxLen], .inr ⟨_, _, rfl, ?_⟩, .inr ⟨_, _, rfl, ?_⟩⟩
  · intro i hi
    obtain rfl : i = 0 := by simp [exactW] at hi; omega
    exact ⟨blk_cell h.cham 0 _ rfl, blk_cell h.cham 1 _ rfl, blk_cell h.cham 2 _ rfl⟩
  · intro i hi
    have hi4 : i = 0 ∨ i = 1 ∨ i = 2 ∨ i = 3 := by simp [exactW] at hi; omega
    have e1 := one_event h.ev1
    have e2 := one_event h.ev2
    rw [Nat.zero_add]
    rcases hi4 with rfl | rfl | rfl | rfl
    · exact clk_cells (c := tube start rate []) h.clks (ex_at _ start rate last 0 (by decide) _ _ rfl) (ev_nil _)
    · exact clk_cells (c := tube start rate [⟨2, sec, size⟩]) h.clks (ex_at _ start rate last 1 (by decide) (tube start rate []) _ rfl) e1
    · exact clk_cells (c := tube start rate [⟨1, sec, size⟩]) h.clks (ex_at _ start rate last 2 (by decide) (tube start rate []) _ rfl) e2
    · exact clk_cells (c := last) h.clks (ex_at _ start rate last 3 (by decide) last _ rfl) (by rw [hl]; exact ev_nil _)
/-! what the phases are -/
theorem ex_phase0 (seed start rate size sec s : Int) (last : Clk) (hc : checkS (exactW seed start rate size sec last) = 0) (h3 : 0 ≤ s ∧ s ≤ 1000000) : phaseE (exactW seed start rate size sec last) 0 s = ⟨start + rate * s / 1000, 0⟩ := by
  unfold phaseE
  rw [if_pos (exact_find _ 0 s hc rfl h3)]
  have e : phaseS (exactW seed start rate size sec last).seed 0 (clkOf (exactW seed start rate size sec last) 0) (roomOf (exactW seed start rate size sec last) 0) s = start + rate * s / 1000 := by
    show phaseS seed 0 (tube start rate []) _ s = _
    rw [tube_phase]; simp [pastS, pastFrom]
  rw [e]
theorem ex_phase1 (seed start rate size sec s : Int) (last : Clk) (hc : checkS (exactW seed start rate size sec last) = 0) (h3 : 0 ≤ s ∧ s ≤ 1000000) :
    phaseE (exactW seed start rate size sec last) 1 s = ⟨start + (rate * s + if sec ≤ s then size * (s - sec) else 0) / 1000, 0⟩ := by
  unfold phaseE
  rw [if_pos (exact_find _ 1 s hc rfl h3)]
  have e : phaseS (exactW seed start rate size sec last).seed 1 (clkOf (exactW seed start rate size sec last) 1) (roomOf (exactW seed start rate size sec last) 1) s = start + (rate * s + if sec ≤ s then size * (s - sec) else 0) / 1000 := by
    show phaseS seed 1 (tube start rate [⟨2, sec, size⟩]) _ s = _
    rw [tube_phase, past_kick]; split <;> simp
  rw [e]
theorem ex_phase2 (seed start rate size sec s : Int) (last : Clk) (hc : checkS (exactW seed start rate size sec last) = 0) (h3 : 0 ≤ s ∧ s ≤ 1000000) :
    phaseE (exactW seed start rate size sec last) 2 s = ⟨start + rate * s / 1000 + (if sec ≤ s then size else 0), 0⟩ := by
  unfold phaseE
  rw [if_pos (exact_find _ 2 s hc rfl h3)]
  have e : phaseS (exactW seed start rate size sec last).seed 2 (clkOf (exactW seed start rate size sec last) 2) (roomOf (exactW seed start rate size sec last) 2) s = start + rate * s / 1000 + (if sec ≤ s then size else 0) := by
    show phaseS seed 2 (tube start rate [⟨1, sec, size⟩]) _ s = _
    rw [tube_phase, past_step]; split <;> simp
  rw [e]
theorem ex_last (b : Nat) (start rate : Int) :
    (((((((((exClks b start rate ⟨5, 0, 5, 0, 99, 99, 0, 0, []⟩).toArray.setIfInBounds 27 (.int .i64 4)).setIfInBounds 28 (.int .i64 0)).setIfInBounds 29 (.int .i64 0)).setIfInBounds 30 (.int .i64 0)).setIfInBounds 31 (.int .i64 0)).setIfInBounds 32 (.int .i64 0)).setIfInBounds 33 (.int .i64 0)).setIfInBounds 34 (.int .i64 0)).setIfInBounds 35 (.slice none 0 0)
      = (exClks b start rate ⟨4, 0, 0, 0, 0, 0, 0, 0, []⟩).toArray := by
  simp [exClks, clkCells, tube]
theorem ExactBlk.stored {w X : World} {seed start rate size sec : Int} (h : ExactBlk w X seed start rate size sec ⟨5, 0, 5, 0, 99, 99, 0, 0, []⟩) :
    ExactBlk w ((((((((((X.setCell ⟨w.heap.size + 1 + 1 + 1 + 1 + 1 + 1 + 1, 27, none⟩ (.int .i64 4)).setCell ⟨w.heap.size + 1 + 1 + 1 + 1 + 1 + 1 + 1, 28, none⟩ (.int .i64 0)).setCell ⟨w.heap.size + 1 + 1 + 1 + 1 + 1 + 1 + 1, 29, none⟩ (.int .i64 0)).setCell ⟨w.heap.size + 1 + 1 + 1 + 1 + 1 + 1 + 1, 30, none⟩ (.int .i64 0)).setCell ⟨w.heap.size + 1 + 1 + 1 + 1 + 1 + 1 + 1, 31, none⟩ (.int .i64 0)).setCell ⟨w.heap.size + 1 + 1 + 1 + 1 + 1 + 1 + 1, 32, none⟩ (.int .i64 0)).setCell ⟨w.heap.size + 1 + 1 + 1 + 1 + 1 + 1 + 1, 33, none⟩ (.int .i64 0)).setCell ⟨w.heap.size + 1 + 1 + 1 + 1 + 1 + 1 + 1, 34, none⟩ (.int .i64 0)).setCell ⟨w.heap.size + 1 + 1 + 1 + 1 + 1 + 1 + 1, 35, none⟩ (.slice none 0 0)).setCell ⟨w.heap.size + 1 + 1 + 1 + 1 + 1 + 1 + 1 + 1, 0, none⟩ (.int .u64 1)) 1 start rate size sec ⟨4, 0, 0, 0, 0, 0, 0, 0, []⟩ := by
  refine ⟨?_, ?_, ?_, ?_, ?_, ?_⟩
  · (repeat (refine blk_set_far _ ?_ (by dsimp only; omega))); exact h.ev1
  · (repeat (refine blk_set_far _ ?_ (by dsimp only; omega))); exact h.ev2
  · (repeat (refine blk_set_far _ ?_ (by dsimp only; omega))); exact h.cham
  · refine blk_set_far _ ?_ (by dsimp only; omega)
    have e := blk_set 35 (.slice none 0 0) (blk_set 34 (.int .i64 0) (blk_set 33 (.int .i64 0) (blk_set 32 (.int .i64 0) (blk_set 31 (.int .i64 0) (blk_set 30 (.int .i64 0) (blk_set 29 (.int .i64 0) (blk_set 28 (.int .i64 0) (blk_set 27 (.int .i64 4) h.clks))))))))
    rw [ex_last] at e
    exact e
  · have e : ((((((((((X.setCell ⟨w.heap.size + 1 + 1 + 1 + 1 + 1 + 1 + 1, 27, none⟩ (.int .i64 4)).setCell ⟨w.heap.size + 1 + 1 + 1 + 1 + 1 + 1 + 1, 28, none⟩ (.int .i64 0)).setCell ⟨w.heap.size + 1 + 1 + 1 + 1 + 1 + 1 + 1, 29, none⟩ (.int .i64 0)).setCell ⟨w.heap.size + 1 + 1 + 1 + 1 + 1 + 1 + 1, 30, none⟩ (.int .i64 0)).setCell ⟨w.heap.size + 1 + 1 + 1 + 1 + 1 + 1 + 1, 31, none⟩ (.int .i64 0)).setCell ⟨w.heap.size + 1 + 1 + 1 + 1 + 1 + 1 + 1, 32, none⟩ (.int .i64 0)).setCell ⟨w.heap.size + 1 + 1 + 1 + 1 + 1 + 1 + 1, 33, none⟩ (.int .i64 0)).setCell ⟨w.heap.size + 1 + 1 + 1 + 1 + 1 + 1 + 1, 34, none⟩ (.int .i64 0)).setCell ⟨w.heap.size + 1 + 1 + 1 + 1 + 1 + 1 + 1, 35, none⟩ (.slice none 0 0))).heap[w.heap.size + 1 + 1 + 1 + 1 + 1 + 1 + 1 + 1]? = some (.cells #[.int .u64 seed, .slice (some ⟨w.heap.size + 1 + 1 + 1 + 1 + 1 + 1, 0, none⟩) 1 1, .slice (some ⟨w.heap.size + 1 + 1 + 1 + 1 + 1 + 1 + 1, 0, none⟩) 4 4] 32 (0, 0)) := by
      (repeat (refine blk_set_far _ ?_ (by dsimp only; omega))); exact h.box
    have e2 := blk_set 0 (.int .u64 1) e
    rw [show (#[.int .u64 seed, .slice (some ⟨w.heap.size + 1 + 1 + 1 + 1 + 1 + 1, 0, none⟩) 1 1, .slice (some ⟨w.heap.size + 1 + 1 + 1 + 1 + 1 + 1 + 1, 0, none⟩) 4 4] : Array Value).setIfInBounds 0 (.int .u64 1) = #[.int .u64 1, .slice (some ⟨w.heap.size + 1 + 1 + 1 + 1 + 1 + 1, 0, none⟩) 1 1, .slice (some ⟨w.heap.size + 1 + 1 + 1 + 1 + 1 + 1 + 1, 0, none⟩) 4 4] from rfl] at e2
    exact e2
  · (repeat (refine Below.setCell ?_ (by dsimp only; omega) _)); exact h.bel
end Go.Proofs.YtehjkmnamgafaaaDoor
