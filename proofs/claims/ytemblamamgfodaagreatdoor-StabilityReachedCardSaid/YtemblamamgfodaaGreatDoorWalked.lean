/- The walk of a clock: a loop over an iterator. -/
import Derived.Test.YtemblamamgfodaaGreatDoorWork
import Derived.Test.YtemblamamgfodaaGreatDoorPlain
import Derived.RangeFuncNested
import Derived.RangeFuncBound
import Derived.RangeFuncCalls
import Derived.RangeFuncLeaves
import Derived.Shelf.Abstract
import Derived.Shelf.RegionOpen
import Derived.OwnWalkIn
import Derived.TacticsInMore
import Derived.LoopNIn
import Derived.LoopIn
namespace Go.Proofs.YtemblamamgfodaaGreatDoor.Wd
open Go Go.RowKit Go.Shelf
attribute [local go_sem] Oper.semAt_some
theorem draws_at (a : Nat) (x y : Int) (w : World) :
    Calls Tryz.prog 140 #[.pointer (some ⟨a, 0, none⟩), .int .i64 x, .int .i64 y] w fun e w' =>
      e = .returned (.func (.func 160) #[] #[.pointer (some ⟨w.heap.size, 0, none⟩), .pointer (some ⟨w.heap.size + 1, 0, none⟩), .pointer (some ⟨w.heap.size + 1 + 1, 0, none⟩)]) ∧
      ((w.alloc (.cells #[.pointer (some ⟨a, 0, none⟩)] 102)).alloc (.cells #[.int .i64 x] 3)).alloc (.cells #[.int .i64 y] 3) = w' := by
  go_enter Tryz.func140, Tryz.ntmps140
  go_wp2
  go_ret
  exact ⟨rfl, rfl⟩
/-- what lies below a block, but for one block, lies as it lay -/
def Keeps (n₀ sb : Nat) (A B : World) : Prop := A.heap.size ≤ B.heap.size ∧ ∀ k, k < n₀ → k ≠ sb → B.heap[k]? = A.heap[k]?
theorem Keeps.trans {n₀ sb : Nat} {A B C : World} (h : Keeps n₀ sb A B) (k : Keeps n₀ sb B C) : Keeps n₀ sb A C :=
  ⟨Nat.le_trans h.1 k.1, fun i h1 h2 => (k.2 i h1 h2).trans (h.2 i h1 h2)⟩
theorem Keeps.refl {n₀ sb : Nat} {A : World} : Keeps n₀ sb A A := ⟨Nat.le_refl _, fun _ _ _ => rfl⟩
theorem Keeps.putObj {n₀ sb : Nat} {w : World} (hn : n₀ ≤ w.heap.size) (W : World) (l : Nat) (o o' : Obj) (hl : w.heap.size ≤ l) (_h : W.heap[l]? = some o) (_ : o.isCells = false) (_ : o.isWalk = false) : Keeps n₀ sb W (W.putObj l o') :=
  ⟨by simp, fun k hk _ => World.putObj_heap_other (by omega)⟩
theorem Keeps.cell {n₀ sb b o : Nat} {A B : World} {v : Value} (h : Keeps n₀ sb A B) (hb : b < n₀) (hs : b ≠ sb) (hc : A.cell? ⟨b, o, none⟩ = some v) : B.cell? ⟨b, o, none⟩ = some v := by
  rw [← hc]; exact World.cell?_of_block (a := ⟨b, o, none⟩) (h.2 b hb hs)
theorem Keeps.of_below {n₀ sb B : Nat} {A C : World} (h : Below B A C) (hn : n₀ ≤ B) : Keeps n₀ sb A C := ⟨h.size, fun k hk _ => h.block k (by omega)⟩
/-- what the iterator reads -/
def DrawsIn (w : World) (B0 B1 B2 a : Nat) (x y seed k walk : Int) : Prop :=
  w.cell? ⟨B0, 0, none⟩ = some (.pointer (some ⟨a, 0, none⟩)) ∧ w.cell? ⟨B1, 0, none⟩ = some (.int .i64 x) ∧ w.cell? ⟨B2, 0, none⟩ = some (.int .i64 y) ∧
  w.cell? ⟨a, 9, none⟩ = some (.int .u64 seed) ∧ w.cell? ⟨a, 10, none⟩ = some (.int .i64 k) ∧ w.cell? ⟨a, 5, none⟩ = some (.int .i64 walk)
theorem DrawsIn.keeps {A B : World} {n₀ sb B0 B1 B2 a : Nat} {x y seed k walk : Int} (h : DrawsIn A B0 B1 B2 a x y seed k walk) (hk : Keeps n₀ sb A B) (h0 : B0 < n₀ ∧ B0 ≠ sb) (h1 : B1 < n₀ ∧ B1 ≠ sb) (h2 : B2 < n₀ ∧ B2 ≠ sb) (h3 : a < n₀ ∧ a ≠ sb) : DrawsIn B B0 B1 B2 a x y seed k walk :=
  ⟨hk.cell h0.1 h0.2 h.1, hk.cell h1.1 h1.2 h.2.1, hk.cell h2.1 h2.2 h.2.2.1, hk.cell h3.1 h3.2 h.2.2.2.1, hk.cell h3.1 h3.2 h.2.2.2.2.1, hk.cell h3.1 h3.2 h.2.2.2.2.2⟩
set_option maxRecDepth 100000 in
set_option maxHeartbeats 2000000 in
theorem draws1_in (n l B0 B1 B2 a n₀ sb : Nat) (x y seed k walk : Int) (h0 : B0 < n₀ ∧ B0 ≠ sb) (h1 : B1 < n₀ ∧ B1 ≠ sb) (h2 : B2 < n₀ ∧ B2 ≠ sb) (h3 : a < n₀ ∧ a ≠ sb)
    (hw : 0 ≤ walk ∧ walk ≤ 1000000000) (hk : 0 ≤ k ∧ k ≤ 16) (hx : 0 ≤ x) (hxy : x ≤ y) (hy : y ≤ 1000000) (hn : 1 ≤ n) (J Jx : List DInt → World → Prop) (W : World)
    (hY : ∀ pre d W1, J pre W1 → pre.length < (y / 100 - x / 100).toNat → YieldAt Fence.wide (n - 1) Tryz.prog l #[.int .i64 d.1] W1 fun e W' =>
      (e = .returned (.bool true) ∧ J (pre ++ [d]) W' ∧ Keeps n₀ sb W1 W') ∨ (e = .returned (.bool false) ∧ Jx (pre ++ [d]) W'))
    (hJ : AbidesFrom W.heap.size J) (hD : DrawsIn W B0 B1 B2 a x y seed k walk) (hJ0 : J [] W) :
    CallsIn Fence.wide n Tryz.prog 160 #[.func (.yield l) #[] #[], .pointer (some ⟨B0, 0, none⟩), .pointer (some ⟨B1, 0, none⟩), .pointer (some ⟨B2, 0, none⟩)] W fun e W' => (∃ v, e = .returned v) ∧
      ((∃ ys, ys = drawL (sourceS seed 1 k) walk (x / 100) hw (y / 100 - x / 100).toNat ∧ J ys W') ∨ (∃ pre, pre <+: drawL (sourceS seed 1 k) walk (x / 100) hw (y / 100 - x / 100).toNat ∧ Jx pre W')) := by
  have hro : Fence.wide.round = none := rfl
  obtain ⟨d0, d1, d2, d3, d4, d5⟩ := hD
  refine callsIn_of_wp Tryz.func160 rfl trivial ?_ hro
  simp only [Tryz.ntmps160, List.size_toArray, List.length_cons, List.length_nil, Nat.reduceAdd, Nat.reduceSub, Array.replicate_succ, Array.replicate_zero, List.push_toArray, List.append_toArray, List.nil_append, List.cons_append]
  refine wpIn_wide.2 ?_
  go_wp2_with fail
  go_quiet ((go_at_call 112; exact quiet_eq (source_any _ _ _ _ (by omega) (by omega) (by omega) (by omega))))
  go_wp2_with fail
  refine (wpIn_wide (n := n)).1 ?_
  have hJ1 : J [] (W.drewN nq) := hJ _ _ _ none hJ0 ⟨rfl, rfl, rfl, Nat.le_refl _, fun _ _ _ => rfl⟩ (fun r e => by cases e)
  have hD1 : DrawsIn (W.drewN nq) B0 B1 B2 a x y seed k walk := ⟨d0, d1, d2, d3, d4, d5⟩
  generalize W.drewN nq = W1 at *
  clear d0 d1 d2 d3 d4 d5 hJ hJ0
  have HD := Lib.hid hD1
  clear hD1
  gi_loopw [6] (fun i wr => ∃ j : Nat, j ≤ (y / 100 - x / 100).toNat ∧ i = .int .i64 (x / 100 + 1 + j) ∧ DrawsIn wr B0 B1 B2 a x y seed k walk ∧ J (drawL (sourceS seed 1 k) walk (x / 100) hw j) wr) (fun i _ => (y / 100 + 1 - intOf i).toNat)
  case atStart => exact ⟨0, Nat.zero_le _, by simp, HD.out, hJ1⟩
  case round =>
    obtain ⟨j, hj, rfl, hD, hJj⟩ := hrel
    by_cases hlt : j < (y / 100 - x / 100).toNat
    · obtain ⟨fn, tmps, assign, body, hy, hR⟩ := hY _ ⟨drawS (sourceS seed 1 k) (x / 100 + j + 1) walk, by have := drawS_bd (sourceS seed 1 k) (x / 100 + j + 1) walk hw.1; omega⟩ wr hJj (by rw [drawL_len]; exact hlt)
      rw [← drawL_succ] at hR
      obtain ⟨d0, d1, d2, d3, d4, d5⟩ := id hD
      have HDD := Lib.hid hD
      clear hD
      have hle : x / 100 + 1 + (j : Int) ≤ y / 100 := by omega
      have e1 : x / 100 + (j : Int) + 1 = x / 100 + 1 + j := by omega
      dsimp only at hy
      generalize hq : x / 100 + (j : Int) + 1 = q at *
      subst e1
      clear hq
      gi_wp2_with (refine ⟨trivial, ?_⟩; gi_at_call 111; refine (callsIn_wide.2 (draw_any _ _ _ _ (by omega) (by omega) (by omega) (by omega))).mono ?_; rintro e w' ⟨rfl, rfl⟩)
      refine hR.mono ?_
      rintro e W3 (⟨rfl, hJ3, hk3⟩ | ⟨rfl, hJx3⟩)
      · gi_wp2
        go_roundw
        case rel => exact ⟨j + 1, by omega, by simp; omega, HDD.out.keeps hk3 h0 h1 h2 h3, hJ3⟩
        case measure => simp [intOf]; omega
      · gi_wp2
        refine bodyPost_ret (results_none rfl _ _ _) rfl ?_
        exact ⟨⟨_, rfl⟩, .inr ⟨_, drawL_prefix _ _ _ _ _ _ (by omega), hJx3⟩⟩
    · obtain ⟨d0, d1, d2, d3, d4, d5⟩ := hD
      have hle : y / 100 < x / 100 + 1 + (j : Int) := by omega
      obtain rfl : j = (y / 100 - x / 100).toNat := by omega
      gi_wp2
      go_end0
      exact ⟨⟨_, rfl⟩, .inl ⟨_, rfl, hJj⟩⟩
theorem draws1_stops (n B0 B1 B2 a n₀ sb : Nat) (x y seed k walk : Int) (h0 : B0 < n₀ ∧ B0 ≠ sb) (h1 : B1 < n₀ ∧ B1 ≠ sb) (h2 : B2 < n₀ ∧ B2 ≠ sb) (h3 : a < n₀ ∧ a ≠ sb)
    (hw : 0 ≤ walk ∧ walk ≤ 1000000000) (hk : 0 ≤ k ∧ k ≤ 16) (hx : 0 ≤ x) (hxy : x ≤ y) (hy : y ≤ 1000000) (hn : 1 ≤ n) (w : World) (hn0 : n₀ ≤ w.heap.size) (hD : DrawsIn w B0 B1 B2 a x y seed k walk) :
    SeqStopsK Fence.wide n Tryz.prog 160 #[.pointer (some ⟨B0, 0, none⟩), .pointer (some ⟨B1, 0, none⟩), .pointer (some ⟨B2, 0, none⟩)] (fun d : DInt => #[.int .i64 d.1]) (Keeps n₀ sb)
      (fun ys => ys = drawL (sourceS seed 1 k) walk (x / 100) hw (y / 100 - x / 100).toNat) (fun pre => pre <+: drawL (sourceS seed 1 k) walk (x / 100) hw (y / 100 - x / 100).toNat) (y / 100 - x / 100).toNat w := by
  intro l J Jx W hW hJ _ hY hJ0
  exact draws1_in n l B0 B1 B2 a n₀ sb x y seed k walk h0 h1 h2 h3 hw hk hx hxy hy hn J Jx W hY hJ (hD.keeps (Keeps.of_below hW hn0) h0 h1 h2 h3) hJ0
set_option maxRecDepth 100000 in
set_option maxHeartbeats 2000000 in
theorem walked_at {a m : Nat} {c : Clk} {seed k : Int} {r : Cham} {v : Value} (x y : Int) (w : World) (h : AtWork w a m c seed k r v) (hc : ClkIn c) (hk : 0 ≤ k ∧ k ≤ 16) (hx : 0 ≤ x) (hxy : x ≤ y) (hy : y ≤ 1000000) :
    Calls Tryz.prog 93 #[.pointer (some ⟨a, 0, none⟩), .int .i64 x, .int .i64 y] w fun e w' => e = .returned (.int .i64 (walkedS seed k c.walk x y)) ∧ Below w.heap.size w w' := by
  refine (callsIn_wide (n := 9)).1 ?_
  have hro : Fence.wide.round = none := rfl
  have h5 := h.nums.2.2.2.2.2.1
  simp only [Nat.zero_add] at h5
  have h9 := h.seed
  have h10 := h.index
  have hza := cell_lt h5
  have hw := hc.walk
  clear h hc
  refine callsIn_of_wp_marks Tryz.func93 rfl trivial ?_ hro
  simp only [Tryz.ntmps93, List.size_toArray, List.length_cons, List.length_nil, Nat.reduceAdd, Nat.reduceSub, Array.replicate_succ, Array.replicate_zero, List.push_toArray, List.append_toArray, List.nil_append, List.cons_append]
  gi_wp2_with (refine ⟨trivial, ?_⟩; gi_at_call 140; refine (callsIn_wide.2 (draws_at _ _ _ _)).mono ?_; rintro e w' ⟨rfl, rfl⟩)
  have hB0 : Below w.heap.size w (((((w.alloc (.cells #[.int .i64 0] 3)).alloc (.cells #[.pointer (some ⟨a, 0, none⟩)] 102)).alloc (.cells #[.int .i64 x] 3)).alloc (.cells #[.int .i64 y] 3))) := by go_grown
  have hD : DrawsIn (((((w.alloc (.cells #[.int .i64 0] 3)).alloc (.cells #[.pointer (some ⟨a, 0, none⟩)] 102)).alloc (.cells #[.int .i64 x] 3)).alloc (.cells #[.int .i64 y] 3))) (w.heap.size + 1) (w.heap.size + 1 + 1) (w.heap.size + 1 + 1 + 1) a x y seed k c.walk :=
    ⟨by simp [go_sem], by simp [go_sem], by simp [go_sem], cell_below hB0 h9, cell_below hB0 h10, cell_below hB0 h5⟩
  refine wpIn_rangeFunc_ownF hro (by decide) (gf := 160) (lb := #[.pointer (some ⟨w.heap.size + 1, 0, none⟩), .pointer (some ⟨w.heap.size + 1 + 1, 0, none⟩), .pointer (some ⟨w.heap.size + 1 + 1 + 1, 0, none⟩)]) rfl trivial (enters_of Tryz.func160 (by kernel_rfl) rfl)
    (draws1_stops 8 (w.heap.size + 1) (w.heap.size + 1 + 1) (w.heap.size + 1 + 1 + 1) a (w.heap.size + 4) w.heap.size x y seed k c.walk (by omega) (by omega) (by omega) (by omega) hw hk hx hxy hy (by decide) _ (by simp) hD) (fun h k => h.trans k) (Keeps.putObj (by simp)) (Below.refl _ _) (fun _ => rfl)
    (fun pre W => (W.cell? ⟨w.heap.size, 0, none⟩ = some (.int .i64 (sumD pre)) ∧ W.frozen? ⟨w.heap.size, 0, none⟩ = false) ∧ Below w.heap.size w W)
    (fun _ _ _ => False)
    (OwnFrom.and (Own.from (fun s A B row hs hg hr => ⟨cell_kept hs.1 hg hr, (frozen_kept hs.1 hg hr).trans hs.2⟩) _) (ownFrom_below (Nat.le_refl _) (by simp; omega)))
    (fun _ _ _ _ _ hs _ _ => hs)
    ⟨⟨by simp [go_sem, sumD], by simp [go_sem]⟩, hB0⟩
    (fun d => { tmps := #[.pointer (some ⟨a, 0, none⟩), .int .i64 x, .int .i64 y, undef, undef, undef, .int .i64 0, .pointer (some ⟨w.heap.size, 0, none⟩), .int .i64 d.1, .pointer (some ⟨a, 0, none⟩), .int .i64 x, .int .i64 y, .func (.func 160) #[] #[.pointer (some ⟨w.heap.size + 1, 0, none⟩), .pointer (some ⟨w.heap.size + 1 + 1, 0, none⟩), .pointer (some ⟨w.heap.size + 1 + 1 + 1, 0, none⟩)], .int .i64 d.1, undef, undef, undef, undef], defers := [] }) ?assign ?body ?done ?stop
  case assign =>
    intro l x W K hK
    gi_wp2
    exact hK
  case body =>
    rintro l pre d W ⟨⟨hc, hf⟩, hB⟩ hlen
    have b1 := sumD_bd pre
    have b2 := d.2
    have b3 : pre.length ≤ 10000 := by omega
    gi_wp2
    exact ⟨KeepsOthers.setCell _ _ _, ⟨by simp, fun k _ hk => Below.heap_setCell _ _ _ _ hk⟩, ⟨by rw [sumD_snoc]; exact World.cell?_setCell_same' _ _ _ (by rw [hc]; rfl), by rw [World.frozen?_setCell]; exact hf⟩, hB.setCell (p := ⟨w.heap.size, 0, none⟩) (Nat.le_refl _) _⟩
  case done =>
    rintro D ys W hD rfl ⟨⟨hc, _⟩, hB⟩ hK
    gi_wp2
    refine ⟨by simp, .inl ⟨_, _, rfl, run_takeDeferred hK, ?_⟩⟩
    exact ⟨_, results_tmp rfl _ _ _, by rw [show walkedS seed k c.walk x y = sumD (drawL (sourceS seed 1 k) c.walk (x / 100) hw (y / 100 - x / 100).toNat) from (sumD_drawL _ _ _ _ _).symm]; rfl, hB.trans (belowK_b (w := w) (Nat.le_refl _) W D _ _ (by simp at hD; omega) hK rfl rfl)⟩
  case stop =>
    rintro D c pre W _ _ h _
    exact h.elim
end Go.Proofs.YtemblamamgfodaaGreatDoor.Wd
