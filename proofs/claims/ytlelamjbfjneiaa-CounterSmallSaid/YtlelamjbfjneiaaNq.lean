/- Contracts of layer 2: the step back of contradiction. -/
import Derived.Test.YtlelamjbfjneiaaNj
namespace Go.Proofs.Ytlelamjbfjneiaa.Ct
open Go Go.RowKit Go.Shelf
attribute [local go_sem] Oper.semAt_some
attribute [local go_sem] limit_f0 limit_f1
set_option maxRecDepth 100000 in
set_option maxHeartbeats 8000000 in
theorem back_any (n k j : Nat) (up : Bool) (B6 B3 g : Nat) (l : List Bnd) (p : Option Addr) (cap : Nat) (w : World) (h6 : w.cell? ⟨B6, 0, none⟩ = some (.slice (some ⟨g, 0, none⟩) n n)) (h3 : w.cell? ⟨B3, 0, none⟩ = some (.slice p l.length cap)) (hl : BndsIn w l p)
    (hk : k < n) (_hn : n ≤ 16) (_h240 : l.length ≤ 240) (hj : j < l.length) (x0 : w.cell? ⟨g, k * 2, none⟩ = some (.int .i64 (j : Int))) (x1 : w.cell? ⟨g, k * 2 + 1, none⟩ = some (.bool up))
    (hlo : -1000000000000000 ≤ (bndAt l j).lo ∧ (bndAt l j).lo ≤ 1000000000000000) :
    Calls Try.prog 49 #[.int .i64 (k : Int), .pointer (some ⟨B6, 0, none⟩), .pointer (some ⟨B3, 0, none⟩)] w fun e w' => e = .returned (.int .i64 (limOf (bndAt l j) up).s) ∧ Below w.heap.size w w' := by
  obtain ⟨pb, po, rfl, hbc⟩ := bnd_cells hl hj
  have HLO := Lib.hid hlo
  generalize bndAt l j = X1 at *
  obtain ⟨a1, b1, lo1, hi1⟩ := X1
  obtain ⟨⟨d0, d1⟩, d2, d3⟩ := hbc
  dsimp only at d0 d1 d2 d3
  have BB := below_alloc (Below.refl w.heap.size w) (.cells #[.int .i64 (j : Int), .bool up] 41)
  have HUA : Hid (UseAt (w.alloc (.cells #[.int .i64 (j : Int), .bool up] 41)) w.heap.size j up pb po a1 b1 lo1 hi1) := Lib.hid ⟨by simp, by simp, cell_below BB d0, cell_below BB d1, cell_below BB d2, cell_below BB d3⟩
  have H3 := Lib.hid (cell_below BB h3)
  have HBB := Lib.hid BB
  have hki : (k : Int) < n := by omega
  have hji : (j : Int) < l.length := by omega
  have hz6 := cell_lt h6
  have hzg := cell_lt x0
  obtain ⟨⟨lf, ls, lm⟩, hY1⟩ : ∃ y, limOf ⟨a1, b1, lo1, hi1⟩ up = y := ⟨_, rfl⟩
  have HY1 := Lib.hid hY1
  rw [hY1]
  dsimp only
  clear hY1 BB hl hlo
  go_enter Try.func49, Try.ntmps49
  go_upto_region 2 with fail
  generalize w.alloc (.cells #[.int .i64 (j : Int), .bool up] 41) = Y at *
  clear h6 h3 x0 x1 d0 d1 d2 d3 hz6 hzg
  have c3 := H3.out
  have hz3 := cell_lt c3
  obtain ⟨c0, c1, d0, d1, d2, d3⟩ := HUA.out
  have hz := cell_lt c0
  have hzd := cell_lt d0
  have hB0 : Below Y.heap.size Y Y.drew := Below.drew (Below.refl _ _)
  go_region_held3 (fun w' => Below Y.heap.size Y w' ∧ w'.cell? ⟨w.heap.size, 0, none⟩ = some (.int .i64 (j : Int)) ∧ w'.cell? ⟨w.heap.size, 1, none⟩ = some (.bool up) ∧ w'.cell? ⟨pb, po + j * 4, none⟩ = some (.int .i64 a1) ∧ w'.cell? ⟨pb, po + j * 4 + 1, none⟩ = some (.int .i64 b1) ∧ w'.cell? ⟨pb, po + j * 4 + 2, none⟩ = some (.int .i64 lo1) ∧ w'.cell? ⟨pb, po + j * 4 + 3, none⟩ = some (.int .i64 hi1) ∧ w'.cell? ⟨B3, 0, none⟩ = some (.slice (some ⟨pb, po, none⟩) l.length cap))
    (first | exact HUA.out.keepL c3 hB0 | exact HUA.out.keepL c3 hb2)
    (first | (go_at_call 48; refine (limit_bare Y ⟨a1, b1, lo1, hi1⟩ up lf ls lm HY1.out HLO.out).mono ?_; rintro e w2 ⟨rfl, hb2⟩))
  all_goals
    go_wp2_with fail
    go_ret
    exact ⟨rfl, HBB.out.trans (hb2.mono HBB.out.size)⟩
end Go.Proofs.Ytlelamjbfjneiaa.Ct
