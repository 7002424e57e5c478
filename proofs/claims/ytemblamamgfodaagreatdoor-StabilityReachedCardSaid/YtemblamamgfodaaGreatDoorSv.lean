/- Contracts of layer 3: Exchange where its arguments are allowed. -/
import Derived.Test.YtemblamamgfodaaGreatDoorSu
import Derived.Test.YtemblamamgfodaaGreatDoorStL
namespace Go.Proofs.YtemblamamgfodaaGreatDoor
open Go Go.RowKit Go.Shelf
set_option maxRecDepth 100000 in
set_option maxHeartbeats 2000000 in
theorem Exchange_ok (ba oa ca bb ob cb : Nat) (a b : List Int) (w : World) (ha : 1 ≤ a.length) (hb : 1 ≤ b.length) (h16 : a.length + b.length ≤ 16) (hA : IntsAt w a ba oa) (hB : IntsAt w b bb ob)
    (hP : ∀ i, -1000000000000 ≤ atL (a ++ b) i ∧ atL (a ++ b) i ≤ 1000000000000) :
    Calls Tryz.prog 48 #[.slice (some ⟨ba, oa, none⟩) a.length ca, .slice (some ⟨bb, ob, none⟩) b.length cb] w fun e w' =>
      e = .returned (.tuple #[.agg #[.int .i64 (lowN (exN (a ++ b) a.length) (exS (a ++ b).length a.length 0)), .int .i64 (lowD (exN (a ++ b) a.length) (exS (a ++ b).length a.length 0))], .int .i64 0]) ∧ Below w.heap.size w w' := by
  have a0 := below_alloc (Below.refl w.heap.size w) (.cells #[.int .i64 0, .int .i64 0] 58)
  have a1 := below_alloc a0 (.cells #[.slice (some ⟨ba, oa, none⟩) a.length ca, .slice (some ⟨bb, ob, none⟩) b.length cb] 38)
  have HT := Lib.hid (show TwoAt ((w.alloc (.cells #[.int .i64 0, .int .i64 0] 58)).alloc (.cells #[.slice (some ⟨ba, oa, none⟩) a.length ca, .slice (some ⟨bb, ob, none⟩) b.length cb] 38)) (w.heap.size + 1) a b ba oa ca bb ob cb from ⟨by simp, by simp, hA.below a1, hB.below a1⟩)
  have HC := Lib.hid (concat_any _ _ _ _ _ _ _ a b _ ha hb h16 HT.out)
  have A1 := Lib.hid a1
  have r0 : ((w.alloc (.cells #[.int .i64 0, .int .i64 0] 58)).alloc (.cells #[.slice (some ⟨ba, oa, none⟩) a.length ca, .slice (some ⟨bb, ob, none⟩) b.length cb] 38)).cell? ⟨w.heap.size, 0, none⟩ = some (.int .i64 0) := by simp [go_sem]
  have r1 : ((w.alloc (.cells #[.int .i64 0, .int .i64 0] 58)).alloc (.cells #[.slice (some ⟨ba, oa, none⟩) a.length ca, .slice (some ⟨bb, ob, none⟩) b.length cb] 38)).cell? ⟨w.heap.size, 1, none⟩ = some (.int .i64 0) := by simp [go_sem]
  have q0 : ((w.alloc (.cells #[.int .i64 0, .int .i64 0] 58)).alloc (.cells #[.slice (some ⟨ba, oa, none⟩) a.length ca, .slice (some ⟨bb, ob, none⟩) b.length cb] 38)).frozen? ⟨w.heap.size, 0, none⟩ = false := by simp [go_sem]
  have q1 : ((w.alloc (.cells #[.int .i64 0, .int .i64 0] 58)).alloc (.cells #[.slice (some ⟨ba, oa, none⟩) a.length ca, .slice (some ⟨bb, ob, none⟩) b.length cb] 38)).frozen? ⟨w.heap.size, 1, none⟩ = false := by simp [go_sem]
  have R0 := Lib.hid r0
  have R1 := Lib.hid r1
  have Q0 := Lib.hid q0
  have Q1 := Lib.hid q1
  have hea : ((a.length : Int) == 0) = false := beq_eq_false_iff_ne.2 (by omega)
  have heb : ((b.length : Int) == 0) = false := beq_eq_false_iff_ne.2 (by omega)
  have hsi : (a.length : Int) + b.length ≤ 16 := by omega
  clear hA hB a0 a1 r0 r1 q0 q1 HT
  go_enter Tryz.func48, Tryz.ntmps48
  go_wp2_with fail
  refine HC.out.mono ?_
  rintro e w2 ⟨v, rfl, hrow, hb2⟩
  have hrow' := hrow
  rw [← List.length_append] at hrow'
  obtain ⟨p, cap, rfl, hS, -, hcap⟩ := ints_own hrow'
  have HSP := Lib.hid (show SerIn w2 (a ++ b) p from ⟨by rw [List.length_append]; unfold maxLen; omega, hS⟩)
  have HB2 := Lib.hid (A1.out.trans (hb2.mono A1.out.size))
  have y0 := cell_below hb2 R0.out
  have y1 := cell_below hb2 R1.out
  have f0 := (hb2.frozen (p := ⟨w.heap.size, 0, none⟩) (cell_lt R0.out)).trans Q0.out
  have f1 := (hb2.frozen (p := ⟨w.heap.size, 1, none⟩) (cell_lt R1.out)).trans Q1.out
  have HLN := Lib.hid (show (a ++ b).length = a.length + b.length from List.length_append)
  generalize hP' : a ++ b = P at *
  have HPP := Lib.hid hP'
  have hPl : P.length ≤ 16 := by rw [HLN.out]; exact h16
  have HEX := Lib.hid (exchange_any P p cap a.length w2 ⟨ha, by rw [HLN.out]; omega⟩ hPl hcap hP HSP.out)
  clear hrow hrow' hS hb2 hP' HC R0 R1 Q0 Q1
  go_wp2
  go_loop [31] (fun i => ∃ k : Nat, k ≤ P.length ∧ i = .int .i64 (k : Int)) (fun i => P.length - (intOf i).toNat)
  case atStart => exact ⟨0, Nat.zero_le _, rfl⟩
  case round =>
    obtain ⟨k, hk, rfl⟩ := hrel
    by_cases hlt : k < P.length
    · obtain ⟨bp, op, rfl, hi⟩ := HSP.out.2.resolve_left (by omega)
      have x0 := hi k hlt
      rw [atL_get] at x0
      have hkl : (k : Int) < (P.length : Int) := by omega
      have HW := Lib.hid (fun W => within_yes (atL P k) (-1000000000000) 1000000000000 W (hP k))
      clear hi
      go_wp2_with (go_at_call 27; refine (HW.out _).mono ?_; rintro e w1 ⟨rfl, rfl⟩)
      go_round
      case rel => exact ⟨k + 1, by omega, by go_num⟩
      case measure => simp [intOf]; omega
    · obtain rfl : k = P.length := by omega
      obtain ⟨z0, z1⟩ := set2 (.int .i64 0) (.int .i64 0) y0 y1
      go_wp2_with fail
      refine HEX.out.mono ?_
      rintro e w3 ⟨rfl, hb3⟩
      have g0 := cell_below hb3 y0
      have g1 := cell_below hb3 y1
      have e0 := (hb3.frozen (p := ⟨w.heap.size, 0, none⟩) (cell_lt y0)).trans f0
      have e1 := (hb3.frozen (p := ⟨w.heap.size, 1, none⟩) (cell_lt y1)).trans f1
      obtain ⟨t0, t1⟩ := set2 (.int .i64 (lowN (exN P a.length) (exS P.length a.length 0))) (.int .i64 (lowD (exN P a.length) (exS P.length a.length 0))) g0 g1
      have HB3 := Lib.hid (((HB2.out.trans (hb3.mono HB2.out.size)).setCell (p := ⟨w.heap.size, 0, none⟩) (Nat.le_refl _) (.int .i64 (lowN (exN P a.length) (exS P.length a.length 0)))).setCell (p := ⟨w.heap.size, 1, none⟩) (Nat.le_refl _) (.int .i64 (lowD (exN P a.length) (exS P.length a.length 0))))
      clear hb3 z0 z1
      go_wp2
      exact bodyPost_ret (v := .tuple #[.agg #[.int .i64 (lowN (exN P a.length) (exS P.length a.length 0)), .int .i64 (lowD (exN P a.length) (exS P.length a.length 0))], .int .i64 0]) (by simp [results, Tryz.results48, go_sem, t0, t1]) rfl ⟨by rw [HPP.out], HB3.out⟩
end Go.Proofs.YtemblamamgfodaaGreatDoor
