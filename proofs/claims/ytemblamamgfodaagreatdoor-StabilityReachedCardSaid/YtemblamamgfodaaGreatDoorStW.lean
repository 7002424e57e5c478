/- Contracts of layer 3: a part. -/
import Derived.Test.YtemblamamgfodaaGreatDoorStN
namespace Go.Proofs.YtemblamamgfodaaGreatDoor
open Go Go.RowKit Go.Shelf
def I64 (x : Int) : Prop := -9223372036854775808 ≤ x ∧ x ≤ 9223372036854775807
def lowB (n d : Int) : Bool := decide (1 ≤ d) && decide (gcdS n d = 1)
set_option maxHeartbeats 1000000 in
theorem isLow_any (n d : Int) (w : World) (hn : I64 n) (hd : I64 d) :
    Calls Tryz.prog 131 #[.agg #[.int .i64 n, .int .i64 d]] w fun e w' => e = .returned (.bool (lowB n d)) ∧ Below w.heap.size w w' := by
  unfold I64 at hn hd
  have a0 := below_alloc (Below.refl w.heap.size w) (.cells #[.int .i64 n, .int .i64 d] 58)
  have A0 := Lib.hid a0
  clear a0
  by_cases h1 : 1 ≤ d
  · have HC := Lib.hid (fun W => divisor_any n d W hn (by omega))
    have HE := Lib.hid (show lowB n d = decide (gcdS n d = 1) by simp [lowB, h1])
    rw [HE.out]
    clear HE
    by_cases hg : gcdS n d = 1
    · have HG := Lib.hid hg
      rw [show decide (gcdS n d = 1) = true by simp [hg]]
      clear hg
      go_enter Tryz.func131, Tryz.ntmps131
      go_wp2_with fail
      refine (HC.out _).mono ?_
      rintro e w1 ⟨rfl, hb⟩
      rw [HG.out]
      have HB := Lib.hid (A0.out.trans (hb.mono A0.out.size))
      clear hb
      go_wp2
      go_ret
      exact ⟨rfl, HB.out⟩
    · have hne : (gcdS n d == 1) = false := by simpa using hg
      rw [show decide (gcdS n d = 1) = false by simp [hg]]
      generalize gcdS n d = gv at *
      clear hg
      go_enter Tryz.func131, Tryz.ntmps131
      go_wp2_with fail
      refine (HC.out _).mono ?_
      rintro e w1 ⟨rfl, hb⟩
      have HB := Lib.hid (A0.out.trans (hb.mono A0.out.size))
      clear hb
      go_wp2
      go_ret
      exact ⟨rfl, HB.out⟩
  · rw [show lowB n d = false by simp [lowB, h1]]
    go_enter Tryz.func131, Tryz.ntmps131
    go_wp2
    go_ret
    exact ⟨rfl, A0.out⟩
def partB (n d : Int) : Bool := lowB n d && decide (d ≤ 1000000) && (decide (0 ≤ n) && decide (n ≤ d))
set_option maxHeartbeats 1000000 in
theorem isPart_any (n d : Int) (w : World) (hn : I64 n) (hd : I64 d) :
    Calls Tryz.prog 85 #[.agg #[.int .i64 n, .int .i64 d]] w fun e w' => e = .returned (.bool (partB n d)) ∧ Below w.heap.size w w' := by
  have a0 := below_alloc (Below.refl w.heap.size w) (.cells #[.int .i64 n, .int .i64 d] 58)
  have A0 := Lib.hid a0
  have HC := Lib.hid (isLow_any n d (w.alloc (.cells #[.int .i64 n, .int .i64 d] 58)) hn hd)
  have c0 : (w.alloc (.cells #[.int .i64 n, .int .i64 d] 58)).cell? ⟨w.heap.size, 0, none⟩ = some (.int .i64 n) := by simp
  have c1 : (w.alloc (.cells #[.int .i64 n, .int .i64 d] 58)).cell? ⟨w.heap.size, 1, none⟩ = some (.int .i64 d) := by simp
  have C0 := Lib.hid c0
  have C1 := Lib.hid c1
  clear a0 c0 c1
  by_cases hl : lowB n d = true
  · have HL := Lib.hid hl
    by_cases h6 : d ≤ 1000000
    · rw [show partB n d = (decide (0 ≤ n) && decide (n ≤ d)) by simp [partB, hl, h6]]
      generalize hbv : (decide (0 ≤ n) && decide (n ≤ d)) = bv
      have HW := Lib.hid (fun W => within_any n 0 d W)
      rw [hbv] at HW
      clear hl hbv
      go_enter Tryz.func85, Tryz.ntmps85
      go_wp2_with fail
      refine HC.out.mono ?_
      rintro e w1 ⟨rfl, hb⟩
      rw [HL.out]
      have x0 := cell_below hb C0.out
      have x1 := cell_below hb C1.out
      have HB := Lib.hid (A0.out.trans (hb.mono A0.out.size))
      clear hb
      go_wp2_with (go_at_call 27; refine (HW.out _).mono ?_; rintro e w2 ⟨rfl, rfl⟩)
      cases bv
      all_goals
        go_wp2
        go_ret
        exact ⟨rfl, HB.out⟩
    · rw [show partB n d = false by simp [partB, h6]]
      clear hl
      go_enter Tryz.func85, Tryz.ntmps85
      go_wp2_with fail
      refine HC.out.mono ?_
      rintro e w1 ⟨rfl, hb⟩
      rw [HL.out]
      have x0 := cell_below hb C0.out
      have x1 := cell_below hb C1.out
      have HB := Lib.hid (A0.out.trans (hb.mono A0.out.size))
      clear hb
      go_wp2
      go_ret
      exact ⟨rfl, HB.out⟩
  · have HL := Lib.hid (show lowB n d = false by simpa using hl)
    rw [show partB n d = false by simp [partB, HL.out]]
    clear hl
    go_enter Tryz.func85, Tryz.ntmps85
    go_wp2_with fail
    refine HC.out.mono ?_
    rintro e w1 ⟨rfl, hb⟩
    rw [HL.out]
    have HB := Lib.hid (A0.out.trans (hb.mono A0.out.size))
    clear hb
    go_wp2
    go_ret
    exact ⟨rfl, HB.out⟩
end Go.Proofs.YtemblamamgfodaaGreatDoor
