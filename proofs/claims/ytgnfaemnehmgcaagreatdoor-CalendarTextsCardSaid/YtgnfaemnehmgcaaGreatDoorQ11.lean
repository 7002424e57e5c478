/- Layer 9 (calendar): the moment of a date; what a table has. (by gen_dk.py) -/
import Derived.Test.YtgnfaemnehmgcaaGreatDoorQ10
namespace Go.Proofs.YtgnfaemnehmgcaaGreatDoor.Cal
open Go Go.RowKit
attribute [local go_sem] Oper.semAt_some
def tB (h : Int) : Bool := decide (0 ≤ h) && decide (h ≤ 24 - 1)
def miB (h : Int) : Bool := decide (0 ≤ h) && decide (h ≤ 60 - 1)
def sB (h : Int) : Bool := decide (0 ≤ h) && decide (h ≤ 60)
def momB (y m d h mi s : Int) : Bool := okDate y m d && tB h && miB mi && sB s
def dateObj (y m d h mi s : Int) : Obj := .cells #[.int .i64 y, .int .i64 m, .int .i64 d, .int .i64 h, .int .i64 mi, .int .i64 s] 26
/-- a date in a box -/
structure DBox (w : World) (a : Nat) (y m d h mi s : Int) : Prop where
  c0 : w.cell? ⟨a, 0, none⟩ = some (.int .i64 y)
  c1 : w.cell? ⟨a, 1, none⟩ = some (.int .i64 m)
  c2 : w.cell? ⟨a, 2, none⟩ = some (.int .i64 d)
  c3 : w.cell? ⟨a, 3, none⟩ = some (.int .i64 h)
  c4 : w.cell? ⟨a, 4, none⟩ = some (.int .i64 mi)
  c5 : w.cell? ⟨a, 5, none⟩ = some (.int .i64 s)
theorem DBox.below {w w' : World} {a : Nat} {y m d h mi s : Int} (k : DBox w a y m d h mi s) (hb : Below w.heap.size w w') : DBox w' a y m d h mi s := ⟨cell_below hb k.c0, cell_below hb k.c1, cell_below hb k.c2, cell_below hb k.c3, cell_below hb k.c4, cell_below hb k.c5⟩
theorem DBox.new (w : World) (y m d h mi s : Int) : DBox (w.alloc (.cells #[.int .i64 y, .int .i64 m, .int .i64 d, .int .i64 h, .int .i64 mi, .int .i64 s] 26)) w.heap.size y m d h mi s := ⟨by simp, by simp, by simp, by simp, by simp, by simp⟩
/-- a result's two cells -/
structure Res2 (w : World) (a : Nat) : Prop where
  r0 : ∃ v, w.cell? ⟨a, 0, none⟩ = some v
  r1 : ∃ v, w.cell? ⟨a, 1, none⟩ = some v
  z : ∀ i, w.frozen? ⟨a, i, none⟩ = false
theorem Res2.lt {w : World} {a : Nat} (h : Res2 w a) : a < w.heap.size := let ⟨_, e⟩ := h.r0; cell_lt e
theorem Res2.new (w : World) (v0 v1 : Value) (t : TypeId) : Res2 (w.alloc (.cells #[v0, v1] t)) w.heap.size := ⟨⟨v0, by simp⟩, ⟨v1, by simp⟩, fun i => by simp⟩
theorem Res2.below {w w' : World} {a : Nat} (h : Res2 w a) (hb : Below w.heap.size w w') : Res2 w' a :=
  ⟨h.r0.imp fun _ e => cell_below hb e, h.r1.imp fun _ e => cell_below hb e, fun i => (hb.frozen (p := ⟨a, i, none⟩) h.lt).trans (h.z i)⟩
def momW (w : World) (y m d h mi s : Int) : World := (w.alloc (.cells #[.int .i64 y, .int .i64 m, .int .i64 d, .int .i64 h, .int .i64 mi, .int .i64 s] 26)).alloc (.cells #[.int .i64 0, .int .i64 0] 136)
theorem mom_start (w : World) (y m d h mi s : Int) : DBox (momW w y m d h mi s) w.heap.size y m d h mi s ∧ Res2 (momW w y m d h mi s) (w.heap.size + 1) ∧ Below w.heap.size w (momW w y m d h mi s) := by
  unfold momW
  have b1 := below_alloc (Below.refl w.heap.size w) (.cells #[.int .i64 y, .int .i64 m, .int .i64 d, .int .i64 h, .int .i64 mi, .int .i64 s] 26)
  refine ⟨(DBox.new w y m d h mi s).below (below_alloc (Below.refl _ _) _), ?_, below_alloc b1 _⟩
  have := Res2.new (w.alloc (.cells #[.int .i64 y, .int .i64 m, .int .i64 d, .int .i64 h, .int .i64 mi, .int .i64 s] 26)) (.int .i64 0) (.int .i64 0) 136
  rwa [show (w.alloc (.cells #[.int .i64 y, .int .i64 m, .int .i64 d, .int .i64 h, .int .i64 mi, .int .i64 s] 26)).heap.size = w.heap.size + 1 by simp] at this

set_option maxHeartbeats 1000000 in
theorem dmoment_ok {y : Int} {m : Nat} {d : Int} (h mi s : Int) (w : World) (hw : Mon w) (hd : IsDate y m d) (hh : tB h = true) (hm : miB mi = true) (hs : sB s = true) :
    Calls Tryz.prog 83 #[.agg #[.int .i64 y, .int .i64 (m : Int), .int .i64 d, .int .i64 h, .int .i64 mi, .int .i64 s]] w fun e w' => e = .returned (.tuple #[.agg #[.int .i64 (1440 * dayN y m d + 60 * h + mi), .int .i64 s], .int .i64 0]) ∧ Below w.heap.size w w' := by
  have HDT := Lib.hid hd
  have hdb := hd.civ.n_bd
  unfold tB at hh
  unfold miB at hm
  unfold sB at hs
  have hh2 : 0 ≤ h ∧ h ≤ 23 := by simp at hh; omega
  have hm2 : 0 ≤ mi ∧ mi ≤ 59 := by simp at hm; omega
  have HT := Lib.hid hh
  have HM := Lib.hid hm
  have HS := Lib.hid hs
  obtain ⟨dn, hdn⟩ : ∃ dn, dayN y m d = dn := ⟨_, rfl⟩
  rw [hdn] at hdb ⊢
  have HDY := Lib.hid hdn
  clear hd hh hm hs hdn
  obtain ⟨hx, hr, hb⟩ := mom_start w y (m : Int) d h mi s
  unfold momW at hx hr hb
  obtain ⟨x0, x1, x2, x3, x4, x5⟩ := hx
  have HR := Lib.hid hr
  have A0 := Lib.hid hb
  have HW := Lib.hid (hw.below hb)
  clear hr hb hw
  go_enter Tryz.func83, Tryz.ntmps83
  go_upto_region 1 with fail
  generalize (w.alloc (.cells #[.int .i64 y, .int .i64 (m : Int), .int .i64 d, .int .i64 h, .int .i64 mi, .int .i64 s] 26)).alloc (.cells #[.int .i64 0, .int .i64 0] 136) = W1 at *
  have zx := cell_lt x0
  obtain ⟨⟨v0, r0⟩, ⟨v1, r1⟩, rz⟩ := HR.out
  have z0 := rz 0
  have z1 := rz 1
  have zr := cell_lt r0
  clear rz
  have HD := Lib.hid (Day_ok W1 HW.out HDT.out)
  rw [HDY.out] at HD
  go_wp2_with (first | (go_at_call 13; refine HD.out.mono ?_; rintro e w' ⟨rfl, rfl⟩) | (go_at_call 111; refine (index_any _ _ _ (by decide)).mono ?_; rintro e w' ⟨rfl, rfl⟩; first | rw [HT.out] | rw [HM.out]) | (go_at_call 67; refine (within_any _ _ _ _).mono ?_; rintro e w' ⟨rfl, rfl⟩; rw [HS.out]))
  refine bodyPost_ret (v := .tuple #[.agg #[.int .i64 (1440 * dn + 60 * h + mi), .int .i64 s], .int .i64 0]) (by simp [results, Tryz.results83, go_sem, r0, r1]) rfl ⟨rfl, ?_⟩
  exact (A0.out.setCell (p := ⟨w.heap.size + 1, _, none⟩) (Nat.le_succ _) _).setCell (p := ⟨w.heap.size + 1, _, none⟩) (Nat.le_succ _) _
set_option maxHeartbeats 1000000 in
theorem dmoment_no (y m d h mi s : Int) (w : World) (hw : Mon w) (hn : momB y m d h mi s = false) :
    Calls Tryz.prog 83 #[.agg #[.int .i64 y, .int .i64 m, .int .i64 d, .int .i64 h, .int .i64 mi, .int .i64 s]] w fun e w' => e = .returned (.tuple #[.agg #[.int .i64 0, .int .i64 0], .int .i64 90]) ∧ Below w.heap.size w w' := by
  unfold momB at hn
  cases h1 : okDate y m d
  · have HDN := Lib.hid h1
    clear hn h1
    obtain ⟨hx, hr, hb⟩ := mom_start w y m d h mi s
    unfold momW at hx hr hb
    obtain ⟨x0, x1, x2, x3, x4, x5⟩ := hx
    have HR := Lib.hid hr
    have A0 := Lib.hid hb
    have HW := Lib.hid (hw.below hb)
    clear hr hb hw
    go_enter Tryz.func83, Tryz.ntmps83
    go_upto_region 1 with fail
    generalize (w.alloc (.cells #[.int .i64 y, .int .i64 m, .int .i64 d, .int .i64 h, .int .i64 mi, .int .i64 s] 26)).alloc (.cells #[.int .i64 0, .int .i64 0] 136) = W1 at *
    have zx := cell_lt x0
    obtain ⟨⟨v0, r0⟩, ⟨v1, r1⟩, rz⟩ := HR.out
    have z0 := rz 0
    have z1 := rz 1
    have zr := cell_lt r0
    clear rz
    have HD := Lib.hid (Day_no y m d W1 HW.out HDN.out)
    go_wp2_with (first | (go_at_call 13; refine HD.out.mono ?_; rintro e w' ⟨rfl, rfl⟩))
    refine bodyPost_ret (v := .tuple #[.agg #[.int .i64 0, .int .i64 0], .int .i64 90]) (by simp [results, Tryz.results83, go_sem, r0, r1]) rfl ⟨rfl, ?_⟩
    exact (A0.out.setCell (p := ⟨w.heap.size + 1, _, none⟩) (Nat.le_succ _) _).setCell (p := ⟨w.heap.size + 1, _, none⟩) (Nat.le_succ _) _
  · obtain ⟨k, rfl, hd⟩ := okDate_yes h1
    have HDT := Lib.hid hd
    rw [h1] at hn
    simp only [Bool.true_and] at hn
    clear h1 hd
    cases h2 : tB h
    · unfold tB at h2
      have HT := Lib.hid h2
      clear hn h2
      obtain ⟨hx, hr, hb⟩ := mom_start w y (k : Int) d h mi s
      unfold momW at hx hr hb
      obtain ⟨x0, x1, x2, x3, x4, x5⟩ := hx
      have HR := Lib.hid hr
      have A0 := Lib.hid hb
      have HW := Lib.hid (hw.below hb)
      clear hr hb hw
      go_enter Tryz.func83, Tryz.ntmps83
      go_upto_region 1 with fail
      generalize (w.alloc (.cells #[.int .i64 y, .int .i64 (k : Int), .int .i64 d, .int .i64 h, .int .i64 mi, .int .i64 s] 26)).alloc (.cells #[.int .i64 0, .int .i64 0] 136) = W1 at *
      have zx := cell_lt x0
      obtain ⟨⟨v0, r0⟩, ⟨v1, r1⟩, rz⟩ := HR.out
      have z0 := rz 0
      have z1 := rz 1
      have zr := cell_lt r0
      clear rz
      have HD := Lib.hid (Day_ok W1 HW.out HDT.out)
      generalize dayN y k d = dn at *
      go_wp2_with (first | (go_at_call 13; refine HD.out.mono ?_; rintro e w' ⟨rfl, rfl⟩) | (go_at_call 111; refine (index_any _ _ _ (by decide)).mono ?_; rintro e w' ⟨rfl, rfl⟩; first | rw [HT.out]))
      refine bodyPost_ret (v := .tuple #[.agg #[.int .i64 0, .int .i64 0], .int .i64 90]) (by simp [results, Tryz.results83, go_sem, r0, r1]) rfl ⟨rfl, ?_⟩
      exact (A0.out.setCell (p := ⟨w.heap.size + 1, _, none⟩) (Nat.le_succ _) _).setCell (p := ⟨w.heap.size + 1, _, none⟩) (Nat.le_succ _) _
    · rw [h2] at hn
      simp only [Bool.true_and] at hn
      unfold tB at h2
      have HT := Lib.hid h2
      clear h2
      cases h3 : miB mi
      · unfold miB at h3
        have HM := Lib.hid h3
        clear hn h3
        obtain ⟨hx, hr, hb⟩ := mom_start w y (k : Int) d h mi s
        unfold momW at hx hr hb
        obtain ⟨x0, x1, x2, x3, x4, x5⟩ := hx
        have HR := Lib.hid hr
        have A0 := Lib.hid hb
        have HW := Lib.hid (hw.below hb)
        clear hr hb hw
        go_enter Tryz.func83, Tryz.ntmps83
        go_upto_region 1 with fail
        generalize (w.alloc (.cells #[.int .i64 y, .int .i64 (k : Int), .int .i64 d, .int .i64 h, .int .i64 mi, .int .i64 s] 26)).alloc (.cells #[.int .i64 0, .int .i64 0] 136) = W1 at *
        have zx := cell_lt x0
        obtain ⟨⟨v0, r0⟩, ⟨v1, r1⟩, rz⟩ := HR.out
        have z0 := rz 0
        have z1 := rz 1
        have zr := cell_lt r0
        clear rz
        have HD := Lib.hid (Day_ok W1 HW.out HDT.out)
        generalize dayN y k d = dn at *
        go_wp2_with (first | (go_at_call 13; refine HD.out.mono ?_; rintro e w' ⟨rfl, rfl⟩) | (go_at_call 111; refine (index_any _ _ _ (by decide)).mono ?_; rintro e w' ⟨rfl, rfl⟩; first | rw [HT.out] | rw [HM.out]))
        refine bodyPost_ret (v := .tuple #[.agg #[.int .i64 0, .int .i64 0], .int .i64 90]) (by simp [results, Tryz.results83, go_sem, r0, r1]) rfl ⟨rfl, ?_⟩
        exact (A0.out.setCell (p := ⟨w.heap.size + 1, _, none⟩) (Nat.le_succ _) _).setCell (p := ⟨w.heap.size + 1, _, none⟩) (Nat.le_succ _) _
      · rw [h3] at hn
        simp only [Bool.true_and] at hn
        unfold miB at h3
        unfold sB at hn
        have HM := Lib.hid h3
        have HS := Lib.hid hn
        clear hn h3
        obtain ⟨hx, hr, hb⟩ := mom_start w y (k : Int) d h mi s
        unfold momW at hx hr hb
        obtain ⟨x0, x1, x2, x3, x4, x5⟩ := hx
        have HR := Lib.hid hr
        have A0 := Lib.hid hb
        have HW := Lib.hid (hw.below hb)
        clear hr hb hw
        go_enter Tryz.func83, Tryz.ntmps83
        go_upto_region 1 with fail
        generalize (w.alloc (.cells #[.int .i64 y, .int .i64 (k : Int), .int .i64 d, .int .i64 h, .int .i64 mi, .int .i64 s] 26)).alloc (.cells #[.int .i64 0, .int .i64 0] 136) = W1 at *
        have zx := cell_lt x0
        obtain ⟨⟨v0, r0⟩, ⟨v1, r1⟩, rz⟩ := HR.out
        have z0 := rz 0
        have z1 := rz 1
        have zr := cell_lt r0
        clear rz
        have HD := Lib.hid (Day_ok W1 HW.out HDT.out)
        generalize dayN y k d = dn at *
        go_wp2_with (first | (go_at_call 13; refine HD.out.mono ?_; rintro e w' ⟨rfl, rfl⟩) | (go_at_call 111; refine (index_any _ _ _ (by decide)).mono ?_; rintro e w' ⟨rfl, rfl⟩; first | rw [HT.out] | rw [HM.out]) | (go_at_call 67; refine (within_any _ _ _ _).mono ?_; rintro e w' ⟨rfl, rfl⟩; rw [HS.out]))
        refine bodyPost_ret (v := .tuple #[.agg #[.int .i64 0, .int .i64 0], .int .i64 90]) (by simp [results, Tryz.results83, go_sem, r0, r1]) rfl ⟨rfl, ?_⟩
        exact (A0.out.setCell (p := ⟨w.heap.size + 1, _, none⟩) (Nat.le_succ _) _).setCell (p := ⟨w.heap.size + 1, _, none⟩) (Nat.le_succ _) _
end Go.Proofs.YtgnfaemnehmgcaaGreatDoor.Cal
