/- Stage 6 (steer): the law SteerGrows. (by gen_zgl.py) -/
import Derived.Test.YtiapimfmnmegpaaZgn
import Derived.Test.YtiapimfmnmegpaaZgy
namespace Go.Proofs.Ytiapimfmnmegpaa.St
open Go Go.RowKit Go.Shelf
attribute [local go_sem] Oper.semAt_some
set_option maxRecDepth 100000 in
set_option maxHeartbeats 8000000 in
theorem grows_awake (l r s z n : Int) (hno : planB l r s z = false ∨ 300 < sizP l r) (w : World) :
    Calls Try.prog 7 #[.agg #[.int .i64 l, .int .i64 r, .int .i64 s, .int .i64 z], .int .i64 n] w fun e w' => e = .returned (.bool true) ∧ Below w.heap.size w w' := by
  cases hbg : bigB l r s z
  · cases hp : planB l r s z
    · obtain ⟨W0, hW0, g0, g1, hB0⟩ := law_start w l r s z
      have HX := Lib.hid (show ∀ X, Below W0.heap.size W0 X → PlC X w.heap.size l r s z ∧ PlC X (w.heap.size + 1) l r s z from fun X hX => ⟨(g0.below hX).c, (g1.below hX).c⟩)
      have HB0 := Lib.hid hB0
      have HBI := Lib.hid (fun W => big_any l r s z W)
      have HCK := Lib.hid (fun W => check_any l r s z W)
      have HAW := Lib.hid (fun W => awake_any W)
      rw [hbg] at HBI
      rw [show planE l r s z = 60 by unfold planE; simp [hp]] at HCK
      clear g0 g1 hB0 hbg hp hno
      go_enter Try.func7, Try.ntmps7
      go_upto_region 2 with fail
      clear hW0
      have HB := Lib.hid (Below.refl W0.heap.size W0)
      obtain ⟨⟨p0, p1, p2, p3⟩, ⟨q0, q1, q2, q3⟩⟩ := HX.out W0 (Below.refl _ _)
      have zp := cell_lt p0
      have zq := cell_lt q0
      go_wp2_with (first | (go_at_call 8; refine (HBI.out _).mono ?_; rintro e w1 ⟨rfl, hb1⟩; clear p0 p1 p2 p3 q0 q1 q2 q3 zp zq; have HB := Lib.hid (bt HB.out hb1); clear hb1; obtain ⟨⟨p0, p1, p2, p3⟩, ⟨q0, q1, q2, q3⟩⟩ := HX.out _ HB.out; have zp := cell_lt p0; have zq := cell_lt q0) | (go_at_call 15; refine (HCK.out _).mono ?_; rintro e w1 ⟨rfl, hb1⟩; clear p0 p1 p2 p3 q0 q1 q2 q3 zp zq; have HB := Lib.hid (bt HB.out hb1); clear hb1; obtain ⟨⟨p0, p1, p2, p3⟩, ⟨q0, q1, q2, q3⟩⟩ := HX.out _ HB.out; have zp := cell_lt p0; have zq := cell_lt q0) | (go_at_call 9; refine (HAW.out _).mono ?_; rintro e w9 ⟨rfl, hb9⟩; have HB9 := Lib.hid hb9; clear hb9))
      go_ret
      exact ⟨rfl, bt HB0.out (bt HB.out HB9.out)⟩
    · obtain ⟨W0, hW0, g0, g1, hB0⟩ := law_start w l r s z
      have HX := Lib.hid (show ∀ X, Below W0.heap.size W0 X → PlC X w.heap.size l r s z ∧ PlC X (w.heap.size + 1) l r s z from fun X hX => ⟨(g0.below hX).c, (g1.below hX).c⟩)
      have HB0 := Lib.hid hB0
      have HBI := Lib.hid (fun W => big_any l r s z W)
      have HCK := Lib.hid (fun W => check_any l r s z W)
      have HAW := Lib.hid (fun W => awake_any W)
      rw [hbg] at HBI
      rw [show planE l r s z = 0 by unfold planE; simp [hp]] at HCK
      have h := plan_ok hp
      have hb := siz_bd h
      have hS := Lib.hid (show sizP l r = (2 * l + 1) * (2 * r + 1) from rfl)
      have v5 : IntKind.i64.wrap ((2 * l + 1) * (2 * r + 1)) = (2 * l + 1) * (2 * r + 1) := by rw [← hS.out]; exact IntWalk.i64_in _ (by omega)
      have v6 : (300 : Int) < (2 * l + 1) * (2 * r + 1) := by rw [← hS.out]; exact hno.resolve_left (by rw [hp]; decide)
      obtain ⟨_, _, _, _, _, _, _, _⟩ := h
      have v1 : IntKind.i64.wrap (2 * l) = 2 * l := IntWalk.i64_in _ (by omega)
      have v2 : IntKind.i64.wrap (2 * l + 1) = 2 * l + 1 := IntWalk.i64_in _ (by omega)
      have v3 : IntKind.i64.wrap (2 * r) = 2 * r := IntWalk.i64_in _ (by omega)
      have v4 : IntKind.i64.wrap (2 * r + 1) = 2 * r + 1 := IntWalk.i64_in _ (by omega)
      have v7 : ¬ l < 0 := by omega
      have v8 : ¬ r < 0 := by omega
      clear g0 g1 hB0 hbg hp hno hb
      go_enter Try.func7, Try.ntmps7
      go_upto_region 2 with fail
      clear hW0
      have HB := Lib.hid (Below.refl W0.heap.size W0)
      obtain ⟨⟨p0, p1, p2, p3⟩, ⟨q0, q1, q2, q3⟩⟩ := HX.out W0 (Below.refl _ _)
      have zp := cell_lt p0
      have zq := cell_lt q0
      go_wp2_with (first | (go_at_call 8; refine (HBI.out _).mono ?_; rintro e w1 ⟨rfl, hb1⟩; clear p0 p1 p2 p3 q0 q1 q2 q3 zp zq; have HB := Lib.hid (bt HB.out hb1); clear hb1; obtain ⟨⟨p0, p1, p2, p3⟩, ⟨q0, q1, q2, q3⟩⟩ := HX.out _ HB.out; have zp := cell_lt p0; have zq := cell_lt q0) | (go_at_call 15; refine (HCK.out _).mono ?_; rintro e w1 ⟨rfl, hb1⟩; clear p0 p1 p2 p3 q0 q1 q2 q3 zp zq; have HB := Lib.hid (bt HB.out hb1); clear hb1; obtain ⟨⟨p0, p1, p2, p3⟩, ⟨q0, q1, q2, q3⟩⟩ := HX.out _ HB.out; have zp := cell_lt p0; have zq := cell_lt q0) | (go_at_call 9; refine (HAW.out _).mono ?_; rintro e w9 ⟨rfl, hb9⟩; have HB9 := Lib.hid hb9; clear hb9))
      go_ret
      exact ⟨rfl, bt HB0.out (bt HB.out HB9.out)⟩
  · obtain ⟨W0, hW0, g0, g1, hB0⟩ := law_start w l r s z
    have HX := Lib.hid (show ∀ X, Below W0.heap.size W0 X → PlC X w.heap.size l r s z ∧ PlC X (w.heap.size + 1) l r s z from fun X hX => ⟨(g0.below hX).c, (g1.below hX).c⟩)
    have HB0 := Lib.hid hB0
    have HBI := Lib.hid (fun W => big_any l r s z W)
    have HCK := Lib.hid (fun W => check_any l r s z W)
    have HAW := Lib.hid (fun W => awake_any W)
    rw [hbg] at HBI
    clear g0 g1 hB0 hbg hno
    go_enter Try.func7, Try.ntmps7
    go_upto_region 2 with fail
    clear hW0
    have HB := Lib.hid (Below.refl W0.heap.size W0)
    obtain ⟨⟨p0, p1, p2, p3⟩, ⟨q0, q1, q2, q3⟩⟩ := HX.out W0 (Below.refl _ _)
    have zp := cell_lt p0
    have zq := cell_lt q0
    go_wp2_with (first | (go_at_call 8; refine (HBI.out _).mono ?_; rintro e w1 ⟨rfl, hb1⟩; clear p0 p1 p2 p3 q0 q1 q2 q3 zp zq; have HB := Lib.hid (bt HB.out hb1); clear hb1; obtain ⟨⟨p0, p1, p2, p3⟩, ⟨q0, q1, q2, q3⟩⟩ := HX.out _ HB.out; have zp := cell_lt p0; have zq := cell_lt q0) | (go_at_call 9; refine (HAW.out _).mono ?_; rintro e w9 ⟨rfl, hb9⟩; have HB9 := Lib.hid hb9; clear hb9))
    go_ret
    exact ⟨rfl, bt HB0.out (bt HB.out HB9.out)⟩
set_option maxRecDepth 100000 in
set_option maxHeartbeats 8000000 in
theorem grows_main (l r s z n : Int) (hp : planB l r s z = true) (hs : sizP l r ≤ 300) (w : World) :
    Calls Try.prog 7 #[.agg #[.int .i64 l, .int .i64 r, .int .i64 s, .int .i64 z], .int .i64 n] w fun e w' => e = .returned (.bool true) ∧ Below w.heap.size w w' := by
  obtain ⟨W0, hW0, g0, g1, hB0⟩ := law_start w l r s z
  have HX := Lib.hid (show ∀ X, Below W0.heap.size W0 X → PlC X w.heap.size l r s z ∧ PlC X (w.heap.size + 1) l r s z from fun X hX => ⟨(g0.below hX).c, (g1.below hX).c⟩)
  have HB0 := Lib.hid hB0
  have HBI := Lib.hid (fun W => big_any l r s z W)
  have HCK := Lib.hid (fun W => check_any l r s z W)
  have HAW := Lib.hid (fun W => awake_any W)
  have h := plan_ok hp
  have HPL := Lib.hid h
  have HPB := Lib.hid hp
  rw [show bigB l r s z = false by unfold bigB; rw [hp]; simp; omega] at HBI
  rw [show planE l r s z = 0 by unfold planE; simp [hp]] at HCK
  have hb := siz_bd h
  have hS := Lib.hid (show sizP l r = (2 * l + 1) * (2 * r + 1) from rfl)
  have v5 : IntKind.i64.wrap ((2 * l + 1) * (2 * r + 1)) = (2 * l + 1) * (2 * r + 1) := by rw [← hS.out]; exact IntWalk.i64_in _ (by omega)
  have v6 : ¬ (300 : Int) < (2 * l + 1) * (2 * r + 1) := by rw [← hS.out]; omega
  obtain ⟨_, _, _, _, _, _, _, _⟩ := h
  have v1 : IntKind.i64.wrap (2 * l) = 2 * l := IntWalk.i64_in _ (by omega)
  have v2 : IntKind.i64.wrap (2 * l + 1) = 2 * l + 1 := IntWalk.i64_in _ (by omega)
  have v3 : IntKind.i64.wrap (2 * r) = 2 * r := IntWalk.i64_in _ (by omega)
  have v4 : IntKind.i64.wrap (2 * r + 1) = 2 * r + 1 := IntWalk.i64_in _ (by omega)
  have v7 : ¬ l < 0 := by omega
  have v8 : ¬ r < 0 := by omega
  clear g0 g1 hB0 hp hs hb
  go_enter Try.func7, Try.ntmps7
  go_upto_region 2 with fail
  clear hW0
  have HB := Lib.hid (Below.refl W0.heap.size W0)
  obtain ⟨⟨p0, p1, p2, p3⟩, ⟨q0, q1, q2, q3⟩⟩ := HX.out W0 (Below.refl _ _)
  have zp := cell_lt p0
  have zq := cell_lt q0
  go_upto_region 5 with (first | (go_at_call 8; refine (HBI.out _).mono ?_; rintro e w1 ⟨rfl, hb1⟩; clear p0 p1 p2 p3 q0 q1 q2 q3 zp zq; have HB := Lib.hid (bt HB.out hb1); clear hb1; obtain ⟨⟨p0, p1, p2, p3⟩, ⟨q0, q1, q2, q3⟩⟩ := HX.out _ HB.out; have zp := cell_lt p0; have zq := cell_lt q0) | (go_at_call 15; refine (HCK.out _).mono ?_; rintro e w1 ⟨rfl, hb1⟩; clear p0 p1 p2 p3 q0 q1 q2 q3 zp zq; have HB := Lib.hid (bt HB.out hb1); clear hb1; obtain ⟨⟨p0, p1, p2, p3⟩, ⟨q0, q1, q2, q3⟩⟩ := HX.out _ HB.out; have zp := cell_lt p0; have zq := cell_lt q0))
  have hba := below_alloc (Below.refl w1.heap.size w1) (.cells #[.int .i64 l, .int .i64 r, .int .i64 s, .int .i64 z] 27)
  have HM := Lib.hid (show PlAt (w1.alloc (.cells #[.int .i64 l, .int .i64 r, .int .i64 s, .int .i64 z] 27)) w1.heap.size l r s z from World.alloc_heap_new w1 _)
  have HBM := Lib.hid (show W0.heap.size ≤ w1.heap.size from HB.out.size)
  have HB := Lib.hid (bt HB.out hba)
  clear p0 p1 p2 p3 q0 q1 q2 q3 zp zq hba
  generalize w1.alloc (.cells #[.int .i64 l, .int .i64 r, .int .i64 s, .int .i64 z] 27) = W1 at *
  generalize w1.heap.size = Bm at *
  have HPI := Lib.hid (fun W => pick_any n 4 W (by decide))
  have HNB := Lib.hid (show 0 ≤ n % 4 ∧ n % 4 < 4 from ⟨Int.emod_nonneg _ (by decide), Int.emod_lt_of_pos _ (by decide)⟩)
  go_upto_block 0 with (go_at_call 22; refine (HPI.out _).mono ?_; rintro e w2 ⟨rfl, rfl⟩)
  go_cut [52] from 51 to 75 (fun s52 wx => ∃ (v : Value) (l' r' s' z' : Int), s52 = v ∧ Hid (PlAt wx Bm l' r' s' z') ∧ Hid (Wider l r s z l' r' s' z') ∧ Hid (Below W0.heap.size W0 wx))
  case first =>
    obtain ⟨m0, m1, m2, m3⟩ := HM.out.c
    have zm := cell_lt m0
    have f0 := HM.out.frozen 0
    have f1 := HM.out.frozen 1
    have f2 := HM.out.frozen 2
    have f3 := HM.out.frozen 3
    obtain ⟨_, _, _, _, _, _, _, _⟩ := HPL.out
    have u1 : IntKind.i64.wrap (l + 1) = l + 1 := IntWalk.i64_in _ (by omega)
    have u2 : IntKind.i64.wrap (r + 1) = r + 1 := IntWalk.i64_in _ (by omega)
    have u3 : IntKind.i64.wrap (s + 1) = s + 1 := IntWalk.i64_in _ (by omega)
    have u4 : IntKind.i64.wrap (z - 1) = z - 1 := IntWalk.i64_in _ (by omega)
    have HM' := HM.out
    unfold PlAt at HM'
    obtain ⟨nm, hnm⟩ : ∃ nm, n % 4 = nm := ⟨_, rfl⟩
    have hn1 := HNB.out
    rw [hnm] at hn1 ⊢
    clear HNB HPI v1 v2 v3 v4 v5 v6 v7 v8
    rcases (by omega : nm = 0 ∨ nm = 1 ∨ nm = 2 ∨ nm = 3) with rfl | rfl | rfl | rfl
    · have HR := Lib.hid (show PlAt (W1.setCell ⟨Bm, 0, none⟩ (.int .i64 (l + 1))) Bm (l + 1) r s z by unfold PlAt; simp [World.setCell, Array.getElem?_modify, HM'])
      clear HM' hnm
      go_wp2_with fail
      go_meet
      exact ⟨_, _, _, _, _, rfl, HR, Lib.hid ⟨by omega, by omega, by omega, by omega⟩, Lib.hid (HB.out.setCell (p := ⟨Bm, _, none⟩) HBM.out _)⟩
    · have HR := Lib.hid (show PlAt (W1.setCell ⟨Bm, 1, none⟩ (.int .i64 (r + 1))) Bm l (r + 1) s z by unfold PlAt; simp [World.setCell, Array.getElem?_modify, HM'])
      clear HM' hnm
      go_wp2_with fail
      go_meet
      exact ⟨_, _, _, _, _, rfl, HR, Lib.hid ⟨by omega, by omega, by omega, by omega⟩, Lib.hid (HB.out.setCell (p := ⟨Bm, _, none⟩) HBM.out _)⟩
    · have HR := Lib.hid (show PlAt (W1.setCell ⟨Bm, 2, none⟩ (.int .i64 (s + 1))) Bm l r (s + 1) z by unfold PlAt; simp [World.setCell, Array.getElem?_modify, HM'])
      clear HM' hnm
      go_wp2_with fail
      go_meet
      exact ⟨_, _, _, _, _, rfl, HR, Lib.hid ⟨by omega, by omega, by omega, by omega⟩, Lib.hid (HB.out.setCell (p := ⟨Bm, _, none⟩) HBM.out _)⟩
    · have HR := Lib.hid (show PlAt (W1.setCell ⟨Bm, 3, none⟩ (.int .i64 (z - 1))) Bm l r s (z - 1) by unfold PlAt; simp [World.setCell, Array.getElem?_modify, HM'])
      clear HM' hnm
      go_wp2_with fail
      go_meet
      exact ⟨_, _, _, _, _, rfl, HR, Lib.hid ⟨by omega, by omega, by omega, by omega⟩, Lib.hid (HB.out.setCell (p := ⟨Bm, _, none⟩) HBM.out _)⟩
  case rest =>
    clear HB HM
    obtain ⟨v, l', r', s', z', rfl, HM, HW, HB⟩ := hcut
    obtain ⟨⟨p0, p1, p2, p3⟩, ⟨q0, q1, q2, q3⟩⟩ := HX.out _ HB.out
    have zp := cell_lt p0
    have zq := cell_lt q0
    have HCH := Lib.hid (fun W => Chart_ok HPB.out W)
    go_upto_region 15 with (go_at_call 12; refine (HCH.out _).mono ?_; rintro e w3 ⟨ba, rfl, hna, -, hb3⟩)
    have HB2 := Lib.hid (bt HB.out hb3)
    have HM2 := Lib.hid (HM.out.below hb3)
    have HNA2 := Lib.hid hna
    clear p0 p1 p2 p3 q0 q1 q2 q3 zp zq hb3 hna HB HM HCH
    cases hp' : planB l' r' s' z'
    · go_upto_region 17 with fail
      exact grows_no (by assumption) HPB HX HB0 HM2 HW HB2 HNA2 hp'
    · go_upto_region 17 with fail
      exact grows_yes (by assumption) HPB HX HB0 HM2 HW HB2 HNA2 hp'
theorem steerGrows_any (l r s z n : Int) (w : World) : Calls Try.prog 7 #[.agg #[.int .i64 l, .int .i64 r, .int .i64 s, .int .i64 z], .int .i64 n] w fun e w' => e = .returned (.bool true) ∧ Below w.heap.size w w' := by
  cases hp : planB l r s z
  · exact grows_awake l r s z n (.inl hp) w
  · by_cases hs : sizP l r ≤ 300
    · exact grows_main l r s z n hp hs w
    · exact grows_awake l r s z n (.inr (by omega)) w
end Go.Proofs.Ytiapimfmnmegpaa.St
