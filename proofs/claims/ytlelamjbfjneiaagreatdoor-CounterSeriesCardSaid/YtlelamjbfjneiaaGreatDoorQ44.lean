/- Contract of the reference's Growth. · Contract of the reference's Growth, where it has no error. -/
import Derived.Test.YtlelamjbfjneiaaGreatDoorQ43
import Derived.Test.YtlelamjbfjneiaaGreatDoorQ02
namespace Go.Proofs.YtlelamjbfjneiaaGreatDoor.Wd
section
open Go Go.RowKit
theorem find_pair (W : Wld) (k a b : Int) : findErr W k [a, b] = if findErr W k [a] = 0 then findErr W k [b] else findErr W k [a] := by
  by_cases hc : checkS W = 0
  · by_cases hk : inR k 0 (W.cls.length - 1) = true
    · have e : ∀ l, findErr W k l = if secsOk l = true then 0 else 21 := fun l => by unfold findErr; rw [if_pos hc, if_pos hk]
      rw [e, e, e]
      cases ha : inR a 0 1000000 <;> cases hb : inR b 0 1000000 <;> simp [secsOk, ha, hb]
    · have e : ∀ l, findErr W k l = 20 := fun l => by unfold findErr; rw [if_pos hc, if_neg hk]
      rw [e, e, e]; rfl
  · have e : ∀ l, findErr W k l = checkS W := fun l => if_neg hc
    rw [e, e, e, if_neg hc]
/-- how many hundreds have passed behind a second -/
def hundreds (a : Int) (q : Nat) : Int := if a / 100 ≤ (q : Int) then (q : Int) - a / 100 else 0
set_option maxRecDepth 100000 in
set_option maxHeartbeats 2000000 in
theorem rGrowth_err (W : Wld) (k a b : Int) (p1 p2 : Option Addr) (c1 c2 : Nat) (w : World) (hW : WldIn w W p1 p2) (hne : growErr W k a b ≠ 0) :
    Calls Tryz.prog 42 #[.agg #[.int .u64 W.seed, .slice p1 W.chs.length c1, .slice p2 W.cls.length c2], .int .i64 k, .int .i64 a, .int .i64 b] w fun e w' => e = .returned (.tuple #[.agg #[.int .i64 (growthE W k a b).a, .int .i64 (growthE W k a b).b], .int .i64 (growthE W k a b).e]) ∧ Below w.heap.size w w' := by
  have a0 : Below w.heap.size w ((w.alloc (.cells #[.int .u64 W.seed, .slice p1 W.chs.length c1, .slice p2 W.cls.length c2] 28)).alloc (.cells #[.int .i64 0, .int .i64 0] 31)) := below_alloc' (below_alloc' (Below.refl _ _) _) _
  have x0 : ((w.alloc (.cells #[.int .u64 W.seed, .slice p1 W.chs.length c1, .slice p2 W.cls.length c2] 28)).alloc (.cells #[.int .i64 0, .int .i64 0] 31)).cell? ⟨w.heap.size, 0, none⟩ = some (.int .u64 W.seed) := by simp
  have x1 : ((w.alloc (.cells #[.int .u64 W.seed, .slice p1 W.chs.length c1, .slice p2 W.cls.length c2] 28)).alloc (.cells #[.int .i64 0, .int .i64 0] 31)).cell? ⟨w.heap.size, 1, none⟩ = some (.slice p1 W.chs.length c1) := by simp
  have x2 : ((w.alloc (.cells #[.int .u64 W.seed, .slice p1 W.chs.length c1, .slice p2 W.cls.length c2] 28)).alloc (.cells #[.int .i64 0, .int .i64 0] 31)).cell? ⟨w.heap.size, 2, none⟩ = some (.slice p2 W.cls.length c2) := by simp
  have r0 : Res ((w.alloc (.cells #[.int .u64 W.seed, .slice p1 W.chs.length c1, .slice p2 W.cls.length c2] 28)).alloc (.cells #[.int .i64 0, .int .i64 0] 31)) (w.heap.size + 1) := ⟨⟨by simp [go_sem], by simp [go_sem]⟩, by simp [go_sem], by simp [go_sem]⟩
  have R0 := Lib.hid r0
  have X0 := Lib.hid x0
  have X1 := Lib.hid x1
  have X2 := Lib.hid x2
  have HW0 := Lib.hid (hW.below a0)
  have A0 := Lib.hid a0
  have hfin := show growthE W k a b = _ from if_neg hne
  have HF := Lib.hid hfin
  clear hW a0 x0 x1 x2 r0 hfin
  by_cases ha : findErr W k [a] = 0
  · by_cases hb : findErr W k [b] = 0
    · have hab : b < a := by
        by_cases hlt : b < a
        · exact hlt
        · exfalso
          apply hne
          unfold growErr
          rw [find_pair, if_pos ha, if_pos hb, if_neg hlt]
      have he : growErr W k a b = 1 := by unfold growErr; rw [find_pair, if_pos ha, if_pos hb, if_pos hab]
      have HE := Lib.hid he
      have HA := Lib.hid ha
      have HB' := Lib.hid hb
      clear hne he ha hb
      go_enter Tryz.func42, Tryz.ntmps42
      go_wp2_with fail
      refine (clocked_any W k a p1 p2 c1 c2 _ HW0.out).mono ?_
      rintro e w1 ⟨rfl, hb1⟩
      rw [HA.out]
      have HB1 := Lib.hid (A0.out.trans (hb1.mono A0.out.size))
      have R1 := Lib.hid (R0.out.below hb1)
      have y0 := cell_below hb1 X0.out
      have y1 := cell_below hb1 X1.out
      have y2 := cell_below hb1 X2.out
      have HW1 := Lib.hid (HW0.out.below hb1)
      have hz := cell_lt y0
      clear hb1 R0 X0 X1 X2 HW0
      go_wp2_with fail
      clear y0 y1 y2 hz
      refine (clocked_any W k b p1 p2 c1 c2 _ HW1.out).mono ?_
      rintro e w2 ⟨rfl, hb2⟩
      rw [HB'.out]
      obtain ⟨⟨z0, z1⟩, f0, f1⟩ := R1.out.below hb2
      have HB2 := Lib.hid (HB1.out.trans (hb2.mono HB1.out.size))
      clear hb2 R1
      have d0 := two_c0 (.int .i64 0) z0
      have d1 := two_c1 (.int .i64 0) (.int .i64 0) z1
      go_wp2
      refine bodyPost_ret (v := .tuple #[.agg #[.int .i64 0, .int .i64 0], .int .i64 1]) (by simp [results, Tryz.results42, go_sem, d0, d1]) rfl ?_
      exact ⟨by rw [HF.out, HE.out], below_sets HB2.out (by omega)⟩
    · have he : growErr W k a b = findErr W k [b] := by unfold growErr; rw [find_pair, if_pos ha, if_neg hb]
      have hne2 : (findErr W k [b] != 0) = true := by simpa using hb
      have hne3 : (findErr W k [b] == 0) = false := by simpa using hb
      have HE := Lib.hid he
      have HA := Lib.hid ha
      clear hne he ha hb
      go_enter Tryz.func42, Tryz.ntmps42
      go_wp2_with fail
      refine (clocked_any W k a p1 p2 c1 c2 _ HW0.out).mono ?_
      rintro e w1 ⟨rfl, hb1⟩
      rw [HA.out]
      have HB1 := Lib.hid (A0.out.trans (hb1.mono A0.out.size))
      have R1 := Lib.hid (R0.out.below hb1)
      have y0 := cell_below hb1 X0.out
      have y1 := cell_below hb1 X1.out
      have y2 := cell_below hb1 X2.out
      have HW1 := Lib.hid (HW0.out.below hb1)
      have hz := cell_lt y0
      clear hb1 R0 X0 X1 X2 HW0
      go_wp2_with fail
      clear y0 y1 y2 hz
      refine (clocked_any W k b p1 p2 c1 c2 _ HW1.out).mono ?_
      rintro e w2 ⟨rfl, hb2⟩
      obtain ⟨⟨z0, z1⟩, f0, f1⟩ := R1.out.below hb2
      have HB2 := Lib.hid (HB1.out.trans (hb2.mono HB1.out.size))
      clear hb2 R1
      have d0 := two_c0 (.int .i64 0) z0
      have d1 := two_c1 (.int .i64 0) (.int .i64 0) z1
      go_wp2
      refine bodyPost_ret (v := .tuple #[.agg #[.int .i64 0, .int .i64 0], .int .i64 (findErr W k [b])]) (by simp [results, Tryz.results42, go_sem, d0, d1]) rfl ?_
      exact ⟨by rw [HF.out, HE.out], below_sets HB2.out (by omega)⟩
  · have he : growErr W k a b = findErr W k [a] := by unfold growErr; rw [find_pair, if_neg ha, if_neg ha]
    have hne2 : (findErr W k [a] != 0) = true := by simpa using ha
    have hne3 : (findErr W k [a] == 0) = false := by simpa using ha
    have HE := Lib.hid he
    clear hne he ha
    go_enter Tryz.func42, Tryz.ntmps42
    go_wp2_with fail
    refine (clocked_any W k a p1 p2 c1 c2 _ HW0.out).mono ?_
    rintro e w2 ⟨rfl, hb2⟩
    obtain ⟨⟨z0, z1⟩, f0, f1⟩ := R0.out.below hb2
    have HB2 := Lib.hid (A0.out.trans (hb2.mono A0.out.size))
    clear hb2 R0
    have d0 := two_c0 (.int .i64 0) z0
    have d1 := two_c1 (.int .i64 0) (.int .i64 0) z1
    go_wp2
    refine bodyPost_ret (v := .tuple #[.agg #[.int .i64 0, .int .i64 0], .int .i64 (findErr W k [a])]) (by simp [results, Tryz.results42, go_sem, d0, d1]) rfl ?_
    exact ⟨by rw [HF.out, HE.out], below_sets HB2.out (by omega)⟩
end
section
open Go Go.RowKit
theorem still_keep (z : World) (W : Wld) (k s : Int) (p1 p2 : Option Addr) (c1 c2 : Nat) (X : World) (hb : Below z.heap.size z X) (hW : WldIn z W p1 p2) (al : Allowed W k) (h0 : 0 ≤ s) (h1 : s ≤ 1000000) :
    Calls Tryz.prog 68 #[.agg #[.int .u64 W.seed, .slice p1 W.chs.length c1, .slice p2 W.cls.length c2], .int .i64 k, .int .i64 s] X fun e Y => e = .returned (.int .i64 (fixedS (clkOf W k) (roomOf W k) s)) ∧ Below z.heap.size z Y :=
  (still_any W k s p1 p2 c1 c2 X (hW.below hb) al h0 h1).mono fun _ _ ⟨a, b⟩ => ⟨a, hb.trans (b.mono hb.size)⟩
theorem hundreds_bd (a : Int) (q : Nat) (h : (q : Int) ≤ 10000) (h0 : 0 ≤ a) : 0 ≤ hundreds a q ∧ hundreds a q ≤ 10000 := by
  unfold hundreds; split <;> omega
set_option maxRecDepth 100000 in
set_option maxHeartbeats 2000000 in
theorem rGrowth_ok (W : Wld) (k a b : Int) (p1 p2 : Option Addr) (c1 c2 : Nat) (w : World) (hW : WldIn w W p1 p2) (hge : growErr W k a b = 0) :
    Calls Tryz.prog 42 #[.agg #[.int .u64 W.seed, .slice p1 W.chs.length c1, .slice p2 W.cls.length c2], .int .i64 k, .int .i64 a, .int .i64 b] w fun e w' => e = .returned (.tuple #[.agg #[.int .i64 (growthE W k a b).a, .int .i64 (growthE W k a b).b], .int .i64 (growthE W k a b).e]) ∧ Below w.heap.size w w' := by
  have hm2 := hW.2.1
  unfold maxLen at hm2
  have a0 : Below w.heap.size w ((w.alloc (.cells #[.int .u64 W.seed, .slice p1 W.chs.length c1, .slice p2 W.cls.length c2] 28)).alloc (.cells #[.int .i64 0, .int .i64 0] 31)) := below_alloc' (below_alloc' (Below.refl _ _) _) _
  have x0 : ((w.alloc (.cells #[.int .u64 W.seed, .slice p1 W.chs.length c1, .slice p2 W.cls.length c2] 28)).alloc (.cells #[.int .i64 0, .int .i64 0] 31)).cell? ⟨w.heap.size, 0, none⟩ = some (.int .u64 W.seed) := by simp
  have x1 : ((w.alloc (.cells #[.int .u64 W.seed, .slice p1 W.chs.length c1, .slice p2 W.cls.length c2] 28)).alloc (.cells #[.int .i64 0, .int .i64 0] 31)).cell? ⟨w.heap.size, 1, none⟩ = some (.slice p1 W.chs.length c1) := by simp
  have x2 : ((w.alloc (.cells #[.int .u64 W.seed, .slice p1 W.chs.length c1, .slice p2 W.cls.length c2] 28)).alloc (.cells #[.int .i64 0, .int .i64 0] 31)).cell? ⟨w.heap.size, 2, none⟩ = some (.slice p2 W.cls.length c2) := by simp
  have r0 : Res ((w.alloc (.cells #[.int .u64 W.seed, .slice p1 W.chs.length c1, .slice p2 W.cls.length c2] 28)).alloc (.cells #[.int .i64 0, .int .i64 0] 31)) (w.heap.size + 1) := ⟨⟨by simp [go_sem], by simp [go_sem]⟩, by simp [go_sem], by simp [go_sem]⟩
  have R0 := Lib.hid r0
  have X0 := Lib.hid x0
  have X1 := Lib.hid x1
  have X2 := Lib.hid x2
  have HW0 := Lib.hid (hW.below a0)
  have A0 := Lib.hid a0
  have hf : findErr W k [a, b] = 0 := by
    by_cases hr : findErr W k [a, b] = 0
    · exact hr
    · unfold growErr at hge; rw [if_neg hr] at hge; exact hge
  have hab : a ≤ b := by
    unfold growErr at hge; rw [if_pos hf] at hge
    by_cases hl : b < a
    · rw [if_pos hl] at hge; omega
    · omega
  obtain ⟨fa, fb⟩ := find_two hf
  have al := allowed_find fa
  obtain ⟨sa0, sa1⟩ := sec_of fa
  obtain ⟨sb0, sb1⟩ := sec_of fb
  have ba := fixed_bd al.cin al.rok a sa0 sa1
  have bb := fixed_bd al.cin al.rok b sb0 sb1
  have wb := al.cin.walk
  have hfin : growthE W k a b = ⟨fixedS (clkOf W k) (roomOf W k) b - fixedS (clkOf W k) (roomOf W k) a - (clkOf W k).walk * (b / 100 - a / 100), fixedS (clkOf W k) (roomOf W k) b - fixedS (clkOf W k) (roomOf W k) a + (clkOf W k).walk * (b / 100 - a / 100), 0⟩ := if_pos hge
  have HF := Lib.hid hfin
  have AL := Lib.hid al
  have FA := Lib.hid fa
  have FB := Lib.hid fb
  have k16 := al.k16
  clear hW a0 x0 x1 x2 r0 hfin al fa fb hf hge
  go_enter Tryz.func42, Tryz.ntmps42
  go_wp2_with fail
  refine (clocked_any W k a p1 p2 c1 c2 _ HW0.out).mono ?_
  rintro e w1 ⟨rfl, hb1⟩
  rw [FA.out]
  have HB1 := Lib.hid (A0.out.trans (hb1.mono A0.out.size))
  have R1 := Lib.hid (R0.out.below hb1)
  have y0 := cell_below hb1 X0.out
  have y1 := cell_below hb1 X1.out
  have y2 := cell_below hb1 X2.out
  have Y0 := Lib.hid y0
  have Y1 := Lib.hid y1
  have Y2 := Lib.hid y2
  have HW1 := Lib.hid (HW0.out.below hb1)
  have hz := cell_lt y0
  clear hb1 R0 X0 X1 X2 HW0
  go_wp2_with fail
  clear y0 y1 y2 hz
  refine (clocked_any W k b p1 p2 c1 c2 _ HW1.out).mono ?_
  rintro e z ⟨rfl, hb2⟩
  rw [FB.out]
  have y0 := cell_below hb2 Y0.out
  have y1 := cell_below hb2 Y1.out
  have y2 := cell_below hb2 Y2.out
  have hz := cell_lt y0
  have HB2 := Lib.hid (HB1.out.trans (hb2.mono HB1.out.size))
  have HWZ := Lib.hid (HW1.out.below hb2)
  have R2 := Lib.hid (R1.out.below hb2)
  clear hb2 R1 HW1 Y0 Y1 Y2
  go_wp2_with fail
  have u1 := IntWalk.i64_in (fixedS (clkOf W k) (roomOf W k) b - fixedS (clkOf W k) (roomOf W k) a) (by omega)
  go_region_held3 (fun w' => Below z.heap.size z w' ∧ w'.cell? ⟨w.heap.size, 0, none⟩ = some (.int .u64 W.seed) ∧ w'.cell? ⟨w.heap.size, 1, none⟩ = some (.slice p1 W.chs.length c1) ∧ w'.cell? ⟨w.heap.size, 2, none⟩ = some (.slice p2 W.cls.length c2))
    (first | exact ⟨Below.drew (Below.refl _ _), y0, y1, y2⟩ | exact ⟨(by assumption), cell_below (by assumption) y0, cell_below (by assumption) y1, cell_below (by assumption) y2⟩)
    ((go_at_call 68; refine (still_keep z W k _ p1 p2 c1 c2 _ (by first | assumption | exact Below.drew (Below.refl _ _)) HWZ.out AL.out (by assumption) (by assumption)).mono ?_; rintro e w2 ⟨rfl, hb2⟩))
  clear u1
  have HB3 := Lib.hid (HB2.out.trans (hb2.mono HB2.out.size))
  have t2 := cell_below hb2 y2
  obtain ⟨⟨x0, x1⟩, f0, f1⟩ := R2.out.below hb2
  obtain ⟨b2, o2, rfl, hkl, hkk, hcl⟩ := clk_at (HWZ.out.below hb2) AL.out
  obtain ⟨⟨-, -, -, -, -, m5, -, -⟩, -⟩ := hcl
  have hjl : ((k.toNat : Nat) : Int) < (W.cls.length : Int) := by omega
  have hzm := cell_lt m5
  have hzx := cell_lt x0
  have hk2 : k < (W.cls.length : Int) := by omega
  have hk0 : 0 ≤ k := by omega
  clear hb2 HWZ R2 y0 y1 y2 hz
  generalize fixedS (clkOf W k) (roomOf W k) b = fb at *
  generalize fixedS (clkOf W k) (roomOf W k) a = fa at *
  generalize (clkOf W k).walk = wk at *
  go_wp2
  go_loop [12, 13] (fun far i => ∃ q : Nat, (q : Int) ≤ b / 100 ∧ i = .int .i64 (100 * ((q : Int) + 1)) ∧ far = .int .i64 (wk * hundreds a q)) (fun _ i => (b + 200 - intOf i).toNat)
  case atStart =>
    have h00 : hundreds a 0 = 0 := by unfold hundreds; split <;> omega
    exact ⟨0, by omega, rfl, by rw [h00, Int.mul_zero]⟩
  case round =>
    obtain ⟨q, hq, rfl, rfl⟩ := hrel
    have hhb := hundreds_bd a q (by omega) sa0
    have hmq := mul_bd wk (hundreds a q) 1000000000 10000 (by omega) hhb
    by_cases hlt : 100 * ((q : Int) + 1) ≤ b
    · by_cases hgt : a < 100 * ((q : Int) + 1)
      · have hn : hundreds a (q + 1) = hundreds a q + 1 := by
          unfold hundreds; rw [if_pos (by omega), if_pos (by omega)]; omega
        have hms : wk * hundreds a (q + 1) = wk * hundreds a q + wk := by rw [hn, Int.mul_add, Int.mul_one]
        have HMS := Lib.hid hms
        clear hms hn
        go_wp2
        go_round
        case rel => exact ⟨q + 1, by omega, congrArg (Value.int .i64) (by omega), congrArg (Value.int .i64) (by rw [HMS.out])⟩
        case measure => simp [intOf]; omega
      · have hn : hundreds a (q + 1) = hundreds a q := by
          unfold hundreds; split <;> split <;> omega
        have HMS := Lib.hid hn
        clear hn
        go_wp2
        go_round
        case rel => exact ⟨q + 1, by omega, congrArg (Value.int .i64) (by omega), congrArg (Value.int .i64) (by rw [HMS.out])⟩
        case measure => simp [intOf]; omega
    · have hqs : hundreds a q = b / 100 - a / 100 := by unfold hundreds; rw [if_pos (by omega)]; omega
      have hfin := HF.out
      rw [← hqs] at hfin
      have HFQ := Lib.hid hfin
      clear hfin hqs
      generalize wk * hundreds a q = far at *
      have d0 := two_c0 (.int .i64 (fb - fa - far)) x0
      have d1 := two_c1 (.int .i64 (fb - fa - far)) (.int .i64 (fb - fa + far)) x1
      go_wp2
      refine bodyPost_ret (v := .tuple #[.agg #[.int .i64 (fb - fa - far), .int .i64 (fb - fa + far)], .int .i64 0]) (by simp [results, Tryz.results42, go_sem, d0, d1]) rfl ?_
      exact ⟨by rw [HFQ.out], below_sets HB3.out (by omega)⟩
theorem rGrowth_any (W : Wld) (k a b : Int) (p1 p2 : Option Addr) (c1 c2 : Nat) (w : World) (hW : WldIn w W p1 p2) :
    Calls Tryz.prog 42 #[.agg #[.int .u64 W.seed, .slice p1 W.chs.length c1, .slice p2 W.cls.length c2], .int .i64 k, .int .i64 a, .int .i64 b] w fun e w' => e = .returned (.tuple #[.agg #[.int .i64 (growthE W k a b).a, .int .i64 (growthE W k a b).b], .int .i64 (growthE W k a b).e]) ∧ Below w.heap.size w w' := by
  by_cases h : growErr W k a b = 0
  · exact rGrowth_ok W k a b p1 p2 c1 c2 w hW h
  · exact rGrowth_err W k a b p1 p2 c1 c2 w hW h
end
end Go.Proofs.YtlelamjbfjneiaaGreatDoor.Wd
