/- Layer 9 (calendar): the reference: CheckZone, holds. -/
import Derived.Test.YtklhepgpepfgjaaDoorQ27
import Derived.Test.YtklhepgpepfgjaaDoorQ34
namespace Go.Proofs.YtklhepgpepfgjaaDoor.Cal
open Go Go.RowKit
attribute [local go_sem] Oper.semAt_some
set_option maxHeartbeats 1000000 in
theorem rCheckZone_any (o : Int) (n c : Nat) (p : Option Addr) (f : Nat → Int × Int) (w : World) (hs : LpIn w f n p) (hn : n ≤ 1000000000000) :
    Calls Tryd.prog 20 #[.agg #[.int .i64 o, .slice p n c]] w fun e w' => e = .returned (.int .i64 (zoneE o n f)) ∧ Below w.heap.size w w' := by
  have A0 := below_alloc (Below.refl w.heap.size w) (.cells #[.int .i64 o, .slice p n c] 61)
  obtain ⟨x0, x1⟩ := ZBox.new w o n c p 61
  have HBX := Lib.hid (ZBox.new w o n c p 61)
  have HS := Lib.hid (hs.below A0)
  have A0 := Lib.hid A0
  have HIN := Lib.hid (fun v X => show Calls Tryd.prog 56 #[.int .i64 v, .int .i64 (-1440), .int .i64 1440] X fun e w' => e = .returned (.bool (offB v)) ∧ X = w' from in_any v (-1440) 1440 X)
  clear hs
  by_cases h3 : n ≤ 200
  · have h3i : ¬ (200 : Int) < n := by omega
    cases h1 : offB o
    · have HV := Lib.hid (show zoneE o n f = 6 by unfold zoneE; rw [if_pos h3, h1]; rfl)
      have H1 := Lib.hid h1
      clear h1 h3
      rw [HV.out]
      go_enter Tryd.func20, Tryd.ntmps20
      go_wp2_with (go_at_call 56; refine (HIN.out _ _).mono ?_; rintro e w' ⟨rfl, rfl⟩; rw [H1.out])
      go_ret
      exact ⟨rfl, A0.out⟩
    · have HV := Lib.hid (show zoneE o n f = firstE (chE f) n by unfold zoneE; rw [if_pos h3, if_pos h1])
      have H1 := Lib.hid h1
      have H3 := Lib.hid h3
      clear h1 h3
      rw [HV.out]
      go_enter Tryd.func20, Tryd.ntmps20
      go_wp2_with (go_at_call 56; refine (HIN.out _ _).mono ?_; rintro e w' ⟨rfl, rfl⟩; rw [H1.out])
      generalize w.alloc (.cells #[.int .i64 o, .slice p n c] 61) = W0 at *
      go_loopw [2, 3, 4, 5] (fun s2 s3 s4 s5 wr => ∃ (k : Nat) (a5 : Value), k ≤ n ∧ s2 = .int .i64 0 ∧ s3 = .int .i64 (prevZ f k) ∧ s4 = .int .i64 (k : Int) ∧ s5 = a5 ∧ Hid (firstE (chE f) k = 0) ∧ Hid (Below W0.heap.size W0 wr)) (fun _ _ s _ _ => n - (intOf s).toNat)
      case atStart => exact ⟨0, _, Nat.zero_le _, rfl, rfl, rfl, rfl, Lib.hid rfl, Lib.hid (Below.refl _ _)⟩
      case round =>
        clear x0 x1
        obtain ⟨k, a5, hk, rfl, rfl, rfl, rfl, HL, HBW⟩ := hrel
        obtain ⟨x0, x1⟩ := HBX.out.below HBW.out
        have zx := cell_lt x0
        have hn3 := H3.out
        by_cases hlt : k < n
        · have hki : (k : Int) < n := by omega
          have vk : IntKind.i64.wrap ((k : Int) + 1) = (k : Int) + 1 := IntWalk.i64_in _ (by omega)
          obtain ⟨bb, oo, rfl, hsi⟩ := HS.out.resolve_left (by omega)
          obtain ⟨y0, y1⟩ := (hsi.below HBW.out) k hlt
          have zy := cell_lt y0
          have HEF : Hid (chE f k = if offB (f k).2 = true then if 0 ≤ (f k).1 then if prevZ f k < (f k).1 then 0 else 11 else 6 else 6) := Lib.hid rfl
          have HAT := Lib.hid (fun h => firstE_at (g := chE f) hlt HL.out h)
          have HSU := Lib.hid (show chE f k = 0 → firstE (chE f) (k + 1) = 0 from fun h => by rw [firstE, if_pos HL.out]; exact h)
          have HNX := Lib.hid (show (f k).1 = prevZ f (k + 1) by unfold prevZ; rw [if_neg (by omega), Nat.add_sub_cancel])
          have hb1 := below_alloc (Below.refl wr.heap.size wr) (.cells #[.int .i64 (f k).1, .int .i64 (f k).2] 62)
          have q0 : (wr.alloc (.cells #[.int .i64 (f k).1, .int .i64 (f k).2] 62)).cell? ⟨wr.heap.size, 0, none⟩ = some (.int .i64 (f k).1) := by simp
          have q1 : (wr.alloc (.cells #[.int .i64 (f k).1, .int .i64 (f k).2] 62)).cell? ⟨wr.heap.size, 1, none⟩ = some (.int .i64 (f k).2) := by simp
          have HB1 := Lib.hid hb1
          have HK := Lib.hid hlt
          clear hlt hsi hb1
          generalize (f k).1 = dk at *
          generalize (f k).2 = sk at *
          generalize prevZ f k = bk at *
          go_upto_region 10 with fail
          generalize wr.alloc (.cells #[.int .i64 dk, .int .i64 sk] 62) = W1 at *
          have zq := cell_lt q0
          clear y0 y1 zy
          clear x0 x1 zx
          cases cl : offB sk
          · have HE := Lib.hid (show (6 : Int) = firstE (chE f) n by
              have e : chE f k = 6 := by rw [HEF.out, cl]; rfl
              rw [HAT.out (by rw [e]; decide), e])
            have HCL := Lib.hid cl
            clear cl
            go_wp2_with (go_at_call 56; refine (HIN.out _ _).mono ?_; rintro e w' ⟨rfl, rfl⟩; rw [HCL.out])
            go_ret
            exact ⟨ret_i64 HE.out, bt (bt A0.out HBW.out) HB1.out⟩
          · have HCL := Lib.hid cl
            clear cl
            by_cases hz : dk < 0
            · have HE := Lib.hid (show (6 : Int) = firstE (chE f) n by
                have e : chE f k = 6 := by rw [HEF.out, HCL.out, if_pos rfl, if_neg (by omega)]
                rw [HAT.out (by rw [e]; decide), e])
              go_wp2_with (go_at_call 56; refine (HIN.out _ _).mono ?_; rintro e w' ⟨rfl, rfl⟩; rw [HCL.out])
              go_ret
              exact ⟨ret_i64 HE.out, bt (bt A0.out HBW.out) HB1.out⟩
            · by_cases ch : bk < dk
              · have HE := Lib.hid (show chE f k = 0 by rw [HEF.out, HCL.out, if_pos rfl, if_pos (by omega), if_pos ch])
                have hni : ¬ dk ≤ bk := by omega
                go_wp2_with (go_at_call 56; refine (HIN.out _ _).mono ?_; rintro e w' ⟨rfl, rfl⟩; rw [HCL.out])
                go_roundw
                case rel => exact ⟨k + 1, _, HK.out, rfl, by rw [← HNX.out], by simp, rfl, Lib.hid (HSU.out HE.out), Lib.hid (bt HBW.out HB1.out)⟩
                case measure => have := HK.out; simp [intOf]; omega
              · have HE := Lib.hid (show (11 : Int) = firstE (chE f) n by
                  have e : chE f k = 11 := by rw [HEF.out, HCL.out, if_pos rfl, if_pos (by omega), if_neg ch]
                  rw [HAT.out (by rw [e]; decide), e])
                have hni : dk ≤ bk := by omega
                go_wp2_with (go_at_call 56; refine (HIN.out _ _).mono ?_; rintro e w' ⟨rfl, rfl⟩; rw [HCL.out])
                go_ret
                exact ⟨ret_i64 HE.out, bt (bt A0.out HBW.out) HB1.out⟩
        · obtain rfl : k = n := by omega
          have hki : ¬ ((k : Int) < k) := by omega
          have HE := Lib.hid HL.out.symm
          generalize prevZ f k = bk at *
          go_wp2_with fail
          go_ret
          exact ⟨ret_i64 HE.out, bt A0.out HBW.out⟩
  · have h3i : (200 : Int) < n := by omega
    have HV := Lib.hid (show zoneE o n f = 2 by unfold zoneE; rw [if_neg h3])
    clear h3
    rw [HV.out]
    go_enter Tryd.func20, Tryd.ntmps20
    go_wp2_with fail
    go_ret
    exact ⟨rfl, A0.out⟩
/-- the offset that the reference finds, from the last change on -/
theorem offAt_down (o : Int) (g : Nat → Int × Int) (x : Int) (k : Nat) : offAt o g x (k + 1 + 1) = if (g k).1 ≤ x then (g k).2 else offAt o g x (k + 1) := by
  have e1 : fromK g (k + 1) = (g k).1 := by unfold fromK; rw [if_neg (by omega), Nat.add_sub_cancel]
  have e2 : offK o g (k + 1) = (g k).2 := by unfold offK; rw [if_neg (by omega), Nat.add_sub_cancel]
  rw [offAt, e1, e2]
theorem offAt_one (o : Int) (g : Nat → Int × Int) (x : Int) : offAt o g x 1 = o := by
  rw [offAt, offAt]; unfold offK; simp
set_option maxHeartbeats 1000000 in
theorem holds_any (o : Int) (n c : Nat) (p : Option Addr) (f : Nat → Int × Int) (x : Int) (w : World) (hs : LpIn w f n p) (hn : n ≤ 1000000000000) :
    Calls Tryd.prog 59 #[.agg #[.int .i64 o, .slice p n c], .int .i64 x] w fun e w' => e = .returned (.int .i64 (offAt o f x (n + 1))) ∧ Below w.heap.size w w' := by
  have A0 := below_alloc (Below.refl w.heap.size w) (.cells #[.int .i64 o, .slice p n c] 61)
  obtain ⟨x0, x1⟩ := ZBox.new w o n c p 61
  have HS := Lib.hid (hs.below A0)
  have A0 := Lib.hid A0
  have v0 : IntKind.i64.wrap ((n : Int) - 1) = (n : Int) - 1 := IntWalk.i64_in _ (by omega)
  clear hs
  go_enter Tryd.func59, Tryd.ntmps59
  go_upto_region 1 with fail
  generalize w.alloc (.cells #[.int .i64 o, .slice p n c] 61) = W0 at *
  have zx := cell_lt x0
  go_wp2_with fail
  go_loopw [4, 5] (fun s4 s5 wr => ∃ (i : Int) (v : Value), -1 ≤ i ∧ i < (n : Int) ∧ s4 = v ∧ s5 = .int .i64 i ∧ W0 = wr ∧ Hid (offAt o f x (n + 1) = offAt o f x ((i + 1).toNat + 1))) (fun _ s _ => (intOf s + 1).toNat)
  case atStart => exact ⟨_, _, by omega, by omega, rfl, rfl, rfl, Lib.hid (by rw [show ((n : Int) - 1 + 1).toNat = n by omega])⟩
  case round =>
    obtain ⟨i, v, h1, h2, rfl, rfl, rfl, HO⟩ := hrel
    by_cases hz : 0 ≤ i
    · obtain ⟨k, rfl⟩ : ∃ k : Nat, i = (k : Int) := ⟨i.toNat, by omega⟩
      have hkn : k < n := by omega
      obtain ⟨bb, oo, rfl, hi⟩ := HS.out.resolve_left (by omega)
      obtain ⟨y0, y1⟩ := hi k hkn
      have zy := cell_lt y0
      have vk : IntKind.i64.wrap ((k : Int) - 1) = (k : Int) - 1 := IntWalk.i64_in _ (by omega)
      have HST := Lib.hid (offAt_down o f x k)
      rw [show ((k : Int) + 1).toNat = k + 1 by omega] at HO
      have HK := Lib.hid h2
      clear hi
      generalize (f k).1 = a at *
      generalize (f k).2 = bo at *
      by_cases hc : a ≤ x
      · have HE := Lib.hid (show bo = offAt o f x (n + 1) by rw [HO.out, HST.out, if_pos hc])
        go_wp2_with fail
        go_ret
        exact ⟨ret_i64 HE.out, A0.out⟩
      · have HE := Lib.hid (show offAt o f x (n + 1) = offAt o f x (k + 1) by rw [HO.out, HST.out, if_neg hc])
        go_wp2_with fail
        go_roundw
        case rel => exact ⟨_, _, by omega, by have := HK.out; omega, rfl, rfl, trivial, Lib.hid (by rw [HE.out, show ((k : Int) - 1 + 1).toNat = k by omega])⟩
        case measure => simp [intOf]
    · obtain rfl : i = -1 := by omega
      have HE := Lib.hid (show o = offAt o f x (n + 1) by rw [HO.out]; exact (offAt_one o f x).symm)
      go_wp2_with fail
      go_ret
      exact ⟨ret_i64 HE.out, A0.out⟩
end Go.Proofs.YtklhepgpepfgjaaDoor.Cal
