/- Layer 9 (calendar): the examples of the chapter hold. -/
import Derived.Test.YtgnfaemnehmgcaaGreatDoorQ14
namespace Go.Proofs.YtgnfaemnehmgcaaGreatDoor.Cal
open Go Go.RowKit
attribute [local go_sem] Oper.semAt_some
def exF (k : Nat) : Int × Int := if k = 0 then (41498, 1) else (41682, 1)
theorem ex_tab : tabE 10 42000 2 exF = 0 := by kernel_rfl
theorem ex_day : dayN 2000 1 1 = 51544 := by kernel_rfl
theorem ex_wd : wd 51544 = 6 := by kernel_rfl
theorem ex_wy : weekY 51544 = 1999 := by kernel_rfl
theorem ex_wn : weekN 51544 = 52 := by kernel_rfl
theorem ex_mom : 1440 * dayN 1972 6 30 + 60 * 23 + 59 = 59758559 := by kernel_rfl
theorem ex_has : hasB 42000 exF 2 59758559 60 = true := by kernel_rfl
theorem ex_num : numS exF 2 59758559 60 = 15724800 := by kernel_rfl
theorem ex_found : foundL 42000 exF 2 (58445280 + 78796800 / 60) (78796800 % 60) 2 = [15724800, 15724801] := by kernel_rfl
theorem ex_date1 : IsDate 2000 1 1 := ⟨by decide, by decide, by decide, by decide, by decide, by have := dm_bd 2000 ((1 : Nat) : Int); omega⟩
theorem ex_dm : dm 1972 ((6 : Nat) : Int) = 30 := by kernel_rfl
theorem ex_date2 : IsDate 1972 6 30 := ⟨by decide, by decide, by decide, by decide, by decide, by rw [ex_dm]; decide⟩
theorem example_any (w : World) :
    Calls Tryz.prog 12 #[] w fun e w' => ∃ q, e = .returned (.agg #[.int .i64 10, .slice q 2 2, .int .i64 42000]) ∧ LpIn w' exF 2 q ∧ Below w.heap.size w w' := by
  go_enter Tryz.func12, Tryz.ntmps12
  go_wp2
  refine bodyPost_ret (v := .agg #[.int .i64 10, .slice (some ⟨w.heap.size + 1, 0, none⟩) 2 2, .int .i64 42000]) (by simp [results, Tryz.results12, go_sem]) rfl ⟨_, rfl, .inr ⟨w.heap.size + 1, 0, rfl, fun i hi => ?_⟩, below_alloc (below_alloc (Below.refl _ _) _) _⟩
  have : i = 0 ∨ i = 1 := by omega
  have e : (w.alloc (.cells #[.int .i64 10, .slice (some ⟨w.heap.size + 1, 0, none⟩) 2 2, .int .i64 42000] 24)).heap.size = w.heap.size + 1 := by simp
  generalize w.alloc (.cells #[.int .i64 10, .slice (some ⟨w.heap.size + 1, 0, none⟩) 2 2, .int .i64 42000] 24) = W at *
  rw [← e]
  rcases this with rfl | rfl <;> exact ⟨by simp; rfl, by simp; rfl⟩
theorem two_in (w : World) (x y : Int) : FnIn (w.alloc (.cells #[.int .i64 x, .int .i64 y] 3)) (atL [x, y]) 2 (some ⟨w.heap.size, 0, none⟩) := by
  refine .inr ⟨w.heap.size, 0, rfl, fun i hi => ?_⟩
  have : i = 0 ∨ i = 1 := by omega
  rcases this with rfl | rfl <;> (simp; rfl)
set_option maxRecDepth 100000 in
set_option maxHeartbeats 2000000 in
theorem awake_any (w : World) (hw : Mon w) : Calls Tryz.prog 6 #[] w fun e w' => e = .returned (.bool true) ∧ Below w.heap.size w w' := by
  have HD : Hid (Calls Tryz.prog 13 #[.int .i64 2000, .int .i64 1, .int .i64 1] w fun e w' => e = .returned (.tuple #[.int .i64 51544, .int .i64 0]) ∧ w = w') := Lib.hid (by
    have h := Day_ok w hw ex_date1
    rw [ex_day] at h
    exact h)
  have HWD := Lib.hid (Weekday_ok 51544 w (by decide))
  rw [ex_wd] at HWD
  have HWK := Lib.hid (Week_ok 51544 w (by decide))
  rw [ex_wy, ex_wn] at HWK
  have HSE : Hid (∀ (q : Option Addr) (X : World), Mon X → LpIn X exF 2 q → Calls Tryz.prog 25 #[.agg #[.int .i64 10, .slice q 2 2, .int .i64 42000], .agg #[.int .i64 1972, .int .i64 6, .int .i64 30, .int .i64 23, .int .i64 59, .int .i64 60]] X fun e w' => e = .returned (.tuple #[.int .i64 15724800, .int .i64 0]) ∧ Below X.heap.size X w') := Lib.hid (fun q X hX hq => by
    have h := Seconds_ok ex_tab ex_date2 23 59 60 (by kernel_rfl) (by kernel_rfl) (by kernel_rfl) (by rw [ex_mom]; exact ex_has) 2 q X hX hq (Nat.le_refl _) (by unfold maxLen; decide)
    rw [ex_mom, ex_num] at h
    exact h)
  have HFU : Hid (∀ (q : Option Addr) (X : World), Mon X → LpIn X exF 2 q → Calls Tryz.prog 26 #[.agg #[.int .i64 10, .slice q 2 2, .int .i64 42000], .int .i64 78796800] X fun e w' => ∃ r c, e = .returned (.tuple #[.slice r 2 c, .int .i64 0]) ∧ FnIn w' (atL [15724800, 15724801]) 2 r ∧ Below X.heap.size X w') := Lib.hid (fun q X hX hq => by
    have h := FromUnix_ok ex_tab 78796800 (by decide) 2 q X hX hq (Nat.le_refl _) (by unfold maxLen; decide) (by rw [ex_found]; decide)
    rw [ex_found] at h
    exact h)
  have HW := Lib.hid hw
  clear hw
  go_enter Tryz.func6, Tryz.ntmps6
  go_upto_region 4 with (first | (go_at_call 13; refine HD.out.mono ?_; rintro e w' ⟨rfl, rfl⟩) | (go_at_call 23; refine HWD.out.mono ?_; rintro e w' ⟨rfl, rfl⟩) | (go_at_call 24; refine HWK.out.mono ?_; rintro e w' ⟨rfl, rfl⟩))
  clear HD HWD HWK
  go_wp2_with fail
  refine (example_any _).mono ?_
  rintro e w1 ⟨q1, rfl, hl, hb1⟩
  have HL1 := Lib.hid hl
  have HB1 := Lib.hid hb1
  clear hl hb1
  go_wp2_with fail
  refine (HSE.out _ _ (HW.out.below HB1.out) HL1.out).mono ?_
  rintro e w2 ⟨rfl, hb⟩
  have HB2 := Lib.hid (bt HB1.out hb)
  clear hb
  go_wp2_with fail
  refine (example_any _).mono ?_
  rintro e w3 ⟨q3, rfl, hl, hb⟩
  have HL3 := Lib.hid hl
  have HB3 := Lib.hid (bt HB2.out hb)
  clear hl hb
  go_wp2_with fail
  refine (HFU.out _ _ (HW.out.below HB3.out) HL3.out).mono ?_
  rintro e w4 ⟨r, c, rfl, hf, hb⟩
  have HF4 := Lib.hid hf
  have HB4 := Lib.hid (bt HB3.out hb)
  clear hf hb
  go_wp2_with fail
  have HEQ := Lib.hid (equal_yes (atL [15724800, 15724801]) 2 c 2 r (some ⟨w4.heap.size, 0, none⟩) _ (by decide) (HF4.out.below (below_alloc (Below.refl _ _) (.cells #[.int .i64 15724800, .int .i64 15724801] 3))) (two_in w4 _ _))
  refine HEQ.out.mono ?_
  rintro e w5 ⟨rfl, hb⟩
  have HB5 := Lib.hid (bt (below_alloc HB4.out _) hb)
  clear hb
  go_wp2
  go_ret
  exact ⟨rfl, HB5.out⟩
end Go.Proofs.YtgnfaemnehmgcaaGreatDoor.Cal
