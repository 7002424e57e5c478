/- -/
import Derived.Test.YtgnfaemnehmgcaaGreatDoorQ53
import Derived.Deep.RegionHeld3
import Derived.Laws.Concat
import Derived.Test.YtgnfaemnehmgcaaGreatDoorQ03
import Derived.Test.YtgnfaemnehmgcaaGreatDoorQ25
import Derived.Test.YtgnfaemnehmgcaaGreatDoorQ48
namespace Go.Proofs.YtgnfaemnehmgcaaGreatDoor.Cal
open Go Go.RowKit
attribute [local go_sem] Oper.semAt_some
set_option maxRecDepth 100000 in
set_option maxHeartbeats 1000000000 in
theorem calendarSmall_any (w : World) (hw : Mon w) (hp : Pow w) :
    Calls Tryz.prog 4 #[] w fun e w' => e = .returned (.bool true) ∧ Below w.heap.size w w' := by
  have HA : Hid (SmA w w) := Lib.hid ⟨hw, hp, Below.refl _ _⟩
  clear hw hp
  go_enter Tryz.func4, Tryz.ntmps4
  go_wp2_with fail
  go_loopw [1] (fun s1 wr => ∃ n : Int, 40917 ≤ n ∧ n ≤ 88469 ∧ s1 = .int .i64 n ∧ Hid (SmA w wr)) (fun s _ => (88469 - intOf s).toNat)
  case atStart => exact ⟨_, by omega, by omega, rfl, HA⟩
  clear HA
  obtain ⟨n, hn0, hn9, rfl, HA⟩ := hrel
  by_cases hlt : n ≤ 88468
  · have vk : IntKind.i64.wrap (n + 1) = n + 1 := IntWalk.i64_in _ (by omega)
    have HK := Lib.hid (And.intro hn0 hlt)
    clear hn9
    go_wp2_with (go_at_call 7; refine (numbers_any n _ HA.out.mon).mono ?_; rintro e w1 ⟨rfl, rfl⟩)
    all_goals exact ⟨⟨n + 1, by have := HK.out; omega, by have := HK.out; omega, rfl, HA⟩, by have := HK.out; simp [intOf]; omega⟩
  clear hn0 hn9
  go_wp2_with fail
  have HI := Lib.hid (show IntsAt (wr.alloc (.cells #[.int .i64 1971, .int .i64 1972, .int .i64 1973, .int .i64 1999, .int .i64 2000, .int .i64 2001, .int .i64 2004, .int .i64 2096, .int .i64 2099, .int .i64 2100] 3)) wr.heap.size 10 from ints_new wr [1971, 1972, 1973, 1999, 2000, 2001, 2004, 2096, 2099, 2100] _ (by intro x hx; simp at hx; omega))
  have HA := Lib.hid (HA.out.below (below_alloc (Below.refl wr.heap.size wr) (.cells #[.int .i64 1971, .int .i64 1972, .int .i64 1973, .int .i64 1999, .int .i64 2000, .int .i64 2001, .int .i64 2004, .int .i64 2096, .int .i64 2099, .int .i64 2100] 3)))
  generalize (wr.alloc (.cells #[.int .i64 1971, .int .i64 1972, .int .i64 1973, .int .i64 1999, .int .i64 2000, .int .i64 2001, .int .i64 2004, .int .i64 2096, .int .i64 2099, .int .i64 2100] 3)) = W1 at *
  generalize wr.heap.size = blk at *
  go_loopw [3, 66] (fun s3 s66 wr => ∃ (j : Nat) (v : Value), j ≤ 10 ∧ s3 = v ∧ s66 = .int .i64 (j : Int) ∧ Hid (SmA w wr ∧ IntsAt wr blk 10)) (fun _ s _ => 10 - (intOf s).toNat)
  case atStart => exact ⟨0, _, Nat.zero_le _, rfl, rfl, Lib.hid ⟨HA.out, HI.out⟩⟩
  clear HA HI
  obtain ⟨j, v, hj, rfl, rfl, HB⟩ := hrel
  by_cases hlt : j < 10
  · have hki : (j : Int) < 10 := by omega
    have vk : IntKind.i64.wrap ((j : Int) + 1) = (j : Int) + 1 := IntWalk.i64_in _ (by omega)
    obtain ⟨yr, hy, -, -⟩ := HB.out.2 j hlt
    have zy := cell_lt hy
    have HK := Lib.hid hlt
    clear hlt hj
    go_wp2_with fail
    clear hy zy
    go_loopw [4] (fun s4 wr => ∃ m : Int, 0 ≤ m ∧ m ≤ 14 ∧ s4 = .int .i64 m ∧ Hid (SmA w wr ∧ IntsAt wr blk 10)) (fun s _ => (14 - intOf s).toNat)
    case atStart => exact ⟨_, by omega, by omega, rfl, HB⟩
    clear HB
    obtain ⟨m, hm0, hm9, rfl, HB⟩ := hrel
    by_cases hmm : m ≤ 13
    · have vm : IntKind.i64.wrap (m + 1) = m + 1 := IntWalk.i64_in _ (by omega)
      have HM := Lib.hid (And.intro hm0 hmm)
      clear hm0 hm9
      go_wp2_with fail
      go_loopw [5] (fun s5 wr => ∃ d : Int, 0 ≤ d ∧ d ≤ 33 ∧ s5 = .int .i64 d ∧ Hid (SmA w wr ∧ IntsAt wr blk 10)) (fun s _ => (33 - intOf s).toNat)
      case atStart => exact ⟨_, by omega, by omega, rfl, HB⟩
      clear HB
      obtain ⟨d, hd0, hd9, rfl, HB⟩ := hrel
      by_cases hdd : d ≤ 32
      · have vd : IntKind.i64.wrap (d + 1) = d + 1 := IntWalk.i64_in _ (by omega)
        have HD := Lib.hid (And.intro hd0 hdd)
        clear hd0 hd9
        go_wp2_with (go_at_call 8; refine (days_any yr m d _ HB.out.1.mon).mono ?_; rintro e w1 ⟨rfl, rfl⟩)
        exact ⟨⟨d + 1, by have := HD.out; omega, by have := HD.out; omega, rfl, HB⟩, by have := HD.out; simp [intOf]; omega⟩
      · clear hd0 hd9
        go_wp2_with fail
        exact ⟨⟨m + 1, by have := HM.out; omega, by have := HM.out; omega, rfl, HB⟩, by have := HM.out; simp [intOf]; omega⟩
    · clear hm0 hm9
      go_wp2_with fail
      exact ⟨⟨j + 1, _, HK.out, rfl, by simp, HB⟩, by have := HK.out; simp [intOf]; omega⟩
  obtain rfl : j = 10 := by omega
  have hki : ¬ ((10 : Int) < 10) := by omega
  clear hlt hj
  have HA := Lib.hid HB.out.1
  clear HB
  go_upto_region 19 with fail
  have b1 := below_alloc (Below.refl wr.heap.size wr) (.cells #[.int .i64 41498, .int .i64 1, .int .i64 41529, .int .i64 (-1), .int .i64 41560, .int .i64 1, .int .i64 41682, .int .i64 1] 33)
  have L1 : LpAt (wr.alloc (.cells #[.int .i64 41498, .int .i64 1, .int .i64 41529, .int .i64 (-1), .int .i64 41560, .int .i64 1, .int .i64 41682, .int .i64 1] 33)) (fun i : Nat => ([(41498, 1), (41529, -1), (41560, 1), (41682, 1)] : List (Int × Int))[i]?.getD (0, 0)) 4 wr.heap.size 0 := lp_new wr [(41498, 1), (41529, -1), (41560, 1), (41682, 1)] _ _ rfl
  have e1 : (wr.alloc (.cells #[.int .i64 41498, .int .i64 1, .int .i64 41529, .int .i64 (-1), .int .i64 41560, .int .i64 1, .int .i64 41682, .int .i64 1] 33)).heap.size = wr.heap.size + 1 := by simp
  have b2 := below_alloc (Below.refl (wr.alloc (.cells #[.int .i64 41498, .int .i64 1, .int .i64 41529, .int .i64 (-1), .int .i64 41560, .int .i64 1, .int .i64 41682, .int .i64 1] 33)).heap.size (wr.alloc (.cells #[.int .i64 41498, .int .i64 1, .int .i64 41529, .int .i64 (-1), .int .i64 41560, .int .i64 1, .int .i64 41682, .int .i64 1] 33))) (.cells #[.int .i64 10, .slice (some ⟨wr.heap.size, 0, none⟩) 4 4, .int .i64 41683] 24)
  have T1 := TBox.new (wr.alloc (.cells #[.int .i64 41498, .int .i64 1, .int .i64 41529, .int .i64 (-1), .int .i64 41560, .int .i64 1, .int .i64 41682, .int .i64 1] 33)) 10 41683 4 4 (some ⟨wr.heap.size, 0, none⟩) 24
  rw [e1] at T1
  have L1 := L1.below b2
  have HA := Lib.hid ((HA.out.below b1).below b2)
  clear b1 b2 e1
  generalize (wr.alloc (.cells #[.int .i64 41498, .int .i64 1, .int .i64 41529, .int .i64 (-1), .int .i64 41560, .int .i64 1, .int .i64 41682, .int .i64 1] 33)).alloc (.cells #[.int .i64 10, .slice (some ⟨wr.heap.size, 0, none⟩) 4 4, .int .i64 41683] 24) = W2 at *
  generalize wr.heap.size + 1 = a6 at *
  generalize wr.heap.size = btn at *
  generalize (fun i : Nat => ([(41498, 1), (41529, -1), (41560, 1), (41682, 1)] : List (Int × Int))[i]?.getD (0, 0)) = gt at *
  have T1 := Lib.hid T1
  have L1 := Lib.hid L1
  go_upto_region 20 with fail
  have b1 := below_alloc (Below.refl W2.heap.size W2) (.cells #[.int .i64 15721201, .int .i64 120, .int .i64 15732001, .int .i64 (-30), .int .i64 18403210, .int .i64 0] 35)
  have L2 : LpAt (W2.alloc (.cells #[.int .i64 15721201, .int .i64 120, .int .i64 15732001, .int .i64 (-30), .int .i64 18403210, .int .i64 0] 35)) (fun i : Nat => ([(15721201, 120), (15732001, -30), (18403210, 0)] : List (Int × Int))[i]?.getD (0, 0)) 3 W2.heap.size 0 := lp_new W2 [(15721201, 120), (15732001, -30), (18403210, 0)] _ _ rfl
  have e1 : (W2.alloc (.cells #[.int .i64 15721201, .int .i64 120, .int .i64 15732001, .int .i64 (-30), .int .i64 18403210, .int .i64 0] 35)).heap.size = W2.heap.size + 1 := by simp
  have b2 := below_alloc (Below.refl (W2.alloc (.cells #[.int .i64 15721201, .int .i64 120, .int .i64 15732001, .int .i64 (-30), .int .i64 18403210, .int .i64 0] 35)).heap.size (W2.alloc (.cells #[.int .i64 15721201, .int .i64 120, .int .i64 15732001, .int .i64 (-30), .int .i64 18403210, .int .i64 0] 35))) (.cells #[.int .i64 60, .slice (some ⟨W2.heap.size, 0, none⟩) 3 3] 38)
  have Z1 := ZBox.new (W2.alloc (.cells #[.int .i64 15721201, .int .i64 120, .int .i64 15732001, .int .i64 (-30), .int .i64 18403210, .int .i64 0] 35)) 60 3 3 (some ⟨W2.heap.size, 0, none⟩) 38
  rw [e1] at Z1
  have gb : ∀ i, i < 3 → ((fun i : Nat => ([(15721201, 120), (15732001, -30), (18403210, 0)] : List (Int × Int))[i]?.getD (0, 0)) i).1 ≤ 9223372036854775807 := by decide
  have HZ := Lib.hid (show SmZ w _ _ _ _ from ⟨(HA.out.below b1).below b2, Z1, L2.below b2, gb⟩)
  have T1 := Lib.hid ((T1.out.below b1).below b2)
  have L1 := Lib.hid ((L1.out.below b1).below b2)
  clear b1 b2 e1 Z1 L2 gb HA
  generalize (W2.alloc (.cells #[.int .i64 15721201, .int .i64 120, .int .i64 15732001, .int .i64 (-30), .int .i64 18403210, .int .i64 0] 35)).alloc (.cells #[.int .i64 60, .slice (some ⟨W2.heap.size, 0, none⟩) 3 3] 38) = W3 at *
  generalize W2.heap.size + 1 = a7 at *
  generalize W2.heap.size = bz at *
  generalize (fun i : Nat => ([(15721201, 120), (15732001, -30), (18403210, 0)] : List (Int × Int))[i]?.getD (0, 0)) = gz at *
  go_wp2_with fail
  have HI := ints_new W3 [41317, 41497, 41498, 41499, 41528, 41529, 41530, 41559, 41560, 41561, 41681, 41682, 41683, 41684] 3 (by intro x hx; simp at hx; omega)
  have b1 := below_alloc (Below.refl W3.heap.size W3) (.cells #[.int .i64 41317, .int .i64 41497, .int .i64 41498, .int .i64 41499, .int .i64 41528, .int .i64 41529, .int .i64 41530, .int .i64 41559, .int .i64 41560, .int .i64 41561, .int .i64 41681, .int .i64 41682, .int .i64 41683, .int .i64 41684] 3)
  have HB := Lib.hid (show SmT w (W3.alloc (.cells #[.int .i64 41317, .int .i64 41497, .int .i64 41498, .int .i64 41499, .int .i64 41528, .int .i64 41529, .int .i64 41530, .int .i64 41559, .int .i64 41560, .int .i64 41561, .int .i64 41681, .int .i64 41682, .int .i64 41683, .int .i64 41684] 3)) a6 btn a7 bz gt gz W3.heap.size 14 from ⟨HZ.out.below b1, T1.out.below b1, L1.out.below b1, HI⟩)
  clear HI b1 HZ T1 L1
  generalize W3.alloc (.cells #[.int .i64 41317, .int .i64 41497, .int .i64 41498, .int .i64 41499, .int .i64 41528, .int .i64 41529, .int .i64 41530, .int .i64 41559, .int .i64 41560, .int .i64 41561, .int .i64 41681, .int .i64 41682, .int .i64 41683, .int .i64 41684] 3) = W4 at *
  generalize W3.heap.size = blk5 at *
  go_loopw [9, 97] (fun s9 s97 wr => ∃ (j : Nat) (v : Value), j ≤ 14 ∧ s9 = v ∧ s97 = .int .i64 (j : Int) ∧ Hid (SmT w wr a6 btn a7 bz gt gz blk5 14)) (fun _ s _ => 14 - (intOf s).toNat)
  case atStart => exact ⟨0, _, Nat.zero_le _, rfl, rfl, HB⟩
  clear HB
  obtain ⟨j, v, hj, rfl, rfl, HB⟩ := hrel
  by_cases hlt : j < 14
  · have hki : (j : Int) < 14 := by omega
    have vk : IntKind.i64.wrap ((j : Int) + 1) = (j : Int) + 1 := IntWalk.i64_in _ (by omega)
    obtain ⟨dv, hy, hd1, hd2⟩ := HB.out.il j hlt
    have zy := cell_lt hy
    have HK := Lib.hid hlt
    clear hlt hj
    have v1 : IntKind.i64.wrap (dv - 41317) = dv - 41317 := IntWalk.i64_in _ (by omega)
    have v2 : IntKind.i64.wrap (86400 * (dv - 41317)) = 86400 * (dv - 41317) := IntWalk.i64_in _ (by omega)
    have v3 : IntKind.i64.wrap (dv - 40587) = dv - 40587 := IntWalk.i64_in _ (by omega)
    have v4 : IntKind.i64.wrap (86400 * (dv - 40587)) = 86400 * (dv - 40587) := IntWalk.i64_in _ (by omega)
    go_upto_region 24 with fail
    clear hy zy
    obtain ⟨bg, hbg⟩ : ∃ x, 86400 * (dv - 41317) = x := ⟨_, rfl⟩
    obtain ⟨un, hun⟩ : ∃ x, 86400 * (dv - 40587) = x := ⟨_, rfl⟩
    have HBG := Lib.hid (show (-1000000000000000000 ≤ bg ∧ bg ≤ 1000000000000000000) ∧ (-1000000000000000000 ≤ un ∧ un ≤ 1000000000000000000) ∧ (-10000000000000 ≤ dv ∧ dv ≤ 10000000000000) by omega)
    rw [hbg] at v2 ⊢
    rw [hun] at v4
    clear hbg v1 v2 hd1 hd2
    go_wp2_with fail
    go_loopw [11] (fun s11 wr => ∃ k : Int, -9 ≤ k ∧ k ≤ 10 ∧ s11 = .int .i64 k ∧ Hid (SmT w wr a6 btn a7 bz gt gz blk5 14)) (fun s _ => (10 - intOf s).toNat)
    case atStart => exact ⟨_, by omega, by omega, rfl, HB⟩
    clear HB
    obtain ⟨k, hk0, hk9, rfl, HB⟩ := hrel
    by_cases hkk : k ≤ 9
    · obtain ⟨⟨g1, g2⟩, ⟨g3, g4⟩, g5, g6⟩ := HBG.out
      have vk1 : IntKind.i64.wrap (k + 1) = k + 1 := IntWalk.i64_in _ (by omega)
      have w1 : IntKind.i64.wrap (bg + k) = bg + k := IntWalk.i64_in _ (by omega)
      have w2 : IntKind.i64.wrap (un + k) = un + k := IntWalk.i64_in _ (by omega)
      have w3 : IntKind.i64.wrap (dv + k) = dv + k := IntWalk.i64_in _ (by omega)
      have w4 : IntKind.i64.wrap (un + k + 2208988800) = un + k + 2208988800 := IntWalk.i64_in _ (by omega)
      have HU := Lib.hid (show -9223372036854775808 ≤ un + k ∧ un + k ≤ 9223372036854775807 by omega)
      obtain ⟨r1, hr1⟩ : ∃ q, bits .and .i64 k 7 = q := ⟨_, rfl⟩
      obtain ⟨r2, hr2⟩ : ∃ q, bits .and .i64 k 1 = q := ⟨_, rfl⟩
      obtain ⟨r3, hr3⟩ : ∃ q, bits .and .i64 k 3 = q := ⟨_, rfl⟩
      obtain ⟨m1, hm1⟩ : ∃ q, IntKind.i64.wrap (1 + r1) = q := ⟨_, rfl⟩
      obtain ⟨m2, hm2⟩ : ∃ q, IntKind.i64.wrap (30 + r2) = q := ⟨_, rfl⟩
      obtain ⟨m3, hm3⟩ : ∃ q, IntKind.i64.wrap (57 + r3) = q := ⟨_, rfl⟩
      have HKK := Lib.hid (And.intro hk0 hkk)
      clear hk0 hk9 g1 g2 g3 g4 g5 g6
      go_upto_region 30 with fail
      have HD := Lib.hid (DBox.new wr 1972 m1 m2 23 59 m3)
      have HB := Lib.hid (HB.out.below (below_alloc (Below.refl wr.heap.size wr) (.cells #[.int .i64 1972, .int .i64 m1, .int .i64 m2, .int .i64 23, .int .i64 59, .int .i64 m3] 26)))
      generalize wr.alloc (.cells #[.int .i64 1972, .int .i64 m1, .int .i64 m2, .int .i64 23, .int .i64 59, .int .i64 m3] 26) = X0 at *
      generalize wr.heap.size = ad at *
      obtain ⟨x0, x1, x2⟩ := HB.out.t; have zx := cell_lt x0
      obtain ⟨d0, d1, d2, d3, d4, d5⟩ := HD.out; have zd := cell_lt d0
      go_wp2_with (first | (go_at_call 9; refine (tables_any 10 41683 gt 4 4 (some ⟨btn, 0, none⟩) _ 1972 m1 m2 23 59 m3 _ _ HB.out.z.a.mon (by decide) (by simp) (.inr ⟨btn, 0, rfl, HB.out.lt⟩)).mono ?_; rintro e y1 ⟨rfl, hb⟩; have HB1 := Lib.hid (HB.out.below hb); have HD1 := Lib.hid (HD.out.below hb); clear hb x0 x1 x2 zx d0 d1 d2 d3 d4 d5 zd; obtain ⟨x0, x1, x2⟩ := HB1.out.t; have zx := cell_lt x0; obtain ⟨d0, d1, d2, d3, d4, d5⟩ := HD1.out; have zd := cell_lt d0) | (go_at_call 10; refine (codes_any 10 41683 gt 4 4 (some ⟨btn, 0, none⟩) _ (un + k) 0 (un + k + 2208988800) 0 k HU.out _ HB1.out.z.a.mon (by decide) (by simp) (.inr ⟨btn, 0, rfl, HB1.out.lt⟩)).mono ?_; rintro e y2 ⟨rfl, hb⟩; have HB2 := Lib.hid (HB1.out.below hb); have HD2 := Lib.hid (HD1.out.below hb); clear hb x0 x1 x2 zx d0 d1 d2 d3 d4 d5 zd; obtain ⟨x0, x1, x2⟩ := HB2.out.t; have zx := cell_lt x0; obtain ⟨y0, y1⟩ := HB2.out.z.z; have zy := cell_lt y0; obtain ⟨d0, d1, d2, d3, d4, d5⟩ := HD2.out; have zd := cell_lt d0) | (go_at_call 11; refine (zones_any 10 41683 4 4 (some ⟨btn, 0, none⟩) gt 60 3 3 (some ⟨bz, 0, none⟩) gz _ 1972 m1 m2 23 59 m3 _ HB2.out.z.a.mon (.inr ⟨btn, 0, rfl, HB2.out.lt⟩) (.inr ⟨bz, 0, rfl, HB2.out.z.lz⟩) (by decide) (by decide) (by simp) (by simp) HB2.out.z.gb).mono ?_; rintro e y3 ⟨rfl, hb⟩; have HB3 := Lib.hid (HB2.out.below hb); clear hb x0 x1 x2 zx y0 y1 zy d0 d1 d2 d3 d4 d5 zd))
      exact ⟨⟨k + 1, by have := HKK.out; omega, by have := HKK.out; omega, rfl, HB3⟩, by have := HKK.out; simp [intOf]; omega⟩
    · clear hk0 hk9
      go_wp2_with fail
      exact ⟨⟨j + 1, _, HK.out, rfl, by simp, HB⟩, by have := HK.out; simp [intOf]; omega⟩
  obtain rfl : j = 14 := by omega
  have hki : ¬ ((14 : Int) < 14) := by omega
  clear hlt hj
  have HZ := Lib.hid HB.out.z
  clear HB
  go_upto_region 34 with fail
  have b1 := below_alloc (Below.refl wr.heap.size wr) (.cells #[.int .i64 44785, .int .i64 1] 33)
  have L1 : LpAt (wr.alloc (.cells #[.int .i64 44785, .int .i64 1] 33)) (fun i : Nat => ([(44785, 1)] : List (Int × Int))[i]?.getD (0, 0)) 1 wr.heap.size 0 := lp_new wr [(44785, 1)] _ _ rfl
  have e1 : (wr.alloc (.cells #[.int .i64 44785, .int .i64 1] 33)).heap.size = wr.heap.size + 1 := by simp
  have b2 := below_alloc (Below.refl (wr.alloc (.cells #[.int .i64 44785, .int .i64 1] 33)).heap.size (wr.alloc (.cells #[.int .i64 44785, .int .i64 1] 33))) (.cells #[.int .i64 19, .slice (some ⟨wr.heap.size, 0, none⟩) 1 1, .int .i64 60000] 24)
  have T1 := TBox.new (wr.alloc (.cells #[.int .i64 44785, .int .i64 1] 33)) 19 60000 1 1 (some ⟨wr.heap.size, 0, none⟩) 24
  rw [e1] at T1
  have L1 := L1.below b2
  have HZ := Lib.hid ((HZ.out.below b1).below b2)
  clear b1 b2 e1
  generalize (wr.alloc (.cells #[.int .i64 44785, .int .i64 1] 33)).alloc (.cells #[.int .i64 19, .slice (some ⟨wr.heap.size, 0, none⟩) 1 1, .int .i64 60000] 24) = W5 at *
  generalize wr.heap.size + 1 = a15 at *
  generalize wr.heap.size = bgg at *
  generalize (fun i : Nat => ([(44785, 1)] : List (Int × Int))[i]?.getD (0, 0)) = gg at *
  have T1 := Lib.hid T1
  have L1 := Lib.hid L1
  go_wp2_with fail
  have HI := ints_new W5 [-1, 0, 1, 1023, 1024] 3 (by intro x hx; simp at hx; omega)
  have b1 := below_alloc (Below.refl W5.heap.size W5) (.cells #[.int .i64 (-1), .int .i64 0, .int .i64 1, .int .i64 1023, .int .i64 1024] 3)
  have HB := Lib.hid (show SmG w (W5.alloc (.cells #[.int .i64 (-1), .int .i64 0, .int .i64 1, .int .i64 1023, .int .i64 1024] 3)) a15 bgg a7 bz gg gz W5.heap.size 5 from ⟨HZ.out.below b1, T1.out.below b1, L1.out.below b1, HI⟩)
  clear HI b1 HZ T1 L1
  generalize W5.alloc (.cells #[.int .i64 (-1), .int .i64 0, .int .i64 1, .int .i64 1023, .int .i64 1024] 3) = W6 at *
  generalize W5.heap.size = blk7 at *
  go_loopw [17, 160] (fun s17 s160 wr => ∃ (j : Nat) (v : Value), j ≤ 5 ∧ s17 = v ∧ s160 = .int .i64 (j : Int) ∧ Hid (SmG w wr a15 bgg a7 bz gg gz blk7 5)) (fun _ s _ => 5 - (intOf s).toNat)
  case atStart => exact ⟨0, _, Nat.zero_le _, rfl, rfl, HB⟩
  clear HB
  obtain ⟨j, v, hj, rfl, rfl, HB⟩ := hrel
  by_cases hlt : j < 5
  · have hki : (j : Int) < 5 := by omega
    have vk : IntKind.i64.wrap ((j : Int) + 1) = (j : Int) + 1 := IntWalk.i64_in _ (by omega)
    obtain ⟨nv, hy, -, -⟩ := HB.out.il j hlt
    have zy := cell_lt hy
    have HK := Lib.hid hlt
    clear hlt hj
    go_wp2_with fail
    clear hy zy
    have I8 := Lib.hid (show IntsAt (wr.alloc (.cells #[.int .i64 (-1), .int .i64 0, .int .i64 1, .int .i64 604799, .int .i64 604800] 3)) wr.heap.size 5 from ints_new wr [-1, 0, 1, 604799, 604800] 3 (by intro x hx; simp at hx; omega))
    have HB := Lib.hid (HB.out.below (below_alloc (Below.refl wr.heap.size wr) (.cells #[.int .i64 (-1), .int .i64 0, .int .i64 1, .int .i64 604799, .int .i64 604800] 3)))
    generalize wr.alloc (.cells #[.int .i64 (-1), .int .i64 0, .int .i64 1, .int .i64 604799, .int .i64 604800] 3) = W8 at *
    generalize wr.heap.size = blk8 at *
    go_loopw [19, 166] (fun s19 s166 wr => ∃ (i : Nat) (v : Value), i ≤ 5 ∧ s19 = v ∧ s166 = .int .i64 (i : Int) ∧ Hid (SmG w wr a15 bgg a7 bz gg gz blk7 5 ∧ IntsAt wr blk8 5)) (fun _ s _ => 5 - (intOf s).toNat)
    case atStart => exact ⟨0, _, Nat.zero_le _, rfl, rfl, Lib.hid ⟨HB.out, I8.out⟩⟩
    clear HB I8
    obtain ⟨i, v8, hi, rfl, rfl, HB⟩ := hrel
    by_cases hil : i < 5
    · have hii : (i : Int) < 5 := by omega
      have vi : IntKind.i64.wrap ((i : Int) + 1) = (i : Int) + 1 := IntWalk.i64_in _ (by omega)
      obtain ⟨sv, hy, -, -⟩ := HB.out.2 i hil
      have zy := cell_lt hy
      have HI := Lib.hid hil
      clear hil hi
      go_wp2_with fail
      clear hy zy
      have I9 := Lib.hid (show IntsAt (wr.alloc (.cells #[.int .i64 (-1000000000001), .int .i64 0, .int .i64 252892800, .int .i64 872208000, .int .i64 562550400, .int .i64 1000000000001] 3)) wr.heap.size 6 from ints_new wr [-1000000000001, 0, 252892800, 872208000, 562550400, 1000000000001] 3 (by intro x hx; simp at hx; omega))
      have b9 := below_alloc (Below.refl wr.heap.size wr) (.cells #[.int .i64 (-1000000000001), .int .i64 0, .int .i64 252892800, .int .i64 872208000, .int .i64 562550400, .int .i64 1000000000001] 3)
      have HB := Lib.hid (And.intro (HB.out.1.below b9) (HB.out.2.below b9))
      clear b9
      generalize wr.alloc (.cells #[.int .i64 (-1000000000001), .int .i64 0, .int .i64 252892800, .int .i64 872208000, .int .i64 562550400, .int .i64 1000000000001] 3) = W9 at *
      generalize wr.heap.size = blk9 at *
      go_loopw [21, 172] (fun s21 s172 wr => ∃ (q : Nat) (v : Value), q ≤ 6 ∧ s21 = v ∧ s172 = .int .i64 (q : Int) ∧ Hid ((SmG w wr a15 bgg a7 bz gg gz blk7 5 ∧ IntsAt wr blk8 5) ∧ IntsAt wr blk9 6)) (fun _ s _ => 6 - (intOf s).toNat)
      case atStart => exact ⟨0, _, Nat.zero_le _, rfl, rfl, Lib.hid ⟨HB.out, I9.out⟩⟩
      clear HB I9
      obtain ⟨q, v9, hq, rfl, rfl, HB⟩ := hrel
      by_cases hql : q < 6
      · have hqi : (q : Int) < 6 := by omega
        have vq : IntKind.i64.wrap ((q : Int) + 1) = (q : Int) + 1 := IntWalk.i64_in _ (by omega)
        obtain ⟨near, hy, -, -⟩ := HB.out.2 q hql
        have zy := cell_lt hy
        have HQ := Lib.hid hql
        clear hql hq
        obtain ⟨x0, x1, x2⟩ := HB.out.1.1.t; have zx := cell_lt x0
        go_wp2_with (go_at_call 10; refine (codes_any 19 60000 gg 1 1 (some ⟨bgg, 0, none⟩) near 0 nv sv nv sv (by decide) _ HB.out.1.1.z.a.mon (by decide) (by simp) (.inr ⟨bgg, 0, rfl, HB.out.1.1.lt⟩)).mono ?_; rintro e y2 ⟨rfl, hb⟩; have HB2 := Lib.hid (And.intro (And.intro (HB.out.1.1.below hb) (HB.out.1.2.below hb)) (HB.out.2.below hb)); clear hb x0 x1 x2 zx hy zy)
        exact ⟨⟨q + 1, _, HQ.out, rfl, by simp, HB2⟩, by have := HQ.out; simp [intOf]; omega⟩
      obtain rfl : q = 6 := by omega
      have hqi : ¬ ((6 : Int) < 6) := by omega
      have HB := Lib.hid HB.out.1
      clear hql hq
      go_wp2_with fail
      exact ⟨⟨i + 1, _, HI.out, rfl, by simp, HB⟩, by have := HI.out; simp [intOf]; omega⟩
    obtain rfl : i = 5 := by omega
    have hii : ¬ ((5 : Int) < 5) := by omega
    have HB := Lib.hid HB.out.1
    clear hil hi
    go_wp2_with fail
    exact ⟨⟨j + 1, _, HK.out, rfl, by simp, HB⟩, by have := HK.out; simp [intOf]; omega⟩
  obtain rfl : j = 5 := by omega
  have hki : ¬ ((5 : Int) < 5) := by omega
  clear hlt hj
  have HZ := Lib.hid HB.out.z
  clear HB
  go_upto_region 48 with fail
  exact small_mid (by assumption) HZ
end Go.Proofs.YtgnfaemnehmgcaaGreatDoor.Cal
