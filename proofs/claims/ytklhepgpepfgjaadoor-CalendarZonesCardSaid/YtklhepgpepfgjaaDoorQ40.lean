/- Layer 9 (calendar): the reference: moved. (by gen_qc.py) -/
import Derived.Test.YtklhepgpepfgjaaDoorQ35
import Derived.Test.YtklhepgpepfgjaaDoorQ19
import Derived.Test.YtklhepgpepfgjaaDoorQ01
namespace Go.Proofs.YtklhepgpepfgjaaDoor.Cal
open Go Go.RowKit
attribute [local go_sem] Oper.semAt_some
theorem mv_start (w : World) (y m d h mi s : Int) :
    ∃ W1, (w.alloc (.cells #[.int .i64 y, .int .i64 m, .int .i64 d, .int .i64 h, .int .i64 mi, .int .i64 s] 65)).alloc (.cells #[.int .i64 0, .int .i64 0, .int .i64 0, .int .i64 0, .int .i64 0, .int .i64 0] 65) = W1 ∧
      DBox W1 w.heap.size y m d h mi s ∧ Res6 W1 (w.heap.size + 1) ∧ Below w.heap.size w W1 := by
  refine ⟨_, rfl, ?_⟩
  have b1 := below_alloc (Below.refl w.heap.size w) (.cells #[.int .i64 y, .int .i64 m, .int .i64 d, .int .i64 h, .int .i64 mi, .int .i64 s] 65)
  have h1 : DBox (w.alloc (.cells #[.int .i64 y, .int .i64 m, .int .i64 d, .int .i64 h, .int .i64 mi, .int .i64 s] 65)) w.heap.size y m d h mi s := ⟨by simp, by simp, by simp, by simp, by simp, by simp⟩
  have e1 : (w.alloc (.cells #[.int .i64 y, .int .i64 m, .int .i64 d, .int .i64 h, .int .i64 mi, .int .i64 s] 65)).heap.size = w.heap.size + 1 := by simp
  generalize w.alloc (.cells #[.int .i64 y, .int .i64 m, .int .i64 d, .int .i64 h, .int .i64 mi, .int .i64 s] 65) = W1 at *
  have b2 := below_alloc (Below.refl W1.heap.size W1) (.cells #[.int .i64 0, .int .i64 0, .int .i64 0, .int .i64 0, .int .i64 0, .int .i64 0] 65)
  have h2 := Res6.new W1 (.int .i64 0) (.int .i64 0) (.int .i64 0) (.int .i64 0) (.int .i64 0) (.int .i64 0) 65
  rw [e1] at h2
  exact ⟨h1.below b2, h2, bt b1 b2⟩
set_option maxRecDepth 100000 in
set_option maxHeartbeats 4000000 in
theorem moved_no {y : Int} {m : Nat} {d : Int} (hd : IsDate y m d) (h mi s x : Int) (hh : 0 ≤ h ∧ h ≤ 23) (hmi : 0 ≤ mi ∧ mi ≤ 59) (hx : -1440 ≤ x ∧ x ≤ 1440) (hno : ¬ (41317 ≤ (1440 * dayN y m d + (60 * h + mi + x)) / 1440 ∧ (1440 * dayN y m d + (60 * h + mi + x)) / 1440 ≤ 88068)) (w : World) :
    Calls Tryd.prog 60 #[.agg #[.int .i64 y, .int .i64 (m : Int), .int .i64 d, .int .i64 h, .int .i64 mi, .int .i64 s], .int .i64 x] w fun e w' => e = .returned (.tuple #[.agg #[.int .i64 0, .int .i64 0, .int .i64 0, .int .i64 0, .int .i64 0, .int .i64 0], .bool false]) ∧ Below w.heap.size w w' := by
  obtain ⟨W1, hW1, hxx, hr, A0⟩ := mv_start w y m d h mi s
  have HX := Lib.hid hxx
  have HR := Lib.hid hr
  have A0 := Lib.hid A0
  have HDY := Lib.hid (fun X => rDay_ok (m := m) X hd)
  have hnb := hd.civ.n_bd
  obtain ⟨dn, hdn⟩ : ∃ dn, dayN y m d = dn := ⟨_, rfl⟩
  rw [hdn] at HDY hnb
  rw [hdn] at hno
  clear hxx hr hd
  generalize (m : Int) = mm at *
  have v1 : IntKind.i64.wrap (60 * h) = 60 * h := IntWalk.i64_in _ (by omega)
  have v2 : IntKind.i64.wrap (60 * h + mi) = 60 * h + mi := IntWalk.i64_in _ (by omega)
  obtain ⟨n0, hn0⟩ : ∃ n0, 60 * h + mi + x = n0 := ⟨_, rfl⟩
  have v3 : IntKind.i64.wrap (60 * h + mi + x) = n0 := by rw [hn0]; exact IntWalk.i64_in _ (by omega)
  have hn0b : -1440 ≤ n0 ∧ n0 ≤ 2879 := by omega
  rw [hn0] at hno
  have HNO := Lib.hid (show (decide (41317 ≤ (1440 * dn + n0) / 1440) && decide ((1440 * dn + n0) / 1440 ≤ 88068)) = false by
    rw [Bool.eq_false_iff]
    intro e
    simp only [Bool.and_eq_true, decide_eq_true_eq] at e
    exact hno e)
  clear hno
  go_enter Tryd.func60, Tryd.ntmps60
  go_upto_region 1 with fail
  clear hW1
  obtain ⟨x0, x1, x2, x3, x4, x5⟩ := HX.out
  have zx := cell_lt x0
  go_upto_region 5 with (go_at_call 61; refine (HDY.out _).mono ?_; rintro e w' ⟨rfl, rfl⟩)
  clear x0 x1 x2 x3 x4 x5 zx v1 v2 v3 HDY
  go_loopw [6, 8] (fun s6 s8 wr => ∃ (n1 k1 : Int), s6 = .int .i64 k1 ∧ s8 = .int .i64 n1 ∧ W1 = wr ∧ 1440 * k1 + n1 = 1440 * dn + n0 ∧ -1440 ≤ n1 ∧ n1 ≤ 2879 ∧ dn - 10 ≤ k1 ∧ k1 ≤ dn) (fun _ s _ => (1440 - intOf s).toNat)
  case atStart => exact ⟨n0, dn, rfl, rfl, rfl, rfl, by omega, by omega, by omega, by omega⟩
  case round =>
    obtain ⟨n1, k1, rfl, rfl, rfl, he, hb1, hb2, hb3, hb4⟩ := hrel
    by_cases hlt : n1 < 0
    · have w1 : IntKind.i64.wrap (n1 + 1440) = n1 + 1440 := IntWalk.i64_in _ (by omega)
      have w2 : IntKind.i64.wrap (k1 - 1) = k1 - 1 := IntWalk.i64_in _ (by omega)
      go_wp2_with fail
      go_roundw
      case rel => exact ⟨_, _, rfl, rfl, trivial, by omega, by omega, by omega, by omega, by omega⟩
      case measure => simp [intOf]; omega
    · have hk9 : dn - 2 ≤ k1 := by omega
      go_wp2_with fail
      go_loopw [6, 8] (fun s6 s8 wr => ∃ (n2 k2 : Int), s6 = .int .i64 k2 ∧ s8 = .int .i64 n2 ∧ W1 = wr ∧ 1440 * k2 + n2 = 1440 * dn + n0 ∧ 0 ≤ n2 ∧ n2 ≤ 2879 ∧ dn - 2 ≤ k2 ∧ k2 ≤ dn + 10) (fun _ s _ => (intOf s).toNat)
      case atStart => exact ⟨n1, k1, rfl, rfl, rfl, he, by omega, by omega, by omega, by omega⟩
      case round =>
        clear he hb1 hb2 hb3 hb4 hlt hk9
        obtain ⟨n2, k2, rfl, rfl, rfl, he, hb1, hb2, hb3, hb4⟩ := hrel
        by_cases hge : 1440 ≤ n2
        · have w1 : IntKind.i64.wrap (n2 - 1440) = n2 - 1440 := IntWalk.i64_in _ (by omega)
          have w2 : IntKind.i64.wrap (k2 + 1) = k2 + 1 := IntWalk.i64_in _ (by omega)
          go_wp2_with fail
          go_roundw
          case rel => exact ⟨_, _, rfl, rfl, trivial, by omega, by omega, by omega, by omega, by omega⟩
          case measure => simp [intOf]; omega
        · have hk : k2 = (1440 * dn + n0) / 1440 := by omega
          have hn : n2 = (1440 * dn + n0) % 1440 := by omega
          have HCV := Lib.hid (fun X => rCivil_no k2 X (by rw [hk]; exact HNO.out))
          clear hk hn
          obtain ⟨x0, x1, x2, x3, x4, x5⟩ := HX.out
          have zx := cell_lt x0
          go_upto_region 13 with (go_at_call 82; refine (HCV.out _).mono ?_; rintro e w' ⟨rfl, rfl⟩)
          clear x0 x1 x2 x3 x4 x5 zx
          obtain ⟨⟨q0, r0⟩, ⟨q1, r1⟩, ⟨q2, r2⟩, ⟨q3, r3⟩, ⟨q4, r4⟩, ⟨q5, r5⟩, rz⟩ := HR.out
          have z0 := rz 0
          have z1 := rz 1
          have z2 := rz 2
          have z3 := rz 3
          have z4 := rz 4
          have z5 := rz 5
          have zr := cell_lt r0
          clear rz
          obtain ⟨x0, x1, x2, x3, x4, x5⟩ := HX.out
          have zx := cell_lt x0
          go_wp2
          refine bodyPost_ret (v := .tuple #[.agg #[.int .i64 0, .int .i64 0, .int .i64 0, .int .i64 0, .int .i64 0, .int .i64 0], .bool false]) (by simp [results, Tryd.results60, go_sem, r0, r1, r2, r3, r4, r5]) rfl ⟨rfl, ?_⟩
          exact ((((((A0.out.setCell (p := ⟨w.heap.size + 1, _, none⟩) (Nat.le_succ _) _).setCell (p := ⟨w.heap.size + 1, _, none⟩) (Nat.le_succ _) _).setCell (p := ⟨w.heap.size + 1, _, none⟩) (Nat.le_succ _) _).setCell (p := ⟨w.heap.size + 1, _, none⟩) (Nat.le_succ _) _).setCell (p := ⟨w.heap.size + 1, _, none⟩) (Nat.le_succ _) _).setCell (p := ⟨w.heap.size + 1, _, none⟩) (Nat.le_succ _) _)
set_option maxRecDepth 100000 in
set_option maxHeartbeats 4000000 in
theorem moved_ok {y : Int} {m : Nat} {d : Int} (hd : IsDate y m d) (h mi s x : Int) (hh : 0 ≤ h ∧ h ≤ 23) (hmi : 0 ≤ mi ∧ mi ≤ 59) (hx : -1440 ≤ x ∧ x ≤ 1440) {y2 : Int} {kk2 : Nat} {d2 h2 mi2 : Int} (hci : IsCiv ((1440 * dayN y m d + (60 * h + mi + x)) / 1440) y2 kk2 d2) (hh2 : (1440 * dayN y m d + (60 * h + mi + x)) % 1440 / 60 = h2) (hmi2 : (1440 * dayN y m d + (60 * h + mi + x)) % 1440 % 60 = mi2) (w : World) :
    Calls Tryd.prog 60 #[.agg #[.int .i64 y, .int .i64 (m : Int), .int .i64 d, .int .i64 h, .int .i64 mi, .int .i64 s], .int .i64 x] w fun e w' => e = .returned (.tuple #[.agg #[.int .i64 y2, .int .i64 (kk2 : Int), .int .i64 d2, .int .i64 h2, .int .i64 mi2, .int .i64 s], .bool true]) ∧ Below w.heap.size w w' := by
  obtain ⟨W1, hW1, hxx, hr, A0⟩ := mv_start w y m d h mi s
  have HX := Lib.hid hxx
  have HR := Lib.hid hr
  have A0 := Lib.hid A0
  have HDY := Lib.hid (fun X => rDay_ok (m := m) X hd)
  have hnb := hd.civ.n_bd
  obtain ⟨dn, hdn⟩ : ∃ dn, dayN y m d = dn := ⟨_, rfl⟩
  rw [hdn] at HDY hnb
  rw [hdn] at hci hh2 hmi2
  clear hxx hr hd
  generalize (m : Int) = mm at *
  have v1 : IntKind.i64.wrap (60 * h) = 60 * h := IntWalk.i64_in _ (by omega)
  have v2 : IntKind.i64.wrap (60 * h + mi) = 60 * h + mi := IntWalk.i64_in _ (by omega)
  obtain ⟨n0, hn0⟩ : ∃ n0, 60 * h + mi + x = n0 := ⟨_, rfl⟩
  have v3 : IntKind.i64.wrap (60 * h + mi + x) = n0 := by rw [hn0]; exact IntWalk.i64_in _ (by omega)
  have hn0b : -1440 ≤ n0 ∧ n0 ≤ 2879 := by omega
  rw [hn0] at hci hh2 hmi2
  have HCI := Lib.hid hci
  have HH2 := Lib.hid hh2
  have HM2 := Lib.hid hmi2
  clear hci hh2 hmi2
  go_enter Tryd.func60, Tryd.ntmps60
  go_upto_region 1 with fail
  clear hW1
  obtain ⟨x0, x1, x2, x3, x4, x5⟩ := HX.out
  have zx := cell_lt x0
  go_upto_region 5 with (go_at_call 61; refine (HDY.out _).mono ?_; rintro e w' ⟨rfl, rfl⟩)
  clear x0 x1 x2 x3 x4 x5 zx v1 v2 v3 HDY
  go_loopw [6, 8] (fun s6 s8 wr => ∃ (n1 k1 : Int), s6 = .int .i64 k1 ∧ s8 = .int .i64 n1 ∧ W1 = wr ∧ 1440 * k1 + n1 = 1440 * dn + n0 ∧ -1440 ≤ n1 ∧ n1 ≤ 2879 ∧ dn - 10 ≤ k1 ∧ k1 ≤ dn) (fun _ s _ => (1440 - intOf s).toNat)
  case atStart => exact ⟨n0, dn, rfl, rfl, rfl, rfl, by omega, by omega, by omega, by omega⟩
  case round =>
    obtain ⟨n1, k1, rfl, rfl, rfl, he, hb1, hb2, hb3, hb4⟩ := hrel
    by_cases hlt : n1 < 0
    · have w1 : IntKind.i64.wrap (n1 + 1440) = n1 + 1440 := IntWalk.i64_in _ (by omega)
      have w2 : IntKind.i64.wrap (k1 - 1) = k1 - 1 := IntWalk.i64_in _ (by omega)
      go_wp2_with fail
      go_roundw
      case rel => exact ⟨_, _, rfl, rfl, trivial, by omega, by omega, by omega, by omega, by omega⟩
      case measure => simp [intOf]; omega
    · have hk9 : dn - 2 ≤ k1 := by omega
      go_wp2_with fail
      go_loopw [6, 8] (fun s6 s8 wr => ∃ (n2 k2 : Int), s6 = .int .i64 k2 ∧ s8 = .int .i64 n2 ∧ W1 = wr ∧ 1440 * k2 + n2 = 1440 * dn + n0 ∧ 0 ≤ n2 ∧ n2 ≤ 2879 ∧ dn - 2 ≤ k2 ∧ k2 ≤ dn + 10) (fun _ s _ => (intOf s).toNat)
      case atStart => exact ⟨n1, k1, rfl, rfl, rfl, he, by omega, by omega, by omega, by omega⟩
      case round =>
        clear he hb1 hb2 hb3 hb4 hlt hk9
        obtain ⟨n2, k2, rfl, rfl, rfl, he, hb1, hb2, hb3, hb4⟩ := hrel
        by_cases hge : 1440 ≤ n2
        · have w1 : IntKind.i64.wrap (n2 - 1440) = n2 - 1440 := IntWalk.i64_in _ (by omega)
          have w2 : IntKind.i64.wrap (k2 + 1) = k2 + 1 := IntWalk.i64_in _ (by omega)
          go_wp2_with fail
          go_roundw
          case rel => exact ⟨_, _, rfl, rfl, trivial, by omega, by omega, by omega, by omega, by omega⟩
          case measure => simp [intOf]; omega
        · have hk : k2 = (1440 * dn + n0) / 1440 := by omega
          have hn : n2 = (1440 * dn + n0) % 1440 := by omega
          have HCV := Lib.hid (fun X => rCivil_ok X (show IsCiv k2 y2 kk2 d2 by rw [hk]; exact HCI.out))
          have hq : n2 / 60 = h2 := by rw [hn]; exact HH2.out
          have hr2 : n2 % 60 = mi2 := by rw [hn]; exact HM2.out
          have t1 : n2.tdiv 60 = h2 := by rw [Int.tdiv_eq_ediv_of_nonneg (by omega)]; exact hq
          have t2 : n2.tmod 60 = mi2 := by rw [Int.tmod_eq_emod_of_nonneg (by omega)]; exact hr2
          have w1 : IntKind.i64.wrap h2 = h2 := IntWalk.i64_in _ (by omega)
          have w2 : IntKind.i64.wrap mi2 = mi2 := IntWalk.i64_in _ (by omega)
          clear hk hn
          obtain ⟨x0, x1, x2, x3, x4, x5⟩ := HX.out
          have zx := cell_lt x0
          go_upto_region 14 with (go_at_call 82; refine (HCV.out _).mono ?_; rintro e w' ⟨rfl, rfl⟩)
          clear x0 x1 x2 x3 x4 x5 zx
          obtain ⟨⟨q0, r0⟩, ⟨q1, r1⟩, ⟨q2, r2⟩, ⟨q3, r3⟩, ⟨q4, r4⟩, ⟨q5, r5⟩, rz⟩ := HR.out
          have z0 := rz 0
          have z1 := rz 1
          have z2 := rz 2
          have z3 := rz 3
          have z4 := rz 4
          have z5 := rz 5
          have zr := cell_lt r0
          clear rz
          obtain ⟨x0, x1, x2, x3, x4, x5⟩ := HX.out
          have zx := cell_lt x0
          go_wp2
          refine bodyPost_ret (v := .tuple #[.agg #[.int .i64 y2, .int .i64 (kk2 : Int), .int .i64 d2, .int .i64 h2, .int .i64 mi2, .int .i64 s], .bool true]) (by simp [results, Tryd.results60, go_sem, r0, r1, r2, r3, r4, r5]) rfl ⟨rfl, ?_⟩
          exact ((((((A0.out.setCell (p := ⟨w.heap.size + 1, _, none⟩) (Nat.le_succ _) _).setCell (p := ⟨w.heap.size + 1, _, none⟩) (Nat.le_succ _) _).setCell (p := ⟨w.heap.size + 1, _, none⟩) (Nat.le_succ _) _).setCell (p := ⟨w.heap.size + 1, _, none⟩) (Nat.le_succ _) _).setCell (p := ⟨w.heap.size + 1, _, none⟩) (Nat.le_succ _) _).setCell (p := ⟨w.heap.size + 1, _, none⟩) (Nat.le_succ _) _)
end Go.Proofs.YtklhepgpepfgjaaDoor.Cal
