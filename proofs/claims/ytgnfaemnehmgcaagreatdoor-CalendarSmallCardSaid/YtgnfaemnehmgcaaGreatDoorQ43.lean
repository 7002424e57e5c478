/-  ·  ·  -/
import Derived.Test.YtgnfaemnehmgcaaGreatDoorQ03
import Derived.Test.YtgnfaemnehmgcaaGreatDoorQ10
import Derived.Test.YtgnfaemnehmgcaaGreatDoorQ01
import Derived.Test.YtgnfaemnehmgcaaGreatDoorQ40
import Derived.Test.YtgnfaemnehmgcaaGreatDoorQ14
import Derived.Test.YtgnfaemnehmgcaaGreatDoorQ09
namespace Go.Proofs.YtgnfaemnehmgcaaGreatDoor.Cal
open Go Go.RowKit
attribute [local go_sem] Oper.semAt_some
theorem mv_start (w : World) (y m d h mi s : Int) :
    ∃ W1, (w.alloc (.cells #[.int .i64 y, .int .i64 m, .int .i64 d, .int .i64 h, .int .i64 mi, .int .i64 s] 67)).alloc (.cells #[.int .i64 0, .int .i64 0, .int .i64 0, .int .i64 0, .int .i64 0, .int .i64 0] 67) = W1 ∧
      DBox W1 w.heap.size y m d h mi s ∧ Res6 W1 (w.heap.size + 1) ∧ Below w.heap.size w W1 := by
  refine ⟨_, rfl, ?_⟩
  have b1 := below_alloc (Below.refl w.heap.size w) (.cells #[.int .i64 y, .int .i64 m, .int .i64 d, .int .i64 h, .int .i64 mi, .int .i64 s] 67)
  have h1 : DBox (w.alloc (.cells #[.int .i64 y, .int .i64 m, .int .i64 d, .int .i64 h, .int .i64 mi, .int .i64 s] 67)) w.heap.size y m d h mi s := ⟨by simp, by simp, by simp, by simp, by simp, by simp⟩
  have e1 : (w.alloc (.cells #[.int .i64 y, .int .i64 m, .int .i64 d, .int .i64 h, .int .i64 mi, .int .i64 s] 67)).heap.size = w.heap.size + 1 := by simp
  generalize w.alloc (.cells #[.int .i64 y, .int .i64 m, .int .i64 d, .int .i64 h, .int .i64 mi, .int .i64 s] 67) = W1 at *
  have b2 := below_alloc (Below.refl W1.heap.size W1) (.cells #[.int .i64 0, .int .i64 0, .int .i64 0, .int .i64 0, .int .i64 0, .int .i64 0] 67)
  have h2 := Res6.new W1 (.int .i64 0) (.int .i64 0) (.int .i64 0) (.int .i64 0) (.int .i64 0) (.int .i64 0) 67
  rw [e1] at h2
  exact ⟨h1.below b2, h2, bt b1 b2⟩
set_option maxRecDepth 100000 in
set_option maxHeartbeats 4000000 in
theorem moved_no {y : Int} {m : Nat} {d : Int} (hd : IsDate y m d) (h mi s x : Int) (hh : 0 ≤ h ∧ h ≤ 23) (hmi : 0 ≤ mi ∧ mi ≤ 59) (hx : -1440 ≤ x ∧ x ≤ 1440) (hno : ¬ (41317 ≤ (1440 * dayN y m d + (60 * h + mi + x)) / 1440 ∧ (1440 * dayN y m d + (60 * h + mi + x)) / 1440 ≤ 88068)) (w : World) :
    Calls Tryz.prog 125 #[.agg #[.int .i64 y, .int .i64 (m : Int), .int .i64 d, .int .i64 h, .int .i64 mi, .int .i64 s], .int .i64 x] w fun e w' => e = .returned (.tuple #[.agg #[.int .i64 0, .int .i64 0, .int .i64 0, .int .i64 0, .int .i64 0, .int .i64 0], .bool false]) ∧ Below w.heap.size w w' := by
  obtain ⟨W1, hW1, hxx, hr, A0⟩ := mv_start w y m d h mi s
  have HX := Lib.hid hxx
  have HR := Lib.hid hr
  have A0 := Lib.hid A0
  have HDY := Lib.hid (fun X => rDay_ok (m := m) X hd)
  have hnb := hd.civ.n_bd
  obtain ⟨dn, hdn⟩ : ∃ dn, dayN y m d = dn := ⟨_, rfl⟩
  rw [hdn] at HDY hnb
  rw [hdn] at hno
  clear hxx hr hd
  generalize (m : Int) = mm at *
  have v1 : IntKind.i64.wrap (60 * h) = 60 * h := IntWalk.i64_in _ (by omega)
  have v2 : IntKind.i64.wrap (60 * h + mi) = 60 * h + mi := IntWalk.i64_in _ (by omega)
  obtain ⟨n0, hn0⟩ : ∃ n0, 60 * h + mi + x = n0 := ⟨_, rfl⟩
  have v3 : IntKind.i64.wrap (60 * h + mi + x) = n0 := by rw [hn0]; exact IntWalk.i64_in _ (by omega)
  have hn0b : -1440 ≤ n0 ∧ n0 ≤ 2879 := by omega
  rw [hn0] at hno
  have HNO := Lib.hid (show (decide (41317 ≤ (1440 * dn + n0) / 1440) && decide ((1440 * dn + n0) / 1440 ≤ 88068)) = false by
    rw [Bool.eq_false_iff]
    intro e
    simp only [Bool.and_eq_true, decide_eq_true_eq] at e
    exact hno e)
  clear hno
  go_enter Tryz.func125, Tryz.ntmps125
  go_upto_region 1 with fail
  clear hW1
  obtain ⟨x0, x1, x2, x3, x4, x5⟩ := HX.out
  have zx := cell_lt x0
  go_upto_region 5 with (go_at_call 32; refine (HDY.out _).mono ?_; rintro e w' ⟨rfl, rfl⟩)
  clear x0 x1 x2 x3 x4 x5 zx v1 v2 v3 HDY
  go_loopw [6, 8] (fun s6 s8 wr => ∃ (n1 k1 : Int), s6 = .int .i64 k1 ∧ s8 = .int .i64 n1 ∧ W1 = wr ∧ 1440 * k1 + n1 = 1440 * dn + n0 ∧ -1440 ≤ n1 ∧ n1 ≤ 2879 ∧ dn - 10 ≤ k1 ∧ k1 ≤ dn) (fun _ s _ => (1440 - intOf s).toNat)
  case atStart => exact ⟨n0, dn, rfl, rfl, rfl, rfl, by omega, by omega, by omega, by omega⟩
  case round =>
    obtain ⟨n1, k1, rfl, rfl, rfl, he, hb1, hb2, hb3, hb4⟩ := hrel
    by_cases hlt : n1 < 0
    · have w1 : IntKind.i64.wrap (n1 + 1440) = n1 + 1440 := IntWalk.i64_in _ (by omega)
      have w2 : IntKind.i64.wrap (k1 - 1) = k1 - 1 := IntWalk.i64_in _ (by omega)
      go_wp2_with fail
      go_roundw
      case rel => exact ⟨_, _, rfl, rfl, trivial, by omega, by omega, by omega, by omega, by omega⟩
      case measure => simp [intOf]; omega
    · have hk9 : dn - 2 ≤ k1 := by omega
      go_wp2_with fail
      go_loopw [6, 8] (fun s6 s8 wr => ∃ (n2 k2 : Int), s6 = .int .i64 k2 ∧ s8 = .int .i64 n2 ∧ W1 = wr ∧ 1440 * k2 + n2 = 1440 * dn + n0 ∧ 0 ≤ n2 ∧ n2 ≤ 2879 ∧ dn - 2 ≤ k2 ∧ k2 ≤ dn + 10) (fun _ s _ => (intOf s).toNat)
      case atStart => exact ⟨n1, k1, rfl, rfl, rfl, he, by omega, by omega, by omega, by omega⟩
      case round =>
        clear he hb1 hb2 hb3 hb4 hlt hk9
        obtain ⟨n2, k2, rfl, rfl, rfl, he, hb1, hb2, hb3, hb4⟩ := hrel
        by_cases hge : 1440 ≤ n2
        · have w1 : IntKind.i64.wrap (n2 - 1440) = n2 - 1440 := IntWalk.i64_in _ (by omega)
          have w2 : IntKind.i64.wrap (k2 + 1) = k2 + 1 := IntWalk.i64_in _ (by omega)
          go_wp2_with fail
          go_roundw
          case rel => exact ⟨_, _, rfl, rfl, trivial, by omega, by omega, by omega, by omega, by omega⟩
          case measure => simp [intOf]; omega
        · have hk : k2 = (1440 * dn + n0) / 1440 := by omega
          have hn : n2 = (1440 * dn + n0) % 1440 := by omega
          have HCV := Lib.hid (fun X => rCivil_no k2 X (by rw [hk]; exact HNO.out))
          clear hk hn
          obtain ⟨x0, x1, x2, x3, x4, x5⟩ := HX.out
          have zx := cell_lt x0
          go_upto_region 13 with (go_at_call 29; refine (HCV.out _).mono ?_; rintro e w' ⟨rfl, rfl⟩)
          clear x0 x1 x2 x3 x4 x5 zx
          obtain ⟨⟨q0, r0⟩, ⟨q1, r1⟩, ⟨q2, r2⟩, ⟨q3, r3⟩, ⟨q4, r4⟩, ⟨q5, r5⟩, rz⟩ := HR.out
          have z0 := rz 0
          have z1 := rz 1
          have z2 := rz 2
          have z3 := rz 3
          have z4 := rz 4
          have z5 := rz 5
          have zr := cell_lt r0
          clear rz
          obtain ⟨x0, x1, x2, x3, x4, x5⟩ := HX.out
          have zx := cell_lt x0
          go_wp2
          refine bodyPost_ret (v := .tuple #[.agg #[.int .i64 0, .int .i64 0, .int .i64 0, .int .i64 0, .int .i64 0, .int .i64 0], .bool false]) (by simp [results, Tryz.results125, go_sem, r0, r1, r2, r3, r4, r5]) rfl ⟨rfl, ?_⟩
          exact ((((((A0.out.setCell (p := ⟨w.heap.size + 1, _, none⟩) (Nat.le_succ _) _).setCell (p := ⟨w.heap.size + 1, _, none⟩) (Nat.le_succ _) _).setCell (p := ⟨w.heap.size + 1, _, none⟩) (Nat.le_succ _) _).setCell (p := ⟨w.heap.size + 1, _, none⟩) (Nat.le_succ _) _).setCell (p := ⟨w.heap.size + 1, _, none⟩) (Nat.le_succ _) _).setCell (p := ⟨w.heap.size + 1, _, none⟩) (Nat.le_succ _) _)
set_option maxRecDepth 100000 in
set_option maxHeartbeats 4000000 in
theorem moved_ok {y : Int} {m : Nat} {d : Int} (hd : IsDate y m d) (h mi s x : Int) (hh : 0 ≤ h ∧ h ≤ 23) (hmi : 0 ≤ mi ∧ mi ≤ 59) (hx : -1440 ≤ x ∧ x ≤ 1440) {y2 : Int} {kk2 : Nat} {d2 h2 mi2 : Int} (hci : IsCiv ((1440 * dayN y m d + (60 * h + mi + x)) / 1440) y2 kk2 d2) (hh2 : (1440 * dayN y m d + (60 * h + mi + x)) % 1440 / 60 = h2) (hmi2 : (1440 * dayN y m d + (60 * h + mi + x)) % 1440 % 60 = mi2) (w : World) :
    Calls Tryz.prog 125 #[.agg #[.int .i64 y, .int .i64 (m : Int), .int .i64 d, .int .i64 h, .int .i64 mi, .int .i64 s], .int .i64 x] w fun e w' => e = .returned (.tuple #[.agg #[.int .i64 y2, .int .i64 (kk2 : Int), .int .i64 d2, .int .i64 h2, .int .i64 mi2, .int .i64 s], .bool true]) ∧ Below w.heap.size w w' := by
  obtain ⟨W1, hW1, hxx, hr, A0⟩ := mv_start w y m d h mi s
  have HX := Lib.hid hxx
  have HR := Lib.hid hr
  have A0 := Lib.hid A0
  have HDY := Lib.hid (fun X => rDay_ok (m := m) X hd)
  have hnb := hd.civ.n_bd
  obtain ⟨dn, hdn⟩ : ∃ dn, dayN y m d = dn := ⟨_, rfl⟩
  rw [hdn] at HDY hnb
  rw [hdn] at hci hh2 hmi2
  clear hxx hr hd
  generalize (m : Int) = mm at *
  have v1 : IntKind.i64.wrap (60 * h) = 60 * h := IntWalk.i64_in _ (by omega)
  have v2 : IntKind.i64.wrap (60 * h + mi) = 60 * h + mi := IntWalk.i64_in _ (by omega)
  obtain ⟨n0, hn0⟩ : ∃ n0, 60 * h + mi + x = n0 := ⟨_, rfl⟩
  have v3 : IntKind.i64.wrap (60 * h + mi + x) = n0 := by rw [hn0]; exact IntWalk.i64_in _ (by omega)
  have hn0b : -1440 ≤ n0 ∧ n0 ≤ 2879 := by omega
  rw [hn0] at hci hh2 hmi2
  have HCI := Lib.hid hci
  have HH2 := Lib.hid hh2
  have HM2 := Lib.hid hmi2
  clear hci hh2 hmi2
  go_enter Tryz.func125, Tryz.ntmps125
  go_upto_region 1 with fail
  clear hW1
  obtain ⟨x0, x1, x2, x3, x4, x5⟩ := HX.out
  have zx := cell_lt x0
  go_upto_region 5 with (go_at_call 32; refine (HDY.out _).mono ?_; rintro e w' ⟨rfl, rfl⟩)
  clear x0 x1 x2 x3 x4 x5 zx v1 v2 v3 HDY
  go_loopw [6, 8] (fun s6 s8 wr => ∃ (n1 k1 : Int), s6 = .int .i64 k1 ∧ s8 = .int .i64 n1 ∧ W1 = wr ∧ 1440 * k1 + n1 = 1440 * dn + n0 ∧ -1440 ≤ n1 ∧ n1 ≤ 2879 ∧ dn - 10 ≤ k1 ∧ k1 ≤ dn) (fun _ s _ => (1440 - intOf s).toNat)
  case atStart => exact ⟨n0, dn, rfl, rfl, rfl, rfl, by omega, by omega, by omega, by omega⟩
  case round =>
    obtain ⟨n1, k1, rfl, rfl, rfl, he, hb1, hb2, hb3, hb4⟩ := hrel
    by_cases hlt : n1 < 0
    · have w1 : IntKind.i64.wrap (n1 + 1440) = n1 + 1440 := IntWalk.i64_in _ (by omega)
      have w2 : IntKind.i64.wrap (k1 - 1) = k1 - 1 := IntWalk.i64_in _ (by omega)
      go_wp2_with fail
      go_roundw
      case rel => exact ⟨_, _, rfl, rfl, trivial, by omega, by omega, by omega, by omega, by omega⟩
      case measure => simp [intOf]; omega
    · have hk9 : dn - 2 ≤ k1 := by omega
      go_wp2_with fail
      go_loopw [6, 8] (fun s6 s8 wr => ∃ (n2 k2 : Int), s6 = .int .i64 k2 ∧ s8 = .int .i64 n2 ∧ W1 = wr ∧ 1440 * k2 + n2 = 1440 * dn + n0 ∧ 0 ≤ n2 ∧ n2 ≤ 2879 ∧ dn - 2 ≤ k2 ∧ k2 ≤ dn + 10) (fun _ s _ => (intOf s).toNat)
      case atStart => exact ⟨n1, k1, rfl, rfl, rfl, he, by omega, by omega, by omega, by omega⟩
      case round =>
        clear he hb1 hb2 hb3 hb4 hlt hk9
        obtain ⟨n2, k2, rfl, rfl, rfl, he, hb1, hb2, hb3, hb4⟩ := hrel
        by_cases hge : 1440 ≤ n2
        · have w1 : IntKind.i64.wrap (n2 - 1440) = n2 - 1440 := IntWalk.i64_in _ (by omega)
          have w2 : IntKind.i64.wrap (k2 + 1) = k2 + 1 := IntWalk.i64_in _ (by omega)
          go_wp2_with fail
          go_roundw
          case rel => exact ⟨_, _, rfl, rfl, trivial, by omega, by omega, by omega, by omega, by omega⟩
          case measure => simp [intOf]; omega
        · have hk : k2 = (1440 * dn + n0) / 1440 := by omega
          have hn : n2 = (1440 * dn + n0) % 1440 := by omega
          have HCV := Lib.hid (fun X => rCivil_ok X (show IsCiv k2 y2 kk2 d2 by rw [hk]; exact HCI.out))
          have hq : n2 / 60 = h2 := by rw [hn]; exact HH2.out
          have hr2 : n2 % 60 = mi2 := by rw [hn]; exact HM2.out
          have t1 : n2.tdiv 60 = h2 := by rw [Int.tdiv_eq_ediv_of_nonneg (by omega)]; exact hq
          have t2 : n2.tmod 60 = mi2 := by rw [Int.tmod_eq_emod_of_nonneg (by omega)]; exact hr2
          have w1 : IntKind.i64.wrap h2 = h2 := IntWalk.i64_in _ (by omega)
          have w2 : IntKind.i64.wrap mi2 = mi2 := IntWalk.i64_in _ (by omega)
          clear hk hn
          obtain ⟨x0, x1, x2, x3, x4, x5⟩ := HX.out
          have zx := cell_lt x0
          go_upto_region 14 with (go_at_call 29; refine (HCV.out _).mono ?_; rintro e w' ⟨rfl, rfl⟩)
          clear x0 x1 x2 x3 x4 x5 zx
          obtain ⟨⟨q0, r0⟩, ⟨q1, r1⟩, ⟨q2, r2⟩, ⟨q3, r3⟩, ⟨q4, r4⟩, ⟨q5, r5⟩, rz⟩ := HR.out
          have z0 := rz 0
          have z1 := rz 1
          have z2 := rz 2
          have z3 := rz 3
          have z4 := rz 4
          have z5 := rz 5
          have zr := cell_lt r0
          clear rz
          obtain ⟨x0, x1, x2, x3, x4, x5⟩ := HX.out
          have zx := cell_lt x0
          go_wp2
          refine bodyPost_ret (v := .tuple #[.agg #[.int .i64 y2, .int .i64 (kk2 : Int), .int .i64 d2, .int .i64 h2, .int .i64 mi2, .int .i64 s], .bool true]) (by simp [results, Tryz.results125, go_sem, r0, r1, r2, r3, r4, r5]) rfl ⟨rfl, ?_⟩
          exact ((((((A0.out.setCell (p := ⟨w.heap.size + 1, _, none⟩) (Nat.le_succ _) _).setCell (p := ⟨w.heap.size + 1, _, none⟩) (Nat.le_succ _) _).setCell (p := ⟨w.heap.size + 1, _, none⟩) (Nat.le_succ _) _).setCell (p := ⟨w.heap.size + 1, _, none⟩) (Nat.le_succ _) _).setCell (p := ⟨w.heap.size + 1, _, none⟩) (Nat.le_succ _) _).setCell (p := ⟨w.heap.size + 1, _, none⟩) (Nat.le_succ _) _)
end Go.Proofs.YtgnfaemnehmgcaaGreatDoor.Cal
namespace Go.Proofs.YtgnfaemnehmgcaaGreatDoor.Cal
open Go Go.RowKit
def isOffF (o : Int) (g : Nat → Int × Int) (nn : Int) : Nat → Bool
  | 0 => o == nn
  | i + 1 => isOffF o g nn i || (g i).2 == nn
theorem isOffF_iff (o : Int) (g : Nat → Int × Int) (nn : Int) : ∀ i, isOffF o g nn i = true ↔ ∃ k, k ≤ i ∧ offK o g k = nn
  | 0 => by
    unfold isOffF
    rw [beq_iff_eq]
    refine ⟨fun h => ⟨0, Nat.le_refl _, h⟩, fun ⟨k, hk, h⟩ => ?_⟩
    have e : k = 0 := by omega
    subst e
    exact h
  | i + 1 => by
    unfold isOffF
    rw [Bool.or_eq_true, isOffF_iff o g nn i, beq_iff_eq]
    have e : offK o g (i + 1) = (g i).2 := by unfold offK; rw [if_neg (by omega), Nat.add_sub_cancel]
    constructor
    · rintro (⟨k, hk, h⟩ | h)
      · exact ⟨k, by omega, h⟩
      · exact ⟨i + 1, Nat.le_refl _, by rw [e]; exact h⟩
    · rintro ⟨k, hk, h⟩
      by_cases e2 : k = i + 1
      · subst e2; right; rw [← e]; exact h
      · left; exact ⟨k, by omega, h⟩
def rB (u : Int) (f : Nat → Int × Int) (n : Nat) (lm ls o : Int) (q : Nat) (g : Nat → Int × Int) (nn : Int) : Bool :=
  isOffF o g nn q && (hasB u f n (lm - nn) ls && decide (offAt o g (numS f n (lm - nn) ls) (q + 1) = nn))
def rfound (u : Int) (f : Nat → Int × Int) (n : Nat) (lm ls o : Int) (q : Nat) (g : Nat → Int × Int) : Nat → List Int
  | 0 => []
  | k + 1 => rfound u f n lm ls o q g k ++ (if rB u f n lm ls o q g (1440 - (k : Int)) = true then [numS f n (lm - (1440 - (k : Int))) ls] else [])
theorem rfound_len (u : Int) (f : Nat → Int × Int) (n : Nat) (lm ls o : Int) (q : Nat) (g : Nat → Int × Int) : ∀ k, (rfound u f n lm ls o q g k).length ≤ k
  | 0 => Nat.le_refl _
  | k + 1 => by
    have := rfound_len u f n lm ls o q g k
    rw [rfound, List.length_append]
    split <;> simp <;> omega
theorem mem_rfound (u : Int) (f : Nat → Int × Int) (n : Nat) (lm ls o : Int) (q : Nat) (g : Nat → Int × Int) (x : Int) : ∀ k, x ∈ rfound u f n lm ls o q g k ↔ ∃ j : Nat, j < k ∧ rB u f n lm ls o q g (1440 - (j : Int)) = true ∧ numS f n (lm - (1440 - (j : Int))) ls = x
  | 0 => by simp [rfound]
  | k + 1 => by
    have ih := mem_rfound u f n lm ls o q g x k
    rw [rfound, List.mem_append, ih]
    constructor
    · rintro (⟨j, h1, h2⟩ | h)
      · exact ⟨j, by omega, h2⟩
      · split at h
        · rename_i c1
          simp at h
          exact ⟨k, by omega, c1, h.symm⟩
        · simp at h
    · rintro ⟨j, h1, h2, h3⟩
      by_cases e : j = k
      · subst e; right; rw [if_pos h2]; simp [h3]
      · exact .inl ⟨j, by omega, h2, h3⟩
theorem rB_true {u : Int} {f : Nat → Int × Int} {n : Nat} {lm ls o : Int} {q : Nat} {g : Nat → Int × Int} {nn : Int} (h : rB u f n lm ls o q g nn = true) : isOffF o g nn q = true ∧ hasB u f n (lm - nn) ls = true ∧ offAt o g (numS f n (lm - nn) ls) (q + 1) = nn := by
  unfold rB at h
  simp only [Bool.and_eq_true, decide_eq_true_eq] at h
  exact ⟨h.1, h.2.1, h.2.2⟩
theorem num_mono {b u : Int} {n : Nat} {f : Nat → Int × Int} (ht : TabOk b u n f) {m1 m2 s : Int} (h1 : hasB u f n m1 s = true) (h2 : hasB u f n m2 s = true) (hm : m1 < m2) : numS f n m1 s < numS f n m2 s := by
  obtain ⟨d1, -, -⟩ := has_mom ht h1
  obtain ⟨d2, -, -⟩ := has_mom ht h2
  by_cases e : m1 / 1440 = m2 / 1440
  · unfold numS; rw [e]; omega
  · have := ht.begin_mono (show m1 / 1440 + 1 ≤ m2 / 1440 by omega)
    have := d1.hi; have := d2.lo
    omega
theorem rfound_lt {b u : Int} {n : Nat} {f : Nat → Int × Int} (ht : TabOk b u n f) (lm ls o : Int) (q : Nat) (g : Nat → Int × Int) : ∀ k, (rfound u f n lm ls o q g k).Pairwise (· < ·)
  | 0 => List.Pairwise.nil
  | k + 1 => by
    rw [rfound, List.pairwise_append]
    refine ⟨rfound_lt ht lm ls o q g k, ?_, ?_⟩
    · split
      · exact List.pairwise_singleton _ _
      · exact List.Pairwise.nil
    · intro a ha c hc
      split at hc
      · rename_i c2
        simp at hc
        subst hc
        rw [mem_rfound] at ha
        obtain ⟨j, hj, hb, rfl⟩ := ha
        exact num_mono ht (rB_true hb).2.1 (rB_true c2).2.1 (by omega)
      · simp at hc
theorem rfound_iff {b u : Int} {n : Nat} {f : Nat → Int × Int} (ht : TabOk b u n f) {o : Int} {q : Nat} {g : Nat → Int × Int} (hz : ZoneOk o q g) (lm ls : Int) (x : Int) :
    x ∈ rfound u f n lm ls o q g 2881 ↔ x ∈ zfound u f n lm ls o q g (q + 1) := by
  constructor
  · intro h
    rw [mem_rfound] at h
    obtain ⟨j, hj, hb, rfl⟩ := h
    obtain ⟨-, h2, h3⟩ := rB_true hb
    obtain ⟨hD, h4, h5⟩ := has_mom ht h2
    rw [zfound_iff ht hz lm ls hD, h4, h3, h5]
    exact ⟨by omega, rfl⟩
  · intro h
    obtain ⟨D, hD⟩ := zfound_day ht lm ls h
    have h6 := (zfound_iff ht hz lm ls hD).1 h
    have hm := mom_of ht hD
    rw [mem_zfound] at h
    obtain ⟨k, hk, hb, hi, he⟩ := h
    unfold inB2 at hi
    simp only [Bool.and_eq_true, decide_eq_true_eq] at hi
    rw [he] at hi
    have hin : InK q g k x := ⟨by omega, hi.1, hi.2⟩
    have h7 := hin.off hz
    have h8 := hz.off k (by omega)
    rw [mem_rfound]
    have e1 : (1440 : Int) - ((1440 - offK o g k).toNat : Int) = offK o g k := by omega
    refine ⟨(1440 - offK o g k).toNat, by omega, ?_, ?_⟩
    · rw [e1]
      unfold rB
      simp only [Bool.and_eq_true, decide_eq_true_eq]
      refine ⟨(isOffF_iff o g _ q).2 ⟨k, by omega, rfl⟩, hb, ?_⟩
      have he' : numS f n (lm - offK o g k) ls = x := he
      rw [he', h7]
    · rw [e1]; exact he
theorem sorted_same : ∀ {l1 l2 : List Int}, l1.Pairwise (· < ·) → l2.Pairwise (· < ·) → (∀ x, x ∈ l1 ↔ x ∈ l2) → l1 = l2
  | [], [], _, _, _ => rfl
  | [], b :: l2, _, _, h => by have := (h b).2 (by simp); simp at this
  | a :: l1, [], _, _, h => by have := (h a).1 (by simp); simp at this
  | a :: l1, b :: l2, h1, h2, h => by
    rw [List.pairwise_cons] at h1 h2
    have e : a = b := by
      have ha := (h a).1 (by simp)
      have hb := (h b).2 (by simp)
      simp at ha hb
      rcases ha with e | ha
      · exact e
      · rcases hb with e | hb
        · exact e.symm
        · have := h2.1 a ha; have := h1.1 b hb; omega
    subst e
    congr 1
    refine sorted_same h1.2 h2.2 (fun x => ?_)
    have hx := h x
    simp at hx
    constructor
    · intro hm
      rcases hx.1 (.inr hm) with e | e
      · subst e; have := h1.1 x hm; omega
      · exact e
    · intro hm
      rcases hx.2 (.inr hm) with e | e
      · subst e; have := h2.1 x hm; omega
      · exact e
theorem rfound_same {b u : Int} {n : Nat} {f : Nat → Int × Int} (ht : TabOk b u n f) {o : Int} {q : Nat} {g : Nat → Int × Int} (hz : ZoneOk o q g) (lm ls : Int) : rfound u f n lm ls o q g 2881 = zfound u f n lm ls o q g (q + 1) :=
  sorted_same (rfound_lt ht lm ls o q g 2881) (zfound_lt hz u f n lm ls (q + 1) (Nat.le_refl _)) (rfound_iff ht hz lm ls)
theorem try_ex {b u : Int} {n : Nat} {f : Nat → Int × Int} (ht : tabE b u n f = 0) {y : Int} {m : Nat} {d : Int} (hd : IsDate y m d) (h mi s nn : Int) (hh : 0 ≤ h ∧ h ≤ 23) (hmi : 0 ≤ mi ∧ mi ≤ 59) (hs : 0 ≤ s ∧ s ≤ 60) (hn : -1440 ≤ nn ∧ nn ≤ 1440) {lm : Int} (hlm : 1440 * dayN y m d + 60 * h + mi = lm) :
    ∃ (Y M D H MI S v e : Int) (ok : Bool), (∀ X, Calls Tryz.prog 125 #[.agg #[.int .i64 y, .int .i64 (m : Int), .int .i64 d, .int .i64 h, .int .i64 mi, .int .i64 s], .int .i64 (-nn)] X fun e' w' => e' = .returned (.tuple #[.agg #[.int .i64 Y, .int .i64 M, .int .i64 D, .int .i64 H, .int .i64 MI, .int .i64 S], .bool ok]) ∧ Below X.heap.size X w') ∧
      (ok = true → ∀ X c p, LpIn X f n p → Calls Tryz.prog 41 #[.agg #[.int .i64 b, .slice p n c, .int .i64 u], .agg #[.int .i64 Y, .int .i64 M, .int .i64 D, .int .i64 H, .int .i64 MI, .int .i64 S]] X fun e' w' => e' = .returned (.tuple #[.int .i64 v, .int .i64 e]) ∧ Below X.heap.size X w') ∧
      (ok = true → e = 0 → hasB u f n (lm - nn) s = true ∧ v = numS f n (lm - nn) s) ∧ (ok = true → e ≠ 0 → hasB u f n (lm - nn) s = false) ∧ (ok = false → hasB u f n (lm - nn) s = false) := by
  have hT := tab_ok ht
  have e1 : 1440 * dayN y m d + (60 * h + mi + -nn) = lm - nn := by omega
  by_cases hc : 41317 ≤ (lm - nn) / 1440 ∧ (lm - nn) / 1440 ≤ 88068
  · obtain ⟨Y, M, D, hci⟩ := civ_exists _ hc
    have hp : 1440 * dayN Y M D + 60 * ((lm - nn) % 1440 / 60) + (lm - nn) % 1440 % 60 = lm - nn := by rw [← hci.n_]; omega
    have hsame := sec_same hT hci.toIsDate.civ.n_bd.1 ((lm - nn) % 1440 / 60) ((lm - nn) % 1440 % 60) s
    rw [hp, show tB ((lm - nn) % 1440 / 60) = true by unfold tB; simp only [Bool.and_eq_true, decide_eq_true_eq]; omega, show miB ((lm - nn) % 1440 % 60) = true by unfold miB; simp only [Bool.and_eq_true, decide_eq_true_eq]; omega, show sB s = true by unfold sB; simp only [Bool.and_eq_true, decide_eq_true_eq]; omega] at hsame
    simp only [Bool.true_and] at hsame
    have hmv := fun X => moved_ok (h2 := (lm - nn) % 1440 / 60) (mi2 := (lm - nn) % 1440 % 60) hd h mi s (-nn) hh hmi (by omega) (by rw [e1]; exact hci) (by rw [e1]) (by rw [e1]) X
    have hns := num_same (D := dayN Y M D) (h := (lm - nn) % 1440 / 60) (mi := (lm - nn) % 1440 % 60) (s := s) f n (by omega) (by omega)
    rw [hp] at hns
    cases hb : secB u f n (dayN Y M D) ((lm - nn) % 1440 / 60) ((lm - nn) % 1440 % 60) s
    · rw [hb] at hsame
      exact ⟨Y, M, D, _, _, s, _, _, true, hmv, fun _ X c p hl => rSeconds_bad ht hci.toIsDate _ _ s hb c p X hl, fun _ h => absurd h (by decide), fun _ _ => hsame.symm, fun h => by cases h⟩
    · rw [hb] at hsame
      exact ⟨Y, M, D, _, _, s, _, _, true, hmv, fun _ X c p hl => rSeconds_good ht hci.toIsDate _ _ s hb c p X hl, fun _ _ => ⟨hsame.symm, hns.symm⟩, fun _ h => absurd rfl h, fun h => by cases h⟩
  · refine ⟨0, 0, 0, 0, 0, 0, 0, 0, false, fun X => moved_no hd h mi s (-nn) hh hmi (by omega) (by rw [e1]; exact hc) X, fun h => (by cases h), fun h => (by cases h), fun h => (by cases h), fun _ => ?_⟩
    unfold hasB dayK
    rw [Bool.eq_false_iff]
    intro hx
    simp only [Bool.and_eq_true, decide_eq_true_eq] at hx
    have := hT.u2
    exact hc ⟨hx.1.1, by omega⟩
end Go.Proofs.YtgnfaemnehmgcaaGreatDoor.Cal
namespace Go.Proofs.YtgnfaemnehmgcaaGreatDoor.Cal
open Go Go.RowKit
attribute [local go_sem] Oper.semAt_some
theorem rfl_start (w : World) (b u : Int) (n c : Nat) (p : Option Addr) (o : Int) (q cz : Nat) (pz : Option Addr) (y m d h mi s : Int) :
    ∃ W1, ((w.alloc (.cells #[.int .i64 b, .slice p n c, .int .i64 u] 55)).alloc (.cells #[.int .i64 o, .slice pz q cz] 109)).alloc (.cells #[.int .i64 y, .int .i64 m, .int .i64 d, .int .i64 h, .int .i64 mi, .int .i64 s] 67) = W1 ∧
      TBox W1 w.heap.size b u n c p ∧ ZBox W1 (w.heap.size + 1) o q cz pz ∧ DBox W1 (w.heap.size + 1 + 1) y m d h mi s ∧ Below w.heap.size w W1 := by
  refine ⟨_, rfl, ?_⟩
  have b1 := below_alloc (Below.refl w.heap.size w) (.cells #[.int .i64 b, .slice p n c, .int .i64 u] 55)
  have h1 := TBox.new w b u n c p 55
  have e1 : (w.alloc (.cells #[.int .i64 b, .slice p n c, .int .i64 u] 55)).heap.size = w.heap.size + 1 := by simp
  generalize w.alloc (.cells #[.int .i64 b, .slice p n c, .int .i64 u] 55) = W1 at *
  have b2 := below_alloc (Below.refl W1.heap.size W1) (.cells #[.int .i64 o, .slice pz q cz] 109)
  have h2 := ZBox.new W1 o q cz pz 109
  have e2 : (W1.alloc (.cells #[.int .i64 o, .slice pz q cz] 109)).heap.size = w.heap.size + 1 + 1 := by simp [e1]
  rw [e1] at h2
  have h1' := h1.below b2
  have b2' := bt b1 b2
  generalize W1.alloc (.cells #[.int .i64 o, .slice pz q cz] 109) = W2 at *
  have b3 := below_alloc (Below.refl W2.heap.size W2) (.cells #[.int .i64 y, .int .i64 m, .int .i64 d, .int .i64 h, .int .i64 mi, .int .i64 s] 67)
  have h3 : DBox (W2.alloc (.cells #[.int .i64 y, .int .i64 m, .int .i64 d, .int .i64 h, .int .i64 mi, .int .i64 s] 67)) W2.heap.size y m d h mi s := ⟨by simp, by simp, by simp, by simp, by simp, by simp⟩
  rw [e2] at h3
  exact ⟨h1'.below b3, h2.below b3, h3, bt b2' b3⟩
set_option maxRecDepth 100000 in
set_option maxHeartbeats 8000000 in
theorem rFromLocal_ok {b u : Int} {n : Nat} {f : Nat → Int × Int} (ht : tabE b u n f = 0) {o : Int} {q : Nat} {g : Nat → Int × Int} (hze : zoneE o q g = 0) {y : Int} {m : Nat} {d : Int} (hd : IsDate y m d) (h mi s : Int) (hh : 0 ≤ h ∧ h ≤ 23) (hmi : 0 ≤ mi ∧ mi ≤ 59) (hsb : 0 ≤ s ∧ s ≤ 60)
    (c : Nat) (p : Option Addr) (cz : Nat) (pz : Option Addr) (w : World) (hs : LpIn w f n p) (hs2 : LpIn w g q pz) :
    Calls Tryz.prog 65 #[.agg #[.int .i64 b, .slice p n c, .int .i64 u], .agg #[.int .i64 o, .slice pz q cz], .agg #[.int .i64 y, .int .i64 (m : Int), .int .i64 d, .int .i64 h, .int .i64 mi, .int .i64 s]] w fun e w' =>
      (∃ r cr, e = .returned (.tuple #[.slice r (rfound u f n (1440 * dayN y m d + 60 * h + mi) s o q g 2881).length cr, .int .i64 (if rfound u f n (1440 * dayN y m d + 60 * h + mi) s o q g 2881 = [] then 4 else 0)]) ∧
        FnIn w' (atL (rfound u f n (1440 * dayN y m d + 60 * h + mi) s o q g 2881)) (rfound u f n (1440 * dayN y m d + 60 * h + mi) s o q g 2881).length r) ∧ Below w.heap.size w w' := by
  obtain ⟨i0, hi0, hz0, hz1, hz2⟩ := info_parts infoInt
  obtain ⟨W1, hW1, hx, hy, hdb, A0⟩ := rfl_start w b u n c p o q cz pz y m d h mi s
  have HX := Lib.hid hx
  have HY := Lib.hid hy
  have HDB := Lib.hid hdb
  have A0 := Lib.hid A0
  have HZO := Lib.hid (zone_ok hze)
  have HS := Lib.hid (hs.below A0.out)
  have HS2 := Lib.hid (hs2.below A0.out)
  have HCK := Lib.hid (rCheck_any b u n c p f W1 HS.out (by have := (tab_ok ht).n1; omega))
  rw [ht] at HCK
  have HCZ := Lib.hid (fun X hX => rCheckZone_any o q cz pz g X (HS2.out.below hX) (by have := HZO.out.q1; omega))
  rw [hze] at HCZ
  have HDY := Lib.hid (fun X => rDay_ok (m := m) X hd)
  have HIN := Lib.hid (fun v a b' X (hv : a ≤ v ∧ v ≤ b') => show Calls Tryz.prog 90 #[.int .i64 v, .int .i64 a, .int .i64 b'] X fun e w' => e = .returned (.bool true) ∧ X = w' from by
    have := in_any v a b' X
    rw [show (decide (a ≤ v) && decide (v ≤ b')) = true by simp only [Bool.and_eq_true, decide_eq_true_eq]; exact hv] at this
    exact this)
  obtain ⟨lm, hlm⟩ : ∃ lm, 1440 * dayN y m d + 60 * h + mi = lm := ⟨_, rfl⟩
  have HTR := Lib.hid (fun nn hn => try_ex ht hd h mi s nn hh hmi hsb hn hlm)
  have HHO := Lib.hid (fun x X hX => holds_any o q cz pz g x X (HS2.out.below hX) (by have := HZO.out.q1; omega))
  rw [hlm]
  obtain ⟨L, hL⟩ : ∃ L, rfound u f n lm s o q g 2881 = L := ⟨_, rfl⟩
  rw [hL]
  have HL := Lib.hid hL
  clear hL
  obtain ⟨er, her⟩ : ∃ er, (if L = [] then (4 : Int) else 0) = er := ⟨_, rfl⟩
  rw [her]
  have HER := Lib.hid her
  have HHB := Lib.hid (And.intro hh (And.intro hmi hsb))
  have hq2 := HZO.out.q1
  obtain ⟨dn, hdn⟩ : ∃ dn, dayN y m d = dn := ⟨_, rfl⟩
  rw [hdn] at HDY
  clear hx hy hdb ht hze hs hs2 hd her hlm hh hmi hsb hdn
  generalize (m : Int) = mm at *
  go_enter Tryz.func65, Tryz.ntmps65
  go_upto_region 1 with fail
  clear hW1
  obtain ⟨x0, x1, x2⟩ := HX.out
  have zx := cell_lt x0
  go_upto_region 4 with (go_at_call 34; refine HCK.out.mono ?_; rintro e w2 ⟨rfl, hb2⟩; have HB2 := Lib.hid hb2)
  clear x0 x1 x2 zx hb2
  obtain ⟨y0, y1⟩ := HY.out.below HB2.out
  have zy := cell_lt y0
  go_upto_region 7 with (go_at_call 61; refine (HCZ.out _ HB2.out).mono ?_; rintro e w3 ⟨rfl, hb3⟩; have HB3 := Lib.hid (bt HB2.out hb3))
  clear y0 y1 zy hb3
  obtain ⟨d0, d1, d2, d3, d4, d5⟩ := HDB.out.below HB3.out
  have zd := cell_lt d0
  go_upto_region 8 with (go_at_call 32; refine (HDY.out _).mono ?_; rintro e w' ⟨rfl, rfl⟩)
  go_upto_region 10 with (go_at_call 90; refine (HIN.out _ _ _ _ (by have := HHB.out; omega)).mono ?_; rintro e w' ⟨rfl, rfl⟩)
  clear d0 d1 d2 d3 d4 d5 zd
  go_wp2_with fail
  have HBV := Lib.hid (bt A0.out HB3.out)
  have HXV := Lib.hid (HX.out.below HB3.out)
  have HYV := Lib.hid (HY.out.below HB3.out)
  have HDV := Lib.hid (HDB.out.below HB3.out)
  have HSV := Lib.hid (HS.out.below HB3.out)
  have HS2V := Lib.hid (HS2.out.below HB3.out)
  have HHOV := Lib.hid (fun x X (hX : Below w3.heap.size w3 X) => HHO.out x X (bt HB3.out hX))
  clear HB2 HCK HCZ HDY HIN HX HY HDB HS HS2 HHO HB3 A0 HHB
  generalize w3 = V at *
  go_loopw [12, 13, 14, 15, 16, 17, 18, 19] (fun s12 s13 s14 s15 s16 s17 s18 s19 wr => ∃ (k : Nat) (v a14 a15 a16 a17 a18 a19 : Value), k ≤ 2881 ∧ s12 = v ∧ s13 = .int .i64 (1440 - (k : Int)) ∧ s14 = a14 ∧ s15 = a15 ∧ s16 = a16 ∧ s17 = a17 ∧ s18 = a18 ∧ s19 = a19 ∧ Hid (OL V wr v (rfound u f n lm s o q g k))) (fun _ s13 _ _ _ _ _ _ _ => (intOf s13 + 1441).toNat)
  case atStart => exact ⟨0, _, _, _, _, _, _, _, Nat.zero_le _, rfl, rfl, rfl, rfl, rfl, rfl, rfl, rfl, Lib.hid (OL.nil (Below.refl _ _))⟩
  case round =>
    obtain ⟨k, v, a14, a15, a16, a17, a18, a19, hk, rfl, rfl, rfl, rfl, rfl, rfl, rfl, rfl, HO⟩ := hrel
    by_cases hlt : k < 2881
    · have hst : rfound u f n lm s o q g (k + 1) = rfound u f n lm s o q g k ++ (if rB u f n lm s o q g (1440 - (k : Int)) = true then [numS f n (lm - (1440 - (k : Int))) s] else []) := rfl
      have hfl := rfound_len u f n lm s o q g k
      have vk : IntKind.i64.wrap (1440 - (k : Int) - 1) = 1440 - ((k + 1 : Nat) : Int) := by rw [IntWalk.i64_in _ (by omega)]; omega
      obtain ⟨nn, hnn⟩ : ∃ nn, 1440 - (k : Int) = nn := ⟨_, rfl⟩
      rw [hnn] at hst vk ⊢
      have hnb : -1440 ≤ nn ∧ nn ≤ 1440 := by omega
      have HNK := Lib.hid hnn
      have HK := Lib.hid hlt
      have HST := Lib.hid hst
      obtain ⟨fl, hfle⟩ : ∃ fl, rfound u f n lm s o q g k = fl := ⟨_, rfl⟩
      rw [hfle] at HO HST hfl
      clear hst hnn hlt hfle
      have hge : -1440 ≤ nn := hnb.1
      obtain ⟨y0, y1⟩ := HYV.out.below HO.out.bel
      have zy := cell_lt y0
      go_wp2_with fail
      go_loopw [14, 15] (fun s14 s15 wx => ∃ (i : Nat), i ≤ q ∧ s14 = .bool (isOffF o g nn i) ∧ s15 = .int .i64 (i : Int) ∧ wr = wx) (fun _ s _ => q - (intOf s).toNat)
      case atStart => exact ⟨0, Nat.zero_le _, rfl, rfl, rfl⟩
      case round =>
        obtain ⟨i, hi, rfl, rfl, rfl⟩ := hrel
        by_cases hlt : i < q
        · have hii : (i : Int) < q := by omega
          have vi : IntKind.i64.wrap ((i : Int) + 1) = (i : Int) + 1 := IntWalk.i64_in _ (by omega)
          obtain ⟨bb, oo, rfl, hgi⟩ := (HS2V.out.below HO.out.bel).resolve_left (by omega)
          obtain ⟨c0, c1⟩ := hgi i hlt
          have zc := cell_lt c0
          have hse : isOffF o g nn (i + 1) = (isOffF o g nn i || (g i).2 == nn) := rfl
          have HI := Lib.hid hlt
          clear hgi
          generalize (g i).1 = gi1 at *
          generalize (g i).2 = gi2 at *
          cases hio : isOffF o g nn i
          · rw [hio] at hse
            have HSE := Lib.hid hse
            clear hse hio
            go_wp2_with fail
            go_roundw
            case rel => exact ⟨i + 1, HI.out, by rw [HSE.out]; simp, by simp, trivial⟩
            case measure => have := HI.out; simp [intOf]; omega
          · rw [hio] at hse
            have HSE := Lib.hid hse
            clear hse hio
            go_wp2_with fail
            go_roundw
            case rel => exact ⟨i + 1, HI.out, by rw [HSE.out]; simp, by simp, trivial⟩
            case measure => have := HI.out; simp [intOf]; omega
        · obtain rfl : i = q := by omega
          have hii : ¬ ((i : Int) < i) := by omega
          clear hlt
          cases hio : isOffF o g nn i
          · have HEQ := Lib.hid (show rfound u f n lm s o i g (k + 1) = fl by rw [HST.out, if_neg (by unfold rB; rw [hio]; simp), List.append_nil])
            clear hio
            go_wp2_with fail
            go_roundw
            case rel => exact ⟨k + 1, _, _, _, _, _, _, _, by have := HK.out; omega, rfl, by simp, rfl, rfl, rfl, rfl, rfl, rfl, Lib.hid (by rw [HEQ.out]; exact HO.out)⟩
            case measure => have := HK.out; have := HNK.out; simp [intOf]; omega
          · obtain ⟨Y, M, D, H, MI, S, tv, te, ok, hmv, hsec, h1, h2, h3⟩ := HTR.out nn hnb
            have HMV := Lib.hid hmv
            have vn : IntKind.i64.wrap (-nn) = -nn := IntWalk.i64_in _ (by omega)
            obtain ⟨d0, d1, d2, d3, d4, d5⟩ := HDV.out.below HO.out.bel
            have zd := cell_lt d0
            clear hmv
            cases ok
            · have hb := h3 rfl
              have HEQ := Lib.hid (show rfound u f n lm s o i g (k + 1) = fl by rw [HST.out, if_neg (by unfold rB; rw [hio, hb]; simp), List.append_nil])
              clear h1 h2 h3 hsec hb hio
              go_upto_region 21 with (go_at_call 125; refine (HMV.out _).mono ?_; rintro e w4 ⟨rfl, hb4⟩; have HO4 := Lib.hid ((HO.out.below hb4).below (below_alloc (Below.refl w4.heap.size w4) (.cells #[.int .i64 Y, .int .i64 M, .int .i64 D, .int .i64 H, .int .i64 MI, .int .i64 S] 67))))
              generalize w4.alloc (.cells #[.int .i64 Y, .int .i64 M, .int .i64 D, .int .i64 H, .int .i64 MI, .int .i64 S] 67) = W5 at *
              go_wp2_with fail
              go_roundw
              case rel => exact ⟨k + 1, _, _, _, _, _, _, _, by have := HK.out; omega, rfl, by simp, rfl, rfl, rfl, rfl, rfl, rfl, Lib.hid (by rw [HEQ.out]; exact HO4.out)⟩
              case measure => have := HK.out; have := HNK.out; simp [intOf]; omega
            · have HSEC := Lib.hid (hsec rfl)
              have H1 := Lib.hid (h1 rfl)
              have H2 := Lib.hid (h2 rfl)
              clear h1 h2 h3 hsec
              go_upto_region 21 with (go_at_call 125; refine (HMV.out _).mono ?_; rintro e w4 ⟨rfl, hb4⟩; have HO4 := Lib.hid ((HO.out.below hb4).below (below_alloc (Below.refl w4.heap.size w4) (.cells #[.int .i64 Y, .int .i64 M, .int .i64 D, .int .i64 H, .int .i64 MI, .int .i64 S] 67))))
              have HD4 : Hid (DBox (w4.alloc (.cells #[.int .i64 Y, .int .i64 M, .int .i64 D, .int .i64 H, .int .i64 MI, .int .i64 S] 67)) w4.heap.size Y M D H MI S) := Lib.hid ⟨by simp, by simp, by simp, by simp, by simp, by simp⟩
              clear hb4 d0 d1 d2 d3 d4 d5 zd y0 y1 zy vn
              generalize w4.alloc (.cells #[.int .i64 Y, .int .i64 M, .int .i64 D, .int .i64 H, .int .i64 MI, .int .i64 S] 67) = W5 at *
              generalize w4.heap.size = ad at *
              obtain ⟨x0, x1, x2⟩ := HXV.out.below HO4.out.bel
              have zx := cell_lt x0
              obtain ⟨d0, d1, d2, d3, d4, d5⟩ := HD4.out
              have zd := cell_lt d0
              by_cases he : te = 0
              · obtain ⟨h4, rfl⟩ := H1.out he
                subst he
                clear H1 H2
                go_upto_region 23 with (go_at_call 41; refine (HSEC.out W5 c p (HSV.out.below HO4.out.bel)).mono ?_; rintro e w6 ⟨rfl, hb6⟩; have HO6 := Lib.hid (HO4.out.below hb6))
                clear x0 x1 x2 zx d0 d1 d2 d3 d4 d5 zd
                obtain ⟨y0, y1⟩ := HYV.out.below HO6.out.bel
                have zy := cell_lt y0
                have HHC := Lib.hid (HHOV.out (numS f n (lm - nn) s) w6 HO6.out.bel)
                obtain ⟨tv, htv⟩ : ∃ tv, numS f n (lm - nn) s = tv := ⟨_, rfl⟩
                rw [htv] at HHC ⊢
                by_cases hof : offAt o g tv (i + 1) = nn
                · have HEQ := Lib.hid (show rfound u f n lm s o i g (k + 1) = fl ++ [tv] by rw [HST.out, if_pos (by unfold rB; rw [hio, h4, htv]; simp [hof]), htv])
                  rw [hof] at HHC
                  clear hof hio h4 htv
                  go_upto_region 24 with (go_at_call 124; refine HHC.out.mono ?_; rintro e w7 ⟨rfl, hb7⟩; have HO7 := Lib.hid (HO6.out.below hb7))
                  have hsz7 := HO7.out.bel.size
                  have h2881 := HK.out
                  go_wp2_with (at_builtin; refine wpList_append_own_at _ rfl _ _ _ rfl V.heap.size 3 i0 (.int .i64 0) 1 8 Tryz.underlying30 hi0 hz0 hz1 hz2 rfl (by decide) _ fl.length _ rfl (HO7.out.own.alloc _) ⟨w7.heap.size, 0, none⟩ 1 1 [.int .i64 tv] rfl rfl (cell_one_new _ _ _) (by simp [Value.oneCell']) (by unfold maxLen; omega) (by omega) (by simp; omega) ?_; intro v' w8 hown hg _ _; have HO8 := Lib.hid (HO7.out.more (x := tv) hown hg); clear hown hg)
                  go_roundw
                  case rel => exact ⟨k + 1, _, _, _, _, _, _, _, by have := HK.out; omega, rfl, by simp, rfl, rfl, rfl, rfl, rfl, rfl, Lib.hid (by rw [HEQ.out]; exact HO8.out)⟩
                  case measure => have := HK.out; have := HNK.out; simp [intOf]; omega
                · have HEQ := Lib.hid (show rfound u f n lm s o i g (k + 1) = fl by rw [HST.out, if_neg (by unfold rB; rw [hio, h4, htv]; simp [hof]), List.append_nil])
                  have hof2 : (offAt o g tv (i + 1) == nn) = false := by simpa using hof
                  clear hio h4 htv
                  generalize offAt o g tv (i + 1) = oa at *
                  go_wp2_with (go_at_call 124; refine HHC.out.mono ?_; rintro e w7 ⟨rfl, hb7⟩; have HO7 := Lib.hid (HO6.out.below hb7))
                  go_roundw
                  case rel => exact ⟨k + 1, _, _, _, _, _, _, _, by have := HK.out; omega, rfl, by simp, rfl, rfl, rfl, rfl, rfl, rfl, Lib.hid (by rw [HEQ.out]; exact HO7.out)⟩
                  case measure => have := HK.out; have := HNK.out; simp [intOf]; omega
              · have hb := H2.out he
                have HEQ := Lib.hid (show rfound u f n lm s o i g (k + 1) = fl by rw [HST.out, if_neg (by unfold rB; rw [hio, hb]; simp), List.append_nil])
                have he2 : (te == 0) = false := by simpa using he
                clear H1 H2 hb hio
                go_wp2_with (go_at_call 41; refine (HSEC.out W5 c p (HSV.out.below HO4.out.bel)).mono ?_; rintro e w6 ⟨rfl, hb6⟩; have HO6 := Lib.hid (HO4.out.below hb6))
                go_roundw
                case rel => exact ⟨k + 1, _, _, _, _, _, _, _, by have := HK.out; omega, rfl, by simp, rfl, rfl, rfl, rfl, rfl, rfl, Lib.hid (by rw [HEQ.out]; exact HO6.out)⟩
                case measure => have := HK.out; have := HNK.out; simp [intOf]; omega
    · obtain rfl : k = 2881 := by omega
      have hll := rfound_len u f n lm s o q g 2881
      rw [HL.out] at HO hll
      obtain ⟨r, cr, rfl, -, hfn⟩ := HO.out.fn
      have HFN := Lib.hid hfn
      have hno : ¬ (-1440 : Int) ≤ 1440 - ((2881 : Nat) : Int) := by decide
      clear hfn
      by_cases h0 : L = []
      · subst h0
        have her := HER.out
        rw [if_pos rfl] at her
        have HER2 := Lib.hid her
        clear her
        go_wp2_with fail
        go_ret2
        exact ⟨⟨none, ⟨0, by rw [← HER2.out]; rfl⟩, .inl rfl⟩, bt HBV.out HO.out.bel⟩
      · have h1 : ¬ L.length = 0 := by
          cases L with
          | nil => exact absurd rfl h0
          | cons _ _ => simp
        have h1i : ¬ (L.length : Int) = 0 := by omega
        have h1b : ((L.length : Int) == 0) = false := by simpa using h1i
        have her := HER.out
        rw [if_neg h0] at her
        have HER2 := Lib.hid her
        clear her h0
        go_wp2_with fail
        go_ret2
        exact ⟨⟨r, ⟨cr, by rw [← HER2.out]; rfl⟩, HFN.out⟩, bt HBV.out HO.out.bel⟩
end Go.Proofs.YtgnfaemnehmgcaaGreatDoor.Cal
