/- Contract: Same, which compares two worlds. -/
import Derived.Test.YtlelamjbfjneiaaGreatDoorQ04
import Derived.Test.YtlelamjbfjneiaaGreatDoorQ45
import Derived.Test.YtlelamjbfjneiaaGreatDoorQ46
import Derived.LoopTactic
import Derived.RegionTactic
import Derived.ChangeAlike
import Derived.BigRegion
namespace Go.Proofs.YtlelamjbfjneiaaGreatDoor.Wd
open Go Go.RowKit
set_option maxRecDepth 100000 in
set_option maxHeartbeats 4000000 in
theorem same_chs (W : Wld) (a1 x1 b1 y1 : Nat) (q2 p2 : Option Addr) (c1 c2 d1 d2 : Nat) (w : World) (h1 : ChamsAt w W.chs a1 x1) (g1 : ChamsAt w W.chs b1 y1) (h2 : W.cls.length ≤ 0) (n1 : W.chs.length ≤ maxLen) (_n2 : W.cls.length ≤ maxLen) :
    Calls Tryz.prog 18 #[.agg #[.int .u64 W.seed, .slice (some ⟨a1, x1, none⟩) W.chs.length d1, .slice q2 W.cls.length d2], .agg #[.int .u64 W.seed, .slice (some ⟨b1, y1, none⟩) W.chs.length c1, .slice p2 W.cls.length c2]] w fun e w' => e = .returned (.bool true) ∧ Below w.heap.size w w' := by
  unfold maxLen at n1 _n2
  have a0 : Below w.heap.size w ((w.alloc (.cells #[.int .u64 W.seed, .slice (some ⟨a1, x1, none⟩) W.chs.length d1, .slice q2 W.cls.length d2] 38)).alloc (.cells #[.int .u64 W.seed, .slice (some ⟨b1, y1, none⟩) W.chs.length c1, .slice p2 W.cls.length c2] 28)) := below_alloc' (below_alloc' (Below.refl _ _) _) _
  have u1 : ((w.alloc (.cells #[.int .u64 W.seed, .slice (some ⟨a1, x1, none⟩) W.chs.length d1, .slice q2 W.cls.length d2] 38)).alloc (.cells #[.int .u64 W.seed, .slice (some ⟨b1, y1, none⟩) W.chs.length c1, .slice p2 W.cls.length c2] 28)).cell? ⟨w.heap.size, 1, none⟩ = some (.slice (some ⟨a1, x1, none⟩) W.chs.length d1) := by simp
  have u2 : ((w.alloc (.cells #[.int .u64 W.seed, .slice (some ⟨a1, x1, none⟩) W.chs.length d1, .slice q2 W.cls.length d2] 38)).alloc (.cells #[.int .u64 W.seed, .slice (some ⟨b1, y1, none⟩) W.chs.length c1, .slice p2 W.cls.length c2] 28)).cell? ⟨w.heap.size, 2, none⟩ = some (.slice q2 W.cls.length d2) := by simp
  have v1 : ((w.alloc (.cells #[.int .u64 W.seed, .slice (some ⟨a1, x1, none⟩) W.chs.length d1, .slice q2 W.cls.length d2] 38)).alloc (.cells #[.int .u64 W.seed, .slice (some ⟨b1, y1, none⟩) W.chs.length c1, .slice p2 W.cls.length c2] 28)).cell? ⟨w.heap.size + 1, 1, none⟩ = some (.slice (some ⟨b1, y1, none⟩) W.chs.length c1) := by simp
  have v2 : ((w.alloc (.cells #[.int .u64 W.seed, .slice (some ⟨a1, x1, none⟩) W.chs.length d1, .slice q2 W.cls.length d2] 38)).alloc (.cells #[.int .u64 W.seed, .slice (some ⟨b1, y1, none⟩) W.chs.length c1, .slice p2 W.cls.length c2] 28)).cell? ⟨w.heap.size + 1, 2, none⟩ = some (.slice p2 W.cls.length c2) := by simp
  have A0 := Lib.hid a0
  have U1 := Lib.hid u1
  have U2 := Lib.hid u2
  have V1 := Lib.hid v1
  have V2 := Lib.hid v2
  have H1 := Lib.hid h1
  have G1 := Lib.hid g1
  clear a0 u1 u2 v1 v2 h1 g1
  go_enter Tryz.func18, Tryz.ntmps18
  go_wp2
  generalize ((w.alloc (.cells #[.int .u64 W.seed, .slice (some ⟨a1, x1, none⟩) W.chs.length d1, .slice q2 W.cls.length d2] 38)).alloc (.cells #[.int .u64 W.seed, .slice (some ⟨b1, y1, none⟩) W.chs.length c1, .slice p2 W.cls.length c2] 28)) = W1 at *
  go_loopw [5] (fun i wr => ∃ k : Nat, k ≤ W.chs.length ∧ i = .int .i64 k ∧ Hid (Below W1.heap.size W1 wr)) (fun i _ => W.chs.length - (intOf i).toNat)
  case atStart => exact ⟨0, Nat.zero_le _, rfl, Lib.hid (Below.refl _ _)⟩
  case round =>
    obtain ⟨k, hk, rfl, HB⟩ := hrel
    have HBW := Lib.hid (A0.out.trans (HB.out.mono A0.out.size))
    have z1 := cell_below HB.out U1.out
    have z2 := cell_below HB.out V1.out
    have hz1 := cell_lt z1
    have hz2 := cell_lt z2
    by_cases hlt : k < W.chs.length
    · obtain ⟨r0, r1, r2⟩ := (H1.out k hlt).below HBW.out
      obtain ⟨s0, s1, s2⟩ := (G1.out k hlt).below HBW.out
      have hzr := cell_lt r0
      have hzs := cell_lt s0
      have hkl : (k : Int) < (W.chs.length : Int) := by omega
      generalize W.chs[k] = c at *
      go_wp2
      go_quiet (fail)
      go_wp2
      go_roundw
      case rel => exact ⟨k + 1, by omega, by go_num, Lib.hid (below_drewN HB.out _)⟩
      case measure => simp [intOf]; omega
    · have hkl : ¬ (k : Int) < (W.chs.length : Int) := by omega
      obtain rfl : k = W.chs.length := by omega
      clear hk hlt HBW
      go_wp2
      go_loopw [6] (fun i wr => ∃ k : Nat, k ≤ W.cls.length ∧ i = .int .i64 k ∧ Hid (Below W1.heap.size W1 wr)) (fun i _ => W.cls.length - (intOf i).toNat)
      case atStart => exact ⟨0, Nat.zero_le _, rfl, HB⟩
      case round =>
        clear HB z1 z2 hz1 hz2 hkl
        obtain ⟨wq, rfl⟩ : ∃ wq : World, wq = wr := ⟨_, rfl⟩
        obtain ⟨k, hk, rfl, HB⟩ := hrel
        have HBW := Lib.hid (A0.out.trans (HB.out.mono A0.out.size))
        have z1 := cell_below HB.out U2.out
        have z2 := cell_below HB.out V2.out
        have hz1 := cell_lt z1
        have hz2 := cell_lt z2
        by_cases hlt : k < W.cls.length
        · exfalso; omega
        · have hkl : ¬ (k : Int) < (W.cls.length : Int) := by omega
          go_wp2
          go_ret
          exact ⟨rfl, HBW.out⟩
set_option maxRecDepth 100000 in
set_option maxHeartbeats 4000000 in
theorem same_none (W : Wld) (q1 p1 : Option Addr) (q2 p2 : Option Addr) (c1 c2 d1 d2 : Nat) (w : World) (h1 : W.chs.length ≤ 0) (h2 : W.cls.length ≤ 0) (_n1 : W.chs.length ≤ maxLen) (_n2 : W.cls.length ≤ maxLen) :
    Calls Tryz.prog 18 #[.agg #[.int .u64 W.seed, .slice q1 W.chs.length d1, .slice q2 W.cls.length d2], .agg #[.int .u64 W.seed, .slice p1 W.chs.length c1, .slice p2 W.cls.length c2]] w fun e w' => e = .returned (.bool true) ∧ Below w.heap.size w w' := by
  unfold maxLen at _n1 _n2
  have a0 : Below w.heap.size w ((w.alloc (.cells #[.int .u64 W.seed, .slice q1 W.chs.length d1, .slice q2 W.cls.length d2] 38)).alloc (.cells #[.int .u64 W.seed, .slice p1 W.chs.length c1, .slice p2 W.cls.length c2] 28)) := below_alloc' (below_alloc' (Below.refl _ _) _) _
  have u1 : ((w.alloc (.cells #[.int .u64 W.seed, .slice q1 W.chs.length d1, .slice q2 W.cls.length d2] 38)).alloc (.cells #[.int .u64 W.seed, .slice p1 W.chs.length c1, .slice p2 W.cls.length c2] 28)).cell? ⟨w.heap.size, 1, none⟩ = some (.slice q1 W.chs.length d1) := by simp
  have u2 : ((w.alloc (.cells #[.int .u64 W.seed, .slice q1 W.chs.length d1, .slice q2 W.cls.length d2] 38)).alloc (.cells #[.int .u64 W.seed, .slice p1 W.chs.length c1, .slice p2 W.cls.length c2] 28)).cell? ⟨w.heap.size, 2, none⟩ = some (.slice q2 W.cls.length d2) := by simp
  have v1 : ((w.alloc (.cells #[.int .u64 W.seed, .slice q1 W.chs.length d1, .slice q2 W.cls.length d2] 38)).alloc (.cells #[.int .u64 W.seed, .slice p1 W.chs.length c1, .slice p2 W.cls.length c2] 28)).cell? ⟨w.heap.size + 1, 1, none⟩ = some (.slice p1 W.chs.length c1) := by simp
  have v2 : ((w.alloc (.cells #[.int .u64 W.seed, .slice q1 W.chs.length d1, .slice q2 W.cls.length d2] 38)).alloc (.cells #[.int .u64 W.seed, .slice p1 W.chs.length c1, .slice p2 W.cls.length c2] 28)).cell? ⟨w.heap.size + 1, 2, none⟩ = some (.slice p2 W.cls.length c2) := by simp
  have A0 := Lib.hid a0
  have U1 := Lib.hid u1
  have U2 := Lib.hid u2
  have V1 := Lib.hid v1
  have V2 := Lib.hid v2
  clear a0 u1 u2 v1 v2
  go_enter Tryz.func18, Tryz.ntmps18
  go_wp2
  generalize ((w.alloc (.cells #[.int .u64 W.seed, .slice q1 W.chs.length d1, .slice q2 W.cls.length d2] 38)).alloc (.cells #[.int .u64 W.seed, .slice p1 W.chs.length c1, .slice p2 W.cls.length c2] 28)) = W1 at *
  go_loopw [5] (fun i wr => ∃ k : Nat, k ≤ W.chs.length ∧ i = .int .i64 k ∧ Hid (Below W1.heap.size W1 wr)) (fun i _ => W.chs.length - (intOf i).toNat)
  case atStart => exact ⟨0, Nat.zero_le _, rfl, Lib.hid (Below.refl _ _)⟩
  case round =>
    obtain ⟨k, hk, rfl, HB⟩ := hrel
    have HBW := Lib.hid (A0.out.trans (HB.out.mono A0.out.size))
    have z1 := cell_below HB.out U1.out
    have z2 := cell_below HB.out V1.out
    have hz1 := cell_lt z1
    have hz2 := cell_lt z2
    by_cases hlt : k < W.chs.length
    · exfalso; omega
    · have hkl : ¬ (k : Int) < (W.chs.length : Int) := by omega
      obtain rfl : k = W.chs.length := by omega
      clear hk hlt HBW
      go_wp2
      go_loopw [6] (fun i wr => ∃ k : Nat, k ≤ W.cls.length ∧ i = .int .i64 k ∧ Hid (Below W1.heap.size W1 wr)) (fun i _ => W.cls.length - (intOf i).toNat)
      case atStart => exact ⟨0, Nat.zero_le _, rfl, HB⟩
      case round =>
        clear HB z1 z2 hz1 hz2 hkl
        obtain ⟨wq, rfl⟩ : ∃ wq : World, wq = wr := ⟨_, rfl⟩
        obtain ⟨k, hk, rfl, HB⟩ := hrel
        have HBW := Lib.hid (A0.out.trans (HB.out.mono A0.out.size))
        have z1 := cell_below HB.out U2.out
        have z2 := cell_below HB.out V2.out
        have hz1 := cell_lt z1
        have hz2 := cell_lt z2
        by_cases hlt : k < W.cls.length
        · exfalso; omega
        · have hkl : ¬ (k : Int) < (W.cls.length : Int) := by omega
          go_wp2
          go_ret
          exact ⟨rfl, HBW.out⟩
theorem same_any (W : Wld) (q1 q2 p1 p2 : Option Addr) (d1 d2 c1 c2 : Nat) (w : World) (hA : WldIn w W q1 q2) (hB : WldIn w W p1 p2) :
    Calls Tryz.prog 18 #[.agg #[.int .u64 W.seed, .slice q1 W.chs.length d1, .slice q2 W.cls.length d2], .agg #[.int .u64 W.seed, .slice p1 W.chs.length c1, .slice p2 W.cls.length c2]] w fun e w' => e = .returned (.bool true) ∧ Below w.heap.size w w' := by
  obtain ⟨n1, n2, hA1, hA2⟩ := hA
  obtain ⟨-, -, hB1, hB2⟩ := hB
  by_cases h1 : W.chs.length ≤ 0
  · by_cases h2 : W.cls.length ≤ 0
    · exact same_none W q1 p1 q2 p2 c1 c2 d1 d2 w h1 h2 n1 n2
    · obtain ⟨a2, x2, rfl, hA4⟩ := hA2.resolve_left (by omega)
      obtain ⟨b2, y2, rfl, hB4⟩ := hB2.resolve_left (by omega)
      exact same_cls W q1 p1 a2 x2 b2 y2 c1 c2 d1 d2 w h1 hA4 hB4 n1 n2
  · obtain ⟨a1, x1, rfl, hA3⟩ := hA1.resolve_left (by omega)
    obtain ⟨b1, y1, rfl, hB3⟩ := hB1.resolve_left (by omega)
    by_cases h2 : W.cls.length ≤ 0
    · exact same_chs W a1 x1 b1 y1 q2 p2 c1 c2 d1 d2 w hA3 hB3 h2 n1 n2
    · obtain ⟨a2, x2, rfl, hA4⟩ := hA2.resolve_left (by omega)
      obtain ⟨b2, y2, rfl, hB4⟩ := hB2.resolve_left (by omega)
      exact same_both W a1 x1 b1 y1 a2 x2 b2 y2 c1 c2 d1 d2 w hA3 hB3 hA4 hB4 n1 n2
end Go.Proofs.YtlelamjbfjneiaaGreatDoor.Wd
