/- Contract: Same, which compares two worlds. -/
import Derived.Test.YtlelamjbfjneiaaGreatDoorQ04
import Derived.LoopTactic
import Derived.RegionTactic
import Derived.ChangeAlike
import Derived.BigRegion
namespace Go.Proofs.YtlelamjbfjneiaaGreatDoor.Wd
open Go Go.RowKit
set_option maxRecDepth 100000 in
set_option maxHeartbeats 4000000 in
theorem same_both (W : Wld) (a1 x1 b1 y1 : Nat) (a2 x2 b2 y2 : Nat) (c1 c2 d1 d2 : Nat) (w : World) (h1 : ChamsAt w W.chs a1 x1) (g1 : ChamsAt w W.chs b1 y1) (h2 : ClksAt w W.cls a2 x2) (g2 : ClksAt w W.cls b2 y2) (n1 : W.chs.length ≤ maxLen) (n2 : W.cls.length ≤ maxLen) :
    Calls Tryz.prog 18 #[.agg #[.int .u64 W.seed, .slice (some ⟨a1, x1, none⟩) W.chs.length d1, .slice (some ⟨a2, x2, none⟩) W.cls.length d2], .agg #[.int .u64 W.seed, .slice (some ⟨b1, y1, none⟩) W.chs.length c1, .slice (some ⟨b2, y2, none⟩) W.cls.length c2]] w fun e w' => e = .returned (.bool true) ∧ Below w.heap.size w w' := by
  unfold maxLen at n1 n2
  have a0 : Below w.heap.size w ((w.alloc (.cells #[.int .u64 W.seed, .slice (some ⟨a1, x1, none⟩) W.chs.length d1, .slice (some ⟨a2, x2, none⟩) W.cls.length d2] 38)).alloc (.cells #[.int .u64 W.seed, .slice (some ⟨b1, y1, none⟩) W.chs.length c1, .slice (some ⟨b2, y2, none⟩) W.cls.length c2] 28)) := below_alloc' (below_alloc' (Below.refl _ _) _) _
  have u1 : ((w.alloc (.cells #[.int .u64 W.seed, .slice (some ⟨a1, x1, none⟩) W.chs.length d1, .slice (some ⟨a2, x2, none⟩) W.cls.length d2] 38)).alloc (.cells #[.int .u64 W.seed, .slice (some ⟨b1, y1, none⟩) W.chs.length c1, .slice (some ⟨b2, y2, none⟩) W.cls.length c2] 28)).cell? ⟨w.heap.size, 1, none⟩ = some (.slice (some ⟨a1, x1, none⟩) W.chs.length d1) := by simp
  have u2 : ((w.alloc (.cells #[.int .u64 W.seed, .slice (some ⟨a1, x1, none⟩) W.chs.length d1, .slice (some ⟨a2, x2, none⟩) W.cls.length d2] 38)).alloc (.cells #[.int .u64 W.seed, .slice (some ⟨b1, y1, none⟩) W.chs.length c1, .slice (some ⟨b2, y2, none⟩) W.cls.length c2] 28)).cell? ⟨w.heap.size, 2, none⟩ = some (.slice (some ⟨a2, x2, none⟩) W.cls.length d2) := by simp
  have v1 : ((w.alloc (.cells #[.int .u64 W.seed, .slice (some ⟨a1, x1, none⟩) W.chs.length d1, .slice (some ⟨a2, x2, none⟩) W.cls.length d2] 38)).alloc (.cells #[.int .u64 W.seed, .slice (some ⟨b1, y1, none⟩) W.chs.length c1, .slice (some ⟨b2, y2, none⟩) W.cls.length c2] 28)).cell? ⟨w.heap.size + 1, 1, none⟩ = some (.slice (some ⟨b1, y1, none⟩) W.chs.length c1) := by simp
  have v2 : ((w.alloc (.cells #[.int .u64 W.seed, .slice (some ⟨a1, x1, none⟩) W.chs.length d1, .slice (some ⟨a2, x2, none⟩) W.cls.length d2] 38)).alloc (.cells #[.int .u64 W.seed, .slice (some ⟨b1, y1, none⟩) W.chs.length c1, .slice (some ⟨b2, y2, none⟩) W.cls.length c2] 28)).cell? ⟨w.heap.size + 1, 2, none⟩ = some (.slice (some ⟨b2, y2, none⟩) W.cls.length c2) := by simp
  have A0 := Lib.hid a0
  have U1 := Lib.hid u1
  have U2 := Lib.hid u2
  have V1 := Lib.hid v1
  have V2 := Lib.hid v2
  have H1 := Lib.hid h1
  have G1 := Lib.hid g1
  have H2 := Lib.hid h2
  have G2 := Lib.hid g2
  clear a0 u1 u2 v1 v2 h1 g1 h2 g2
  go_enter Tryz.func18, Tryz.ntmps18
  go_wp2
  generalize ((w.alloc (.cells #[.int .u64 W.seed, .slice (some ⟨a1, x1, none⟩) W.chs.length d1, .slice (some ⟨a2, x2, none⟩) W.cls.length d2] 38)).alloc (.cells #[.int .u64 W.seed, .slice (some ⟨b1, y1, none⟩) W.chs.length c1, .slice (some ⟨b2, y2, none⟩) W.cls.length c2] 28)) = W1 at *
  go_loopw [5] (fun i wr => ∃ k : Nat, k ≤ W.chs.length ∧ i = .int .i64 k ∧ Hid (Below W1.heap.size W1 wr)) (fun i _ => W.chs.length - (intOf i).toNat)
  case atStart => exact ⟨0, Nat.zero_le _, rfl, Lib.hid (Below.refl _ _)⟩
  case round =>
    obtain ⟨k, hk, rfl, HB⟩ := hrel
    have HBW := Lib.hid (A0.out.trans (HB.out.mono A0.out.size))
    have z1 := cell_below HB.out U1.out
    have z2 := cell_below HB.out V1.out
    have hz1 := cell_lt z1
    have hz2 := cell_lt z2
    by_cases hlt : k < W.chs.length
    · obtain ⟨r0, r1, r2⟩ := (H1.out k hlt).below HBW.out
      obtain ⟨s0, s1, s2⟩ := (G1.out k hlt).below HBW.out
      have hzr := cell_lt r0
      have hzs := cell_lt s0
      have hkl : (k : Int) < (W.chs.length : Int) := by omega
      generalize W.chs[k] = c at *
      go_wp2
      go_quiet (fail)
      go_wp2
      go_roundw
      case rel => exact ⟨k + 1, by omega, by go_num, Lib.hid (below_drewN HB.out _)⟩
      case measure => simp [intOf]; omega
    · have hkl : ¬ (k : Int) < (W.chs.length : Int) := by omega
      obtain rfl : k = W.chs.length := by omega
      clear hk hlt HBW
      go_wp2
      go_loopw [6] (fun i wr => ∃ k : Nat, k ≤ W.cls.length ∧ i = .int .i64 k ∧ Hid (Below W1.heap.size W1 wr)) (fun i _ => W.cls.length - (intOf i).toNat)
      case atStart => exact ⟨0, Nat.zero_le _, rfl, HB⟩
      case round =>
        clear HB z1 z2 hz1 hz2 hkl
        obtain ⟨wq, rfl⟩ : ∃ wq : World, wq = wr := ⟨_, rfl⟩
        obtain ⟨k, hk, rfl, HB⟩ := hrel
        have HBW := Lib.hid (A0.out.trans (HB.out.mono A0.out.size))
        have z1 := cell_below HB.out U2.out
        have z2 := cell_below HB.out V2.out
        have hz1 := cell_lt z1
        have hz2 := cell_lt z2
        by_cases hlt : k < W.cls.length
        · obtain ⟨⟨r0, r1, r2, r3, r4, r5, r6, r7⟩, va, r8, hva⟩ := (H2.out k hlt).below HBW.out
          obtain ⟨⟨s0, s1, s2, s3, s4, s5, s6, s7⟩, vb, s8, hvb⟩ := (G2.out k hlt).below HBW.out
          have hzr := cell_lt r0
          have hzs := cell_lt s0
          have hkl : (k : Int) < (W.cls.length : Int) := by omega
          generalize W.cls[k] = c at *
          obtain ⟨pa, ca, rfl, hml, hea⟩ := hva
          obtain ⟨pb, cb, rfl, -, heb⟩ := hvb
          unfold maxLen at hml
          by_cases he0 : c.evs.length ≤ 0
          · as_aux_lemma =>
            clear hea heb
            go_wp2
            go_region
            · as_aux_lemma =>
              go_wp2
              have hb3 : Below W1.heap.size W1 ((wq.alloc (.cells #[.int .i64 c.kind, .int .i64 c.phase, .int .i64 c.rate, .int .i64 c.drift, .int .i64 c.white, .int .i64 c.walk, .int .i64 c.heat, .int .i64 c.room, .slice pa c.evs.length ca] 85)).alloc (.cells #[.int .i64 c.kind, .int .i64 c.phase, .int .i64 c.rate, .int .i64 c.drift, .int .i64 c.white, .int .i64 c.walk, .int .i64 c.heat, .int .i64 c.room, .slice pb c.evs.length cb] 61)).drew := below_drewN (below_alloc' (below_alloc' HB.out _) _) 1
              have hbq : Below wq.heap.size wq ((wq.alloc (.cells #[.int .i64 c.kind, .int .i64 c.phase, .int .i64 c.rate, .int .i64 c.drift, .int .i64 c.white, .int .i64 c.walk, .int .i64 c.heat, .int .i64 c.room, .slice pa c.evs.length ca] 85)).alloc (.cells #[.int .i64 c.kind, .int .i64 c.phase, .int .i64 c.rate, .int .i64 c.drift, .int .i64 c.white, .int .i64 c.walk, .int .i64 c.heat, .int .i64 c.room, .slice pb c.evs.length cb] 61)).drew := below_drewN (below_alloc' (below_alloc' (Below.refl _ _) _) _) 1
              have t8 : ((wq.alloc (.cells #[.int .i64 c.kind, .int .i64 c.phase, .int .i64 c.rate, .int .i64 c.drift, .int .i64 c.white, .int .i64 c.walk, .int .i64 c.heat, .int .i64 c.room, .slice pa c.evs.length ca] 85)).alloc (.cells #[.int .i64 c.kind, .int .i64 c.phase, .int .i64 c.rate, .int .i64 c.drift, .int .i64 c.white, .int .i64 c.walk, .int .i64 c.heat, .int .i64 c.room, .slice pb c.evs.length cb] 61)).drew.cell? ⟨wq.heap.size, 8, none⟩ = some (.slice pa c.evs.length ca) := by simp
              have w8 : ((wq.alloc (.cells #[.int .i64 c.kind, .int .i64 c.phase, .int .i64 c.rate, .int .i64 c.drift, .int .i64 c.white, .int .i64 c.walk, .int .i64 c.heat, .int .i64 c.room, .slice pa c.evs.length ca] 85)).alloc (.cells #[.int .i64 c.kind, .int .i64 c.phase, .int .i64 c.rate, .int .i64 c.drift, .int .i64 c.white, .int .i64 c.walk, .int .i64 c.heat, .int .i64 c.room, .slice pb c.evs.length cb] 61)).drew.cell? ⟨wq.heap.size + 1, 8, none⟩ = some (.slice pb c.evs.length cb) := by simp
              have HB3 := Lib.hid hb3
              have HBQ := Lib.hid hbq
              have T8 := Lib.hid t8
              have W8 := Lib.hid w8
              clear hb3 hbq t8 w8 r0 r1 r2 r3 r4 r5 r6 r7 r8 s0 s1 s2 s3 s4 s5 s6 s7 s8 z1 z2
              generalize ((wq.alloc (.cells #[.int .i64 c.kind, .int .i64 c.phase, .int .i64 c.rate, .int .i64 c.drift, .int .i64 c.white, .int .i64 c.walk, .int .i64 c.heat, .int .i64 c.room, .slice pa c.evs.length ca] 85)).alloc (.cells #[.int .i64 c.kind, .int .i64 c.phase, .int .i64 c.rate, .int .i64 c.drift, .int .i64 c.white, .int .i64 c.walk, .int .i64 c.heat, .int .i64 c.room, .slice pb c.evs.length cb] 61)).drew = W3 at *
              go_loopw [9] (fun i wr => ∃ j : Nat, j ≤ c.evs.length ∧ i = .int .i64 j ∧ Hid (Below W3.heap.size W3 wr)) (fun i _ => c.evs.length - (intOf i).toNat)
              case atStart => exact ⟨0, Nat.zero_le _, rfl, Lib.hid (Below.refl _ _)⟩
              case round =>
                obtain ⟨wz, rfl⟩ : ∃ wz : World, wz = wr := ⟨_, rfl⟩
                obtain ⟨j, hj, rfl, HD⟩ := hrel
                have t8 := cell_below HD.out T8.out
                have w8 := cell_below HD.out W8.out
                have hzt := cell_lt t8
                have hzw := cell_lt w8
                by_cases hjl : j < c.evs.length
                · exfalso; omega
                · have hjn : ¬ (j : Int) < (c.evs.length : Int) := by omega
                  go_wp2
                  go_roundw
                  case rel => exact ⟨k + 1, by omega, by go_num, Lib.hid (HB3.out.trans (HD.out.mono HB3.out.size))⟩
                  case measure => simp [intOf]; omega
            · as_aux_lemma =>
              go_wp2
              have hb3 : Below W1.heap.size W1 ((wq.alloc (.cells #[.int .i64 c.kind, .int .i64 c.phase, .int .i64 c.rate, .int .i64 c.drift, .int .i64 c.white, .int .i64 c.walk, .int .i64 c.heat, .int .i64 c.room, .slice pb c.evs.length cb] 61)).alloc (.cells #[.int .i64 c.kind, .int .i64 c.phase, .int .i64 c.rate, .int .i64 c.drift, .int .i64 c.white, .int .i64 c.walk, .int .i64 c.heat, .int .i64 c.room, .slice pa c.evs.length ca] 85)).drew := below_drewN (below_alloc' (below_alloc' HB.out _) _) 1
              have hbq : Below wq.heap.size wq ((wq.alloc (.cells #[.int .i64 c.kind, .int .i64 c.phase, .int .i64 c.rate, .int .i64 c.drift, .int .i64 c.white, .int .i64 c.walk, .int .i64 c.heat, .int .i64 c.room, .slice pb c.evs.length cb] 61)).alloc (.cells #[.int .i64 c.kind, .int .i64 c.phase, .int .i64 c.rate, .int .i64 c.drift, .int .i64 c.white, .int .i64 c.walk, .int .i64 c.heat, .int .i64 c.room, .slice pa c.evs.length ca] 85)).drew := below_drewN (below_alloc' (below_alloc' (Below.refl _ _) _) _) 1
              have t8 : ((wq.alloc (.cells #[.int .i64 c.kind, .int .i64 c.phase, .int .i64 c.rate, .int .i64 c.drift, .int .i64 c.white, .int .i64 c.walk, .int .i64 c.heat, .int .i64 c.room, .slice pb c.evs.length cb] 61)).alloc (.cells #[.int .i64 c.kind, .int .i64 c.phase, .int .i64 c.rate, .int .i64 c.drift, .int .i64 c.white, .int .i64 c.walk, .int .i64 c.heat, .int .i64 c.room, .slice pa c.evs.length ca] 85)).drew.cell? ⟨wq.heap.size + 1, 8, none⟩ = some (.slice pa c.evs.length ca) := by simp
              have w8 : ((wq.alloc (.cells #[.int .i64 c.kind, .int .i64 c.phase, .int .i64 c.rate, .int .i64 c.drift, .int .i64 c.white, .int .i64 c.walk, .int .i64 c.heat, .int .i64 c.room, .slice pb c.evs.length cb] 61)).alloc (.cells #[.int .i64 c.kind, .int .i64 c.phase, .int .i64 c.rate, .int .i64 c.drift, .int .i64 c.white, .int .i64 c.walk, .int .i64 c.heat, .int .i64 c.room, .slice pa c.evs.length ca] 85)).drew.cell? ⟨wq.heap.size, 8, none⟩ = some (.slice pb c.evs.length cb) := by simp
              have HB3 := Lib.hid hb3
              have HBQ := Lib.hid hbq
              have T8 := Lib.hid t8
              have W8 := Lib.hid w8
              clear hb3 hbq t8 w8 r0 r1 r2 r3 r4 r5 r6 r7 r8 s0 s1 s2 s3 s4 s5 s6 s7 s8 z1 z2
              generalize ((wq.alloc (.cells #[.int .i64 c.kind, .int .i64 c.phase, .int .i64 c.rate, .int .i64 c.drift, .int .i64 c.white, .int .i64 c.walk, .int .i64 c.heat, .int .i64 c.room, .slice pb c.evs.length cb] 61)).alloc (.cells #[.int .i64 c.kind, .int .i64 c.phase, .int .i64 c.rate, .int .i64 c.drift, .int .i64 c.white, .int .i64 c.walk, .int .i64 c.heat, .int .i64 c.room, .slice pa c.evs.length ca] 85)).drew = W3 at *
              go_loopw [9] (fun i wr => ∃ j : Nat, j ≤ c.evs.length ∧ i = .int .i64 j ∧ Hid (Below W3.heap.size W3 wr)) (fun i _ => c.evs.length - (intOf i).toNat)
              case atStart => exact ⟨0, Nat.zero_le _, rfl, Lib.hid (Below.refl _ _)⟩
              case round =>
                obtain ⟨wz, rfl⟩ : ∃ wz : World, wz = wr := ⟨_, rfl⟩
                obtain ⟨j, hj, rfl, HD⟩ := hrel
                have t8 := cell_below HD.out T8.out
                have w8 := cell_below HD.out W8.out
                have hzt := cell_lt t8
                have hzw := cell_lt w8
                by_cases hjl : j < c.evs.length
                · exfalso; omega
                · have hjn : ¬ (j : Int) < (c.evs.length : Int) := by omega
                  go_wp2
                  go_roundw
                  case rel => exact ⟨k + 1, by omega, by go_num, Lib.hid (HB3.out.trans (HD.out.mono HB3.out.size))⟩
                  case measure => simp [intOf]; omega
          · as_aux_lemma =>
            obtain ⟨ea, oa, rfl, hea2⟩ := hea.resolve_left (by omega)
            obtain ⟨eb, ob, rfl, heb2⟩ := heb.resolve_left (by omega)
            have HEA := Lib.hid hea2
            have HEB := Lib.hid heb2
            clear hea heb he0 hea2 heb2
            go_wp2
            go_region
            · as_aux_lemma =>
              go_wp2
              have hb3 : Below W1.heap.size W1 ((wq.alloc (.cells #[.int .i64 c.kind, .int .i64 c.phase, .int .i64 c.rate, .int .i64 c.drift, .int .i64 c.white, .int .i64 c.walk, .int .i64 c.heat, .int .i64 c.room, .slice (some ⟨ea, oa, none⟩) c.evs.length ca] 85)).alloc (.cells #[.int .i64 c.kind, .int .i64 c.phase, .int .i64 c.rate, .int .i64 c.drift, .int .i64 c.white, .int .i64 c.walk, .int .i64 c.heat, .int .i64 c.room, .slice (some ⟨eb, ob, none⟩) c.evs.length cb] 61)).drew := below_drewN (below_alloc' (below_alloc' HB.out _) _) 1
              have hbq : Below wq.heap.size wq ((wq.alloc (.cells #[.int .i64 c.kind, .int .i64 c.phase, .int .i64 c.rate, .int .i64 c.drift, .int .i64 c.white, .int .i64 c.walk, .int .i64 c.heat, .int .i64 c.room, .slice (some ⟨ea, oa, none⟩) c.evs.length ca] 85)).alloc (.cells #[.int .i64 c.kind, .int .i64 c.phase, .int .i64 c.rate, .int .i64 c.drift, .int .i64 c.white, .int .i64 c.walk, .int .i64 c.heat, .int .i64 c.room, .slice (some ⟨eb, ob, none⟩) c.evs.length cb] 61)).drew := below_drewN (below_alloc' (below_alloc' (Below.refl _ _) _) _) 1
              have t8 : ((wq.alloc (.cells #[.int .i64 c.kind, .int .i64 c.phase, .int .i64 c.rate, .int .i64 c.drift, .int .i64 c.white, .int .i64 c.walk, .int .i64 c.heat, .int .i64 c.room, .slice (some ⟨ea, oa, none⟩) c.evs.length ca] 85)).alloc (.cells #[.int .i64 c.kind, .int .i64 c.phase, .int .i64 c.rate, .int .i64 c.drift, .int .i64 c.white, .int .i64 c.walk, .int .i64 c.heat, .int .i64 c.room, .slice (some ⟨eb, ob, none⟩) c.evs.length cb] 61)).drew.cell? ⟨wq.heap.size, 8, none⟩ = some (.slice (some ⟨ea, oa, none⟩) c.evs.length ca) := by simp
              have w8 : ((wq.alloc (.cells #[.int .i64 c.kind, .int .i64 c.phase, .int .i64 c.rate, .int .i64 c.drift, .int .i64 c.white, .int .i64 c.walk, .int .i64 c.heat, .int .i64 c.room, .slice (some ⟨ea, oa, none⟩) c.evs.length ca] 85)).alloc (.cells #[.int .i64 c.kind, .int .i64 c.phase, .int .i64 c.rate, .int .i64 c.drift, .int .i64 c.white, .int .i64 c.walk, .int .i64 c.heat, .int .i64 c.room, .slice (some ⟨eb, ob, none⟩) c.evs.length cb] 61)).drew.cell? ⟨wq.heap.size + 1, 8, none⟩ = some (.slice (some ⟨eb, ob, none⟩) c.evs.length cb) := by simp
              have HB3 := Lib.hid hb3
              have HBQ := Lib.hid hbq
              have T8 := Lib.hid t8
              have W8 := Lib.hid w8
              clear hb3 hbq t8 w8 r0 r1 r2 r3 r4 r5 r6 r7 r8 s0 s1 s2 s3 s4 s5 s6 s7 s8 z1 z2
              generalize ((wq.alloc (.cells #[.int .i64 c.kind, .int .i64 c.phase, .int .i64 c.rate, .int .i64 c.drift, .int .i64 c.white, .int .i64 c.walk, .int .i64 c.heat, .int .i64 c.room, .slice (some ⟨ea, oa, none⟩) c.evs.length ca] 85)).alloc (.cells #[.int .i64 c.kind, .int .i64 c.phase, .int .i64 c.rate, .int .i64 c.drift, .int .i64 c.white, .int .i64 c.walk, .int .i64 c.heat, .int .i64 c.room, .slice (some ⟨eb, ob, none⟩) c.evs.length cb] 61)).drew = W3 at *
              go_loopw [9] (fun i wr => ∃ j : Nat, j ≤ c.evs.length ∧ i = .int .i64 j ∧ Hid (Below W3.heap.size W3 wr)) (fun i _ => c.evs.length - (intOf i).toNat)
              case atStart => exact ⟨0, Nat.zero_le _, rfl, Lib.hid (Below.refl _ _)⟩
              case round =>
                obtain ⟨wz, rfl⟩ : ∃ wz : World, wz = wr := ⟨_, rfl⟩
                obtain ⟨j, hj, rfl, HD⟩ := hrel
                have t8 := cell_below HD.out T8.out
                have w8 := cell_below HD.out W8.out
                have hzt := cell_lt t8
                have hzw := cell_lt w8
                by_cases hjl : j < c.evs.length
                · have HBZ := Lib.hid (HBQ.out.trans (HD.out.mono HBQ.out.size))
                  obtain ⟨e0, e1, e2⟩ := (HEA.out j hjl).below HBZ.out
                  obtain ⟨f0, f1, f2⟩ := (HEB.out j hjl).below HBZ.out
                  have hze := cell_lt e0
                  have hzf := cell_lt f0
                  have hjn : (j : Int) < (c.evs.length : Int) := by omega
                  generalize c.evs[j] = ev at *
                  go_wp2
                  go_quiet (fail)
                  go_wp2
                  go_roundw
                  case rel => exact ⟨j + 1, by omega, by go_num, Lib.hid (below_drewN HD.out _)⟩
                  case measure => simp [intOf]; omega
                · have hjn : ¬ (j : Int) < (c.evs.length : Int) := by omega
                  go_wp2
                  go_roundw
                  case rel => exact ⟨k + 1, by omega, by go_num, Lib.hid (HB3.out.trans (HD.out.mono HB3.out.size))⟩
                  case measure => simp [intOf]; omega
            · as_aux_lemma =>
              go_wp2
              have hb3 : Below W1.heap.size W1 ((wq.alloc (.cells #[.int .i64 c.kind, .int .i64 c.phase, .int .i64 c.rate, .int .i64 c.drift, .int .i64 c.white, .int .i64 c.walk, .int .i64 c.heat, .int .i64 c.room, .slice (some ⟨eb, ob, none⟩) c.evs.length cb] 61)).alloc (.cells #[.int .i64 c.kind, .int .i64 c.phase, .int .i64 c.rate, .int .i64 c.drift, .int .i64 c.white, .int .i64 c.walk, .int .i64 c.heat, .int .i64 c.room, .slice (some ⟨ea, oa, none⟩) c.evs.length ca] 85)).drew := below_drewN (below_alloc' (below_alloc' HB.out _) _) 1
              have hbq : Below wq.heap.size wq ((wq.alloc (.cells #[.int .i64 c.kind, .int .i64 c.phase, .int .i64 c.rate, .int .i64 c.drift, .int .i64 c.white, .int .i64 c.walk, .int .i64 c.heat, .int .i64 c.room, .slice (some ⟨eb, ob, none⟩) c.evs.length cb] 61)).alloc (.cells #[.int .i64 c.kind, .int .i64 c.phase, .int .i64 c.rate, .int .i64 c.drift, .int .i64 c.white, .int .i64 c.walk, .int .i64 c.heat, .int .i64 c.room, .slice (some ⟨ea, oa, none⟩) c.evs.length ca] 85)).drew := below_drewN (below_alloc' (below_alloc' (Below.refl _ _) _) _) 1
              have t8 : ((wq.alloc (.cells #[.int .i64 c.kind, .int .i64 c.phase, .int .i64 c.rate, .int .i64 c.drift, .int .i64 c.white, .int .i64 c.walk, .int .i64 c.heat, .int .i64 c.room, .slice (some ⟨eb, ob, none⟩) c.evs.length cb] 61)).alloc (.cells #[.int .i64 c.kind, .int .i64 c.phase, .int .i64 c.rate, .int .i64 c.drift, .int .i64 c.white, .int .i64 c.walk, .int .i64 c.heat, .int .i64 c.room, .slice (some ⟨ea, oa, none⟩) c.evs.length ca] 85)).drew.cell? ⟨wq.heap.size + 1, 8, none⟩ = some (.slice (some ⟨ea, oa, none⟩) c.evs.length ca) := by simp
              have w8 : ((wq.alloc (.cells #[.int .i64 c.kind, .int .i64 c.phase, .int .i64 c.rate, .int .i64 c.drift, .int .i64 c.white, .int .i64 c.walk, .int .i64 c.heat, .int .i64 c.room, .slice (some ⟨eb, ob, none⟩) c.evs.length cb] 61)).alloc (.cells #[.int .i64 c.kind, .int .i64 c.phase, .int .i64 c.rate, .int .i64 c.drift, .int .i64 c.white, .int .i64 c.walk, .int .i64 c.heat, .int .i64 c.room, .slice (some ⟨ea, oa, none⟩) c.evs.length ca] 85)).drew.cell? ⟨wq.heap.size, 8, none⟩ = some (.slice (some ⟨eb, ob, none⟩) c.evs.length cb) := by simp
              have HB3 := Lib.hid hb3
              have HBQ := Lib.hid hbq
              have T8 := Lib.hid t8
              have W8 := Lib.hid w8
              clear hb3 hbq t8 w8 r0 r1 r2 r3 r4 r5 r6 r7 r8 s0 s1 s2 s3 s4 s5 s6 s7 s8 z1 z2
              generalize ((wq.alloc (.cells #[.int .i64 c.kind, .int .i64 c.phase, .int .i64 c.rate, .int .i64 c.drift, .int .i64 c.white, .int .i64 c.walk, .int .i64 c.heat, .int .i64 c.room, .slice (some ⟨eb, ob, none⟩) c.evs.length cb] 61)).alloc (.cells #[.int .i64 c.kind, .int .i64 c.phase, .int .i64 c.rate, .int .i64 c.drift, .int .i64 c.white, .int .i64 c.walk, .int .i64 c.heat, .int .i64 c.room, .slice (some ⟨ea, oa, none⟩) c.evs.length ca] 85)).drew = W3 at *
              go_loopw [9] (fun i wr => ∃ j : Nat, j ≤ c.evs.length ∧ i = .int .i64 j ∧ Hid (Below W3.heap.size W3 wr)) (fun i _ => c.evs.length - (intOf i).toNat)
              case atStart => exact ⟨0, Nat.zero_le _, rfl, Lib.hid (Below.refl _ _)⟩
              case round =>
                obtain ⟨wz, rfl⟩ : ∃ wz : World, wz = wr := ⟨_, rfl⟩
                obtain ⟨j, hj, rfl, HD⟩ := hrel
                have t8 := cell_below HD.out T8.out
                have w8 := cell_below HD.out W8.out
                have hzt := cell_lt t8
                have hzw := cell_lt w8
                by_cases hjl : j < c.evs.length
                · have HBZ := Lib.hid (HBQ.out.trans (HD.out.mono HBQ.out.size))
                  obtain ⟨e0, e1, e2⟩ := (HEA.out j hjl).below HBZ.out
                  obtain ⟨f0, f1, f2⟩ := (HEB.out j hjl).below HBZ.out
                  have hze := cell_lt e0
                  have hzf := cell_lt f0
                  have hjn : (j : Int) < (c.evs.length : Int) := by omega
                  generalize c.evs[j] = ev at *
                  go_wp2
                  go_quiet (fail)
                  go_wp2
                  go_roundw
                  case rel => exact ⟨j + 1, by omega, by go_num, Lib.hid (below_drewN HD.out _)⟩
                  case measure => simp [intOf]; omega
                · have hjn : ¬ (j : Int) < (c.evs.length : Int) := by omega
                  go_wp2
                  go_roundw
                  case rel => exact ⟨k + 1, by omega, by go_num, Lib.hid (HB3.out.trans (HD.out.mono HB3.out.size))⟩
                  case measure => simp [intOf]; omega
        · have hkl : ¬ (k : Int) < (W.cls.length : Int) := by omega
          go_wp2
          go_ret
          exact ⟨rfl, HBW.out⟩
end Go.Proofs.YtlelamjbfjneiaaGreatDoor.Wd
