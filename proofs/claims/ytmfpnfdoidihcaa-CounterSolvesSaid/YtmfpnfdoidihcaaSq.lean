/- The law CounterSolves: where there is a matrix. -/
import Derived.Test.YtmfpnfdoidihcaaSo
namespace Go.Proofs.Ytmfpnfdoidihcaa.Ct
open Go Go.RowKit Go.Shelf
attribute [local go_sem] Oper.semAt_some
/-- what the law looks at -/
structure SolAt (w X : World) (n g : Nat) (bs : Nat → Nat) (M : List (List Int)) (l : List Bnd) (p : Option Addr) : Prop where
  m : MatAt w X n g bs M
  s : BndsIn X l p
theorem SolAt.below {w X Y : World} {n g : Nat} {bs : Nat → Nat} {M : List (List Int)} {l : List Bnd} {p : Option Addr} (h : SolAt w X n g bs M l p) (hb : Below X.heap.size X Y) : SolAt w Y n g bs M l p := ⟨h.m.below hb, h.s.below hb⟩
set_option maxRecDepth 100000 in
set_option maxHeartbeats 8000000 in
theorem solves_yes (n : Nat) (l : List Bnd) (p : Option Addr) (cap : Nat) (w : World) (hl : l.length ≤ 40) (hs : BndsIn w l p) (he : netErr n l = 0) (h0 : (narrowS n l).2 = true) :
    Calls Try.prog 4 #[.int .i64 n, .slice p l.length cap] w fun e w' => e = .returned (.bool true) ∧ Below w.heap.size w w' := by
  obtain ⟨hn, hls⟩ := lims_of he
  have HS := Lib.hid hs
  have HBO := Lib.hid (bounds_any l p cap w hl hs)
  have HN := Lib.hid (fun p c W (hb : BndsIn W l p) => narrow_ok n l p c W hb he (calm_all hn.2 hls) h0)
  have HC := Lib.hid (fun p c W (hb : BndsIn W l p) => contradict_any n l p c W hb he)
  have HCO := Lib.hid (fun u (h : ConOf n l u) => (con_iff hn hls h).2 h0)
  have HNR := Lib.hid (narr_of hn.2 hls h0)
  have HOK := Lib.hid hls.ok
  generalize (narrowS n l).1 = M at *
  have HN16 := Lib.hid hn
  have HL40 := Lib.hid hl
  have h40 : ¬ 40 < (l.length : Int) := by omega
  have h1 : ¬ (n : Int) < 1 := by omega
  have h16 : ¬ 16 < (n : Int) := by omega
  clear hs he hl hn hls h0
  go_enter Try.func4, Try.ntmps4
  go_upto_region 5 with (first
    | (go_at_call 6; refine HBO.out.mono ?_; rintro e w1 ⟨⟨p', cap', rfl, hs'⟩, hb1⟩; have HB1 := Lib.hid hb1; have HS1 := Lib.hid hs'; clear hb1 hs')
    | (go_at_call 7; refine (HN.out _ _ _ HS1.out).mono ?_; rintro e w2 ⟨g, bs, rfl, hm⟩; have HM2 := Lib.hid hm; have HB2 := Lib.hid (bt HB1.out hm.bel); have HS2 := Lib.hid (HS1.out.below hm.bel); clear hm))
  go_upto_region 6 with (go_at_call 13; refine (HC.out _ _ _ HS2.out).mono ?_; rintro e w3 ⟨⟨u, q, cq, rfl, hu, hcon, hcap⟩, hb3⟩; have HB3 := Lib.hid (bt HB2.out hb3); have HS3 : Hid (SolAt w1 w3 n g bs M l p) := Lib.hid ⟨HM2.out.below hb3, (HS.out.below HB2.out).below hb3⟩; obtain rfl := HCO.out u hcon; rw [if_pos (show ([] : List (Int × Bool)).length = 0 from rfl)]; clear hb3 hu hcon hcap)
  have hnn : ((n : Int) != (n : Int)) = false := by simp
  clear HBO HN HC HCO HS1 HS2 HM2 HB1 HB2 HS
  go_upto_region 22 with fail
  generalize w3 = W3 at *
  go_wp2_with fail
  go_loopw [4, 12] (fun s4 s12 wx => ∃ (k : Nat), k ≤ n ∧ s4 = .bool false ∧ s12 = .int .i64 (k : Int) ∧ Hid (Below w.heap.size w wx) ∧ Hid (SolAt w1 wx n g bs M l p)) (fun _ s12 _ => n - (intOf s12).toNat)
  case atStart => exact ⟨0, Nat.zero_le _, rfl, rfl, HB3, HS3⟩
  case round =>
    obtain ⟨k, hk, rfl, rfl, HB, HS⟩ := hrel
    by_cases hlt : k < n
    · have hki : (k : Int) < n := by omega
      have HK := Lib.hid hlt
      have x0 := HS.out.m.rows k hlt
      have zx := cell_lt x0
      have w1' : IntKind.i64.wrap ((k : Int) + 1) = (k : Int) + 1 := IntWalk.i64_in _ (by have := HN16.out; omega)
      clear hlt
      go_wp2_with fail
      go_roundw
      case rel => exact ⟨k + 1, HK.out, rfl, by simp, HB, HS⟩
      case measure => have := HK.out; simp [intOf]; omega
    · obtain rfl : k = n := by omega
      have hki : ¬ (k : Int) < k := by omega
      clear hlt hk
      go_wp2_with fail
      go_loopw [4, 13, 14, 15, 16, 17, 18] (fun s4 s13 s14 s15 s16 s17 s18 wx => ∃ (a : Nat) (v14 v15 v16 v17 v18 : Value), a ≤ k ∧ s4 = .bool false ∧ s13 = .int .i64 (a : Int) ∧ s14 = v14 ∧ s15 = v15 ∧ s16 = v16 ∧ s17 = v17 ∧ s18 = v18 ∧ Hid (Below w.heap.size w wx) ∧ Hid (SolAt w1 wx k g bs M l p)) (fun _ s13 _ _ _ _ _ _ => k - (intOf s13).toNat)
      case atStart => exact ⟨0, _, _, _, _, _, Nat.zero_le _, rfl, rfl, rfl, rfl, rfl, rfl, rfl, HB, HS⟩
      case round =>
        obtain ⟨a, v14, v15, v16, v17, v18, ha, rfl, rfl, rfl, rfl, rfl, rfl, rfl, HBa, HSa⟩ := hrel
        by_cases hlt : a < k
        · have hki : (a : Int) < k := by omega
          have HA := Lib.hid hlt
          clear hlt ha HB HS
          go_wp2_with fail
          generalize wr = wa at *
          go_loopw [4, 14, 15] (fun s4 s14 s15 wx => ∃ (b : Nat) (v15 : Value), b ≤ k ∧ s4 = .bool false ∧ s14 = .int .i64 (b : Int) ∧ s15 = v15 ∧ Hid (Below w.heap.size w wx) ∧ Hid (SolAt w1 wx k g bs M l p)) (fun _ s14 _ _ => k - (intOf s14).toNat)
          case atStart => exact ⟨0, _, Nat.zero_le _, rfl, rfl, rfl, HBa, HSa⟩
          case round =>
            obtain ⟨b, v15b, hb, rfl, rfl, rfl, HBb, HSb⟩ := hrel
            by_cases hlt : b < k
            · have hbi : (b : Int) < k := by omega
              have HBK := Lib.hid hlt
              clear hlt hb HBa HSa
              go_wp2_with fail
              generalize wr = wb at *
              go_loopw [4, 15] (fun s4 s15 wx => ∃ (m : Nat), m ≤ k ∧ s4 = .bool false ∧ s15 = .int .i64 (m : Int) ∧ Hid (Below w.heap.size w wx) ∧ Hid (SolAt w1 wx k g bs M l p)) (fun _ s15 _ => k - (intOf s15).toNat)
              case atStart => exact ⟨0, Nat.zero_le _, rfl, rfl, HBb, HSb⟩
              case round =>
                obtain ⟨m, hm, rfl, rfl, HBm, HSm⟩ := hrel
                by_cases hlt : m < k
                · have hmi : (m : Int) < k := by omega
                  have HMK := Lib.hid hlt
                  have ra := HSm.out.m.rows a HA.out
                  have rm := HSm.out.m.rows m hlt
                  have za := cell_lt ra
                  have x1 := (HSm.out.m.at_ a m HA.out hlt).1
                  have x2 := (HSm.out.m.at_ m b hlt HBK.out).1
                  have x3 := (HSm.out.m.at_ a b HA.out HBK.out).1
                  have z1 := cell_lt x1
                  have z2 := cell_lt x2
                  have o1 := HNR.out.op a m HA.out hlt
                  have o2 := HNR.out.op m b hlt HBK.out
                  have l1 := HNR.out.lo a m HA.out hlt
                  have l2 := HNR.out.lo m b hlt HBK.out
                  have ht := HNR.out.tri a m b HA.out hlt HBK.out
                  have hop : openI = 100000000000000000 := rfl
                  rw [hop] at o1 o2 ht
                  generalize getM M a m = y1 at *
                  generalize getM M m b = y2 at *
                  generalize getM M a b = y3 at *
                  have w1' : IntKind.i64.wrap ((m : Int) + 1) = (m : Int) + 1 := IntWalk.i64_in _ (by have := HN16.out; omega)
                  have w2' : IntKind.i64.wrap (y1 + y2) = y1 + y2 := IntWalk.i64_in _ (by omega)
                  by_cases d1 : y1 < 100000000000000000
                  · have e1 : decide (y1 < 100000000000000000) = true := by simpa using d1
                    by_cases d2 : y2 < 100000000000000000
                    · have e2 : decide (y2 < 100000000000000000) = true := by simpa using d2
                      have d3 : ¬ y1 + y2 < y3 := by have := ht d1 d2; omega
                      have e3 : decide (y1 + y2 < y3) = false := by simpa using d3
                      clear ht o1 o2 l1 l2 hop hlt hm
                      go_upto_region 36 with fail
                      go_quiet (fail)
                      go_wp2_with fail
                      go_roundw
                      case rel => exact ⟨m + 1, HMK.out, rfl, by simp, Lib.hid (bt HBm.out (below_drewN (Below.refl _ _) _)), Lib.hid (HSm.out.below (below_drewN (Below.refl _ _) _))⟩
                      case measure => have := HMK.out; simp [intOf]; omega
                    · have e2 : decide (y2 < 100000000000000000) = false := by simpa using d2
                      clear ht o1 o2 l1 l2 hop hlt hm
                      go_upto_region 36 with fail
                      go_quiet (fail)
                      go_wp2_with fail
                      go_roundw
                      case rel => exact ⟨m + 1, HMK.out, rfl, by simp, Lib.hid (bt HBm.out (below_drewN (Below.refl _ _) _)), Lib.hid (HSm.out.below (below_drewN (Below.refl _ _) _))⟩
                      case measure => have := HMK.out; simp [intOf]; omega
                  · have e1 : decide (y1 < 100000000000000000) = false := by simpa using d1
                    clear ht o1 o2 l1 l2 hop hlt hm
                    go_upto_region 36 with fail
                    go_quiet (fail)
                    go_wp2_with fail
                    go_roundw
                    case rel => exact ⟨m + 1, HMK.out, rfl, by simp, Lib.hid (bt HBm.out (below_drewN (Below.refl _ _) _)), Lib.hid (HSm.out.below (below_drewN (Below.refl _ _) _))⟩
                    case measure => have := HMK.out; simp [intOf]; omega
                · obtain rfl : m = k := by omega
                  have hmi : ¬ (m : Int) < m := by omega
                  have w1' : IntKind.i64.wrap ((b : Int) + 1) = (b : Int) + 1 := IntWalk.i64_in _ (by have := HN16.out; have := HBK.out; omega)
                  clear hlt hm
                  go_wp2_with fail
                  go_roundw
                  case rel => exact ⟨b + 1, _, HBK.out, rfl, by simp, rfl, HBm, HSm⟩
                  case measure => have := HBK.out; simp [intOf]; omega
            · obtain rfl : b = k := by omega
              have hbi : ¬ (b : Int) < b := by omega
              clear hlt hb
              go_wp2_with fail
              generalize wr = wc at *
              go_loopw [4, 16, 17, 18] (fun s4 s16 s17 s18 wx => ∃ (i : Nat) (v17 v18 : Value), i ≤ l.length ∧ s4 = .bool false ∧ s16 = .int .i64 (i : Int) ∧ s17 = v17 ∧ s18 = v18 ∧ Hid (Below w.heap.size w wx) ∧ Hid (SolAt w1 wx b g bs M l p)) (fun _ s16 _ _ _ => l.length - (intOf s16).toNat)
              case atStart => exact ⟨0, _, _, Nat.zero_le _, rfl, rfl, rfl, rfl, HBb, HSb⟩
              case round =>
                obtain ⟨i, v17b, v18b, hi, rfl, rfl, rfl, rfl, HBi, HSi⟩ := hrel
                by_cases hlt : i < l.length
                · have hii : (i : Int) < l.length := by omega
                  have HI := Lib.hid hlt
                  obtain ⟨gb, go, rfl, hcell⟩ := HSi.out.s.resolve_left (by omega)
                  obtain ⟨⟨c0, c1⟩, c2, c3⟩ := hcell i hlt
                  have zc := cell_lt c0
                  have hok := HOK.out i hlt
                  obtain ⟨pa, hpa⟩ : ∃ pa : Nat, (bndAt l i).a = (pa : Int) := ⟨_, (Int.toNat_of_nonneg hok.a.1).symm⟩
                  obtain ⟨pb, hpb⟩ : ∃ pb : Nat, (bndAt l i).b = (pb : Int) := ⟨_, (Int.toNat_of_nonneg hok.b.1).symm⟩
                  have hpa1 := hok.a.2
                  have hpb1 := hok.b.2
                  obtain ⟨hsol1, hsol2⟩ := HNR.out.sol i a hlt HA.out
                  have hlo := hok.lo
                  have hhi := hok.hi
                  rw [hpa] at hpa1 c0 hsol1 hsol2
                  rw [hpb] at hpb1 c1 hsol1 hsol2
                  rw [Int.toNat_natCast, Int.toNat_natCast] at hsol1 hsol2
                  have hpa2 : pa < b := by omega
                  have hpb2 : pb < b := by omega
                  have hpai : (pa : Int) < b := by omega
                  have hpbi : (pb : Int) < b := by omega
                  have rp := HSi.out.m.rows pa hpa2
                  have rq := HSi.out.m.rows pb hpb2
                  have zr := cell_lt rp
                  have x1 := (HSi.out.m.at_ pa a hpa2 HA.out).1
                  have x2 := (HSi.out.m.at_ pb a hpb2 HA.out).1
                  have z1 := cell_lt x1
                  have z2 := cell_lt x2
                  have o1 := HNR.out.op pa a hpa2 HA.out
                  have o2 := HNR.out.op pb a hpb2 HA.out
                  have l1 := HNR.out.lo pa a hpa2 HA.out
                  have l2 := HNR.out.lo pb a hpb2 HA.out
                  have hop : openI = 100000000000000000 := rfl
                  rw [hop] at o1 o2 hsol1 hsol2
                  generalize getM M pa a = y1 at *
                  generalize getM M pb a = y2 at *
                  generalize (bndAt l i).lo = lo at *
                  generalize (bndAt l i).hi = hi' at *
                  have w1' : IntKind.i64.wrap ((i : Int) + 1) = (i : Int) + 1 := IntWalk.i64_in _ (by have := HL40.out; omega)
                  have w2' : IntKind.i64.wrap (y1 - y2) = y1 - y2 := IntWalk.i64_in _ (by omega)
                  clear hcell hok hpa hpb
                  by_cases d1 : y1 < 100000000000000000
                  · have d2 := hsol1.1 d1
                    obtain ⟨q1, q2⟩ := hsol2 d1
                    have d3 : ¬ y1 - y2 < lo := by omega
                    have d4 : ¬ hi' < y1 - y2 := by omega
                    have d5 : ¬ y1 = 100000000000000000 := by omega
                    have d6 : ¬ y2 = 100000000000000000 := by omega
                    have d7 : (y1 == 100000000000000000) = false := by simpa using d5
                    have d8 : (y2 == 100000000000000000) = false := by simpa using d6
                    clear hsol1 hsol2 q1 q2 o1 o2 l1 l2 hop hlt hi hpa1 hpb1 hpa2 hpb2 hlo hhi
                    go_upto_region 41 with fail
                    go_quiet (fail)
                    go_wp2_with fail
                    go_roundw
                    case rel => exact ⟨i + 1, _, _, HI.out, rfl, by simp, rfl, rfl, Lib.hid (bt HBi.out (below_drewN (Below.refl _ _) _)), Lib.hid (HSi.out.below (below_drewN (Below.refl _ _) _))⟩
                    case measure => have := HI.out; simp [intOf]; omega
                  · have d2 : ¬ y2 < 100000000000000000 := fun h => d1 (hsol1.2 h)
                    obtain rfl : y1 = 100000000000000000 := by omega
                    obtain rfl : y2 = 100000000000000000 := by omega
                    clear hsol1 hsol2 o1 o2 l1 l2 hop hlt hi hpa1 hpb1 hpa2 hpb2 hlo hhi d1 d2
                    go_upto_region 41 with fail
                    go_quiet (fail)
                    go_wp2_with fail
                    go_roundw
                    case rel => exact ⟨i + 1, _, _, HI.out, rfl, by simp, rfl, rfl, Lib.hid (bt HBi.out (below_drewN (Below.refl _ _) _)), Lib.hid (HSi.out.below (below_drewN (Below.refl _ _) _))⟩
                    case measure => have := HI.out; simp [intOf]; omega
                · obtain rfl : i = l.length := by omega
                  have hii : ¬ ((l.length : Int) < l.length) := by omega
                  have ra := HSi.out.m.rows a HA.out
                  have za := cell_lt ra
                  have x1 := (HSi.out.m.at_ a a HA.out HA.out).1
                  have z1 := cell_lt x1
                  rw [HNR.out.diag a HA.out] at x1
                  have w1' : IntKind.i64.wrap ((a : Int) + 1) = (a : Int) + 1 := IntWalk.i64_in _ (by have := HN16.out; have := HA.out; omega)
                  clear hlt hi
                  go_wp2_with fail
                  go_roundw
                  case rel => exact ⟨a + 1, _, _, _, _, _, HA.out, rfl, by simp, rfl, rfl, rfl, rfl, rfl, HBi, HSi⟩
                  case measure => have := HA.out; simp [intOf]; omega
        · obtain rfl : a = k := by omega
          have hki : ¬ (a : Int) < a := by omega
          go_wp2_with (go_at_call 5; refine (awake2_any _).mono ?_; rintro e w4 ⟨rfl, hb4⟩; have HB4 := Lib.hid (bt HBa.out hb4); clear hb4)
          go_ret
          exact ⟨rfl, HB4.out⟩
theorem solves_law (n : Int) (l : List Bnd) (p : Option Addr) (cap : Nat) (w : World) (hs : BndsIn w l p) :
    Calls Try.prog 4 #[.int .i64 n, .slice p l.length cap] w fun e w' => e = .returned (.bool true) ∧ Below w.heap.size w w' := by
  by_cases h : l.length ≤ 40 ∧ 1 ≤ n ∧ n ≤ 16
  · obtain ⟨N, rfl⟩ : ∃ N : Nat, n = (N : Int) := ⟨n.toNat, by omega⟩
    by_cases he : netErr N l = 0
    · by_cases h0 : (narrowS N l).2 = true
      · exact solves_yes N l p cap w h.1 hs he h0
      · exact solves_no N l p cap w h.1 hs he (by simpa using h0)
    · exact solves_err N l p cap w h.1 h.2 hs he
  · exact solves_far n l p cap w h
end Go.Proofs.Ytmfpnfdoidihcaa.Ct
