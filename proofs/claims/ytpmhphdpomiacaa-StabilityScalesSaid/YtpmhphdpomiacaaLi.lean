/- The walk over the law StabilityLines. -/
import Derived.Test.YtpmhphdpomiacaaSc
import Derived.Test.YtpmhphdpomiacaaPc
import Derived.Test.YtpmhphdpomiacaaEq
import Derived.Deep.CutRange
namespace Go.Proofs.Ytpmhphdpomiacaa
open Go Go.RowKit Go.Shelf
theorem stepErr_ok {tau m : Int} {l : List Int} (ht : 1 ≤ tau ∧ tau ≤ 1000) (hl : l.length ≤ 128) (hp : phasesOk l = true) (hm : 1 ≤ m ∧ m ≤ 32) : stepErr tau l m = 0 := by
  have hc : checkSt tau l = 0 := by
    unfold checkSt
    rw [if_neg (by omega), if_pos ⟨ht, hp⟩]
  unfold stepErr
  rw [if_pos hc, if_pos hm]
theorem over_err {tau m : Int} {l : List Int} (h : stepErr tau l m = 0) : (overlappingE tau l m).e = if (l.length : Int) ≤ 2 * m then 4 else 0 := by
  have hm := (stepErr_zero h).2.2.2
  rw [overlappingE_eq]
  unfold errF varF
  rw [if_pos h]
  by_cases hl : (l.length : Int) ≤ 2 * m
  · rw [if_pos hl, if_pos (by omega)]
  · rw [if_neg hl, if_neg (by omega)]
/-- what the law asks of the three answers -/
theorem lines_plain {tau m a b c : Int} {L : List Int} (hst : stepErr tau L m = 0) (h1 : stepErr tau (addL L a b L.length) m = 0) (h2 : stepErr tau (curL L a b c L.length) m = 0) :
    allE tau (addL L a b L.length) m = allE tau L m ∧ (allE tau (curL L a b c L.length) m).d = (allE tau L m).d ∧ (allE tau L m).b.e = if (L.length : Int) ≤ 2 * m then 4 else 0 := by
  have hA : Added L (addL L a b L.length) a b := ⟨addL_len _ _ _ _, fun i hi => by simp [atL, addL, hi]⟩
  have hC : Curved L (curL L a b c L.length) a b c := ⟨curL_len _ _ _ _ _, fun i hi => by simp [atL, curL, hi]⟩
  refine ⟨?_, ?_, over_err hst⟩
  · unfold allE
    rw [line_allan hA (hst.trans h1.symm), line_overlapping hA (hst.trans h1.symm), line_modified hA (hst.trans h1.symm), line_hadamard hA.curved (hst.trans h1.symm)]
  · exact (line_hadamard hC (hst.trans h2.symm)).symm
theorem all_at (tau : Int) (l : List Int) (n : Nat) (hn : l.length = n) (p : Option Addr) (cap : Nat) (m : Int) (w : World) (hs : SerIn w l p) (V : FourV) (hV : allE tau l m = V) :
    Calls Try.prog 20 #[.agg #[.int .i64 tau, .slice p n cap], .int .i64 m] w fun e w' => e = .returned (fourVal V) ∧ Below w.heap.size w w' := by
  subst hn hV
  exact all_any tau l p cap m w hs
attribute [local go_sem] eql_ratios eql_errs
set_option maxRecDepth 100000 in
set_option maxHeartbeats 4000000 in
theorem lines_any (l : List Int) (p : Option Addr) (cap : Nat) (tau m a b c : Int) (w : World) (ha : I16In w l p cap) (hT : 0 ≤ tau ∧ tau ≤ 255) (hM : 0 ≤ m ∧ m ≤ 255) (hA : -32768 ≤ a ∧ a ≤ 32767) (hB : -32768 ≤ b ∧ b ≤ 32767) (hC : -128 ≤ c ∧ c ≤ 127) :
    Calls Try.prog 7 #[.slice p l.length cap, .int .u8 tau, .int .u8 m, .int .i16 a, .int .i16 b, .int .i8 c] w fun e w' => e = .returned (.bool true) ∧ Below w.heap.size w w' := by
  obtain ⟨i0, hi0, hz0, hz1, hz2⟩ := info_parts infoInt
  have HPC := Lib.hid (phased_any l p cap tau w ha hT)
  obtain ⟨L, hL⟩ : ∃ L, L = l.take (min l.length 100) := ⟨_, rfl⟩
  rw [← hL] at HPC
  have hLl : L.length ≤ 100 := by rw [hL]; simp; omega
  have HBX := Lib.hid (show ∀ i, -32768 ≤ atL L i ∧ atL L i ≤ 32767 by rw [hL]; exact (ha.take _ (Nat.min_le_left _ _)).bd)
  have hm1 := tmod_lt m 32 (by decide)
  have hm0 : m.tmod 32 = m % 32 := Int.tmod_eq_emod_of_nonneg hM.1
  have hMM : 0 ≤ m % 32 ∧ m % 32 ≤ 31 := by omega
  have w2' : IntKind.i64.wrap (m % 32) = m % 32 := IntWalk.i64_in _ (by omega)
  have w3' : IntKind.i64.wrap (1 + m % 32) = 1 + m % 32 := IntWalk.i64_in _ (by omega)
  have hb1 := tmod_lt b 5000 (by decide)
  have hc1 := tmod_lt c 30 (by decide)
  have hBB : -4999 ≤ b.tmod 5000 ∧ b.tmod 5000 ≤ 4999 := by simp at hb1; omega
  have hCC : -29 ≤ c.tmod 30 ∧ c.tmod 30 ≤ 29 := by simp at hc1; omega
  have wa : IntKind.i64.wrap a = a := IntWalk.i64_in _ (by omega)
  have wb : IntKind.i64.wrap b = b := IntWalk.i64_in _ (by omega)
  have wc : IntKind.i64.wrap c = c := IntWalk.i64_in _ (by omega)
  have wB : IntKind.i64.wrap (b.tmod 5000) = b.tmod 5000 := IntWalk.i64_in _ (by omega)
  have wC : IntKind.i64.wrap (c.tmod 30) = c.tmod 30 := IntWalk.i64_in _ (by omega)
  have HOK := Lib.hid (fun k hk => addOk HBX.out hA hBB hCC k hk)
  have w1 : IntKind.i64.wrap m = m := IntWalk.i64_in _ (by omega)
  clear ha hL hm1 hm0 hb1 hc1
  go_enter Try.func7, Try.ntmps7
  go_wp2_with fail
  refine HPC.out.mono ?_
  rintro e y1 ⟨q, qc, rfl, hs, hb⟩
  have hbx : Below y1.heap.size y1 (y1.alloc (.cells #[.int .i64 (1 + tau), .slice q L.length qc] 24)) := below_alloc (Below.refl _ _) _
  have B1 := Lib.hid (hb.trans (hbx.mono hb.size))
  have HS1 := Lib.hid (hs.below hbx)
  have HR1 : Hid (SAt (y1.alloc (.cells #[.int .i64 (1 + tau), .slice q L.length qc] 24)) y1.heap.size (1 + tau) (.slice q L.length qc)) := Lib.hid ⟨by simp, by simp⟩
  clear hb hs HPC hbx
  go_upto_region 3 with fail
  generalize y1.alloc (.cells #[.int .i64 (1 + tau), .slice q L.length qc] 24) = X1 at *
  obtain ⟨c0, c1⟩ := HR1.out
  have hz := cell_lt c0
  go_cut [15, 16] from 33 to 38 (fun s15 s16 wx => ∃ b1 b2, s15 = .pointer (some ⟨b1, 0, none⟩) ∧ s16 = .pointer (some ⟨b2, 0, none⟩) ∧ Hid (SBox2 X1 wx b1 b2 (1 + tau) (.slice none 0 0) (.slice none 0 0) [] []))
  case first =>
    go_region
    all_goals
      go_wp2_with fail
      go_meet
    · exact ⟨_, _, rfl, rfl, Lib.hid (SBox2.start X1 (1 + tau) 24).drew⟩
    · exact ⟨_, _, rfl, rfl, Lib.hid (SBox2.start X1 (1 + tau) 24).symm.drew⟩
  case rest =>
  obtain ⟨b1, b2, rfl, rfl, HT0⟩ := hcut
  clear c0 c1 hz
  have HLI : Hid (1 ≤ L.length → ∃ qb qo, q = some ⟨qb, qo, none⟩ ∧ IntsAt X1 L qb qo) := Lib.hid (fun h => by
    obtain ⟨qb, qo, e, hi⟩ := HS1.out.2.resolve_left (by omega)
    exact ⟨qb, qo, e, hi⟩)
  have HLen : Hid (SAt wc y1.heap.size (1 + tau) (.slice q L.length qc)) := Lib.hid (HR1.out.below HT0.out.s1.bel)
  obtain ⟨c0, c1⟩ := HLen.out
  have hz := cell_lt c0
  go_wp2
  clear c0 c1 hz HLen
  go_loopw [42] (fun i wr => ∃ (k : Nat) (v1 v2 : Value), k ≤ L.length ∧ i = .int .i64 (k : Int) ∧ Hid (SBox2 X1 wr b1 b2 (1 + tau) v1 v2 (addL L a (b.tmod 5000) k) (curL L a (b.tmod 5000) (c.tmod 30) k))) (fun i _ => L.length - (intOf i).toNat)
  case atStart => exact ⟨0, _, _, Nat.zero_le _, rfl, HT0⟩
  case round =>
    obtain ⟨k, v1, v2, hk, rfl, HT⟩ := hrel
    by_cases hlt : k < L.length
    · have hkl : (k : Int) < (L.length : Int) := by omega
      obtain ⟨qb, qo, rfl, hi⟩ := HLI.out (by omega)
      have x0 := cell_below HT.out.s1.bel (hi k hlt)
      rw [atL_get L k hlt] at x0
      obtain ⟨⟨o1, o2⟩, ⟨o3, o4⟩, ⟨o5, o6⟩, o7, o8⟩ := HOK.out k (by omega)
      have hx := HBX.out k
      have k1 : IntKind.i64.wrap (atL L k + a) = atL L k + a := IntWalk.i64_in _ (by omega)
      have k2 : IntKind.i64.wrap (b.tmod 5000 * (k : Int)) = b.tmod 5000 * k := IntWalk.i64_in _ (by omega)
      have k3 : IntKind.i64.wrap (atL L k + a + b.tmod 5000 * (k : Int)) = atL L k + a + b.tmod 5000 * k := IntWalk.i64_in _ (by omega)
      have k4 : IntKind.i64.wrap (c.tmod 30 * (k : Int)) = c.tmod 30 * k := IntWalk.i64_in _ (by omega)
      have k5 : IntKind.i64.wrap (c.tmod 30 * (k : Int) * k) = c.tmod 30 * k * k := IntWalk.i64_in _ (by omega)
      have k6 : IntKind.i64.wrap (atL L k + a + b.tmod 5000 * (k : Int) + c.tmod 30 * k * k) = atL L k + a + b.tmod 5000 * k + c.tmod 30 * k * k := IntWalk.i64_in _ (by omega)
      have hl1 := addL_len L a (b.tmod 5000) k
      have hl2 := curL_len L a (b.tmod 5000) (c.tmod 30) k
      have HA1 := Lib.hid (addL_succ L a (b.tmod 5000) k)
      have HA2 := Lib.hid (curL_succ L a (b.tmod 5000) (c.tmod 30) k)
      have d1 := HT.out.s1.c1
      have hz := cell_lt d1
      clear hi hx o1 o2 o3 o4 o5 o6 o7 o8
      go_upto_region 9 with (at_builtin; refine wpList_append_own_at _ rfl (.tmp 58) (.tmp 60) _ rfl X1.heap.size 3 i0 (.int .i64 0) 1 8 Try.underlying22 hi0 hz0 hz1 hz2 rfl (by decide) _ _ _ rfl (HT.out.s1.own.alloc _) ⟨_, 0, none⟩ 1 1 [.int .i64 (atL L k + a + b.tmod 5000 * (k : Int))] rfl rfl (cell_one_new _ _ _) (by simp [Value.oneCell']) (by rw [hl1]; unfold maxLen; omega) (by rw [hl1]; omega) (by have := HT.out.s1.bel.size; simp; omega) ?_; intro v' z1 hown hg _ hb; obtain ⟨gn, cn, rfl⟩ := ownsRow_succ hown; have HGR := Lib.hid (HT.out.s1.grow hown hg hb); obtain ⟨u, d2⟩ := HGR.out.c1; have d3 := HGR.out.f1; have hz' := cell_lt d2; have HT1 := Lib.hid (HT.out.step hown hg hb); clear hown hg hb d1)
      have HT2 := HT1
      rw [hl1] at HT2
      clear HT1 HGR d2 d3 hz' HT x0 hz
      generalize (z1.setCell ⟨b1, 1, none⟩ (.slice (some ⟨gn, 0, none⟩) (k + 1) cn)) = Y1 at *
      have HT3 := Lib.hid HT2.out.symm
      have d1 := HT3.out.s1.c1
      have hz := cell_lt d1
      clear HT2
      go_wp2_with (at_builtin; refine wpList_append_own_at _ rfl (.tmp 64) (.tmp 74) _ rfl X1.heap.size 3 i0 (.int .i64 0) 1 8 Try.underlying22 hi0 hz0 hz1 hz2 rfl (by decide) _ _ _ rfl (HT3.out.s1.own.alloc _) ⟨_, 0, none⟩ 1 1 [.int .i64 (atL L k + a + b.tmod 5000 * (k : Int) + c.tmod 30 * k * k)] rfl rfl (cell_one_new _ _ _) (by simp [Value.oneCell']) (by rw [hl2]; unfold maxLen; omega) (by rw [hl2]; omega) (by have := HT3.out.s1.bel.size; simp; omega) ?_; intro v' z2 hown hg _ hb; obtain ⟨gm, cm, rfl⟩ := ownsRow_succ hown; have HGR := Lib.hid (HT3.out.s1.grow hown hg hb); obtain ⟨u, d2⟩ := HGR.out.c1; have d3 := HGR.out.f1; have hz' := cell_lt d2; have HT4 := Lib.hid (HT3.out.step hown hg hb); clear hown hg hb d1)
      have HT5 := HT4
      rw [hl2] at HT5
      have HT6 := HT5.out.symm
      rw [← HA1.out, ← HA2.out] at HT6
      go_roundw
      case rel => exact ⟨k + 1, _, _, by omega, by go_num, Lib.hid HT6⟩
      case measure => simp [intOf]; omega
    · obtain rfl : k = L.length := by omega
      obtain ⟨g1, c1, rfl, hs1, -⟩ := HT.out.s1.own.ser
      obtain ⟨g2, c2, rfl, hs2, -⟩ := HT.out.s2.own.ser
      have hl1 := addL_len L a (b.tmod 5000) L.length
      have hl2 := curL_len L a (b.tmod 5000) (c.tmod 30) L.length
      have hok0 : phasesOk L = true := List.all_eq_true.2 fun x hx => by
        obtain ⟨i, hi, rfl⟩ := List.getElem_of_mem hx
        have := HBX.out i
        rw [← atL_get L i hi] at this
        simp only [Bool.and_eq_true, decide_eq_true_eq]
        omega
      have hok1 : phasesOk (addL L a (b.tmod 5000) L.length) = true := range_ok fun i hi => by
        obtain ⟨o1, o3, o5, o7⟩ := HOK.out i (by omega)
        omega
      have hok2 : phasesOk (curL L a (b.tmod 5000) (c.tmod 30) L.length) = true := range_ok fun i hi => by
        obtain ⟨o1, o3, o5, o7⟩ := HOK.out i (by omega)
        omega
      have hpl := lines_plain (tau := 1 + tau) (m := 1 + m % 32) (stepErr_ok (by omega) (by omega) hok0 (by omega)) (stepErr_ok (by omega) (by omega) hok1 (by omega)) (stepErr_ok (by omega) (by omega) hok2 (by omega))
      obtain ⟨hp1, hp2, hp3⟩ := hpl
      obtain ⟨⟨⟨n0, d0, e0⟩, ⟨n1, d1, e1⟩, ⟨n2, d2, e2⟩, ⟨n3, d3, e3⟩⟩, hV⟩ : ∃ V, V = allE (1 + tau) L (1 + m % 32) := ⟨_, rfl⟩
      obtain ⟨⟨⟨p0, q0, f0⟩, ⟨p1, q1, f1⟩, ⟨p2, q2, f2⟩, ⟨p3, q3, f3⟩⟩, hV3⟩ : ∃ V, V = allE (1 + tau) (curL L a (b.tmod 5000) (c.tmod 30) L.length) (1 + m % 32) := ⟨_, rfl⟩
      rw [← hV] at hp1 hp2 hp3
      rw [← hV3] at hp2
      dsimp only at hp2 hp3
      cases hp2
      have HV1 := Lib.hid hV.symm
      have HV2 := Lib.hid hp1
      have HV3 := Lib.hid hV3.symm
      have HE := Lib.hid hp3
      have HLN := Lib.hid (show (addL L a (b.tmod 5000) L.length).length = L.length ∧ (curL L a (b.tmod 5000) (c.tmod 30) L.length).length = L.length from ⟨hl1, hl2⟩)
      have HS13 := Lib.hid (HS1.out.below HT.out.s1.bel)
      have HR13 := Lib.hid (HR1.out.below HT.out.s1.bel)
      have HSA := Lib.hid (show SerIn wr (addL L a (b.tmod 5000) L.length) g1 from ⟨by rw [hl1]; unfold maxLen; omega, hs1⟩)
      have HSC := Lib.hid (show SerIn wr (curL L a (b.tmod 5000) (c.tmod 30) L.length) g2 from ⟨by rw [hl2]; unfold maxLen; omega, hs2⟩)
      have HRA : Hid (SAt wr b1 (1 + tau) (.slice g1 L.length c1)) := Lib.hid ⟨HT.out.s1.c0, by have := HT.out.s1.c1; rw [hl1] at this; exact this⟩
      have HRC : Hid (SAt wr b2 (1 + tau) (.slice g2 L.length c2)) := Lib.hid ⟨HT.out.s2.c0, by have := HT.out.s2.c1; rw [hl2] at this; exact this⟩
      have BW := Lib.hid (B1.out.trans (HT.out.s1.bel.mono B1.out.size))
      clear HT hs1 hs2 hl1 hl2 hok0 hok1 hok2 hp1 hp3 hV hV3
      obtain ⟨x0, x1⟩ := HR13.out
      have hz := cell_lt x0
      go_wp2_with fail
      refine (all_at (1 + tau) L L.length rfl _ _ (1 + m % 32) _ HS13.out _ HV1.out).mono ?_
      unfold fourVal
      dsimp only
      rintro e y2 ⟨rfl, hb⟩
      have hbx : Below y2.heap.size y2 ((y2.alloc (.cells #[.int .i64 n0, .int .i64 d0, .int .i64 n1, .int .i64 d1, .int .i64 n2, .int .i64 d2, .int .i64 n3, .int .i64 d3] 39)).alloc (.cells #[.int .i64 e0, .int .i64 e1, .int .i64 e2, .int .i64 e3] 41)) := below_alloc (below_alloc (Below.refl _ _) _) _
      have hby := hb.trans (hbx.mono hb.size)
      have HS13_1 := Lib.hid (HS13.out.below hby)
      have HR13_1 := Lib.hid (HR13.out.below hby)
      have HSA_1 := Lib.hid (HSA.out.below hby)
      have HSC_1 := Lib.hid (HSC.out.below hby)
      have HRA_1 := Lib.hid (HRA.out.below hby)
      have HRC_1 := Lib.hid (HRC.out.below hby)
      have BW_1 := Lib.hid (BW.out.trans (hby.mono BW.out.size))
      have JR1 : Hid (IntBox ((y2.alloc (.cells #[.int .i64 n0, .int .i64 d0, .int .i64 n1, .int .i64 d1, .int .i64 n2, .int .i64 d2, .int .i64 n3, .int .i64 d3] 39)).alloc (.cells #[.int .i64 e0, .int .i64 e1, .int .i64 e2, .int .i64 e3] 41)) y2.heap.size [n0, d0, n1, d1, n2, d2, n3, d3]) := Lib.hid ((IntBox.new y2 [n0, d0, n1, d1, n2, d2, n3, d3] 39).below (below_alloc (Below.refl _ _) _))
      have JE1 : Hid (IntBox ((y2.alloc (.cells #[.int .i64 n0, .int .i64 d0, .int .i64 n1, .int .i64 d1, .int .i64 n2, .int .i64 d2, .int .i64 n3, .int .i64 d3] 39)).alloc (.cells #[.int .i64 e0, .int .i64 e1, .int .i64 e2, .int .i64 e3] 41)) (y2.heap.size + 1) [e0, e1, e2, e3]) := Lib.hid (by
        have h := IntBox.new (y2.alloc (.cells #[.int .i64 n0, .int .i64 d0, .int .i64 n1, .int .i64 d1, .int .i64 n2, .int .i64 d2, .int .i64 n3, .int .i64 d3] 39)) [e0, e1, e2, e3] 41
        rwa [show (y2.alloc (.cells #[.int .i64 n0, .int .i64 d0, .int .i64 n1, .int .i64 d1, .int .i64 n2, .int .i64 d2, .int .i64 n3, .int .i64 d3] 39)).heap.size = y2.heap.size + 1 by simp] at h)
      clear hb hbx hby x0 x1 hz HS13 HR13 HSA HSC HRA HRC BW
      go_upto_region 12 with fail
      generalize ((y2.alloc (.cells #[.int .i64 n0, .int .i64 d0, .int .i64 n1, .int .i64 d1, .int .i64 n2, .int .i64 d2, .int .i64 n3, .int .i64 d3] 39)).alloc (.cells #[.int .i64 e0, .int .i64 e1, .int .i64 e2, .int .i64 e3] 41)) = X11 at *
      obtain ⟨x0, x1⟩ := HRA_1.out
      have hz := cell_lt x0
      go_wp2_with fail
      refine (all_at (1 + tau) (addL L a (b.tmod 5000) L.length) L.length HLN.out.1 _ _ (1 + m % 32) _ HSA_1.out _ HV2.out).mono ?_
      unfold fourVal
      dsimp only
      rintro e y3 ⟨rfl, hb⟩
      have hbx : Below y3.heap.size y3 ((y3.alloc (.cells #[.int .i64 n0, .int .i64 d0, .int .i64 n1, .int .i64 d1, .int .i64 n2, .int .i64 d2, .int .i64 n3, .int .i64 d3] 39)).alloc (.cells #[.int .i64 e0, .int .i64 e1, .int .i64 e2, .int .i64 e3] 41)) := below_alloc (below_alloc (Below.refl _ _) _) _
      have hby := hb.trans (hbx.mono hb.size)
      have HS13_2 := Lib.hid (HS13_1.out.below hby)
      have HR13_2 := Lib.hid (HR13_1.out.below hby)
      have HSA_2 := Lib.hid (HSA_1.out.below hby)
      have HSC_2 := Lib.hid (HSC_1.out.below hby)
      have HRA_2 := Lib.hid (HRA_1.out.below hby)
      have HRC_2 := Lib.hid (HRC_1.out.below hby)
      have JR1_2 := Lib.hid (JR1.out.below hby)
      have JE1_2 := Lib.hid (JE1.out.below hby)
      have BW_2 := Lib.hid (BW_1.out.trans (hby.mono BW_1.out.size))
      have JR2 : Hid (IntBox ((y3.alloc (.cells #[.int .i64 n0, .int .i64 d0, .int .i64 n1, .int .i64 d1, .int .i64 n2, .int .i64 d2, .int .i64 n3, .int .i64 d3] 39)).alloc (.cells #[.int .i64 e0, .int .i64 e1, .int .i64 e2, .int .i64 e3] 41)) y3.heap.size [n0, d0, n1, d1, n2, d2, n3, d3]) := Lib.hid ((IntBox.new y3 [n0, d0, n1, d1, n2, d2, n3, d3] 39).below (below_alloc (Below.refl _ _) _))
      have JE2 : Hid (IntBox ((y3.alloc (.cells #[.int .i64 n0, .int .i64 d0, .int .i64 n1, .int .i64 d1, .int .i64 n2, .int .i64 d2, .int .i64 n3, .int .i64 d3] 39)).alloc (.cells #[.int .i64 e0, .int .i64 e1, .int .i64 e2, .int .i64 e3] 41)) (y3.heap.size + 1) [e0, e1, e2, e3]) := Lib.hid (by
        have h := IntBox.new (y3.alloc (.cells #[.int .i64 n0, .int .i64 d0, .int .i64 n1, .int .i64 d1, .int .i64 n2, .int .i64 d2, .int .i64 n3, .int .i64 d3] 39)) [e0, e1, e2, e3] 41
        rwa [show (y3.alloc (.cells #[.int .i64 n0, .int .i64 d0, .int .i64 n1, .int .i64 d1, .int .i64 n2, .int .i64 d2, .int .i64 n3, .int .i64 d3] 39)).heap.size = y3.heap.size + 1 by simp] at h)
      clear hb hbx hby x0 x1 hz HS13_1 HR13_1 HSA_1 HSC_1 HRA_1 HRC_1 JR1 JE1 BW_1
      go_upto_region 13 with fail
      generalize ((y3.alloc (.cells #[.int .i64 n0, .int .i64 d0, .int .i64 n1, .int .i64 d1, .int .i64 n2, .int .i64 d2, .int .i64 n3, .int .i64 d3] 39)).alloc (.cells #[.int .i64 e0, .int .i64 e1, .int .i64 e2, .int .i64 e3] 41)) = X12 at *
      obtain ⟨x0, x1⟩ := HRC_2.out
      have hz := cell_lt x0
      go_wp2_with fail
      refine (all_at (1 + tau) (curL L a (b.tmod 5000) (c.tmod 30) L.length) L.length HLN.out.2 _ _ (1 + m % 32) _ HSC_2.out _ HV3.out).mono ?_
      unfold fourVal
      dsimp only
      rintro e y4 ⟨rfl, hb⟩
      have hbx : Below y4.heap.size y4 ((y4.alloc (.cells #[.int .i64 p0, .int .i64 q0, .int .i64 p1, .int .i64 q1, .int .i64 p2, .int .i64 q2, .int .i64 n3, .int .i64 d3] 39)).alloc (.cells #[.int .i64 f0, .int .i64 f1, .int .i64 f2, .int .i64 e3] 41)) := below_alloc (below_alloc (Below.refl _ _) _) _
      have hby := hb.trans (hbx.mono hb.size)
      have HS13_3 := Lib.hid (HS13_2.out.below hby)
      have HR13_3 := Lib.hid (HR13_2.out.below hby)
      have HSA_3 := Lib.hid (HSA_2.out.below hby)
      have HSC_3 := Lib.hid (HSC_2.out.below hby)
      have HRA_3 := Lib.hid (HRA_2.out.below hby)
      have HRC_3 := Lib.hid (HRC_2.out.below hby)
      have JR1_3 := Lib.hid (JR1_2.out.below hby)
      have JE1_3 := Lib.hid (JE1_2.out.below hby)
      have JR2_3 := Lib.hid (JR2.out.below hby)
      have JE2_3 := Lib.hid (JE2.out.below hby)
      have BW_3 := Lib.hid (BW_2.out.trans (hby.mono BW_2.out.size))
      have JR3 : Hid (IntBox ((y4.alloc (.cells #[.int .i64 p0, .int .i64 q0, .int .i64 p1, .int .i64 q1, .int .i64 p2, .int .i64 q2, .int .i64 n3, .int .i64 d3] 39)).alloc (.cells #[.int .i64 f0, .int .i64 f1, .int .i64 f2, .int .i64 e3] 41)) y4.heap.size [p0, q0, p1, q1, p2, q2, n3, d3]) := Lib.hid ((IntBox.new y4 [p0, q0, p1, q1, p2, q2, n3, d3] 39).below (below_alloc (Below.refl _ _) _))
      have JE3 : Hid (IntBox ((y4.alloc (.cells #[.int .i64 p0, .int .i64 q0, .int .i64 p1, .int .i64 q1, .int .i64 p2, .int .i64 q2, .int .i64 n3, .int .i64 d3] 39)).alloc (.cells #[.int .i64 f0, .int .i64 f1, .int .i64 f2, .int .i64 e3] 41)) (y4.heap.size + 1) [f0, f1, f2, e3]) := Lib.hid (by
        have h := IntBox.new (y4.alloc (.cells #[.int .i64 p0, .int .i64 q0, .int .i64 p1, .int .i64 q1, .int .i64 p2, .int .i64 q2, .int .i64 n3, .int .i64 d3] 39)) [f0, f1, f2, e3] 41
        rwa [show (y4.alloc (.cells #[.int .i64 p0, .int .i64 q0, .int .i64 p1, .int .i64 q1, .int .i64 p2, .int .i64 q2, .int .i64 n3, .int .i64 d3] 39)).heap.size = y4.heap.size + 1 by simp] at h)
      clear hb hbx hby x0 x1 hz HS13_2 HR13_2 HSA_2 HSC_2 HRA_2 HRC_2 JR1_2 JE1_2 JR2 JE2 BW_2
      go_upto_region 14 with fail
      generalize ((y4.alloc (.cells #[.int .i64 p0, .int .i64 q0, .int .i64 p1, .int .i64 q1, .int .i64 p2, .int .i64 q2, .int .i64 n3, .int .i64 d3] 39)).alloc (.cells #[.int .i64 f0, .int .i64 f1, .int .i64 f2, .int .i64 e3] 41)) = X13 at *
      have r1_0 := (JR1_3.out 0 (by simp)).1
      have r1_1 := (JR1_3.out 1 (by simp)).1
      have r1_2 := (JR1_3.out 2 (by simp)).1
      have r1_3 := (JR1_3.out 3 (by simp)).1
      have r1_4 := (JR1_3.out 4 (by simp)).1
      have r1_5 := (JR1_3.out 5 (by simp)).1
      have r1_6 := (JR1_3.out 6 (by simp)).1
      have r1_7 := (JR1_3.out 7 (by simp)).1
      have u1_0 := (JE1_3.out 0 (by simp)).1
      have u1_1 := (JE1_3.out 1 (by simp)).1
      have u1_2 := (JE1_3.out 2 (by simp)).1
      have u1_3 := (JE1_3.out 3 (by simp)).1
      have r2_0 := (JR2_3.out 0 (by simp)).1
      have r2_1 := (JR2_3.out 1 (by simp)).1
      have r2_2 := (JR2_3.out 2 (by simp)).1
      have r2_3 := (JR2_3.out 3 (by simp)).1
      have r2_4 := (JR2_3.out 4 (by simp)).1
      have r2_5 := (JR2_3.out 5 (by simp)).1
      have r2_6 := (JR2_3.out 6 (by simp)).1
      have r2_7 := (JR2_3.out 7 (by simp)).1
      have u2_0 := (JE2_3.out 0 (by simp)).1
      have u2_1 := (JE2_3.out 1 (by simp)).1
      have u2_2 := (JE2_3.out 2 (by simp)).1
      have u2_3 := (JE2_3.out 3 (by simp)).1
      have r3_6 := (JR3.out 6 (by simp)).1
      have r3_7 := (JR3.out 7 (by simp)).1
      have u3_3 := (JE3.out 3 (by simp)).1
      simp only [List.getElem_cons_zero, List.getElem_cons_succ] at r1_0 r1_1 r1_2 r1_3 r1_4 r1_5 r1_6 r1_7 u1_0 u1_1 u1_2 u1_3 r2_0 r2_1 r2_2 r2_3 r2_4 r2_5 r2_6 r2_7 u2_0 u2_1 u2_2 u2_3 r3_6 r3_7 u3_3
      obtain ⟨x0, x1⟩ := HR13_3.out
      have z0 := cell_lt x0
      have z1 := cell_lt r1_0
      have z2 := cell_lt u1_0
      have z3 := cell_lt r2_0
      have z4 := cell_lt u2_0
      have z5 := cell_lt r3_6
      have z6 := cell_lt u3_3
      have kw : IntKind.i64.wrap (2 * (1 + m % 32)) = 2 * (1 + m % 32) := IntWalk.i64_in _ (by omega)
      have he := HE.out
      clear JR1_3 JE1_3 JR2_3 JE2_3 JR3 JE3 HE
      have hee : (e1 = 4 ∧ ¬ (2 * (1 + m % 32) < (L.length : Int))) ∨ (e1 = 0 ∧ 2 * (1 + m % 32) < (L.length : Int)) := by
        by_cases hc : (L.length : Int) ≤ 2 * (1 + m % 32)
        · rw [if_pos hc] at he; exact .inl ⟨he, by omega⟩
        · rw [if_neg hc] at he; exact .inr ⟨he, by omega⟩
      clear he
      rcases hee with ⟨rfl, hc⟩ | ⟨rfl, hc⟩
      all_goals
        go_wp2_with fail
        refine (awake_any _).mono ?_
        rintro e y5 ⟨rfl, hb5⟩
        have BF := Lib.hid (BW_3.out.trans (hb5.mono BW_3.out.size))
        clear hb5
        go_wp2
        go_ret
        exact ⟨rfl, BF.out⟩
end Go.Proofs.Ytpmhphdpomiacaa
