/- Contract of the reference: the phase without the walk. -/
import Derived.Test.YtlelamjbfjneiaaGreatDoorQ40
import Derived.Test.YtlelamjbfjneiaaGreatDoorQ24
namespace Go.Proofs.YtlelamjbfjneiaaGreatDoor.Wd
open Go Go.RowKit
theorem bear_no (p : Past) (s k se sz : Int) (h : ¬ se ≤ s) : p.bear s ⟨k, se, sz⟩ = p := by simp [Past.bear, h]
theorem warmth_keep (W0 : World) (c : Cham) (s : Int) (w : World) (hb : Below W0.heap.size W0 w) (h1 : chamOk c = true) (h4 : 0 ≤ s) (h5 : s ≤ 1000000) :
    Calls Tryz.prog 104 #[.agg #[.int .i64 c.base, .int .i64 c.swing, .int .i64 c.period], .int .i64 s] w fun e w' => e = .returned (.int .i64 (tempS c s)) ∧ Below W0.heap.size W0 w' :=
  (warmth_any c s w h1 h4 h5).mono fun _ _ ⟨a, b⟩ => ⟨a, hb.trans (b.mono hb.size)⟩
set_option maxRecDepth 100000 in
set_option maxHeartbeats 4000000 in
theorem still_some (W : Wld) (j i : Nat) (c : Clk) (r : Cham) (s : Int) (b1 o1 b2 o2 : Nat) (be oe : Nat) (c1 c2 cv : Nat) (w : World) (hj : j < W.cls.length) (hi : i < W.chs.length) (_hn1 : W.chs.length ≤ maxLen) (_hn2 : W.cls.length ≤ maxLen)
    (hrc : ChamCells w b1 (o1 + i * 3) r) (hcn : ClkNums w b2 (o2 + j * 9) c) (hcv : w.cell? ⟨b2, o2 + j * 9 + 8, none⟩ = some (.slice (some ⟨be, oe, none⟩) c.evs.length cv)) (hes : EvtsAt w c.evs be oe) (hroom : c.room = (i : Int)) (hc : ClkIn c) (hr : chamOk r = true) (h0 : 0 ≤ s) (h1 : s ≤ 1000000) :
    Calls Tryz.prog 68 #[.agg #[.int .u64 W.seed, .slice (some ⟨b1, o1, none⟩) W.chs.length c1, .slice (some ⟨b2, o2, none⟩) W.cls.length c2], .int .i64 (j : Int), .int .i64 s] w fun e w' => e = .returned (.int .i64 (fixedS c r s)) ∧ Below w.heap.size w w' := by
  unfold maxLen at _hn1 _hn2
  obtain ⟨g1, g2⟩ := aged_bd hc s h0 h1
  obtain ⟨t1, t2⟩ := warm_bd hc hr s
  obtain ⟨q1, q2⟩ := half_bd s h0 h1
  have rb := rate_bd hc s h0 h1
  have cp := hc.phase
  obtain ⟨hl8, hevs⟩ := evsOk_parts hc.evs
  have hpb := fun (n : Nat) (hn : n ≤ c.evs.length) => past_bound s c.evs hevs h0 h1 n hn
  have HPB := Lib.hid hpb
  have HEV := Lib.hid hevs
  have hfin : fixedS c r s = c.phase + (c.rate * s + (pastS s c.evs).kicked + c.drift * (s * (s - 1) / 2) / 86400) / 1000 + c.heat * (tempS r s - tempS r 0) + (pastS s c.evs).jumped := rfl
  have HF := Lib.hid hfin
  have HR := Lib.hid hr
  unfold agedS at g2
  unfold warmedS at t2
  obtain ⟨m0, m1, m2, m3, m4, m5, m6, m7⟩ := hcn
  rw [hroom] at m7
  have HRC := Lib.hid hrc
  have HES := Lib.hid hes
  have hjl : (j : Int) < (W.cls.length : Int) := by omega
  have hil : (i : Int) < (W.chs.length : Int) := by omega
  have hzb := cell_lt m0
  have hb0 := below_alloc' (below_alloc' (Below.refl w.heap.size w) (.cells #[.int .u64 W.seed, .slice (some ⟨b1, o1, none⟩) W.chs.length c1, .slice (some ⟨b2, o2, none⟩) W.cls.length c2] 28)) (.cells #[.int .i64 c.kind, .int .i64 c.phase, .int .i64 c.rate, .int .i64 c.drift, .int .i64 c.white, .int .i64 c.walk, .int .i64 c.heat, .int .i64 (i : Int), .slice (some ⟨be, oe, none⟩) c.evs.length cv] 61)
  have HB0 := Lib.hid hb0
  have k1 : ((w.alloc (.cells #[.int .u64 W.seed, .slice (some ⟨b1, o1, none⟩) W.chs.length c1, .slice (some ⟨b2, o2, none⟩) W.cls.length c2] 28)).alloc (.cells #[.int .i64 c.kind, .int .i64 c.phase, .int .i64 c.rate, .int .i64 c.drift, .int .i64 c.white, .int .i64 c.walk, .int .i64 c.heat, .int .i64 (i : Int), .slice (some ⟨be, oe, none⟩) c.evs.length cv] 61)).cell? ⟨w.heap.size, 1, none⟩ = some (.slice (some ⟨b1, o1, none⟩) W.chs.length c1) := by simp
  have k2 : ((w.alloc (.cells #[.int .u64 W.seed, .slice (some ⟨b1, o1, none⟩) W.chs.length c1, .slice (some ⟨b2, o2, none⟩) W.cls.length c2] 28)).alloc (.cells #[.int .i64 c.kind, .int .i64 c.phase, .int .i64 c.rate, .int .i64 c.drift, .int .i64 c.white, .int .i64 c.walk, .int .i64 c.heat, .int .i64 (i : Int), .slice (some ⟨be, oe, none⟩) c.evs.length cv] 61)).cell? ⟨w.heap.size + 1, 1, none⟩ = some (.int .i64 c.phase) := by simp
  have k3 : ((w.alloc (.cells #[.int .u64 W.seed, .slice (some ⟨b1, o1, none⟩) W.chs.length c1, .slice (some ⟨b2, o2, none⟩) W.cls.length c2] 28)).alloc (.cells #[.int .i64 c.kind, .int .i64 c.phase, .int .i64 c.rate, .int .i64 c.drift, .int .i64 c.white, .int .i64 c.walk, .int .i64 c.heat, .int .i64 (i : Int), .slice (some ⟨be, oe, none⟩) c.evs.length cv] 61)).cell? ⟨w.heap.size + 1, 2, none⟩ = some (.int .i64 c.rate) := by simp
  have k4 : ((w.alloc (.cells #[.int .u64 W.seed, .slice (some ⟨b1, o1, none⟩) W.chs.length c1, .slice (some ⟨b2, o2, none⟩) W.cls.length c2] 28)).alloc (.cells #[.int .i64 c.kind, .int .i64 c.phase, .int .i64 c.rate, .int .i64 c.drift, .int .i64 c.white, .int .i64 c.walk, .int .i64 c.heat, .int .i64 (i : Int), .slice (some ⟨be, oe, none⟩) c.evs.length cv] 61)).cell? ⟨w.heap.size + 1, 3, none⟩ = some (.int .i64 c.drift) := by simp
  have k5 : ((w.alloc (.cells #[.int .u64 W.seed, .slice (some ⟨b1, o1, none⟩) W.chs.length c1, .slice (some ⟨b2, o2, none⟩) W.cls.length c2] 28)).alloc (.cells #[.int .i64 c.kind, .int .i64 c.phase, .int .i64 c.rate, .int .i64 c.drift, .int .i64 c.white, .int .i64 c.walk, .int .i64 c.heat, .int .i64 (i : Int), .slice (some ⟨be, oe, none⟩) c.evs.length cv] 61)).cell? ⟨w.heap.size + 1, 6, none⟩ = some (.int .i64 c.heat) := by simp
  have k6 : ((w.alloc (.cells #[.int .u64 W.seed, .slice (some ⟨b1, o1, none⟩) W.chs.length c1, .slice (some ⟨b2, o2, none⟩) W.cls.length c2] 28)).alloc (.cells #[.int .i64 c.kind, .int .i64 c.phase, .int .i64 c.rate, .int .i64 c.drift, .int .i64 c.white, .int .i64 c.walk, .int .i64 c.heat, .int .i64 (i : Int), .slice (some ⟨be, oe, none⟩) c.evs.length cv] 61)).cell? ⟨w.heap.size + 1, 7, none⟩ = some (.int .i64 (i : Int)) := by simp
  have k7 : ((w.alloc (.cells #[.int .u64 W.seed, .slice (some ⟨b1, o1, none⟩) W.chs.length c1, .slice (some ⟨b2, o2, none⟩) W.cls.length c2] 28)).alloc (.cells #[.int .i64 c.kind, .int .i64 c.phase, .int .i64 c.rate, .int .i64 c.drift, .int .i64 c.white, .int .i64 c.walk, .int .i64 c.heat, .int .i64 (i : Int), .slice (some ⟨be, oe, none⟩) c.evs.length cv] 61)).cell? ⟨w.heap.size + 1, 8, none⟩ = some (.slice (some ⟨be, oe, none⟩) c.evs.length cv) := by simp
  have K1 := Lib.hid k1
  have K2 := Lib.hid k2
  have K3 := Lib.hid k3
  have K4 := Lib.hid k4
  have K5 := Lib.hid k5
  have K6 := Lib.hid k6
  have K7 := Lib.hid k7
  clear k1 k2 k3 k4 k5 k6 k7 hb0 hfin hr hc hroom hevs hpb hrc hes
  go_enter Tryz.func68, Tryz.ntmps68
  go_wp2
  generalize (w.alloc (.cells #[.int .u64 W.seed, .slice (some ⟨b1, o1, none⟩) W.chs.length c1, .slice (some ⟨b2, o2, none⟩) W.cls.length c2] 28)).alloc (.cells #[.int .i64 c.kind, .int .i64 c.phase, .int .i64 c.rate, .int .i64 c.drift, .int .i64 c.white, .int .i64 c.walk, .int .i64 c.heat, .int .i64 (i : Int), .slice (some ⟨be, oe, none⟩) c.evs.length cv] 61) = W2 at *
  clear m0 m1 m2 m3 m4 m5 m6 m7 hcv hzb
  go_loopw [8, 9, 10] (fun rt ju i wr => ∃ n : Nat, n ≤ c.evs.length ∧ i = .int .i64 n ∧ rt = .int .i64 (c.rate * s + (pastS s (c.evs.take n)).kicked) ∧ ju = .int .i64 (pastS s (c.evs.take n)).jumped ∧ Hid (Below W2.heap.size W2 wr)) (fun _ _ i _ => c.evs.length - (intOf i).toNat)
  case atStart => exact ⟨0, Nat.zero_le _, rfl, by simp [pastS, pastFrom], rfl, Lib.hid (Below.refl _ _)⟩
  case round =>
    obtain ⟨n, hn, rfl, rfl, rfl, HB⟩ := hrel
    have e7 := cell_below HB.out K7.out
    have hz7 := cell_lt e7
    by_cases hlt : n < c.evs.length
    · obtain ⟨e0, e1, e2⟩ := (HES.out n hlt).below (HB0.out.trans (HB.out.mono HB0.out.size))
      have hze := cell_lt e0
      have hnl : (n : Int) < (c.evs.length : Int) := by omega
      have hsn := pastFrom_snoc s ⟨0, 0, false⟩ c.evs n hlt
      have hpa := evOk_parts (HEV.out _ (List.getElem_mem hlt))
      have pb := HPB.out n (by omega)
      have hp : pastS s (c.evs.take (n + 1)) = (pastS s (c.evs.take n)).bear s c.evs[n] := hsn
      have HSN := Lib.hid hp
      clear hsn hp
      generalize hev : c.evs[n] = ev at *
      have HEE := Lib.hid hev
      clear hev
      obtain ⟨wt, se, sz⟩ := ev
      obtain ⟨pb1, pb2⟩ := pb
      generalize pastS s (c.evs.take n) = p at *
      obtain ⟨ju, ki, st⟩ := p
      dsimp only at e0 e1 e2 hpa pb1 pb2
      obtain ⟨pa1, pa2, pa3⟩ := hpa
      have hl8' : (n : Int) ≤ 8 := by omega
      have pb3 : -80000000000000 ≤ ju ∧ ju ≤ 80000000000000 := by omega
      have pb4 : -80000000000000000 ≤ ki ∧ ki ≤ 80000000000000000 := by omega
      clear pb1 pb2 hl8'
      have hw : wt = 1 ∨ wt = 2 ∨ wt = 3 ∨ wt = 4 := by omega
      rcases hw with rfl | rfl | rfl | rfl
      · have pz : -10000000000000 ≤ sz ∧ sz ≤ 10000000000000 := pa3
        clear pa3
        by_cases hle : se ≤ s
        · have HBR := Lib.hid (HSN.out.trans (bear_1 ⟨ju, ki, st⟩ s se sz hle))
          have hmm := mul_bd sz (s - se) 10000000000000 1000000 (by omega) (by omega)
          clear HSN
          go_wp2
          go_roundw
          case rel => exact ⟨n + 1, by omega, by go_num, congrArg (Value.int .i64) (by rw [HBR.out]), congrArg (Value.int .i64) (by rw [HBR.out]), Lib.hid (below_alloc' HB.out _)⟩
          case measure => simp [intOf]; omega
        · have HBR := Lib.hid (HSN.out.trans (bear_no ⟨ju, ki, st⟩ s 1 se sz hle))
          clear HSN
          go_wp2
          go_roundw
          case rel => exact ⟨n + 1, by omega, by go_num, congrArg (Value.int .i64) (by rw [HBR.out]), congrArg (Value.int .i64) (by rw [HBR.out]), Lib.hid (below_alloc' HB.out _)⟩
          case measure => simp [intOf]; omega
      · have pz : -10000000000 ≤ sz ∧ sz ≤ 10000000000 := pa3
        clear pa3
        by_cases hle : se ≤ s
        · have HBR := Lib.hid (HSN.out.trans (bear_2 ⟨ju, ki, st⟩ s se sz hle))
          have hmm := mul_bd sz (s - se) 10000000000000 1000000 (by omega) (by omega)
          have hmk := mul_bd sz (s - se) 10000000000 1000000 pz (by omega)
          clear HSN
          go_wp2
          go_roundw
          case rel => exact ⟨n + 1, by omega, by go_num, congrArg (Value.int .i64) (by rw [HBR.out]; dsimp only; omega), congrArg (Value.int .i64) (by rw [HBR.out]), Lib.hid (below_alloc' HB.out _)⟩
          case measure => simp [intOf]; omega
        · have HBR := Lib.hid (HSN.out.trans (bear_no ⟨ju, ki, st⟩ s 2 se sz hle))
          clear HSN
          go_wp2
          go_roundw
          case rel => exact ⟨n + 1, by omega, by go_num, congrArg (Value.int .i64) (by rw [HBR.out]), congrArg (Value.int .i64) (by rw [HBR.out]), Lib.hid (below_alloc' HB.out _)⟩
          case measure => simp [intOf]; omega
      · have pz : -0 ≤ sz ∧ sz ≤ 0 := pa3
        clear pa3
        by_cases hle : se ≤ s
        · have HBR := Lib.hid (HSN.out.trans (bear_3 ⟨ju, ki, st⟩ s se sz hle))
          have hmm := mul_bd sz (s - se) 10000000000000 1000000 (by omega) (by omega)
          clear HSN
          go_wp2
          go_roundw
          case rel => exact ⟨n + 1, by omega, by go_num, congrArg (Value.int .i64) (by rw [HBR.out]), congrArg (Value.int .i64) (by rw [HBR.out]), Lib.hid (below_alloc' HB.out _)⟩
          case measure => simp [intOf]; omega
        · have HBR := Lib.hid (HSN.out.trans (bear_no ⟨ju, ki, st⟩ s 3 se sz hle))
          clear HSN
          go_wp2
          go_roundw
          case rel => exact ⟨n + 1, by omega, by go_num, congrArg (Value.int .i64) (by rw [HBR.out]), congrArg (Value.int .i64) (by rw [HBR.out]), Lib.hid (below_alloc' HB.out _)⟩
          case measure => simp [intOf]; omega
      · have pz : -0 ≤ sz ∧ sz ≤ 0 := pa3
        clear pa3
        by_cases hle : se ≤ s
        · have HBR := Lib.hid (HSN.out.trans (bear_4 ⟨ju, ki, st⟩ s se sz hle))
          have hmm := mul_bd sz (s - se) 10000000000000 1000000 (by omega) (by omega)
          clear HSN
          go_wp2
          go_roundw
          case rel => exact ⟨n + 1, by omega, by go_num, congrArg (Value.int .i64) (by rw [HBR.out]), congrArg (Value.int .i64) (by rw [HBR.out]), Lib.hid (below_alloc' HB.out _)⟩
          case measure => simp [intOf]; omega
        · have HBR := Lib.hid (HSN.out.trans (bear_no ⟨ju, ki, st⟩ s 4 se sz hle))
          clear HSN
          go_wp2
          go_roundw
          case rel => exact ⟨n + 1, by omega, by go_num, congrArg (Value.int .i64) (by rw [HBR.out]), congrArg (Value.int .i64) (by rw [HBR.out]), Lib.hid (below_alloc' HB.out _)⟩
          case measure => simp [intOf]; omega
    · have hnl : ¬ (n : Int) < (c.evs.length : Int) := by omega
      obtain rfl : n = c.evs.length := by omega
      have pb := HPB.out c.evs.length (Nat.le_refl _)
      rw [List.take_length] at *
      obtain ⟨pb1, pb2⟩ := pb
      generalize pastS s c.evs = p at *
      obtain ⟨ju, ki, st⟩ := p
      dsimp only at pb1 pb2
      have hl8' : (c.evs.length : Int) ≤ 8 := by omega
      have pb3 : -80000000000000 ≤ ju ∧ ju ≤ 80000000000000 := by omega
      have pb4 : -80000000000000000 ≤ ki ∧ ki ≤ 80000000000000000 := by omega
      have g3 : -100000000000000 ≤ (c.rate * s + ki + c.drift * (s * (s - 1) / 2) / 86400) / 1000 ∧ (c.rate * s + ki + c.drift * (s * (s - 1) / 2) / 86400) / 1000 ≤ 100000000000000 := by omega
      have y1 := cell_below HB.out K1.out
      have y2 := cell_below HB.out K2.out
      have y4 := cell_below HB.out K4.out
      have y5 := cell_below HB.out K5.out
      have y6 := cell_below HB.out K6.out
      have HBW := Lib.hid (HB0.out.trans (HB.out.mono HB0.out.size))
      obtain ⟨r1, r2, r3⟩ := HRC.out.below HBW.out
      have hzr := cell_lt r1
      have hzy := cell_lt y1
      clear pb1 pb2 hl8' hlt hn
      go_wp2_with (go_at_call 103; refine (rdown_any _ _ _ (by omega) (by omega)).mono ?_; rintro e w' ⟨rfl, rfl⟩)
      have HBX := Lib.hid (below_alloc' (Below.refl wr.heap.size wr) (.cells #[.int .i64 r.base, .int .i64 r.swing, .int .i64 r.period] 81))
      have z2 := cell_below HBX.out y2
      have z5 := cell_below HBX.out y5
      have x0 : (wr.alloc (.cells #[.int .i64 r.base, .int .i64 r.swing, .int .i64 r.period] 81)).cell? ⟨wr.heap.size, 0, none⟩ = some (.int .i64 r.base) := by simp
      have x1 : (wr.alloc (.cells #[.int .i64 r.base, .int .i64 r.swing, .int .i64 r.period] 81)).cell? ⟨wr.heap.size, 1, none⟩ = some (.int .i64 r.swing) := by simp
      have x2 : (wr.alloc (.cells #[.int .i64 r.base, .int .i64 r.swing, .int .i64 r.period] 81)).cell? ⟨wr.heap.size, 2, none⟩ = some (.int .i64 r.period) := by simp
      generalize wr.alloc (.cells #[.int .i64 r.base, .int .i64 r.swing, .int .i64 r.period] 81) = W0 at *
      clear y1 y2 y4 y5 y6 r1 r2 r3 hzr hzy g1 g2 q1 q2
      have u1 := IntWalk.i64_in (tempS r s - tempS r 0) (by omega)
      have u2 := IntWalk.i64_in (c.heat * (tempS r s - tempS r 0)) (by omega)
      have u3 := IntWalk.i64_in (c.phase + (c.rate * s + ki + c.drift * (s * (s - 1) / 2) / 86400) / 1000) (by omega)
      have u4 := IntWalk.i64_in (c.phase + (c.rate * s + ki + c.drift * (s * (s - 1) / 2) / 86400) / 1000 + ju) (by omega)
      have u5 := IntWalk.i64_in (c.phase + (c.rate * s + ki + c.drift * (s * (s - 1) / 2) / 86400) / 1000 + ju + c.heat * (tempS r s - tempS r 0)) (by omega)
      have hsum : c.phase + (c.rate * s + ki + c.drift * (s * (s - 1) / 2) / 86400) / 1000 + ju + c.heat * (tempS r s - tempS r 0) = fixedS c r s := by rw [HF.out]; omega
      have HSUM := Lib.hid hsum
      have HD := Lib.hid (show -8000000000000000000 ≤ c.rate * s + ki + c.drift * (s * (s - 1) / 2) / 86400 ∧ c.rate * s + ki + c.drift * (s * (s - 1) / 2) / 86400 ≤ 8000000000000000000 by omega)
      clear hsum t2 rb pb3 pb4 g3 cp
      go_region_held3 (fun w' => Below W0.heap.size W0 w' ∧ w'.cell? ⟨w.heap.size + 1, 1, none⟩ = some (.int .i64 c.phase) ∧ w'.cell? ⟨w.heap.size + 1, 6, none⟩ = some (.int .i64 c.heat) ∧ w'.cell? ⟨wr.heap.size, 0, none⟩ = some (.int .i64 r.base) ∧ w'.cell? ⟨wr.heap.size, 1, none⟩ = some (.int .i64 r.swing) ∧ w'.cell? ⟨wr.heap.size, 2, none⟩ = some (.int .i64 r.period))
        (first | exact ⟨Below.drew (Below.refl _ _), z2, z5, x0, x1, x2⟩ | exact ⟨(by assumption), cell_below (by assumption) z2, cell_below (by assumption) z5, cell_below (by assumption) x0, cell_below (by assumption) x1, cell_below (by assumption) x2⟩)
        (first | (go_at_call 104; refine (warmth_keep W0 r _ _ (by first | assumption | exact Below.drew (Below.refl _ _)) HR.out (by first | assumption | decide) (by first | assumption | decide)).mono ?_; rintro e w2 ⟨rfl, hb2⟩) |
          (go_at_call 103; refine (rdown_any _ _ _ HD.out (by decide)).mono ?_; rintro e w2 ⟨rfl, rfl⟩))
      clear u1 u2 u3 u4 u5
      go_wp2
      go_ret
      exact ⟨ret_i64 HSUM.out, HBW.out.trans ((HBX.out.trans (hb2.mono HBX.out.size)).mono HBW.out.size)⟩
end Go.Proofs.YtlelamjbfjneiaaGreatDoor.Wd
