/- Contract of the reference: Check, and the error of a clock and a second. -/
import Derived.Test.YtlelamjbfjneiaaGreatDoorQ38
import Derived.Test.YtlelamjbfjneiaaGreatDoorQ04
import Derived.StillTailTactics
namespace Go.Proofs.YtlelamjbfjneiaaGreatDoor.Wd
open Go Go.RowKit
theorem many_no {W : Wld} (h : manyOk W = false) : (W.chs.length : Int) < 1 ∨ 8 < (W.chs.length : Int) ∨ (W.cls.length : Int) < 1 ∨ 16 < (W.cls.length : Int) := by
  simp only [manyOk, Bool.and_eq_false_iff] at h
  rcases h with h | h
  · rcases inR_false h with h | h
    · exact .inl h
    · exact .inr (.inl h)
  · rcases inR_false h with h | h
    · exact .inr (.inr (.inl h))
    · exact .inr (.inr (.inr h))
theorem cham_no {c : Cham} (h : chamOk c = false) : c.base < 0 ∨ 1000000 < c.base ∨ c.swing < 0 ∨ 100000 < c.swing ∨ c.period < 2 ∨ 1000000 < c.period := by
  by_cases h1 : c.base < 0
  · exact .inl h1
  by_cases h2 : 1000000 < c.base
  · exact .inr (.inl h2)
  by_cases h3 : c.swing < 0
  · exact .inr (.inr (.inl h3))
  by_cases h4 : 100000 < c.swing
  · exact .inr (.inr (.inr (.inl h4)))
  by_cases h5 : c.period < 2
  · exact .inr (.inr (.inr (.inr (.inl h5))))
  by_cases h6 : 1000000 < c.period
  · exact .inr (.inr (.inr (.inr (.inr h6))))
  have a : inR c.base 0 1000000 = true := (inR_iff _ _ _).2 (by omega)
  have b : inR c.swing 0 100000 = true := (inR_iff _ _ _).2 (by omega)
  have d : inR c.period 2 1000000 = true := (inR_iff _ _ _).2 (by omega)
  simp [chamOk, a, b, d] at h
theorem check6 {W : Wld} {k : Nat} (hm : manyOk W = true) (hk : k < W.chs.length) (h : chamOk W.chs[k] = false) : 6 = checkS W := by
  have : W.chs.all chamOk = false := (all_no chamOk W.chs k hk h).symm
  unfold checkS; rw [hm, this]; rfl
theorem check20 {W : Wld} {k : Nat} (hm : manyOk W = true) (hc : W.chs.all chamOk = true) (hk : k < W.cls.length) (h : clkOk W.chs.length W.cls[k] = false) : 20 = checkS W := by
  have : W.cls.all (clkOk W.chs.length) = false := (all_no (clkOk W.chs.length) W.cls k hk h).symm
  unfold checkS; rw [hm, hc, this]; rfl
theorem check21 {W : Wld} {k : Nat} (hm : manyOk W = true) (hc : W.chs.all chamOk = true) (hd : W.cls.all (clkOk W.chs.length) = true) (hk : k < W.cls.length) (h : evsOk W.cls[k].evs = false) : 21 = checkS W := by
  have : W.cls.all evsOf = false := (all_no evsOf W.cls k hk h).symm
  unfold checkS; rw [hm, hc, hd, this]; rfl
theorem check0 {W : Wld} (hm : manyOk W = true) (hc : W.chs.all chamOk = true) (hd : W.cls.all (clkOk W.chs.length) = true) (he : W.cls.all evsOf = true) : 0 = checkS W := by
  unfold checkS; rw [hm, hc, hd, he]; rfl
set_option maxRecDepth 100000 in
set_option maxHeartbeats 1000000 in
theorem rcheck_many (W : Wld) (p1 p2 : Option Addr) (c1 c2 : Nat) (w : World) (hm1 : W.chs.length ≤ maxLen) (hm2 : W.cls.length ≤ maxLen) (h : manyOk W = false) :
    Calls Tryz.prog 94 #[.agg #[.int .u64 W.seed, .slice p1 W.chs.length c1, .slice p2 W.cls.length c2]] w fun e w' => e = .returned (.int .i64 (checkS W)) ∧ Below w.heap.size w w' := by
  have hf : checkS W = 2 := if_pos h
  rw [hf]
  have hh := many_no h
  unfold maxLen at hm1 hm2
  clear h hf
  by_cases d1 : (W.chs.length : Int) < 1
  · clear hh
    go_enter Tryz.func94, Tryz.ntmps94
    go_wp2
    go_ret
    exact ⟨rfl, by go_grown⟩
  · by_cases d2 : 8 < (W.chs.length : Int)
    · clear hh
      go_enter Tryz.func94, Tryz.ntmps94
      go_wp2
      go_ret
      exact ⟨rfl, by go_grown⟩
    · by_cases d3 : (W.cls.length : Int) < 1
      · clear hh
        go_enter Tryz.func94, Tryz.ntmps94
        go_wp2
        go_ret
        exact ⟨rfl, by go_grown⟩
      · have d4 : 16 < (W.cls.length : Int) := by omega
        clear hh
        go_enter Tryz.func94, Tryz.ntmps94
        go_wp2
        go_ret
        exact ⟨rfl, by go_grown⟩
set_option maxRecDepth 100000 in
set_option maxHeartbeats 4000000 in
theorem rcheck_in (W : Wld) (b1 o1 b2 o2 : Nat) (c1 c2 : Nat) (w : World) (hs1 : ChamsAt w W.chs b1 o1) (hs2 : ClksAt w W.cls b2 o2) (h : manyOk W = true) :
    Calls Tryz.prog 94 #[.agg #[.int .u64 W.seed, .slice (some ⟨b1, o1, none⟩) W.chs.length c1, .slice (some ⟨b2, o2, none⟩) W.cls.length c2]] w fun e w' => e = .returned (.int .i64 (checkS W)) ∧ Below w.heap.size w w' := by
  have hmm := h
  simp only [manyOk, Bool.and_eq_true, inR_iff] at hmm
  obtain ⟨⟨d1, d2⟩, d3, d4⟩ := hmm
  have H := Lib.hid h
  have HS1 := Lib.hid hs1
  have HS2 := Lib.hid hs2
  have hB0 := (Below.refl w.heap.size w).alloc (Nat.le_refl _) (.cells #[.int .u64 W.seed, .slice (some ⟨b1, o1, none⟩) W.chs.length c1, .slice (some ⟨b2, o2, none⟩) W.cls.length c2] 28)
  have x0 : (w.alloc (.cells #[.int .u64 W.seed, .slice (some ⟨b1, o1, none⟩) W.chs.length c1, .slice (some ⟨b2, o2, none⟩) W.cls.length c2] 28)).cell? ⟨w.heap.size, 0, none⟩ = some (.int .u64 W.seed) := by simp
  have x1 : (w.alloc (.cells #[.int .u64 W.seed, .slice (some ⟨b1, o1, none⟩) W.chs.length c1, .slice (some ⟨b2, o2, none⟩) W.cls.length c2] 28)).cell? ⟨w.heap.size, 1, none⟩ = some (.slice (some ⟨b1, o1, none⟩) W.chs.length c1) := by simp
  have x2 : (w.alloc (.cells #[.int .u64 W.seed, .slice (some ⟨b1, o1, none⟩) W.chs.length c1, .slice (some ⟨b2, o2, none⟩) W.cls.length c2] 28)).cell? ⟨w.heap.size, 2, none⟩ = some (.slice (some ⟨b2, o2, none⟩) W.cls.length c2) := by simp
  clear h hs1 hs2
  go_enter Tryz.func94, Tryz.ntmps94
  go_wp2
  generalize w.alloc (.cells #[.int .u64 W.seed, .slice (some ⟨b1, o1, none⟩) W.chs.length c1, .slice (some ⟨b2, o2, none⟩) W.cls.length c2] 28) = W1 at *
  have HB0 := Lib.hid hB0
  have X0 := Lib.hid x0
  have X1 := Lib.hid x1
  have X2 := Lib.hid x2
  clear x0 x1 x2 hB0
  go_loopw [3] (fun i wr => ∃ k : Nat, k ≤ W.chs.length ∧ i = .int .i64 k ∧ (W.chs.take k).all chamOk = true ∧ Hid (Below W1.heap.size W1 wr)) (fun i _ => W.chs.length - (intOf i).toNat)
  case atStart => exact ⟨0, Nat.zero_le _, rfl, rfl, Lib.hid (Below.refl _ _)⟩
  case round =>
    obtain ⟨k, hk, rfl, hq, HB⟩ := hrel
    have HQ := Lib.hid hq
    clear hq
    have HBW := Lib.hid (HB0.out.trans (HB.out.mono HB0.out.size))
    have y1 := cell_below HB.out X1.out
    have hz1 := cell_lt y1
    by_cases hlt : k < W.chs.length
    · obtain ⟨r0, r1, r2⟩ := (HS1.out k hlt).below HBW.out
      have hzr := cell_lt r0
      have hkl : (k : Int) < (W.chs.length : Int) := by omega
      have hbad := check6 (k := k) H.out hlt
      have hgood := take_all_snoc chamOk W.chs k hlt HQ.out
      generalize hch : W.chs[k] = ch at *
      obtain ⟨ba, sw, pe⟩ := ch
      dsimp only at r0 r1 r2
      have HBAD := Lib.hid hbad
      have HGOOD := Lib.hid hgood
      clear hbad hgood hch
      cases hok : chamOk ⟨ba, sw, pe⟩
      · have hno := cham_no hok
        have HF := Lib.hid (HBAD.out hok)
        dsimp only at hno
        clear hok HBAD HGOOD
        by_cases e1 : ba < 0
        · clear hno
          go_wp2
          go_ret
          exact ⟨ret_i64 HF.out, below_alloc' HBW.out _⟩
        · by_cases e2 : 1000000 < ba
          · clear hno
            go_wp2
            go_ret
            exact ⟨ret_i64 HF.out, below_alloc' HBW.out _⟩
          · by_cases e3 : sw < 0
            · clear hno
              go_wp2
              go_ret
              exact ⟨ret_i64 HF.out, below_alloc' HBW.out _⟩
            · by_cases e4 : 100000 < sw
              · clear hno
                go_wp2
                go_ret
                exact ⟨ret_i64 HF.out, below_alloc' HBW.out _⟩
              · by_cases e5 : pe < 2
                · clear hno
                  go_wp2
                  go_ret
                  exact ⟨ret_i64 HF.out, below_alloc' HBW.out _⟩
                · have e6 : 1000000 < pe := by omega
                  clear hno
                  go_wp2
                  go_ret
                  exact ⟨ret_i64 HF.out, below_alloc' HBW.out _⟩
      · obtain ⟨⟨e1, e2⟩, ⟨e3, e4⟩, e5, e6⟩ := chamOk_parts hok
        have HG := Lib.hid (HGOOD.out hok)
        dsimp only at e1 e2 e3 e4 e5 e6
        clear hok HBAD HGOOD
        go_wp2
        go_roundw
        case rel => exact ⟨k + 1, by omega, by go_num, HG.out, Lib.hid (below_alloc' HB.out _)⟩
        case measure => simp [intOf]; omega
    · have hkl : ¬ (k : Int) < (W.chs.length : Int) := by omega
      obtain rfl : k = W.chs.length := by omega
      have hall := HQ.out
      rw [List.take_length] at hall
      have HC := Lib.hid hall
      clear hall HQ HBW hlt hk
      go_wp2
      go_loopw [5] (fun i wr => ∃ k : Nat, k ≤ W.cls.length ∧ i = .int .i64 k ∧ (W.cls.take k).all (clkOk W.chs.length) = true ∧ Hid (Below W1.heap.size W1 wr)) (fun i _ => W.cls.length - (intOf i).toNat)
      case atStart => exact ⟨0, Nat.zero_le _, rfl, rfl, HB⟩
      case round =>
        clear HB y1 hz1 hkl
        obtain ⟨wq, rfl⟩ : ∃ wq : World, wq = wr := ⟨_, rfl⟩
        obtain ⟨k, hk, rfl, hq, HB⟩ := hrel
        have HQ := Lib.hid hq
        clear hq
        have HBW := Lib.hid (HB0.out.trans (HB.out.mono HB0.out.size))
        have y0 := cell_below HB.out X0.out
        have y1 := cell_below HB.out X1.out
        have y2 := cell_below HB.out X2.out
        have hz1 := cell_lt y1
        by_cases hlt : k < W.cls.length
        · obtain ⟨⟨r0, r1, r2, r3, r4, r5, r6, r7⟩, v, r8, hv⟩ := (HS2.out k hlt).below HBW.out
          have hzr := cell_lt r0
          have hkl : (k : Int) < (W.cls.length : Int) := by omega
          have hbad := check20 (k := k) H.out HC.out hlt
          have hgood := take_all_snoc (clkOk W.chs.length) W.cls k hlt HQ.out
          obtain ⟨pv, cv, rfl, hml, -⟩ := hv
          unfold maxLen at hml
          generalize hch : W.cls[k] = c at *
          have HBAD := Lib.hid hbad
          have HGOOD := Lib.hid hgood
          clear hbad hgood hch
          cases hok : clkOk (W.chs.length : Int) c
          · have hok2 : clkOk (W.chs.length : Int) ⟨c.kind, c.phase, c.rate, c.drift, c.white, c.walk, c.heat, c.room, c.evs⟩ = false := hok
            have HF := Lib.hid (HBAD.out hok)
            clear hok HBAD HGOOD
            go_wp2_with fail
            go_still_tail 6, (by kernel_rfl)
            change wpList _ _ _ _ _ wq.drew
            have hd := below_drewN HB.out 1
            change Below W1.heap.size W1 wq.drew at hd
            have HD := Lib.hid hd
            have HDW := Lib.hid (HB0.out.trans (hd.mono HB0.out.size))
            clear hd y0 y1 y2 r0 r1 r2 r3 r4 r5 r6 r7 r8 hz1 hzr HBW HB
            generalize wq.drew = w2 at *
            go_wp2_with (go_at_call 114; refine (wrongClock_any c.kind c.phase c.rate c.drift c.white c.walk c.heat c.room W.seed W.chs.length c1 W.cls.length c2 (some ⟨b1, o1, none⟩) (some ⟨b2, o2, none⟩) c.evs pv c.evs.length cv _ (by omega)).mono ?_; rintro e w3 ⟨rfl, hb3⟩; have HB3 := Lib.hid hb3; clear hb3)
            go_ret
            exact ⟨ret_i64 HF.out, HDW.out.trans (HB3.out.mono HDW.out.size)⟩
          · have hok2 : clkOk (W.chs.length : Int) ⟨c.kind, c.phase, c.rate, c.drift, c.white, c.walk, c.heat, c.room, c.evs⟩ = true := hok
            have HG := Lib.hid (HGOOD.out hok)
            clear hok HBAD HGOOD
            go_wp2_with fail
            go_still_tail 6, (by kernel_rfl)
            change wpList _ _ _ _ _ wq.drew
            have hd := below_drewN HB.out 1
            change Below W1.heap.size W1 wq.drew at hd
            have HD := Lib.hid hd
            have HDW := Lib.hid (HB0.out.trans (hd.mono HB0.out.size))
            clear hd y0 y1 y2 r0 r1 r2 r3 r4 r5 r6 r7 r8 hz1 hzr HBW HB
            generalize wq.drew = w2 at *
            go_wp2_with (go_at_call 114; refine (wrongClock_any c.kind c.phase c.rate c.drift c.white c.walk c.heat c.room W.seed W.chs.length c1 W.cls.length c2 (some ⟨b1, o1, none⟩) (some ⟨b2, o2, none⟩) c.evs pv c.evs.length cv _ (by omega)).mono ?_; rintro e w3 ⟨rfl, hb3⟩; have HB3 := Lib.hid hb3; clear hb3)
            go_roundw
            case rel => exact ⟨k + 1, by omega, by go_num, HG.out, Lib.hid (HD.out.trans (HB3.out.mono HD.out.size))⟩
            case measure => simp [intOf]; omega
        · have hkl : ¬ (k : Int) < (W.cls.length : Int) := by omega
          obtain rfl : k = W.cls.length := by omega
          have hall := HQ.out
          rw [List.take_length] at hall
          have HE := Lib.hid hall
          clear hall HQ HBW hlt hk
          go_wp2
          go_loopw [6] (fun i wr => ∃ k : Nat, k ≤ W.cls.length ∧ i = .int .i64 k ∧ (W.cls.take k).all evsOf = true ∧ Hid (Below W1.heap.size W1 wr)) (fun i _ => W.cls.length - (intOf i).toNat)
          case atStart => exact ⟨0, Nat.zero_le _, rfl, rfl, HB⟩
          case round =>
            clear HB y0 y1 y2 hz1 hkl
            obtain ⟨wz, rfl⟩ : ∃ wz : World, wz = wr := ⟨_, rfl⟩
            obtain ⟨k, hk, rfl, hq, HB⟩ := hrel
            have HQ := Lib.hid hq
            clear hq
            have HBW := Lib.hid (HB0.out.trans (HB.out.mono HB0.out.size))
            have y2 := cell_below HB.out X2.out
            have hz1 := cell_lt y2
            by_cases hlt : k < W.cls.length
            · obtain ⟨⟨r0, r1, r2, r3, r4, r5, r6, r7⟩, v, r8, hv⟩ := (HS2.out k hlt).below HBW.out
              have hkl : (k : Int) < (W.cls.length : Int) := by omega
              have hbad := check21 (k := k) H.out HC.out HE.out hlt
              have hgood := take_all_snoc evsOf W.cls k hlt HQ.out
              generalize hch : W.cls[k] = c at *
              have HBAD := Lib.hid hbad
              have HGOOD := Lib.hid hgood
              have HV := Lib.hid hv
              obtain ⟨pv, cv, rfl, hml, -⟩ := hv
              unfold maxLen at hml
              clear hbad hgood hch
              cases hok : evsOk c.evs
              · have HF := Lib.hid (HBAD.out hok)
                clear HBAD HGOOD
                go_wp2_with (go_at_call 115; refine (wrongEvents_any c.kind c.phase c.rate c.drift c.white c.walk c.heat c.room c.evs _ _ HV.out).mono ?_; rintro e w3 ⟨rfl, hb3⟩; have HB3 := Lib.hid hb3; clear hb3)
                go_ret
                exact ⟨ret_i64 HF.out, HBW.out.trans (HB3.out.mono HBW.out.size)⟩
              · have HG := Lib.hid (HGOOD.out hok)
                clear HBAD HGOOD
                go_wp2_with (go_at_call 115; refine (wrongEvents_any c.kind c.phase c.rate c.drift c.white c.walk c.heat c.room c.evs _ _ HV.out).mono ?_; rintro e w3 ⟨rfl, hb3⟩; have HB3 := Lib.hid hb3; clear hb3)
                go_roundw
                case rel => exact ⟨k + 1, by omega, by go_num, HG.out, Lib.hid (HB.out.trans (HB3.out.mono HB.out.size))⟩
                case measure => simp [intOf]; omega
            · have hkl : ¬ (k : Int) < (W.cls.length : Int) := by omega
              obtain rfl : k = W.cls.length := by omega
              have hall := HQ.out
              rw [List.take_length] at hall
              have HF := Lib.hid (check0 H.out HC.out HE.out hall)
              clear hall
              go_wp2
              go_ret
              exact ⟨ret_i64 HF.out, HBW.out⟩
theorem rcheck_any (W : Wld) (p1 p2 : Option Addr) (c1 c2 : Nat) (w : World) (hW : WldIn w W p1 p2) :
    Calls Tryz.prog 94 #[.agg #[.int .u64 W.seed, .slice p1 W.chs.length c1, .slice p2 W.cls.length c2]] w fun e w' => e = .returned (.int .i64 (checkS W)) ∧ Below w.heap.size w w' := by
  cases h : manyOk W
  · exact rcheck_many W p1 p2 c1 c2 w hW.1 hW.2.1 h
  · have hmm := h
    simp only [manyOk, Bool.and_eq_true, inR_iff] at hmm
    obtain ⟨b1, o1, rfl, hs1⟩ := hW.2.2.1.resolve_left (by omega)
    obtain ⟨b2, o2, rfl, hs2⟩ := hW.2.2.2.resolve_left (by omega)
    exact rcheck_in W b1 o1 b2 o2 c1 c2 w hs1 hs2 h
end Go.Proofs.YtlelamjbfjneiaaGreatDoor.Wd
