/- The reference's Follow, whatever it is asked. -/
import Derived.Test.YtlelamjbfjneiaaGreatDoorQ35
import Derived.Test.YtlelamjbfjneiaaGreatDoorQ50
import Derived.Test.YtlelamjbfjneiaaGreatDoorQ49
namespace Go.Proofs.YtlelamjbfjneiaaGreatDoor.Ct
open Go Go.RowKit Go.Shelf
attribute [local go_sem] Oper.semAt_some
/-- the reference's Runs and Growth, in every later memory -/
def RRuns (W : Wd.Wld) (p1 p2 : Option Addr) (k1 k2 : Nat) (w : World) : Prop :=
  ∀ k s X, Below w.heap.size w X → Calls Tryz.prog 40 #[.agg #[.int .u64 W.seed, .slice p1 W.chs.length k1, .slice p2 W.cls.length k2], .int .i64 k, .int .i64 s] X fun en Y => en = .returned (.tuple #[.bool (Wd.runsE W k s).v, .int .i64 (Wd.runsE W k s).e]) ∧ Below X.heap.size X Y
def RGrow (W : Wd.Wld) (p1 p2 : Option Addr) (k1 k2 : Nat) (w : World) : Prop :=
  ∀ k s t X, Below w.heap.size w X → Calls Tryz.prog 42 #[.agg #[.int .u64 W.seed, .slice p1 W.chs.length k1, .slice p2 W.cls.length k2], .int .i64 k, .int .i64 s, .int .i64 t] X fun en Y => en = .returned (.tuple #[.agg #[.int .i64 (Wd.growthE W k s t).a, .int .i64 (Wd.growthE W k s t).b], .int .i64 (Wd.growthE W k s t).e]) ∧ Below X.heap.size X Y
def RFolRet (c : Cnt) (W : Wd.Wld) (a b from_ step : Int) (m : Nat → Int) (n : Nat) (f1 f2 : Int) (w : World) (e : Ending) (w' : World) : Prop :=
  (followErr c W a b from_ step m n f1 f2 ≠ 0 ∧ e = .returned (.tuple #[.slice none 0 0, .int .i64 (followErr c W a b from_ step m n f1 f2)]) ∨
   followErr c W a b from_ step m n f1 f2 = 0 ∧ ∃ p cap, e = .returned (.tuple #[.slice p n cap, .int .i64 0]) ∧ SpnIn w' (fun i => (folS c W a b from_ step m f1 f2 i).1) n p) ∧ Below w.heap.size w w'
theorem rfol_new (w : World) (c : Cnt) (W : Wd.Wld) (p1 p2 : Option Addr) (k1 k2 : Nat) (f1 f2 : Int) :
    ObsAt w (((w.alloc (.cells #[.int .i64 c.f, .int .i64 c.o, .int .i64 c.j, .int .i64 c.g, .int .i64 c.r, .int .i64 c.d, .int .i64 c.i] 23)).alloc (.cells #[.int .u64 W.seed, .slice p1 W.chs.length k1, .slice p2 W.cls.length k2] 28)).alloc (.cells #[.int .i64 f1, .int .i64 f2] 31)) c W p1 p2 k1 k2 ∧ SpBox (((w.alloc (.cells #[.int .i64 c.f, .int .i64 c.o, .int .i64 c.j, .int .i64 c.g, .int .i64 c.r, .int .i64 c.d, .int .i64 c.i] 23)).alloc (.cells #[.int .u64 W.seed, .slice p1 W.chs.length k1, .slice p2 W.cls.length k2] 28)).alloc (.cells #[.int .i64 f1, .int .i64 f2] 31)) (w.heap.size + 1 + 1) f1 f2 :=
  ⟨(RObsAt.new w c W p1 p2 k1 k2).below (below_alloc (Below.refl _ _) _), by simp [go_sem], by simp [go_sem]⟩
theorem obs_cnt {c : Cnt} {W : Wd.Wld} {a b s : Int} (h : (obsE c W a b s).2 = 22) : cntB c = true := by
  unfold obsE at h
  by_cases hc : cntB c = true
  · exact hc
  · rw [if_neg hc] at h; exact absurd h (by decide)
theorem resolve_in {c : Cnt} (hc : cntB c = true) (m lo hi : Int) : resolveS c m lo hi = resS c m lo hi := by unfold resolveS; rw [if_pos hc]
set_option maxRecDepth 100000 in
set_option maxHeartbeats 16000000 in
theorem rFollow_any (c : Cnt) (W : Wd.Wld) (a b from_ step : Int) (m : Nat → Int) (n : Nat) (lp : Option Addr) (lc : Nat) (f1 f2 : Int) (p1 p2 : Option Addr) (k1 k2 : Nat) (w : World) (HS : RShown W p1 p2 k1 k2 w) (HU : RRuns W p1 p2 k1 k2 w) (HG : RGrow W p1 p2 k1 k2 w) (hW : Wd.WldIn w W p1 p2) (hl : FnIn w m n lp) (hn63 : n ≤ 1000000) :
    Calls Tryz.prog 16 #[cntVal c, wV W p1 p2 k1 k2, .int .i64 a, .int .i64 b, .int .i64 from_, .int .i64 step, .slice lp n lc, .agg #[.int .i64 f1, .int .i64 f2]] w (RFolRet c W a b from_ step m n f1 f2 w) := by
  have HB := Lib.hid (rfol_new w c W p1 p2 k1 k2 f1 f2).1
  have HF := Lib.hid (rfol_new w c W p1 p2 k1 k2 f1 f2).2
  have HOB := Lib.hid (fun X (hb : Below w.heap.size w X) => rObserve_any c W a b from_ p1 p2 k1 k2 X (fun k s Y hY => HS k s Y (hb.trans (hY.mono hb.size))))
  have HRU := Lib.hid HU
  have HRG := Lib.hid HG
  have HRD := Lib.hid (fun (hc : cntB c = true) s X => rready_any c s X (cntB_in hc))
  have HRS := Lib.hid (fun (mm lo hi : Int) X => rResolve_any c mm lo hi X)
  have HL := Lib.hid hl
  have HWL := Lib.hid hW
  have HN63 := Lib.hid hn63
  obtain ⟨i0, hi0, hz0, hz1, hz2⟩ := info_parts infoSp
  obtain ⟨⟨om, oe⟩, ho⟩ : ∃ r, r = obsE c W a b from_ := ⟨_, rfl⟩
  rw [← ho] at HOB
  have HO := Lib.hid ho
  obtain ⟨pe, hpe⟩ : ∃ pe, pe = rpairErr c W a b from_ := ⟨_, rfl⟩
  have HPE := Lib.hid hpe
  unfold RFolRet
  obtain ⟨fe, hfe⟩ : ∃ fe, fe = followErr c W a b from_ step m n f1 f2 := ⟨_, rfl⟩
  rw [← hfe]
  have HFE0 := Lib.hid hfe
  clear hfe
  unfold cntVal wV at *
  clear HS HU HG hW hl hn63 ho hpe
  dsimp only at HOB
  go_enter Tryz.func16, Tryz.ntmps16
  go_upto_region 1 with fail
  generalize (((w.alloc (.cells #[.int .i64 c.f, .int .i64 c.o, .int .i64 c.j, .int .i64 c.g, .int .i64 c.r, .int .i64 c.d, .int .i64 c.i] 23)).alloc (.cells #[.int .u64 W.seed, .slice p1 W.chs.length k1, .slice p2 W.cls.length k2] 28)).alloc (.cells #[.int .i64 f1, .int .i64 f2] 31)) = W0 at *
  obtain ⟨⟨x0, x1, x2, x3, x4, x5, x6⟩, l0, l1, l2, -⟩ := HB.out
  have zx := cell_lt x0
  have zl := cell_lt l0
  go_upto_region 2 with (go_at_call 9; refine (HOB.out _ HB.out.bel).mono ?_; rintro e w1 ⟨rfl, hb1⟩; have HB1 := Lib.hid (HB.out.below hb1); have HF1 := Lib.hid (HF.out.below hb1); clear hb1)
  clear x0 x1 x2 x3 x4 x5 x6 l0 l1 l2 zx zl HB HF HOB
  generalize w1 = W1 at *
  go_upto_if 46 with fail
  go_cut [19, 20, 21, 22, 23] from 46 to 77 (fun s19 s20 s21 s22 s23 wx => ∃ v20 v21 v22 v23 : Value, s19 = .int .i64 pe ∧ s20 = v20 ∧ s21 = v21 ∧ s22 = v22 ∧ s23 = v23 ∧ Hid (ObsAt w wx c W p1 p2 k1 k2) ∧ Hid (SpBox wx (w.heap.size + 1 + 1) f1 f2))
  case first =>
    by_cases he : oe = 22
    · have HC := Lib.hid (obs_cnt (by rw [← HO.out]; exact he))
      have HRD1 := Lib.hid (HRD.out HC.out)
      have HPF : Hid (pe = if (Wd.runsE W a from_).e = 0 then (if (Wd.runsE W b from_).e = 0 then (if a = b then 1 else if meetB c from_ = true then 0 else 21) else (Wd.runsE W b from_).e) else (Wd.runsE W a from_).e) := Lib.hid (by rw [HPE.out]; unfold rpairErr; rw [← HO.out, if_pos he])
      subst he
      have HRA := Lib.hid (fun X hb => HRU.out a from_ X hb)
      have HRB := Lib.hid (fun X hb => HRU.out b from_ X hb)
      obtain ⟨⟨xv, xe⟩, hx⟩ : ∃ r, r = Wd.runsE W a from_ := ⟨_, rfl⟩
      obtain ⟨⟨yv, ye⟩, hy⟩ : ∃ r, r = Wd.runsE W b from_ := ⟨_, rfl⟩
      rw [← hx] at HRA HPF
      rw [← hy] at HRB HPF
      dsimp only at HRA HRB HPF
      clear hx hy
      obtain ⟨-, l0, l1, l2, -⟩ := HB1.out
      have zl := cell_lt l0
      go_upto_region 5 with (go_at_call 40; refine (HRA.out _ HB1.out.bel).mono ?_; rintro e w2 ⟨rfl, hb2⟩; have HB2 := Lib.hid (HB1.out.below hb2); have HF2 := Lib.hid (HF1.out.below hb2); clear hb2)
      clear l0 l1 l2 zl HB1 HF1
      obtain ⟨-, l0, l1, l2, -⟩ := HB2.out
      have zl := cell_lt l0
      go_upto_region 6 with (go_at_call 40; refine (HRB.out _ HB2.out.bel).mono ?_; rintro e w3 ⟨rfl, hb3⟩; have HB3 := Lib.hid (HB2.out.below hb3); have HF3 := Lib.hid (HF2.out.below hb3); clear hb3)
      clear l0 l1 l2 zl HB2 HF2
      generalize w3 = W3 at *
      by_cases h1 : xe = 0
      · by_cases h2 : ye = 0
        · subst h1 h2
          have HPG : Hid (pe = if a = b then 1 else if meetB c from_ = true then 0 else 21) := Lib.hid (by rw [HPF.out, if_pos rfl, if_pos rfl])
          by_cases h3 : a = b
          · have HP1 := Lib.hid (show pe = 1 by rw [HPG.out, if_pos h3])
            subst h3
            go_wp2_with fail
            go_meet
            exact ⟨_, _, _, _, by rw [HP1.out], rfl, rfl, rfl, rfl, HB3, HF3⟩
          · have h3b : (a == b) = false := by simpa using h3
            have HP1 : Hid (pe = if meetB c from_ = true then 0 else 21) := Lib.hid (by rw [HPG.out, if_neg h3])
            have HRDk := Lib.hid (HRD1.out from_)
            obtain ⟨bv, hbv⟩ : ∃ bv, bv = meetB c from_ := ⟨_, rfl⟩
            rw [← hbv] at HRDk HP1
            clear hbv
            obtain ⟨x0, x1, x2, x3, x4, x5, x6⟩ := HB3.out.cb
            have zx := cell_lt x0
            cases bv with
            | true =>
              go_wp2_with (go_at_call 41; refine (HRDk.out _).mono ?_; rintro e w4 ⟨rfl, hb4⟩; have HB4 := Lib.hid (HB3.out.below hb4); have HF4 := Lib.hid (HF3.out.below hb4); clear hb4)
              go_meet
              exact ⟨_, _, _, _, by rw [HP1.out]; rfl, rfl, rfl, rfl, rfl, HB4, HF4⟩
            | false =>
              go_wp2_with (go_at_call 41; refine (HRDk.out _).mono ?_; rintro e w4 ⟨rfl, hb4⟩; have HB4 := Lib.hid (HB3.out.below hb4); have HF4 := Lib.hid (HF3.out.below hb4); clear hb4)
              go_meet
              exact ⟨_, _, _, _, by rw [HP1.out]; rfl, rfl, rfl, rfl, rfl, HB4, HF4⟩
        · subst h1
          have HP1 := Lib.hid (show pe = ye by rw [HPF.out, if_pos rfl, if_neg h2])
          have h2b : (ye != 0) = true := by simpa using h2
          go_wp2_with fail
          go_meet
          exact ⟨_, _, _, _, by rw [HP1.out], rfl, rfl, rfl, rfl, HB3, HF3⟩
      · have HP1 := Lib.hid (show pe = xe by rw [HPF.out, if_neg h1])
        have h1b : (xe != 0) = true := by simpa using h1
        go_wp2_with fail
        go_meet
        exact ⟨_, _, _, _, by rw [HP1.out], rfl, rfl, rfl, rfl, HB3, HF3⟩
    · have HP1 := Lib.hid (show pe = oe by rw [HPE.out]; unfold rpairErr; rw [← HO.out, if_neg he])
      have heb : (oe == 22) = false := by simpa using he
      go_wp2_with fail
      go_meet
      exact ⟨_, _, _, _, by rw [HP1.out], rfl, rfl, rfl, rfl, HB1, HF1⟩
  case rest =>
    obtain ⟨v20, v21, v22, v23, rfl, rfl, rfl, rfl, rfl, HB3, HF3⟩ := hcut
    have HPP : Hid (pe = pairErr c W a b from_) := Lib.hid (by rw [HPE.out, rpair_same])
    clear HPE HO HRU HB1 HF1
    have HFE : Hid (fe = if pe = 0 then (if serErr c from_ step n = 0 then folErr c W a b from_ step m f1 f2 n else serErr c from_ step n) else pe) := Lib.hid (by rw [HFE0.out]; unfold followErr; rw [← HPP.out])
    clear HFE0
    generalize wc = W3 at *
    by_cases h0 : pe = 0
    · have HPZ := Lib.hid (show pairErr c W a b from_ = 0 by rw [← HPP.out]; exact h0)
      subst h0
      obtain ⟨hc, hfa, hfb, -, hmt⟩ := pair_ok HPZ.out
      have HC := Lib.hid hc
      have HMT := Lib.hid hmt
      have HRD1 := Lib.hid (HRD.out hc)
      have HSEC := Lib.hid (Wd.sec_of hfa)
      have HALA := Lib.hid (Wd.allowed_find hfa)
      have HALB := Lib.hid (Wd.allowed_find hfb)
      have HFQ : Hid (fe = if serErr c from_ step n = 0 then folErr c W a b from_ step m f1 f2 n else serErr c from_ step n) := Lib.hid (by rw [HFE.out, if_pos rfl])
      clear hc hfa hfb hmt HRD HFE HPP
      by_cases hs : step < 1
      · have HRR := Lib.hid (show fe = 1 by rw [HFQ.out]; unfold serErr; rw [if_pos hs, if_neg (by decide)])
        go_wp2_with fail
        go_ret2
        exact ⟨.inl ⟨by rw [HRR.out]; decide, by rw [HRR.out]; rfl⟩, HB3.out.bel⟩
      · by_cases hn : 2000 < n
        · have hn' : (2000 : Int) < (n : Int) := by omega
          have HRR := Lib.hid (show fe = 2 by rw [HFQ.out]; unfold serErr; rw [if_neg hs, if_pos hn', if_neg (by decide)])
          clear hn
          go_wp2_with fail
          go_ret2
          exact ⟨.inl ⟨by rw [HRR.out]; decide, by rw [HRR.out]; rfl⟩, HB3.out.bel⟩
        · have hn' : ¬ (2000 : Int) < (n : Int) := by omega
          have HN := Lib.hid (show n ≤ 2000 by omega)
          have HST := Lib.hid hs
          clear hn
          go_wp2_with fail
          clear hs hn'
          go_loopw [24, 25] (fun s24 s25 wr => ∃ i : Nat, (i = 0 ∨ i < n) ∧ s24 = .int .i64 (from_ + (i : Int) * step) ∧ s25 = .int .i64 ((i : Int) + 1) ∧ Hid (∀ j, j < i → nextOk c from_ step j) ∧ Hid (ObsAt w wr c W p1 p2 k1 k2) ∧ Hid (SpBox wr (w.heap.size + 1 + 1) f1 f2)) (fun _ s25 _ => n + 1 - (intOf s25).toNat)
          case atStart => exact ⟨0, .inl rfl, by simp, rfl, Lib.hid (fun j hj => absurd hj (Nat.not_lt_zero j)), HB3, HF3⟩
          case round =>
            clear HB3 HF3
            obtain ⟨i, hi, rfl, rfl, HNX, HB, HF⟩ := hrel
            by_cases hlt : i + 1 < n
            · have hii : (i : Int) + 1 < (n : Int) := by omega
              have HI := Lib.hid hlt
              have hskb : 0 ≤ from_ + (i : Int) * step ∧ from_ + (i : Int) * step ≤ 1000000 := by
                cases i with
                | zero => have := HSEC.out; simp; omega
                | succ q => have := meet_parts.1 (HNX.out q (by omega)).2; omega
              have hst := HST.out
              have hnn := HN.out
              have v1 : IntKind.i64.wrap ((i : Int) + 1 + 1) = (i : Int) + 1 + 1 := IntWalk.i64_in _ (by omega)
              have HSU : Hid (from_ + ((i + 1 : Nat) : Int) * step = from_ + (i : Int) * step + step) := Lib.hid (by rw [succ_mul]; omega)
              have HNE : Hid (nextOk c from_ step i ↔ step ≤ 1000000 - (from_ + (i : Int) * step) ∧ meetB c (from_ + ((i + 1 : Nat) : Int) * step) = true) := Lib.hid Iff.rfl
              have HNO : Hid (¬ nextOk c from_ step i → fe = 21) := Lib.hid fun h => by
                have e := ser_no HMT.out hnn (by have := (cntB_in HC.out).d; omega) hlt (by omega) h
                rw [HFQ.out, e, if_neg (by decide)]
              rw [HSU.out] at HNE
              obtain ⟨sk, hsk⟩ : ∃ sk, sk = from_ + (i : Int) * step := ⟨_, rfl⟩
              rw [← hsk] at hskb HNE HSU ⊢
              have v2 : IntKind.i64.wrap (1000000 - sk) = 1000000 - sk := IntWalk.i64_in _ (by omega)
              clear hlt hi hsk
              by_cases g1 : 1000000 - sk < step
              · have HRR := Lib.hid (HNO.out fun h => by have := (HNE.out.1 h).1; omega)
                have g1d : decide (1000000 - sk < step) = true := by simpa using g1
                clear hskb hst hnn
                go_upto_region 24 with fail
                go_wp2_with fail
                go_ret2
                exact ⟨.inl ⟨by rw [HRR.out]; decide, by rw [HRR.out]; rfl⟩, HB.out.bel⟩
              · have g1d : decide (1000000 - sk < step) = false := by simpa using g1
                have v3 : IntKind.i64.wrap (sk + step) = sk + step := IntWalk.i64_in _ (by omega)
                have HG1 := Lib.hid (show step ≤ 1000000 - sk by omega)
                have HRDk := Lib.hid (HRD1.out (sk + step))
                obtain ⟨bv, hbv⟩ : ∃ bv, bv = meetB c (sk + step) := ⟨_, rfl⟩
                rw [← hbv] at HRDk HNE
                clear hbv hskb hst hnn
                obtain ⟨x0, x1, x2, x3, x4, x5, x6⟩ := HB.out.cb
                have zx := cell_lt x0
                cases bv with
                | true =>
                  have HYE := Lib.hid (HNE.out.2 ⟨HG1.out, rfl⟩)
                  go_wp2_with (go_at_call 41; refine (HRDk.out _).mono ?_; rintro e w4 ⟨rfl, hb4⟩; have HB4 := Lib.hid (HB.out.below hb4); have HF4 := Lib.hid (HF.out.below hb4); clear hb4)
                  go_roundw
                  case rel => exact ⟨i + 1, .inr HI.out, by rw [HSU.out], by simp, Lib.hid (fun j hj => (by
                    by_cases e : j = i
                    · rw [e]; exact HYE.out
                    · exact HNX.out j (by omega))), HB4, HF4⟩
                  case measure => have := HI.out; simp [intOf]; omega
                | false =>
                  have HRR := Lib.hid (HNO.out fun h => by have := (HNE.out.1 h).2; cases this)
                  go_wp2_with (go_at_call 41; refine (HRDk.out _).mono ?_; rintro e w4 ⟨rfl, hb4⟩; have HB4 := Lib.hid (HB.out.below hb4); have HF4 := Lib.hid (HF.out.below hb4); clear hb4)
                  go_ret2
                  exact ⟨.inl ⟨by rw [HRR.out]; decide, by rw [HRR.out]; rfl⟩, HB4.out.bel⟩
            · have hii : ¬ (i : Int) + 1 < (n : Int) := by omega
              have hse := ser_yes HMT.out (by have := HST.out; omega) HN.out (fun j hj => HNX.out j (by omega))
              have HSO := Lib.hid (ser_ok HSEC.out hse)
              have HFZ : Hid (fe = folErr c W a b from_ step m f1 f2 n) := Lib.hid (by rw [HFQ.out, if_pos hse])
              have HGZ := Lib.hid (fun i (hi : i + 1 < n) => wid_zero HPZ.out hse hi)
              clear hlt hi HNX HFQ hse
              generalize from_ + (i : Int) * step = s24 at *
              obtain ⟨A, hA⟩ : ∃ A : Nat, a = (A : Int) := ⟨a.toNat, by have := HALA.out.k16; omega⟩
              obtain ⟨B, hB⟩ : ∃ B : Nat, b = (B : Int) := ⟨b.toNat, by have := HALB.out.k16; omega⟩
              have hAl := HALA.out.hk
              have hBl := HALB.out.hk
              have hcA := HALA.out.hc
              have hcB := HALB.out.hc
              have wA := HALA.out.cin.white
              have wB := HALB.out.cin.white
              have HNZ : Hid (noiseS W a b = 2 * ((Wd.clkOf W a).white + (Wd.clkOf W b).white)) := Lib.hid rfl
              have hta : a.toNat = A := by omega
              have htb : b.toNat = B := by omega
              rw [hta] at hAl hcA
              rw [htb] at hBl hcB
              obtain ⟨cb, co, hp2, hcl⟩ := HWL.out.2.2.2.resolve_left (by omega)
              have hAg : W.cls[A] = Wd.clkOf W a := by rw [List.getElem?_eq_getElem hAl] at hcA; exact Option.some.inj hcA
              have hBg : W.cls[B] = Wd.clkOf W b := by rw [List.getElem?_eq_getElem hBl] at hcB; exact Option.some.inj hcB
              have xa := (hcl A hAl).1.2.2.2.2.1
              have xb := (hcl B hBl).1.2.2.2.2.1
              rw [hAg] at xa
              rw [hBg] at xb
              have xa := cell_below HB.out.bel xa
              have xb := cell_below HB.out.bel xb
              generalize (Wd.clkOf W a).white = wa at *
              generalize (Wd.clkOf W b).white = wb at *
              have hAi : (A : Int) < W.cls.length := by omega
              have hBi : (B : Int) < W.cls.length := by omega
              have k3 : IntKind.i64.wrap (wa + wb) = wa + wb := IntWalk.i64_in _ (by omega)
              have HWB := Lib.hid (show (0 ≤ wa + wb ∧ wa + wb ≤ 1000000000000000) from by omega)
              have HPA := Lib.hid hA
              have HPB := Lib.hid hB
              have HP2 := Lib.hid hp2
              subst hp2
              subst hA hB
              clear hAl hBl hcA hcB hAg hBg wA wB hta htb hcl
              have zx := cell_lt xa
              obtain ⟨-, l0, l1, l2, -⟩ := HB.out
              have zl := cell_lt l0
              go_upto_region 27 with fail
              go_quiet (fail)
              clear xa xb zx l0 l1 l2 zl hAi hBi k3
              have HBQ := Lib.hid (HB.out.below (below_drewN (Below.refl wr.heap.size wr) nq))
              have HFQ := Lib.hid (HF.out.below (below_drewN (Below.refl wr.heap.size wr) nq))
              clear HB HF
              generalize wr.drewN nq = W3q at *
              obtain ⟨s0, s1⟩ := HFQ.out
              have zs := cell_lt s0
              go_upto_region 30 with fail
              have hbx := below_alloc (Below.refl W3q.heap.size W3q) (.cells #[.int .i64 f1, .int .i64 f2] 31)
              have HR0 : Hid (RFol w (W3q.alloc (.cells #[.int .i64 f1, .int .i64 f2] 31)) c W p1 (some ⟨cb, co, none⟩) k1 k2 W3q.heap.size f1 f2 (.slice none 0 0) (fun i => (folS c W (A : Int) (B : Int) from_ step m f1 f2 i).1) 0) := Lib.hid ⟨HBQ.out.below hbx, WS.new _ _ _ _, SpAt.nil (by simp) _, cell_lt HBQ.out.c2⟩
              clear hbx s0 s1 zs HBQ HFQ
              generalize W3q.alloc (.cells #[.int .i64 f1, .int .i64 f2] 31) = W4 at *
              generalize W3q.heap.size = bp at *
              go_wp2_with fail
              go_loopw [24, 27, 29, 30, 31, 32, 33, 34, 35] (fun s24 s27 s29 s30 s31 s32 s33 s34 s35 wr => ∃ (k : Nat) (v24 v v30 v31 v32 v33 v34 v35 : Value) (lo hi : Int), k ≤ n ∧ s24 = v24 ∧ v = s27 ∧ s29 = .int .i64 (k : Int) ∧ s30 = v30 ∧ s31 = v31 ∧ s32 = v32 ∧ s33 = v33 ∧ s34 = v34 ∧ s35 = v35 ∧ Hid (k = 0 → lo = f1 ∧ hi = f2) ∧ Hid (RFol w wr c W p1 (some ⟨cb, co, none⟩) k1 k2 bp lo hi v (fun i => (folS c W (A : Int) (B : Int) from_ step m f1 f2 i).1) k) ∧ Hid (∀ i, i < k → (folS c W (A : Int) (B : Int) from_ step m f1 f2 i).2 = 0)) (fun _ _ s29 _ _ _ _ _ _ _ => n - (intOf s29).toNat)
              case atStart => exact ⟨0, _, _, _, _, _, _, _, _, f1, f2, Nat.zero_le _, rfl, rfl, rfl, rfl, rfl, rfl, rfl, rfl, rfl, Lib.hid (fun _ => ⟨rfl, rfl⟩), HR0, Lib.hid (fun i hi => absurd hi (Nat.not_lt_zero i))⟩
              case round =>
                clear HR0
                obtain ⟨k, v24, v, v30, v31, v32, v33, v34, v35, lo, hi, hk, rfl, rfl, rfl, rfl, rfl, rfl, rfl, rfl, rfl, HK0, HT, HE⟩ := hrel
                by_cases hlt : k < n
                · have hki : (k : Int) < n := by omega
                  have HK := Lib.hid hlt
                  obtain ⟨lb, lo_, rfl, hcell⟩ := HL.out.resolve_left (by omega)
                  have XM0 := Lib.hid (hcell k hlt)
                  have v1' : IntKind.i64.wrap ((k : Int) + 1) = (k : Int) + 1 := IntWalk.i64_in _ (by have := HSO.out.2.1; omega)
                  clear hcell hlt hk
                  generalize wr = W5 at *
                  go_upto_if 129 with fail
                  go_cut [24, 30, 31, 32, 33] from 129 to 188 (fun s24 s30 s31 s32 s33 wx => ∃ (v24 v30 v31 v32 v33 : Value) (lo hi : Int), s24 = v24 ∧ s30 = v30 ∧ s31 = v31 ∧ s32 = v32 ∧ s33 = v33 ∧ Hid (RFol w wx c W p1 (some ⟨cb, co, none⟩) k1 k2 bp lo hi v (fun i => (folS c W (A : Int) (B : Int) from_ step m f1 f2 i).1) k) ∧ Hid (folS c W (A : Int) (B : Int) from_ step m f1 f2 k = resS c (m k) lo hi))
                  case first =>
                    cases k with
                    | zero =>
                      obtain ⟨rfl, rfl⟩ := HK0.out rfl
                      go_wp2_with fail
                      go_meet
                      exact ⟨_, _, _, _, _, _, _, rfl, rfl, rfl, rfl, rfl, HT, Lib.hid rfl⟩
                    | succ q =>
                      have hk0 : (0 : Int) < ((q + 1 : Nat) : Int) := by omega
                      have hk0b : (0 : Int) < (q : Int) + 1 := by omega
                      have hfq := HE.out q (by omega)
                      have hbd := fol_bd hfq
                      obtain ⟨⟨⟨u1, u2⟩, u3⟩, hu⟩ : ∃ r, r = folS c W (A : Int) (B : Int) from_ step m f1 f2 q := ⟨_, rfl⟩
                      obtain ⟨g, cap, rfl, hgb, d0, d1⟩ := HT.out.own.last
                      rw [← hu] at hbd hfq d0 d1
                      dsimp only at hbd hfq d0 d1
                      obtain ⟨-, hn2, hsec⟩ := HSO.out
                      obtain ⟨hs1, hs2, hs3, hs4⟩ := hsec (q + 1) HK.out
                      obtain ⟨ht1, ht2, ht3, ht4⟩ := hsec q (by have := HK.out; omega)
                      have hmul := succ_mul q step
                      have hfb := HSEC.out
                      obtain ⟨hga, hgb'⟩ := HGZ.out q HK.out
                      obtain ⟨alA, sA1, sA2⟩ := growth_small hga
                      obtain ⟨alB, sB1, sB2⟩ := growth_small hgb'
                      obtain ⟨⟨g1, g2, ge⟩, hgg⟩ : ∃ r, r = Wd.growthE W (A : Int) (from_ + (q : Int) * step) (from_ + ((q + 1 : Nat) : Int) * step) := ⟨_, rfl⟩
                      obtain ⟨⟨h1, h2, he⟩, hhh⟩ : ∃ r, r = Wd.growthE W (B : Int) (from_ + (q : Int) * step) (from_ + ((q + 1 : Nat) : Int) * step) := ⟨_, rfl⟩
                      have HRGA := Lib.hid (fun X hb => HRG.out (A : Int) (from_ + (q : Int) * step) (from_ + ((q + 1 : Nat) : Int) * step) X hb)
                      have HRGB := Lib.hid (fun X hb => HRG.out (B : Int) (from_ + (q : Int) * step) (from_ + ((q + 1 : Nat) : Int) * step) X hb)
                      have HWE : Hid (widE W (A : Int) (B : Int) (from_ + (q : Int) * step) (from_ + ((q + 1 : Nat) : Int) * step) u1 u2 = ((max (u1 + g1 - h2 - 2 * (wa + wb)) (-1000000000000000), min (u2 + g2 - h1 + 2 * (wa + wb)) 1000000000000000), 0)) := Lib.hid (by
                        unfold widE
                        rw [if_pos hga, if_pos hgb', HNZ.out, ← hgg, ← hhh])
                      rw [← hgg] at HRGA hga sA1 sA2
                      rw [← hhh] at HRGB hgb' sB1 sB2
                      dsimp only at HRGA HRGB hga hgb' sA1 sA2 sB1 sB2
                      obtain ⟨plo, hplo⟩ : ∃ x, x = max (u1 + g1 - h2 - 2 * (wa + wb)) (-1000000000000000) := ⟨_, rfl⟩
                      obtain ⟨phi, hphi⟩ : ∃ x, x = min (u2 + g2 - h1 + 2 * (wa + wb)) 1000000000000000 := ⟨_, rfl⟩
                      have HFS : Hid (folS c W (A : Int) (B : Int) from_ step m f1 f2 (q + 1) = resS c (m (q + 1)) plo phi) := Lib.hid (by
                        show (if (folS c W (A : Int) (B : Int) from_ step m f1 f2 q).2 = 0 then _ else _) = _
                        rw [← hu, if_pos hfq]
                        dsimp only
                        rw [HWE.out, if_pos rfl, hplo, hphi])
                      have hwb := HWB.out
                      obtain ⟨nz, hnz⟩ : ∃ nz, nz = wa + wb := ⟨_, rfl⟩
                      rw [← hnz] at hplo hphi hwb ⊢
                      obtain ⟨sx, hsx⟩ : ∃ sx, sx = from_ + (q : Int) * step := ⟨_, rfl⟩
                      obtain ⟨sy, hsy⟩ : ∃ sy, sy = from_ + ((q + 1 : Nat) : Int) * step := ⟨_, rfl⟩
                      rw [← hsx, ← hsy] at HRGA HRGB
                      obtain ⟨qs, hqs⟩ : ∃ qs, qs = ((q + 1 : Nat) : Int) * step := ⟨_, rfl⟩
                      rw [← hqs] at hs1 hs2 hs3 hs4 hmul hsy
                      have j1 : IntKind.i64.wrap (((q + 1 : Nat) : Int) * step) = qs := by rw [← hqs]; exact IntWalk.i64_in _ (by omega)
                      have j1b : IntKind.i64.wrap (((q : Int) + 1) * step) = qs := by rw [← j1]; simp
                      have j2 : IntKind.i64.wrap (from_ + qs) = sy := by rw [hsy]; exact IntWalk.i64_in _ (by omega)
                      have j3 : IntKind.i64.wrap (sy - step) = sx := by rw [show sy - step = sx by omega]; exact IntWalk.i64_in _ (by omega)
                      have j4b : IntKind.i64.wrap ((q : Int) + 1 - 1) = (q : Int) := by rw [IntWalk.i64_in _ (by omega)]; omega
                      have j4c : IntKind.i64.wrap (q : Int) = (q : Int) := IntWalk.i64_in _ (by omega)
                      have j5 : IntKind.i64.wrap (2 * nz) = 2 * nz := IntWalk.i64_in _ (by omega)
                      have a1 : IntKind.i64.wrap (u1 + g1) = u1 + g1 := IntWalk.i64_in _ (by omega)
                      have a2 : IntKind.i64.wrap (u1 + g1 - h2) = u1 + g1 - h2 := IntWalk.i64_in _ (by omega)
                      have a3 : IntKind.i64.wrap (u1 + g1 - h2 - 2 * nz) = u1 + g1 - h2 - 2 * nz := IntWalk.i64_in _ (by omega)
                      have a4 : (if u1 + g1 - h2 - 2 * nz < -1000000000000000 then -1000000000000000 else u1 + g1 - h2 - 2 * nz) = plo := by rw [hplo]; split <;> omega
                      have b1 : IntKind.i64.wrap (u2 + g2) = u2 + g2 := IntWalk.i64_in _ (by omega)
                      have b2 : IntKind.i64.wrap (u2 + g2 - h1) = u2 + g2 - h1 := IntWalk.i64_in _ (by omega)
                      have b3 : IntKind.i64.wrap (u2 + g2 - h1 + 2 * nz) = u2 + g2 - h1 + 2 * nz := IntWalk.i64_in _ (by omega)
                      have b4 : (if 1000000000000000 < u2 + g2 - h1 + 2 * nz then 1000000000000000 else u2 + g2 - h1 + 2 * nz) = phi := by rw [hphi]; split <;> omega
                      have hqn : (q : Int) < (q : Int) + 1 := by omega
                      have hqn2 : (q : Int) < ((q + 1 : Nat) : Int) := by omega
                      have hq0 : (0 : Int) ≤ (q : Int) := by omega
                      have D0 := Lib.hid d0
                      have D1 := Lib.hid d1
                      have HGN := Lib.hid (show g ≠ bp by omega)
                      have HNW := Lib.hid hnz
                      clear hfq hbd hu hn2 hsec hs1 hs2 hs3 hs4 ht1 ht2 ht3 ht4 hmul hfb hsx hsy hqs d0 d1 hgb hga hgb' alA alB sA1 sA2 sB1 sB2 hgg hhh HWE hplo hphi hwb hnz
                      obtain ⟨-, l0, l1, l2, -⟩ := HT.out.ob
                      have zl := cell_lt l0
                      go_upto_region 36 with (go_at_call 42; refine (HRGA.out _ HT.out.ob.bel).mono ?_; rintro e w6 ⟨rfl, hb6⟩; have HT6 := Lib.hid (HT.out.below hb6); have D06 := Lib.hid (cell_below hb6 D0.out); have D16 := Lib.hid (cell_below hb6 D1.out); clear hb6)
                      clear l0 l1 l2 zl HT D0 D1
                      have hbx := below_alloc (Below.refl w6.heap.size w6) (.cells #[.int .i64 g1, .int .i64 g2] 31)
                      have HT7 := Lib.hid (HT6.out.below hbx)
                      have HX7 := Lib.hid (SpBox.new w6 g1 g2 31)
                      have D07 := Lib.hid (cell_below hbx D06.out)
                      have D17 := Lib.hid (cell_below hbx D16.out)
                      have HNX7 := Lib.hid (show w6.heap.size ≠ bp from fun e => by have := cell_lt HT6.out.pr.c0; omega)
                      clear hbx HT6 D06 D16
                      generalize w6.alloc (.cells #[.int .i64 g1, .int .i64 g2] 31) = W7 at *
                      generalize w6.heap.size = b30 at *
                      obtain ⟨-, l0, l1, l2, -⟩ := HT7.out.ob
                      have zl := cell_lt l0
                      go_upto_region 37 with (go_at_call 42; refine (HRGB.out _ HT7.out.ob.bel).mono ?_; rintro e w8 ⟨rfl, hb8⟩; have HT8 := Lib.hid (HT7.out.below hb8); have HX8 := Lib.hid (HX7.out.below hb8); have D08 := Lib.hid (cell_below hb8 D07.out); have D18 := Lib.hid (cell_below hb8 D17.out); clear hb8)
                      clear l0 l1 l2 zl HT7 HX7 D07 D17
                      have hbx := below_alloc (Below.refl w8.heap.size w8) (.cells #[.int .i64 h1, .int .i64 h2] 31)
                      have HT9 := Lib.hid (HT8.out.below hbx)
                      have HX9 := Lib.hid (HX8.out.below hbx)
                      have HY9 := Lib.hid (SpBox.new w8 h1 h2 31)
                      have D09 := Lib.hid (cell_below hbx D08.out)
                      have D19 := Lib.hid (cell_below hbx D18.out)
                      have HNY9 := Lib.hid (show w8.heap.size ≠ bp from fun e => by have := cell_lt HT8.out.pr.c0; omega)
                      clear hbx HT8 HX8 D08 D18
                      generalize w8.alloc (.cells #[.int .i64 h1, .int .i64 h2] 31) = W9 at *
                      generalize w8.heap.size = b32 at *
                      have d0 := D09.out
                      have zd := cell_lt d0
                      obtain ⟨s0, s1⟩ := HX9.out
                      have zs := cell_lt s0
                      obtain ⟨t0, t1⟩ := HY9.out
                      have zt := cell_lt t0
                      obtain ⟨p0, p1', q0, q1⟩ := HT9.out.pr
                      have zp := cell_lt p0
                      refine (wpIn_wide (n := 9)).1 ?_
                      refine wpIn_region_pre_lit 16 2 rfl (by kernel_rfl) (by kernel_rfl) (by kernel_rfl) (by kernel_rfl) rfl ?_
                      simp only [List.take_succ_cons, List.take_zero]
                      repeat (refine wpQuietIn_step (by first | exact fun _ _ _ _ => trivial | quiet_asked_in) (fun KQ hKQ => ?_); go_simp; first | (refine hKQ _ ?_; clear hKQ KQ) | (apply Exists.intro; refine ⟨fun _ => ?_, hKQ _ ?_⟩; (fail); clear hKQ KQ))
                      refine wpQuietIn_nil ?_
                      intro _ hwq1
                      obtain ⟨nq, hwq2⟩ := hwq1
                      subst hwq2
                      simp only [List.replicate_succ, List.replicate_zero, List.cons_append, List.nil_append]
                      refine wpAnyIn_ready (rs := [16]) (by kernel_rfl) (by simp) (AllReadyIn.cons rfl (fun K' hKK => ?_) AllReadyIn.nil)
                      go_simp
                      refine hKK _ _ ?_
                      clear hKK
                      refine wpAnyIn_ready (rs := [17]) (by kernel_rfl) (by simp) (AllReadyIn.cons rfl (fun K' hKK => ?_) AllReadyIn.nil)
                      go_simp
                      refine hKK _ _ ?_
                      clear hKK
                      refine wpAnyIn_done (by kernel_rfl) ?_ _
                      go_simp
                      rename_i aK K9
                      refine aK _ _ ?_
                      clear aK K9
                      clear d0 zd s0 s1 zs t0 t1 zt p0 p1' q0 q1 zp
                      have HT10 := Lib.hid ((HT9.out.below (below_drewN (Below.refl W9.heap.size W9) nq)).lo1 plo)
                      have D010 := Lib.hid ((World.cell?_setCell_far (W9.drewN nq) (⟨bp, 0, none⟩ : Addr) (⟨g, q * 2 + 1, none⟩ : Addr) (.int .i64 plo) (Ne.symm HGN.out)).trans D19.out)
                      have HX10 : Hid (SpBox ((W9.drewN nq).setCell ⟨bp, 0, none⟩ (.int .i64 plo)) b30 g1 g2) := Lib.hid ((HX9.out.below (below_drewN (Below.refl W9.heap.size W9) nq)).far (Ne.symm HNX7.out))
                      have HY10 : Hid (SpBox ((W9.drewN nq).setCell ⟨bp, 0, none⟩ (.int .i64 plo)) b32 h1 h2) := Lib.hid ((HY9.out.below (below_drewN (Below.refl W9.heap.size W9) nq)).far (Ne.symm HNY9.out))
                      clear HT9 HX9 HY9 D09 D19
                      generalize (W9.drewN nq).setCell ⟨bp, 0, none⟩ (.int .i64 plo) = W10 at *
                      go_upto_region 38 with fail
                      have d0 := D010.out
                      have zd := cell_lt d0
                      obtain ⟨s0, s1⟩ := HX10.out
                      have zs := cell_lt s0
                      obtain ⟨t0, t1⟩ := HY10.out
                      have zt := cell_lt t0
                      obtain ⟨p0, p1', q0, q1⟩ := HT10.out.pr
                      have zp := cell_lt p0
                      clear a1 a2 a3 a4
                      refine (wpIn_wide (n := 9)).1 ?_
                      refine wpIn_region_pre_lit 16 2 rfl (by kernel_rfl) (by kernel_rfl) (by kernel_rfl) (by kernel_rfl) rfl ?_
                      simp only [List.take_succ_cons, List.take_zero]
                      repeat (refine wpQuietIn_step (by first | exact fun _ _ _ _ => trivial | quiet_asked_in) (fun KQ hKQ => ?_); go_simp; first | (refine hKQ _ ?_; clear hKQ KQ) | (apply Exists.intro; refine ⟨fun _ => ?_, hKQ _ ?_⟩; (fail); clear hKQ KQ))
                      refine wpQuietIn_nil ?_
                      intro _ hwq1
                      obtain ⟨nq, hwq2⟩ := hwq1
                      subst hwq2
                      simp only [List.replicate_succ, List.replicate_zero, List.cons_append, List.nil_append]
                      refine wpAnyIn_ready (rs := [16]) (by kernel_rfl) (by simp) (AllReadyIn.cons rfl (fun K' hKK => ?_) AllReadyIn.nil)
                      go_simp
                      refine hKK _ _ ?_
                      clear hKK
                      refine wpAnyIn_ready (rs := [17]) (by kernel_rfl) (by simp) (AllReadyIn.cons rfl (fun K' hKK => ?_) AllReadyIn.nil)
                      go_simp
                      refine hKK _ _ ?_
                      clear hKK
                      refine wpAnyIn_done (by kernel_rfl) ?_ _
                      go_simp
                      clear d0 zd s0 s1 zs t0 t1 zt p0 p1' q0 q1 zp
                      have HT11 := Lib.hid ((HT10.out.below (below_drewN (Below.refl W10.heap.size W10) nq)).hi1 phi)
                      clear HT10 HX10 HY10 D010 b1 b2 b3 b4
                      have enz := HNW.out
                      subst enz
                      go_wp2_with fail
                      go_meet
                      exact ⟨_, _, _, _, _, plo, phi, rfl, rfl, rfl, rfl, rfl, HT11, HFS⟩
                  case rest =>
                    obtain ⟨v24', v30', v31', v32', v33', rlo, rhi, rfl, rfl, rfl, rfl, rfl, HT5, HFS⟩ := hcut
                    clear HT HK0
                    have XM := Lib.hid (cell_below HT5.out.ob.bel XM0.out)
                    obtain ⟨⟨⟨r1, r2⟩, r3⟩, hr⟩ : ∃ r, r = resS c (m k) rlo rhi := ⟨_, rfl⟩
                    have HFR := Lib.hid (HFS.out.trans hr.symm)
                    have HR := Lib.hid (fun X => HRS.out (m k) rlo rhi X)
                    rw [refRes_same, resolve_in HC.out, ← hr] at HR
                    unfold resVal spVal at HR
                    dsimp only at HR
                    clear hr HFS XM0
                    generalize wc = W5 at *
                    go_upto_region 39 with fail
                    generalize W5 = W6 at *
                    have HT6 := Lib.hid HT5.out
                    clear HT5
                    go_cut [34, 35, 189] from 190 to 198 (fun s34 s35 s189 wx => ∃ (b34 : Nat) (v189 : Value), s34 = .pointer (some ⟨b34, 0, none⟩) ∧ s35 = .int .i64 r3 ∧ s189 = v189 ∧ Hid (SpBox wx b34 r1 r2) ∧ Hid (Below W6.heap.size W6 wx))
                    case first =>
                      refine wp_region_held_drew (S := fun w' => Below W6.heap.size W6 w') (by kernel_rfl) (Below.drew (Below.refl _ _)) (fun hS0 => ?_)
                      (try dsimp only at hS0)
                      generalize W6.drew = X0 at *
                      refine wpAnyH_take (i := 0) (v := ?_) rfl (by kernel_rfl) (by kernel_rfl) (by kernel_rfl) (fun _ _ _ h => h) (Or.inl ⟨by rfl, ?_⟩) (by assumption) ?_
                      rotate_left
                      · intro X hSX; (try dsimp only at hSX); obtain ⟨x0, x1, x2, x3, x4, x5, x6⟩ := (HT6.out.below hSX).ob.cb; have zx := cell_lt x0; go_simp; try with_reducible rfl
                      simp only [Act.put, List.getElem_toArray, List.getElem_cons_zero, List.setIfInBounds_toArray, List.set_cons_zero, List.set_cons_succ]
                      refine wpAnyH_take (i := 1) (v := ?_) rfl (by kernel_rfl) (by kernel_rfl) (by kernel_rfl) (fun _ _ _ h => h) (Or.inl ⟨by rfl, ?_⟩) (by assumption) ?_
                      rotate_left
                      · intro X hSX; (try dsimp only at hSX); go_simp; try with_reducible rfl
                      simp only [Act.put, List.getElem_toArray, List.getElem_cons_succ, List.getElem_cons_zero, List.setIfInBounds_toArray, List.set_cons_zero, List.set_cons_succ]
                      refine wpAnyH_take (i := 2) (v := ?_) rfl (by kernel_rfl) (by kernel_rfl) (by kernel_rfl) (fun _ _ _ h => h) (Or.inl ⟨by rfl, ?_⟩) (by assumption) ?_
                      rotate_left
                      · intro X hSX; (try dsimp only at hSX); go_simp; try with_reducible rfl
                      simp only [Act.put, List.getElem_toArray, List.getElem_cons_succ, List.getElem_cons_zero, List.setIfInBounds_toArray, List.set_cons_zero, List.set_cons_succ]
                      refine wpAnyH_take (i := 3) (v := ?_) rfl (by kernel_rfl) (by kernel_rfl) (by kernel_rfl) (fun _ _ _ h => h) (Or.inl ⟨by rfl, ?_⟩) (by assumption) ?_
                      rotate_left
                      · intro X hSX; (try dsimp only at hSX); go_simp; try with_reducible rfl
                      simp only [Act.put, List.getElem_toArray, List.getElem_cons_succ, List.getElem_cons_zero, List.setIfInBounds_toArray, List.set_cons_zero, List.set_cons_succ]
                      refine wpAnyH_take (i := 4) (v := ?_) rfl (by kernel_rfl) (by kernel_rfl) (by kernel_rfl) (fun _ _ _ h => h) (Or.inl ⟨by rfl, ?_⟩) (by assumption) ?_
                      rotate_left
                      · intro X hSX; (try dsimp only at hSX); have xm := cell_below hSX XM.out; have zm := cell_lt xm; go_simp; try with_reducible rfl
                      simp only [Act.put, List.getElem_toArray, List.getElem_cons_succ, List.getElem_cons_zero, List.setIfInBounds_toArray, List.set_cons_zero, List.set_cons_succ]
                      refine wpAnyH_take (i := 5) (v := ?_) rfl (by kernel_rfl) (by kernel_rfl) (by kernel_rfl) (fun _ _ _ h => h) (Or.inl ⟨by rfl, ?_⟩) (by assumption) ?_
                      rotate_left
                      · intro X hSX; (try dsimp only at hSX); have s0 := cell_below hSX HT6.out.pr.c0; have s1 := cell_below hSX HT6.out.pr.c1; have zs := cell_lt s0; go_simp; try with_reducible rfl
                      simp only [Act.put, List.getElem_toArray, List.getElem_cons_succ, List.getElem_cons_zero, List.setIfInBounds_toArray, List.set_cons_zero, List.set_cons_succ]
                      refine wpAnyH_ready (rs := [6, 10]) (by kernel_rfl) (by simp) (AllReadyH.cons rfl (fun K hK => ?_) (AllReadyH.cons rfl (fun K hK => ?_) AllReadyH.nil))
                      · go_simp
                        refine (HR.out _).mono ?_
                        rintro e X1 ⟨rfl, hby⟩
                        go_wp2_with fail
                        have hS1 := hS0.trans (hby.mono hS0.size)
                        refine hK.out _ _ hS1 (fun _ => ?_)
                        clear hK K hby
                        refine wpAnyH_take (i := 7) (v := ?_) rfl (by kernel_rfl) (by kernel_rfl) (by kernel_rfl) (fun _ _ _ h => h) (Or.inl ⟨by rfl, ?_⟩) (by assumption) ?_
                        rotate_left
                        · intro X hSX; (try dsimp only at hSX); go_simp; try with_reducible rfl
                        simp only [Act.put, List.getElem_toArray, List.getElem_cons_succ, List.getElem_cons_zero, List.setIfInBounds_toArray, List.set_cons_zero, List.set_cons_succ]
                        refine wpAnyH_take (i := 8) (v := ?_) rfl (by kernel_rfl) (by kernel_rfl) (by kernel_rfl) (fun _ _ _ h => h) (Or.inl ⟨by rfl, ?_⟩) (by assumption) ?_
                        rotate_left
                        · intro X hSX; (try dsimp only at hSX); go_simp; try with_reducible rfl
                        simp only [Act.put, List.getElem_toArray, List.getElem_cons_succ, List.getElem_cons_zero, List.setIfInBounds_toArray, List.set_cons_zero, List.set_cons_succ]
                        refine wpAnyH_take (i := 9) (v := ?_) rfl (by kernel_rfl) (by kernel_rfl) (by kernel_rfl) (fun _ _ _ h => h) (Or.inl ⟨by rfl, ?_⟩) (by assumption) ?_
                        rotate_left
                        · intro X hSX; (try dsimp only at hSX); go_simp; try with_reducible rfl
                        simp only [Act.put, List.getElem_toArray, List.getElem_cons_succ, List.getElem_cons_zero, List.setIfInBounds_toArray, List.set_cons_zero, List.set_cons_succ]
                        refine wpAnyH_ready (rs := [10]) (by kernel_rfl) (by simp) (AllReadyH.cons rfl (fun K hK => ?_) AllReadyH.nil)
                        go_simp
                        have hS2 := below_alloc hS1 (.cells #[.int .i64 0, .int .i64 0] 31)
                        have HZ := Lib.hid (ZS.new X1 31)
                        have hgb : Hid (W6.heap.size ≤ X1.heap.size) := Lib.hid hS1.size
                        refine hK.out _ _ hS2 (fun _ => ?_)
                        clear hK K
                        generalize X1.alloc (.cells #[.int .i64 0, .int .i64 0] 31) = X2 at *
                        generalize X1.heap.size = b34 at *
                        refine wpAnyH_ready (rs := [11]) (by kernel_rfl) (by simp) (AllReadyH.cons rfl (fun K hK => ?_) AllReadyH.nil)
                        obtain ⟨x0, x1, q0, q1⟩ := HZ.out
                        have zx := cell_lt x0
                        go_simp
                        clear x0 x1 q0 q1 zx
                        obtain ⟨hcb, honly⟩ := HZ.out.store r1 r2 _ rfl
                        have HZn := Lib.hid hcb
                        have hS3 := honly.below hS2 hgb.out
                        refine hK.out _ _ hS3 (fun _ => ?_)
                        clear hK K hcb honly HZ
                        have HZ := HZn
                        clear HZn
                        generalize (X2.setCell ⟨b34, 0, none⟩ (.int .i64 r1)).setCell ⟨b34, 1, none⟩ (.int .i64 r2) = X3 at *
                        refine wpAnyH_ready (rs := [12]) (by kernel_rfl) (by simp) (AllReadyH.cons rfl (fun K hK => ?_) AllReadyH.nil)
                        go_simp
                        refine hK.out _ _ hS3 (fun _ => ?_)
                        clear hK K
                        refine wpAnyH_done (by kernel_rfl) ?_ _
                        go_wp2_with fail
                        go_meet
                        exact ⟨b34, _, rfl, rfl, rfl, HZ, Lib.hid hS3⟩
                      · go_simp
                        have hS1 := below_alloc hS0 (.cells #[.int .i64 0, .int .i64 0] 31)
                        have HZ := Lib.hid (ZS.new X0 31)
                        have hgb : Hid (W6.heap.size ≤ X0.heap.size) := Lib.hid hS0.size
                        refine hK.out _ _ hS1 (fun _ => ?_)
                        clear hK K
                        generalize X0.alloc (.cells #[.int .i64 0, .int .i64 0] 31) = X1 at *
                        generalize X0.heap.size = b34 at *
                        refine wpAnyH_ready (rs := [6]) (by kernel_rfl) (by simp) (AllReadyH.cons rfl (fun K hK => ?_) AllReadyH.nil)
                        go_simp
                        refine (HR.out _).mono ?_
                        rintro e X2 ⟨rfl, hby⟩
                        go_wp2_with fail
                        have hS2 := hS1.trans (hby.mono hS1.size)
                        have HZn := Lib.hid (HZ.out.below hby)
                        refine hK.out _ _ hS2 (fun _ => ?_)
                        clear hK K hby
                        clear HZ
                        have HZ := HZn
                        clear HZn
                        refine wpAnyH_take (i := 7) (v := ?_) rfl (by kernel_rfl) (by kernel_rfl) (by kernel_rfl) (fun _ _ _ h => h) (Or.inl ⟨by rfl, ?_⟩) (by assumption) ?_
                        rotate_left
                        · intro X hSX; (try dsimp only at hSX); go_simp; try with_reducible rfl
                        simp only [Act.put, List.getElem_toArray, List.getElem_cons_succ, List.getElem_cons_zero, List.setIfInBounds_toArray, List.set_cons_zero, List.set_cons_succ]
                        refine wpAnyH_take (i := 8) (v := ?_) rfl (by kernel_rfl) (by kernel_rfl) (by kernel_rfl) (fun _ _ _ h => h) (Or.inl ⟨by rfl, ?_⟩) (by assumption) ?_
                        rotate_left
                        · intro X hSX; (try dsimp only at hSX); go_simp; try with_reducible rfl
                        simp only [Act.put, List.getElem_toArray, List.getElem_cons_succ, List.getElem_cons_zero, List.setIfInBounds_toArray, List.set_cons_zero, List.set_cons_succ]
                        refine wpAnyH_take (i := 9) (v := ?_) rfl (by kernel_rfl) (by kernel_rfl) (by kernel_rfl) (fun _ _ _ h => h) (Or.inl ⟨by rfl, ?_⟩) (by assumption) ?_
                        rotate_left
                        · intro X hSX; (try dsimp only at hSX); go_simp; try with_reducible rfl
                        simp only [Act.put, List.getElem_toArray, List.getElem_cons_succ, List.getElem_cons_zero, List.setIfInBounds_toArray, List.set_cons_zero, List.set_cons_succ]
                        refine wpAnyH_ready (rs := [11]) (by kernel_rfl) (by simp) (AllReadyH.cons rfl (fun K hK => ?_) AllReadyH.nil)
                        obtain ⟨x0, x1, q0, q1⟩ := HZ.out
                        have zx := cell_lt x0
                        go_simp
                        clear x0 x1 q0 q1 zx
                        obtain ⟨hcb, honly⟩ := HZ.out.store r1 r2 _ rfl
                        have HZn := Lib.hid hcb
                        have hS3 := honly.below hS2 hgb.out
                        refine hK.out _ _ hS3 (fun _ => ?_)
                        clear hK K hcb honly HZ
                        have HZ := HZn
                        clear HZn
                        generalize (X2.setCell ⟨b34, 0, none⟩ (.int .i64 r1)).setCell ⟨b34, 1, none⟩ (.int .i64 r2) = X3 at *
                        refine wpAnyH_ready (rs := [12]) (by kernel_rfl) (by simp) (AllReadyH.cons rfl (fun K hK => ?_) AllReadyH.nil)
                        go_simp
                        refine hK.out _ _ hS3 (fun _ => ?_)
                        clear hK K
                        refine wpAnyH_done (by kernel_rfl) ?_ _
                        go_wp2_with fail
                        go_meet
                        exact ⟨b34, _, rfl, rfl, rfl, HZ, Lib.hid hS3⟩
                    case rest =>
                      obtain ⟨b34, v189, rfl, rfl, rfl, HBX, HBW⟩ := hcut
                      have HT7 := Lib.hid (HT6.out.below HBW.out)
                      clear HT6 HBW
                      generalize wc = W7 at *
                      by_cases h3 : r3 = 0
                      · subst h3
                        have HE2 : Hid (∀ i, i < k + 1 → (folS c W (A : Int) (B : Int) from_ step m f1 f2 i).2 = 0) := Lib.hid fun i hi => by
                          by_cases e : i = k
                          · subst e; rw [HFR.out]
                          · exact HE.out i (by omega)
                        have HFR2 : Hid ((fun i => (folS c W (A : Int) (B : Int) from_ step m f1 f2 i).1) k = (r1, r2)) := Lib.hid (by dsimp only; rw [HFR.out])
                        obtain ⟨t0, t1⟩ := HBX.out
                        have zt := cell_lt t0
                        go_wp2_with (at_builtin; refine wpList_append_own_at _ rfl (.tmp 202) (.tmp 204) _ rfl (bp + 1) 31 i0 (.agg #[.int .i64 0, .int .i64 0]) 2 16 Tryz.underlying52 hi0 hz0 hz1 hz2 rfl (by decide) _ k _ rfl (World.ownsRow.alloc HT7.out.own.own _) ⟨W7.heap.size, 0, none⟩ 1 1 [.int .i64 r1, .int .i64 r2] rfl rfl (spn_new _ _ _ _) (by simp [Value.oneCell']) (by have := HN.out; have := HK.out; unfold maxLen; omega) (by have := HN.out; have := HK.out; omega) (by have := HT7.out.own.le; simp; omega) ?_; intro v' z1 hown hg _ _; have HT8 := Lib.hid (HT7.out.more HFR2.out hown hg); clear hown hg)
                        go_roundw
                        case rel => exact ⟨k + 1, _, v', _, _, _, _, _, _, rlo, rhi, HK.out, rfl, rfl, by simp, rfl, rfl, rfl, rfl, rfl, rfl, Lib.hid (fun h => absurd h (Nat.succ_ne_zero k)), HT8, HE2⟩
                        case measure => have := HK.out; simp [intOf]; omega
                      · have hne : (r3 != 0) = true := by simpa using h3
                        have HRR : Hid (fe = r3) := Lib.hid (by
                          rw [HFZ.out, fol_last (k := k) (by rw [HFR.out]; exact h3) HK.out, HFR.out])
                        have H3 := Lib.hid h3
                        clear h3
                        go_wp2_with fail
                        go_ret2
                        exact ⟨.inl ⟨by rw [HRR.out]; exact H3.out, by rw [HRR.out]; rfl⟩, HT7.out.ob.bel⟩
                · obtain rfl : k = n := by omega
                  have hki : ¬ (k : Int) < k := by omega
                  clear hlt hk
                  obtain ⟨q, d, rfl, hfn⟩ := HT.out.own.in_
                  have HFN := Lib.hid hfn
                  have HBZ := Lib.hid HT.out.ob.bel
                  have HZ : Hid (fe = 0) := Lib.hid (by
                    rw [HFZ.out]
                    cases k with
                    | zero => rfl
                    | succ q => exact HE.out q (by omega))
                  clear hfn HT
                  go_wp2_with fail
                  go_ret2
                  exact ⟨.inr ⟨HZ.out, q, ⟨d, rfl⟩, HFN.out⟩, HBZ.out⟩
    · have HRR := Lib.hid (show fe = pe by rw [HFE.out, if_neg h0])
      have hne : (pe != 0) = true := by simpa using h0
      have HPN := Lib.hid h0
      clear h0
      go_wp2_with fail
      go_ret2
      exact ⟨.inl ⟨by rw [HRR.out]; exact HPN.out, by rw [HRR.out]; rfl⟩, HB3.out.bel⟩
end Go.Proofs.YtlelamjbfjneiaaGreatDoor.Ct
