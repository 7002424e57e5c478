/- The reference's Watch: where it is allowed; in all cases. · Plain: the reference's Watch says what the program's says. -/
import Derived.Test.YtlelamjbfjneiaaGreatDoorQ35
import Derived.Test.YtlelamjbfjneiaaGreatDoorQ33
namespace Go.Proofs.YtlelamjbfjneiaaGreatDoor.Ct
open Go Go.RowKit Go.Shelf
attribute [local go_sem] Oper.semAt_some
theorem OwnF.plus {B k : Nat} {Y : World} {v' : Value} {f : Nat → Int} {x : Int} (hx : f k = x) (hown : Y.ownsRow B 3 1 v' (k + 1) (seqV f k ++ [.int .i64 x])) : OwnF B Y v' f (k + 1) := by
  unfold OwnF; rw [seqV_succ, hx]; exact hown
theorem OwnF.fence {k : Nat} {W X Y : World} {v : Value} {f : Nat → Int} {o : Obj} (h : OwnF W.heap.size X v f k) (hb : Below W.heap.size W X) (hg : (X.alloc o).grownBy Y v.ownBlock) : Below W.heap.size W Y :=
  (hb.alloc hb.size o).grown hg (by have := hb.size; simp; omega) (fun k hk => (World.ownsRow.lt h k hk).1)
/-- the second of the reference's measurement i -/
def rwatS (from_ st : Int) (i : Nat) : Int := IntKind.i64.wrap (from_ + IntKind.i64.wrap ((i : Int) * st))
def rwatchErr (c : Cnt) (W : Wd.Wld) (a b from_ step n : Int) : Int :=
  if cntB c = true then (if step < 1 then 1 else if 0 ≤ n ∧ n ≤ 2000 then firstE (fun i => (obsE c W a b (rwatS from_ step i)).2) n.toNat else 1) else 30
def rwatchM (c : Cnt) (W : Wd.Wld) (a b from_ step : Int) (i : Nat) : Int := (obsE c W a b (rwatS from_ step i)).1
def RWatRet (c : Cnt) (W : Wd.Wld) (a b from_ step n : Int) (w : World) (e : Ending) (w' : World) : Prop :=
  (rwatchErr c W a b from_ step n ≠ 0 ∧ e = .returned (.tuple #[.slice none 0 0, .int .i64 (rwatchErr c W a b from_ step n)]) ∨
   rwatchErr c W a b from_ step n = 0 ∧ ∃ p cap, e = .returned (.tuple #[.slice p n.toNat cap, .int .i64 0]) ∧ FnIn w' (rwatchM c W a b from_ step) n.toNat p) ∧ Below w.heap.size w w'
set_option maxRecDepth 100000 in
set_option maxHeartbeats 8000000 in
theorem rWatch_yes (c : Cnt) (W : Wd.Wld) (a b from_ step : Int) (n : Nat) (p1 p2 : Option Addr) (k1 k2 : Nat) (w : World) (HS : RShown W p1 p2 k1 k2 w) (hc : cntB c = true) (hs : ¬ step < 1) (hn : n ≤ 2000) :
    Calls Tryz.prog 11 #[cntVal c, wV W p1 p2 k1 k2, .int .i64 a, .int .i64 b, .int .i64 from_, .int .i64 step, .int .i64 (n : Int)] w (RWatRet c W a b from_ step n w) := by
  have HB := Lib.hid (RObsAt.new w c W p1 p2 k1 k2)
  have HCK := Lib.hid (fun W => rcheck_any c W)
  rw [show checkC c = 0 from if_pos hc] at HCK
  have hE : rwatchErr c W a b from_ step n = firstE (fun i => (obsE c W a b (rwatS from_ step i)).2) n := by
    unfold rwatchErr
    rw [if_pos hc, if_neg hs, if_pos (by omega), Int.toNat_natCast]
  have HOB := Lib.hid (fun s X (hb : Below w.heap.size w X) => rObserve_any c W a b s p1 p2 k1 k2 X (fun k s Y hY => HS k s Y (hb.trans (hY.mono hb.size))))
  unfold cntVal wV at HOB
  have HN := Lib.hid hn
  unfold RWatRet
  rw [hE, Int.toNat_natCast]
  have HM : Hid (∀ i : Nat, rwatchM c W a b from_ step i = (obsE c W a b (rwatS from_ step i)).1) := Lib.hid fun i => rfl
  obtain ⟨i0, hi0, hz0, hz1, hz2⟩ := info_parts infoInt
  unfold cntVal at *
  unfold wV
  generalize rwatchM c W a b from_ step = mm at *
  have n1 : ¬ (n : Int) < 0 := by omega
  have n2 : ¬ 2000 < (n : Int) := by omega
  clear HS hc hE hn
  go_enter Tryz.func11, Tryz.ntmps11
  go_upto_region 1 with fail
  generalize ((w.alloc (.cells #[.int .i64 c.f, .int .i64 c.o, .int .i64 c.j, .int .i64 c.g, .int .i64 c.r, .int .i64 c.d, .int .i64 c.i] 23)).alloc (.cells #[.int .u64 W.seed, .slice p1 W.chs.length k1, .slice p2 W.cls.length k2] 28)) = W0 at *
  obtain ⟨x0, x1, x2, x3, x4, x5, x6⟩ := HB.out.cb
  have zx := cell_lt x0
  go_upto_region 5 with (go_at_call 27; refine (HCK.out _).mono ?_; rintro e w1 ⟨rfl, hb1⟩; have HB1 := Lib.hid (HB.out.below hb1); clear hb1)
  clear x0 x1 x2 x3 x4 x5 x6 zx HB HCK hs n1 n2
  go_wp2_with fail
  generalize w1 = W3 at *
  go_loopw [14, 15, 16, 17, 18, 19] (fun s14 s15 s16 s17 s18 s19 wr => ∃ (k : Nat) (v v18 v19 : Value), k ≤ n ∧ s14 = .slice none 0 0 ∧ s15 = .int .i64 0 ∧ s16 = v ∧ s17 = .int .i64 (k : Int) ∧ s18 = v18 ∧ s19 = v19 ∧ Hid (OwnF W3.heap.size wr v mm k) ∧ Hid (Below W3.heap.size W3 wr) ∧ Hid (firstE (fun i => (obsE c W a b (rwatS from_ step i)).2) k = 0)) (fun _ _ _ s17 _ _ _ => n - (intOf s17).toNat)
  case atStart => exact ⟨0, _, _, _, Nat.zero_le _, rfl, rfl, rfl, rfl, rfl, rfl, Lib.hid (OwnF.nil _ _ _), Lib.hid (Below.refl _ _), Lib.hid rfl⟩
  case round =>
    obtain ⟨k, v, v18, v19, hk, rfl, rfl, rfl, rfl, rfl, rfl, HO, HBk, HE⟩ := hrel
    by_cases hlt : k < n
    · have hki : (k : Int) < n := by omega
      have HK := Lib.hid hlt
      have hn := HN.out
      obtain ⟨t1, ht1⟩ : ∃ t, t = IntKind.i64.wrap ((k : Int) * step) := ⟨_, rfl⟩
      obtain ⟨sk, hsk⟩ : ∃ sk, sk = IntKind.i64.wrap (from_ + t1) := ⟨_, rfl⟩
      have j1 : IntKind.i64.wrap ((k : Int) * step) = t1 := ht1.symm
      have j2 : IntKind.i64.wrap (from_ + t1) = sk := hsk.symm
      have hws : rwatS from_ step k = sk := by unfold rwatS; rw [j1, j2]
      have v1 : IntKind.i64.wrap ((k : Int) + 1) = (k : Int) + 1 := IntWalk.i64_in _ (by omega)
      obtain ⟨⟨mk, gk⟩, hmg⟩ : ∃ r, r = obsE c W a b sk := ⟨_, rfl⟩
      have hmm : mm k = mk := by rw [HM.out k, hws, ← hmg]
      have HX := Lib.hid hmm
      have HOk := Lib.hid (HB1.out.below HBk.out)
      have HO1 := Lib.hid (HOB.out sk wr HOk.out.bel)
      have hfe : firstE (fun i => (obsE c W a b (rwatS from_ step i)).2) (k + 1) = gk := by
        show (if firstE (fun i => (obsE c W a b (rwatS from_ step i)).2) k = 0 then (obsE c W a b (rwatS from_ step k)).2 else _) = gk
        rw [if_pos HE.out, hws, ← hmg]
      rw [← hmg] at HO1
      dsimp only at HO1
      have HFE := Lib.hid hfe
      clear hn hsk ht1 hmg hmm hfe hlt hk HE hws
      obtain ⟨⟨x0, x1, x2, x3, x4, x5, x6⟩, l0, l1, l2, -⟩ := HOk.out
      have zx := cell_lt x0
      have zl := cell_lt l0
      go_upto_region 10 with (go_at_call 9; refine HO1.out.mono ?_; rintro e w4 ⟨rfl, hb4⟩; have HO4 := Lib.hid (HO.out.below hb4); have HB4 := Lib.hid (Below.trans HBk.out (hb4.mono HBk.out.size)); have HT4 := Lib.hid (HOk.out.below hb4); clear hb4)
      clear x0 x1 x2 x3 x4 x5 x6 l0 l1 l2 zx zl HO HBk HOk HO1 j1 j2
      by_cases hg : gk = 0
      · subst hg
        go_wp2_with (at_builtin; refine wpList_append_own_at _ rfl (.tmp 54) (.tmp 56) _ rfl W3.heap.size 3 i0 (.int .i64 0) 1 8 Tryz.underlying29 hi0 hz0 hz1 hz2 rfl (by decide) _ k _ rfl (World.ownsRow.alloc HO4.out _) ⟨w4.heap.size, 0, none⟩ 1 1 [.int .i64 mk] rfl rfl (cell_one_new _ _ _) (by simp [Value.oneCell']) (by have := HK.out; have := HN.out; unfold maxLen; omega) (by have := HK.out; have := HN.out; omega) (by have := HB4.out.size; simp; omega) ?_; intro v' z1 hown hg _ _; have HO5 := Lib.hid (OwnF.plus HX.out hown); have HB5 := Lib.hid (HO4.out.fence HB4.out hg); clear hown hg)
        go_roundw
        case rel => exact ⟨k + 1, v', _, _, HK.out, rfl, rfl, rfl, by simp, rfl, rfl, HO5, HB5, HFE⟩
        case measure => have := HK.out; simp [intOf]; omega
      · have hne : (gk != 0) = true := by simpa using hg
        have HG := Lib.hid hg
        clear hg
        go_wp2_with fail
        go_ret2
        refine ⟨.inl ?_, HT4.out.bel⟩
        have e : firstE (fun i => (obsE c W a b (rwatS from_ step i)).2) n = gk := by
          rw [firstE_more (k := k + 1) (by rw [HFE.out]; exact HG.out) n HK.out, HFE.out]
        rw [e]
        exact ⟨HG.out, rfl⟩
    · obtain rfl : k = n := by omega
      have hki : ¬ (k : Int) < k := by omega
      clear hlt hk
      obtain ⟨p, cap, rfl, hfn⟩ := HO.out.in_
      have HF := Lib.hid hfn
      have HT4 := Lib.hid (HB1.out.below HBk.out)
      clear hfn HO
      go_wp2_with fail
      go_ret2
      exact ⟨.inr ⟨HE.out, p, ⟨cap, rfl⟩, HF.out⟩, HT4.out.bel⟩
/-- the reference's Watch, whatever it is asked -/
theorem rWatch_any (c : Cnt) (W : Wd.Wld) (a b from_ step n : Int) (p1 p2 : Option Addr) (k1 k2 : Nat) (w : World) (HS : RShown W p1 p2 k1 k2 w) :
    Calls Tryz.prog 11 #[cntVal c, wV W p1 p2 k1 k2, .int .i64 a, .int .i64 b, .int .i64 from_, .int .i64 step, .int .i64 n] w (RWatRet c W a b from_ step n w) := by
  by_cases hc : cntB c = true
  · by_cases hs : step < 1
    · have e : rwatchErr c W a b from_ step n = 1 := by unfold rwatchErr; rw [if_pos hc, if_pos hs]
      exact (rWatch_no c W a b from_ step n 1 p1 p2 k1 k2 w (.inr ⟨hc, rfl, .inl hs⟩)).mono fun _ _ h => ⟨.inl (by rw [e]; exact ⟨by decide, h.1⟩), h.2⟩
    · by_cases hn : 0 ≤ n ∧ n ≤ 2000
      · obtain ⟨N, rfl⟩ : ∃ N : Nat, n = (N : Int) := ⟨n.toNat, by omega⟩
        exact rWatch_yes c W a b from_ step N p1 p2 k1 k2 w HS hc hs (by omega)
      · have e : rwatchErr c W a b from_ step n = 1 := by unfold rwatchErr; rw [if_pos hc, if_neg hs, if_neg hn]
        exact (rWatch_no c W a b from_ step n 1 p1 p2 k1 k2 w (.inr ⟨hc, rfl, .inr hn⟩)).mono fun _ _ h => ⟨.inl (by rw [e]; exact ⟨by decide, h.1⟩), h.2⟩
  · have e : rwatchErr c W a b from_ step n = 30 := by unfold rwatchErr; rw [if_neg hc]
    exact (rWatch_no c W a b from_ step n 30 p1 p2 k1 k2 w (.inl ⟨by simpa using hc, rfl⟩)).mono fun _ _ h => ⟨.inl (by rw [e]; exact ⟨by decide, h.1⟩), h.2⟩
end Go.Proofs.YtlelamjbfjneiaaGreatDoor.Ct
namespace Go.Proofs.YtlelamjbfjneiaaGreatDoor.Ct
open Go Go.RowKit
theorem shown_out {W : Wd.Wld} {k s t : Int} (h : (Wd.shownE W k s).e = 0) (ht : t < 0 ∨ 1000000 < t) : (Wd.shownE W k t).e = 21 := by
  have hr : Wd.runErr W k s = 0 := by
    by_cases h' : Wd.runErr W k s = 0
    · exact h'
    · unfold Wd.shownE at h; rw [if_neg h'] at h; exact absurd h h'
  obtain ⟨h1, h2, -⟩ := Wd.findErr_zero (Wd.runErr_zero hr).1
  have hs : Wd.secsOk [t] = false := by
    unfold Wd.secsOk Wd.inR
    simp only [List.all_cons, List.all_nil, Bool.and_true, Bool.and_eq_false_iff, decide_eq_false_iff_not]
    omega
  have hf : Wd.findErr W k [t] = 21 := by unfold Wd.findErr; rw [if_pos h1, if_pos h2, hs]; rfl
  have he : Wd.runErr W k t = 21 := by unfold Wd.runErr; rw [if_neg (by rw [hf]; decide)]; exact hf
  unfold Wd.shownE
  rw [if_neg (by rw [he]; decide)]
  exact he
theorem shown_sec {W : Wd.Wld} {k s : Int} (h : (Wd.shownE W k s).e = 0) : 0 ≤ s ∧ s ≤ 1000000 := by
  by_cases hs : s < 0 ∨ 1000000 < s
  · have := shown_out h hs; omega
  · omega
theorem obs_ok {c : Cnt} {W : Wd.Wld} {a b s : Int} (h : (obsE c W a b s).2 = 0) : cntB c = true ∧ (Wd.shownE W a s).e = 0 := by
  unfold obsE at h
  by_cases hc : cntB c = true
  · rw [if_pos hc] at h
    by_cases h1 : (Wd.shownE W a s).e = 0
    · exact ⟨hc, h1⟩
    · rw [if_neg h1] at h; exact absurd h h1
  · rw [if_neg hc] at h; exact absurd h (by decide)
theorem obs_far {c : Cnt} {W : Wd.Wld} {a b s t : Int} (h : (obsE c W a b s).2 = 0) (ht : t < 0 ∨ 1000000 < t) : (obsE c W a b t).2 = 21 := by
  obtain ⟨hc, h1⟩ := obs_ok h
  have h2 := shown_out h1 ht
  unfold obsE
  rw [if_pos hc, if_neg (by rw [h2]; decide)]
  exact h2
theorem firstE_congr {f g : Nat → Int} : ∀ {n : Nat}, (∀ i, i < n → f i = g i) → firstE f n = firstE g n
  | 0, _ => rfl
  | n + 1, h => by
    have := firstE_congr (n := n) fun i hi => h i (by omega)
    show (if firstE f n = 0 then f n else firstE f n) = (if firstE g n = 0 then g n else firstE g n)
    rw [this, h n (by omega)]
theorem wat_near {from_ step : Int} (h1 : 1 ≤ step) (h2 : step ≤ 1000001) {i : Nat} (hi : i < 2000) : rwatS from_ step i = watS from_ (stW step) i := by
  have e : stW step = step := by unfold stW; rw [if_neg (by omega)]
  have m1 : 0 ≤ (i : Int) * step := Int.mul_nonneg (by omega) (by omega)
  have m2 : (i : Int) * step ≤ 2000 * step := Int.mul_le_mul_of_nonneg_right (by omega) (by omega)
  unfold rwatS watS
  rw [e, show IntKind.i64.wrap ((i : Int) * step) = (i : Int) * step from IntWalk.i64_in _ (by omega)]
theorem watch_same {c : Cnt} {W : Wd.Wld} {a b from_ step n : Int} (hf : -9223372036854775808 ≤ from_ ∧ from_ ≤ 9223372036854775807) (hs : step ≤ 9223372036854775807) :
    rwatchErr c W a b from_ step n = watchErr c W a b from_ step n ∧ (watchErr c W a b from_ step n = 0 → ∀ i, i < n.toNat → rwatchM c W a b from_ step i = watchM c W a b from_ step i) := by
  unfold rwatchErr watchErr
  by_cases hc : cntB c = true
  · rw [if_pos hc, if_pos hc]
    by_cases h1 : step < 1
    · rw [if_pos h1, if_pos h1]; exact ⟨rfl, fun h => absurd h (by decide)⟩
    · rw [if_neg h1, if_neg h1]
      by_cases hn : 0 ≤ n ∧ n ≤ 2000
      · rw [if_pos hn, if_pos hn]
        obtain ⟨N, rfl⟩ : ∃ N : Nat, n = (N : Int) := ⟨n.toNat, by omega⟩
        rw [Int.toNat_natCast]
        by_cases h2 : step ≤ 1000001
        · have hw : ∀ i : Nat, i < N → rwatS from_ step i = watS from_ (stW step) i := fun i hi => wat_near (by omega) h2 (by omega)
          exact ⟨firstE_congr fun i hi => by rw [hw i hi], fun _ i hi => by unfold rwatchM watchM; rw [hw i hi]⟩
        · have e : stW step = 1000001 := by unfold stW; rw [if_pos (by omega)]
          have z1 : rwatS from_ step 0 = from_ := by
            unfold rwatS
            rw [show ((0 : Nat) : Int) * step = 0 by simp, IntWalk.i64_in 0 (by omega), Int.add_zero, IntWalk.i64_in _ hf]
          have z2 : watS from_ (stW step) 0 = from_ := by
            unfold watS
            rw [show ((0 : Nat) : Int) * stW step = 0 by simp, Int.add_zero, IntWalk.i64_in _ hf]
          by_cases hN : N = 0
          · subst hN; exact ⟨rfl, fun _ i hi => absurd hi (Nat.not_lt_zero i)⟩
          · by_cases h0 : (obsE c W a b from_).2 = 0
            · by_cases hN1 : N = 1
              · subst hN1
                have hw : ∀ i : Nat, i < 1 → rwatS from_ step i = watS from_ (stW step) i := fun i hi => by
                  rw [show i = 0 by omega, z1, z2]
                exact ⟨firstE_congr fun i hi => by rw [hw i hi], fun _ i hi => by unfold rwatchM watchM; rw [hw i hi]⟩
              · have hr := shown_sec (obs_ok h0).2
                have o1 : rwatS from_ step 1 < 0 ∨ 1000000 < rwatS from_ step 1 := by
                  unfold rwatS
                  rw [show ((1 : Nat) : Int) * step = step by simp, IntWalk.i64_in step (by omega), IntKind.wrap_i64]
                  omega
                have o2 : watS from_ (stW step) 1 < 0 ∨ 1000000 < watS from_ (stW step) 1 := by
                  unfold watS
                  rw [e, show ((1 : Nat) : Int) * 1000001 = 1000001 by simp, IntKind.wrap_i64]
                  omega
                have q1 : firstE (fun i => (obsE c W a b (rwatS from_ step i)).2) 2 = 21 := by
                  simp only [firstE, z1, h0, if_true, obs_far h0 o1]
                have q2 : firstE (fun i => (obsE c W a b (watS from_ (stW step) i)).2) 2 = 21 := by
                  simp only [firstE, z2, h0, if_true, obs_far h0 o2]
                rw [firstE_more (k := 2) (by rw [q1]; decide) N (by omega), firstE_more (k := 2) (by rw [q2]; decide) N (by omega), q1, q2]
                exact ⟨rfl, fun h => absurd h (by decide)⟩
            · have q1 : firstE (fun i => (obsE c W a b (rwatS from_ step i)).2) 1 = (obsE c W a b from_).2 := by
                simp only [firstE, z1, if_true]
              have q2 : firstE (fun i => (obsE c W a b (watS from_ (stW step) i)).2) 1 = (obsE c W a b from_).2 := by
                simp only [firstE, z2, if_true]
              rw [firstE_more (k := 1) (by rw [q1]; exact h0) N (by omega), firstE_more (k := 1) (by rw [q2]; exact h0) N (by omega), q1, q2]
              exact ⟨rfl, fun h => absurd h h0⟩
      · rw [if_neg hn, if_neg hn]; exact ⟨rfl, fun h => absurd h (by decide)⟩
  · rw [if_neg hc, if_neg hc]; exact ⟨rfl, fun h => absurd h (by decide)⟩
end Go.Proofs.YtlelamjbfjneiaaGreatDoor.Ct
