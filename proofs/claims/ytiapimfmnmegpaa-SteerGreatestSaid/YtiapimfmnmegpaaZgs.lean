/- Stage 6 (steer): the law SteerGreatest: its two laws. -/
import Derived.Test.YtiapimfmnmegpaaZtu
namespace Go.Proofs.Ytiapimfmnmegpaa.St
open Go Go.RowKit Go.Shelf
attribute [local go_sem] Oper.semAt_some
/-- the number for an index; the two laws that are made of it -/
def numA (fl : Nat → Int) (n i : Nat) : Int := if 0 < n then fl (i % n) else 0
def anyA (r : Int) (fl : Nat → Int) (n i : Nat) : Int := if r < numA fl n i % (2 * r + 2) - r then 1000 else numA fl n i % (2 * r + 2) - r
def someA (r : Int) (fl fc : Nat → Int) (n i : Nat) : Int := if (numA fl n i).tmod 5 = 0 then anyA r fl n i else fc i
set_option maxRecDepth 100000 in
set_option maxHeartbeats 8000000 in
theorem greatest_main (l r s z : Int) (fl : Nat → Int) (p : Option Addr) (n c : Nat) (hp : planB l r s z = true) (hs : sizP l r ≤ 600) (hn : n ≤ 2000) (w : World) (hl : NumIn w fl n p) :
    Calls Try.prog 6 #[.agg #[.int .i64 l, .int .i64 r, .int .i64 s, .int .i64 z], .slice p n c] w fun e w' => e = .returned (.bool true) ∧ Below w.heap.size w w' := by
  obtain ⟨W0, hW0, g0, g1, hB0⟩ := law_start w l r s z
  have HX := Lib.hid (show ∀ X, Below W0.heap.size W0 X → PlC X w.heap.size l r s z ∧ PlC X (w.heap.size + 1) l r s z from fun X hX => ⟨(g0.below hX).c, (g1.below hX).c⟩)
  have HB0 := Lib.hid hB0
  have HBI := Lib.hid (fun W => big_any l r s z W)
  have HCK := Lib.hid (fun W => check_any l r s z W)
  have HAW := Lib.hid (fun W => awake_any W)
  have h := plan_ok hp
  have HPL := Lib.hid h
  have HPB := Lib.hid hp
  rw [show bigB l r s z = false by unfold bigB; rw [hp]; simp; omega] at HBI
  rw [show planE l r s z = 0 by unfold planE; simp [hp]] at HCK
  have hb := siz_bd h
  have HS := Lib.hid (show sizP l r = (2 * l + 1) * (2 * r + 1) from rfl)
  have v5 : IntKind.i64.wrap ((2 * l + 1) * (2 * r + 1)) = (2 * l + 1) * (2 * r + 1) := by rw [← HS.out]; exact IntWalk.i64_in _ (by omega)
  have HN := Lib.hid h.siz.n
  have v9 : (((sizP l r).toNat : Nat) : Int) = (2 * l + 1) * (2 * r + 1) := by rw [← HS.out]; exact h.siz.n.symm
  obtain ⟨_, _, _, _, _, _, _, _⟩ := h
  have v1 : IntKind.i64.wrap (2 * l) = 2 * l := IntWalk.i64_in _ (by omega)
  have v2 : IntKind.i64.wrap (2 * l + 1) = 2 * l + 1 := IntWalk.i64_in _ (by omega)
  have v3 : IntKind.i64.wrap (2 * r) = 2 * r := IntWalk.i64_in _ (by omega)
  have v4 : IntKind.i64.wrap (2 * r + 1) = 2 * r + 1 := IntWalk.i64_in _ (by omega)
  have v7 : ¬ l < 0 := by omega
  have v8 : ¬ r < 0 := by omega
  have v6 : ¬ (2000 : Int) < (n : Int) := by omega
  have HSB := Lib.hid (show 3 ≤ sizP l r ∧ sizP l r ≤ 600 from ⟨hb.1, hs⟩)
  have HLN := Lib.hid (show ∀ X, Below w.heap.size w X → NumIn X fl n p from fun X hX => hl.below hX)
  clear g0 g1 hB0 hp hs hb hn
  have HCH := Lib.hid (fun W => Chart_ok HPB.out W)
  have HPC := Lib.hid (fun b W (hW : NumIn W (chartF l r s z) (sizP l r).toNat (some ⟨b, 0, none⟩)) => Prove_ok HPB.out (chartF l r s z) b 0 (sizP l r).toNat (Nat.le_refl _) W hW)
  rw [if_pos (chart_proved HPL.out)] at HPC
  go_enter Try.func6, Try.ntmps6
  go_upto_region 2 with fail
  clear hW0
  have HB := Lib.hid (Below.refl W0.heap.size W0)
  obtain ⟨⟨p0, p1, p2, p3⟩, ⟨q0, q1, q2, q3⟩⟩ := HX.out W0 (Below.refl _ _)
  have zp := cell_lt p0
  have zq := cell_lt q0
  go_upto_region 4 with (first | (go_at_call 8; refine (HBI.out _).mono ?_; rintro e w1 ⟨rfl, hb1⟩; clear p0 p1 p2 p3 q0 q1 q2 q3 zp zq; have HB := Lib.hid (bt HB.out hb1); clear hb1; obtain ⟨⟨p0, p1, p2, p3⟩, ⟨q0, q1, q2, q3⟩⟩ := HX.out _ HB.out; have zp := cell_lt p0; have zq := cell_lt q0) | (go_at_call 15; refine (HCK.out _).mono ?_; rintro e w1 ⟨rfl, hb1⟩; clear p0 p1 p2 p3 q0 q1 q2 q3 zp zq; have HB := Lib.hid (bt HB.out hb1); clear hb1; obtain ⟨⟨p0, p1, p2, p3⟩, ⟨q0, q1, q2, q3⟩⟩ := HX.out _ HB.out; have zp := cell_lt p0; have zq := cell_lt q0))
  go_upto_region 5 with (go_at_call 12; refine (HCH.out _).mono ?_; rintro e w3 ⟨bc, rfl, hnc, hbc, hb3⟩; clear p0 p1 p2 p3 q0 q1 q2 q3 zp zq; have HBC := Lib.hid (Nat.le_trans HB.out.size hbc); have HB := Lib.hid (bt HB.out hb3); have HNC := Lib.hid hnc; clear hb3 hnc hbc; obtain ⟨⟨p0, p1, p2, p3⟩, ⟨q0, q1, q2, q3⟩⟩ := HX.out _ HB.out; have zp := cell_lt p0; have zq := cell_lt q0)
  go_upto_region 7 with (go_at_call 20; refine (HPC.out _ _ HNC.out.in_).mono ?_; rintro e w4 ⟨rfl, hb4⟩; clear p0 p1 p2 p3 q0 q1 q2 q3 zp zq; have HB := Lib.hid (bt HB.out hb4); have HNC := Lib.hid (HNC.out.below hb4); clear hb4; obtain ⟨⟨p0, p1, p2, p3⟩, ⟨q0, q1, q2, q3⟩⟩ := HX.out _ HB.out; have zp := cell_lt p0; have zq := cell_lt q0)
  obtain ⟨i0, hi0, hz0, hz1, hz2⟩ := info_parts infoInt
  have HPK := Lib.hid (fun m W => pick_any m (2 * r + 2) W (by have := HPL.out.r1; have := HPL.out.r2; omega))
  have u3 : IntKind.i64.wrap (2 * r + 2) = 2 * r + 2 := IntWalk.i64_in _ (by have := HPL.out.r1; have := HPL.out.r2; omega)
  obtain ⟨N, hNN⟩ : ∃ N, (sizP l r).toNat = N := ⟨_, rfl⟩
  obtain ⟨fc, hfc⟩ : ∃ fc, chartF l r s z = fc := ⟨_, rfl⟩
  have HNN := Lib.hid hNN
  have HFC := Lib.hid hfc
  have HN6 := Lib.hid (show N ≤ 600 by have := HSB.out; have := HN.out; omega)
  rw [hNN, hfc] at HNC
  rw [hNN]
  have HT0 : Hid (TurAt w4 w4 (.slice none 0 0) (.slice none 0 0) (anyA r fl n) (someA r fl fc n) 0 0) := Lib.hid ⟨OwnF.nil _ _ _, OwnF.nil _ _ _, .inl rfl, Below.refl _ _⟩
  have HB4 := Lib.hid (bt HB0.out HB.out)
  have HR1 := Lib.hid (And.intro HPL.out.r1 HPL.out.r2)
  clear hNN hfc v1 v2 v3 v4 v5 v6 v7 v8 v9 HPC HCH HCK HBI p0 p1 p2 p3 q0 q1 q2 q3 zp zq
  go_upto_region 9 with fail
  go_loopw [8, 9, 10, 11, 12, 13] (fun s8 s9 s10 s11 s12 s13 wx => ∃ (k : Nat) (u v v11 v12 v13 : Value), k ≤ N ∧ s8 = u ∧ s9 = v ∧ s10 = .int .i64 (k : Int) ∧ s11 = v11 ∧ s12 = v12 ∧ s13 = v13 ∧ Hid (TurAt w4 wx u v (anyA r fl n) (someA r fl fc n) k k)) (fun _ _ s10 _ _ _ _ => N - (intOf s10).toNat)
  case atStart => exact ⟨0, _, _, _, _, _, Nat.zero_le _, rfl, rfl, rfl, rfl, rfl, rfl, HT0⟩
  case round =>
    obtain ⟨k, u, v, v11, v12, v13, hk, rfl, rfl, rfl, rfl, rfl, rfl, HT⟩ := hrel
    by_cases hlt : k < N
    · have hki : (k : Int) < N := by omega
      have HK := Lib.hid hlt
      clear hlt hk
      obtain ⟨m, hm⟩ : ∃ m, m = numA fl n k := ⟨_, rfl⟩
      have HM := Lib.hid hm
      clear hm
      go_upto_if 76 with (fail)
      generalize hd0 : decide (0 < n) = d0
      go_cut [11] from 77 to 83 (fun s11 wx => s11 = .int .i64 m ∧ Hid (TurAt w4 wx u8 u9 (anyA r fl n) (someA r fl fc n) k k))
      case first =>
        cases d0
        · have hn0 : ¬ 0 < n := by have := of_decide_eq_false hd0; omega
          have hme : m = 0 := by rw [HM.out]; unfold numA; rw [if_neg hn0]
          clear hn0 hd0
          go_wp2_with fail
          go_meet
          exact ⟨by rw [hme], HT⟩
        · have hn0 : 0 < n := by have := of_decide_eq_true hd0; omega
          have hn2 : ((n : Int) == 0) = false := by simp; omega
          have hn3 : ¬ (n : Int) = 0 := by omega
          have ht : (k : Int).tmod (n : Int) = ((k % n : Nat) : Int) := rfl
          have hlk : k % n < n := Nat.mod_lt _ hn0
          obtain ⟨b, o, rfl, hi⟩ := (HLN.out _ (HB4.out.trans (HT.out.bel.mono HB4.out.size))).resolve_left (by omega)
          have hme : m = fl (k % n) := by rw [HM.out]; unfold numA; rw [if_pos hn0]
          have hc := hi _ hlk
          rw [← hme] at hc
          have zc := cell_lt hc
          have u1 : IntKind.i64.wrap ((k : Int).tmod (n : Int)) = ((k % n : Nat) : Int) := by rw [ht]; exact IntWalk.i64_in _ (by have := HK.out; have := HN6.out; have := Nat.mod_le k n; omega)
          clear hd0 hi
          go_wp2_with fail
          go_meet
          exact ⟨by rw [hme], HT⟩
      case rest =>
        obtain ⟨rfl, HT2⟩ := hcut
        obtain ⟨⟨p0, p1, p2, p3⟩, -⟩ := HX.out _ (HB.out.trans (HT2.out.bel.mono HB.out.size))
        have zp := cell_lt p0
        obtain ⟨hr1, hr2⟩ := HR1.out
        have hmod := And.intro (Int.emod_nonneg m (show (2 * r + 2 : Int) ≠ 0 by omega)) (Int.emod_lt_of_pos m (show (0 : Int) < 2 * r + 2 by omega))
        obtain ⟨q, hq⟩ : ∃ q, m % (2 * r + 2) = q := ⟨_, rfl⟩
        have HPQ := Lib.hid (fun W => HPK.out m W)
        rw [hq] at HPQ hmod
        have v3 : IntKind.i64.wrap (2 * r) = 2 * r := IntWalk.i64_in _ (by omega)
        have u4 : IntKind.i64.wrap (q - r) = q - r := IntWalk.i64_in _ (by omega)
        have HQ := Lib.hid hq
        clear hq HT
        go_upto_region 14 with fail
        go_quiet ((go_at_call 22; (try rw [v3]); (try rw [u3]); exact Calls.quiet_of_same ((HPQ.out _).mono fun _ _ ⟨h1, h2⟩ => ⟨h1, h2.symm⟩)))
        obtain ⟨x, hx⟩ : ∃ x, x = anyA r fl n k := ⟨_, rfl⟩
        have HXA := Lib.hid hx
        have HT3 := Lib.hid (HT2.out.below ((Below.refl wc.heap.size wc).trans ⟨rfl, rfl, rfl, Nat.le_refl _, fun _ _ => rfl⟩ : Below wc.heap.size wc (wc.drewN nq)))
        clear hx
        obtain ⟨W5, hW5⟩ : ∃ W5, wc.drewN nq = W5 := ⟨_, rfl⟩
        rw [hW5] at HT3 ⊢
        clear hW5
        obtain ⟨⟨p0, p1, p2, p3⟩, -⟩ := HX.out _ (HB.out.trans (HT3.out.bel.mono HB.out.size))
        have zp := cell_lt p0
        go_upto_if 96 with (fail)
        generalize hd1 : decide (r < q - r) = d1
        go_cut [12] from 97 to 97 (fun s12 wx => s12 = .int .i64 x ∧ wx = W5)
        case first =>
          have hxe : x = if r < q - r then 1000 else q - r := by rw [HXA.out]; unfold anyA; rw [← HM.out, HQ.out]
          cases d1
          · rw [if_neg (of_decide_eq_false hd1)] at hxe
            clear hd1
            go_wp2_with fail
            go_meet
            exact ⟨by rw [hxe], rfl⟩
          · rw [if_pos (of_decide_eq_true hd1)] at hxe
            clear hd1
            go_wp2_with fail
            go_meet
            exact ⟨by rw [hxe], rfl⟩
        case rest =>
          obtain ⟨rfl, rfl⟩ := hcut
          have HNC5 := Lib.hid (HNC.out.below HT3.out.bel)
          go_upto_region 18 with (at_builtin; refine wpList_append_own_at _ rfl (.tmp 97) (.tmp 99) _ rfl w4.heap.size 3 i0 (.int .i64 0) 1 8 Try.underlying24 hi0 hz0 hz1 hz2 rfl (by decide) _ k _ rfl (World.ownsRow.alloc HT3.out.o1 _) ⟨wc.heap.size, 0, none⟩ 1 1 [.int .i64 x] rfl rfl (cell_one_new _ _ _) (by simp [Value.oneCell']) (by have := HK.out; have := HN6.out; unfold maxLen; omega) (by have := HK.out; have := HN6.out; omega) (by have := HT3.out.bel.size; simp; omega) ?_; intro u' z1 hown hg _ hb; have HT5 := Lib.hid (HT3.out.first HXA.out hown hg hb); clear hown hg hb)
          have hc := ((HNC.out.below HT5.out.bel).c k HK.out).1
          rw [Nat.zero_add] at hc
          have zc := cell_lt hc
          obtain ⟨y, hy⟩ : ∃ y, y = someA r fl fc n k := ⟨_, rfl⟩
          have HY := Lib.hid hy
          have hmt := tmod_bd m 5 (by decide)
          have u5 : IntKind.i64.wrap (m.tmod 5) = m.tmod 5 := IntWalk.i64_in _ (by omega)
          clear hy hmt
          go_upto_if 107 with (fail)
          generalize hd2 : (m.tmod 5 == 0) = d2
          go_cut [13] from 108 to 108 (fun s13 wx => s13 = .int .i64 y ∧ wx = z1)
          case first =>
            have hye : y = if m.tmod 5 = 0 then x else fc k := by rw [HY.out, HXA.out]; unfold someA; rw [← HM.out]
            cases d2
            · rw [if_neg (by simpa using hd2)] at hye
              clear hd2
              go_wp2_with fail
              go_meet
              exact ⟨by rw [hye], rfl⟩
            · rw [if_pos (by simpa using hd2)] at hye
              clear hd2
              go_wp2_with fail
              go_meet
              exact ⟨by rw [hye], rfl⟩
          case rest =>
            obtain ⟨rfl, rfl⟩ := hcut
            have w1' : IntKind.i64.wrap ((k : Int) + 1) = (k : Int) + 1 := IntWalk.i64_in _ (by have := HK.out; have := HN6.out; omega)
            clear hc zc p0 p1 p2 p3 zp
            go_wp2_with (at_builtin; refine wpList_append_own_at _ rfl (.tmp 109) (.tmp 111) _ rfl w4.heap.size 3 i0 (.int .i64 0) 1 8 Try.underlying24 hi0 hz0 hz1 hz2 rfl (by decide) _ k _ rfl (World.ownsRow.alloc HT5.out.o2 _) ⟨wc.heap.size, 0, none⟩ 1 1 [.int .i64 y] rfl rfl (cell_one_new _ _ _) (by simp [Value.oneCell']) (by have := HK.out; have := HN6.out; unfold maxLen; omega) (by have := HK.out; have := HN6.out; omega) (by have := HT5.out.bel.size; simp; omega) ?_; intro v' z2 hown hg _ hb; have HT6 := Lib.hid (HT5.out.second HY.out hown hg hb); clear hown hg hb)
            go_roundw
            case rel => exact ⟨k + 1, u', v', _, _, _, HK.out, rfl, rfl, by simp, rfl, rfl, rfl, HT6⟩
            case measure => have := HK.out; simp [intOf]; omega
    · obtain rfl : k = N := by omega
      have hki : ¬ (k : Int) < k := by omega
      have hk3 : 3 ≤ k ∧ k ≤ 600 := by have := HSB.out; have := HN.out; have := HNN.out; omega
      have HK3 := Lib.hid hk3
      obtain ⟨gu, cu, rfl, hcu, hnu⟩ := HT.out.o1.in2 (by omega)
      obtain ⟨gv, cv, rfl, hcv, hnv⟩ := HT.out.o2.in2 (by omega)
      have HU := Lib.hid (And.intro hcu hnu)
      have HV := Lib.hid (And.intro hcv hnv)
      have HTB := Lib.hid HT.out.bel
      clear hcu hnu hcv hnv hk hlt hk3 HT
      go_upto_region 23 with fail
      have hbs := below_alloc (Below.refl wr.heap.size wr) (.cells #[.slice (some ⟨gu, 0, none⟩) k cu, .slice (some ⟨gv, 0, none⟩) k cv] 24)
      have c0 : (wr.alloc (.cells #[.slice (some ⟨gu, 0, none⟩) k cu, .slice (some ⟨gv, 0, none⟩) k cv] 24)).cell? ⟨wr.heap.size, 0, none⟩ = some (.slice (some ⟨gu, 0, none⟩) k cu) := by simp
      have c1 : (wr.alloc (.cells #[.slice (some ⟨gu, 0, none⟩) k cu, .slice (some ⟨gv, 0, none⟩) k cv] 24)).cell? ⟨wr.heap.size, 1, none⟩ = some (.slice (some ⟨gv, 0, none⟩) k cv) := by simp
      have HRW : Hid (∀ X, Below (wr.alloc (.cells #[.slice (some ⟨gu, 0, none⟩) k cu, .slice (some ⟨gv, 0, none⟩) k cv] 24)).heap.size (wr.alloc (.cells #[.slice (some ⟨gu, 0, none⟩) k cu, .slice (some ⟨gv, 0, none⟩) k cv] 24)) X → ∀ i, i < 2 → ∃ b cl g, X.cell? ⟨wr.heap.size, i, none⟩ = some (.slice (some ⟨b, 0, none⟩) k cl) ∧ k ≤ cl ∧ NumIn X g k (some ⟨b, 0, none⟩)) := Lib.hid fun X hX i hi => by
        rcases (by omega : i = 0 ∨ i = 1) with rfl | rfl
        · exact ⟨gu, cu, _, cell_below hX c0, HU.out.1, (HU.out.2.below hbs).below hX⟩
        · exact ⟨gv, cv, _, cell_below hX c1, HV.out.1, (HV.out.2.below hbs).below hX⟩
      have HB9 := Lib.hid (bt (bt HB.out HTB.out) hbs)
      have HB49 := Lib.hid (bt HTB.out hbs)
      have HPRV : Hid (∀ g b cl W, k ≤ cl → NumIn W g k (some ⟨b, 0, none⟩) → Calls Try.prog 20 #[.agg #[.int .i64 l, .int .i64 r, .int .i64 s, .int .i64 z], .slice (some ⟨b, 0, none⟩) k cl] W fun e w' => e = .returned (.int .i64 (if provP l r s z g (2 * z + 1).toNat k = true then 0 else 7)) ∧ Below W.heap.size W w') := Lib.hid (by
        rw [← HNN.out]
        exact fun g b cl W h1 h2 => Prove_ok HPB.out g b 0 cl h1 W h2)
      have HSF : Hid (∀ g, provP l r s z g (2 * z + 1).toNat k = true → ∀ j, j < k → g j < 1000 → fc j < 1000) := Lib.hid (by
        rw [← HNN.out, ← HFC.out]
        exact fun g h1 j h2 h3 => proved_safe HPL.out h1 h2 h3)
      clear c0 c1 hbs HU HV HTB HT0
      generalize wr.alloc (.cells #[.slice (some ⟨gu, 0, none⟩) k cu, .slice (some ⟨gv, 0, none⟩) k cv] 24) = W9 at *
      generalize wr.heap.size = Bs at *
      go_loopw [15, 16, 117] (fun s15 s16 s117 wx => ∃ (i : Nat) (v15 v16 : Value), i ≤ 2 ∧ s15 = v15 ∧ s16 = v16 ∧ s117 = .int .i64 (i : Int) ∧ Hid (Below W9.heap.size W9 wx)) (fun _ _ s117 _ => 2 - (intOf s117).toNat)
      case atStart => exact ⟨0, _, _, by decide, rfl, rfl, rfl, Lib.hid (Below.refl _ _)⟩
      case round =>
        obtain ⟨i, v15, v16, hi2, rfl, rfl, rfl, HBI⟩ := hrel
        by_cases hlt : i < 2
        · have hil : (i : Int) < 2 := by omega
          have HI := Lib.hid hlt
          obtain ⟨b, cl, g, hcell, hkc, hg⟩ := HRW.out _ HBI.out i hlt
          have zc := cell_lt hcell
          have HG := Lib.hid hg
          have hw1 : IntKind.i64.wrap ((i : Int) + 1) = (i : Int) + 1 := IntWalk.i64_in _ (by omega)
          obtain ⟨-, ⟨q0, q1, q2, q3⟩⟩ := HX.out _ (bt HB9.out HBI.out)
          have zq := cell_lt q0
          clear hlt hi2 hg
          cases hpv : provP l r s z g (2 * z + 1).toNat k
          · have HPQ := Lib.hid (HPRV.out g b cl wr hkc HG.out)
            rw [hpv] at HPQ
            clear hpv
            go_wp2_with (go_at_call 20; refine HPQ.out.mono ?_; rintro e w5 ⟨rfl, hb5⟩; have HB5 := Lib.hid (bt HBI.out hb5); clear hb5)
            go_roundw
            case rel => exact ⟨i + 1, _, _, HI.out, rfl, rfl, by simp, HB5⟩
            case measure => have := HI.out; simp [intOf]; omega
          · have HPQ := Lib.hid (HPRV.out g b cl wr hkc HG.out)
            rw [hpv] at HPQ
            have HSG := Lib.hid (HSF.out g hpv)
            clear hpv
            go_upto_region 27 with (go_at_call 20; refine HPQ.out.mono ?_; rintro e w5 ⟨rfl, hb5⟩; have HB5 := Lib.hid (bt HBI.out hb5); have HG5 := Lib.hid (HG.out.below hb5); clear hb5)
            go_loopw [16] (fun s16 wx => ∃ (j : Nat), j ≤ k ∧ s16 = .int .i64 (j : Int) ∧ wx = w5) (fun s16 _ => k - (intOf s16).toNat)
            case atStart => exact ⟨0, Nat.zero_le _, rfl, rfl⟩
            case round =>
              obtain ⟨j, hj, rfl, rfl⟩ := hrel
              by_cases hlj : j < k
              · have hji : (j : Int) < k := by omega
                obtain ⟨b', o', e', hgi⟩ := HG5.out.resolve_left (by omega)
                cases e'
                have hgj := hgi j hlj
                rw [Nat.zero_add] at hgj
                have zg := cell_lt hgj
                have hcj := ((HNC.out.below (bt HB49.out HB5.out)).c j hlj).1
                rw [Nat.zero_add] at hcj
                have zcj := cell_lt hcj
                have hsg := HSG.out j hlj
                have HJ := Lib.hid hlj
                have hw2 : IntKind.i64.wrap ((j : Int) + 1) = (j : Int) + 1 := IntWalk.i64_in _ (by have := HK3.out; omega)
                clear hgi hlj hj
                by_cases hg1 : g j < 1000
                · have hc1 : ¬ (1000 ≤ fc j) := by have := hsg hg1; omega
                  clear hsg
                  go_wp2_with fail
                  go_roundw
                  case rel => exact ⟨j + 1, HJ.out, by simp, trivial⟩
                  case measure => have := HJ.out; simp [intOf]; omega
                · clear hsg
                  go_wp2_with fail
                  go_roundw
                  case rel => exact ⟨j + 1, HJ.out, by simp, trivial⟩
                  case measure => have := HJ.out; simp [intOf]; omega
              · obtain rfl : j = k := by omega
                have hji : ¬ ((j : Int) < j) := by omega
                go_wp2_with fail
                go_roundw
                case rel => exact ⟨i + 1, _, _, HI.out, rfl, rfl, by simp, HB5⟩
                case measure => have := HI.out; simp [intOf]; omega
        · obtain rfl : i = 2 := by omega
          have hil : ¬ (((2 : Nat) : Int) < 2) := by omega
          have HBE := Lib.hid (bt HB0.out (bt HB9.out HBI.out))
          clear hlt hi2
          go_wp2_with (go_at_call 9; refine (HAW.out _).mono ?_; rintro e w9 ⟨rfl, hb9⟩; have HB99 := Lib.hid (bt HBE.out hb9); clear hb9)
          go_ret
          exact ⟨rfl, HB99.out⟩
theorem steerGreatest_any (l r s z : Int) (fl : Nat → Int) (p : Option Addr) (n c : Nat) (w : World) (hl : NumIn w fl n p) : Calls Try.prog 6 #[.agg #[.int .i64 l, .int .i64 r, .int .i64 s, .int .i64 z], .slice p n c] w fun e w' => e = .returned (.bool true) ∧ Below w.heap.size w w' := by
  by_cases hn : n ≤ 2000
  · by_cases hs : sizP l r ≤ 600
    · cases hp : planB l r s z
      · exact greatest_awake l r s z p n c (.inl hp) w
      · exact greatest_main l r s z fl p n c hp hs hn w hl
    · exact greatest_awake l r s z p n c (.inr (.inl (by omega))) w
  · exact greatest_awake l r s z p n c (.inr (.inr (by omega))) w
end Go.Proofs.Ytiapimfmnmegpaa.St
