/- The walk over the law StabilityCovered. -/
import Derived.Test.YtbkcjhmemfndbaaQb
import Derived.Test.YtbkcjhmemfndbaaPd
import Derived.Deep.CutRange
import Derived.Laws.Bits128
namespace Go.Proofs.Ytbkcjhmemfndbaa
open Go Go.RowKit Go.Shelf
theorem chance_ok (n k : Nat) (w : World) (hn : 2 ≤ n ∧ n ≤ 40) (hk : 1 ≤ k ∧ 2 * k ≤ n) :
    Calls Try.prog 28 #[.int .i64 n, .int .i64 k] w fun e w' => e = .returned (.tuple #[.agg #[.int .i64 (lowN (chN n k) (2 ^ n)), .int .i64 (lowD (chN n k) (2 ^ n))], .int .i64 0]) ∧ Below w.heap.size w w' := by
  refine (Chance_any n k w).mono ?_
  rintro e w' ⟨he, hb⟩
  have hc : chanceE n k = ⟨lowN (chN n k) (2 ^ n), lowD (chN n k) (2 ^ n), 0⟩ := by
    unfold chanceE
    rw [if_pos (show chOk n k from ⟨by omega, by omega, by omega⟩)]
    simp
  rw [hc] at he
  exact ⟨he, hb⟩
theorem i64_and1 (n : Int) : bits .and .i64 n 1 = n % 2 := by
  have h1 : (BitVec.ofInt 64 1).toNat = 2 ^ 1 - 1 := by decide
  have key : (BitVec.ofInt 64 n &&& BitVec.ofInt 64 1).toNat = (n % ((2 ^ 64 : Nat) : Int)).toNat % 2 ^ 1 := by
    rw [BitVec.toNat_and, BitVec.toNat_ofInt, h1, Nat.and_two_pow_sub_one_eq_mod]
  show IntKind.i64.wrap ((BitVec.ofInt 64 n &&& BitVec.ofInt 64 1).toNat : Nat) = n % 2
  rw [key, IntKind.wrap_i64]
  omega
theorem bit_is (s j : Nat) : bits .and .i64 ((s : Int) / 2 ^ j) 1 = ((bitS s j : Nat) : Int) := by
  rw [i64_and1]
  unfold bitS
  simp
theorem pop_step (s j : Nat) (h : popS s j ≤ 12) : IntKind.i64.wrap (((popS s j : Nat) : Int) + bits .and .i64 ((s : Int) / 2 ^ j) 1) = ((popS s (j + 1) : Nat) : Int) := by
  have hb : bitS s j < 2 := Nat.mod_lt _ (by decide)
  rw [bit_is, IntWalk.i64_in _ (by omega)]
  simp [popS]
theorem inside_bd (n k : Nat) : ∀ s, 0 ≤ insideS n k s ∧ insideS n k s ≤ s
  | 0 => by simp [insideS, sumF]
  | s + 1 => by
    have := inside_bd n k s
    have e : insideS n k (s + 1) = insideS n k s + inS n k s := rfl
    have h : 0 ≤ inS n k s ∧ inS n k s ≤ 1 := by unfold inS; split <;> decide
    omega
theorem cross_low (x D : Int) : lowN x D * D = x * lowD x D := by
  have h1 := gcdS_n x D
  have h2 := gcdS_d x D
  calc lowN x D * D = lowN x D * (gcdS x D * lowD x D) := by rw [h2]
    _ = (gcdS x D * lowN x D) * lowD x D := by grind
    _ = x * lowD x D := by rw [h1]
theorem medFind_none (n : Nat) (N D : Int) : ∀ q, medFind n N D q = 0 → ∀ r, 1 ≤ r → r ≤ q → mN n r * D < N * mD n r
  | 0, _, r, h1, h2 => by omega
  | q + 1, h, r, h1, h2 => by
    unfold medFind at h
    by_cases hc : N * mD n (q + 1) ≤ mN n (q + 1) * D
    · rw [if_pos hc] at h; omega
    · rw [if_neg hc] at h
      by_cases e : r = q + 1
      · subst e; omega
      · exact medFind_none n N D q h r h1 (by omega)
theorem medFind_some (n : Nat) (N D : Int) : ∀ q, medFind n N D q ≠ 0 → (1 ≤ medFind n N D q ∧ medFind n N D q ≤ q) ∧ N * mD n (medFind n N D q) ≤ mN n (medFind n N D q) * D
  | 0, h => absurd rfl h
  | q + 1, h => by
    unfold medFind at h ⊢
    by_cases hc : N * mD n (q + 1) ≤ mN n (q + 1) * D
    · rw [if_pos hc]; exact ⟨by omega, hc⟩
    · rw [if_neg hc] at h ⊢
      have := medFind_some n N D q h
      exact ⟨by omega, this.2⟩
/-- a median's cover, as the law looks at it -/
structure MedOk (l : List Int) (N D lo hi cn cd : Int) : Prop where
  c : (0 ≤ cn ∧ cn ≤ 1099511627776) ∧ (1 ≤ cd ∧ cd ≤ 1099511627776)
  ge : N * cd ≤ cn * D
  low : 1 ≤ lowC l lo l.length
  high : 1 ≤ highC l hi l.length
  le : lo ≤ hi
theorem median_at (l : List Int) (n : Nat) (hn : l.length = n) (b o cap : Nat) (N D : Int) (w : World) (hl : 2 ≤ n ∧ n ≤ 40) (hi : IntsAt w l b o) (hN : I64 N) (hD : I64 D) (hp : partB N D = true) :
    Calls Try.prog 29 #[.slice (some ⟨b, o, none⟩) n cap, .agg #[.int .i64 N, .int .i64 D]] w fun e w' =>
      ((Hid (mN n 1 * D < N * mD n 1) ∧ e = .returned (.tuple #[.agg #[.int .i64 0, .int .i64 0, .int .i64 0, .int .i64 0], .int .i64 4])) ∨
        ∃ lo hi cn cd, Hid (MedOk l N D lo hi cn cd) ∧ e = .returned (.tuple #[.agg #[.int .i64 lo, .int .i64 hi, .int .i64 cn, .int .i64 cd], .int .i64 0])) ∧ Below w.heap.size w w' := by
  subst hn
  refine (median_ok l b o cap N D w hl hi hN hD hp).mono ?_
  rintro e w' ⟨he, hb⟩
  refine ⟨?_, hb⟩
  by_cases hr : medFind l.length N D (l.length / 2) = 0
  · rw [if_pos hr] at he
    exact .inl ⟨Lib.hid (medFind_none _ _ _ _ hr 1 (Nat.le_refl _) (by omega)), he⟩
  · rw [if_neg hr] at he
    obtain ⟨⟨h1, h2⟩, h3⟩ := medFind_some _ _ _ _ hr
    obtain ⟨j1, hj1, e1⟩ := sortL_in l (medFind l.length N D (l.length / 2) - 1) (by omega)
    obtain ⟨j2, hj2, e2⟩ := sortL_in l (l.length - medFind l.length N D (l.length / 2)) (by omega)
    exact .inr ⟨_, _, _, _, Lib.hid ⟨m_bd (by omega) (by omega), h3, lowC_one l _ j1 hj1 e1, highC_one l _ j2 hj2 e2, sortL_le l _ _ (by omega) (by omega)⟩, he⟩
theorem lowC_bd (l : List Int) (x : Int) : ∀ k, 0 ≤ lowC l x k ∧ lowC l x k ≤ k
  | 0 => by simp [lowC, sumF]
  | k + 1 => by
    have := lowC_bd l x k
    have e : lowC l x (k + 1) = lowC l x k + (if atL l k ≤ x then 1 else 0) := rfl
    rw [e]; split <;> omega
theorem highC_bd (l : List Int) (x : Int) : ∀ k, 0 ≤ highC l x k ∧ highC l x k ≤ k
  | 0 => by simp [highC, sumF]
  | k + 1 => by
    have := highC_bd l x k
    have e : highC l x (k + 1) = highC l x k + (if x ≤ atL l k then 1 else 0) := rfl
    rw [e]; split <;> omega
set_option maxRecDepth 100000 in
set_option maxHeartbeats 4000000 in
theorem covered_any (count at_ : Int) (l : List Int) (p : Option Addr) (cap : Nat) (least : Int) (w : World) (ha : I16In w l p cap) (hT : 0 ≤ count ∧ count ≤ 255) (hM : 0 ≤ at_ ∧ at_ ≤ 255) (hA : 0 ≤ least ∧ least ≤ 255) :
    Calls Try.prog 10 #[.int .u8 count, .int .u8 at_, .slice p l.length cap, .int .u8 least] w fun e w' => e = .returned (.bool true) ∧ Below w.heap.size w w' := by
  obtain ⟨i0, hi0, hz0, hz1, hz2⟩ := info_parts infoInt
  obtain ⟨N, hN⟩ : ∃ N : Nat, (2 : Int) + count % 11 = (N : Int) := ⟨(2 + count % 11).toNat, by omega⟩
  have hN2 : 2 ≤ N ∧ N ≤ 12 := by omega
  have w1 : IntKind.i64.wrap count = count := IntWalk.i64_in _ (by omega)
  have w2 : IntKind.i64.wrap at_ = at_ := IntWalk.i64_in _ (by omega)
  obtain ⟨K, hK⟩ : ∃ K : Nat, (1 : Int) + at_ % ((N : Int) / 2) = (K : Int) := ⟨(1 + at_ % ((N : Int) / 2)).toNat, by have := Int.emod_nonneg at_ (show (N : Int) / 2 ≠ 0 by omega); omega⟩
  have hK2 : 1 ≤ K ∧ 2 * K ≤ N := by
    have h1 := Int.emod_nonneg at_ (show (N : Int) / 2 ≠ 0 by omega)
    have h2 := Int.emod_lt_of_pos at_ (show 0 < (N : Int) / 2 by omega)
    omega
  have w3 : IntKind.i64.wrap ((1 : Int) + at_ % ((N : Int) / 2)) = (K : Int) := by rw [hK]; exact IntWalk.i64_in _ (by omega)
  have HC := Lib.hid (fun W => chance_ok N K W (by omega) hK2)
  have hpw := pow_bd (n := N) (by omega)
  have hp12 : (2 : Int) ^ N ≤ 4096 := by
    have h : (List.range 13).all (fun n => decide ((2 : Int) ^ n ≤ 4096)) = true := by decide
    have h := List.all_eq_true.1 h N (by simp; omega)
    simpa using h
  have v1 : IntKind.i64.wrap ((2 : Int) ^ N) = 2 ^ N := IntWalk.i64_in _ (by omega)
  have hch := chN_bd (n := N) (k := K) (by omega) (by omega)
  have hlow := low_le (chN N K) (2 ^ N) hch.1 hpw.1
  obtain ⟨P, hP⟩ : ∃ P : Nat, (2 : Int) ^ N = (P : Int) := ⟨2 ^ N, by simp⟩
  have hPN : P = 2 ^ N := by have : ((2 ^ N : Nat) : Int) = P := by rw [← hP]; simp
                             omega
  obtain ⟨cn, hcn⟩ : ∃ x, x = lowN (chN N K) (2 ^ N) := ⟨_, rfl⟩
  obtain ⟨cd, hcd⟩ : ∃ x, x = lowD (chN N K) (2 ^ N) := ⟨_, rfl⟩
  rw [← hcn, ← hcd] at HC
  rw [← hcn, ← hcd] at hlow
  have HLOW := Lib.hid hlow
  have HPN := Lib.hid hPN
  have HCN := Lib.hid hcn
  have HCD := Lib.hid hcd
  have HPP := Lib.hid hP
  have hP4 : P ≤ 4096 := by omega
  rw [hP] at v1
  clear hlow hch hcn hcd hpw hp12 hPN
  have hla := ha.len
  unfold maxLen at hla
  have hca := ha.cap
  obtain ⟨n, hn⟩ : ∃ n : Nat, n = min l.length 40 := ⟨_, rfl⟩
  have HN := Lib.hid hn
  have HA := Lib.hid ha
  have HCAP := Lib.hid hca
  clear ha hla hca hn
  go_enter Try.func10, Try.ntmps10
  go_wp2_with fail
  refine (HC.out _).mono ?_
  rintro e x1 ⟨rfl, hb⟩
  have B1 := Lib.hid (below_alloc hb (.cells #[.int .i64 cn, .int .i64 cd] 28))
  have HR1 := Lib.hid (two_new x1 cn cd 28)
  clear hb
  go_wp2
  generalize x1.alloc (.cells #[.int .i64 cn, .int .i64 cd] 28) = X1 at *
  go_loopw [13, 49] (fun s13 i wr => ∃ s : Nat, s ≤ P ∧ i = .int .i64 (s : Int) ∧ s13 = .int .i64 (insideS N K s) ∧ X1 = wr) (fun _ i _ => P - (intOf i).toNat)
  case atStart => exact ⟨0, Nat.zero_le _, rfl, rfl, rfl⟩
  case round =>
    obtain ⟨s, hs, rfl, rfl, rfl⟩ := hrel
    by_cases hlt : s < P
    · have hsl : (s : Int) < (P : Int) := by omega
      go_wp2
      go_loopw [15, 53] (fun s15 i wi => ∃ j : Nat, j ≤ N ∧ i = .int .i64 (j : Int) ∧ s15 = .int .i64 ((popS s j : Nat) : Int) ∧ X1 = wi) (fun _ i _ => N - (intOf i).toNat)
      case atStart => exact ⟨0, Nat.zero_le _, rfl, rfl, rfl⟩
      case round =>
        obtain ⟨j, hj, rfl, rfl, rfl⟩ := hrel
        by_cases hjlt : j < N
        · have hjl : (j : Int) < (N : Int) := by omega
          have hpp := popS_le s j
          have kb := pop_step s j (by omega)
          clear hpp
          go_wp2
          go_roundw
          case rel => exact ⟨j + 1, by omega, by go_num, rfl, trivial⟩
          case measure => simp [intOf]; omega
        · obtain rfl : j = N := by omega
          have hpp := popS_le s j
          have hib := inside_bd j K s
          have hst : insideS j K (s + 1) = insideS j K s + inS j K s := rfl
          have HST := Lib.hid hst
          by_cases hc1 : K ≤ popS s j
          · have hc1' : ((K : Nat) : Int) ≤ ((popS s j : Nat) : Int) := by omega
            have ks : IntKind.i64.wrap ((j : Int) - ((popS s j : Nat) : Int)) = (j : Int) - popS s j := IntWalk.i64_in _ (by omega)
            by_cases hc2 : K ≤ j - popS s j
            · have hc2' : (K : Int) ≤ (j : Int) - ((popS s j : Nat) : Int) := by omega
              have ki : IntKind.i64.wrap (insideS j K s + 1) = insideS j K s + 1 := IntWalk.i64_in _ (by omega)
              have HIN := Lib.hid (show inS j K s = 1 from if_pos ⟨hc1, hc2⟩)
              clear hst hib
              go_wp2
              go_roundw
              case rel => exact ⟨s + 1, by omega, by go_num, by rw [HST.out, HIN.out], trivial⟩
              case measure => simp [intOf]; omega
            · have hc2' : ¬ ((K : Int) ≤ (j : Int) - ((popS s j : Nat) : Int)) := by omega
              have HIN := Lib.hid (show inS j K s = 0 from if_neg (fun h => hc2 h.2))
              clear hst hib
              go_wp2
              go_roundw
              case rel => exact ⟨s + 1, by omega, by go_num, by rw [HST.out, HIN.out, Int.add_zero], trivial⟩
              case measure => simp [intOf]; omega
          · have hc1' : ¬ ((K : Int) ≤ ((popS s j : Nat) : Int)) := by omega
            have HIN := Lib.hid (show inS j K s = 0 from if_neg (fun h => hc1 h.1))
            clear hst hib
            go_wp2
            go_roundw
            case rel => exact ⟨s + 1, by omega, by go_num, by rw [HST.out, HIN.out, Int.add_zero], trivial⟩
            case measure => simp [intOf]; omega
    · obtain rfl : s = P := by omega
      have hlow := HLOW.out
      have hins : insideS N K s = chN N K := by rw [HPN.out]; exact inside_chN N K hN2.2 hK2.1 hK2.2
      have hcross : cn * (s : Int) = chN N K * cd := by rw [HCN.out, HCD.out, ← HPP.out]; exact cross_low _ _
      have hch := chN_bd (n := N) (k := K) (by omega) (by omega)
      obtain ⟨c0, c1⟩ := HR1.out
      have hz := cell_lt c0
      have hchs : chN N K ≤ s := by
        have := (inside_bd N K s).2
        omega
      have m1 := mul_bd2 (x := cn) (y := (s : Int)) (a := 5000) (b := 5000) (by omega) (by omega)
      have k1 : IntKind.i64.wrap (cn * (s : Int)) = chN N K * cd := by rw [hcross]; exact IntWalk.i64_in _ (by omega)
      have k2 : IntKind.i64.wrap (chN N K * cd) = chN N K * cd := IntWalk.i64_in _ (by omega)
      rw [hins]
      clear hcross m1 hins hch hlow
      go_upto_region 17 with fail
      go_quiet (fail)
      have B2 := Lib.hid (below_drewN B1.out nq)
      have HR2 : Hid (Two (X1.drewN nq) x1.heap.size cn cd) := Lib.hid HR1.out
      clear c0 c1 hz HR1 B1 k1 k2 hchs
      generalize X1.drewN nq = X2 at *
      go_upto_if 91 with fail
      go_cut [8, 17, 18] from 91 to 113 (fun s8 s17 s18 wx => Hid (Below w.heap.size w wx) ∧ Hid (Two wx x1.heap.size cn cd))
      case first =>
        by_cases hk1 : 1 < K
        · have hk1i : (1 : Int) < (K : Int) := by omega
          have kw : IntKind.i64.wrap ((K : Int) - 1) = (K : Int) - 1 := IntWalk.i64_in _ (by omega)
          go_wp2_with fail
          rw [show ((K : Int) - 1) = ((K - 1 : Nat) : Int) by omega]
          refine (chance_ok N (K - 1) _ (by omega) (by omega)).mono ?_
          rintro e x2 ⟨rfl, hb⟩
          have hwid := wider N K hN2.2 (by omega) hK2.2
          rw [← HCN.out, ← HCD.out] at hwid
          have hch' := chN_bd (n := N) (k := K - 1) (by omega) (by omega)
          have hlow' := low_le (chN N (K - 1)) (2 ^ N) hch'.1 (pow_bd (n := N) (by omega)).1
          have hlow := HLOW.out
          have hins' := (inside_bd N (K - 1) (2 ^ N)).2
          have hins2 := inside_chN N (K - 1) hN2.2 (by omega) (by omega)
          have hPv := HPP.out
          have hPn := HPN.out
          obtain ⟨en, hen⟩ : ∃ x, x = lowN (chN N (K - 1)) (2 ^ N) := ⟨_, rfl⟩
          obtain ⟨ed, hed⟩ : ∃ x, x = lowD (chN N (K - 1)) (2 ^ N) := ⟨_, rfl⟩
          rw [← hen, ← hed] at hwid hlow' ⊢
          rw [hins2] at hins'
          rw [← hPn] at hins'
          rw [hPv] at hlow'
          have hchp : chN N K ≤ s := by
            have := (inside_bd N K (2 ^ N)).2
            rw [inside_chN N K hN2.2 hK2.1 hK2.2, ← hPn] at this
            exact this
          have m1 := mul_bd2 (x := en) (y := cd) (a := 5000) (b := 5000) (by omega) (by omega)
          have m2 := mul_bd2 (x := cn) (y := ed) (a := 5000) (b := 5000) (by omega) (by omega)
          have k1 : IntKind.i64.wrap (en * cd) = en * cd := IntWalk.i64_in _ (by omega)
          have k2 : IntKind.i64.wrap (cn * ed) = cn * ed := IntWalk.i64_in _ (by omega)
          have k3 : ¬ (en * cd < cn * ed) := by omega
          obtain ⟨c0, c1⟩ := HR2.out.below hb
          have hz := cell_lt c0
          have B3 := Lib.hid (below_alloc (B2.out.trans (hb.mono B2.out.size)) (.cells #[.int .i64 en, .int .i64 ed] 28))
          have HR3 := Lib.hid ((HR2.out.below hb).below (below_alloc (Below.refl x2.heap.size x2) (.cells #[.int .i64 en, .int .i64 ed] 28)))
          clear hwid hch' hlow' hlow hins' hins2 hPv hPn hen hed hchp m1 m2 hb
          go_wp2_with fail
          go_meet
          exact ⟨B3, HR3⟩
        · have hk1i : ¬ ((1 : Int) < (K : Int)) := by omega
          go_wp2_with fail
          go_meet
          exact ⟨B2, HR2⟩
      case rest =>
      obtain ⟨B4, HR4⟩ := hcut
      clear HR2 B2 HC HLOW HCN HCD HPP HPN HR4
      go_upto_region 24 with fail
      go_cut [118, 119, 120] from 114 to 117 (fun s118 s119 s120 wx => s118 = .slice p n cap ∧ s119 = .int .i64 (n : Int) ∧ s120 = .int .i64 0 ∧ wx = wc)
      case first =>
        have hn := HN.out
        have hcap := HCAP.out
        have qa : (n : Int) ≤ (cap : Int) := by omega
        have qa' : n ≤ cap := by omega
        have hcase : (((l.length : Int) ≤ 40 ∧ l.length = n) ∧ min (n : Int) 40 = (n : Int)) ∨ (((40 < (l.length : Int) ∧ (40 : Int) = (n : Int)) ∧ 40 = n) ∧ min (l.length : Int) (n : Int) = (n : Int)) := by omega
        clear hcap hn
        rcases p with _ | ad
        · have hz : n = 0 := by
            have hn := HN.out
            rcases HA.out.at_ with h0 | ⟨b, o, hp, _⟩
            · omega
            · cases hp
          have hl0 : l.length = 0 := by have := HN.out; omega
          obtain rfl : l = [] := List.eq_nil_of_length_eq_zero hl0
          subst hz
          clear hcase
          go_wp2
          go_meet
          exact ⟨rfl, rfl, rfl, rfl⟩
        · rcases hcase with ⟨⟨hle, hnn⟩, hmin⟩ | ⟨⟨⟨hgt, hni⟩, hnn⟩, hmin⟩
          all_goals
            go_wp2
            go_meet
            exact ⟨rfl, rfl, rfl, rfl⟩
      case rest =>
      obtain ⟨rfl, rfl, rfl, rfl⟩ := hcut
      have HI := Lib.hid (HA.out.below B4.out)
      have hn40 : n ≤ 40 := by have := HN.out; omega
      have hnl : n ≤ l.length := by have := HN.out; omega
      go_wp2
      go_loopw [19, 120] (fun v i wr => ∃ k : Nat, k ≤ n ∧ i = .int .i64 (k : Int) ∧ Hid (OwnI wc.heap.size wr v ((l.take n).take k)) ∧ Hid (Below wc.heap.size wc wr)) (fun _ i _ => n - (intOf i).toNat)
      case atStart => exact ⟨0, Nat.zero_le _, rfl, Lib.hid (World.ownsRow_nil _ _ _ _), Lib.hid (Below.refl _ _)⟩
      case round =>
        obtain ⟨k, hk, rfl, HO, HBL⟩ := hrel
        by_cases hlt : k < n
        · have hkl : (k : Int) < (n : Int) := by omega
          obtain ⟨b, o, rfl, -⟩ := HI.out.at_.resolve_left (by omega)
          have x0 := cell_below HBL.out (HI.out.cell k (by omega))
          have hbd := HI.out.bd k
          have HTK := Lib.hid (take_snoc l n k hlt hnl)
          have hlen : ((l.take n).take k).length = k := by simp; omega
          have wx : IntKind.i64.wrap (atL l k) = atL l k := IntWalk.i64_in _ (by omega)
          go_wp2_with (at_builtin; refine wpList_append_own_at _ rfl (.tmp 124) (.tmp 127) _ rfl wc.heap.size 3 i0 (.int .i64 0) 1 8 Try.underlying22 hi0 hz0 hz1 hz2 rfl (by decide) _ _ _ rfl (HO.out.alloc _) ⟨_, 0, none⟩ 1 1 [.int .i64 (atL l k)] rfl rfl (cell_one_new _ _ _) (by simp [Value.oneCell']) (by rw [hlen]; unfold maxLen; omega) (by rw [hlen]; omega) (by have := HBL.out.size; simp; omega) ?_; intro v' z1 hown hg _ hb; have HO2 := Lib.hid (OwnI.snoc hown); have HB2 := Lib.hid (own_grown_below HO.out HBL.out HBL.out.size hg); clear hown hg hb)
          rw [← HTK.out] at HO2
          go_roundw
          case rel => exact ⟨k + 1, by omega, by go_num, HO2, HB2⟩
          case measure => simp [intOf]; omega
        · obtain rfl : k = n := by omega
          have HO0 := HO.out
          rw [List.take_take, Nat.min_self] at HO0
          have hbA : ∀ i, -32768 ≤ atL (l.take k) i ∧ atL (l.take k) i ≤ 32767 := (HI.out.take k hnl).bd
          obtain ⟨A, hA'⟩ : ∃ A, A = l.take k := ⟨_, rfl⟩
          have hAl : A.length = k := by rw [hA']; simp; omega
          rw [← hA'] at HO0 hbA
          have B5 := Lib.hid (B4.out.trans (HBL.out.mono B4.out.size))
          have HBA := Lib.hid hbA
          have HAL := Lib.hid hAl
          have HOA := Lib.hid HO0
          clear HO HO0 hbA hA' hAl HBL HI B4 hnl
          by_cases h2 : k < 2
          · have h2i : (k : Int) < 2 := by omega
            obtain ⟨g, gc, rfl, -, -⟩ := HOA.out.ser
            have hAl := HAL.out
            go_wp2_with fail
            refine (awake_any _).mono ?_
            rintro e x5 ⟨rfl, hb5⟩
            have BF := Lib.hid (B5.out.trans (hb5.mono B5.out.size))
            clear hb5
            go_wp2
            go_ret
            exact ⟨rfl, BF.out⟩
          · have h2i : ¬ ((k : Int) < 2) := by omega
            obtain ⟨g, gc, rfl, hints⟩ := HOA.out.ints (by have := HAL.out; omega)
            obtain ⟨W, hW⟩ : ∃ W : Nat, least % 101 = (W : Int) := ⟨(least % 101).toNat, by omega⟩
            have hW100 : W ≤ 100 := by omega
            have wl : IntKind.i64.wrap least = least := IntWalk.i64_in _ (by omega)
            have hgl := Lib.hid (cell_lt (hints 0 (by have := HAL.out; omega)))
            have HWR := Lib.hid B5.out.size
            have HIA := Lib.hid (hints.below (below_alloc (Below.refl wr.heap.size wr) (.cells #[.int .i64 (W : Int), .int .i64 100] 28)))
            have B6 := Lib.hid (below_alloc B5.out (.cells #[.int .i64 (W : Int), .int .i64 100] 28))
            have HRB := Lib.hid (RBox.new wr (W : Int) 100 28)
            have hAl := HAL.out
            rw [hAl]
            clear hints HOA B5
            go_wp2
            clear hW
            generalize wr.alloc (.cells #[.int .i64 (W : Int), .int .i64 100] 28) = X6 at *
            obtain ⟨F, hF⟩ : ∃ F, F = wantF W 100 := ⟨_, rfl⟩
            have HF := Lib.hid hF
            clear hF
            have hfit : ∀ d, 1 ≤ d → d ≤ 100 → 1 ≤ wantF W d := fun d h1 h2 => by
              have hall : (List.range 101).all (fun W => (List.range 101).all fun d => decide (1 ≤ wantF W d)) = true := by decide +kernel
              have h3 := List.all_eq_true.1 hall W (by simp; omega)
              have h4 := List.all_eq_true.1 h3 d (by simp; omega)
              simpa using h4
            have HFP := Lib.hid (show 1 ≤ F by rw [HF.out]; exact hfit 100 (by decide) (by decide))
            clear hfit
            go_loopw [23] (fun s23 wx => ∃ d : Nat, (1 ≤ d ∧ d ≤ 100) ∧ s23 = .int .i64 (d : Int) ∧ Hid (F = wantF W d) ∧ X6 = wx) (fun s23 _ => (intOf s23).toNat)
            case atStart => exact ⟨100, by decide, rfl, HF, rfl⟩
            case round =>
              obtain ⟨d, hd, rfl, HD, rfl⟩ := hrel
              obtain ⟨c0, c1, f0, f1⟩ := HRB.out
              have hz := cell_lt c0
              have hstep : 1 < d → wantF W d = if W % d = 0 ∧ 100 % d = 0 then d else wantF W (d - 1) := fun h => by
                obtain ⟨e, rfl⟩ : ∃ e, d = e + 2 := ⟨d - 2, by omega⟩
                rfl
              by_cases hd1 : 1 < d
              · have hdl : (1 : Int) < (d : Int) := by omega
                have hd0 : ¬ ((d : Int) = 0) := by omega
                by_cases hdiv : W % d = 0 ∧ 100 % d = 0
                · have HFd := Lib.hid (show F = d by rw [HD.out, hstep hd1, if_pos hdiv])
                  have q1 : (W : Int) % (d : Int) = 0 := by
                    have h := Int.natCast_emod W d
                    rw [hdiv.1] at h
                    exact h.symm
                  have q2 : (100 : Int) % (d : Int) = 0 := by
                    have h := Int.natCast_emod 100 d
                    rw [hdiv.2] at h
                    exact h.symm
                  clear hstep
                  have hdn0 : ¬ (d = 0) := by omega
                  have kq1 : IntKind.i64.wrap ((W : Int).tdiv (d : Int)) = ((W / d : Nat) : Int) := by
                    rw [show (W : Int).tdiv (d : Int) = ((W / d : Nat) : Int) from rfl]
                    have hx := Nat.div_le_self W d
                    generalize W / d = x at hx ⊢
                    exact IntWalk.i64_in _ (by omega)
                  have kq2 : IntKind.i64.wrap ((100 : Int).tdiv (d : Int)) = ((100 / d : Nat) : Int) := by
                    rw [show (100 : Int).tdiv (d : Int) = ((100 / d : Nat) : Int) from rfl]
                    have hx := Nat.div_le_self 100 d
                    generalize 100 / d = x at hx ⊢
                    exact IntWalk.i64_in _ (by omega)
                  go_upto_region 36 with fail
                  refine (wpIn_wide (n := 9)).1 ?_
                  refine wpIn_region_pre_lit 9 1 rfl (by kernel_rfl) (by kernel_rfl) (by kernel_rfl) (by kernel_rfl) rfl ?_
                  simp only [List.take_succ_cons, List.take_zero]
                  repeat (refine wpQuietIn_step (by first | exact fun _ _ _ _ => trivial | quiet_asked_in) (fun KQ hKQ => ?_); go_simp; first | (refine hKQ _ ?_; clear hKQ KQ) | (apply Exists.intro; refine ⟨fun _ => ?_, hKQ _ ?_⟩; (fail); clear hKQ KQ))
                  refine wpQuietIn_nil ?_
                  intro _ hwq1
                  obtain ⟨nq, hwq2⟩ := hwq1
                  subst hwq2
                  simp only [List.replicate_succ, List.replicate_zero, List.cons_append, List.nil_append]
                  refine wpAnyIn_ready (rs := [9]) (by kernel_rfl) (by simp) (AllReadyIn.cons rfl (fun K' hKK => ?_) AllReadyIn.nil)
                  go_simp
                  refine hKK _ _ ?_
                  clear hKK
                  refine wpAnyIn_done (by kernel_rfl) ?_ _
                  have v1' : IntKind.i64.wrap ((W : Int) / (d : Int)) = ((W / F : Nat) : Int) := by rw [HFd.out]; exact kq1
                  have v2' : (100 : Int) / (d : Int) = ((100 / F : Nat) : Int) := by rw [HFd.out]; rfl
                  rw [v1', v2']
                  have HRY : Hid (RBox (((X6.drewN nq).setCell ⟨wr.heap.size, 0, none⟩ (.int .i64 ((W / F : Nat) : Int))).setCell ⟨wr.heap.size, 1, none⟩ (.int .i64 ((100 / F : Nat) : Int))) wr.heap.size ((W / F : Nat) : Int) ((100 / F : Nat) : Int)) := Lib.hid ((HRB.out.below (below_drewN (Below.refl X6.heap.size X6) nq)).store _ _)
                  have HIY : Hid (IntsAt (((X6.drewN nq).setCell ⟨wr.heap.size, 0, none⟩ (.int .i64 ((W / F : Nat) : Int))).setCell ⟨wr.heap.size, 1, none⟩ (.int .i64 ((100 / F : Nat) : Int))) A g 0) := Lib.hid (fun i hi => by
                    have hg := hgl.out
                    rw [World.cell?_setCell_far _ _ _ _ (by show wr.heap.size ≠ g; omega), World.cell?_setCell_far _ _ _ _ (by show wr.heap.size ≠ g; omega)]
                    exact HIA.out i hi)
                  have BY : Hid (Below w.heap.size w (((X6.drewN nq).setCell ⟨wr.heap.size, 0, none⟩ (.int .i64 ((W / F : Nat) : Int))).setCell ⟨wr.heap.size, 1, none⟩ (.int .i64 ((100 / F : Nat) : Int)))) := Lib.hid (((below_drewN B6.out nq).setCell (p := ⟨wr.heap.size, 0, none⟩) HWR.out _).setCell (p := ⟨wr.heap.size, 1, none⟩) HWR.out _)
                  clear v1' v2' kq1 kq2 c0 c1 f0 f1 hz HD HFd hd hd1 hdl hd0 hdn0 hdiv q1 q2 HIA B6 HRB
                  generalize (((X6.drewN nq).setCell ⟨wr.heap.size, 0, none⟩ (.int .i64 ((W / F : Nat) : Int))).setCell ⟨wr.heap.size, 1, none⟩ (.int .i64 ((100 / F : Nat) : Int))) = Y at *
                  have hFP := HFP.out
                  have hdn : W / F ≤ 100 ∧ 100 / F ≤ 100 := ⟨Nat.le_trans (Nat.div_le_self _ _) hW100, Nat.div_le_self _ _⟩
                  have hpart : partB ((W / F : Nat) : Int) ((100 / F : Nat) : Int) = true := by rw [HF.out]; exact want_part W hW100
                  obtain ⟨NN, hNN⟩ : ∃ x : Nat, x = W / F := ⟨_, rfl⟩
                  obtain ⟨DD, hDD⟩ : ∃ x : Nat, x = 100 / F := ⟨_, rfl⟩
                  rw [← hNN, ← hDD] at hdn hpart
                  have HRZ : Hid (RBox Y wr.heap.size (NN : Int) (DD : Int)) := by rw [hNN, hDD]; exact HRY
                  have HPART := Lib.hid hpart
                  clear hNN hDD hpart HRY
                  obtain ⟨c0, c1, -, -⟩ := HRZ.out
                  have hz := cell_lt c0
                  have hAl := HAL.out
                  go_wp2_with fail
                  refine (median_at A k hAl g 0 gc (NN : Int) (DD : Int) _ (by omega) HIY.out (by unfold I64; omega) (by unfold I64; omega) HPART.out).mono ?_
                  rintro e y1 ⟨⟨HMN, rfl⟩ | ⟨lo, hi', mn, md, HM, rfl⟩, hb1⟩
                  · obtain ⟨c0, c1, -, -⟩ := HRZ.out.below hb1
                    have hz := cell_lt c0
                    have BZ := Lib.hid (below_alloc (BY.out.trans (hb1.mono BY.out.size)) (.cells #[.int .i64 0, .int .i64 0, .int .i64 0, .int .i64 0] 60))
                    have HR9 := Lib.hid ((HRZ.out.below hb1).below (below_alloc (Below.refl y1.heap.size y1) (.cells #[.int .i64 0, .int .i64 0, .int .i64 0, .int .i64 0] 60)))
                    clear hb1 HIY BY HRZ
                    go_wp2_with fail
                    clear c0 c1 hz
                    generalize y1.alloc (.cells #[.int .i64 0, .int .i64 0, .int .i64 0, .int .i64 0] 60) = Y1 at *
                    refine (chance_ok k 1 _ (by omega) (by omega)).mono ?_
                    rintro e y2 ⟨rfl, hb2⟩
                    have hmb := m_bd (n := k) (q := 1) (by omega) (by omega)
                    have hmn := HMN.out
                    unfold mN mD at hmb hmn
                    obtain ⟨an, han⟩ : ∃ x, x = lowN (chN k 1) (2 ^ k) := ⟨_, rfl⟩
                    obtain ⟨ad, had⟩ : ∃ x, x = lowD (chN k 1) (2 ^ k) := ⟨_, rfl⟩
                    rw [← han, ← had] at hmb hmn ⊢
                    obtain ⟨c0, c1, -, -⟩ := HR9.out.below hb2
                    have hz := cell_lt c0
                    have m1 := mul_bd2 (x := an) (y := (DD : Int)) (a := 1099511627776) (b := 100) (by omega) (by omega)
                    have m2 := mul_bd2 (x := (NN : Int)) (y := ad) (a := 100) (b := 1099511627776) (by omega) (by omega)
                    have k1 : IntKind.i64.wrap (an * (DD : Int)) = an * DD := IntWalk.i64_in _ (by omega)
                    have k2 : IntKind.i64.wrap ((NN : Int) * ad) = NN * ad := IntWalk.i64_in _ (by omega)
                    have BA := Lib.hid (below_alloc (BZ.out.trans (hb2.mono BZ.out.size)) (.cells #[.int .i64 an, .int .i64 ad] 28))
                    clear hb2 hmb m1 m2 han had HMN HR9 BZ
                    go_wp2_with fail
                    refine (awake_any _).mono ?_
                    rintro e y3 ⟨rfl, hb3⟩
                    have BF := Lib.hid (BA.out.trans (hb3.mono BA.out.size))
                    clear hb3
                    go_wp2
                    go_ret
                    exact ⟨rfl, BF.out⟩
                  · have hbx : Below y1.heap.size y1 (y1.alloc (.cells #[.int .i64 lo, .int .i64 hi', .int .i64 mn, .int .i64 md] 60)) := below_alloc (Below.refl _ _) _
                    have BZ := Lib.hid ((BY.out.trans (hb1.mono BY.out.size)).trans (hbx.mono (BY.out.trans (hb1.mono BY.out.size)).size))
                    have HR9 := Lib.hid ((HRZ.out.below hb1).below hbx)
                    have HI9 := Lib.hid ((HIY.out.below hb1).below hbx)
                    have HQ9 := Lib.hid (QBox.new y1 lo hi' mn md 60)
                    clear hb1 hbx HIY BY HRZ c0 c1 hz
                    go_wp2_with fail
                    generalize y1.alloc (.cells #[.int .i64 lo, .int .i64 hi', .int .i64 mn, .int .i64 md] 60) = Y1 at *
                    go_loopw [27, 28, 201] (fun s27 s28 i wx => ∃ j : Nat, j ≤ k ∧ i = .int .i64 (j : Int) ∧ s27 = .int .i64 (lowC A lo j) ∧ s28 = .int .i64 (highC A hi' j) ∧ Y1 = wx) (fun _ _ i _ => k - (intOf i).toNat)
                    case atStart => exact ⟨0, Nat.zero_le _, rfl, rfl, rfl, rfl⟩
                    case round =>
                      obtain ⟨j, hj, rfl, rfl, rfl, rfl⟩ := hrel
                      obtain ⟨u0, u1, u2, u3, -, -, -, -⟩ := HQ9.out
                      have hzu := cell_lt u0
                      by_cases hjl : j < k
                      · have hjk : (j : Int) < (k : Int) := by omega
                        have x0 := HI9.out j (by rw [hAl]; exact hjl)
                        rw [atL_get A j (by rw [hAl]; exact hjl), Nat.zero_add] at x0
                        have b1 := lowC_bd A lo j
                        have b2 := highC_bd A hi' j
                        have e1 : lowC A lo (j + 1) = lowC A lo j + (if atL A j ≤ lo then 1 else 0) := rfl
                        have e2 : highC A hi' (j + 1) = highC A hi' j + (if hi' ≤ atL A j then 1 else 0) := rfl
                        have ki1 : IntKind.i64.wrap (lowC A lo j + 1) = lowC A lo j + 1 := IntWalk.i64_in _ (by omega)
                        have ki2 : IntKind.i64.wrap (highC A hi' j + 1) = highC A hi' j + 1 := IntWalk.i64_in _ (by omega)
                        have hz' := cell_lt x0
                        by_cases t1 : atL A j ≤ lo <;> by_cases t2 : hi' ≤ atL A j
                        all_goals
                          first | rw [if_pos t1] at e1 | rw [if_neg t1, Int.add_zero] at e1
                          first | rw [if_pos t2] at e2 | rw [if_neg t2, Int.add_zero] at e2
                          have HE1 := Lib.hid e1
                          have HE2 := Lib.hid e2
                          clear e1 e2 b1 b2
                          go_wp2
                          go_roundw
                          case rel => exact ⟨j + 1, by omega, by go_num, by rw [HE1.out], by rw [HE2.out], trivial⟩
                          case measure => simp [intOf]; omega
                      · obtain rfl : j = k := by omega
                        obtain ⟨hc, hge, hlo, hhi, hle⟩ := HM.out
                        rw [hAl] at hlo hhi
                        obtain ⟨c0, c1, -, -⟩ := HR9.out
                        have hz := cell_lt c0
                        have m1 := mul_bd2 (x := mn) (y := (DD : Int)) (a := 1099511627776) (b := 100) (by omega) (by omega)
                        have m2 := mul_bd2 (x := (NN : Int)) (y := md) (a := 100) (b := 1099511627776) (by omega) (by omega)
                        have k1 : IntKind.i64.wrap (mn * (DD : Int)) = mn * DD := IntWalk.i64_in _ (by omega)
                        have k2 : IntKind.i64.wrap ((NN : Int) * md) = NN * md := IntWalk.i64_in _ (by omega)
                        clear m1 m2 hc HM
                        go_wp2_with fail
                        refine (awake_any _).mono ?_
                        rintro e y3 ⟨rfl, hb3⟩
                        have BF := Lib.hid (BZ.out.trans (hb3.mono BZ.out.size))
                        clear hb3
                        go_wp2
                        go_ret
                        exact ⟨rfl, BF.out⟩
                · have HFd := Lib.hid (show F = wantF W (d - 1) by rw [HD.out, hstep hd1, if_neg hdiv])
                  have hq : ¬ ((W : Int) % (d : Int) = 0) ∨ ((W : Int) % (d : Int) = 0 ∧ ¬ ((100 : Int) % (d : Int) = 0)) := by
                    by_cases h : (W : Int) % (d : Int) = 0
                    · refine .inr ⟨h, fun h' => hdiv ⟨?_, ?_⟩⟩
                      · have e := Int.natCast_emod W d
                        rw [h] at e
                        omega
                      · have e := Int.natCast_emod 100 d
                        rw [show ((100 : Nat) : Int) = 100 from rfl, h'] at e
                        omega
                    · exact .inl h
                  have wd : IntKind.i64.wrap ((d : Int) - 1) = (d : Int) - 1 := IntWalk.i64_in _ (by omega)
                  clear hstep
                  rcases hq with hq | ⟨hq, hq'⟩
                  all_goals
                    go_wp2
                    go_roundw
                    case rel => exact ⟨d - 1, by omega, by congr 1; omega, HFd, trivial⟩
                    case measure => simp [intOf]; omega
              · obtain rfl : d = 1 := by omega
                have hF1 : F = 1 := HD.out
                have HRY : Hid (RBox X6 wr.heap.size ((W / F : Nat) : Int) ((100 / F : Nat) : Int)) := Lib.hid (by rw [hF1, Nat.div_one, Nat.div_one]; exact HRB.out)
                have HIY := Lib.hid HIA.out
                have BY := Lib.hid B6.out
                clear hstep c0 c1 f0 f1 hz HD hd hd1 HIA B6 HRB hF1
                have hYX : ∃ Y, Y = X6 := ⟨_, rfl⟩
                obtain ⟨Y, hYX⟩ := hYX
                rw [← hYX] at HRY HIY BY ⊢
                clear hYX
                have hFP := HFP.out
                have hdn : W / F ≤ 100 ∧ 100 / F ≤ 100 := ⟨Nat.le_trans (Nat.div_le_self _ _) hW100, Nat.div_le_self _ _⟩
                have hpart : partB ((W / F : Nat) : Int) ((100 / F : Nat) : Int) = true := by rw [HF.out]; exact want_part W hW100
                obtain ⟨NN, hNN⟩ : ∃ x : Nat, x = W / F := ⟨_, rfl⟩
                obtain ⟨DD, hDD⟩ : ∃ x : Nat, x = 100 / F := ⟨_, rfl⟩
                rw [← hNN, ← hDD] at hdn hpart
                have HRZ : Hid (RBox Y wr.heap.size (NN : Int) (DD : Int)) := by rw [hNN, hDD]; exact HRY
                have HPART := Lib.hid hpart
                clear hNN hDD hpart HRY
                obtain ⟨c0, c1, -, -⟩ := HRZ.out
                have hz := cell_lt c0
                have hAl := HAL.out
                go_wp2_with fail
                refine (median_at A k hAl g 0 gc (NN : Int) (DD : Int) _ (by omega) HIY.out (by unfold I64; omega) (by unfold I64; omega) HPART.out).mono ?_
                rintro e y1 ⟨⟨HMN, rfl⟩ | ⟨lo, hi', mn, md, HM, rfl⟩, hb1⟩
                · obtain ⟨c0, c1, -, -⟩ := HRZ.out.below hb1
                  have hz := cell_lt c0
                  have BZ := Lib.hid (below_alloc (BY.out.trans (hb1.mono BY.out.size)) (.cells #[.int .i64 0, .int .i64 0, .int .i64 0, .int .i64 0] 60))
                  have HR9 := Lib.hid ((HRZ.out.below hb1).below (below_alloc (Below.refl y1.heap.size y1) (.cells #[.int .i64 0, .int .i64 0, .int .i64 0, .int .i64 0] 60)))
                  clear hb1 HIY BY HRZ
                  go_wp2_with fail
                  clear c0 c1 hz
                  generalize y1.alloc (.cells #[.int .i64 0, .int .i64 0, .int .i64 0, .int .i64 0] 60) = Y1 at *
                  refine (chance_ok k 1 _ (by omega) (by omega)).mono ?_
                  rintro e y2 ⟨rfl, hb2⟩
                  have hmb := m_bd (n := k) (q := 1) (by omega) (by omega)
                  have hmn := HMN.out
                  unfold mN mD at hmb hmn
                  obtain ⟨an, han⟩ : ∃ x, x = lowN (chN k 1) (2 ^ k) := ⟨_, rfl⟩
                  obtain ⟨ad, had⟩ : ∃ x, x = lowD (chN k 1) (2 ^ k) := ⟨_, rfl⟩
                  rw [← han, ← had] at hmb hmn ⊢
                  obtain ⟨c0, c1, -, -⟩ := HR9.out.below hb2
                  have hz := cell_lt c0
                  have m1 := mul_bd2 (x := an) (y := (DD : Int)) (a := 1099511627776) (b := 100) (by omega) (by omega)
                  have m2 := mul_bd2 (x := (NN : Int)) (y := ad) (a := 100) (b := 1099511627776) (by omega) (by omega)
                  have k1 : IntKind.i64.wrap (an * (DD : Int)) = an * DD := IntWalk.i64_in _ (by omega)
                  have k2 : IntKind.i64.wrap ((NN : Int) * ad) = NN * ad := IntWalk.i64_in _ (by omega)
                  have BA := Lib.hid (below_alloc (BZ.out.trans (hb2.mono BZ.out.size)) (.cells #[.int .i64 an, .int .i64 ad] 28))
                  clear hb2 hmb m1 m2 han had HMN HR9 BZ
                  go_wp2_with fail
                  refine (awake_any _).mono ?_
                  rintro e y3 ⟨rfl, hb3⟩
                  have BF := Lib.hid (BA.out.trans (hb3.mono BA.out.size))
                  clear hb3
                  go_wp2
                  go_ret
                  exact ⟨rfl, BF.out⟩
                · have hbx : Below y1.heap.size y1 (y1.alloc (.cells #[.int .i64 lo, .int .i64 hi', .int .i64 mn, .int .i64 md] 60)) := below_alloc (Below.refl _ _) _
                  have BZ := Lib.hid ((BY.out.trans (hb1.mono BY.out.size)).trans (hbx.mono (BY.out.trans (hb1.mono BY.out.size)).size))
                  have HR9 := Lib.hid ((HRZ.out.below hb1).below hbx)
                  have HI9 := Lib.hid ((HIY.out.below hb1).below hbx)
                  have HQ9 := Lib.hid (QBox.new y1 lo hi' mn md 60)
                  clear hb1 hbx HIY BY HRZ c0 c1 hz
                  go_wp2_with fail
                  generalize y1.alloc (.cells #[.int .i64 lo, .int .i64 hi', .int .i64 mn, .int .i64 md] 60) = Y1 at *
                  go_loopw [27, 28, 201] (fun s27 s28 i wx => ∃ j : Nat, j ≤ k ∧ i = .int .i64 (j : Int) ∧ s27 = .int .i64 (lowC A lo j) ∧ s28 = .int .i64 (highC A hi' j) ∧ Y1 = wx) (fun _ _ i _ => k - (intOf i).toNat)
                  case atStart => exact ⟨0, Nat.zero_le _, rfl, rfl, rfl, rfl⟩
                  case round =>
                    obtain ⟨j, hj, rfl, rfl, rfl, rfl⟩ := hrel
                    obtain ⟨u0, u1, u2, u3, -, -, -, -⟩ := HQ9.out
                    have hzu := cell_lt u0
                    by_cases hjl : j < k
                    · have hjk : (j : Int) < (k : Int) := by omega
                      have x0 := HI9.out j (by rw [hAl]; exact hjl)
                      rw [atL_get A j (by rw [hAl]; exact hjl), Nat.zero_add] at x0
                      have b1 := lowC_bd A lo j
                      have b2 := highC_bd A hi' j
                      have e1 : lowC A lo (j + 1) = lowC A lo j + (if atL A j ≤ lo then 1 else 0) := rfl
                      have e2 : highC A hi' (j + 1) = highC A hi' j + (if hi' ≤ atL A j then 1 else 0) := rfl
                      have ki1 : IntKind.i64.wrap (lowC A lo j + 1) = lowC A lo j + 1 := IntWalk.i64_in _ (by omega)
                      have ki2 : IntKind.i64.wrap (highC A hi' j + 1) = highC A hi' j + 1 := IntWalk.i64_in _ (by omega)
                      have hz' := cell_lt x0
                      by_cases t1 : atL A j ≤ lo <;> by_cases t2 : hi' ≤ atL A j
                      all_goals
                        first | rw [if_pos t1] at e1 | rw [if_neg t1, Int.add_zero] at e1
                        first | rw [if_pos t2] at e2 | rw [if_neg t2, Int.add_zero] at e2
                        have HE1 := Lib.hid e1
                        have HE2 := Lib.hid e2
                        clear e1 e2 b1 b2
                        go_wp2
                        go_roundw
                        case rel => exact ⟨j + 1, by omega, by go_num, by rw [HE1.out], by rw [HE2.out], trivial⟩
                        case measure => simp [intOf]; omega
                    · obtain rfl : j = k := by omega
                      obtain ⟨hc, hge, hlo, hhi, hle⟩ := HM.out
                      rw [hAl] at hlo hhi
                      obtain ⟨c0, c1, -, -⟩ := HR9.out
                      have hz := cell_lt c0
                      have m1 := mul_bd2 (x := mn) (y := (DD : Int)) (a := 1099511627776) (b := 100) (by omega) (by omega)
                      have m2 := mul_bd2 (x := (NN : Int)) (y := md) (a := 100) (b := 1099511627776) (by omega) (by omega)
                      have k1 : IntKind.i64.wrap (mn * (DD : Int)) = mn * DD := IntWalk.i64_in _ (by omega)
                      have k2 : IntKind.i64.wrap ((NN : Int) * md) = NN * md := IntWalk.i64_in _ (by omega)
                      clear m1 m2 hc HM
                      go_wp2_with fail
                      refine (awake_any _).mono ?_
                      rintro e y3 ⟨rfl, hb3⟩
                      have BF := Lib.hid (BZ.out.trans (hb3.mono BZ.out.size))
                      clear hb3
                      go_wp2
                      go_ret
                      exact ⟨rfl, BF.out⟩
end Go.Proofs.Ytbkcjhmemfndbaa
