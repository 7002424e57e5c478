/- Contracts of the reference of layer 3: Exchange where its sizes are allowed. · Contracts of the reference of layer 3: Exchange, all cases. -/
import Derived.Test.YthkndjkgokojmaaRa
import Derived.Test.YthkndjkgokojmaaRq
import Derived.Test.YthkndjkgokojmaaSx
import Derived.Test.YthkndjkgokojmaaStT
import Derived.Test.YthkndjkgokojmaaQc
namespace Go.Proofs.Ythkndjkgokojmaa
section
open Go Go.RowKit Go.Shelf
theorem ands_one (n : Int) : bits .and .i64 n 1 = n % 2 := by
  have h1 : (BitVec.ofInt 64 1).toNat = 2 ^ 1 - 1 := by decide
  have key : (BitVec.ofInt 64 n &&& BitVec.ofInt 64 1).toNat = (n % ((2 ^ 64 : Nat) : Int)).toNat % 2 ^ 1 := by
    rw [BitVec.toNat_and, BitVec.toNat_ofInt, h1, Nat.and_two_pow_sub_one_eq_mod]
  show IntKind.i64.wrap ((BitVec.ofInt 64 n &&& BitVec.ofInt 64 1).toNat : Nat) = n % 2
  rw [key, IntKind.wrap_i64]
  omega
theorem place_is (s j : Nat) : bits .and .i64 ((s : Int) / 2 ^ j) 1 = ((s / 2 ^ j % 2 : Nat) : Int) := by
  rw [ands_one]
  simp
def szF (s : Nat) (i : Nat) : Int := sumF (fun j => ((s / 2 ^ j % 2 : Nat) : Int)) i
def smF (P : List Int) (s : Nat) (i : Nat) : Int := sumF (fun j => if s / 2 ^ j % 2 = 1 then atL P j else 0) i
theorem szF_bd (s : Nat) (i : Nat) : 0 ≤ szF s i ∧ szF s i ≤ i := by
  have := fun j => show s / 2 ^ j % 2 < 2 from Nat.mod_lt _ (by decide)
  refine ⟨sumF_nonneg _ _ fun j _ => by omega, ?_⟩
  have := (sumF_bd (fun j => ((s / 2 ^ j % 2 : Nat) : Int)) 1 i fun j _ => by have := this j; omega).2
  unfold szF; omega
theorem smF_bd {P : List Int} (h : P.all numB = true) (s i : Nat) : -(1000000000000 * (i : Int)) ≤ smF P s i ∧ smF P s i ≤ 1000000000000 * i :=
  sumF_bd _ _ _ fun j _ => by
    have := numB_yes (all_at h j)
    show _ ≤ (if _ then _ else _) ∧ (if _ then _ else _) ≤ _
    split <;> omega
def ownF (P : List Int) (k : Nat) (i : Nat) : Int := sumF (fun j => if j < k then atL P j else 0) i
theorem ownF_bd {P : List Int} (h : P.all numB = true) (k i : Nat) : -(1000000000000 * (i : Int)) ≤ ownF P k i ∧ ownF P k i ≤ 1000000000000 * i :=
  sumF_bd _ _ _ fun j _ => by
    have := numB_yes (all_at h j)
    show _ ≤ (if _ then _ else _) ∧ (if _ then _ else _) ≤ _
    split <;> omega
theorem ownF_first (a b : List Int) : ∀ i, i ≤ a.length → ownF (a ++ b) a.length i = sumF (atL a) i
  | 0, _ => rfl
  | i + 1, h => by
    show ownF (a ++ b) a.length i + _ = sumF (atL a) i + atL a i
    rw [ownF_first a b i (by omega)]
    show _ + (if i < a.length then atL (a ++ b) i else 0) = _
    rw [if_pos (by omega)]
    congr 1
    unfold atL
    rw [List.getElem?_append_left (by omega)]
theorem ownF_rest (P : List Int) (k : Nat) : ∀ i, ownF P k (k + i) = ownF P k k
  | 0 => rfl
  | i + 1 => by
    show ownF P k (k + i) + (if k + i < k then _ else 0) = _
    rw [if_neg (by omega), ownF_rest P k i]; omega
theorem ownF_all (a b : List Int) : ownF (a ++ b) a.length (a.length + b.length) = sumL a := by
  rw [ownF_rest, ownF_first a b a.length (Nat.le_refl _), ← totalL_sum]; rfl
theorem szF_all (P : List Int) (s : Nat) : szF s P.length = (szB P s : Int) := (szB_sum P s).symm
theorem smF_all (P : List Int) (s : Nat) : smF P s P.length = smB P s := (smB_sum P s).symm
def hitF (P : List Int) (k : Nat) (t : Int) (s : Nat) : Int := sumF (hitB P k t) s
def setF (P : List Int) (k : Nat) (s : Nat) : Int := sumF (setB P k) s
theorem hitF_bd (P : List Int) (k : Nat) (t : Int) (s : Nat) : 0 ≤ hitF P k t s ∧ hitF P k t s ≤ s := by
  have h : ∀ j, 0 ≤ hitB P k t j ∧ hitB P k t j ≤ 1 := fun j => by unfold hitB; split <;> decide
  refine ⟨sumF_nonneg _ _ fun j _ => (h j).1, ?_⟩
  have := (sumF_bd (hitB P k t) 1 s fun j _ => by have := h j; omega).2
  unfold hitF; omega
theorem setF_bd (P : List Int) (k : Nat) (s : Nat) : 0 ≤ setF P k s ∧ setF P k s ≤ s := by
  have h : ∀ j, 0 ≤ setB P k j ∧ setB P k j ≤ 1 := fun j => by unfold setB; split <;> decide
  refine ⟨sumF_nonneg _ _ fun j _ => (h j).1, ?_⟩
  have := (sumF_bd (setB P k) 1 s fun j _ => by have := h j; omega).2
  unfold setF; omega
/-- two lists put behind one another -/
structure CatAt (w X : World) (v : Value) (L : List Int) : Prop where
  own : X.ownsRow (w.heap.size + 1) 3 1 v L.length (ints L)
  bel : Below w.heap.size w X
  ge : w.heap.size + 1 ≤ X.heap.size
  rb : RBox X w.heap.size 0 0
theorem CatAt.step {w X Y : World} {v v' : Value} {L M : List Int} (h : CatAt w X v L) (hown : Y.ownsRow (w.heap.size + 1) 3 1 v' (L.length + M.length) (ints L ++ M.map (Value.int .i64))) (hg : X.grownBy Y v.ownBlock) :
    CatAt w Y v' (L ++ M) ∧ Below (w.heap.size + 1) X Y := by
  have hb : Below (w.heap.size + 1) X Y := (Below.refl _ X).grown hg h.ge (own_base_le h.own)
  have hb0 : Below w.heap.size X Y := hb.mono (by omega)
  refine ⟨⟨by rw [List.length_append, show ints (L ++ M) = ints L ++ M.map (Value.int .i64) from List.map_append]; exact hown, h.bel.trans hb0, Nat.le_trans h.ge hb.size, ?_⟩, hb⟩
  obtain ⟨c0, c1, f0, f1⟩ := h.rb
  exact ⟨(hb.cell (p := ⟨w.heap.size, 0, none⟩) (Nat.lt_succ_self _)).trans c0, (hb.cell (p := ⟨w.heap.size, 1, none⟩) (Nat.lt_succ_self _)).trans c1,
    (hb.frozen (p := ⟨w.heap.size, 0, none⟩) (Nat.lt_succ_self _)).trans f0, (hb.frozen (p := ⟨w.heap.size, 1, none⟩) (Nat.lt_succ_self _)).trans f1⟩
theorem CatAt.start (w : World) (t : TypeId) : CatAt w ((w.alloc (.cells #[.int .i64 0, .int .i64 0] t)).alloc (.cells #[] 3)) (.slice (some ⟨w.heap.size + 1, 0, none⟩) 0 0) [] := by
  have b0 := below_alloc (Below.refl w.heap.size w) (.cells #[.int .i64 0, .int .i64 0] t)
  have h := empty_own (w.alloc (.cells #[.int .i64 0, .int .i64 0] t))
  have hs : (w.alloc (.cells #[.int .i64 0, .int .i64 0] t)).heap.size = w.heap.size + 1 := by simp
  rw [hs] at h
  exact ⟨h, below_alloc b0 _, by simp, (RBox.new w 0 0 t).below (below_alloc (Below.refl _ _) _)⟩
theorem cells_of {n₀ : Nat} {X Y : World} {M : List Int} {b o : Nat} (h : ∀ j u, (M.map (Value.int .i64))[j]? = some u → X.cell? ((⟨b, o, none⟩ : Addr).add j) = some u) (hb : Below n₀ X Y) (hlt : b < n₀) :
    ∀ j u, (M.map (Value.int .i64))[j]? = some u → Y.cell? ((⟨b, o, none⟩ : Addr).add j) = some u := fun j u hj => by
  rw [← h j u hj]
  rw [show (⟨b, o, none⟩ : Addr).add j = ⟨b, o + j, none⟩ by simp only [Addr.add]; split <;> simp_all]
  exact hb.cell (p := ⟨b, o + j, none⟩) hlt
/-- how the two counts go on -/
theorem hit_yes {P : List Int} {k : Nat} {t : Int} {s : Nat} (h1 : szB P s = k) (h2 : t ≤ smB P s) : hitF P k t (s + 1) = hitF P k t s + 1 := by
  show hitF P k t s + hitB P k t s = _
  rw [show hitB P k t s = 1 from if_pos ⟨h1, h2⟩]
theorem hit_no {P : List Int} {k : Nat} {t : Int} {s : Nat} (h : ¬ (szB P s = k ∧ t ≤ smB P s)) : hitF P k t (s + 1) = hitF P k t s := by
  show hitF P k t s + hitB P k t s = _
  rw [show hitB P k t s = 0 from if_neg h]; omega
theorem set_yes {P : List Int} {k : Nat} {s : Nat} (h1 : szB P s = k) : setF P k (s + 1) = setF P k s + 1 := by
  show setF P k s + setB P k s = _
  rw [show setB P k s = 1 from if_pos h1]
theorem set_no {P : List Int} {k : Nat} {s : Nat} (h1 : ¬ szB P s = k) : setF P k (s + 1) = setF P k s := by
  show setF P k s + setB P k s = _
  rw [show setB P k s = 0 from if_neg h1]; omega
theorem cs_pos (n k : Nat) (h2 : k < n) : 1 ≤ cs n k := by
  have := exS_pos n k 0 (by omega)
  rwa [exS_eq, Nat.sub_zero] at this
theorem two_small {n : Nat} (h : n ≤ 16) : 2 ^ n ≤ 65536 := Nat.le_trans (Nat.pow_le_pow_right (by decide) h) (by decide)
set_option maxRecDepth 100000 in
set_option maxHeartbeats 4000000 in
theorem rexch_ok (ba oa ca bb ob cb : Nat) (a b : List Int) (w : World) (ha : 1 ≤ a.length) (hb : 1 ≤ b.length) (h16 : a.length + b.length ≤ 16) (hA : IntsAt w a ba oa) (hB : IntsAt w b bb ob) (hall : (a ++ b).all numB = true) :
    Calls Try.prog 21 #[.slice (some ⟨ba, oa, none⟩) a.length ca, .slice (some ⟨bb, ob, none⟩) b.length cb] w fun e w' =>
      e = .returned (.tuple #[.agg #[.int .i64 (lowN (cg (a ++ b) a.length (sumL a)) (cs (a.length + b.length) a.length)), .int .i64 (lowD (cg (a ++ b) a.length (sumL a)) (cs (a.length + b.length) a.length))], .int .i64 0]) ∧ Below w.heap.size w w' := by
  obtain ⟨i0, hi0, hz0, hz1, hz2⟩ := info_parts infoInt
  have hea : ((a.length : Int) == 0) = false := beq_eq_false_iff_ne.2 (by omega)
  have heb : ((b.length : Int) == 0) = false := beq_eq_false_iff_ne.2 (by omega)
  have ws : IntKind.i64.wrap ((a.length : Int) + b.length) = ((a.length + b.length : Nat) : Int) := by rw [IntWalk.i64_in _ (by omega)]; omega
  obtain ⟨VN, hVN⟩ : ∃ x, x = lowN (cg (a ++ b) a.length (sumL a)) (cs (a.length + b.length) a.length) := ⟨_, rfl⟩
  obtain ⟨VD, hVD⟩ : ∃ x, x = lowD (cg (a ++ b) a.length (sumL a)) (cs (a.length + b.length) a.length) := ⟨_, rfl⟩
  rw [← hVN, ← hVD]
  obtain ⟨n, hn⟩ : ∃ n, n = a.length + b.length := ⟨_, rfl⟩
  rw [← hn] at ws hVN hVD
  have HVN := Lib.hid hVN
  have HVD := Lib.hid hVD
  clear hVN hVD
  have hsi : (n : Int) ≤ 16 := by omega
  have hkn : a.length < n := by omega
  have hlb := cell_lt (hB 0 hb)
  have HC0 := Lib.hid (CatAt.start w 24)
  have HA1 := Lib.hid (ints_cells (hA.below (below_alloc (below_alloc (Below.refl w.heap.size w) (.cells #[.int .i64 0, .int .i64 0] 24)) (.cells #[] 3))))
  have HB1 := Lib.hid (ints_cells (hB.below (below_alloc (below_alloc (Below.refl w.heap.size w) (.cells #[.int .i64 0, .int .i64 0] 24)) (.cells #[] 3))))
  have HN := Lib.hid hn
  have HALL := Lib.hid hall
  have hpo : ∀ u ∈ a.map (Value.int .i64), u.oneCell' = true := by intro u hu; obtain ⟨x, _, rfl⟩ := List.mem_map.1 hu; rfl
  have hpb : ∀ u ∈ b.map (Value.int .i64), u.oneCell' = true := by intro u hu; obtain ⟨x, _, rfl⟩ := List.mem_map.1 hu; rfl
  have HPO := Lib.hid hpo
  have HPB := Lib.hid hpb
  have hba : bb < w.heap.size + 1 := by omega
  clear hA hB hn hall hpo hpb hlb
  go_enter Try.func21, Try.ntmps21
  go_wp2_with (first | (at_builtin; refine wpList_append_own_at _ rfl (.tmp 33) (.tmp 34) _ rfl (w.heap.size + 1) 3 i0 (.int .i64 0) 1 8 Try.underlying22 hi0 hz0 hz1 hz2 rfl (by decide) _ 0 [] rfl HC0.out.own ⟨ba, oa, none⟩ a.length ca (a.map (Value.int .i64)) rfl (by simp) HA1.out HPO.out (by unfold maxLen; omega) (by omega) HC0.out.ge ?_; intro v1 x1 hown1 hg1 _ _; have HP1 := Lib.hid (HC0.out.step (M := a) hown1 hg1); clear hown1 hg1) | (at_builtin; refine wpList_append_own_at _ rfl (.tmp 35) (.tmp 36) _ rfl (w.heap.size + 1) 3 i0 (.int .i64 0) 1 8 Try.underlying22 hi0 hz0 hz1 hz2 rfl (by decide) _ a.length (ints a) rfl HP1.out.1.own ⟨bb, ob, none⟩ b.length cb (b.map (Value.int .i64)) rfl (by simp) (cells_of HB1.out HP1.out.2 hba) HPB.out (by unfold maxLen; omega) (by omega) HP1.out.1.ge ?_; intro v2 x2 hown2 hg2 _ _; have HP2 := Lib.hid (HP1.out.1.step (M := b) hown2 hg2).1; clear hown2 hg2))
  have HP3 : Hid (CatAt w x2 v2 (a ++ b)) := HP2
  obtain ⟨P, hP⟩ : ∃ P, P = a ++ b := ⟨_, rfl⟩
  rw [← hP] at HP3 HALL HVN HVD
  have hPl : P.length = n := by rw [hP, List.length_append]; exact HN.out.symm
  have HT := Lib.hid (ownF_all a b)
  rw [← hP, ← HN.out] at HT
  obtain ⟨g, cap, rfl, hI⟩ := OwnI.ints (B := w.heap.size + 1) (X := x2) HP3.out.own (by omega)
  have HI := Lib.hid hI
  have HPL := Lib.hid hPl
  obtain ⟨Z, hZ⟩ : ∃ Z : Nat, Z = 2 ^ n := ⟨_, rfl⟩
  have hZi : (2 : Int) ^ n = (Z : Int) := by rw [hZ]; simp
  have hZ6 : Z ≤ 65536 := by rw [hZ]; exact two_small (by omega)
  have wz : IntKind.i64.wrap ((2 : Int) ^ n) = (Z : Int) := by rw [hZi]; exact IntWalk.i64_in _ (by omega)
  obtain ⟨A, hA⟩ : ∃ A, A = a.length := ⟨_, rfl⟩
  rw [← hA] at HT hkn HVN HVD
  have HAA := Lib.hid hA
  have HHIT := Lib.hid (hits_all P A (sumL a))
  have HSET := Lib.hid (sets_all P A)
  rw [hPl, ← hZ] at HHIT HSET
  have HCS := Lib.hid (cs_pos n A hkn)
  obtain ⟨T, hTT⟩ : ∃ T, T = sumL a := ⟨_, rfl⟩
  rw [← hTT] at HT HHIT HVN HVD
  have HZ := Lib.hid hZ
  clear hI hPl hZi hTT hZ hP HP2
  rw [← hA]
  clear hA
  go_loop [8, 9] (fun ov i => ∃ k : Nat, k ≤ n ∧ i = .int .i64 (k : Int) ∧ ov = .int .i64 (ownF P A k)) (fun _ i => n - (intOf i).toNat)
  case atStart => exact ⟨0, Nat.zero_le _, rfl, rfl⟩
  case round =>
    obtain ⟨k, hk, rfl, rfl⟩ := hrel
    by_cases hlt : k < n
    · have hkl : (k : Int) < (n : Int) := by omega
      have hkp : (k : Int) < (P.length : Int) := by rw [HPL.out]; exact hkl
      have x0 := HI.out k (by rw [HPL.out]; exact hlt)
      rw [atL_get, Nat.zero_add] at x0
      have hz := cell_lt x0
      have HW := Lib.hid (fun W => rin_yes (atL P k) (-1000000000000) 1000000000000 W (numB_yes (all_at HALL.out k)))
      have hbd := ownF_bd HALL.out A k
      have hbx := numB_yes (all_at HALL.out k)
      have v1 : IntKind.i64.wrap ((k : Int) + 1) = (k : Int) + 1 := IntWalk.i64_in _ (by omega)
      by_cases hka : k < A
      · have hki : (k : Int) < (A : Int) := by omega
        have v2 : IntKind.i64.wrap (ownF P A k + atL P k) = ownF P A (k + 1) := by
          rw [show ownF P A (k + 1) = ownF P A k + (if k < A then atL P k else 0) from rfl, if_pos hka]; exact IntWalk.i64_in _ (by omega)
        clear hbd hbx
        go_wp2_with (go_at_call 58; refine (HW.out _).mono ?_; rintro e w1 ⟨rfl, rfl⟩)
        go_round
        case rel => exact ⟨k + 1, by omega, by simp, rfl⟩
        case measure => simp [intOf]; omega
      · have hki : ¬ ((k : Int) < (A : Int)) := by omega
        have HV := Lib.hid (show ownF P A (k + 1) = ownF P A k by rw [show ownF P A (k + 1) = ownF P A k + (if k < A then atL P k else 0) from rfl, if_neg hka]; omega)
        clear hbd hbx
        go_wp2_with (go_at_call 58; refine (HW.out _).mono ?_; rintro e w1 ⟨rfl, rfl⟩)
        go_round
        case rel => exact ⟨k + 1, by omega, by simp, by rw [HV.out]⟩
        case measure => simp [intOf]; omega
    · obtain rfl : k = n := by omega
      rw [HT.out]
      go_wp2
      have hTb : -20000000000000 ≤ T ∧ T ≤ 20000000000000 := by
        have h := ownF_bd HALL.out A k
        rw [HT.out] at h
        omega
      go_loop [10, 11, 12] (fun c t i => ∃ s : Nat, s ≤ Z ∧ i = .int .i64 (s : Int) ∧ c = .int .i64 (hitF P A T s) ∧ t = .int .i64 (setF P A s)) (fun _ _ i => Z - (intOf i).toNat)
      case atStart => exact ⟨0, Nat.zero_le _, rfl, rfl, rfl⟩
      case round =>
        obtain ⟨s, hs, rfl, rfl, rfl⟩ := hrel
        by_cases hsl : s < Z
        · have hsi : (s : Int) < (Z : Int) := by omega
          go_wp2
          go_loop [13, 14, 15] (fun z m i => ∃ j : Nat, j ≤ k ∧ i = .int .i64 (j : Int) ∧ z = .int .i64 (szF s j) ∧ m = .int .i64 (smF P s j)) (fun _ _ i => k - (intOf i).toNat)
          case atStart => exact ⟨0, Nat.zero_le _, rfl, rfl, rfl⟩
          case round =>
            obtain ⟨j, hj, rfl, rfl, rfl⟩ := hrel
            by_cases hjl : j < k
            · have hji : (j : Int) < (k : Int) := by omega
              have hjp : (j : Int) < (P.length : Int) := by rw [HPL.out]; exact hji
              have x0 := HI.out j (by rw [HPL.out]; exact hjl)
              rw [atL_get, Nat.zero_add] at x0
              have hz := cell_lt x0
              have hb1 := szF_bd s j
              have hb2 := smF_bd HALL.out s j
              have hbx := numB_yes (all_at HALL.out j)
              have kb := place_is s j
              have v1 : IntKind.i64.wrap ((j : Int) + 1) = (j : Int) + 1 := IntWalk.i64_in _ (by omega)
              by_cases hbit : s / 2 ^ j % 2 = 1
              · rw [hbit] at kb
                have v2 : IntKind.i64.wrap (szF s j + 1) = szF s (j + 1) := by
                  rw [show szF s (j + 1) = szF s j + ((s / 2 ^ j % 2 : Nat) : Int) from rfl, hbit]; exact IntWalk.i64_in _ (by omega)
                have v3 : IntKind.i64.wrap (smF P s j + atL P j) = smF P s (j + 1) := by
                  rw [show smF P s (j + 1) = smF P s j + (if s / 2 ^ j % 2 = 1 then atL P j else 0) from rfl, if_pos hbit]; exact IntWalk.i64_in _ (by omega)
                clear hb1 hb2 hbx hbit
                go_wp2
                go_round
                case rel => exact ⟨j + 1, by omega, by simp, rfl, rfl⟩
                case measure => simp [intOf]; omega
              · have hb0 : s / 2 ^ j % 2 = 0 := by omega
                rw [hb0] at kb
                have HV2 := Lib.hid (show szF s (j + 1) = szF s j by rw [show szF s (j + 1) = szF s j + ((s / 2 ^ j % 2 : Nat) : Int) from rfl, hb0]; simp)
                have HV3 := Lib.hid (show smF P s (j + 1) = smF P s j by rw [show smF P s (j + 1) = smF P s j + (if s / 2 ^ j % 2 = 1 then atL P j else 0) from rfl, if_neg hbit]; omega)
                clear hb1 hb2 hbx hbit hb0
                go_wp2
                go_round
                case rel => exact ⟨j + 1, by omega, by simp, by rw [HV2.out], by rw [HV3.out]⟩
                case measure => simp [intOf]; omega
            · obtain rfl : j = k := by omega
              have hzs := szF_all P s
              have hms := smF_all P s
              rw [HPL.out] at hzs hms
              rw [hzs, hms]
              have hb1 := szF_bd s j
              have hb2 := smF_bd HALL.out s j
              rw [hzs] at hb1
              rw [hms] at hb2
              have hb3 := hitF_bd P A T s
              have hb4 := setF_bd P A s
              have v1 : IntKind.i64.wrap ((s : Int) + 1) = (s : Int) + 1 := IntWalk.i64_in _ (by omega)
              have v2 : IntKind.i64.wrap (setF P A s + 1) = setF P A s + 1 := IntWalk.i64_in _ (by omega)
              have v3 : IntKind.i64.wrap (hitF P A T s + 1) = hitF P A T s + 1 := IntWalk.i64_in _ (by omega)
              clear hzs hms hb1 hb3 hb4
              by_cases h1 : szB P s = A
              · have HY := Lib.hid (set_yes (P := P) h1)
                rw [h1]
                by_cases h2 : T ≤ smB P s
                · have HY2 := Lib.hid (hit_yes (P := P) h1 h2)
                  clear h1 hb2
                  go_wp2
                  go_round
                  case rel => exact ⟨s + 1, by omega, by simp, by rw [HY2.out], by rw [HY.out]⟩
                  case measure => simp [intOf]; omega
                · have HY2 := Lib.hid (hit_no (P := P) (k := A) (t := T) (s := s) (fun h => h2 h.2))
                  clear h1 hb2
                  go_wp2
                  go_round
                  case rel => exact ⟨s + 1, by omega, by simp, by rw [HY2.out], by rw [HY.out]⟩
                  case measure => simp [intOf]; omega
              · have HY := Lib.hid (set_no (P := P) h1)
                have HY2 := Lib.hid (hit_no (P := P) (k := A) (t := T) (s := s) (fun h => h1 h.1))
                have hne : ((szB P s : Int) == (A : Int)) = false := beq_eq_false_iff_ne.2 (by omega)
                clear h1 hb2
                go_wp2
                go_round
                case rel => exact ⟨s + 1, by omega, by simp, by rw [HY2.out], by rw [HY.out]⟩
                case measure => simp [intOf]; omega
        · obtain rfl : s = Z := by omega
          have hh : hitF P A T s = cg P A T := HHIT.out
          have hss : setF P A s = cs k A := HSET.out
          rw [hh, hss]
          have hb3 := hitF_bd P A T s
          have hb4 := setF_bd P A s
          rw [hh] at hb3
          rw [hss] at hb4
          have hcp := HCS.out
          have HFR := Lib.hid (fun W => rfrac_any (cg P A T) (cs k A) W (by omega) (by omega))
          have hVN := HVN.out
          have hVD := HVD.out
          rw [← hVN, ← hVD] at HFR
          clear hh hss hb3 hb4 hcp hVN hVD
          go_wp2_with fail
          refine (HFR.out _).mono ?_
          rintro e z ⟨rfl, hb⟩
          have HRB2 := Lib.hid (HP3.out.rb.below hb)
          have HB2 := Lib.hid (HP3.out.bel.trans (hb.mono HP3.out.bel.size))
          obtain ⟨b0, b1, f0, f1⟩ := HRB2.out
          have hz := cell_lt b0
          obtain ⟨r0, r1⟩ := set2 (.int .i64 VN) (.int .i64 VD) b0 b1
          clear hb
          go_wp2
          exact bodyPost_ret (v := .tuple #[.agg #[.int .i64 VN, .int .i64 VD], .int .i64 0]) (by simp [results, Try.results21, go_sem, r0, r1]) rfl ⟨rfl, below2 _ _ HB2.out (Nat.le_refl _)⟩
end
section
open Go Go.RowKit Go.Shelf
theorem ownF_pre {P : List Int} {m : Nat} (h : ∀ i, i < m → numB (atL P i) = true) (k i : Nat) (hi : i ≤ m) : -(1000000000000 * (i : Int)) ≤ ownF P k i ∧ ownF P k i ≤ 1000000000000 * i :=
  sumF_bd _ _ _ fun j hj => by
    have := numB_yes (h j (by omega))
    show _ ≤ (if _ then _ else _) ∧ (if _ then _ else _) ≤ _
    split <;> omega
set_option maxRecDepth 100000 in
set_option maxHeartbeats 4000000 in
theorem rexch_bad (ba oa ca bb ob cb : Nat) (a b : List Int) (w : World) (ha : 1 ≤ a.length) (hb : 1 ≤ b.length) (h16 : a.length + b.length ≤ 16) (hA : IntsAt w a ba oa) (hB : IntsAt w b bb ob) (m : Nat) (hm : m < a.length + b.length) (hbad : numB (atL (a ++ b) m) = false) (hpre : ∀ i, i < m → numB (atL (a ++ b) i) = true) :
    Calls Try.prog 21 #[.slice (some ⟨ba, oa, none⟩) a.length ca, .slice (some ⟨bb, ob, none⟩) b.length cb] w fun e w' =>
      e = .returned (exNo 6) ∧ Below w.heap.size w w' := by
  obtain ⟨i0, hi0, hz0, hz1, hz2⟩ := info_parts infoInt
  have hea : ((a.length : Int) == 0) = false := beq_eq_false_iff_ne.2 (by omega)
  have heb : ((b.length : Int) == 0) = false := beq_eq_false_iff_ne.2 (by omega)
  have ws : IntKind.i64.wrap ((a.length : Int) + b.length) = ((a.length + b.length : Nat) : Int) := by rw [IntWalk.i64_in _ (by omega)]; omega
  obtain ⟨n, hn⟩ : ∃ n, n = a.length + b.length := ⟨_, rfl⟩
  rw [← hn] at ws hm
  have hsi : (n : Int) ≤ 16 := by omega
  have hkn : a.length < n := by omega
  have hlb := cell_lt (hB 0 hb)
  have HC0 := Lib.hid (CatAt.start w 24)
  have HA1 := Lib.hid (ints_cells (hA.below (below_alloc (below_alloc (Below.refl w.heap.size w) (.cells #[.int .i64 0, .int .i64 0] 24)) (.cells #[] 3))))
  have HB1 := Lib.hid (ints_cells (hB.below (below_alloc (below_alloc (Below.refl w.heap.size w) (.cells #[.int .i64 0, .int .i64 0] 24)) (.cells #[] 3))))
  have HN := Lib.hid hn
  have HBAD := Lib.hid hbad
  have HPRE := Lib.hid hpre
  have hpo : ∀ u ∈ a.map (Value.int .i64), u.oneCell' = true := by intro u hu; obtain ⟨x, _, rfl⟩ := List.mem_map.1 hu; rfl
  have hpb : ∀ u ∈ b.map (Value.int .i64), u.oneCell' = true := by intro u hu; obtain ⟨x, _, rfl⟩ := List.mem_map.1 hu; rfl
  have HPO := Lib.hid hpo
  have HPB := Lib.hid hpb
  have hba : bb < w.heap.size + 1 := by omega
  clear hA hB hn hbad hpre hpo hpb hlb
  go_enter Try.func21, Try.ntmps21
  go_wp2_with (first | (at_builtin; refine wpList_append_own_at _ rfl (.tmp 33) (.tmp 34) _ rfl (w.heap.size + 1) 3 i0 (.int .i64 0) 1 8 Try.underlying22 hi0 hz0 hz1 hz2 rfl (by decide) _ 0 [] rfl HC0.out.own ⟨ba, oa, none⟩ a.length ca (a.map (Value.int .i64)) rfl (by simp) HA1.out HPO.out (by unfold maxLen; omega) (by omega) HC0.out.ge ?_; intro v1 x1 hown1 hg1 _ _; have HP1 := Lib.hid (HC0.out.step (M := a) hown1 hg1); clear hown1 hg1) | (at_builtin; refine wpList_append_own_at _ rfl (.tmp 35) (.tmp 36) _ rfl (w.heap.size + 1) 3 i0 (.int .i64 0) 1 8 Try.underlying22 hi0 hz0 hz1 hz2 rfl (by decide) _ a.length (ints a) rfl HP1.out.1.own ⟨bb, ob, none⟩ b.length cb (b.map (Value.int .i64)) rfl (by simp) (cells_of HB1.out HP1.out.2 hba) HPB.out (by unfold maxLen; omega) (by omega) HP1.out.1.ge ?_; intro v2 x2 hown2 hg2 _ _; have HP2 := Lib.hid (HP1.out.1.step (M := b) hown2 hg2).1; clear hown2 hg2))
  have HP3 : Hid (CatAt w x2 v2 (a ++ b)) := HP2
  obtain ⟨P, hP⟩ : ∃ P, P = a ++ b := ⟨_, rfl⟩
  rw [← hP] at HP3 HBAD HPRE
  have hPl : P.length = n := by rw [hP, List.length_append]; exact HN.out.symm
  obtain ⟨g, cap, rfl, hI⟩ := OwnI.ints (B := w.heap.size + 1) (X := x2) HP3.out.own (by omega)
  have HI := Lib.hid hI
  have HPL := Lib.hid hPl
  obtain ⟨A, hA⟩ : ∃ A, A = a.length := ⟨_, rfl⟩
  clear hI hPl hP HP2
  rw [← hA]
  clear hA
  go_loop [8, 9] (fun ov i => ∃ k : Nat, k ≤ m ∧ i = .int .i64 (k : Int) ∧ ov = .int .i64 (ownF P A k)) (fun _ i => n - (intOf i).toNat)
  case atStart => exact ⟨0, Nat.zero_le _, rfl, rfl⟩
  case round =>
    obtain ⟨k, hk, rfl, rfl⟩ := hrel
    have hkl : (k : Int) < (n : Int) := by omega
    have hkp : (k : Int) < (P.length : Int) := by rw [HPL.out]; exact hkl
    have x0 := HI.out k (by rw [HPL.out]; omega)
    rw [atL_get, Nat.zero_add] at x0
    have hz := cell_lt x0
    by_cases hlt : k < m
    · have HW := Lib.hid (fun W => rin_yes (atL P k) (-1000000000000) 1000000000000 W (numB_yes (HPRE.out k hlt)))
      have hbd := ownF_pre (fun i hi => HPRE.out i (by omega)) A k (Nat.le_refl k)
      have hbx := numB_yes (HPRE.out k hlt)
      have v1 : IntKind.i64.wrap ((k : Int) + 1) = (k : Int) + 1 := IntWalk.i64_in _ (by omega)
      by_cases hka : k < A
      · have hki : (k : Int) < (A : Int) := by omega
        have v2 : IntKind.i64.wrap (ownF P A k + atL P k) = ownF P A (k + 1) := by
          rw [show ownF P A (k + 1) = ownF P A k + (if k < A then atL P k else 0) from rfl, if_pos hka]; exact IntWalk.i64_in _ (by omega)
        clear hbd hbx
        go_wp2_with (go_at_call 58; refine (HW.out _).mono ?_; rintro e w1 ⟨rfl, rfl⟩)
        go_round
        case rel => exact ⟨k + 1, by omega, by simp, rfl⟩
        case measure => simp [intOf]; omega
      · have hki : ¬ ((k : Int) < (A : Int)) := by omega
        have HV := Lib.hid (show ownF P A (k + 1) = ownF P A k by rw [show ownF P A (k + 1) = ownF P A k + (if k < A then atL P k else 0) from rfl, if_neg hka]; omega)
        clear hbd hbx
        go_wp2_with (go_at_call 58; refine (HW.out _).mono ?_; rintro e w1 ⟨rfl, rfl⟩)
        go_round
        case rel => exact ⟨k + 1, by omega, by simp, by rw [HV.out]⟩
        case measure => simp [intOf]; omega
    · obtain rfl : k = m := by omega
      have HW := Lib.hid (fun W => rin_no (atL P k) (-1000000000000) 1000000000000 W (numB_no HBAD.out))
      obtain ⟨y0, y1, -, -⟩ := id HP3.out.rb
      have hz3 := cell_lt y0
      obtain ⟨z0, z1⟩ := set2 (.int .i64 0) (.int .i64 0) y0 y1
      have HB3 := Lib.hid (below2 (.int .i64 0) (.int .i64 0) HP3.out.bel (Nat.le_refl _))
      obtain ⟨-, -, f0, f1⟩ := HP3.out.rb
      go_wp2_with (go_at_call 58; refine (HW.out _).mono ?_; rintro e w1 ⟨rfl, rfl⟩)
      exact bodyPost_ret (v := exNo 6) (by simp [results, Try.results21, go_sem, exNo, z0, z1]) rfl ⟨rfl, HB3.out⟩
theorem rexch_any (a b : List Int) (p q : Option Addr) (ca cb : Nat) (w : World) (hp : SliceIn p a.length (IntsAt w a)) (hq : SliceIn q b.length (IntsAt w b)) (hl : a.length + b.length ≤ 1000000) :
    Calls Try.prog 21 #[.slice p a.length ca, .slice q b.length cb] w fun e w' => e = .returned (varVal (exchE a b)) ∧ Below w.heap.size w w' := by
  unfold exchE
  by_cases h0 : a.length = 0 ∨ b.length = 0
  · rw [if_pos h0]
    exact rexch_none p q a.length b.length ca cb w h0
  · rw [if_neg h0]
    by_cases h16 : 16 < a.length + b.length
    · rw [if_pos h16]
      exact rexch_many p q a.length b.length ca cb w (by omega) (by omega) h16 hl
    · rw [if_neg h16]
      obtain ⟨ba, oa, rfl, hA⟩ := hp.resolve_left (by omega)
      obtain ⟨bb, ob, rfl, hB⟩ := hq.resolve_left (by omega)
      by_cases hall : (a ++ b).all numB = true
      · rw [if_pos hall]
        exact rexch_ok ba oa ca bb ob cb a b w (by omega) (by omega) (by omega) hA hB hall
      · rw [if_neg hall]
        obtain ⟨j, h1, h2, h3⟩ := first_bad (a ++ b) (Bool.eq_false_iff.2 hall)
        rw [List.length_append] at h1
        exact rexch_bad ba oa ca bb ob cb a b w (by omega) (by omega) (by omega) hA hB j h1 h2 h3
end
end Go.Proofs.Ythkndjkgokojmaa
