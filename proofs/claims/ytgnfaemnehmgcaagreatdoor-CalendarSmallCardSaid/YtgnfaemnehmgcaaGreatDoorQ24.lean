/-  -/
import Derived.Test.YtgnfaemnehmgcaaGreatDoorQ23
import Derived.Test.YtgnfaemnehmgcaaGreatDoorQ02
namespace Go.Proofs.YtgnfaemnehmgcaaGreatDoor.Cal
open Go Go.RowKit
attribute [local go_sem] Oper.semAt_some
structure RGpsB (w X : World) (b u : Int) (n c : Nat) (p : Option Addr) (G S : Int) : Prop where
  t : TBox X w.heap.size b u n c p
  g : X.cell? ⟨w.heap.size + 1, 0, none⟩ = some (.int .i64 G) ∧ X.cell? ⟨w.heap.size + 1, 1, none⟩ = some (.int .i64 S)
  bel : Below w.heap.size w X
theorem RGpsB.below {w X Y : World} {b u : Int} {n c : Nat} {p : Option Addr} {G S : Int} (h : RGpsB w X b u n c p G S) (hb : Below X.heap.size X Y) : RGpsB w Y b u n c p G S :=
  ⟨h.t.below hb, ⟨cell_below hb h.g.1, cell_below hb h.g.2⟩, bt h.bel hb⟩
theorem rgps_new (w : World) (b u : Int) (n c : Nat) (p : Option Addr) (G S : Int) : RGpsB w ((w.alloc (.cells #[.int .i64 b, .slice p n c, .int .i64 u] 55)).alloc (.cells #[.int .i64 G, .int .i64 S] 101)) b u n c p G S := by
  have b1 := below_alloc (Below.refl w.heap.size w) (.cells #[.int .i64 b, .slice p n c, .int .i64 u] 55)
  have h1 := TBox.new w b u n c p 55
  have e1 : (w.alloc (.cells #[.int .i64 b, .slice p n c, .int .i64 u] 55)).heap.size = w.heap.size + 1 := by simp
  generalize w.alloc (.cells #[.int .i64 b, .slice p n c, .int .i64 u] 55) = W1 at *
  have b2 := below_alloc (Below.refl W1.heap.size W1) (.cells #[.int .i64 G, .int .i64 S] 101)
  have h2 := two_cells W1 (.int .i64 G) (.int .i64 S) 101
  rw [e1] at h2
  exact ⟨h1.below b2, h2, bt b1 b2⟩
theorem minF_nn {near : Int} {f : Nat → Int} : ∀ k, (∀ i, i ≤ k → 0 ≤ f i) → 0 ≤ minF near f k
  | 0, h => h 0 (Nat.le_refl _)
  | k + 1, h => by
    rw [minF]
    split
    · exact h (k + 1) (Nat.le_refl _)
    · exact minF_nn k (fun i hi => h i (by omega))
def bestV (near a : Int) (m : Nat) : Int := if m = 0 then -1 else minF near (gpsF a) (m - 1)
def leastV (near a : Int) (m : Nat) : Int := if m = 0 then 0 else distI near (minF near (gpsF a) (m - 1))
theorem best_succ (near a : Int) (m : Nat) : bestV near a (m + 1) = minF near (gpsF a) m ∧ leastV near a (m + 1) = distI near (minF near (gpsF a) m) := by
  unfold bestV leastV
  exact ⟨if_neg (by omega), if_neg (by omega)⟩
theorem best_first (near a : Int) : bestV near a 1 = gpsF a 0 ∧ leastV near a 1 = distI near (gpsF a 0) := best_succ near a 0
theorem best_nn {near a : Int} (ha : 0 ≤ a) {k : Nat} (hk : 0 < k) : 0 ≤ bestV near a k := by
  obtain ⟨m, rfl⟩ : ∃ m, k = m + 1 := ⟨k - 1, by omega⟩
  rw [(best_succ near a m).1]
  exact minF_nn m (fun i _ => by unfold gpsF; omega)
theorem best_new {near a : Int} {k : Nat} (hk : 0 < k) (c : distI near (gpsF a k) < leastV near a k) : bestV near a (k + 1) = gpsF a k ∧ leastV near a (k + 1) = distI near (gpsF a k) := by
  obtain ⟨m, rfl⟩ : ∃ m, k = m + 1 := ⟨k - 1, by omega⟩
  rw [(best_succ near a m).2] at c
  have e : minF near (gpsF a) (m + 1) = gpsF a (m + 1) := by rw [minF, if_pos c]
  have h := best_succ near a (m + 1)
  rw [e] at h
  exact h
theorem best_old {near a : Int} {k : Nat} (hk : 0 < k) (c : ¬ distI near (gpsF a k) < leastV near a k) : bestV near a (k + 1) = bestV near a k ∧ leastV near a (k + 1) = leastV near a k := by
  obtain ⟨m, rfl⟩ : ∃ m, k = m + 1 := ⟨k - 1, by omega⟩
  rw [(best_succ near a m).2] at c
  have e : minF near (gpsF a) (m + 1) = minF near (gpsF a) m := by rw [minF, if_neg c]
  have h := best_succ near a (m + 1)
  have g := best_succ near a m
  rw [e] at h
  exact ⟨h.1.trans g.1.symm, h.2.trans g.2.symm⟩
def capK (k K : Nat) : Nat := if k < K then k else K
theorem capK_in {k K : Nat} (h : k < K) : capK k K = k ∧ capK (k + 1) K = k + 1 := by unfold capK; constructor <;> split <;> omega
theorem capK_out {k K : Nat} (h : ¬ k < K) : capK k K = K ∧ capK (k + 1) K = K := by unfold capK; constructor <;> split <;> omega
theorem capK_zero (K : Nat) : capK 0 K = 0 := by unfold capK; split <;> omega
theorem gpsF_le (a : Int) {i j : Nat} (h : i ≤ j) : gpsF a i ≤ gpsF a j := by unfold gpsF; omega
set_option maxHeartbeats 2000000 in
theorem rFromGps_tab {b u : Int} {n : Nat} {f : Nat → Int × Int} (G S near : Int) (ht : tabE b u n f ≠ 0) (c : Nat) (p : Option Addr) (w : World) (hs : LpIn w f n p) (hn : n ≤ 1000) :
    Calls Tryz.prog 58 #[.agg #[.int .i64 b, .slice p n c, .int .i64 u], .agg #[.int .i64 G, .int .i64 S], .int .i64 near] w fun e w' => e = .returned (.tuple #[.int .i64 0, .int .i64 (tabE b u n f)]) ∧ Below w.heap.size w w' := by
  have HGB := Lib.hid (rgps_new w b u n c p G S)
  have HCK := Lib.hid (rTotal_any b u n c p f _ (hs.below HGB.out.bel) (by omega))
  rw [if_neg ht] at HCK
  obtain ⟨er, her⟩ : ∃ er, tabE b u n f = er := ⟨_, rfl⟩
  rw [her] at ht HCK ⊢
  have hne : (er == 0) = false := by simpa using ht
  clear hs her
  go_enter Tryz.func58, Tryz.ntmps58
  go_upto_region 1 with fail
  generalize (w.alloc (.cells #[.int .i64 b, .slice p n c, .int .i64 u] 55)).alloc (.cells #[.int .i64 G, .int .i64 S] 101) = W1 at *
  obtain ⟨x0, x1, x2⟩ := HGB.out.t
  have zx := cell_lt x0
  go_wp2_with (go_at_call 40; refine HCK.out.mono ?_; rintro e W2 ⟨rfl, hb2⟩; have HB2 := Lib.hid hb2; clear hb2)
  go_ret2
  exact ⟨rfl, bt HGB.out.bel HB2.out⟩
set_option maxHeartbeats 2000000 in
theorem rFromGps_r1 {b u : Int} {n : Nat} {f : Nat → Int × Int} (G S near : Int) (ht : tabE b u n f = 0) (h1 : ¬ (0 ≤ G ∧ G ≤ 1023)) (c : Nat) (p : Option Addr) (w : World) (hs : LpIn w f n p) (hn : n ≤ 1000) :
    Calls Tryz.prog 58 #[.agg #[.int .i64 b, .slice p n c, .int .i64 u], .agg #[.int .i64 G, .int .i64 S], .int .i64 near] w fun e w' => e = .returned (.tuple #[.int .i64 0, .int .i64 6]) ∧ Below w.heap.size w w' := by
  have HGB := Lib.hid (rgps_new w b u n c p G S)
  have HCK := Lib.hid (rTotal_any b u n c p f _ (hs.below HGB.out.bel) (by omega))
  rw [ht, if_pos rfl] at HCK
  have HC1 := Lib.hid (show (decide (0 ≤ G) && decide (G ≤ 1023)) = false by simp; omega)
  obtain ⟨T, hT⟩ : ∃ T, beginS f n u = T := ⟨_, rfl⟩
  rw [hT] at HCK
  clear hs ht hT h1
  go_enter Tryz.func58, Tryz.ntmps58
  go_upto_region 1 with fail
  generalize (w.alloc (.cells #[.int .i64 b, .slice p n c, .int .i64 u] 55)).alloc (.cells #[.int .i64 G, .int .i64 S] 101) = W1 at *
  obtain ⟨x0, x1, x2⟩ := HGB.out.t
  have zx := cell_lt x0
  go_upto_region 2 with (go_at_call 40; refine HCK.out.mono ?_; rintro e W2 ⟨rfl, hb2⟩; have HB2 := Lib.hid hb2; clear hb2)
  clear x0 x1 x2 zx
  have HG2 := Lib.hid (HGB.out.below HB2.out)
  obtain ⟨y0, y1⟩ := HG2.out.g
  have zy := cell_lt y0
  go_wp2_with (go_at_call 90; refine (in_any _ _ _ _).mono ?_; rintro e w' ⟨rfl, rfl⟩; first | rw [HC1.out])
  go_ret2
  exact ⟨rfl, HG2.out.bel⟩
set_option maxHeartbeats 2000000 in
theorem rFromGps_r2 {b u : Int} {n : Nat} {f : Nat → Int × Int} (G S near : Int) (ht : tabE b u n f = 0) (h1 : (0 ≤ G ∧ G ≤ 1023)) (h2 : ¬ (0 ≤ S ∧ S ≤ 604799)) (c : Nat) (p : Option Addr) (w : World) (hs : LpIn w f n p) (hn : n ≤ 1000) :
    Calls Tryz.prog 58 #[.agg #[.int .i64 b, .slice p n c, .int .i64 u], .agg #[.int .i64 G, .int .i64 S], .int .i64 near] w fun e w' => e = .returned (.tuple #[.int .i64 0, .int .i64 6]) ∧ Below w.heap.size w w' := by
  have HGB := Lib.hid (rgps_new w b u n c p G S)
  have HCK := Lib.hid (rTotal_any b u n c p f _ (hs.below HGB.out.bel) (by omega))
  rw [ht, if_pos rfl] at HCK
  have HC1 := Lib.hid (show (decide (0 ≤ G) && decide (G ≤ 1023)) = true by simp; omega)
  have HC2 := Lib.hid (show (decide (0 ≤ S) && decide (S ≤ 604799)) = false by simp; omega)
  obtain ⟨T, hT⟩ : ∃ T, beginS f n u = T := ⟨_, rfl⟩
  rw [hT] at HCK
  clear hs ht hT h1 h2
  go_enter Tryz.func58, Tryz.ntmps58
  go_upto_region 1 with fail
  generalize (w.alloc (.cells #[.int .i64 b, .slice p n c, .int .i64 u] 55)).alloc (.cells #[.int .i64 G, .int .i64 S] 101) = W1 at *
  obtain ⟨x0, x1, x2⟩ := HGB.out.t
  have zx := cell_lt x0
  go_upto_region 2 with (go_at_call 40; refine HCK.out.mono ?_; rintro e W2 ⟨rfl, hb2⟩; have HB2 := Lib.hid hb2; clear hb2)
  clear x0 x1 x2 zx
  have HG2 := Lib.hid (HGB.out.below HB2.out)
  obtain ⟨y0, y1⟩ := HG2.out.g
  have zy := cell_lt y0
  go_wp2_with (go_at_call 90; refine (in_any _ _ _ _).mono ?_; rintro e w' ⟨rfl, rfl⟩; first | rw [HC1.out] | rw [HC2.out])
  go_ret2
  exact ⟨rfl, HG2.out.bel⟩
set_option maxHeartbeats 2000000 in
theorem rFromGps_r3 {b u : Int} {n : Nat} {f : Nat → Int × Int} (G S near : Int) (ht : tabE b u n f = 0) (h1 : (0 ≤ G ∧ G ≤ 1023)) (h2 : (0 ≤ S ∧ S ≤ 604799)) (h3 : ¬ (-1000000000000 ≤ near ∧ near ≤ 1000000000000)) (c : Nat) (p : Option Addr) (w : World) (hs : LpIn w f n p) (hn : n ≤ 1000) :
    Calls Tryz.prog 58 #[.agg #[.int .i64 b, .slice p n c, .int .i64 u], .agg #[.int .i64 G, .int .i64 S], .int .i64 near] w fun e w' => e = .returned (.tuple #[.int .i64 0, .int .i64 6]) ∧ Below w.heap.size w w' := by
  have HGB := Lib.hid (rgps_new w b u n c p G S)
  have HCK := Lib.hid (rTotal_any b u n c p f _ (hs.below HGB.out.bel) (by omega))
  rw [ht, if_pos rfl] at HCK
  have HC1 := Lib.hid (show (decide (0 ≤ G) && decide (G ≤ 1023)) = true by simp; omega)
  have HC2 := Lib.hid (show (decide (0 ≤ S) && decide (S ≤ 604799)) = true by simp; omega)
  have HC3 := Lib.hid (show (decide (-1000000000000 ≤ near) && decide (near ≤ 1000000000000)) = false by simp; omega)
  obtain ⟨T, hT⟩ : ∃ T, beginS f n u = T := ⟨_, rfl⟩
  rw [hT] at HCK
  clear hs ht hT h1 h2 h3
  go_enter Tryz.func58, Tryz.ntmps58
  go_upto_region 1 with fail
  generalize (w.alloc (.cells #[.int .i64 b, .slice p n c, .int .i64 u] 55)).alloc (.cells #[.int .i64 G, .int .i64 S] 101) = W1 at *
  obtain ⟨x0, x1, x2⟩ := HGB.out.t
  have zx := cell_lt x0
  go_upto_region 2 with (go_at_call 40; refine HCK.out.mono ?_; rintro e W2 ⟨rfl, hb2⟩; have HB2 := Lib.hid hb2; clear hb2)
  clear x0 x1 x2 zx
  have HG2 := Lib.hid (HGB.out.below HB2.out)
  obtain ⟨y0, y1⟩ := HG2.out.g
  have zy := cell_lt y0
  go_wp2_with (go_at_call 90; refine (in_any _ _ _ _).mono ?_; rintro e w' ⟨rfl, rfl⟩; first | rw [HC1.out] | rw [HC2.out] | rw [HC3.out])
  go_ret2
  exact ⟨rfl, HG2.out.bel⟩
set_option maxRecDepth 100000 in
set_option maxHeartbeats 8000000 in
theorem rFromGps_all {b u : Int} {n : Nat} {f : Nat → Int × Int} (G S near : Int) (ht : tabE b u n f = 0) (h1 : (0 ≤ G ∧ G ≤ 1023)) (h2 : (0 ≤ S ∧ S ≤ 604799)) (h3 : (-1000000000000 ≤ near ∧ near ≤ 1000000000000)) (K : Nat) (hK20 : K ≤ 20) (hKK : GpsK (beginS f n 44244 + 604800 * G + S) (beginS f n u) K) (c : Nat) (p : Option Addr) (w : World) (hs : LpIn w f n p) (hn : n ≤ 1000) :
    Calls Tryz.prog 58 #[.agg #[.int .i64 b, .slice p n c, .int .i64 u], .agg #[.int .i64 G, .int .i64 S], .int .i64 near] w fun e w' => e = .returned (.tuple #[.int .i64 (gpsV near (beginS f n 44244 + 604800 * G + S) K), .int .i64 (gpsE K)]) ∧ Below w.heap.size w w' := by
  have HGB := Lib.hid (rgps_new w b u n c p G S)
  have HCK := Lib.hid (rTotal_any b u n c p f _ (hs.below HGB.out.bel) (by omega))
  rw [ht, if_pos rfl] at HCK
  have HC1 := Lib.hid (show (decide (0 ≤ G) && decide (G ≤ 1023)) = true by simp; omega)
  have HC2 := Lib.hid (show (decide (0 ≤ S) && decide (S ≤ 604799)) = true by simp; omega)
  have HC3 := Lib.hid (show (decide (-1000000000000 ≤ near) && decide (near ≤ 1000000000000)) = true by simp; omega)
  have HT := tab_ok ht
  have htb := HT.total_bd
  have hg := HT.grow_bd 44244
  have hv : 0 ≤ beginS f n 44244 ∧ beginS f n 44244 ≤ 1000000000 := by unfold beginS; omega
  have HLP := Lib.hid (fun X (hX : Below w.heap.size w X) => hs.below hX)
  have HBG0 := Lib.hid (fun X (hL : LpIn X f n p) => rbegin_any HT 44244 c p X hL (by decide))
  have HU0 := Lib.hid (show u ≤ 44244 → beginS f n u ≤ beginS f n 44244 from fun h => HT.begin_mono h)
  generalize beginS f n 44244 = B at *
  generalize beginS f n u = T at *
  obtain ⟨a, ha⟩ : ∃ a, B + 604800 * G + S = a := ⟨_, rfl⟩
  have HAE := Lib.hid ha
  rw [ha] at hKK ⊢
  have hab : 0 ≤ a ∧ a ≤ 10000000000 := by omega
  have HKK := Lib.hid hKK
  have hnb := h3
  have hgb := And.intro h1 h2
  clear hs ht hKK ha HT hg
  go_enter Tryz.func58, Tryz.ntmps58
  go_upto_region 1 with fail
  generalize (w.alloc (.cells #[.int .i64 b, .slice p n c, .int .i64 u] 55)).alloc (.cells #[.int .i64 G, .int .i64 S] 101) = W1 at *
  obtain ⟨x0, x1, x2⟩ := HGB.out.t
  have zx := cell_lt x0
  go_upto_region 2 with (go_at_call 40; refine HCK.out.mono ?_; rintro e W2 ⟨rfl, hb2⟩; have HB2 := Lib.hid hb2; clear hb2)
  clear x0 x1 x2 zx
  have HG2 := Lib.hid (HGB.out.below HB2.out)
  obtain ⟨y0, y1⟩ := HG2.out.g
  have zy := cell_lt y0
  go_upto_region 8 with (go_at_call 90; refine (in_any _ _ _ _).mono ?_; rintro e w' ⟨rfl, rfl⟩; first | rw [HC1.out] | rw [HC2.out] | rw [HC3.out])
  clear y0 y1 zy
  by_cases hu : u ≤ 44244
  · have hK0 : 0 = K := HKK.out.uniq (k := 0) (fun i hi => absurd hi (Nat.not_lt_zero _)) (by unfold gpsF; have := HU0.out hu; have := HAE.out; omega)
    subst hK0
    have hun : ¬ 44244 < u := by omega
    obtain ⟨x0, x1, x2⟩ := HG2.out.t
    have zx := cell_lt x0
    go_loopw [10, 11, 12, 13, 14] (fun s10 s11 s12 s13 s14 wr => ∃ (v13 v14 : Value), s10 = .int .i64 (-1) ∧ s11 = .int .i64 0 ∧ s12 = .int .i64 0 ∧ s13 = v13 ∧ s14 = v14 ∧ Hid (RGpsB w wr b u n c p G S)) (fun _ _ _ _ _ _ => 0)
    case atStart => exact ⟨_, _, rfl, rfl, rfl, rfl, rfl, HG2⟩
    case round =>
      clear HG2 x0 x1 x2 zx
      obtain ⟨v13, v14, rfl, rfl, rfl, rfl, rfl, HG2⟩ := hrel
      obtain ⟨x0, x1, x2⟩ := HG2.out.t
      have zx := cell_lt x0
      go_wp2_with fail
      go_ret2
      exact ⟨rfl, HG2.out.bel⟩
  have hup : 44244 < u := by omega
  go_loopw [10, 11, 12, 13, 14] (fun s10 s11 s12 s13 s14 wr => ∃ (k : Nat) (v13 v14 : Value), k ≤ 20 ∧ s10 = .int .i64 (bestV near a (capK k K)) ∧ s11 = .int .i64 (leastV near a (capK k K)) ∧ s12 = .int .i64 (k : Int) ∧ s13 = v13 ∧ s14 = v14 ∧ Hid (RGpsB w wr b u n c p G S)) (fun _ _ s _ _ _ => 20 - (intOf s).toNat)
  case atStart => exact ⟨0, _, _, by decide, by rw [capK_zero]; rfl, by rw [capK_zero]; rfl, rfl, rfl, rfl, HG2⟩
  case round =>
    clear HG2
    obtain ⟨k, v13, v14, hk, rfl, rfl, rfl, rfl, rfl, HG2⟩ := hrel
    obtain ⟨x0, x1, x2⟩ := HG2.out.t
    obtain ⟨y0, y1⟩ := HG2.out.g
    have zx := cell_lt x0
    have zy := cell_lt y0
    by_cases hlt : k < 20
    · have hki : (k : Int) < 20 := by omega
      have vk : IntKind.i64.wrap ((k : Int) + 1) = (k : Int) + 1 := IntWalk.i64_in _ (by omega)
      have HL20 := Lib.hid hlt
      have u1 : IntKind.i64.wrap (1024 * (k : Int)) = 1024 * (k : Int) := IntWalk.i64_in _ (by omega)
      have u2 : IntKind.i64.wrap (G + 1024 * (k : Int)) = G + 1024 * (k : Int) := IntWalk.i64_in _ (by omega)
      have u3 : IntKind.i64.wrap (604800 * (G + 1024 * (k : Int))) = 604800 * (G + 1024 * (k : Int)) := IntWalk.i64_in _ (by omega)
      have u4 : IntKind.i64.wrap (B + 604800 * (G + 1024 * (k : Int))) = B + 604800 * (G + 1024 * (k : Int)) := IntWalk.i64_in _ (by omega)
      obtain ⟨sv, hsv⟩ : ∃ sv, gpsF a k = sv := ⟨_, rfl⟩
      have hsb : 0 ≤ sv ∧ sv ≤ 100000000000 := by rw [← hsv]; unfold gpsF; omega
      have u5 : IntKind.i64.wrap (B + 604800 * (G + 1024 * (k : Int)) + S) = sv := by
        rw [IntWalk.i64_in _ (by omega), ← hsv, ← HAE.out]; unfold gpsF; omega
      have HBG := Lib.hid (fun X (hX : Below wr.heap.size wr X) => Calls.bel hX (HBG0.out X ((LpIn.below (HLP.out wr HG2.out.bel) (Below.refl _ _)).below hX)))
      obtain ⟨bv, hbv⟩ : ∃ q, bestV near a (capK k K) = q := ⟨_, rfl⟩
      obtain ⟨lv', hlv⟩ : ∃ q, leastV near a (capK k K) = q := ⟨_, rfl⟩
      rw [hbv, hlv]
      have HBV := Lib.hid (And.intro hbv hlv)
      have HSV := Lib.hid hsv
      have HK := Lib.hid (show ∀ X, Below wr.heap.size wr X → (fun w' => Below wr.heap.size wr w' ∧ w'.cell? ⟨w.heap.size, 0, none⟩ = some (.int .i64 b) ∧ w'.cell? ⟨w.heap.size, 1, none⟩ = some (.slice p n c) ∧ w'.cell? ⟨w.heap.size, 2, none⟩ = some (.int .i64 u) ∧ w'.cell? ⟨w.heap.size + 1, 0, none⟩ = some (.int .i64 G) ∧ w'.cell? ⟨w.heap.size + 1, 1, none⟩ = some (.int .i64 S)) X from fun X h => ⟨h, cell_below h x0, cell_below h x1, cell_below h x2, cell_below h y0, cell_below h y1⟩)
      clear hbv hlv hsv hlt hk
      go_upto_region 10 with fail
      refine wp_region_held_drew (S := (fun w' => Below wr.heap.size wr w' ∧ w'.cell? ⟨w.heap.size, 0, none⟩ = some (.int .i64 b) ∧ w'.cell? ⟨w.heap.size, 1, none⟩ = some (.slice p n c) ∧ w'.cell? ⟨w.heap.size, 2, none⟩ = some (.int .i64 u) ∧ w'.cell? ⟨w.heap.size + 1, 0, none⟩ = some (.int .i64 G) ∧ w'.cell? ⟨w.heap.size + 1, 1, none⟩ = some (.int .i64 S))) (by kernel_rfl) (HK.out _ (Below.drew (Below.refl _ _))) (fun hHeld => ?_)
      refine wpAnyH_take (i := 0) (v := ?_) rfl (by kernel_rfl) (by kernel_rfl) (by kernel_rfl) (fun _ _ _ h => h) (Or.inl ⟨by rfl, ?_⟩) (by assumption) ?_
      rotate_left
      · intro w hSw; (try dsimp only at hSw); go_simp; try with_reducible rfl
      simp only [Act.put, List.getElem_toArray, List.getElem_cons_zero, List.setIfInBounds_toArray, List.set_cons_zero, List.set_cons_succ]
      refine wpAnyH_take (i := 2) (v := ?_) rfl (by kernel_rfl) (by kernel_rfl) (by kernel_rfl) (fun _ _ _ h => h) (Or.inl ⟨by rfl, ?_⟩) (by assumption) ?_
      rotate_left
      · intro w hSw; (try dsimp only at hSw); go_simp; try with_reducible rfl
      simp only [Act.put, List.getElem_toArray, List.getElem_cons_succ, List.getElem_cons_zero, List.setIfInBounds_toArray, List.set_cons_zero, List.set_cons_succ]
      refine wpAnyH_take (i := 3) (v := ?_) rfl (by kernel_rfl) (by kernel_rfl) (by kernel_rfl) (fun _ _ _ h => h) (Or.inl ⟨by rfl, ?_⟩) (by assumption) ?_
      rotate_left
      · intro w hSw; (try dsimp only at hSw); go_simp; try with_reducible rfl
      simp only [Act.put, List.getElem_toArray, List.getElem_cons_succ, List.getElem_cons_zero, List.setIfInBounds_toArray, List.set_cons_zero, List.set_cons_succ]
      refine wpAnyH_take (i := 4) (v := ?_) rfl (by kernel_rfl) (by kernel_rfl) (by kernel_rfl) (fun _ _ _ h => h) (Or.inl ⟨by rfl, ?_⟩) (by assumption) ?_
      rotate_left
      · intro w hSw; (try dsimp only at hSw); go_simp; try with_reducible rfl
      simp only [Act.put, List.getElem_toArray, List.getElem_cons_succ, List.getElem_cons_zero, List.setIfInBounds_toArray, List.set_cons_zero, List.set_cons_succ]
      refine wpAnyH_take (i := 5) (v := ?_) rfl (by kernel_rfl) (by kernel_rfl) (by kernel_rfl) (fun _ _ _ h => h) (Or.inl ⟨by rfl, ?_⟩) (by assumption) ?_
      rotate_left
      · intro w hSw; (try dsimp only at hSw); go_simp; try with_reducible rfl
      simp only [Act.put, List.getElem_toArray, List.getElem_cons_succ, List.getElem_cons_zero, List.setIfInBounds_toArray, List.set_cons_zero, List.set_cons_succ]
      refine wpAnyH_take (i := 6) (v := ?_) rfl (by kernel_rfl) (by kernel_rfl) (by kernel_rfl) (fun _ _ _ h => h) (Or.inl ⟨by rfl, ?_⟩) (by assumption) ?_
      rotate_left
      · intro w hSw; (try dsimp only at hSw); go_simp; try with_reducible rfl
      simp only [Act.put, List.getElem_toArray, List.getElem_cons_succ, List.getElem_cons_zero, List.setIfInBounds_toArray, List.set_cons_zero, List.set_cons_succ]
      refine wpAnyH_take (i := 7) (v := ?_) rfl (by kernel_rfl) (by kernel_rfl) (by kernel_rfl) (fun _ _ _ h => h) (Or.inl ⟨by rfl, ?_⟩) (by assumption) ?_
      rotate_left
      · intro w hSw; (try dsimp only at hSw); go_simp; try with_reducible rfl
      simp only [Act.put, List.getElem_toArray, List.getElem_cons_succ, List.getElem_cons_zero, List.setIfInBounds_toArray, List.set_cons_zero, List.set_cons_succ]
      refine wpAnyH_take (i := 9) (v := ?_) rfl (by kernel_rfl) (by kernel_rfl) (by kernel_rfl) (fun _ _ _ h => h) (Or.inl ⟨by rfl, ?_⟩) (by assumption) ?_
      rotate_left
      · intro w hSw; (try dsimp only at hSw); go_simp; try with_reducible rfl
      simp only [Act.put, List.getElem_toArray, List.getElem_cons_succ, List.getElem_cons_zero, List.setIfInBounds_toArray, List.set_cons_zero, List.set_cons_succ]
      refine wpAnyH_take (i := 10) (v := ?_) rfl (by kernel_rfl) (by kernel_rfl) (by kernel_rfl) (fun _ _ _ h => h) (Or.inl ⟨by rfl, ?_⟩) (by assumption) ?_
      rotate_left
      · intro w hSw; (try dsimp only at hSw); go_simp; try with_reducible rfl
      simp only [Act.put, List.getElem_toArray, List.getElem_cons_succ, List.getElem_cons_zero, List.setIfInBounds_toArray, List.set_cons_zero, List.set_cons_succ]
      refine wpAnyH_ready (rs := [1]) (by kernel_rfl) (by simp) ?_
      refine AllReadyH.cons rfl (fun K hK => ?_) AllReadyH.nil
      go_simp
      go_at_call 96
      refine (HBG.out _ (Below.drew (Below.refl _ _))).mono ?_
      rintro e w3 ⟨rfl, hbw3⟩
      go_wp2_with fail
      refine hK.out _ _ (HK.out _ hbw3) (fun hHeldw3 => ?_)
      clear hK K
      refine wpAnyH_take (i := 8) (v := ?_) rfl (by kernel_rfl) (by kernel_rfl) (by kernel_rfl) (fun _ _ _ h => h) (Or.inl ⟨by rfl, ?_⟩) (by assumption) ?_
      rotate_left
      · intro w hSw; (try dsimp only at hSw); go_simp; try with_reducible rfl
      simp only [Act.put, List.getElem_toArray, List.getElem_cons_succ, List.getElem_cons_zero, List.setIfInBounds_toArray, List.set_cons_zero, List.set_cons_succ]
      refine wpAnyH_take (i := 11) (v := ?_) rfl (by kernel_rfl) (by kernel_rfl) (by kernel_rfl) (fun _ _ _ h => h) (Or.inl ⟨by rfl, ?_⟩) (by assumption) ?_
      rotate_left
      · intro w hSw; (try dsimp only at hSw); go_simp; try with_reducible rfl
      simp only [Act.put, List.getElem_toArray, List.getElem_cons_succ, List.getElem_cons_zero, List.setIfInBounds_toArray, List.set_cons_zero, List.set_cons_succ]
      refine wpAnyH_take (i := 12) (v := ?_) rfl (by kernel_rfl) (by kernel_rfl) (by kernel_rfl) (fun _ _ _ h => h) (Or.inl ⟨by rfl, ?_⟩) (by assumption) ?_
      rotate_left
      · intro w hSw; (try dsimp only at hSw); go_simp; try with_reducible rfl
      simp only [Act.put, List.getElem_toArray, List.getElem_cons_succ, List.getElem_cons_zero, List.setIfInBounds_toArray, List.set_cons_zero, List.set_cons_succ]
      refine wpAnyH_done (by kernel_rfl) ?_ _

      have HG4 := Lib.hid (HG2.out.below hbw3)
      clear hbw3 hHeld hHeldw3 HK HBG x0 x1 x2 y0 y1 zx zy u1 u2 u3 u4 u5 HG2
      by_cases hkK : k < K
      · have hsT : sv < T := by rw [← HSV.out]; exact HKK.out.l k hkK
        obtain ⟨e1, e2⟩ := capK_in hkK
        rw [e1] at HBV
        have HE2 := Lib.hid e2
        clear e1 e2
        by_cases hk0 : k = 0
        · subst hk0
          have hbn : bv = -1 := HBV.out.1.symm
          subst hbn
          by_cases hn : sv - near < 0
          · have hd2 : distI near sv = -(sv - near) := by rw [dist_abs, if_pos hn]
            obtain ⟨fr, hfr⟩ : ∃ fr, -(sv - near) = fr := ⟨_, rfl⟩
            rw [hfr] at hd2
            have w1 : IntKind.i64.wrap (sv - near) = sv - near := IntWalk.i64_in _ (by omega)
            have w2 : IntKind.i64.wrap (-(sv - near)) = fr := by rw [← hfr]; exact IntWalk.i64_in _ (by omega)
            have HD2 := Lib.hid hd2
            clear hd2
            have HFR := Lib.hid hfr
            clear hfr
            go_wp2_with fail
            go_roundw
            case rel => exact ⟨0 + 1, _, _, HL20.out, by rw [HE2.out, (best_first near a).1, HSV.out], by rw [HE2.out, (best_first near a).2, HSV.out, HD2.out], by simp, rfl, rfl, HG4⟩
            case measure => have := HL20.out; simp [intOf] <;> omega
          · have hd2 : distI near sv = sv - near := by rw [dist_abs, if_neg hn]
            obtain ⟨fr, hfr⟩ : ∃ fr, sv - near = fr := ⟨_, rfl⟩
            rw [hfr] at hd2
            have w1 : IntKind.i64.wrap (sv - near) = sv - near := IntWalk.i64_in _ (by omega)
            have w3 : IntKind.i64.wrap (sv - near) = fr := by rw [← hfr]; exact w1
            clear w1
            have HD2 := Lib.hid hd2
            clear hd2
            have hn2 : ¬ fr < 0 := by omega
            have HFR := Lib.hid hfr
            clear hfr
            go_wp2_with fail
            go_roundw
            case rel => exact ⟨0 + 1, _, _, HL20.out, by rw [HE2.out, (best_first near a).1, HSV.out], by rw [HE2.out, (best_first near a).2, HSV.out, HD2.out], by simp, rfl, rfl, HG4⟩
            case measure => have := HL20.out; simp [intOf] <;> omega
        · have hbn : ¬ bv < 0 := by rw [← HBV.out.1]; have := best_nn (near := near) (a := a) hab.1 (show 0 < k by omega); omega
          by_cases hc : distI near sv < lv'
          · have HNW := Lib.hid (best_new (near := near) (a := a) (show 0 < k by omega) (by rw [HSV.out, HBV.out.2]; exact hc))
            by_cases hn : sv - near < 0
            · have hd2 : distI near sv = -(sv - near) := by rw [dist_abs, if_pos hn]
              obtain ⟨fr, hfr⟩ : ∃ fr, -(sv - near) = fr := ⟨_, rfl⟩
              rw [hfr] at hd2
              have w1 : IntKind.i64.wrap (sv - near) = sv - near := IntWalk.i64_in _ (by omega)
              have w2 : IntKind.i64.wrap (-(sv - near)) = fr := by rw [← hfr]; exact IntWalk.i64_in _ (by omega)
              have hc2 : fr < lv' := by rw [← hd2]; exact hc
              have HD2 := Lib.hid hd2
              clear hd2
              have HFR := Lib.hid hfr
              clear hfr
              go_wp2_with fail
              go_roundw
              case rel => exact ⟨k + 1, _, _, HL20.out, by rw [HE2.out, HNW.out.1, HSV.out], by rw [HE2.out, HNW.out.2, HSV.out, HD2.out], by simp, rfl, rfl, HG4⟩
              case measure => have := HL20.out; simp [intOf] <;> omega
            · have hd2 : distI near sv = sv - near := by rw [dist_abs, if_neg hn]
              obtain ⟨fr, hfr⟩ : ∃ fr, sv - near = fr := ⟨_, rfl⟩
              rw [hfr] at hd2
              have w1 : IntKind.i64.wrap (sv - near) = sv - near := IntWalk.i64_in _ (by omega)
              have w3 : IntKind.i64.wrap (sv - near) = fr := by rw [← hfr]; exact w1
              clear w1
              have hc2 : fr < lv' := by rw [← hd2]; exact hc
              have HD2 := Lib.hid hd2
              clear hd2
              have hn2 : ¬ fr < 0 := by omega
              have HFR := Lib.hid hfr
              clear hfr
              go_wp2_with fail
              go_roundw
              case rel => exact ⟨k + 1, _, _, HL20.out, by rw [HE2.out, HNW.out.1, HSV.out], by rw [HE2.out, HNW.out.2, HSV.out, HD2.out], by simp, rfl, rfl, HG4⟩
              case measure => have := HL20.out; simp [intOf] <;> omega
          · have HNW := Lib.hid (best_old (near := near) (a := a) (show 0 < k by omega) (by rw [HSV.out, HBV.out.2]; exact hc))
            by_cases hn : sv - near < 0
            · have hd2 : distI near sv = -(sv - near) := by rw [dist_abs, if_pos hn]
              obtain ⟨fr, hfr⟩ : ∃ fr, -(sv - near) = fr := ⟨_, rfl⟩
              rw [hfr] at hd2
              have w1 : IntKind.i64.wrap (sv - near) = sv - near := IntWalk.i64_in _ (by omega)
              have w2 : IntKind.i64.wrap (-(sv - near)) = fr := by rw [← hfr]; exact IntWalk.i64_in _ (by omega)
              have hc2 : ¬ fr < lv' := by rw [← hd2]; exact hc
              have HD2 := Lib.hid hd2
              clear hd2
              have HFR := Lib.hid hfr
              clear hfr
              go_wp2_with fail
              go_roundw
              case rel => exact ⟨k + 1, _, _, HL20.out, by rw [HE2.out, HNW.out.1, HBV.out.1], by rw [HE2.out, HNW.out.2, HBV.out.2], by simp, rfl, rfl, HG4⟩
              case measure => have := HL20.out; simp [intOf] <;> omega
            · have hd2 : distI near sv = sv - near := by rw [dist_abs, if_neg hn]
              obtain ⟨fr, hfr⟩ : ∃ fr, sv - near = fr := ⟨_, rfl⟩
              rw [hfr] at hd2
              have w1 : IntKind.i64.wrap (sv - near) = sv - near := IntWalk.i64_in _ (by omega)
              have w3 : IntKind.i64.wrap (sv - near) = fr := by rw [← hfr]; exact w1
              clear w1
              have hc2 : ¬ fr < lv' := by rw [← hd2]; exact hc
              have HD2 := Lib.hid hd2
              clear hd2
              have hn2 : ¬ fr < 0 := by omega
              have HFR := Lib.hid hfr
              clear hfr
              go_wp2_with fail
              go_roundw
              case rel => exact ⟨k + 1, _, _, HL20.out, by rw [HE2.out, HNW.out.1, HBV.out.1], by rw [HE2.out, HNW.out.2, HBV.out.2], by simp, rfl, rfl, HG4⟩
              case measure => have := HL20.out; simp [intOf] <;> omega
      · have hsT : ¬ sv < T := by rw [← HSV.out]; intro h; exact HKK.out.h (Int.lt_of_le_of_lt (gpsF_le a (by omega)) h)
        obtain ⟨e1, e2⟩ := capK_out hkK
        rw [e1] at HBV
        have HE2 := Lib.hid e2
        clear e1 e2
        by_cases hn : sv - near < 0
        · have hd2 : distI near sv = -(sv - near) := by rw [dist_abs, if_pos hn]
          obtain ⟨fr, hfr⟩ : ∃ fr, -(sv - near) = fr := ⟨_, rfl⟩
          rw [hfr] at hd2
          have w1 : IntKind.i64.wrap (sv - near) = sv - near := IntWalk.i64_in _ (by omega)
          have w2 : IntKind.i64.wrap (-(sv - near)) = fr := by rw [← hfr]; exact IntWalk.i64_in _ (by omega)
          have HD2 := Lib.hid hd2
          clear hd2
          have HFR := Lib.hid hfr
          clear hfr
          go_wp2_with fail
          go_roundw
          case rel => exact ⟨k + 1, _, _, HL20.out, by rw [HE2.out, HBV.out.1], by rw [HE2.out, HBV.out.2], by simp, rfl, rfl, HG4⟩
          case measure => have := HL20.out; simp [intOf] <;> omega
        · have hd2 : distI near sv = sv - near := by rw [dist_abs, if_neg hn]
          obtain ⟨fr, hfr⟩ : ∃ fr, sv - near = fr := ⟨_, rfl⟩
          rw [hfr] at hd2
          have w1 : IntKind.i64.wrap (sv - near) = sv - near := IntWalk.i64_in _ (by omega)
          have w3 : IntKind.i64.wrap (sv - near) = fr := by rw [← hfr]; exact w1
          clear w1
          have HD2 := Lib.hid hd2
          clear hd2
          have hn2 : ¬ fr < 0 := by omega
          have HFR := Lib.hid hfr
          clear hfr
          go_wp2_with fail
          go_roundw
          case rel => exact ⟨k + 1, _, _, HL20.out, by rw [HE2.out, HBV.out.1], by rw [HE2.out, HBV.out.2], by simp, rfl, rfl, HG4⟩
          case measure => have := HL20.out; simp [intOf] <;> omega
    · obtain rfl : k = 20 := by omega
      have hcap : capK 20 K = K := by unfold capK; split <;> omega
      rw [hcap]
      have HGB := Lib.hid HG2.out.bel
      by_cases hz : K = 0
      · subst hz
        have e1 : bestV near a 0 = -1 := rfl
        rw [e1]
        generalize leastV near a 0 = lv' at *
        clear hlt hk
        go_wp2_with fail
        go_ret2
        exact ⟨rfl, HGB.out⟩
      · have hnn := best_nn (near := near) (a := a) hab.1 (show 0 < K by omega)
        have HV1 := Lib.hid (show gpsV near a K = bestV near a K by unfold gpsV bestV; rw [if_neg hz, if_neg hz])
        have HE1 := Lib.hid (show (0 : Int) = gpsE K by unfold gpsE; rw [if_neg hz])
        obtain ⟨bv, hbv⟩ : ∃ q, bestV near a K = q := ⟨_, rfl⟩
        rw [hbv] at hnn HV1 ⊢
        generalize leastV near a K = lv' at *
        have hbn : ¬ bv < 0 := by omega
        clear hlt hk hbv
        go_wp2_with fail
        go_ret2
        exact ⟨by rw [HV1.out, ← HE1.out]; rfl, HGB.out⟩
theorem fg_pair (b u G S near : Int) (n : Nat) (f : Nat → Int × Int) (hn : n ≤ 1000) : ∃ x e, Pair 57 58 b u n f (fun t => #[t, .agg #[.int .i64 G, .int .i64 S], .int .i64 near]) (.tuple #[.int .i64 x, .int .i64 e]) := by
  by_cases ht : tabE b u n f = 0
  · by_cases h1 : 0 ≤ G ∧ G ≤ 1023
    · by_cases h2 : 0 ≤ S ∧ S ≤ 604799
      · by_cases h3 : -1000000000000 ≤ near ∧ near ≤ 1000000000000
        · have HT := tab_ok ht
          have hg := HT.grow_bd 44244
          have htb := HT.total_bd
          have hu2 := HT.u2
          have hu := HT.grow_bd u
          obtain ⟨K, hK, hk⟩ := gpsK_ex (beginS f n 44244 + 604800 * G + S) (beginS f n u) (by unfold beginS; omega) (by unfold beginS; omega)
          exact ⟨_, _, fun X c p hX hl h4 h5 => FromGps_all ht G S near K h1 h2 h3 hk c p X hX hl h4 h5, fun X c p hl => rFromGps_all G S near ht h1 h2 h3 K hK hk c p X hl hn⟩
        · exact ⟨_, _, fun X c p hX hl _ _ => FromGps_r3 G S near ht h1 h2 h3 c p X hX hl hn, fun X c p hl => rFromGps_r3 G S near ht h1 h2 h3 c p X hl hn⟩
      · exact ⟨_, _, fun X c p hX hl _ _ => FromGps_r2 G S near ht h1 h2 c p X hX hl hn, fun X c p hl => rFromGps_r2 G S near ht h1 h2 c p X hl hn⟩
    · exact ⟨_, _, fun X c p hX hl _ _ => FromGps_r1 G S near ht h1 c p X hX hl hn, fun X c p hl => rFromGps_r1 G S near ht h1 c p X hl hn⟩
  · exact ⟨_, _, fun X c p hX hl _ _ => FromGps_tab G S near ht c p X hX hl hn, fun X c p hl => rFromGps_tab G S near ht c p X hl hn⟩
end Go.Proofs.YtgnfaemnehmgcaaGreatDoor.Cal
