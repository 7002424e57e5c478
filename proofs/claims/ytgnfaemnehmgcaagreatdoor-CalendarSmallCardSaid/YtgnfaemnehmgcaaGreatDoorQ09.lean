/-  ·  ·  -/
import Derived.Test.YtgnfaemnehmgcaaGreatDoorQ06
import Derived.Test.YtgnfaemnehmgcaaGreatDoorQ03
namespace Go.Proofs.YtgnfaemnehmgcaaGreatDoor.Cal
theorem stepAt_none {f : Nat → Int × Int} {d : Int} : ∀ k : Nat, (∀ i, i < k → (f i).1 ≠ d) → stepAt f k d = 0
  | 0, _ => rfl
  | k + 1, h => by rw [stepAt, if_neg (h k (by omega))]; exact stepAt_none k (fun i hi => h i (by omega))
theorem grow_succ {f : Nat → Int × Int} {n : Nat} (ho : ∀ i j, i < j → j < n → (f i).1 < (f j).1) (d : Int) : ∀ k : Nat, k ≤ n → growS f k (d + 1) = growS f k d + stepAt f k d
  | 0, _ => rfl
  | k + 1, hk => by
    have ih := grow_succ ho d k (by omega)
    rw [growS, growS, stepAt]
    by_cases e : (f k).1 = d
    · have h0 : stepAt f k d = 0 := stepAt_none k (fun i hi => by have := ho i k hi (by omega); omega)
      rw [if_pos (by omega), if_neg (by omega), if_pos e, ih, h0]
    · rw [if_neg e]
      by_cases h1 : (f k).1 < d
      · rw [if_pos (by omega), if_pos h1, ih]; omega
      · rw [if_neg (by omega), if_neg h1, ih]; omega
theorem TabOk.begin_succ {b u : Int} {n : Nat} {f : Nat → Int × Int} (h : TabOk b u n f) (d : Int) : beginS f n (d + 1) = beginS f n d + 86400 + stepAt f n d := by
  have := grow_succ h.o d n (Nat.le_refl _)
  unfold beginS; rw [this]; omega
theorem TabOk.begin_first {b u : Int} {n : Nat} {f : Nat → Int × Int} (h : TabOk b u n f) : beginS f n 41317 = 0 := by
  have hd := h.d1
  clear h
  have : ∀ k : Nat, k ≤ n → growS f k 41317 = 0 := by
    intro k
    induction k with
    | zero => intro _; rfl
    | succ k ih => intro hk; have := hd k (by omega); rw [growS, ih (by omega), if_neg (by omega)]; rfl
  unfold beginS; rw [this n (Nat.le_refl _)]; rfl
theorem TabOk.begin_lt {b u : Int} {n : Nat} {f : Nat → Int × Int} (h : TabOk b u n f) (d : Int) (k : Nat) : beginS f n d + k * 86399 ≤ beginS f n (d + k) := by
  induction k with
  | zero => simp
  | succ k ih =>
    have h1 := h.begin_succ (d + k)
    have h2 := stepAt_bd (f := f) (d + k) n h.s
    rw [show d + ((k + 1 : Nat) : Int) = d + k + 1 by omega]; omega
theorem TabOk.begin_mono {b u : Int} {n : Nat} {f : Nat → Int × Int} (h : TabOk b u n f) {d e : Int} (hde : d ≤ e) : beginS f n d ≤ beginS f n e := by
  have := h.begin_lt d (e - d).toNat
  rw [show d + ((e - d).toNat : Int) = e by omega] at this
  omega
structure IsDayOf (u : Int) (n : Nat) (f : Nat → Int × Int) (s D : Int) : Prop where
  d1 : 41317 ≤ D
  d2 : D ≤ u - 1
  lo : beginS f n D ≤ s
  hi : s < beginS f n (D + 1)
theorem TabOk.day_exists {b u : Int} {n : Nat} {f : Nat → Int × Int} (h : TabOk b u n f) {s : Int} (h0 : 0 ≤ s) (h1 : s < beginS f n u) : ∃ D, IsDayOf u n f s D := by
  have key : ∀ k : Nat, (41317 : Int) + k ≤ u → s < beginS f n (41317 + k) → ∃ D, IsDayOf u n f s D := by
    intro k
    induction k with
    | zero => intro _ hs; rw [show (41317 : Int) + ((0 : Nat) : Int) = 41317 by rfl, h.begin_first] at hs; omega
    | succ k ih =>
      intro hu hs
      by_cases e : s < beginS f n (41317 + k)
      · exact ih (by omega) e
      · exact ⟨41317 + k, by omega, by omega, by omega, by rw [show (41317 : Int) + k + 1 = 41317 + ((k + 1 : Nat) : Int) by omega]; exact hs⟩
  have := h.u1
  exact key (u - 41317).toNat (by omega) (by rw [show (41317 : Int) + ((u - 41317).toNat : Int) = u by omega]; exact h1)
theorem IsDayOf.after {b u : Int} {n : Nat} {f : Nat → Int × Int} (ht : TabOk b u n f) {s D : Int} (h : IsDayOf u n f s D) {e : Int} (he : D < e) : s < beginS f n e := by
  have := ht.begin_mono (show D + 1 ≤ e by omega)
  have := h.hi; omega
theorem IsDayOf.before {b u : Int} {n : Nat} {f : Nat → Int × Int} (ht : TabOk b u n f) {s D : Int} (h : IsDayOf u n f s D) {e : Int} (he : e ≤ D) : beginS f n e ≤ s := by
  have := ht.begin_mono he
  have := h.lo; omega
theorem TabOk.total_bd {b u : Int} {n : Nat} {f : Nat → Int × Int} (h : TabOk b u n f) : 0 ≤ beginS f n u ∧ beginS f n u ≤ 100000000000 := by
  have h1 := h.begin_mono (show 41317 ≤ u by have := h.u1; omega)
  rw [h.begin_first] at h1
  have := h.grow_bd u
  have := h.u2
  unfold beginS at *; omega
def minS (r : Int) : Int := if 1439 < r / 60 then 1439 else r / 60
theorem IsDayOf.rest_bd {b u : Int} {n : Nat} {f : Nat → Int × Int} (ht : TabOk b u n f) {s D : Int} (h : IsDayOf u n f s D) : 0 ≤ s - beginS f n D ∧ s - beginS f n D ≤ 86400 := by
  have h1 := ht.begin_succ D
  have h2 := stepAt_bd (f := f) D n ht.s
  have := h.lo; have := h.hi; omega
theorem minS_bd (r : Int) (h : 0 ≤ r) : 0 ≤ minS r ∧ minS r ≤ 1439 := by unfold minS; split <;> omega
theorem sec_bd (r : Int) (h : 0 ≤ r ∧ r ≤ 86400) : 0 ≤ r - 60 * minS r ∧ r - 60 * minS r ≤ 60 := by unfold minS; split <;> omega
theorem mom_day (D r : Int) (h : 0 ≤ r) : (1440 * D + minS r) / 1440 = D ∧ (1440 * D + minS r) % 1440 = minS r := by
  have := minS_bd r h
  omega
theorem eom_date {n y : Int} {m : Nat} {d : Int} (h : IsCiv n y m d) : dayN y m (dm y m) = n - d + dm y m := by
  have := h.n_
  unfold dayN at *; omega
def secB (u : Int) (f : Nat → Int × Int) (n : Nat) (D h mi s : Int) : Bool :=
  decide (D < u) && (decide (0 ≤ h) && decide (h ≤ 23)) && (decide (0 ≤ mi) && decide (mi ≤ 59)) && decide (0 ≤ s) && decide (s ≤ 59 + (if h = 23 ∧ mi = 59 then stepAt f n D else 0))
theorem sec_same {b u : Int} {n : Nat} {f : Nat → Int × Int} (ht : TabOk b u n f) {D : Int} (hD : 41317 ≤ D) (h mi s : Int) :
    secB u f n D h mi s = (tB h && miB mi && sB s && hasB u f n (1440 * D + 60 * h + mi) s) := by
  have hs := stepAt_bd (f := f) D n ht.s
  by_cases h1 : 0 ≤ h ∧ h ≤ 23
  · by_cases h2 : 0 ≤ mi ∧ mi ≤ 59
    · have e1 : (1440 * D + 60 * h + mi) / 1440 = D := by omega
      have e2 : (1440 * D + 60 * h + mi) % 1440 = 60 * h + mi := by omega
      unfold secB tB miB sB hasB lenS dayK
      rw [e1, e2]
      by_cases h3 : h = 23 ∧ mi = 59
      · rw [if_pos h3, if_pos (by omega)]
        rw [Bool.eq_iff_iff]; simp only [Bool.and_eq_true, decide_eq_true_eq]; omega
      · rw [if_neg h3, if_neg (by omega)]
        rw [Bool.eq_iff_iff]; simp only [Bool.and_eq_true, decide_eq_true_eq]; omega
    · have e1 : secB u f n D h mi s = false := by
        unfold secB; rw [Bool.eq_false_iff]; intro hc; simp only [Bool.and_eq_true, decide_eq_true_eq] at hc; omega
      have e2 : miB mi = false := by unfold miB; rw [Bool.eq_false_iff]; intro hc; simp only [Bool.and_eq_true, decide_eq_true_eq] at hc; omega
      rw [e1, e2]; simp
  · have e1 : secB u f n D h mi s = false := by
      unfold secB; rw [Bool.eq_false_iff]; intro hc; simp only [Bool.and_eq_true, decide_eq_true_eq] at hc; omega
    have e2 : tB h = false := by unfold tB; rw [Bool.eq_false_iff]; intro hc; simp only [Bool.and_eq_true, decide_eq_true_eq] at hc; omega
    rw [e1, e2]; simp
theorem num_same {D h mi s : Int} (f : Nat → Int × Int) (n : Nat) (h1 : 0 ≤ h ∧ h ≤ 23) (h2 : 0 ≤ mi ∧ mi ≤ 59) : numS f n (1440 * D + 60 * h + mi) s = beginS f n D + 3600 * h + 60 * mi + s := by
  have e1 : (1440 * D + 60 * h + mi) / 1440 = D := by omega
  have e2 : (1440 * D + 60 * h + mi) % 1440 = 60 * h + mi := by omega
  unfold numS; rw [e1, e2]; omega
end Go.Proofs.YtgnfaemnehmgcaaGreatDoor.Cal
namespace Go.Proofs.YtgnfaemnehmgcaaGreatDoor.Cal
open Go Go.RowKit
attribute [local go_sem] Oper.semAt_some
set_option maxHeartbeats 2000000 in
theorem search_any (N T : Nat) (p2 p3 : Option Addr) (W : World) (hN : N ≤ 1000000000) (hT : T ≤ N)
    (hc : ∀ (X : World) (h : Nat), Below W.heap.size W X → h < N → Calls Tryz.prog 151 #[.int .i64 (h : Int), .pointer p2, .pointer p3] X fun e w' => e = .returned (.bool (decide (T ≤ h))) ∧ Below W.heap.size W w') :
    Calls Tryz.prog 150 #[.int .i64 (N : Int), .func (.func 151) #[] #[.pointer p2, .pointer p3]] W fun e w' => e = .returned (.int .i64 (T : Int)) ∧ Below W.heap.size W w' := by
  have HC := Lib.hid hc
  clear hc
  go_enter Tryz.func150, Tryz.ntmps150
  go_wp2_with fail
  go_loopw [5, 6, 7] (fun s5 s6 s7 wr => ∃ (i j : Nat) (v : Value), i ≤ T ∧ T ≤ j ∧ j ≤ N ∧ s5 = .int .i64 (i : Int) ∧ s6 = .int .i64 (j : Int) ∧ s7 = v ∧ Hid (Below W.heap.size W wr)) (fun s5 s6 _ _ => (intOf s6 - intOf s5).toNat)
  case atStart => exact ⟨0, N, _, Nat.zero_le _, hT, Nat.le_refl _, rfl, rfl, rfl, Lib.hid (Below.refl _ _)⟩
  case round =>
    obtain ⟨i, j, v, hi, hj, hjn, rfl, rfl, rfl, HB⟩ := hrel
    by_cases hlt : i < j
    · have hki : (i : Int) < j := by omega
      have k1 : IntKind.i64.wrap ((i : Int) + j) = (i : Int) + j := IntWalk.i64_in _ (by omega)
      obtain ⟨h, hh⟩ : ∃ h : Nat, h = (i + j) / 2 := ⟨_, rfl⟩
      have k2 : ((i : Int) + j) / 2 = (h : Int) := by omega
      have k3 : IntKind.i64.wrap ((h : Int) + 1) = (h : Int) + 1 := IntWalk.i64_in _ (by omega)
      have HIJ := Lib.hid (show i ≤ h ∧ h < j by omega)
      have HCH := Lib.hid (HC.out wr h HB.out (by omega))
      have HLT := Lib.hid (And.intro hi (And.intro hj hjn))
      have hjb : (j : Int) ≤ 1000000000 := by omega
      have hib : (i : Int) ≤ 1000000000 := by omega
      clear hh hlt hi hj hjn
      by_cases hth : T ≤ h
      · have HTH := Lib.hid hth
        rw [show decide (T ≤ h) = true by simpa using hth] at HCH
        clear hth
        go_wp2_with fail
        refine HCH.out.mono ?_
        rintro e w2 ⟨rfl, hb2⟩
        have HB2 := Lib.hid hb2
        clear hb2
        go_wp2_with fail
        go_roundw
        case rel => exact ⟨i, h, _, HLT.out.1, HTH.out, by have := HLT.out; have := HIJ.out; omega, rfl, rfl, rfl, HB2⟩
        case measure => have := HIJ.out; simp [intOf]; omega
      · have HTH := Lib.hid hth
        rw [show decide (T ≤ h) = false by simpa using hth] at HCH
        clear hth
        go_wp2_with fail
        refine HCH.out.mono ?_
        rintro e w2 ⟨rfl, hb2⟩
        have HB2 := Lib.hid hb2
        clear hb2
        go_wp2_with fail
        go_roundw
        case rel => exact ⟨h + 1, j, _, by have := HTH.out; omega, HLT.out.2.1, HLT.out.2.2, by simp, rfl, rfl, HB2⟩
        case measure => have := HIJ.out; simp [intOf]; omega
    · obtain rfl : i = T := by omega
      have hki : ¬ ((i : Int) < j) := by omega
      go_wp2_with fail
      go_ret
      exact ⟨rfl, HB.out⟩
set_option maxHeartbeats 2000000 in
theorem dayOf1_any {b u : Int} {n : Nat} {f : Nat → Int × Int} (ht : TabOk b u n f) {s D : Int} (hD : IsDayOf u n f s D) (h : Nat) (c : Nat) (p : Option Addr) (a2 a3 : Nat) (w : World) (hs : LpIn w f n p) (hc : n ≤ c) (hcm : c ≤ maxLen) (hh : h < 1000000)
    (hx : TBox w a2 b u n c p) (hy : w.cell? ⟨a3, 0, none⟩ = some (.int .i64 s)) :
    Calls Tryz.prog 151 #[.int .i64 (h : Int), .pointer (some ⟨a2, 0, none⟩), .pointer (some ⟨a3, 0, none⟩)] w fun e w' => e = .returned (.bool (decide ((D - 41317).toNat ≤ h))) ∧ Below w.heap.size w w' := by
  obtain ⟨x0, x1, x2⟩ := hx
  have zx := cell_lt x0
  have zy := cell_lt hy
  have v1 : IntKind.i64.wrap (41317 + (h : Int)) = 41317 + h := IntWalk.i64_in _ (by omega)
  have v2 : IntKind.i64.wrap (41317 + (h : Int) + 1) = 41317 + h + 1 := IntWalk.i64_in _ (by omega)
  have HB0 := Lib.hid (Below.refl w.heap.size w)
  have HBG := Lib.hid (fun X (hX : Below w.heap.size w X) => Calls.bel hX (begin_any ht (41317 + h + 1) c p X (hs.below hX) hc hcm (by omega)))
  have HV : Hid (decide (s < beginS f n (41317 + (h : Int) + 1)) = decide ((D - 41317).toNat ≤ h)) := Lib.hid (by
    have := hD.d1
    by_cases e : (D - 41317).toNat ≤ h
    · have := hD.after ht (e := 41317 + (h : Int) + 1) (by omega)
      simp only [this, e, decide_true]
    · have := hD.before ht (e := 41317 + (h : Int) + 1) (by omega)
      rw [decide_eq_false e, decide_eq_false (by omega)])
  have HK := Lib.hid (show ∀ X, Below w.heap.size w X → (fun w' => Below w.heap.size w w' ∧ w'.cell? ⟨a2, 0, none⟩ = some (.int .i64 b) ∧ w'.cell? ⟨a2, 1, none⟩ = some (.slice p n c) ∧ w'.cell? ⟨a2, 2, none⟩ = some (.int .i64 u) ∧ w'.cell? ⟨a3, 0, none⟩ = some (.int .i64 s)) X from fun X h => ⟨h, cell_below h x0, cell_below h x1, cell_below h x2, cell_below h hy⟩)
  clear ht hD hs hh
  generalize beginS f n (41317 + (h : Int) + 1) = bg at *
  go_enter Tryz.func151, Tryz.ntmps151
  go_wp2_with fail
  go_region_held3 (fun w' => Below w.heap.size w w' ∧ w'.cell? ⟨a2, 0, none⟩ = some (.int .i64 b) ∧ w'.cell? ⟨a2, 1, none⟩ = some (.slice p n c) ∧ w'.cell? ⟨a2, 2, none⟩ = some (.int .i64 u) ∧ w'.cell? ⟨a3, 0, none⟩ = some (.int .i64 s))
    (exact HK.out _ (by first | assumption | exact HB0.out | exact Below.drew HB0.out | exact Below.drew (by assumption)))
    (first | (go_at_call 113; refine (HBG.out _ (by first | assumption | exact HB0.out | exact Below.drew HB0.out)).mono ?_; rintro e w2 ⟨rfl, hb2⟩))
  all_goals
    go_wp2
    go_ret
    exact ⟨ret_bool HV.out, by assumption⟩
theorem dayOf_any {b u : Int} {n : Nat} {f : Nat → Int × Int} (ht : TabOk b u n f) {s D : Int} (hD : IsDayOf u n f s D) (c : Nat) (p : Option Addr) (w : World) (hs : LpIn w f n p) (hc : n ≤ c) (hcm : c ≤ maxLen) :
    Calls Tryz.prog 136 #[.agg #[.int .i64 b, .slice p n c, .int .i64 u], .int .i64 s] w fun e w' => e = .returned (.int .i64 D) ∧ Below w.heap.size w w' := by
  have b1 := below_alloc (Below.refl w.heap.size w) (.cells #[.int .i64 b, .slice p n c, .int .i64 u] 24)
  have e1 : (w.alloc (.cells #[.int .i64 b, .slice p n c, .int .i64 u] 24)).heap.size = w.heap.size + 1 := by simp
  have b2 := below_alloc (Below.refl (w.alloc (.cells #[.int .i64 b, .slice p n c, .int .i64 u] 24)).heap.size (w.alloc (.cells #[.int .i64 b, .slice p n c, .int .i64 u] 24))) (.cells #[.int .i64 s] 3)
  have hx := (TBox.new w b u n c p 24).below b2
  have hy : ((w.alloc (.cells #[.int .i64 b, .slice p n c, .int .i64 u] 24)).alloc (.cells #[.int .i64 s] 3)).cell? ⟨w.heap.size + 1, 0, none⟩ = some (.int .i64 s) := by rw [← e1]; simp
  have A0 := bt b1 b2
  have hs2 := hs.below A0
  clear b1 b2 e1 hs
  have hu1 := ht.u1
  have hu2 := ht.u2
  have hd1 := hD.d1
  have hd2 := hD.d2
  have v1 : IntKind.i64.wrap (u - 41317) = u - 41317 := IntWalk.i64_in _ (by omega)
  obtain ⟨N, hN⟩ : ∃ N : Nat, u - 41317 = N := ⟨(u - 41317).toNat, by omega⟩
  have v2 : IntKind.i64.wrap (41317 + ((D - 41317).toNat : Int)) = D := by rw [show 41317 + ((D - 41317).toNat : Int) = D by omega]; exact IntWalk.i64_in _ (by omega)
  have HSR := Lib.hid (search_any N (D - 41317).toNat (some ⟨w.heap.size, 0, none⟩) (some ⟨w.heap.size + 1, 0, none⟩) ((w.alloc (.cells #[.int .i64 b, .slice p n c, .int .i64 u] 24)).alloc (.cells #[.int .i64 s] 3)) (by omega) (by omega)
    (fun X h hX hh => Calls.bel hX (dayOf1_any ht hD h c p w.heap.size (w.heap.size + 1) X (hs2.below hX) hc hcm (by omega) (hx.below hX) (cell_below hX hy))))
  obtain ⟨x0, x1, x2⟩ := hx
  have A0 := Lib.hid A0
  have hNb : (N : Int) ≤ 1000000000 := by omega
  clear hs2 ht hD hu1 hu2 hd1 hd2
  generalize (D - 41317).toNat = T at *
  go_enter Tryz.func136, Tryz.ntmps136
  go_upto_region 1 with fail
  generalize (w.alloc (.cells #[.int .i64 b, .slice p n c, .int .i64 u] 24)).alloc (.cells #[.int .i64 s] 3) = W1 at *
  have zx := cell_lt x0
  have zy := cell_lt hy
  go_wp2_with fail
  refine HSR.out.mono ?_
  rintro e w2 ⟨rfl, hb2⟩
  have HB2 := Lib.hid hb2
  clear hb2
  go_wp2
  go_ret
  exact ⟨rfl, bt A0.out HB2.out⟩
end Go.Proofs.YtgnfaemnehmgcaaGreatDoor.Cal
namespace Go.Proofs.YtgnfaemnehmgcaaGreatDoor.Cal
open Go Go.RowKit
attribute [local go_sem] Oper.semAt_some
theorem stepAt_hit {f : Nat → Int × Int} {d : Int} {k : Nat} : ∀ n : Nat, (∀ i j, i < j → j < n → (f i).1 < (f j).1) → k < n → (f k).1 = d → stepAt f n d = (f k).2
  | 0, _, hk, _ => by omega
  | n + 1, ho, hk, h => by
    rw [stepAt]
    by_cases e : k = n
    · subst e; rw [if_pos h]
    · have := ho k n (by omega) (by omega)
      rw [if_neg (by omega)]
      exact stepAt_hit n (fun i j h1 h2 => ho i j h1 (by omega)) (by omega) h

set_option maxHeartbeats 1000000 in
theorem rgrown_any {b u : Int} {n : Nat} {f : Nat → Int × Int} (ht : TabOk b u n f) (d : Int) (c : Nat) (p : Option Addr) (w : World) (hs : LpIn w f n p) :
    Calls Tryz.prog 98 #[.agg #[.int .i64 b, .slice p n c, .int .i64 u], .int .i64 d] w fun e w' => e = .returned (.int .i64 (growS f n d)) ∧ Below w.heap.size w w' := by
  have A0 := below_alloc (Below.refl w.heap.size w) (.cells #[.int .i64 b, .slice p n c, .int .i64 u] 55)
  obtain ⟨x0, x1, x2⟩ := TBox.new w b u n c p 55
  have HS := Lib.hid (hs.below A0)
  have A0 := Lib.hid A0
  have HT := Lib.hid ht
  clear hs ht
  go_enter Tryz.func98, Tryz.ntmps98
  go_upto_region 1 with fail
  generalize w.alloc (.cells #[.int .i64 b, .slice p n c, .int .i64 u] 55) = W1 at *
  have zx := cell_lt x0
  go_wp2_with fail
  go_loop [5, 6] (fun s5 s6 => ∃ k : Nat, k ≤ n ∧ s5 = .int .i64 (growS f k d) ∧ s6 = .int .i64 (k : Int)) (fun _ s => n - (intOf s).toNat)
  case atStart => exact ⟨0, Nat.zero_le _, rfl, rfl⟩
  case round =>
    obtain ⟨k, hk, rfl, rfl⟩ := hrel
    have hn1 := HT.out.n1
    by_cases hlt : k < n
    · have hki : (k : Int) < n := by omega
      have vk : IntKind.i64.wrap ((k : Int) + 1) = (k : Int) + 1 := IntWalk.i64_in _ (by omega)
      obtain ⟨bb, oo, rfl, hsi⟩ := HS.out.resolve_left (by omega)
      obtain ⟨y0, y1⟩ := hsi k hlt
      have zy := cell_lt y0
      have hgb : -(k : Int) ≤ growS f k d ∧ growS f k d ≤ k := by
        have hs := HT.out.s
        have : ∀ j : Nat, j ≤ n → -(j : Int) ≤ growS f j d ∧ growS f j d ≤ j := by
          intro j
          induction j with
          | zero => intro _; simp [growS]
          | succ j ih => intro hj; have := ih (by omega); have := hs j (by omega); rw [growS]; split <;> omega
        exact this k hk
      have hst := HT.out.s k hlt
      have va : IntKind.i64.wrap (growS f k d + (f k).2) = growS f k d + (f k).2 := IntWalk.i64_in _ (by omega)
      have HST : Hid (growS f (k + 1) d = growS f k d + if (f k).1 < d then (f k).2 else 0) := Lib.hid rfl
      have HK := Lib.hid hlt
      clear hlt hsi hgb hst hn1
      generalize (f k).1 = dk at *
      generalize (f k).2 = sk at *
      generalize growS f k d = gk at *
      by_cases hd : dk < d
      · have HE := Lib.hid (show gk + sk = growS f (k + 1) d by rw [HST.out, if_pos hd])
        go_wp2_with fail
        go_round
        case rel => exact ⟨k + 1, HK.out, by rw [HE.out], by simp⟩
        case measure => have := HK.out; simp [intOf]; omega
      · have HE := Lib.hid (show gk = growS f (k + 1) d by rw [HST.out, if_neg hd]; omega)
        go_wp2_with fail
        go_round
        case rel => exact ⟨k + 1, HK.out, by rw [← HE.out], by simp⟩
        case measure => have := HK.out; simp [intOf]; omega
    · obtain rfl : k = n := by omega
      have hki : ¬ ((k : Int) < k) := by omega
      clear hlt
      go_wp2_with fail
      go_ret
      exact ⟨rfl, A0.out⟩
set_option maxHeartbeats 1000000 in
theorem rstep_any {b u : Int} {n : Nat} {f : Nat → Int × Int} (ht : TabOk b u n f) (d : Int) (c : Nat) (p : Option Addr) (w : World) (hs : LpIn w f n p) :
    Calls Tryz.prog 100 #[.agg #[.int .i64 b, .slice p n c, .int .i64 u], .int .i64 d] w fun e w' => e = .returned (.int .i64 (stepAt f n d)) ∧ Below w.heap.size w w' := by
  have A0 := below_alloc (Below.refl w.heap.size w) (.cells #[.int .i64 b, .slice p n c, .int .i64 u] 55)
  obtain ⟨x0, x1, x2⟩ := TBox.new w b u n c p 55
  have HS := Lib.hid (hs.below A0)
  have A0 := Lib.hid A0
  have HT := Lib.hid ht
  clear hs ht
  go_enter Tryz.func100, Tryz.ntmps100
  go_upto_region 1 with fail
  generalize w.alloc (.cells #[.int .i64 b, .slice p n c, .int .i64 u] 55) = W1 at *
  have zx := cell_lt x0
  go_wp2_with fail
  go_loop [4, 5] (fun s4 s5 => ∃ k : Nat, k ≤ n ∧ s4 = .int .i64 0 ∧ s5 = .int .i64 (k : Int) ∧ Hid (∀ i, i < k → (f i).1 ≠ d)) (fun _ s => n - (intOf s).toNat)
  case atStart => exact ⟨0, Nat.zero_le _, rfl, rfl, Lib.hid (fun i hi => absurd hi (Nat.not_lt_zero _))⟩
  case round =>
    obtain ⟨k, hk, rfl, rfl, HN⟩ := hrel
    have hn1 := HT.out.n1
    by_cases hlt : k < n
    · have hki : (k : Int) < n := by omega
      have vk : IntKind.i64.wrap ((k : Int) + 1) = (k : Int) + 1 := IntWalk.i64_in _ (by omega)
      obtain ⟨bb, oo, rfl, hsi⟩ := HS.out.resolve_left (by omega)
      obtain ⟨y0, y1⟩ := hsi k hlt
      have zy := cell_lt y0
      have HK := Lib.hid hlt
      by_cases hd : (f k).1 = d
      · have HE := Lib.hid (show (f k).2 = stepAt f n d from (stepAt_hit n HT.out.o hlt hd).symm)
        have he : ((f k).1 == d) = true := by simpa using hd
        clear hlt hsi hn1 hd
        generalize (f k).1 = dk at *
        generalize (f k).2 = sk at *
        go_wp2_with fail
        go_ret
        exact ⟨ret_i64 HE.out, A0.out⟩
      · have he : ((f k).1 == d) = false := by simpa using hd
        have HND := Lib.hid hd
        clear hlt hsi hn1 hd
        generalize hdk : (f k).1 = dk at *
        have HDK := Lib.hid hdk
        clear hdk
        go_wp2_with fail
        go_round
        case rel => exact ⟨k + 1, HK.out, rfl, by simp, Lib.hid (fun i hi => by
          by_cases e : i = k
          · subst e; rw [HDK.out]; exact HND.out
          · exact HN.out i (by omega))⟩
        case measure => have := HK.out; simp [intOf]; omega
    · obtain rfl : k = n := by omega
      have hki : ¬ ((k : Int) < k) := by omega
      have HE := Lib.hid (show 0 = stepAt f k d from (stepAt_none k HN.out).symm)
      clear hlt
      go_wp2_with fail
      go_ret
      exact ⟨ret_i64 HE.out, A0.out⟩
theorem rbegin_any {b u : Int} {n : Nat} {f : Nat → Int × Int} (ht : TabOk b u n f) (d : Int) (c : Nat) (p : Option Addr) (w : World) (hs : LpIn w f n p) (hd : -1000000000000 ≤ d ∧ d ≤ 1000000000000) :
    Calls Tryz.prog 96 #[.agg #[.int .i64 b, .slice p n c, .int .i64 u], .int .i64 d] w fun e w' => e = .returned (.int .i64 (beginS f n d)) ∧ Below w.heap.size w w' := by
  have A0 := below_alloc (Below.refl w.heap.size w) (.cells #[.int .i64 b, .slice p n c, .int .i64 u] 55)
  obtain ⟨x0, x1, x2⟩ := TBox.new w b u n c p 55
  have HG := Lib.hid (rgrown_any ht d c p _ (hs.below A0))
  have A0 := Lib.hid A0
  have hgb := ht.grow_bd d
  have v1 : IntKind.i64.wrap (d - 41317) = d - 41317 := IntWalk.i64_in _ (by omega)
  have v2 : IntKind.i64.wrap (86400 * (d - 41317)) = 86400 * (d - 41317) := IntWalk.i64_in _ (by omega)
  have v3 : IntKind.i64.wrap (86400 * (d - 41317) + growS f n d) = 86400 * (d - 41317) + growS f n d := IntWalk.i64_in _ (by omega)
  have HE := Lib.hid (show 86400 * (d - 41317) + growS f n d = beginS f n d from rfl)
  clear hs ht hgb hd
  generalize growS f n d = gg at *
  go_enter Tryz.func96, Tryz.ntmps96
  go_upto_region 1 with fail
  generalize w.alloc (.cells #[.int .i64 b, .slice p n c, .int .i64 u] 55) = W1 at *
  have zx := cell_lt x0
  go_wp2_with (go_at_call 98; refine HG.out.mono ?_; rintro e w2 ⟨rfl, hb2⟩; have HB2 := Lib.hid hb2; clear hb2)
  go_ret
  exact ⟨ret_i64 HE.out, bt A0.out HB2.out⟩

set_option maxHeartbeats 2000000 in
theorem rCheck_any (b u : Int) (n c : Nat) (p : Option Addr) (f : Nat → Int × Int) (w : World) (hs : LpIn w f n p) (hn : n ≤ 1000000000000) :
    Calls Tryz.prog 34 #[.agg #[.int .i64 b, .slice p n c, .int .i64 u]] w fun e w' => e = .returned (.int .i64 (tabE b u n f)) ∧ Below w.heap.size w w' := by
  have A0 := below_alloc (Below.refl w.heap.size w) (.cells #[.int .i64 b, .slice p n c, .int .i64 u] 55)
  have HBX := Lib.hid (TBox.new w b u n c p 55)
  obtain ⟨x0, x1, x2⟩ := HBX.out
  have HS := Lib.hid (hs.below A0)
  have A0 := Lib.hid A0
  clear hs
  cases h1 : (decide (0 ≤ b) && decide (b ≤ 100))
  · have HV := Lib.hid (show tabE b u n f = 6 by unfold tabE tabB; simp [h1])
    have H1 := Lib.hid h1
    clear h1
    rw [HV.out]
    go_enter Tryz.func34, Tryz.ntmps34
    go_wp2_with (go_at_call 90; refine (in_any _ _ _ _).mono ?_; rintro e w' ⟨rfl, rfl⟩; first | rw [H1.out])
    go_ret
    exact ⟨rfl, A0.out⟩
  · cases h2 : (decide (41318 ≤ u) && decide (u ≤ 88069))
    · have HV := Lib.hid (show tabE b u n f = 6 by unfold tabE tabB; simp [h2])
      have H1 := Lib.hid h1
      have H2 := Lib.hid h2
      clear h1 h2
      rw [HV.out]
      go_enter Tryz.func34, Tryz.ntmps34
      go_wp2_with (go_at_call 90; refine (in_any _ _ _ _).mono ?_; rintro e w' ⟨rfl, rfl⟩; first | rw [H1.out] | rw [H2.out])
      go_ret
      exact ⟨rfl, A0.out⟩
    · have hub : 41318 ≤ u ∧ u ≤ 88069 := by simpa using h2
      have HTB := Lib.hid (show tabB b u = true by unfold tabB; rw [h1, h2]; rfl)
      have H1 := Lib.hid h1
      have H2 := Lib.hid h2
      clear h1 h2
      by_cases h3 : n ≤ 100
      · have h3i : ¬ (100 : Int) < n := by omega
        have HV := Lib.hid (show tabE b u n f = lErr u f n by unfold tabE; rw [if_pos HTB.out, if_pos h3])
        have H3 := Lib.hid h3
        clear h3
        rw [HV.out]
        go_enter Tryz.func34, Tryz.ntmps34
        go_wp2_with (go_at_call 90; refine (in_any _ _ _ _).mono ?_; rintro e w' ⟨rfl, rfl⟩; first | rw [H1.out] | rw [H2.out])
        generalize w.alloc (.cells #[.int .i64 b, .slice p n c, .int .i64 u] 55) = W0 at *
        go_loopw [2, 3, 4, 5, 6, 7, 8] (fun s2 s3 s4 s5 s6 s7 s8 wr => ∃ (k : Nat) (a4 a5 a6 a7 a8 : Value), k ≤ n ∧ s2 = .int .i64 0 ∧ s3 = .int .i64 (k : Int) ∧ s4 = a4 ∧ s5 = a5 ∧ s6 = a6 ∧ s7 = a7 ∧ s8 = a8 ∧ Hid (lErr u f k = 0) ∧ Hid (Below W0.heap.size W0 wr)) (fun _ s _ _ _ _ _ _ => n - (intOf s).toNat)
        case atStart => exact ⟨0, _, _, _, _, _, Nat.zero_le _, rfl, rfl, rfl, rfl, rfl, rfl, rfl, Lib.hid rfl, Lib.hid (Below.refl _ _)⟩
        case round =>
          obtain ⟨k, a4, a5, a6, a7, a8, hk, rfl, rfl, rfl, rfl, rfl, rfl, rfl, HL, HBW⟩ := hrel
          have hn3 := H3.out
          by_cases hlt : k < n
          · have hki : (k : Int) < n := by omega
            have vk : IntKind.i64.wrap ((k : Int) + 1) = (k : Int) + 1 := IntWalk.i64_in _ (by omega)
            have vu : IntKind.i64.wrap (u - 1) = u - 1 := IntWalk.i64_in _ (by omega)
            obtain ⟨bb, oo, rfl, hsi⟩ := HS.out.resolve_left (by omega)
            have HSI := Lib.hid (hsi.below HBW.out)
            obtain ⟨y0, y1⟩ := HSI.out k hlt
            obtain ⟨x0, x1, x2⟩ := HBX.out.below HBW.out
            have zx := cell_lt x0
            have zy := cell_lt y0
            have HEF : Hid (lE u f k = if leapB (f k).1 (f k).2 = true then if dayK u (f k).1 = true then if (if k = 0 then 0 else (f (k - 1)).1) < (f k).1 then 0 else 11 else 6 else 91) := Lib.hid rfl
            have HAT := Lib.hid (fun h => lErr_at (u := u) (f := f) hlt HL.out h)
            have HSU := Lib.hid (show lE u f k = 0 → lErr u f (k + 1) = 0 from fun h => by rw [lErr, if_pos HL.out]; exact h)
            have hb1 := below_alloc (Below.refl wr.heap.size wr) (.cells #[.int .i64 (f k).1, .int .i64 (f k).2] 63)
            have q0 : (wr.alloc (.cells #[.int .i64 (f k).1, .int .i64 (f k).2] 63)).cell? ⟨wr.heap.size, 0, none⟩ = some (.int .i64 (f k).1) := by simp
            have q1 : (wr.alloc (.cells #[.int .i64 (f k).1, .int .i64 (f k).2] 63)).cell? ⟨wr.heap.size, 1, none⟩ = some (.int .i64 (f k).2) := by simp
            have HPR := Lib.hid (show 0 < k → (wr.alloc (.cells #[.int .i64 (f k).1, .int .i64 (f k).2] 63)).cell? ⟨bb, oo + (k - 1) * 2, none⟩ = some (.int .i64 (f (k - 1)).1) from fun h0 => cell_below hb1 (HSI.out (k - 1) (by omega)).1)
            have HBB := Lib.hid ((HBX.out.below HBW.out).below hb1)
            have HB1 := Lib.hid (bt (bt A0.out HBW.out) hb1)
            have HBR := Lib.hid (bt HBW.out hb1)
            have HK := Lib.hid hlt
            clear hlt hsi hb1
            generalize (f k).1 = dk at *
            generalize (f k).2 = sk at *
            go_upto_region 9 with fail
            generalize wr.alloc (.cells #[.int .i64 dk, .int .i64 sk] 63) = W1 at *
            have zq := cell_lt q0
            clear x0 x1 x2 zx y0 y1 zy
            obtain ⟨x0, x1, x2⟩ := HBB.out
            have zx := cell_lt x0
            by_cases hs1 : sk = 1
            · subst hs1
              cases hr : (decide (41317 ≤ dk) && decide (dk ≤ 88068))
              · have HLB := Lib.hid (show leapB dk (1) = true by unfold leapB; simp [hr])
                have HDK := Lib.hid (show dayK u dk = false by unfold dayK; rw [Bool.eq_false_iff]; intro hc; rw [Bool.eq_false_iff] at hr; apply hr; simp at hc ⊢; omega)
                have HCV := Lib.hid (rCivil_no dk W1 hr)
                have HKD := Lib.hid (show (decide (41317 ≤ dk) && decide (dk ≤ u - 1)) = false from HDK.out)
                clear hr
                have HE := Lib.hid (show (6 : Int) = lErr u f n by
                  have e : lE u f k = 6 := by rw [HEF.out]; rw [if_pos HLB.out, if_neg (by rw [HDK.out]; decide)]
                  rw [HAT.out (by rw [e]; decide), e])
                go_wp2_with (first | (go_at_call 29; refine HCV.out.mono ?_; rintro e w' ⟨rfl, rfl⟩) | (go_at_call 90; refine (in_any _ _ _ _).mono ?_; rintro e w' ⟨rfl, rfl⟩; first | rw [HKD.out]))
                go_ret
                exact ⟨ret_i64 HE.out, HB1.out⟩
              · have hrr : 41317 ≤ dk ∧ dk ≤ 88068 := by simpa using hr
                have hci := civ_is dk hrr
                have HCV := Lib.hid (rCivil_ok W1 hci)
                have HMO := Lib.hid (month_any (yr dk) (mo dk) W1 (by have := hci.y1; omega))
                have HEM : Hid (eom dk = dk - da dk + dm (yr dk) (mo dk)) := Lib.hid rfl
                clear hr hci
                generalize yr dk = yy at *
                generalize mo dk = mm at *
                generalize da dk = dd at *
                generalize dm yy (mm : Int) = dmm at *
                by_cases hdd : dd = dmm
                · have HLB := Lib.hid (show leapB dk (1) = true by
                    have : dk = eom dk := by rw [HEM.out]; omega
                    unfold leapB; rw [← this]; simp)
                  have hdne : (dd == dmm) = true := by simpa using hdd
                  clear hrr hdd
                  cases hkd : dayK u dk
                  · have HDK := Lib.hid hkd
                    have HKD := Lib.hid (show (decide (41317 ≤ dk) && decide (dk ≤ u - 1)) = false from hkd)
                    clear hkd
                    have HE := Lib.hid (show (6 : Int) = lErr u f n by
                      have e : lE u f k = 6 := by rw [HEF.out]; rw [if_pos HLB.out, if_neg (by rw [HDK.out]; decide)]
                      rw [HAT.out (by rw [e]; decide), e])
                    go_wp2_with (first | (go_at_call 29; refine HCV.out.mono ?_; rintro e w' ⟨rfl, rfl⟩) | (go_at_call 91; refine HMO.out.mono ?_; rintro e w' ⟨rfl, rfl⟩) | (go_at_call 90; refine (in_any _ _ _ _).mono ?_; rintro e w' ⟨rfl, rfl⟩; first | rw [HKD.out]))
                    go_ret
                    exact ⟨ret_i64 HE.out, HB1.out⟩
                  · have HDK := Lib.hid hkd
                    have HKD := Lib.hid (show (decide (41317 ≤ dk) && decide (dk ≤ u - 1)) = true from hkd)
                    have hd0 : 0 < dk := by unfold dayK at hkd; simp at hkd; omega
                    clear hkd
                    go_upto_region 16 with (first | (go_at_call 29; refine HCV.out.mono ?_; rintro e w' ⟨rfl, rfl⟩) | (go_at_call 91; refine HMO.out.mono ?_; rintro e w' ⟨rfl, rfl⟩) | (go_at_call 90; refine (in_any _ _ _ _).mono ?_; rintro e w' ⟨rfl, rfl⟩; first | rw [HKD.out]))
                    clear HCV HMO HKD hdne
                    by_cases hk0 : k = 0
                    · subst hk0
                      have HE := Lib.hid (show lE u f 0 = 0 by rw [HEF.out, if_pos HLB.out, if_pos HDK.out, if_pos rfl, if_pos hd0])
                      clear hd0
                      go_quiet (fail)
                      go_wp2_with fail
                      go_roundw
                      case rel => exact ⟨1, _, _, _, _, _, HK.out, rfl, by simp, rfl, rfl, rfl, rfl, rfl, Lib.hid (HSU.out HE.out), Lib.hid (below_drewN HBR.out _)⟩
                      case measure => have := HK.out; simp [intOf]; omega
                    · have hpr := HPR.out (by omega)
                      have zp := cell_lt hpr
                      have hk0i : (0 : Int) < (k : Int) := by omega
                      have hk0d : decide ((0 : Int) < (k : Int)) = true := by simpa using hk0i
                      have hk0e : decide (0 < k) = true := by simp; omega
                      have vm : IntKind.i64.wrap ((k : Int) - 1) = (k : Int) - 1 := IntWalk.i64_in _ (by omega)
                      have hm0 : 0 ≤ (k : Int) - 1 := by omega
                      have hm1 : (k : Int) - 1 < n := by omega
                      have hmn : ((k : Int) - 1).toNat = k - 1 := by omega
                      have HK0 := Lib.hid hk0
                      have HPI := Lib.hid (show (if k = 0 then 0 else (f (k - 1)).1) = (f (k - 1)).1 from if_neg hk0)
                      clear hk0 hd0
                      generalize (f (k - 1)).1 = pk at *
                      by_cases hlt : pk < dk
                      · have HE := Lib.hid (show lE u f k = 0 by rw [HEF.out, if_pos HLB.out, if_pos HDK.out, HPI.out, if_pos hlt])
                        have hle : ¬ dk ≤ pk := by omega
                        clear hlt
                        go_quiet (fail)
                        go_wp2_with fail
                        go_roundw
                        case rel => exact ⟨k + 1, _, _, _, _, _, HK.out, rfl, by simp, rfl, rfl, rfl, rfl, rfl, Lib.hid (HSU.out HE.out), Lib.hid (below_drewN HBR.out _)⟩
                        case measure => have := HK.out; simp [intOf]; omega
                      · have HE := Lib.hid (show (11 : Int) = lErr u f n by
                          have e : lE u f k = 11 := by rw [HEF.out, if_pos HLB.out, if_pos HDK.out, HPI.out, if_neg hlt]
                          rw [HAT.out (by rw [e]; decide), e])
                        have hle : dk ≤ pk := by omega
                        clear hlt
                        go_quiet (fail)
                        go_wp2_with fail
                        go_ret
                        exact ⟨ret_i64 HE.out, below_drewN HB1.out _⟩
                · have HLB := Lib.hid (show leapB dk (1) = false by
                    have h1 : ¬ dk = eom dk := by rw [HEM.out]; omega
                    unfold leapB; rw [decide_eq_false h1]; simp [hrr])
                  have hdne : (dd == dmm) = false := by simpa using hdd
                  clear hrr hdd
                  have HE := Lib.hid (show (91 : Int) = lErr u f n by
                    have e : lE u f k = 91 := by rw [HEF.out]; rw [if_neg (by rw [HLB.out]; decide)]
                    rw [HAT.out (by rw [e]; decide), e])
                  go_wp2_with (first | (go_at_call 29; refine HCV.out.mono ?_; rintro e w' ⟨rfl, rfl⟩) | (go_at_call 91; refine HMO.out.mono ?_; rintro e w' ⟨rfl, rfl⟩))
                  go_ret
                  exact ⟨ret_i64 HE.out, HB1.out⟩
            · have n1 : (sk == 1) = false := by simpa using hs1
              by_cases hs2 : sk = -1
              · subst hs2
                clear hs1
                cases hr : (decide (41317 ≤ dk) && decide (dk ≤ 88068))
                · have HLB := Lib.hid (show leapB dk (-1) = true by unfold leapB; simp [hr])
                  have HDK := Lib.hid (show dayK u dk = false by unfold dayK; rw [Bool.eq_false_iff]; intro hc; rw [Bool.eq_false_iff] at hr; apply hr; simp at hc ⊢; omega)
                  have HCV := Lib.hid (rCivil_no dk W1 hr)
                  have HKD := Lib.hid (show (decide (41317 ≤ dk) && decide (dk ≤ u - 1)) = false from HDK.out)
                  clear hr
                  have HE := Lib.hid (show (6 : Int) = lErr u f n by
                    have e : lE u f k = 6 := by rw [HEF.out]; rw [if_pos HLB.out, if_neg (by rw [HDK.out]; decide)]
                    rw [HAT.out (by rw [e]; decide), e])
                  go_wp2_with (first | (go_at_call 29; refine HCV.out.mono ?_; rintro e w' ⟨rfl, rfl⟩) | (go_at_call 90; refine (in_any _ _ _ _).mono ?_; rintro e w' ⟨rfl, rfl⟩; first | rw [HKD.out]))
                  go_ret
                  exact ⟨ret_i64 HE.out, HB1.out⟩
                · have hrr : 41317 ≤ dk ∧ dk ≤ 88068 := by simpa using hr
                  have hci := civ_is dk hrr
                  have HCV := Lib.hid (rCivil_ok W1 hci)
                  have HMO := Lib.hid (month_any (yr dk) (mo dk) W1 (by have := hci.y1; omega))
                  have HEM : Hid (eom dk = dk - da dk + dm (yr dk) (mo dk)) := Lib.hid rfl
                  clear hr hci
                  generalize yr dk = yy at *
                  generalize mo dk = mm at *
                  generalize da dk = dd at *
                  generalize dm yy (mm : Int) = dmm at *
                  by_cases hdd : dd = dmm
                  · have HLB := Lib.hid (show leapB dk (-1) = true by
                      have : dk = eom dk := by rw [HEM.out]; omega
                      unfold leapB; rw [← this]; simp)
                    have hdne : (dd == dmm) = true := by simpa using hdd
                    clear hrr hdd
                    cases hkd : dayK u dk
                    · have HDK := Lib.hid hkd
                      have HKD := Lib.hid (show (decide (41317 ≤ dk) && decide (dk ≤ u - 1)) = false from hkd)
                      clear hkd
                      have HE := Lib.hid (show (6 : Int) = lErr u f n by
                        have e : lE u f k = 6 := by rw [HEF.out]; rw [if_pos HLB.out, if_neg (by rw [HDK.out]; decide)]
                        rw [HAT.out (by rw [e]; decide), e])
                      go_wp2_with (first | (go_at_call 29; refine HCV.out.mono ?_; rintro e w' ⟨rfl, rfl⟩) | (go_at_call 91; refine HMO.out.mono ?_; rintro e w' ⟨rfl, rfl⟩) | (go_at_call 90; refine (in_any _ _ _ _).mono ?_; rintro e w' ⟨rfl, rfl⟩; first | rw [HKD.out]))
                      go_ret
                      exact ⟨ret_i64 HE.out, HB1.out⟩
                    · have HDK := Lib.hid hkd
                      have HKD := Lib.hid (show (decide (41317 ≤ dk) && decide (dk ≤ u - 1)) = true from hkd)
                      have hd0 : 0 < dk := by unfold dayK at hkd; simp at hkd; omega
                      clear hkd
                      go_upto_region 16 with (first | (go_at_call 29; refine HCV.out.mono ?_; rintro e w' ⟨rfl, rfl⟩) | (go_at_call 91; refine HMO.out.mono ?_; rintro e w' ⟨rfl, rfl⟩) | (go_at_call 90; refine (in_any _ _ _ _).mono ?_; rintro e w' ⟨rfl, rfl⟩; first | rw [HKD.out]))
                      clear HCV HMO HKD hdne
                      by_cases hk0 : k = 0
                      · subst hk0
                        have HE := Lib.hid (show lE u f 0 = 0 by rw [HEF.out, if_pos HLB.out, if_pos HDK.out, if_pos rfl, if_pos hd0])
                        clear hd0
                        go_quiet (fail)
                        go_wp2_with fail
                        go_roundw
                        case rel => exact ⟨1, _, _, _, _, _, HK.out, rfl, by simp, rfl, rfl, rfl, rfl, rfl, Lib.hid (HSU.out HE.out), Lib.hid (below_drewN HBR.out _)⟩
                        case measure => have := HK.out; simp [intOf]; omega
                      · have hpr := HPR.out (by omega)
                        have zp := cell_lt hpr
                        have hk0i : (0 : Int) < (k : Int) := by omega
                        have hk0d : decide ((0 : Int) < (k : Int)) = true := by simpa using hk0i
                        have hk0e : decide (0 < k) = true := by simp; omega
                        have vm : IntKind.i64.wrap ((k : Int) - 1) = (k : Int) - 1 := IntWalk.i64_in _ (by omega)
                        have hm0 : 0 ≤ (k : Int) - 1 := by omega
                        have hm1 : (k : Int) - 1 < n := by omega
                        have hmn : ((k : Int) - 1).toNat = k - 1 := by omega
                        have HK0 := Lib.hid hk0
                        have HPI := Lib.hid (show (if k = 0 then 0 else (f (k - 1)).1) = (f (k - 1)).1 from if_neg hk0)
                        clear hk0 hd0
                        generalize (f (k - 1)).1 = pk at *
                        by_cases hlt : pk < dk
                        · have HE := Lib.hid (show lE u f k = 0 by rw [HEF.out, if_pos HLB.out, if_pos HDK.out, HPI.out, if_pos hlt])
                          have hle : ¬ dk ≤ pk := by omega
                          clear hlt
                          go_quiet (fail)
                          go_wp2_with fail
                          go_roundw
                          case rel => exact ⟨k + 1, _, _, _, _, _, HK.out, rfl, by simp, rfl, rfl, rfl, rfl, rfl, Lib.hid (HSU.out HE.out), Lib.hid (below_drewN HBR.out _)⟩
                          case measure => have := HK.out; simp [intOf]; omega
                        · have HE := Lib.hid (show (11 : Int) = lErr u f n by
                            have e : lE u f k = 11 := by rw [HEF.out, if_pos HLB.out, if_pos HDK.out, HPI.out, if_neg hlt]
                            rw [HAT.out (by rw [e]; decide), e])
                          have hle : dk ≤ pk := by omega
                          clear hlt
                          go_quiet (fail)
                          go_wp2_with fail
                          go_ret
                          exact ⟨ret_i64 HE.out, below_drewN HB1.out _⟩
                  · have HLB := Lib.hid (show leapB dk (-1) = false by
                      have h1 : ¬ dk = eom dk := by rw [HEM.out]; omega
                      unfold leapB; rw [decide_eq_false h1]; simp [hrr])
                    have hdne : (dd == dmm) = false := by simpa using hdd
                    clear hrr hdd
                    have HE := Lib.hid (show (91 : Int) = lErr u f n by
                      have e : lE u f k = 91 := by rw [HEF.out]; rw [if_neg (by rw [HLB.out]; decide)]
                      rw [HAT.out (by rw [e]; decide), e])
                    go_wp2_with (first | (go_at_call 29; refine HCV.out.mono ?_; rintro e w' ⟨rfl, rfl⟩) | (go_at_call 91; refine HMO.out.mono ?_; rintro e w' ⟨rfl, rfl⟩))
                    go_ret
                    exact ⟨ret_i64 HE.out, HB1.out⟩
              · have n2 : (sk == -1) = false := by simpa using hs2
                have HLB := Lib.hid (show leapB dk sk = false by unfold leapB; simp [hs1, hs2])
                have m1 : (sk != 1) = true := by simpa using hs1
                have m2 : (sk != -1) = true := by simpa using hs2
                have HE := Lib.hid (show (91 : Int) = lErr u f n by
                  have e : lE u f k = 91 := by rw [HEF.out]; rw [if_neg (by rw [HLB.out]; decide)]
                  rw [HAT.out (by rw [e]; decide), e])
                go_wp2_with fail
                go_ret
                exact ⟨ret_i64 HE.out, HB1.out⟩
          · obtain rfl : k = n := by omega
            have hki : ¬ ((k : Int) < k) := by omega
            obtain ⟨x0, x1, x2⟩ := HBX.out.below HBW.out
            have zx := cell_lt x0
            have HE := Lib.hid HL.out.symm
            go_wp2_with fail
            go_ret
            exact ⟨ret_i64 HE.out, bt A0.out HBW.out⟩
      · have h3i : (100 : Int) < n := by omega
        have HV := Lib.hid (show tabE b u n f = 2 by unfold tabE; rw [if_pos HTB.out, if_neg h3])
        clear h3
        rw [HV.out]
        go_enter Tryz.func34, Tryz.ntmps34
        go_wp2_with (go_at_call 90; refine (in_any _ _ _ _).mono ?_; rintro e w' ⟨rfl, rfl⟩; first | rw [H1.out] | rw [H2.out])
        go_ret
        exact ⟨rfl, A0.out⟩
end Go.Proofs.YtgnfaemnehmgcaaGreatDoor.Cal
