/- Layer 9 (calendar): the day of a second (sort.Search). -/
import Derived.Test.YtgnfaemnehmgcaaGreatDoorQ32
namespace Go.Proofs.YtgnfaemnehmgcaaGreatDoor.Cal
open Go Go.RowKit
attribute [local go_sem] Oper.semAt_some
set_option maxHeartbeats 2000000 in
theorem search_any (N T : Nat) (p2 p3 : Option Addr) (W : World) (hN : N ≤ 1000000000) (hT : T ≤ N)
    (hc : ∀ (X : World) (h : Nat), Below W.heap.size W X → h < N → Calls Tryz.prog 151 #[.int .i64 (h : Int), .pointer p2, .pointer p3] X fun e w' => e = .returned (.bool (decide (T ≤ h))) ∧ Below W.heap.size W w') :
    Calls Tryz.prog 150 #[.int .i64 (N : Int), .func (.func 151) #[] #[.pointer p2, .pointer p3]] W fun e w' => e = .returned (.int .i64 (T : Int)) ∧ Below W.heap.size W w' := by
  have HC := Lib.hid hc
  clear hc
  go_enter Tryz.func150, Tryz.ntmps150
  go_wp2_with fail
  go_loopw [5, 6, 7] (fun s5 s6 s7 wr => ∃ (i j : Nat) (v : Value), i ≤ T ∧ T ≤ j ∧ j ≤ N ∧ s5 = .int .i64 (i : Int) ∧ s6 = .int .i64 (j : Int) ∧ s7 = v ∧ Hid (Below W.heap.size W wr)) (fun s5 s6 _ _ => (intOf s6 - intOf s5).toNat)
  case atStart => exact ⟨0, N, _, Nat.zero_le _, hT, Nat.le_refl _, rfl, rfl, rfl, Lib.hid (Below.refl _ _)⟩
  case round =>
    obtain ⟨i, j, v, hi, hj, hjn, rfl, rfl, rfl, HB⟩ := hrel
    by_cases hlt : i < j
    · have hki : (i : Int) < j := by omega
      have k1 : IntKind.i64.wrap ((i : Int) + j) = (i : Int) + j := IntWalk.i64_in _ (by omega)
      obtain ⟨h, hh⟩ : ∃ h : Nat, h = (i + j) / 2 := ⟨_, rfl⟩
      have k2 : ((i : Int) + j) / 2 = (h : Int) := by omega
      have k3 : IntKind.i64.wrap ((h : Int) + 1) = (h : Int) + 1 := IntWalk.i64_in _ (by omega)
      have HIJ := Lib.hid (show i ≤ h ∧ h < j by omega)
      have HCH := Lib.hid (HC.out wr h HB.out (by omega))
      have HLT := Lib.hid (And.intro hi (And.intro hj hjn))
      have hjb : (j : Int) ≤ 1000000000 := by omega
      have hib : (i : Int) ≤ 1000000000 := by omega
      clear hh hlt hi hj hjn
      by_cases hth : T ≤ h
      · have HTH := Lib.hid hth
        rw [show decide (T ≤ h) = true by simpa using hth] at HCH
        clear hth
        go_wp2_with fail
        refine HCH.out.mono ?_
        rintro e w2 ⟨rfl, hb2⟩
        have HB2 := Lib.hid hb2
        clear hb2
        go_wp2_with fail
        go_roundw
        case rel => exact ⟨i, h, _, HLT.out.1, HTH.out, by have := HLT.out; have := HIJ.out; omega, rfl, rfl, rfl, HB2⟩
        case measure => have := HIJ.out; simp [intOf]; omega
      · have HTH := Lib.hid hth
        rw [show decide (T ≤ h) = false by simpa using hth] at HCH
        clear hth
        go_wp2_with fail
        refine HCH.out.mono ?_
        rintro e w2 ⟨rfl, hb2⟩
        have HB2 := Lib.hid hb2
        clear hb2
        go_wp2_with fail
        go_roundw
        case rel => exact ⟨h + 1, j, _, by have := HTH.out; omega, HLT.out.2.1, HLT.out.2.2, by simp, rfl, rfl, HB2⟩
        case measure => have := HIJ.out; simp [intOf]; omega
    · obtain rfl : i = T := by omega
      have hki : ¬ ((i : Int) < j) := by omega
      go_wp2_with fail
      go_ret
      exact ⟨rfl, HB.out⟩
set_option maxHeartbeats 2000000 in
theorem dayOf1_any {b u : Int} {n : Nat} {f : Nat → Int × Int} (ht : TabOk b u n f) {s D : Int} (hD : IsDayOf u n f s D) (h : Nat) (c : Nat) (p : Option Addr) (a2 a3 : Nat) (w : World) (hs : LpIn w f n p) (hc : n ≤ c) (hcm : c ≤ maxLen) (hh : h < 1000000)
    (hx : TBox w a2 b u n c p) (hy : w.cell? ⟨a3, 0, none⟩ = some (.int .i64 s)) :
    Calls Tryz.prog 151 #[.int .i64 (h : Int), .pointer (some ⟨a2, 0, none⟩), .pointer (some ⟨a3, 0, none⟩)] w fun e w' => e = .returned (.bool (decide ((D - 41317).toNat ≤ h))) ∧ Below w.heap.size w w' := by
  obtain ⟨x0, x1, x2⟩ := hx
  have zx := cell_lt x0
  have zy := cell_lt hy
  have v1 : IntKind.i64.wrap (41317 + (h : Int)) = 41317 + h := IntWalk.i64_in _ (by omega)
  have v2 : IntKind.i64.wrap (41317 + (h : Int) + 1) = 41317 + h + 1 := IntWalk.i64_in _ (by omega)
  have HB0 := Lib.hid (Below.refl w.heap.size w)
  have HBG := Lib.hid (fun X (hX : Below w.heap.size w X) => Calls.bel hX (begin_any ht (41317 + h + 1) c p X (hs.below hX) hc hcm (by omega)))
  have HV : Hid (decide (s < beginS f n (41317 + (h : Int) + 1)) = decide ((D - 41317).toNat ≤ h)) := Lib.hid (by
    have := hD.d1
    by_cases e : (D - 41317).toNat ≤ h
    · have := hD.after ht (e := 41317 + (h : Int) + 1) (by omega)
      simp only [this, e, decide_true]
    · have := hD.before ht (e := 41317 + (h : Int) + 1) (by omega)
      rw [decide_eq_false e, decide_eq_false (by omega)])
  have HK := Lib.hid (show ∀ X, Below w.heap.size w X → (fun w' => Below w.heap.size w w' ∧ w'.cell? ⟨a2, 0, none⟩ = some (.int .i64 b) ∧ w'.cell? ⟨a2, 1, none⟩ = some (.slice p n c) ∧ w'.cell? ⟨a2, 2, none⟩ = some (.int .i64 u) ∧ w'.cell? ⟨a3, 0, none⟩ = some (.int .i64 s)) X from fun X h => ⟨h, cell_below h x0, cell_below h x1, cell_below h x2, cell_below h hy⟩)
  clear ht hD hs hh
  generalize beginS f n (41317 + (h : Int) + 1) = bg at *
  go_enter Tryz.func151, Tryz.ntmps151
  go_wp2_with fail
  go_region_held3 (fun w' => Below w.heap.size w w' ∧ w'.cell? ⟨a2, 0, none⟩ = some (.int .i64 b) ∧ w'.cell? ⟨a2, 1, none⟩ = some (.slice p n c) ∧ w'.cell? ⟨a2, 2, none⟩ = some (.int .i64 u) ∧ w'.cell? ⟨a3, 0, none⟩ = some (.int .i64 s))
    (exact HK.out _ (by first | assumption | exact HB0.out | exact Below.drew HB0.out | exact Below.drew (by assumption)))
    (first | (go_at_call 113; refine (HBG.out _ (by first | assumption | exact HB0.out | exact Below.drew HB0.out)).mono ?_; rintro e w2 ⟨rfl, hb2⟩))
  all_goals
    go_wp2
    go_ret
    exact ⟨ret_bool HV.out, by assumption⟩
theorem dayOf_any {b u : Int} {n : Nat} {f : Nat → Int × Int} (ht : TabOk b u n f) {s D : Int} (hD : IsDayOf u n f s D) (c : Nat) (p : Option Addr) (w : World) (hs : LpIn w f n p) (hc : n ≤ c) (hcm : c ≤ maxLen) :
    Calls Tryz.prog 136 #[.agg #[.int .i64 b, .slice p n c, .int .i64 u], .int .i64 s] w fun e w' => e = .returned (.int .i64 D) ∧ Below w.heap.size w w' := by
  have b1 := below_alloc (Below.refl w.heap.size w) (.cells #[.int .i64 b, .slice p n c, .int .i64 u] 24)
  have e1 : (w.alloc (.cells #[.int .i64 b, .slice p n c, .int .i64 u] 24)).heap.size = w.heap.size + 1 := by simp
  have b2 := below_alloc (Below.refl (w.alloc (.cells #[.int .i64 b, .slice p n c, .int .i64 u] 24)).heap.size (w.alloc (.cells #[.int .i64 b, .slice p n c, .int .i64 u] 24))) (.cells #[.int .i64 s] 3)
  have hx := (TBox.new w b u n c p 24).below b2
  have hy : ((w.alloc (.cells #[.int .i64 b, .slice p n c, .int .i64 u] 24)).alloc (.cells #[.int .i64 s] 3)).cell? ⟨w.heap.size + 1, 0, none⟩ = some (.int .i64 s) := by rw [← e1]; simp
  have A0 := bt b1 b2
  have hs2 := hs.below A0
  clear b1 b2 e1 hs
  have hu1 := ht.u1
  have hu2 := ht.u2
  have hd1 := hD.d1
  have hd2 := hD.d2
  have v1 : IntKind.i64.wrap (u - 41317) = u - 41317 := IntWalk.i64_in _ (by omega)
  obtain ⟨N, hN⟩ : ∃ N : Nat, u - 41317 = N := ⟨(u - 41317).toNat, by omega⟩
  have v2 : IntKind.i64.wrap (41317 + ((D - 41317).toNat : Int)) = D := by rw [show 41317 + ((D - 41317).toNat : Int) = D by omega]; exact IntWalk.i64_in _ (by omega)
  have HSR := Lib.hid (search_any N (D - 41317).toNat (some ⟨w.heap.size, 0, none⟩) (some ⟨w.heap.size + 1, 0, none⟩) ((w.alloc (.cells #[.int .i64 b, .slice p n c, .int .i64 u] 24)).alloc (.cells #[.int .i64 s] 3)) (by omega) (by omega)
    (fun X h hX hh => Calls.bel hX (dayOf1_any ht hD h c p w.heap.size (w.heap.size + 1) X (hs2.below hX) hc hcm (by omega) (hx.below hX) (cell_below hX hy))))
  obtain ⟨x0, x1, x2⟩ := hx
  have A0 := Lib.hid A0
  have hNb : (N : Int) ≤ 1000000000 := by omega
  clear hs2 ht hD hu1 hu2 hd1 hd2
  generalize (D - 41317).toNat = T at *
  go_enter Tryz.func136, Tryz.ntmps136
  go_upto_region 1 with fail
  generalize (w.alloc (.cells #[.int .i64 b, .slice p n c, .int .i64 u] 24)).alloc (.cells #[.int .i64 s] 3) = W1 at *
  have zx := cell_lt x0
  have zy := cell_lt hy
  go_wp2_with fail
  refine HSR.out.mono ?_
  rintro e w2 ⟨rfl, hb2⟩
  have HB2 := Lib.hid hb2
  clear hb2
  go_wp2
  go_ret
  exact ⟨rfl, bt A0.out HB2.out⟩
end Go.Proofs.YtgnfaemnehmgcaaGreatDoor.Cal
