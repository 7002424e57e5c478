/-  ·  -/
import Derived.Test.YtgnfaemnehmgcaaGreatDoorQ13
import Derived.Test.YtgnfaemnehmgcaaGreatDoorQ18
import Derived.Test.YtgnfaemnehmgcaaGreatDoorQ17
import Derived.Test.YtgnfaemnehmgcaaGreatDoorQ19
namespace Go.Proofs.YtgnfaemnehmgcaaGreatDoor.Cal
open Go Go.RowKit
attribute [local go_sem] Oper.semAt_some
theorem rdate_cells (w : World) (y m d h mi s : Int) : (w.alloc (.cells #[.int .i64 y, .int .i64 m, .int .i64 d, .int .i64 h, .int .i64 mi, .int .i64 s] 67)).cell? ⟨w.heap.size, 0, none⟩ = some (.int .i64 y) ∧ (w.alloc (.cells #[.int .i64 y, .int .i64 m, .int .i64 d, .int .i64 h, .int .i64 mi, .int .i64 s] 67)).cell? ⟨w.heap.size, 1, none⟩ = some (.int .i64 m) ∧ (w.alloc (.cells #[.int .i64 y, .int .i64 m, .int .i64 d, .int .i64 h, .int .i64 mi, .int .i64 s] 67)).cell? ⟨w.heap.size, 2, none⟩ = some (.int .i64 d) ∧ (w.alloc (.cells #[.int .i64 y, .int .i64 m, .int .i64 d, .int .i64 h, .int .i64 mi, .int .i64 s] 67)).cell? ⟨w.heap.size, 3, none⟩ = some (.int .i64 h) ∧ (w.alloc (.cells #[.int .i64 y, .int .i64 m, .int .i64 d, .int .i64 h, .int .i64 mi, .int .i64 s] 67)).cell? ⟨w.heap.size, 4, none⟩ = some (.int .i64 mi) ∧ (w.alloc (.cells #[.int .i64 y, .int .i64 m, .int .i64 d, .int .i64 h, .int .i64 mi, .int .i64 s] 67)).cell? ⟨w.heap.size, 5, none⟩ = some (.int .i64 s) := by
  refine ⟨?_, ?_, ?_, ?_, ?_, ?_⟩ <;> simp
theorem tod (r : Int) : 3600 * hrS r + 60 * mnS r + scS r = r := by unfold hrS mnS scS; omega
set_option maxHeartbeats 2000000 in
theorem rUnix_ok {b u : Int} {n : Nat} {f : Nat → Int × Int} {s : Int} (hk : knownE b u n f s = 0) {D : Int} (hD : IsDayOf u n f s D) (c : Nat) (p : Option Addr) (w : World) (hs : LpIn w f n p) :
    Calls Tryz.prog 49 #[.agg #[.int .i64 b, .slice p n c, .int .i64 u], .int .i64 s] w fun e w' => e = .returned (.tuple #[.int .i64 (unixS f n D s), .int .i64 0]) ∧ Below w.heap.size w w' := by
  obtain ⟨ht, _⟩ := knownE_zero hk
  have HT := tab_ok ht
  have A0 := below_alloc (Below.refl w.heap.size w) (.cells #[.int .i64 b, .slice p n c, .int .i64 u] 55)
  obtain ⟨x0, x1, x2⟩ := TBox.new w b u n c p 55
  obtain ⟨y, k, d, hci⟩ := civ_exists D (by have := hD.d1; have := hD.d2; have := HT.u2; omega)
  have HDA := Lib.hid (rDates_ok hk hD hci c p _ (hs.below A0))
  have HDY := Lib.hid (fun X => rDay_ok X hci.toIsDate)
  rw [← hci.n_] at HDY
  have hrb := hD.rest_bd HT
  have hd1 := hD.d1; have hd2 := hD.d2; have hu2 := HT.u2
  have hto := tod (s - beginS f n D)
  have HV := Lib.hid (show 86400 * (D - 40587) + 3600 * hrS (s - beginS f n D) + 60 * mnS (s - beginS f n D) + scS (s - beginS f n D) = unixS f n D s by unfold unixS; omega)
  have hb1 : 0 ≤ hrS (s - beginS f n D) ∧ hrS (s - beginS f n D) ≤ 100 ∧ 0 ≤ mnS (s - beginS f n D) ∧ mnS (s - beginS f n D) ≤ 100 ∧ -100 ≤ scS (s - beginS f n D) ∧ scS (s - beginS f n D) ≤ 100 := by
    have := minS_bd (s - beginS f n D) hrb.1
    have := sec_bd (s - beginS f n D) hrb
    unfold hrS mnS scS; omega
  have A0 := Lib.hid A0
  obtain ⟨hh, hhe⟩ : ∃ q, hrS (s - beginS f n D) = q := ⟨_, rfl⟩
  obtain ⟨mi, hmi⟩ : ∃ q, mnS (s - beginS f n D) = q := ⟨_, rfl⟩
  obtain ⟨sc, hsc⟩ : ∃ q, scS (s - beginS f n D) = q := ⟨_, rfl⟩
  rw [hhe, hmi, hsc] at HDA HV hb1
  clear hto hhe hmi hsc
  generalize unixS f n D s = U at *
  have v1 : IntKind.i64.wrap (D - 40587) = D - 40587 := IntWalk.i64_in _ (by omega)
  have v2 : IntKind.i64.wrap (86400 * (D - 40587)) = 86400 * (D - 40587) := IntWalk.i64_in _ (by omega)
  have v3 : IntKind.i64.wrap (3600 * hh) = 3600 * hh := IntWalk.i64_in _ (by omega)
  have v4 : IntKind.i64.wrap (86400 * (D - 40587) + 3600 * hh) = 86400 * (D - 40587) + 3600 * hh := IntWalk.i64_in _ (by omega)
  have v5 : IntKind.i64.wrap (60 * mi) = 60 * mi := IntWalk.i64_in _ (by omega)
  have v6 : IntKind.i64.wrap (86400 * (D - 40587) + 3600 * hh + 60 * mi) = 86400 * (D - 40587) + 3600 * hh + 60 * mi := IntWalk.i64_in _ (by omega)
  have v7 : IntKind.i64.wrap (86400 * (D - 40587) + 3600 * hh + 60 * mi + sc) = U := by rw [IntWalk.i64_in _ (by omega)]; exact HV.out
  clear hs hk ht HT hci hrb hd1 hd2 hu2 hb1 hD
  go_enter Tryz.func49, Tryz.ntmps49
  go_upto_region 1 with fail
  generalize w.alloc (.cells #[.int .i64 b, .slice p n c, .int .i64 u] 55) = W1 at *
  have zx := cell_lt x0
  go_upto_region 2 with (go_at_call 43; refine HDA.out.mono ?_; rintro e w2 ⟨rfl, hb2⟩; have HB2 := Lib.hid hb2; clear hb2)
  clear x0 x1 x2 zx
  obtain ⟨d0, d1, d2, d3, d4, d5⟩ := rdate_cells w2 y (k : Int) d hh mi sc
  have HB3 := Lib.hid (below_alloc (Below.refl w2.heap.size w2) (.cells #[.int .i64 y, .int .i64 (k : Int), .int .i64 d, .int .i64 hh, .int .i64 mi, .int .i64 sc] 67))
  generalize w2.alloc (.cells #[.int .i64 y, .int .i64 (k : Int), .int .i64 d, .int .i64 hh, .int .i64 mi, .int .i64 sc] 67) = W3 at *
  have zd := cell_lt d0
  go_wp2_with (go_at_call 32; refine (HDY.out _).mono ?_; rintro e w' ⟨rfl, rfl⟩)
  go_ret2
  exact ⟨rfl, bt (bt A0.out HB2.out) HB3.out⟩
set_option maxHeartbeats 1000000 in
theorem rUnix_no {b u : Int} {n : Nat} {f : Nat → Int × Int} {s : Int} (hk : knownE b u n f s ≠ 0) (c : Nat) (p : Option Addr) (w : World) (hs : LpIn w f n p) (hn : n ≤ 1000000000000) :
    Calls Tryz.prog 49 #[.agg #[.int .i64 b, .slice p n c, .int .i64 u], .int .i64 s] w fun e w' => e = .returned (.tuple #[.int .i64 0, .int .i64 (knownE b u n f s)]) ∧ Below w.heap.size w w' := by
  have A0 := below_alloc (Below.refl w.heap.size w) (.cells #[.int .i64 b, .slice p n c, .int .i64 u] 55)
  obtain ⟨x0, x1, x2⟩ := TBox.new w b u n c p 55
  have HDA := Lib.hid (rDates_no hk c p _ (hs.below A0) hn)
  have A0 := Lib.hid A0
  obtain ⟨er, her⟩ : ∃ er, knownE b u n f s = er := ⟨_, rfl⟩
  rw [her] at hk HDA ⊢
  have hne : (er == 0) = false := by simpa using hk
  clear hs her
  go_enter Tryz.func49, Tryz.ntmps49
  go_upto_region 1 with fail
  generalize w.alloc (.cells #[.int .i64 b, .slice p n c, .int .i64 u] 55) = W1 at *
  have zx := cell_lt x0
  go_upto_region 2 with (go_at_call 43; refine HDA.out.mono ?_; rintro e w2 ⟨rfl, hb2⟩; have HB2 := Lib.hid hb2; clear hb2)
  clear x0 x1 x2 zx
  have HB3 := Lib.hid (below_alloc (Below.refl w2.heap.size w2) (.cells #[.int .i64 0, .int .i64 0, .int .i64 0, .int .i64 0, .int .i64 0, .int .i64 0] 67))
  go_wp2_with fail
  go_ret2
  exact ⟨rfl, bt (bt A0.out HB2.out) HB3.out⟩
end Go.Proofs.YtgnfaemnehmgcaaGreatDoor.Cal
namespace Go.Proofs.YtgnfaemnehmgcaaGreatDoor.Cal
open Go Go.RowKit
attribute [local go_sem] Oper.semAt_some
theorem incr_eq : ∀ (l m : List Int), l.Pairwise (· < ·) → m.Pairwise (· < ·) → (∀ x, x ∈ l ↔ x ∈ m) → l = m
  | [], [], _, _, _ => rfl
  | [], b :: m, _, _, h => by have := (h b).2 (by simp); simp at this
  | a :: l, [], _, _, h => by have := (h a).1 (by simp); simp at this
  | a :: l, b :: m, h1, h2, h => by
    rw [List.pairwise_cons] at h1 h2
    have e : a = b := by
      have ha : a ∈ b :: m := (h a).1 (by simp)
      have hb : b ∈ a :: l := (h b).2 (by simp)
      rcases List.mem_cons.1 ha with e | ha
      · exact e
      · rcases List.mem_cons.1 hb with e | hb
        · exact e.symm
        · have := h2.1 a ha; have := h1.1 b hb; omega
    subst e
    rw [incr_eq l m h1.2 h2.2 (fun x => ?_)]
    constructor
    · intro hx
      have hlt := h1.1 x hx
      rcases List.mem_cons.1 ((h x).1 (List.mem_cons_of_mem _ hx)) with e | hm
      · omega
      · exact hm
    · intro hx
      have hlt := h2.1 x hx
      rcases List.mem_cons.1 ((h x).2 (List.mem_cons_of_mem _ hx)) with e | hm
      · omega
      · exact hm
def rL (L : List Int) (lo : Int) : Nat → List Int
  | 0 => []
  | k + 1 => if lo + k ∈ L then rL L lo k ++ [lo + k] else rL L lo k
theorem rL_mem (L : List Int) (lo x : Int) : ∀ k, x ∈ rL L lo k ↔ x ∈ L ∧ lo ≤ x ∧ x < lo + k
  | 0 => by simp only [rL, List.not_mem_nil, false_iff]; omega
  | k + 1 => by
    rw [rL]
    by_cases h : lo + (k : Int) ∈ L
    · rw [if_pos h, List.mem_append, rL_mem L lo x k, List.mem_singleton]
      constructor
      · rintro (⟨a, b, c⟩ | rfl)
        · exact ⟨a, b, by omega⟩
        · exact ⟨h, by omega, by omega⟩
      · rintro ⟨a, b, c⟩
        by_cases e : x = lo + k
        · exact .inr e
        · exact .inl ⟨a, b, by omega⟩
    · rw [if_neg h, rL_mem L lo x k]
      constructor
      · rintro ⟨a, b, c⟩; exact ⟨a, b, by omega⟩
      · rintro ⟨a, b, c⟩
        have : x ≠ lo + k := fun e => h (e ▸ a)
        exact ⟨a, b, by omega⟩
theorem rL_incr (L : List Int) (lo : Int) : ∀ k, (rL L lo k).Pairwise (· < ·)
  | 0 => List.Pairwise.nil
  | k + 1 => by
    rw [rL]
    by_cases h : lo + (k : Int) ∈ L
    · rw [if_pos h, List.pairwise_append]
      refine ⟨rL_incr L lo k, List.pairwise_singleton _ _, fun a ha b hb => ?_⟩
      rw [List.mem_singleton] at hb
      have := ((rL_mem L lo a k).1 ha).2.2
      omega
    · rw [if_neg h]; exact rL_incr L lo k
theorem rL_len (L : List Int) (lo : Int) : ∀ k, (rL L lo k).length ≤ k
  | 0 => Nat.le_refl _
  | k + 1 => by
    have := rL_len L lo k
    rw [rL]
    split
    · rw [List.length_append, List.length_singleton]; omega
    · omega
theorem found_incr {b u : Int} {n : Nat} {f : Nat → Int × Int} (ht : TabOk b u n f) (m s : Int) (hs : 0 ≤ s ∧ s ≤ 59) : (foundL u f n m s 2).Pairwise (· < ·) := by
  have c0 : candM m 0 = m - 1 := rfl
  have c1 : candS s 0 = s + 60 := rfl
  have c2 : candM m 1 = m := rfl
  have c3 : candS s 1 = s := rfl
  simp only [foundL, c0, c1, c2, c3]
  cases h1 : hasB u f n (m - 1) (s + 60) <;> cases h2 : hasB u f n m s <;> simp
  obtain ⟨d1, _⟩ := has_day ht h1
  obtain ⟨d2, _⟩ := has_day ht h2
  have hst := stepAt_bd (f := f) ((m - 1) / 1440) n ht.s
  have hsc := ht.begin_succ ((m - 1) / 1440)
  unfold hasB lenS dayK at h1
  simp only [Bool.and_eq_true, decide_eq_true_eq] at h1
  obtain ⟨_, _, h3⟩ := h1
  have e1 : (m - 1) % 1440 = 1439 := by
    apply Decidable.byContradiction
    intro hc
    rw [if_neg hc] at h3
    omega
  rw [if_pos e1] at h3
  have e2 : m / 1440 = (m - 1) / 1440 + 1 := by omega
  unfold numS
  rw [e1, e2, hsc]
  omega
theorem found_near {b u : Int} {n : Nat} {f : Nat → Int × Int} (ht : TabOk b u n f) {U x : Int} (h : x ∈ (foundL u f n (58445280 + U / 60) (U % 60) 2)) : U - 63072000 - 102 ≤ x ∧ x < U - 63072000 - 102 + 205 ∧ 0 ≤ U ∧ U ≤ 10000000000 := by
  obtain ⟨D, hD, hU⟩ := (found_iff ht U x).1 ((has_at _ _).2 h)
  have hg := ht.grow_bd D
  have hub := ht.unix_bd hD
  rw [hU] at hub
  unfold unixS beginS at hU
  omega
theorem rL_found {b u : Int} {n : Nat} {f : Nat → Int × Int} (ht : TabOk b u n f) (U : Int) : rL (foundL u f n (58445280 + U / 60) (U % 60) 2) (U - 63072000 - 102) 205 = (foundL u f n (58445280 + U / 60) (U % 60) 2) :=
  incr_eq _ _ (rL_incr _ _ _) (found_incr ht _ _ (by omega)) (fun x => by
    rw [rL_mem]
    exact ⟨fun h => h.1, fun h => ⟨h, (found_near ht h).1, by have := (found_near ht h).2.1; omega⟩⟩)
theorem runix_ex {b u : Int} {n : Nat} {f : Nat → Int × Int} (ht : TabOk b u n f) (U x : Int) : ∃ v e : Int, ((e = 0 ∧ v = U) ↔ x ∈ (foundL u f n (58445280 + U / 60) (U % 60) 2)) ∧
    ∀ X c p, LpIn X f n p → Calls Tryz.prog 49 #[.agg #[.int .i64 b, .slice p n c, .int .i64 u], .int .i64 x] X fun e' w' => e' = .returned (.tuple #[.int .i64 v, .int .i64 e]) ∧ Below X.heap.size X w' := by
  by_cases hk : knownE b u n f x = 0
  · obtain ⟨D, hD⟩ := known_day hk
    refine ⟨unixS f n D x, 0, ?_, fun X c p hl => rUnix_ok hk hD c p X hl⟩
    rw [← has_at, found_iff ht]
    constructor
    · rintro ⟨_, h⟩; exact ⟨D, hD, h⟩
    · rintro ⟨E, hE, h⟩
      rw [hD.uniq ht hE]
      exact ⟨rfl, h⟩
  · refine ⟨0, knownE b u n f x, ?_, fun X c p hl => rUnix_no hk c p X hl (by have := ht.n1; omega)⟩
    rw [← has_at, found_iff ht]
    constructor
    · rintro ⟨h, _⟩; exact absurd h hk
    · rintro ⟨E, hE, _⟩; exact absurd (hE.known ht) hk
set_option maxRecDepth 100000 in
set_option maxHeartbeats 4000000 in
theorem rFromUnix_in {b u : Int} {n : Nat} {f : Nat → Int × Int} (ht : tabE b u n f = 0) (U : Int) (hU : 0 ≤ U ∧ U ≤ 10000000000) (c : Nat) (p : Option Addr) (w : World) (hs : LpIn w f n p) :
    Calls Tryz.prog 50 #[.agg #[.int .i64 b, .slice p n c, .int .i64 u], .int .i64 U] w fun e w' => ∃ q cq, e = .returned (.tuple #[.slice q (foundL u f n (58445280 + U / 60) (U % 60) 2).length cq, .int .i64 (if (foundL u f n (58445280 + U / 60) (U % 60) 2).length = 0 then 4 else 0)]) ∧ FnIn w' (atL (foundL u f n (58445280 + U / 60) (U % 60) 2)) (foundL u f n (58445280 + U / 60) (U % 60) 2).length q ∧ Below w.heap.size w w' := by
  obtain ⟨i0, hi0, hz0, hz1, hz2⟩ := info_parts infoInt
  have A0 := below_alloc (Below.refl w.heap.size w) (.cells #[.int .i64 b, .slice p n c, .int .i64 u] 55)
  have HX := Lib.hid (TBox.new w b u n c p 55)
  have HTO := Lib.hid (tab_ok ht)
  have HCK := Lib.hid (rCheck_any b u n c p f _ (hs.below A0) (by have := HTO.out.n1; omega))
  rw [ht] at HCK
  have HUX := Lib.hid (fun k => runix_ex HTO.out U k)
  have HRL := Lib.hid (rL_found HTO.out U)
  have HS := Lib.hid (hs.below A0)
  have A0 := Lib.hid A0
  have HIN := Lib.hid (fun X => in_any U 0 10000000000 X)
  rw [show (decide (0 ≤ U) && decide (U ≤ 10000000000)) = true by simp; omega] at HIN
  have v1 : IntKind.i64.wrap (U - 63072000) = U - 63072000 := IntWalk.i64_in _ (by omega)
  have v2 : IntKind.i64.wrap (U - 63072000 - 102) = U - 63072000 - 102 := IntWalk.i64_in _ (by omega)
  have v3 : IntKind.i64.wrap (U - 63072000 + 102) = U - 63072000 + 102 := IntWalk.i64_in _ (by omega)
  generalize (foundL u f n (58445280 + U / 60) (U % 60) 2) = FL at *
  clear hs ht
  go_enter Tryz.func50, Tryz.ntmps50
  go_upto_region 1 with fail
  generalize w.alloc (.cells #[.int .i64 b, .slice p n c, .int .i64 u] 55) = W1 at *
  obtain ⟨x0, x1, x2⟩ := HX.out
  have zx := cell_lt x0
  go_upto_region 2 with (go_at_call 34; refine HCK.out.mono ?_; rintro e w2 ⟨rfl, hb2⟩; have HB2 := Lib.hid hb2; clear hb2)
  clear x0 x1 x2 zx
  go_upto_region 9 with (go_at_call 90; refine (HIN.out _).mono ?_; rintro e w' ⟨rfl, rfl⟩)
  go_loopw [7, 9, 10, 11] (fun s7 s9 s10 s11 wr => ∃ (k : Nat) (v7 v10 v11 : Value), k ≤ 205 ∧ s7 = v7 ∧ s9 = .int .i64 (U - 63072000 - 102 + (k : Int)) ∧ s10 = v10 ∧ s11 = v11 ∧ Hid (OL w2 wr v7 (rL FL (U - 63072000 - 102) k))) (fun _ s _ _ _ => (U - 63072000 + 103 - intOf s).toNat)
  case atStart => exact ⟨0, _, _, _, by omega, rfl, by simp, rfl, rfl, Lib.hid (OL.nil (Below.refl _ _))⟩
  case round =>
    obtain ⟨k, v7, v10, v11, hk, rfl, rfl, rfl, rfl, HO⟩ := hrel
    have HLN := Lib.hid (rL_len FL (U - 63072000 - 102) k)
    by_cases hlt : k < 205
    · have HST : Hid (rL FL (U - 63072000 - 102) (k + 1) = if U - 63072000 - 102 + (k : Int) ∈ FL then rL FL (U - 63072000 - 102) k ++ [U - 63072000 - 102 + (k : Int)] else rL FL (U - 63072000 - 102) k) := Lib.hid rfl
      obtain ⟨kk, hkk⟩ : ∃ kk, U - 63072000 - 102 + (k : Int) = kk := ⟨_, rfl⟩
      have HKN := Lib.hid (show kk + 1 = U - 63072000 - 102 + ((k + 1 : Nat) : Int) by omega)
      rw [hkk] at HST ⊢
      have hle : kk ≤ U - 63072000 + 102 := by omega
      have vk : IntKind.i64.wrap (kk + 1) = kk + 1 := IntWalk.i64_in _ (by omega)
      have HK := Lib.hid hlt
      obtain ⟨v, e', hiff, hcall⟩ := HUX.out kk
      have HUK := Lib.hid (fun X (hL : LpIn X f n p) => hcall X c p hL)
      obtain ⟨x0, x1, x2⟩ := (HX.out.below HB2.out).below HO.out.bel
      have zx := cell_lt x0
      have HSR := Lib.hid ((HS.out.below HB2.out).below HO.out.bel)
      clear hkk hlt hk hcall
      generalize rL FL (U - 63072000 - 102) k = rl at *
      by_cases h0 : e' = 0
      · subst h0
        by_cases hv : v = U
        · subst hv
          rw [if_pos (hiff.1 ⟨rfl, rfl⟩)] at HST
          clear hiff
          go_wp2_with (first | (go_at_call 49; refine (HUK.out _ HSR.out).mono ?_; rintro e w4 ⟨rfl, hb4⟩; have HO4 := Lib.hid (HO.out.below hb4); clear hb4) |
            (at_builtin; refine wpList_append_own_at _ rfl _ _ _ rfl w2.heap.size 3 i0 (.int .i64 0) 1 8 Tryz.underlying30 hi0 hz0 hz1 hz2 rfl (by decide) _ rl.length _ rfl (HO4.out.own.alloc _) ⟨w4.heap.size, 0, none⟩ 1 1 [.int .i64 kk] rfl rfl (cell_one_new _ _ _) (by simp [Value.oneCell']) (by have := HLN.out; have := HK.out; unfold maxLen; omega) (by have := HLN.out; have := HK.out; omega) (by have := HO4.out.bel.size; simp; omega) ?_; intro v9' w9 hown hg _ _; have HO9 := Lib.hid (HO4.out.more hown hg); clear hown hg))
          go_roundw
          case rel => exact ⟨k + 1, _, _, _, HK.out, rfl, by rw [HKN.out], rfl, rfl, Lib.hid (by rw [HST.out]; exact HO9.out)⟩
          case measure => have := HK.out; simp [intOf]; omega
        · rw [if_neg (fun h => hv (hiff.2 h).2)] at HST
          have hvb : (v == U) = false := by simpa using hv
          clear hiff
          go_wp2_with (go_at_call 49; refine (HUK.out _ HSR.out).mono ?_; rintro e w4 ⟨rfl, hb4⟩; have HO4 := Lib.hid (HO.out.below hb4); clear hb4)
          go_roundw
          case rel => exact ⟨k + 1, _, _, _, HK.out, rfl, by rw [HKN.out], rfl, rfl, Lib.hid (by rw [HST.out]; exact HO4.out)⟩
          case measure => have := HK.out; simp [intOf]; omega
      · rw [if_neg (fun h => h0 (hiff.2 h).1)] at HST
        have h0b : (e' == 0) = false := by simpa using h0
        clear hiff
        go_wp2_with (go_at_call 49; refine (HUK.out _ HSR.out).mono ?_; rintro e w4 ⟨rfl, hb4⟩; have HO4 := Lib.hid (HO.out.below hb4); clear hb4)
        go_roundw
        case rel => exact ⟨k + 1, _, _, _, HK.out, rfl, by rw [HKN.out], rfl, rfl, Lib.hid (by rw [HST.out]; exact HO4.out)⟩
        case measure => have := HK.out; simp [intOf]; omega
    · obtain rfl : k = 205 := by omega
      rw [HRL.out] at HO HLN
      obtain ⟨q, cq, rfl, hlc, hfn⟩ := HO.out.fn
      have HFN := Lib.hid hfn
      have HB := Lib.hid (bt (bt A0.out HB2.out) HO.out.bel)
      obtain ⟨kk, hkk⟩ : ∃ kk, U - 63072000 - 102 + ((205 : Nat) : Int) = kk := ⟨_, rfl⟩
      rw [hkk]
      have hle : ¬ kk ≤ U - 63072000 + 102 := by omega
      clear hfn hlt hkk HUX HO
      by_cases hz : FL.length = 0
      · rw [hz] at HFN ⊢
        go_wp2_with fail
        go_ret2
        exact ⟨none, ⟨0, by simp⟩, .inl rfl, HB.out⟩
      · have hzb : ((FL.length : Int) == 0) = false := by rw [beq_eq_false_iff_ne]; omega
        have hzi : ¬ (FL.length : Int) = 0 := by omega
        go_wp2_with fail
        go_ret2
        exact ⟨q, ⟨cq, by simp⟩, HFN.out, HB.out⟩
end Go.Proofs.YtgnfaemnehmgcaaGreatDoor.Cal
