/-  ·  -/
import Derived.Test.YtgnfaemnehmgcaaGreatDoorQ11
namespace Go.Proofs.YtgnfaemnehmgcaaGreatDoor.Cal
open Go Go.RowKit
attribute [local go_sem] Oper.semAt_some
theorem knownE_zero {b u : Int} {n : Nat} {f : Nat → Int × Int} {s : Int} (h : knownE b u n f s = 0) : tabE b u n f = 0 ∧ inB s (beginS f n u) = true := by
  unfold knownE at h
  by_cases ht : tabE b u n f = 0
  · rw [if_pos ht] at h
    by_cases hi : inB s (beginS f n u) = true
    · exact ⟨ht, hi⟩
    · rw [if_neg hi] at h; cases h
  · rw [if_neg ht] at h; exact absurd h ht
theorem known_mk {b u : Int} {n : Nat} {f : Nat → Int × Int} {s : Int} (ht : tabE b u n f = 0) (hi : inB s (beginS f n u) = true) : knownE b u n f s = 0 := by unfold knownE; rw [if_pos ht, if_pos hi]
theorem inB_bd {n m : Int} (h : inB n m = true) : 0 ≤ n ∧ n < m := by unfold inB at h; simp at h; omega

theorem Atomic_ok {b u : Int} {n : Nat} {f : Nat → Int × Int} {s : Int} (hk : knownE b u n f s = 0)  (c : Nat) (p : Option Addr) (w : World) (hw : Mon w) (hs : LpIn w f n p) (hc : n ≤ c) (hcm : c ≤ maxLen) :
    Calls Tryz.prog 44 #[.agg #[.int .i64 b, .slice p n c, .int .i64 u], .int .i64 s] w fun e w' => e = .returned (.tuple #[.int .i64 (s + b), .int .i64 0]) ∧ Below w.heap.size w w' := by
  obtain ⟨ht, hi⟩ := knownE_zero hk
  have HT := tab_ok ht
  have hib := inB_bd hi
  have htb := HT.total_bd
  have A0 := below_alloc (Below.refl w.heap.size w) (.cells #[.int .i64 b, .slice p n c, .int .i64 u] 24)
  obtain ⟨x0, x1, x2⟩ := TBox.new w b u n c p 24
  have H := Lib.hid (ofInt_at b u s n c p f (s + b) _ (hw.below A0) (hs.below A0) hc hcm ht hi (fun mb X _ _ _ => atomic_any s c p mb X ⟨HT.b1, HT.b2⟩ (by omega)))
  have A0 := Lib.hid A0
  obtain ⟨vv, hvv⟩ : ∃ vv, s + b = vv := ⟨_, rfl⟩
  rw [hvv] at H ⊢
  clear hw hs hk ht hi hib htb HT hvv
  go_enter Tryz.func44, Tryz.ntmps44
  go_upto_region 1 with fail
  generalize w.alloc (.cells #[.int .i64 b, .slice p n c, .int .i64 u] 24) = W1 at *
  have zx := cell_lt x0
  go_wp2_with (go_at_call 105; refine H.out.mono ?_; rintro e w2 ⟨rfl, hb2⟩; have HB2 := Lib.hid hb2; clear hb2)
  go_ret2
  exact ⟨rfl, bt A0.out HB2.out⟩
theorem Atomic_no {b u : Int} {n : Nat} {f : Nat → Int × Int} {s : Int} (hk : knownE b u n f s ≠ 0) (c : Nat) (p : Option Addr) (w : World) (hw : Mon w) (hs : LpIn w f n p) (hn : n ≤ 1000000000000) (hc : n ≤ c) (hcm : c ≤ maxLen) :
    Calls Tryz.prog 44 #[.agg #[.int .i64 b, .slice p n c, .int .i64 u], .int .i64 s] w fun e w' => e = .returned (.tuple #[.int .i64 0, .int .i64 (knownE b u n f s)]) ∧ Below w.heap.size w w' := by
  have A0 := below_alloc (Below.refl w.heap.size w) (.cells #[.int .i64 b, .slice p n c, .int .i64 u] 24)
  obtain ⟨x0, x1, x2⟩ := TBox.new w b u n c p 24
  have H : Calls Tryz.prog 105 #[.agg #[.int .i64 b, .slice p n c, .int .i64 u], .int .i64 s, .func (.func 106) #[] #[]] (w.alloc (.cells #[.int .i64 b, .slice p n c, .int .i64 u] 24)) fun e w' => e = .returned (.tuple #[.int .i64 0, .int .i64 (knownE b u n f s)]) ∧ Below (w.alloc (.cells #[.int .i64 b, .slice p n c, .int .i64 u] 24)).heap.size (w.alloc (.cells #[.int .i64 b, .slice p n c, .int .i64 u] 24)) w' := by
    unfold knownE at hk ⊢
    by_cases ht : tabE b u n f = 0
    · rw [if_pos ht] at hk ⊢
      by_cases hi : inB s (beginS f n u) = true
      · rw [if_pos hi] at hk; exact absurd rfl hk
      · rw [if_neg hi]
        exact ofInt_rng _ b u s n c p f _ (hw.below A0) (hs.below A0) hc hcm ht (by simpa using hi)
    · rw [if_neg ht]
      exact ofInt_tab _ b u s n c p f _ (hw.below A0) (hs.below A0) hn ht
  have H := Lib.hid H
  have A0 := Lib.hid A0
  obtain ⟨vv, hvv⟩ : ∃ vv, knownE b u n f s = vv := ⟨_, rfl⟩
  rw [hvv] at H ⊢
  clear hw hs hk hvv
  go_enter Tryz.func44, Tryz.ntmps44
  go_upto_region 1 with fail
  generalize w.alloc (.cells #[.int .i64 b, .slice p n c, .int .i64 u] 24) = W1 at *
  have zx := cell_lt x0
  go_wp2_with (go_at_call 105; refine H.out.mono ?_; rintro e w2 ⟨rfl, hb2⟩; have HB2 := Lib.hid hb2; clear hb2)
  go_ret2
  exact ⟨rfl, bt A0.out HB2.out⟩
theorem Announced_ok {b u : Int} {n : Nat} {f : Nat → Int × Int} {s : Int} (hk : knownE b u n f s = 0) {D : Int} (hD : IsDayOf u n f s D) (c : Nat) (p : Option Addr) (w : World) (hw : Mon w) (hs : LpIn w f n p) (hc : n ≤ c) (hcm : c ≤ maxLen) :
    Calls Tryz.prog 46 #[.agg #[.int .i64 b, .slice p n c, .int .i64 u], .int .i64 s] w fun e w' => e = .returned (.tuple #[.int .i64 (stepAt f n (eom D)), .int .i64 0]) ∧ Below w.heap.size w w' := by
  obtain ⟨ht, hi⟩ := knownE_zero hk
  have HT := tab_ok ht
  have hib := inB_bd hi
  have htb := HT.total_bd
  have A0 := below_alloc (Below.refl w.heap.size w) (.cells #[.int .i64 b, .slice p n c, .int .i64 u] 24)
  obtain ⟨x0, x1, x2⟩ := TBox.new w b u n c p 24
  have H := Lib.hid (ofInt_an b u s n c p f (stepAt f n (eom D)) _ (hw.below A0) (hs.below A0) hc hcm ht hi (fun mb X hX hl hm => announced_any HT hD c p mb X hX hl hm hc hcm))
  have A0 := Lib.hid A0
  obtain ⟨vv, hvv⟩ : ∃ vv, stepAt f n (eom D) = vv := ⟨_, rfl⟩
  rw [hvv] at H ⊢
  clear hw hs hk ht hi hib htb HT hvv
  go_enter Tryz.func46, Tryz.ntmps46
  go_upto_region 1 with fail
  generalize w.alloc (.cells #[.int .i64 b, .slice p n c, .int .i64 u] 24) = W1 at *
  have zx := cell_lt x0
  go_wp2_with (go_at_call 105; refine H.out.mono ?_; rintro e w2 ⟨rfl, hb2⟩; have HB2 := Lib.hid hb2; clear hb2)
  go_ret2
  exact ⟨rfl, bt A0.out HB2.out⟩
theorem Announced_no {b u : Int} {n : Nat} {f : Nat → Int × Int} {s : Int} (hk : knownE b u n f s ≠ 0) (c : Nat) (p : Option Addr) (w : World) (hw : Mon w) (hs : LpIn w f n p) (hn : n ≤ 1000000000000) (hc : n ≤ c) (hcm : c ≤ maxLen) :
    Calls Tryz.prog 46 #[.agg #[.int .i64 b, .slice p n c, .int .i64 u], .int .i64 s] w fun e w' => e = .returned (.tuple #[.int .i64 0, .int .i64 (knownE b u n f s)]) ∧ Below w.heap.size w w' := by
  have A0 := below_alloc (Below.refl w.heap.size w) (.cells #[.int .i64 b, .slice p n c, .int .i64 u] 24)
  obtain ⟨x0, x1, x2⟩ := TBox.new w b u n c p 24
  have H : Calls Tryz.prog 105 #[.agg #[.int .i64 b, .slice p n c, .int .i64 u], .int .i64 s, .func (.func 107) #[] #[]] (w.alloc (.cells #[.int .i64 b, .slice p n c, .int .i64 u] 24)) fun e w' => e = .returned (.tuple #[.int .i64 0, .int .i64 (knownE b u n f s)]) ∧ Below (w.alloc (.cells #[.int .i64 b, .slice p n c, .int .i64 u] 24)).heap.size (w.alloc (.cells #[.int .i64 b, .slice p n c, .int .i64 u] 24)) w' := by
    unfold knownE at hk ⊢
    by_cases ht : tabE b u n f = 0
    · rw [if_pos ht] at hk ⊢
      by_cases hi : inB s (beginS f n u) = true
      · rw [if_pos hi] at hk; exact absurd rfl hk
      · rw [if_neg hi]
        exact ofInt_rng _ b u s n c p f _ (hw.below A0) (hs.below A0) hc hcm ht (by simpa using hi)
    · rw [if_neg ht]
      exact ofInt_tab _ b u s n c p f _ (hw.below A0) (hs.below A0) hn ht
  have H := Lib.hid H
  have A0 := Lib.hid A0
  obtain ⟨vv, hvv⟩ : ∃ vv, knownE b u n f s = vv := ⟨_, rfl⟩
  rw [hvv] at H ⊢
  clear hw hs hk hvv
  go_enter Tryz.func46, Tryz.ntmps46
  go_upto_region 1 with fail
  generalize w.alloc (.cells #[.int .i64 b, .slice p n c, .int .i64 u] 24) = W1 at *
  have zx := cell_lt x0
  go_wp2_with (go_at_call 105; refine H.out.mono ?_; rintro e w2 ⟨rfl, hb2⟩; have HB2 := Lib.hid hb2; clear hb2)
  go_ret2
  exact ⟨rfl, bt A0.out HB2.out⟩
theorem dts_start (w : World) (b u : Int) (n c : Nat) (p : Option Addr) : TBox ((w.alloc (.cells #[.int .i64 b, .slice p n c, .int .i64 u] 24)).alloc (.cells #[.int .i64 0, .int .i64 0, .int .i64 0, .int .i64 0, .int .i64 0, .int .i64 0] 26)) w.heap.size b u n c p ∧ Res6 ((w.alloc (.cells #[.int .i64 b, .slice p n c, .int .i64 u] 24)).alloc (.cells #[.int .i64 0, .int .i64 0, .int .i64 0, .int .i64 0, .int .i64 0, .int .i64 0] 26)) (w.heap.size + 1) ∧ Below w.heap.size w ((w.alloc (.cells #[.int .i64 b, .slice p n c, .int .i64 u] 24)).alloc (.cells #[.int .i64 0, .int .i64 0, .int .i64 0, .int .i64 0, .int .i64 0, .int .i64 0] 26)) := by
  have b1 := below_alloc (Below.refl w.heap.size w) (.cells #[.int .i64 b, .slice p n c, .int .i64 u] 24)
  have h1 := TBox.new w b u n c p 24
  have e1 : (w.alloc (.cells #[.int .i64 b, .slice p n c, .int .i64 u] 24)).heap.size = w.heap.size + 1 := by simp
  generalize w.alloc (.cells #[.int .i64 b, .slice p n c, .int .i64 u] 24) = W1 at *
  have b2 := below_alloc (Below.refl W1.heap.size W1) (.cells #[.int .i64 0, .int .i64 0, .int .i64 0, .int .i64 0, .int .i64 0, .int .i64 0] 26)
  have h2 := Res6.new W1 (.int .i64 0) (.int .i64 0) (.int .i64 0) (.int .i64 0) (.int .i64 0) (.int .i64 0) 26
  rw [e1] at h2
  exact ⟨h1.below b2, h2, bt b1 b2⟩

set_option maxHeartbeats 2000000 in
theorem Dates_ok {b u : Int} {n : Nat} {f : Nat → Int × Int} {s : Int} (hk : knownE b u n f s = 0) {D : Int} (hD : IsDayOf u n f s D) {y : Int} {k : Nat} {d : Int} (hci : IsCiv D y k d) (c : Nat) (p : Option Addr) (w : World) (hw : Mon w) (hs : LpIn w f n p) (hc : n ≤ c) (hcm : c ≤ maxLen) :
    Calls Tryz.prog 42 #[.agg #[.int .i64 b, .slice p n c, .int .i64 u], .int .i64 s] w fun e w' => e = .returned (.tuple #[.agg #[.int .i64 y, .int .i64 (k : Int), .int .i64 d, .int .i64 (hrS (s - beginS f n D)), .int .i64 (mnS (s - beginS f n D)), .int .i64 (scS (s - beginS f n D))], .int .i64 0]) ∧ Below w.heap.size w w' := by
  obtain ⟨ht, hi⟩ := knownE_zero hk
  have HT := tab_ok ht
  obtain ⟨hx, hr, A0⟩ := dts_start w b u n c p
  obtain ⟨x0, x1, x2⟩ := hx
  have HR := Lib.hid hr
  have H := Lib.hid (ofDate_dt b u s n c p f y (k : Int) d (hrS (s - beginS f n D)) (mnS (s - beginS f n D)) (scS (s - beginS f n D)) _ (hw.below A0) (hs.below A0) hc hcm ht hi (fun mb X hX hl hm => wdate_any HT hD hci c p mb X hX hl hc hcm))
  have A0 := Lib.hid A0
  clear hw hs hk ht hi HT hr
  obtain ⟨hh, hhe⟩ : ∃ hh, hrS (s - beginS f n D) = hh := ⟨_, rfl⟩
  obtain ⟨mi, hmi⟩ : ∃ mi, mnS (s - beginS f n D) = mi := ⟨_, rfl⟩
  obtain ⟨sc, hsc⟩ : ∃ sc, scS (s - beginS f n D) = sc := ⟨_, rfl⟩
  rw [hhe, hmi, hsc] at H ⊢
  clear hhe hmi hsc
  go_enter Tryz.func42, Tryz.ntmps42
  go_upto_region 1 with fail
  generalize (w.alloc (.cells #[.int .i64 b, .slice p n c, .int .i64 u] 24)).alloc (.cells #[.int .i64 0, .int .i64 0, .int .i64 0, .int .i64 0, .int .i64 0, .int .i64 0] 26) = W1 at *
  have zx := cell_lt x0
  go_wp2_with fail
  refine H.out.mono ?_
  rintro e w2 ⟨rfl, hb2⟩
  have HB2 := Lib.hid hb2
  clear hb2 x0 x1 x2 zx
  obtain ⟨⟨q0, r0⟩, ⟨q1, r1⟩, ⟨q2, r2⟩, ⟨q3, r3⟩, ⟨q4, r4⟩, ⟨q5, r5⟩, rz⟩ := HR.out.below HB2.out
  have z0 := rz 0
  have z1 := rz 1
  have z2 := rz 2
  have z3 := rz 3
  have z4 := rz 4
  have z5 := rz 5
  have zr := cell_lt r0
  clear rz
  go_wp2
  refine bodyPost_ret (v := .tuple #[.agg #[.int .i64 y, .int .i64 (k : Int), .int .i64 d, .int .i64 hh, .int .i64 mi, .int .i64 sc], .int .i64 0]) (by simp [results, Tryz.results42, go_sem, r0, r1, r2, r3, r4, r5]) rfl ⟨rfl, ?_⟩
  exact (((((((bt A0.out HB2.out).setCell (p := ⟨w.heap.size + 1, _, none⟩) (Nat.le_succ _) _).setCell (p := ⟨w.heap.size + 1, _, none⟩) (Nat.le_succ _) _).setCell (p := ⟨w.heap.size + 1, _, none⟩) (Nat.le_succ _) _).setCell (p := ⟨w.heap.size + 1, _, none⟩) (Nat.le_succ _) _).setCell (p := ⟨w.heap.size + 1, _, none⟩) (Nat.le_succ _) _).setCell (p := ⟨w.heap.size + 1, _, none⟩) (Nat.le_succ _) _)
set_option maxHeartbeats 2000000 in
theorem Dates_no {b u : Int} {n : Nat} {f : Nat → Int × Int} {s : Int} (hk : knownE b u n f s ≠ 0) (c : Nat) (p : Option Addr) (w : World) (hw : Mon w) (hs : LpIn w f n p) (hn : n ≤ 1000000000000) (hc : n ≤ c) (hcm : c ≤ maxLen) :
    Calls Tryz.prog 42 #[.agg #[.int .i64 b, .slice p n c, .int .i64 u], .int .i64 s] w fun e w' => e = .returned (.tuple #[.agg #[.int .i64 0, .int .i64 0, .int .i64 0, .int .i64 0, .int .i64 0, .int .i64 0], .int .i64 (knownE b u n f s)]) ∧ Below w.heap.size w w' := by
  obtain ⟨hx, hr, A0⟩ := dts_start w b u n c p
  obtain ⟨x0, x1, x2⟩ := hx
  have HR := Lib.hid hr
  have H : Calls Tryz.prog 101 #[.agg #[.int .i64 b, .slice p n c, .int .i64 u], .int .i64 s, .func (.func 102) #[] #[]] ((w.alloc (.cells #[.int .i64 b, .slice p n c, .int .i64 u] 24)).alloc (.cells #[.int .i64 0, .int .i64 0, .int .i64 0, .int .i64 0, .int .i64 0, .int .i64 0] 26)) fun e w' => e = .returned (.tuple #[.agg #[.int .i64 0, .int .i64 0, .int .i64 0, .int .i64 0, .int .i64 0, .int .i64 0], .int .i64 (knownE b u n f s)]) ∧ Below ((w.alloc (.cells #[.int .i64 b, .slice p n c, .int .i64 u] 24)).alloc (.cells #[.int .i64 0, .int .i64 0, .int .i64 0, .int .i64 0, .int .i64 0, .int .i64 0] 26)).heap.size ((w.alloc (.cells #[.int .i64 b, .slice p n c, .int .i64 u] 24)).alloc (.cells #[.int .i64 0, .int .i64 0, .int .i64 0, .int .i64 0, .int .i64 0, .int .i64 0] 26)) w' := by
    unfold knownE at hk ⊢
    by_cases ht : tabE b u n f = 0
    · rw [if_pos ht] at hk ⊢
      by_cases hi : inB s (beginS f n u) = true
      · rw [if_pos hi] at hk; exact absurd rfl hk
      · rw [if_neg hi]
        exact ofDate_rng _ b u s n c p f _ (hw.below A0) (hs.below A0) hc hcm ht (by simpa using hi)
    · rw [if_neg ht]
      exact ofDate_tab _ b u s n c p f _ (hw.below A0) (hs.below A0) hn ht
  have H := Lib.hid H
  have A0 := Lib.hid A0
  obtain ⟨vv, hvv⟩ : ∃ vv, knownE b u n f s = vv := ⟨_, rfl⟩
  rw [hvv] at H ⊢
  clear hw hs hk hvv hr
  go_enter Tryz.func42, Tryz.ntmps42
  go_upto_region 1 with fail
  generalize (w.alloc (.cells #[.int .i64 b, .slice p n c, .int .i64 u] 24)).alloc (.cells #[.int .i64 0, .int .i64 0, .int .i64 0, .int .i64 0, .int .i64 0, .int .i64 0] 26) = W1 at *
  have zx := cell_lt x0
  go_wp2_with fail
  refine H.out.mono ?_
  rintro e w2 ⟨rfl, hb2⟩
  have HB2 := Lib.hid hb2
  clear hb2 x0 x1 x2 zx
  obtain ⟨⟨q0, r0⟩, ⟨q1, r1⟩, ⟨q2, r2⟩, ⟨q3, r3⟩, ⟨q4, r4⟩, ⟨q5, r5⟩, rz⟩ := HR.out.below HB2.out
  have z0 := rz 0
  have z1 := rz 1
  have z2 := rz 2
  have z3 := rz 3
  have z4 := rz 4
  have z5 := rz 5
  have zr := cell_lt r0
  clear rz
  go_wp2
  refine bodyPost_ret (v := .tuple #[.agg #[.int .i64 0, .int .i64 0, .int .i64 0, .int .i64 0, .int .i64 0, .int .i64 0], .int .i64 vv]) (by simp [results, Tryz.results42, go_sem, r0, r1, r2, r3, r4, r5]) rfl ⟨rfl, ?_⟩
  exact (((((((bt A0.out HB2.out).setCell (p := ⟨w.heap.size + 1, _, none⟩) (Nat.le_succ _) _).setCell (p := ⟨w.heap.size + 1, _, none⟩) (Nat.le_succ _) _).setCell (p := ⟨w.heap.size + 1, _, none⟩) (Nat.le_succ _) _).setCell (p := ⟨w.heap.size + 1, _, none⟩) (Nat.le_succ _) _).setCell (p := ⟨w.heap.size + 1, _, none⟩) (Nat.le_succ _) _).setCell (p := ⟨w.heap.size + 1, _, none⟩) (Nat.le_succ _) _)
theorem Seconds_tab {b u : Int} {n : Nat} {f : Nat → Int × Int} (ht : tabE b u n f ≠ 0) (y m d h mi s : Int) (c : Nat) (p : Option Addr) (w : World) (hw : Mon w) (hs : LpIn w f n p) (hn : n ≤ 1000000000000) :
    Calls Tryz.prog 25 #[.agg #[.int .i64 b, .slice p n c, .int .i64 u], .agg #[.int .i64 y, .int .i64 m, .int .i64 d, .int .i64 h, .int .i64 mi, .int .i64 s]] w fun e w' => e = .returned (.tuple #[.int .i64 0, .int .i64 (tabE b u n f)]) ∧ Below w.heap.size w w' := by
  obtain ⟨hx, hy, hb⟩ := td_start w b u n c p y m d h mi s
  unfold tdW at hx hy hb
  obtain ⟨x0, x1, x2⟩ := hx
  have HOP := Lib.hid (open_no b u n c p f _ (hw.below hb) (hs.below hb) hn ht)
  have A0 := Lib.hid hb
  obtain ⟨er, her⟩ : ∃ er, tabE b u n f = er := ⟨_, rfl⟩
  rw [her] at ht HOP ⊢
  have hne : (er == 0) = false := by simpa using ht
  clear hw hs her ht hb hy
  go_enter Tryz.func25, Tryz.ntmps25
  go_upto_region 1 with fail
  generalize (w.alloc (.cells #[.int .i64 b, .slice p n c, .int .i64 u] 24)).alloc (.cells #[.int .i64 y, .int .i64 m, .int .i64 d, .int .i64 h, .int .i64 mi, .int .i64 s] 26) = W1 at *
  have zx := cell_lt x0
  go_wp2_with (go_at_call 82; refine HOP.out.mono ?_; rintro e w2 ⟨rfl, hb2⟩; have HB2 := Lib.hid hb2; clear hb2)
  go_ret2
  exact ⟨rfl, below_alloc (bt A0.out HB2.out) _⟩
set_option maxHeartbeats 2000000 in
theorem Seconds_mom {b u : Int} {n : Nat} {f : Nat → Int × Int} (ht : tabE b u n f = 0) (y m d h mi s : Int) (hm : momB y m d h mi s = false) (c : Nat) (p : Option Addr) (w : World) (hw : Mon w) (hs : LpIn w f n p) :
    Calls Tryz.prog 25 #[.agg #[.int .i64 b, .slice p n c, .int .i64 u], .agg #[.int .i64 y, .int .i64 m, .int .i64 d, .int .i64 h, .int .i64 mi, .int .i64 s]] w fun e w' => e = .returned (.tuple #[.int .i64 0, .int .i64 90]) ∧ Below w.heap.size w w' := by
  obtain ⟨hx, hy, hb⟩ := td_start w b u n c p y m d h mi s
  unfold tdW at hx hy hb
  obtain ⟨x0, x1, x2⟩ := hx
  have HY := Lib.hid hy
  have HTO := Lib.hid (tab_ok ht)
  have HW := Lib.hid (hw.below hb)
  have HOP := Lib.hid (open_ok b u n c p f _ (hw.below hb) (hs.below hb) (by have := HTO.out.n1; omega) ht)
  have HMO := Lib.hid (fun X (hX : Mon X) => dmoment_no y m d h mi s X hX hm)
  have A0 := Lib.hid hb
  clear hw hs ht hb hy hm
  go_enter Tryz.func25, Tryz.ntmps25
  go_upto_region 1 with fail
  generalize (w.alloc (.cells #[.int .i64 b, .slice p n c, .int .i64 u] 24)).alloc (.cells #[.int .i64 y, .int .i64 m, .int .i64 d, .int .i64 h, .int .i64 mi, .int .i64 s] 26) = W1 at *
  have zx := cell_lt x0
  go_upto_region 2 with (go_at_call 82; refine HOP.out.mono ?_; rintro e w2 ⟨mb, rfl, hM, hb2⟩; have HM := Lib.hid hM; have HB2 := Lib.hid hb2; clear hM hb2)
  clear x0 x1 x2 zx
  have hb3 := below_alloc (Below.refl w2.heap.size w2) (.cells #[.int .i64 b, .slice p n c, .int .i64 u, .map (some mb)] 132)
  have HX := Lib.hid (WBox.new w2 b u n c p mb)
  have HM3 := Lib.hid (HM.out.below hb3)
  have HB3 := Lib.hid (bt HB2.out hb3)
  clear hb3
  generalize w2.alloc (.cells #[.int .i64 b, .slice p n c, .int .i64 u, .map (some mb)] 132) = W3 at *
  obtain ⟨y0, y1, y2, y3, y4, y5⟩ := HY.out.below HB3.out
  have zy := cell_lt y0
  have HMC := Lib.hid (HMO.out W3 (HW.out.below HB3.out))
  go_wp2_with (go_at_call 83; refine HMC.out.mono ?_; rintro e w4 ⟨rfl, hb4⟩; have HB4 := Lib.hid hb4; clear hb4)
  go_ret2
  exact ⟨rfl, below_alloc (bt (bt A0.out HB3.out) HB4.out) _⟩
set_option maxHeartbeats 2000000 in
theorem Seconds_has {b u : Int} {n : Nat} {f : Nat → Int × Int} (ht : tabE b u n f = 0) {y : Int} {k : Nat} {d : Int} (hd : IsDate y k d) (h mi s : Int) (hh : tB h = true) (hmi : miB mi = true) (hsb : sB s = true) (hn : hasB u f n (1440 * dayN y k d + 60 * h + mi) s = false) (c : Nat) (p : Option Addr) (w : World) (hw : Mon w) (hs : LpIn w f n p) :
    Calls Tryz.prog 25 #[.agg #[.int .i64 b, .slice p n c, .int .i64 u], .agg #[.int .i64 y, .int .i64 (k : Int), .int .i64 d, .int .i64 h, .int .i64 mi, .int .i64 s]] w fun e w' => e = .returned (.tuple #[.int .i64 0, .int .i64 90]) ∧ Below w.heap.size w w' := by
  obtain ⟨hx, hy, hb⟩ := td_start w b u n c p y (k : Int) d h mi s
  unfold tdW at hx hy hb
  obtain ⟨x0, x1, x2⟩ := hx
  have HY := Lib.hid hy
  have HTO := Lib.hid (tab_ok ht)
  have HW := Lib.hid (hw.below hb)
  have HOP := Lib.hid (open_ok b u n c p f _ (hw.below hb) (hs.below hb) (by have := HTO.out.n1; omega) ht)
  have hnb := hd.civ.n_bd
  have hmb : (0 ≤ h ∧ h ≤ 23) ∧ (0 ≤ mi ∧ mi ≤ 59) := by unfold tB at hh; unfold miB at hmi; simp at hh hmi; omega
  have HBD := Lib.hid (show -200000000000000000 ≤ 1440 * dayN y k d + 60 * h + mi ∧ 1440 * dayN y k d + 60 * h + mi ≤ 200000000000000000 by omega)
  have HMO := Lib.hid (fun X (hX : Mon X) => dmoment_ok h mi s X hX hd hh hmi hsb)
  have HHA := Lib.hid hn
  have A0 := Lib.hid hb
  clear hw hs ht hb hy hn hnb hmb hd hh hmi hsb
  obtain ⟨t, hte⟩ : ∃ t, 1440 * dayN y k d + 60 * h + mi = t := ⟨_, rfl⟩
  rw [hte] at HMO HHA HBD
  clear hte
  go_enter Tryz.func25, Tryz.ntmps25
  go_upto_region 1 with fail
  generalize (w.alloc (.cells #[.int .i64 b, .slice p n c, .int .i64 u] 24)).alloc (.cells #[.int .i64 y, .int .i64 (k : Int), .int .i64 d, .int .i64 h, .int .i64 mi, .int .i64 s] 26) = W1 at *
  have zx := cell_lt x0
  go_upto_region 2 with (go_at_call 82; refine HOP.out.mono ?_; rintro e w2 ⟨mb, rfl, hM, hb2⟩; have HM := Lib.hid hM; have HB2 := Lib.hid hb2; clear hM hb2)
  clear x0 x1 x2 zx
  have hb3 := below_alloc (Below.refl w2.heap.size w2) (.cells #[.int .i64 b, .slice p n c, .int .i64 u, .map (some mb)] 132)
  have HX := Lib.hid (WBox.new w2 b u n c p mb)
  have HM3 := Lib.hid (HM.out.below hb3)
  have HB3 := Lib.hid (bt HB2.out hb3)
  clear hb3
  generalize w2.alloc (.cells #[.int .i64 b, .slice p n c, .int .i64 u, .map (some mb)] 132) = W3 at *
  obtain ⟨y0, y1, y2, y3, y4, y5⟩ := HY.out.below HB3.out
  have zy := cell_lt y0
  have HMC := Lib.hid (HMO.out W3 (HW.out.below HB3.out))
  go_upto_region 5 with (go_at_call 83; refine HMC.out.mono ?_; rintro e w4 ⟨rfl, hb4⟩; have HB4 := Lib.hid hb4; clear hb4)
  clear y0 y1 y2 y3 y4 y5 zy
  have hb5 := below_alloc (Below.refl w4.heap.size w4) (.cells #[.int .i64 t, .int .i64 s] 136)
  obtain ⟨y0, y1⟩ := MBox.new w4 t s
  have HX5 := Lib.hid ((HX.out.below HB4.out).below hb5)
  have HM5 := Lib.hid ((HM3.out.below HB4.out).below hb5)
  have HB5 := Lib.hid (bt (bt HB3.out HB4.out) hb5)
  clear hb5
  generalize w4.alloc (.cells #[.int .i64 t, .int .i64 s] 136) = W5 at *
  obtain ⟨⟨x0, x1, x2⟩, x3⟩ := HX5.out
  have zx := cell_lt x0
  have zy := cell_lt y0
  have HHC := Lib.hid (has_any HTO.out t s c p mb W5 HM5.out HBD.out)
  rw [HHA.out] at HHC
  go_wp2_with (go_at_call 84; refine HHC.out.mono ?_; rintro e w6 ⟨rfl, hb6⟩; have HB6 := Lib.hid hb6; clear hb6)
  go_ret2
  exact ⟨rfl, bt (bt A0.out HB5.out) HB6.out⟩
end Go.Proofs.YtgnfaemnehmgcaaGreatDoor.Cal
namespace Go.Proofs.YtgnfaemnehmgcaaGreatDoor.Cal
open Go Go.RowKit
attribute [local go_sem] Oper.semAt_some
theorem wunix_any {b u : Int} {n : Nat} {f : Nat → Int × Int} (ht : TabOk b u n f) {s D : Int} (hD : IsDayOf u n f s D) (c : Nat) (p : Option Addr) (mb : Nat) (w : World) (hs : LpIn w f n p) (hc : n ≤ c) (hcm : c ≤ maxLen) :
    Calls Tryz.prog 108 #[.agg #[.int .i64 b, .slice p n c, .int .i64 u, .map (some mb)], .int .i64 s] w fun e w' => e = .returned (.int .i64 (86400 * (D - 40587) + (s - beginS f n D))) ∧ Below w.heap.size w w' := by
  have A0 := below_alloc (Below.refl w.heap.size w) (.cells #[.int .i64 b, .slice p n c, .int .i64 u, .map (some mb)] 132)
  obtain ⟨⟨x0, x1, x2⟩, x3⟩ := WBox.new w b u n c p mb
  have HM := Lib.hid (wmoment_any ht hD c p mb _ (hs.below A0) hc hcm)
  have A0 := Lib.hid A0
  have hd1 := hD.d1; have hd2 := hD.d2; have hu2 := ht.u2
  have hrb := hD.rest_bd ht
  obtain ⟨r, hr⟩ : ∃ r, s - beginS f n D = r := ⟨_, rfl⟩
  rw [hr] at HM hrb ⊢
  have hmb := minS_bd r hrb.1
  obtain ⟨mn, hmn⟩ : ∃ mn, minS r = mn := ⟨_, rfl⟩
  rw [hmn] at HM hmb
  have v1 : IntKind.i64.wrap (1440 * D + mn - 58445280) = 1440 * D + mn - 58445280 := IntWalk.i64_in _ (by omega)
  have v2 : IntKind.i64.wrap (60 * (1440 * D + mn - 58445280)) = 60 * (1440 * D + mn - 58445280) := IntWalk.i64_in _ (by omega)
  have v3 : IntKind.i64.wrap (60 * (1440 * D + mn - 58445280) + (r - 60 * mn)) = 60 * (1440 * D + mn - 58445280) + (r - 60 * mn) := IntWalk.i64_in _ (by omega)
  have HV := Lib.hid (show 60 * (1440 * D + mn - 58445280) + (r - 60 * mn) = 86400 * (D - 40587) + r by omega)
  clear hs hd1 hd2 hu2 hrb hr hmb hmn ht hD
  go_enter Tryz.func108, Tryz.ntmps108
  go_upto_region 1 with fail
  generalize w.alloc (.cells #[.int .i64 b, .slice p n c, .int .i64 u, .map (some mb)] 132) = W1 at *
  have zx := cell_lt x0
  go_upto_region 2 with (go_at_call 119; refine HM.out.mono ?_; rintro e w2 ⟨rfl, hb2⟩; have HB2 := Lib.hid hb2; clear hb2)
  have HB3 := Lib.hid (below_alloc (Below.refl w2.heap.size w2) (.cells #[.int .i64 (1440 * D + mn), .int .i64 (r - 60 * mn)] 136))
  go_wp2_with fail
  go_ret
  exact ⟨ret_i64 HV.out, bt (bt A0.out HB2.out) HB3.out⟩
set_option maxHeartbeats 2000000 in
theorem ofInt_un (b u s : Int) (n c : Nat) (p : Option Addr) (f : Nat → Int × Int) (v : Int) (w : World) (hw : Mon w) (hs : LpIn w f n p) (hc : n ≤ c) (hcm : c ≤ maxLen) (ht : tabE b u n f = 0) (hd : inB s (beginS f n u) = true) (hf : FOk 108 b u n c p f s (.int .i64 v)) :
    Calls Tryz.prog 105 #[.agg #[.int .i64 b, .slice p n c, .int .i64 u], .int .i64 s, .func (.func 108) #[] #[]] w fun e w' => e = .returned (.tuple #[.int .i64 v, .int .i64 0]) ∧ Below w.heap.size w w' := by
  have HF := Lib.hid hf
  clear hf
  have A0 := below_alloc (Below.refl w.heap.size w) (.cells #[.int .i64 b, .slice p n c, .int .i64 u] 24)
  have HX0 := Lib.hid (TBox.new w b u n c p 24)
  have HTO := Lib.hid (tab_ok ht)
  have HOP := Lib.hid (open_ok b u n c p f _ (hw.below A0) (hs.below A0) (by have := HTO.out.n1; omega) ht)
  have HS := Lib.hid (hs.below A0)
  have HW := Lib.hid (hw.below A0)
  have A0 := Lib.hid A0
  have HD := Lib.hid hd
  unfold inB at HD
  have hub := HTO.out.total_bd
  clear hw hs ht hd
  go_enter Tryz.func105, Tryz.ntmps105
  go_upto_region 2 with fail
  generalize w.alloc (.cells #[.int .i64 b, .slice p n c, .int .i64 u] 24) = W1 at *
  obtain ⟨x0, x1, x2⟩ := HX0.out
  have zx := cell_lt x0
  go_upto_region 5 with (go_at_call 82; refine HOP.out.mono ?_; rintro e w2 ⟨mb, rfl, hM, hb2⟩; have HM := Lib.hid hM; have HB2 := Lib.hid hb2; clear hM hb2)
  clear x0 x1 x2 zx
  have hb3 := below_alloc (Below.refl w2.heap.size w2) (.cells #[.int .i64 b, .slice p n c, .int .i64 u, .map (some mb)] 132)
  have HB3 := Lib.hid (bt HB2.out hb3)
  have HX := Lib.hid (WBox.new w2 b u n c p mb)
  have HM3 := Lib.hid (HM.out.below hb3)
  have HS3 := Lib.hid (HS.out.below HB3.out)
  have HW3 := Lib.hid (HW.out.below HB3.out)
  clear hb3
  generalize w2.alloc (.cells #[.int .i64 b, .slice p n c, .int .i64 u, .map (some mb)] 132) = W3 at *
  obtain ⟨⟨x0, x1, x2⟩, x3⟩ := HX.out
  have zx := cell_lt x0
  have HTL := Lib.hid (total_any HTO.out c p W3 HS3.out hc hcm)
  have HIX := Lib.hid (fun X => index_any s (beginS f n u) X (by omega))
  rw [HD.out] at HIX
  generalize beginS f n u = tot at *
  go_upto_region 7 with (first | (go_at_call 99; refine HTL.out.mono ?_; rintro e w4 ⟨rfl, hb4⟩; have HB4 := Lib.hid hb4; clear hb4) | (go_at_call 111; refine (HIX.out _).mono ?_; rintro e w5 ⟨rfl, rfl⟩))
  clear x0 x1 x2 x3 zx
  obtain ⟨⟨x0, x1, x2⟩, x3⟩ := HX.out.below HB4.out
  have zx := cell_lt x0
  have HG := Lib.hid (HF.out mb w4 (HW3.out.below HB4.out) (HS3.out.below HB4.out) (HM3.out.below HB4.out))
  go_wp2_with fail
  refine HG.out.mono ?_
  rintro e w5 ⟨rfl, hb5⟩
  have HB5 := Lib.hid hb5
  clear hb5 x0 x1 x2 x3 zx
  go_wp2
  go_ret2
  exact ⟨rfl, bt (bt (bt A0.out HB3.out) HB4.out) HB5.out⟩
theorem Unix_ok {b u : Int} {n : Nat} {f : Nat → Int × Int} {s : Int} (hk : knownE b u n f s = 0) {D : Int} (hD : IsDayOf u n f s D) (c : Nat) (p : Option Addr) (w : World) (hw : Mon w) (hs : LpIn w f n p) (hc : n ≤ c) (hcm : c ≤ maxLen) :
    Calls Tryz.prog 48 #[.agg #[.int .i64 b, .slice p n c, .int .i64 u], .int .i64 s] w fun e w' => e = .returned (.tuple #[.int .i64 (86400 * (D - 40587) + (s - beginS f n D)), .int .i64 0]) ∧ Below w.heap.size w w' := by
  obtain ⟨ht, hi⟩ := knownE_zero hk
  have HT := tab_ok ht
  have hib := inB_bd hi
  have htb := HT.total_bd
  have A0 := below_alloc (Below.refl w.heap.size w) (.cells #[.int .i64 b, .slice p n c, .int .i64 u] 24)
  obtain ⟨x0, x1, x2⟩ := TBox.new w b u n c p 24
  have H := Lib.hid (ofInt_un b u s n c p f (86400 * (D - 40587) + (s - beginS f n D)) _ (hw.below A0) (hs.below A0) hc hcm ht hi (fun mb X hX hl hm => wunix_any HT hD c p mb X hl hc hcm))
  have A0 := Lib.hid A0
  obtain ⟨vv, hvv⟩ : ∃ vv, 86400 * (D - 40587) + (s - beginS f n D) = vv := ⟨_, rfl⟩
  rw [hvv] at H ⊢
  clear hw hs hk ht hi hib htb HT hvv
  go_enter Tryz.func48, Tryz.ntmps48
  go_upto_region 1 with fail
  generalize w.alloc (.cells #[.int .i64 b, .slice p n c, .int .i64 u] 24) = W1 at *
  have zx := cell_lt x0
  go_wp2_with (go_at_call 105; refine H.out.mono ?_; rintro e w2 ⟨rfl, hb2⟩; have HB2 := Lib.hid hb2; clear hb2)
  go_ret2
  exact ⟨rfl, bt A0.out HB2.out⟩
end Go.Proofs.YtgnfaemnehmgcaaGreatDoor.Cal
