/-  ·  -/
import Derived.Test.YtgnfaemnehmgcaaGreatDoorQ20
import Derived.Test.YtgnfaemnehmgcaaGreatDoorQ19
import Derived.Test.YtgnfaemnehmgcaaGreatDoorQ17
namespace Go.Proofs.YtgnfaemnehmgcaaGreatDoor.Cal
open Go Go.RowKit
attribute [local go_sem] Oper.semAt_some
theorem ntpz_start (w : World) (b u : Int) (n c : Nat) (p : Option Addr) : TBox (((w.alloc (.cells #[.int .i64 b, .slice p n c, .int .i64 u] 24)).alloc (.cells #[.int .i64 0, .int .i64 0] 42)).alloc (.cells #[.int .i64 0, .int .i64 0] 42)) w.heap.size b u n c p ∧ Res2 (((w.alloc (.cells #[.int .i64 b, .slice p n c, .int .i64 u] 24)).alloc (.cells #[.int .i64 0, .int .i64 0] 42)).alloc (.cells #[.int .i64 0, .int .i64 0] 42)) (w.heap.size + 1) ∧ ((((w.alloc (.cells #[.int .i64 b, .slice p n c, .int .i64 u] 24)).alloc (.cells #[.int .i64 0, .int .i64 0] 42)).alloc (.cells #[.int .i64 0, .int .i64 0] 42)).cell? ⟨w.heap.size + 1 + 1, 0, none⟩ = some (.int .i64 0) ∧ (((w.alloc (.cells #[.int .i64 b, .slice p n c, .int .i64 u] 24)).alloc (.cells #[.int .i64 0, .int .i64 0] 42)).alloc (.cells #[.int .i64 0, .int .i64 0] 42)).cell? ⟨w.heap.size + 1 + 1, 1, none⟩ = some (.int .i64 0)) ∧ Below w.heap.size w (((w.alloc (.cells #[.int .i64 b, .slice p n c, .int .i64 u] 24)).alloc (.cells #[.int .i64 0, .int .i64 0] 42)).alloc (.cells #[.int .i64 0, .int .i64 0] 42)) := by
  obtain ⟨h1, h2, h4⟩ := ntp_start w b u n c p
  have e2 : ((w.alloc (.cells #[.int .i64 b, .slice p n c, .int .i64 u] 24)).alloc (.cells #[.int .i64 0, .int .i64 0] 42)).heap.size = w.heap.size + 1 + 1 := by simp
  have h3 := two_cells ((w.alloc (.cells #[.int .i64 b, .slice p n c, .int .i64 u] 24)).alloc (.cells #[.int .i64 0, .int .i64 0] 42)) (.int .i64 0) (.int .i64 0) 42
  rw [e2] at h3
  exact ⟨h1, h2, h3, h4⟩
set_option maxHeartbeats 2000000 in
theorem ofNtp_tab (fv : Value) (b u s : Int) (n c : Nat) (p : Option Addr) (f : Nat → Int × Int) (w : World) (hw : Mon w) (hs : LpIn w f n p) (hn : n ≤ 1000000000000) (ht : tabE b u n f ≠ 0) :
    Calls Tryz.prog 109 #[.agg #[.int .i64 b, .slice p n c, .int .i64 u], .int .i64 s, fv] w fun e w' => e = .returned (.tuple #[.agg #[.int .i64 0, .int .i64 0], .int .i64 (tabE b u n f)]) ∧ Below w.heap.size w w' := by
  obtain ⟨hx0, hr0, hd0, A0⟩ := ntpz_start w b u n c p
  have HX0 := Lib.hid hx0
  have HR0 := Lib.hid hr0
  have HD0 := Lib.hid hd0
  clear hx0 hr0 hd0
  have HOP := Lib.hid (open_no b u n c p f _ (hw.below A0) (hs.below A0) hn ht)
  have A0 := Lib.hid A0
  obtain ⟨er, her⟩ : ∃ er, tabE b u n f = er := ⟨_, rfl⟩
  rw [her] at ht HOP ⊢
  have hne : (er == 0) = false := by simpa using ht
  clear hw hs her ht
  go_enter Tryz.func109, Tryz.ntmps109
  go_upto_region 2 with fail
  generalize ((w.alloc (.cells #[.int .i64 b, .slice p n c, .int .i64 u] 24)).alloc (.cells #[.int .i64 0, .int .i64 0] 42)).alloc (.cells #[.int .i64 0, .int .i64 0] 42) = W1 at *
  obtain ⟨x0, x1, x2⟩ := HX0.out
  have zx := cell_lt x0
  go_upto_region 3 with (go_at_call 82; refine HOP.out.mono ?_; rintro e w2 ⟨rfl, hb2⟩; have HB2 := Lib.hid hb2; clear hb2)
  clear x0 x1 x2 zx
  have hb3 := below_alloc (Below.refl w2.heap.size w2) (.cells #[.int .i64 0, .slice none 0 0, .int .i64 0, .map none] 132)
  have HB3 := Lib.hid (bt HB2.out hb3)
  clear hb3
  generalize w2.alloc (.cells #[.int .i64 0, .slice none 0 0, .int .i64 0, .map none] 132) = W3 at *
  obtain ⟨⟨q0, r0⟩, ⟨q1, r1⟩, rz⟩ := HR0.out.below (HB3.out)
  have z0 := rz 0
  have z1 := rz 1
  have zr := cell_lt r0
  clear rz
  have d0 := cell_below (HB3.out) HD0.out.1
  have d1 := cell_below (HB3.out) HD0.out.2
  have zd := cell_lt d0
  go_wp2
  refine bodyPost_ret (v := .tuple #[.agg #[.int .i64 0, .int .i64 0], .int .i64 er]) (by simp [results, Tryz.results109, go_sem, r0, r1]) rfl ⟨rfl, ?_⟩
  exact ((bt A0.out HB3.out).setCell (p := ⟨w.heap.size + 1, _, none⟩) (Nat.le_succ _) _).setCell (p := ⟨w.heap.size + 1, _, none⟩) (Nat.le_succ _) _
set_option maxHeartbeats 2000000 in
theorem ofNtp_rng (fv : Value) (b u s : Int) (n c : Nat) (p : Option Addr) (f : Nat → Int × Int) (w : World) (hw : Mon w) (hs : LpIn w f n p) (hc : n ≤ c) (hcm : c ≤ maxLen) (ht : tabE b u n f = 0) (hd : inB s (beginS f n u) = false) :
    Calls Tryz.prog 109 #[.agg #[.int .i64 b, .slice p n c, .int .i64 u], .int .i64 s, fv] w fun e w' => e = .returned (.tuple #[.agg #[.int .i64 0, .int .i64 0], .int .i64 6]) ∧ Below w.heap.size w w' := by
  obtain ⟨hx0, hr0, hd0, A0⟩ := ntpz_start w b u n c p
  have HX0 := Lib.hid hx0
  have HR0 := Lib.hid hr0
  have HD0 := Lib.hid hd0
  clear hx0 hr0 hd0
  have HTO := Lib.hid (tab_ok ht)
  have HOP := Lib.hid (open_ok b u n c p f _ (hw.below A0) (hs.below A0) (by have := HTO.out.n1; omega) ht)
  have HS := Lib.hid (hs.below A0)
  have HW := Lib.hid (hw.below A0)
  have A0 := Lib.hid A0
  have HD := Lib.hid hd
  unfold inB at HD
  have hub := HTO.out.total_bd
  clear hw hs ht hd
  go_enter Tryz.func109, Tryz.ntmps109
  go_upto_region 2 with fail
  generalize ((w.alloc (.cells #[.int .i64 b, .slice p n c, .int .i64 u] 24)).alloc (.cells #[.int .i64 0, .int .i64 0] 42)).alloc (.cells #[.int .i64 0, .int .i64 0] 42) = W1 at *
  obtain ⟨x0, x1, x2⟩ := HX0.out
  have zx := cell_lt x0
  go_upto_region 5 with (go_at_call 82; refine HOP.out.mono ?_; rintro e w2 ⟨mb, rfl, hM, hb2⟩; have HM := Lib.hid hM; have HB2 := Lib.hid hb2; clear hM hb2)
  clear x0 x1 x2 zx
  have hb3 := below_alloc (Below.refl w2.heap.size w2) (.cells #[.int .i64 b, .slice p n c, .int .i64 u, .map (some mb)] 132)
  have HB3 := Lib.hid (bt HB2.out hb3)
  have HX := Lib.hid (WBox.new w2 b u n c p mb)
  have HM3 := Lib.hid (HM.out.below hb3)
  have HS3 := Lib.hid (HS.out.below HB3.out)
  have HW3 := Lib.hid (HW.out.below HB3.out)
  clear hb3
  generalize w2.alloc (.cells #[.int .i64 b, .slice p n c, .int .i64 u, .map (some mb)] 132) = W3 at *
  obtain ⟨⟨x0, x1, x2⟩, x3⟩ := HX.out
  have zx := cell_lt x0
  have HTL := Lib.hid (total_any HTO.out c p W3 HS3.out hc hcm)
  have HIX := Lib.hid (fun X => index_any s (beginS f n u) X (by omega))
  rw [HD.out] at HIX
  generalize beginS f n u = tot at *
  go_upto_region 6 with (first | (go_at_call 99; refine HTL.out.mono ?_; rintro e w4 ⟨rfl, hb4⟩; have HB4 := Lib.hid hb4; clear hb4) | (go_at_call 111; refine (HIX.out _).mono ?_; rintro e w5 ⟨rfl, rfl⟩))
  obtain ⟨⟨q0, r0⟩, ⟨q1, r1⟩, rz⟩ := HR0.out.below (bt HB3.out HB4.out)
  have z0 := rz 0
  have z1 := rz 1
  have zr := cell_lt r0
  clear rz
  have d0 := cell_below (bt HB3.out HB4.out) HD0.out.1
  have d1 := cell_below (bt HB3.out HB4.out) HD0.out.2
  have zd := cell_lt d0
  go_wp2
  refine bodyPost_ret (v := .tuple #[.agg #[.int .i64 0, .int .i64 0], .int .i64 6]) (by simp [results, Tryz.results109, go_sem, r0, r1]) rfl ⟨rfl, ?_⟩
  exact ((bt (bt A0.out HB3.out) HB4.out).setCell (p := ⟨w.heap.size + 1, _, none⟩) (Nat.le_succ _) _).setCell (p := ⟨w.heap.size + 1, _, none⟩) (Nat.le_succ _) _
set_option maxHeartbeats 1000000 in
theorem ToNtp_no {b u : Int} {n : Nat} {f : Nat → Int × Int} {s : Int} (hk : knownE b u n f s ≠ 0) (c : Nat) (p : Option Addr) (w : World) (hw : Mon w) (hs : LpIn w f n p) (hn : n ≤ 1000000000000) (hc : n ≤ c) (hcm : c ≤ maxLen) :
    Calls Tryz.prog 51 #[.agg #[.int .i64 b, .slice p n c, .int .i64 u], .int .i64 s] w fun e w' => e = .returned (.tuple #[.agg #[.int .i64 0, .int .i64 0], .int .i64 (knownE b u n f s)]) ∧ Below w.heap.size w w' := by
  obtain ⟨hx, hr, A0⟩ := nts_start w b u n c p
  obtain ⟨x0, x1, x2⟩ := hx
  have HR := Lib.hid hr
  have H : Calls Tryz.prog 109 #[.agg #[.int .i64 b, .slice p n c, .int .i64 u], .int .i64 s, .func (.func 110) #[] #[]] ((w.alloc (.cells #[.int .i64 b, .slice p n c, .int .i64 u] 24)).alloc (.cells #[.int .i64 0, .int .i64 0] 42)) fun e w' => e = .returned (.tuple #[.agg #[.int .i64 0, .int .i64 0], .int .i64 (knownE b u n f s)]) ∧ Below ((w.alloc (.cells #[.int .i64 b, .slice p n c, .int .i64 u] 24)).alloc (.cells #[.int .i64 0, .int .i64 0] 42)).heap.size ((w.alloc (.cells #[.int .i64 b, .slice p n c, .int .i64 u] 24)).alloc (.cells #[.int .i64 0, .int .i64 0] 42)) w' := by
    unfold knownE at hk ⊢
    by_cases ht : tabE b u n f = 0
    · rw [if_pos ht] at hk ⊢
      by_cases hi : inB s (beginS f n u) = true
      · rw [if_pos hi] at hk; exact absurd rfl hk
      · rw [if_neg hi]
        exact ofNtp_rng _ b u s n c p f _ (hw.below A0) (hs.below A0) hc hcm ht (by simpa using hi)
    · rw [if_neg ht]
      exact ofNtp_tab _ b u s n c p f _ (hw.below A0) (hs.below A0) hn ht
  have H := Lib.hid H
  have A0 := Lib.hid A0
  obtain ⟨vv, hvv⟩ : ∃ vv, knownE b u n f s = vv := ⟨_, rfl⟩
  rw [hvv] at H ⊢
  clear hw hs hk hvv hr
  go_enter Tryz.func51, Tryz.ntmps51
  go_upto_region 1 with fail
  generalize (w.alloc (.cells #[.int .i64 b, .slice p n c, .int .i64 u] 24)).alloc (.cells #[.int .i64 0, .int .i64 0] 42) = W1 at *
  have zx := cell_lt x0
  go_wp2_with fail
  refine H.out.mono ?_
  rintro e w2 ⟨rfl, hb2⟩
  have HB2 := Lib.hid hb2
  clear hb2 x0 x1 x2 zx
  obtain ⟨⟨q0, r0⟩, ⟨q1, r1⟩, rz⟩ := HR.out.below HB2.out
  have z0 := rz 0
  have z1 := rz 1
  have zr := cell_lt r0
  clear rz
  go_wp2
  refine bodyPost_ret (v := .tuple #[.agg #[.int .i64 0, .int .i64 0], .int .i64 vv]) (by simp [results, Tryz.results51, go_sem, r0, r1]) rfl ⟨rfl, ?_⟩
  exact ((bt A0.out HB2.out).setCell (p := ⟨w.heap.size + 1, _, none⟩) (Nat.le_succ _) _).setCell (p := ⟨w.heap.size + 1, _, none⟩) (Nat.le_succ _) _
set_option maxHeartbeats 1000000 in
theorem rToNtp_ok {b u : Int} {n : Nat} {f : Nat → Int × Int} {s : Int} (hk : knownE b u n f s = 0) {D : Int} (hD : IsDayOf u n f s D) (c : Nat) (p : Option Addr) (w : World) (hs : LpIn w f n p) :
    Calls Tryz.prog 52 #[.agg #[.int .i64 b, .slice p n c, .int .i64 u], .int .i64 s] w fun e w' => e = .returned (.tuple #[.agg #[.int .i64 ((unixS f n D s + 2208988800) / 4294967296), .int .i64 ((unixS f n D s + 2208988800) % 4294967296)], .int .i64 0]) ∧ Below w.heap.size w w' := by
  have A0 := below_alloc (below_alloc (Below.refl w.heap.size w) (.cells #[.int .i64 b, .slice p n c, .int .i64 u] 55)) (.cells #[.int .i64 0, .int .i64 0] 94)
  have hX := (TBox.new w b u n c p 55).below (below_alloc (Below.refl _ _) (.cells #[.int .i64 0, .int .i64 0] 94))
  have e1 : (w.alloc (.cells #[.int .i64 b, .slice p n c, .int .i64 u] 55)).heap.size = w.heap.size + 1 := by simp
  have hR := Res2.new (w.alloc (.cells #[.int .i64 b, .slice p n c, .int .i64 u] 55)) (.int .i64 0) (.int .i64 0) 94
  rw [e1] at hR
  have HR := Lib.hid hR
  have HX := Lib.hid hX
  have hub := (tab_ok (knownE_zero hk).1).unix_bd hD
  have HU := Lib.hid (rUnix_ok hk hD c p _ (hs.below A0))
  have A0 := Lib.hid A0
  generalize unixS f n D s = U at *
  have v1 : IntKind.i64.wrap (U + 2208988800) = U + 2208988800 := IntWalk.i64_in _ (by omega)
  obtain ⟨N, hN⟩ : ∃ N, U + 2208988800 = N := ⟨_, rfl⟩
  rw [hN] at v1 ⊢
  have q1 : N.tdiv 4294967296 = N / 4294967296 := Int.tdiv_eq_ediv_of_nonneg (by omega)
  have q2 : N.tmod 4294967296 = N % 4294967296 := Int.tmod_eq_emod_of_nonneg (by omega)
  obtain ⟨E, hE⟩ : ∃ E, N / 4294967296 = E := ⟨_, rfl⟩
  obtain ⟨S, hS⟩ : ∃ S, N % 4294967296 = S := ⟨_, rfl⟩
  have q3 : IntKind.i64.wrap E = E := IntWalk.i64_in _ (by omega)
  have q4 : IntKind.i64.wrap S = S := IntWalk.i64_in _ (by omega)
  rw [hE] at q1 ⊢
  rw [hS] at q2 ⊢
  have v2 : IntKind.i64.wrap (U + 2208988800) = N := by rw [hN]; exact v1
  clear hs hk hD hub hN hE hS e1 hR v1 hX
  go_enter Tryz.func52, Tryz.ntmps52
  go_upto_region 1 with fail
  generalize (w.alloc (.cells #[.int .i64 b, .slice p n c, .int .i64 u] 55)).alloc (.cells #[.int .i64 0, .int .i64 0] 94) = W1 at *
  obtain ⟨x0, x1, x2⟩ := HX.out
  have zx := cell_lt x0
  go_upto_region 2 with (go_at_call 49; refine HU.out.mono ?_; rintro e w2 ⟨rfl, hb2⟩; have HB2 := Lib.hid hb2; clear hb2)
  obtain ⟨⟨y0, r0⟩, ⟨y1, r1⟩, rz⟩ := HR.out.below HB2.out
  have z0 := rz 0
  have z1 := rz 1
  have zr := cell_lt r0
  clear rz x0 x1 x2 zx
  go_wp2_with fail
  refine bodyPost_ret (v := .tuple #[.agg #[.int .i64 E, .int .i64 S], .int .i64 0]) (by simp [results, Tryz.results52, go_sem, r0, r1]) rfl ⟨rfl, ?_⟩
  exact ((bt A0.out HB2.out).setCell (p := ⟨w.heap.size + 1, _, none⟩) (Nat.le_succ _) _).setCell (p := ⟨w.heap.size + 1, _, none⟩) (Nat.le_succ _) _
set_option maxHeartbeats 1000000 in
theorem rToNtp_no {b u : Int} {n : Nat} {f : Nat → Int × Int} {s : Int} (hk : knownE b u n f s ≠ 0) (c : Nat) (p : Option Addr) (w : World) (hs : LpIn w f n p) (hn : n ≤ 1000) :
    Calls Tryz.prog 52 #[.agg #[.int .i64 b, .slice p n c, .int .i64 u], .int .i64 s] w fun e w' => e = .returned (.tuple #[.agg #[.int .i64 0, .int .i64 0], .int .i64 (knownE b u n f s)]) ∧ Below w.heap.size w w' := by
  have A0 := below_alloc (below_alloc (Below.refl w.heap.size w) (.cells #[.int .i64 b, .slice p n c, .int .i64 u] 55)) (.cells #[.int .i64 0, .int .i64 0] 94)
  have hX := (TBox.new w b u n c p 55).below (below_alloc (Below.refl _ _) (.cells #[.int .i64 0, .int .i64 0] 94))
  have e1 : (w.alloc (.cells #[.int .i64 b, .slice p n c, .int .i64 u] 55)).heap.size = w.heap.size + 1 := by simp
  have hR := Res2.new (w.alloc (.cells #[.int .i64 b, .slice p n c, .int .i64 u] 55)) (.int .i64 0) (.int .i64 0) 94
  rw [e1] at hR
  have HR := Lib.hid hR
  have HX := Lib.hid hX
  have HU := Lib.hid (rUnix_no hk c p _ (hs.below A0) (by omega))
  have A0 := Lib.hid A0
  obtain ⟨er, her⟩ : ∃ er, knownE b u n f s = er := ⟨_, rfl⟩
  rw [her] at hk HU ⊢
  have hne : (er == 0) = false := by simpa using hk
  clear hs her e1 hR hX hn
  go_enter Tryz.func52, Tryz.ntmps52
  go_upto_region 1 with fail
  generalize (w.alloc (.cells #[.int .i64 b, .slice p n c, .int .i64 u] 55)).alloc (.cells #[.int .i64 0, .int .i64 0] 94) = W1 at *
  obtain ⟨x0, x1, x2⟩ := HX.out
  have zx := cell_lt x0
  go_upto_region 2 with (go_at_call 49; refine HU.out.mono ?_; rintro e w2 ⟨rfl, hb2⟩; have HB2 := Lib.hid hb2; clear hb2)
  obtain ⟨⟨y0, r0⟩, ⟨y1, r1⟩, rz⟩ := HR.out.below HB2.out
  have z0 := rz 0
  have z1 := rz 1
  have zr := cell_lt r0
  clear rz x0 x1 x2 zx
  go_wp2_with fail
  refine bodyPost_ret (v := .tuple #[.agg #[.int .i64 0, .int .i64 0], .int .i64 er]) (by simp [results, Tryz.results52, go_sem, r0, r1]) rfl ⟨rfl, ?_⟩
  exact ((bt A0.out HB2.out).setCell (p := ⟨w.heap.size + 1, _, none⟩) (Nat.le_succ _) _).setCell (p := ⟨w.heap.size + 1, _, none⟩) (Nat.le_succ _) _
theorem tn_pair (b u s : Int) (n : Nat) (f : Nat → Int × Int) (hn : n ≤ 1000) : ∃ x y e, Pair 51 52 b u n f (fun t => #[t, .int .i64 s]) (.tuple #[.agg #[.int .i64 x, .int .i64 y], .int .i64 e]) := by
  by_cases hk : knownE b u n f s = 0
  · obtain ⟨D, hD⟩ := known_day hk
    exact ⟨_, _, _, fun X c p hX hl h1 h2 => ToNtp_ok hk hD c p X hX hl h1 h2, fun X c p hl => rToNtp_ok hk hD c p X hl⟩
  · exact ⟨_, _, _, fun X c p hX hl h1 h2 => ToNtp_no hk c p X hX hl (by omega) h1 h2, fun X c p hl => rToNtp_no hk c p X hl hn⟩
theorem un_pair (b u s : Int) (n : Nat) (f : Nat → Int × Int) (hn : n ≤ 1000) : ∃ x e, Pair 48 49 b u n f (fun t => #[t, .int .i64 s]) (.tuple #[.int .i64 x, .int .i64 e]) := by
  by_cases hk : knownE b u n f s = 0
  · obtain ⟨D, hD⟩ := known_day hk
    exact ⟨unixS f n D s, 0, fun X c p hX hl h1 h2 => Unix_ok hk hD c p X hX hl h1 h2, fun X c p hl => rUnix_ok hk hD c p X hl⟩
  · exact ⟨_, _, fun X c p hX hl h1 h2 => Unix_no hk c p X hX hl (by omega) h1 h2, fun X c p hl => rUnix_no hk c p X hl (by omega)⟩
end Go.Proofs.YtgnfaemnehmgcaaGreatDoor.Cal
namespace Go.Proofs.YtgnfaemnehmgcaaGreatDoor.Cal
open Go Go.RowKit
attribute [local go_sem] Oper.semAt_some
set_option maxHeartbeats 1000000 in
theorem ToGps_no {b u : Int} {n : Nat} {f : Nat → Int × Int} {s : Int} (hk : knownE b u n f s ≠ 0) (c : Nat) (p : Option Addr) (w : World) (hw : Mon w) (hs : LpIn w f n p) (hn : n ≤ 1000000000000) (hc : n ≤ c) (hcm : c ≤ maxLen) :
    Calls Tryz.prog 55 #[.agg #[.int .i64 b, .slice p n c, .int .i64 u], .int .i64 s] w fun e w' => e = .returned (.tuple #[.agg #[.int .i64 0, .int .i64 0], .int .i64 (knownE b u n f s)]) ∧ Below w.heap.size w w' := by
  obtain ⟨hx, hr, A0⟩ := gps_start w b u n c p
  obtain ⟨x0, x1, x2⟩ := hx
  have HR := Lib.hid hr
  have H : Calls Tryz.prog 105 #[.agg #[.int .i64 b, .slice p n c, .int .i64 u], .int .i64 s, .func (.func 112) #[] #[]] ((w.alloc (.cells #[.int .i64 b, .slice p n c, .int .i64 u] 24)).alloc (.cells #[.int .i64 0, .int .i64 0] 44)) fun e w' => e = .returned (.tuple #[.int .i64 0, .int .i64 (knownE b u n f s)]) ∧ Below ((w.alloc (.cells #[.int .i64 b, .slice p n c, .int .i64 u] 24)).alloc (.cells #[.int .i64 0, .int .i64 0] 44)).heap.size ((w.alloc (.cells #[.int .i64 b, .slice p n c, .int .i64 u] 24)).alloc (.cells #[.int .i64 0, .int .i64 0] 44)) w' := by
    unfold knownE at hk ⊢
    by_cases ht : tabE b u n f = 0
    · rw [if_pos ht] at hk ⊢
      by_cases hi : inB s (beginS f n u) = true
      · rw [if_pos hi] at hk; exact absurd rfl hk
      · rw [if_neg hi]
        exact ofInt_rng _ b u s n c p f _ (hw.below A0) (hs.below A0) hc hcm ht (by simpa using hi)
    · rw [if_neg ht]
      exact ofInt_tab _ b u s n c p f _ (hw.below A0) (hs.below A0) hn ht
  have H := Lib.hid H
  have A0 := Lib.hid A0
  obtain ⟨vv, hvv⟩ : ∃ vv, knownE b u n f s = vv := ⟨_, rfl⟩
  rw [hvv] at H hk ⊢
  have hne : (vv == 0) = false := by simpa using hk
  clear hw hs hvv hr
  go_enter Tryz.func55, Tryz.ntmps55
  go_upto_region 1 with fail
  generalize (w.alloc (.cells #[.int .i64 b, .slice p n c, .int .i64 u] 24)).alloc (.cells #[.int .i64 0, .int .i64 0] 44) = W1 at *
  have zx := cell_lt x0
  go_upto_region 2 with (go_at_call 105; refine H.out.mono ?_; rintro e w2 ⟨rfl, hb2⟩; have HB2 := Lib.hid hb2; clear hb2)
  clear x0 x1 x2 zx
  obtain ⟨⟨y0, r0⟩, ⟨y1, r1⟩, rz⟩ := HR.out.below HB2.out
  have z0 := rz 0
  have z1 := rz 1
  have zr := cell_lt r0
  clear rz
  go_wp2_with fail
  refine bodyPost_ret (v := .tuple #[.agg #[.int .i64 0, .int .i64 0], .int .i64 vv]) (by simp [results, Tryz.results55, go_sem, r0, r1]) rfl ⟨rfl, ?_⟩
  exact ((bt A0.out HB2.out).setCell (p := ⟨w.heap.size + 1, _, none⟩) (Nat.le_succ _) _).setCell (p := ⟨w.heap.size + 1, _, none⟩) (Nat.le_succ _) _
set_option maxHeartbeats 1000000 in
theorem rToGps_no {b u : Int} {n : Nat} {f : Nat → Int × Int} {s : Int} (hk : knownE b u n f s ≠ 0) (c : Nat) (p : Option Addr) (w : World) (hs : LpIn w f n p) (hn : n ≤ 1000) :
    Calls Tryz.prog 56 #[.agg #[.int .i64 b, .slice p n c, .int .i64 u], .int .i64 s] w fun e w' => e = .returned (.tuple #[.agg #[.int .i64 0, .int .i64 0], .int .i64 (knownE b u n f s)]) ∧ Below w.heap.size w w' := by
  have A0 := below_alloc (below_alloc (Below.refl w.heap.size w) (.cells #[.int .i64 b, .slice p n c, .int .i64 u] 55)) (.cells #[.int .i64 0, .int .i64 0] 101)
  have hX := (TBox.new w b u n c p 55).below (below_alloc (Below.refl _ _) (.cells #[.int .i64 0, .int .i64 0] 101))
  have e1 : (w.alloc (.cells #[.int .i64 b, .slice p n c, .int .i64 u] 55)).heap.size = w.heap.size + 1 := by simp
  have hR := Res2.new (w.alloc (.cells #[.int .i64 b, .slice p n c, .int .i64 u] 55)) (.int .i64 0) (.int .i64 0) 101
  rw [e1] at hR
  have HR := Lib.hid hR
  have HX := Lib.hid hX
  have HKN := Lib.hid (rknown_any b u s n c p f _ (hs.below A0) (by omega))
  have A0 := Lib.hid A0
  obtain ⟨er, her⟩ : ∃ er, knownE b u n f s = er := ⟨_, rfl⟩
  rw [her] at hk HKN ⊢
  have hne : (er == 0) = false := by simpa using hk
  clear hs her e1 hR hX hn
  go_enter Tryz.func56, Tryz.ntmps56
  go_upto_region 1 with fail
  generalize (w.alloc (.cells #[.int .i64 b, .slice p n c, .int .i64 u] 55)).alloc (.cells #[.int .i64 0, .int .i64 0] 101) = W1 at *
  obtain ⟨x0, x1, x2⟩ := HX.out
  have zx := cell_lt x0
  go_upto_region 2 with (go_at_call 103; refine HKN.out.mono ?_; rintro e w2 ⟨rfl, hb2⟩; have HB2 := Lib.hid hb2; clear hb2)
  obtain ⟨⟨y0, r0⟩, ⟨y1, r1⟩, rz⟩ := HR.out.below HB2.out
  have z0 := rz 0
  have z1 := rz 1
  have zr := cell_lt r0
  clear rz x0 x1 x2 zx
  go_wp2_with fail
  refine bodyPost_ret (v := .tuple #[.agg #[.int .i64 0, .int .i64 0], .int .i64 er]) (by simp [results, Tryz.results56, go_sem, r0, r1]) rfl ⟨rfl, ?_⟩
  exact ((bt A0.out HB2.out).setCell (p := ⟨w.heap.size + 1, _, none⟩) (Nat.le_succ _) _).setCell (p := ⟨w.heap.size + 1, _, none⟩) (Nat.le_succ _) _
set_option maxHeartbeats 1000000 in
theorem rToGps_early {b u : Int} {n : Nat} {f : Nat → Int × Int} {s : Int} (hk : knownE b u n f s = 0) (hu : u ≤ 44244) (c : Nat) (p : Option Addr) (w : World) (hs : LpIn w f n p) (hn : n ≤ 1000) :
    Calls Tryz.prog 56 #[.agg #[.int .i64 b, .slice p n c, .int .i64 u], .int .i64 s] w fun e w' => e = .returned (.tuple #[.agg #[.int .i64 0, .int .i64 0], .int .i64 4]) ∧ Below w.heap.size w w' := by
  have A0 := below_alloc (below_alloc (Below.refl w.heap.size w) (.cells #[.int .i64 b, .slice p n c, .int .i64 u] 55)) (.cells #[.int .i64 0, .int .i64 0] 101)
  have hX := (TBox.new w b u n c p 55).below (below_alloc (Below.refl _ _) (.cells #[.int .i64 0, .int .i64 0] 101))
  have e1 : (w.alloc (.cells #[.int .i64 b, .slice p n c, .int .i64 u] 55)).heap.size = w.heap.size + 1 := by simp
  have hR := Res2.new (w.alloc (.cells #[.int .i64 b, .slice p n c, .int .i64 u] 55)) (.int .i64 0) (.int .i64 0) 101
  rw [e1] at hR
  have HR := Lib.hid hR
  have HX := Lib.hid hX
  have HKN := Lib.hid (rknown_any b u s n c p f _ (hs.below A0) (by omega))
  rw [hk] at HKN
  have A0 := Lib.hid A0
  clear hs e1 hR hX hn hk
  go_enter Tryz.func56, Tryz.ntmps56
  go_upto_region 1 with fail
  generalize (w.alloc (.cells #[.int .i64 b, .slice p n c, .int .i64 u] 55)).alloc (.cells #[.int .i64 0, .int .i64 0] 101) = W1 at *
  obtain ⟨x0, x1, x2⟩ := HX.out
  have zx := cell_lt x0
  go_upto_region 2 with (go_at_call 103; refine HKN.out.mono ?_; rintro e w2 ⟨rfl, hb2⟩; have HB2 := Lib.hid hb2; clear hb2)
  clear x0 x1 x2 zx
  obtain ⟨x0, x1, x2⟩ := HX.out.below HB2.out
  have zx := cell_lt x0
  obtain ⟨⟨y0, r0⟩, ⟨y1, r1⟩, rz⟩ := HR.out.below HB2.out
  have z0 := rz 0
  have z1 := rz 1
  have zr := cell_lt r0
  clear rz
  go_wp2_with fail
  refine bodyPost_ret (v := .tuple #[.agg #[.int .i64 0, .int .i64 0], .int .i64 4]) (by simp [results, Tryz.results56, go_sem, r0, r1]) rfl ⟨rfl, ?_⟩
  exact ((bt A0.out HB2.out).setCell (p := ⟨w.heap.size + 1, _, none⟩) (Nat.le_succ _) _).setCell (p := ⟨w.heap.size + 1, _, none⟩) (Nat.le_succ _) _
set_option maxHeartbeats 1000000 in
theorem rToGps_old {b u : Int} {n : Nat} {f : Nat → Int × Int} {s : Int} (hk : knownE b u n f s = 0) (hu : 44244 < u) (hq : s - beginS f n 44244 < 0) (c : Nat) (p : Option Addr) (w : World) (hs : LpIn w f n p) (hn : n ≤ 1000) :
    Calls Tryz.prog 56 #[.agg #[.int .i64 b, .slice p n c, .int .i64 u], .int .i64 s] w fun e w' => e = .returned (.tuple #[.agg #[.int .i64 0, .int .i64 0], .int .i64 4]) ∧ Below w.heap.size w w' := by
  have A0 := below_alloc (below_alloc (Below.refl w.heap.size w) (.cells #[.int .i64 b, .slice p n c, .int .i64 u] 55)) (.cells #[.int .i64 0, .int .i64 0] 101)
  have hX := (TBox.new w b u n c p 55).below (below_alloc (Below.refl _ _) (.cells #[.int .i64 0, .int .i64 0] 101))
  have e1 : (w.alloc (.cells #[.int .i64 b, .slice p n c, .int .i64 u] 55)).heap.size = w.heap.size + 1 := by simp
  have hR := Res2.new (w.alloc (.cells #[.int .i64 b, .slice p n c, .int .i64 u] 55)) (.int .i64 0) (.int .i64 0) 101
  rw [e1] at hR
  have HR := Lib.hid hR
  have HX := Lib.hid hX
  have HT := tab_ok (knownE_zero hk).1
  have hib := inB_bd (knownE_zero hk).2
  have htb := HT.total_bd
  have hg := HT.grow_bd 44244
  have hv : -1000 ≤ beginS f n 44244 ∧ beginS f n 44244 ≤ 1000000000 := by unfold beginS; omega
  have HKN := Lib.hid (rknown_any b u s n c p f _ (hs.below A0) (by omega))
  rw [hk] at HKN
  have HS := Lib.hid (hs.below A0)
  have HBG := Lib.hid (fun X (hL : LpIn X f n p) => rbegin_any HT 44244 c p X hL (by decide))
  have A0 := Lib.hid A0
  have hnu : ¬ u ≤ 44244 := by omega
  generalize beginS f n 44244 = BB at *
  have hlt : s < BB := by omega
  clear hs e1 hR hX hn hk HT hg htb hib
  go_enter Tryz.func56, Tryz.ntmps56
  go_upto_region 1 with fail
  generalize (w.alloc (.cells #[.int .i64 b, .slice p n c, .int .i64 u] 55)).alloc (.cells #[.int .i64 0, .int .i64 0] 101) = W1 at *
  obtain ⟨x0, x1, x2⟩ := HX.out
  have zx := cell_lt x0
  go_upto_region 2 with (go_at_call 103; refine HKN.out.mono ?_; rintro e w2 ⟨rfl, hb2⟩; have HB2 := Lib.hid hb2; clear hb2)
  clear x0 x1 x2 zx
  obtain ⟨x0, x1, x2⟩ := HX.out.below HB2.out
  have zx := cell_lt x0
  go_upto_region 5 with (go_at_call 96; refine (HBG.out _ (HS.out.below HB2.out)).mono ?_; rintro e w3 ⟨rfl, hb3⟩; have HB3 := Lib.hid hb3; clear hb3)
  obtain ⟨⟨y0, r0⟩, ⟨y1, r1⟩, rz⟩ := HR.out.below (bt HB2.out HB3.out)
  have z0 := rz 0
  have z1 := rz 1
  have zr := cell_lt r0
  clear rz x0 x1 x2 zx
  go_wp2_with fail
  refine bodyPost_ret (v := .tuple #[.agg #[.int .i64 0, .int .i64 0], .int .i64 4]) (by simp [results, Tryz.results56, go_sem, r0, r1]) rfl ⟨rfl, ?_⟩
  exact ((bt (bt A0.out HB2.out) HB3.out).setCell (p := ⟨w.heap.size + 1, _, none⟩) (Nat.le_succ _) _).setCell (p := ⟨w.heap.size + 1, _, none⟩) (Nat.le_succ _) _
set_option maxHeartbeats 1000000 in
theorem rToGps_ok {b u : Int} {n : Nat} {f : Nat → Int × Int} {s : Int} (hk : knownE b u n f s = 0) (hu : 44244 < u) (hq : 0 ≤ s - beginS f n 44244) (c : Nat) (p : Option Addr) (w : World) (hs : LpIn w f n p) (hn : n ≤ 1000) :
    Calls Tryz.prog 56 #[.agg #[.int .i64 b, .slice p n c, .int .i64 u], .int .i64 s] w fun e w' => e = .returned (.tuple #[.agg #[.int .i64 ((s - beginS f n 44244) / 604800 % 1024), .int .i64 ((s - beginS f n 44244) % 604800)], .int .i64 0]) ∧ Below w.heap.size w w' := by
  have A0 := below_alloc (below_alloc (Below.refl w.heap.size w) (.cells #[.int .i64 b, .slice p n c, .int .i64 u] 55)) (.cells #[.int .i64 0, .int .i64 0] 101)
  have hX := (TBox.new w b u n c p 55).below (below_alloc (Below.refl _ _) (.cells #[.int .i64 0, .int .i64 0] 101))
  have e1 : (w.alloc (.cells #[.int .i64 b, .slice p n c, .int .i64 u] 55)).heap.size = w.heap.size + 1 := by simp
  have hR := Res2.new (w.alloc (.cells #[.int .i64 b, .slice p n c, .int .i64 u] 55)) (.int .i64 0) (.int .i64 0) 101
  rw [e1] at hR
  have HR := Lib.hid hR
  have HX := Lib.hid hX
  have HT := tab_ok (knownE_zero hk).1
  have hib := inB_bd (knownE_zero hk).2
  have htb := HT.total_bd
  have hg := HT.grow_bd 44244
  have hv : -1000 ≤ beginS f n 44244 ∧ beginS f n 44244 ≤ 1000000000 := by unfold beginS; omega
  have HKN := Lib.hid (rknown_any b u s n c p f _ (hs.below A0) (by omega))
  rw [hk] at HKN
  have HS := Lib.hid (hs.below A0)
  have HBG := Lib.hid (fun X (hL : LpIn X f n p) => rbegin_any HT 44244 c p X hL (by decide))
  have A0 := Lib.hid A0
  have hnu : ¬ u ≤ 44244 := by omega
  generalize beginS f n 44244 = BB at *
  have hlt : ¬ s < BB := by omega
  have v1 : IntKind.i64.wrap (s - BB) = s - BB := IntWalk.i64_in _ (by omega)
  obtain ⟨Q, hQ⟩ : ∃ Q, s - BB = Q := ⟨_, rfl⟩
  rw [hQ] at hq v1 ⊢
  have v2 : IntKind.i64.wrap (s - BB) = Q := by rw [hQ]; exact v1
  obtain ⟨M, hM⟩ : ∃ M, Q % 619315200 = M := ⟨_, rfl⟩
  have q1 : Q.tmod 619315200 = M := by rw [Int.tmod_eq_emod_of_nonneg hq]; exact hM
  have q2 : M.tdiv 604800 = M / 604800 := Int.tdiv_eq_ediv_of_nonneg (by omega)
  have q3 : M.tmod 604800 = M % 604800 := Int.tmod_eq_emod_of_nonneg (by omega)
  have e2 : M / 604800 = Q / 604800 % 1024 := by omega
  have e3 : M % 604800 = Q % 604800 := by omega
  obtain ⟨E, hE⟩ : ∃ E, Q / 604800 % 1024 = E := ⟨_, rfl⟩
  obtain ⟨S, hS⟩ : ∃ S, Q % 604800 = S := ⟨_, rfl⟩
  rw [e2, hE] at q2
  rw [e3, hS] at q3
  rw [hE, hS]
  have q4 : IntKind.i64.wrap M = M := IntWalk.i64_in _ (by omega)
  have q5 : IntKind.i64.wrap E = E := IntWalk.i64_in _ (by omega)
  have q6 : IntKind.i64.wrap S = S := IntWalk.i64_in _ (by omega)
  clear hs e1 hR hX hn hk HT hg htb hib v1 hQ hM e2 e3 hE hS hq
  go_enter Tryz.func56, Tryz.ntmps56
  go_upto_region 1 with fail
  generalize (w.alloc (.cells #[.int .i64 b, .slice p n c, .int .i64 u] 55)).alloc (.cells #[.int .i64 0, .int .i64 0] 101) = W1 at *
  obtain ⟨x0, x1, x2⟩ := HX.out
  have zx := cell_lt x0
  go_upto_region 2 with (go_at_call 103; refine HKN.out.mono ?_; rintro e w2 ⟨rfl, hb2⟩; have HB2 := Lib.hid hb2; clear hb2)
  clear x0 x1 x2 zx
  obtain ⟨x0, x1, x2⟩ := HX.out.below HB2.out
  have zx := cell_lt x0
  go_upto_region 6 with (go_at_call 96; refine (HBG.out _ (HS.out.below HB2.out)).mono ?_; rintro e w3 ⟨rfl, hb3⟩; have HB3 := Lib.hid hb3; clear hb3)
  clear x0 x1 x2 zx
  obtain ⟨x0, x1, x2⟩ := (HX.out.below HB2.out).below HB3.out
  have zx := cell_lt x0
  go_upto_region 7 with (go_at_call 96; refine (HBG.out _ ((HS.out.below HB2.out).below HB3.out)).mono ?_; rintro e w4 ⟨rfl, hb4⟩; have HB4 := Lib.hid hb4; clear hb4)
  obtain ⟨⟨y0, r0⟩, ⟨y1, r1⟩, rz⟩ := HR.out.below (bt (bt HB2.out HB3.out) HB4.out)
  have z0 := rz 0
  have z1 := rz 1
  have zr := cell_lt r0
  clear rz x0 x1 x2 zx
  go_wp2_with fail
  refine bodyPost_ret (v := .tuple #[.agg #[.int .i64 E, .int .i64 S], .int .i64 0]) (by simp [results, Tryz.results56, go_sem, r0, r1]) rfl ⟨rfl, ?_⟩
  exact ((bt (bt (bt A0.out HB2.out) HB3.out) HB4.out).setCell (p := ⟨w.heap.size + 1, _, none⟩) (Nat.le_succ _) _).setCell (p := ⟨w.heap.size + 1, _, none⟩) (Nat.le_succ _) _
theorem tg_pair (b u s : Int) (n : Nat) (f : Nat → Int × Int) (hn : n ≤ 1000) : ∃ x y e, Pair 55 56 b u n f (fun t => #[t, .int .i64 s]) (.tuple #[.agg #[.int .i64 x, .int .i64 y], .int .i64 e]) := by
  by_cases hk : knownE b u n f s = 0
  · have HT := tab_ok (knownE_zero hk).1
    have hib := inB_bd (knownE_zero hk).2
    by_cases hu : u ≤ 44244
    · have hm := HT.begin_mono hu
      exact ⟨_, _, _, fun X c p hX hl h1 h2 => ToGps_old hk (by omega) c p X hX hl h1 h2, fun X c p hl => rToGps_early hk hu c p X hl hn⟩
    · by_cases hq : s - beginS f n 44244 < 0
      · exact ⟨_, _, _, fun X c p hX hl h1 h2 => ToGps_old hk hq c p X hX hl h1 h2, fun X c p hl => rToGps_old hk (by omega) hq c p X hl hn⟩
      · exact ⟨_, _, _, fun X c p hX hl h1 h2 => ToGps_ok hk (by omega) c p X hX hl h1 h2, fun X c p hl => rToGps_ok hk (by omega) (by omega) c p X hl hn⟩
  · exact ⟨_, _, _, fun X c p hX hl h1 h2 => ToGps_no hk c p X hX hl (by omega) h1 h2, fun X c p hl => rToGps_no hk c p X hl hn⟩
end Go.Proofs.YtgnfaemnehmgcaaGreatDoor.Cal
