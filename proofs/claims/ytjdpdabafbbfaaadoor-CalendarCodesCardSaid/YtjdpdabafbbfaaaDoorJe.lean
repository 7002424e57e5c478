/- Layer 9 (calendar): ToNtp, program and reference, errors too. (by gen_je.py) -/
import Derived.Test.YtjdpdabafbbfaaaDoorJb
import Derived.Test.YtjdpdabafbbfaaaDoorGg
import Derived.Test.YtjdpdabafbbfaaaDoorEf
namespace Go.Proofs.YtjdpdabafbbfaaaDoor.Cal
open Go Go.RowKit
attribute [local go_sem] Oper.semAt_some
theorem ntpz_start (w : World) (b u : Int) (n c : Nat) (p : Option Addr) : TBox (((w.alloc (.cells #[.int .i64 b, .slice p n c, .int .i64 u] 24)).alloc (.cells #[.int .i64 0, .int .i64 0] 26)).alloc (.cells #[.int .i64 0, .int .i64 0] 26)) w.heap.size b u n c p ∧ Res2 (((w.alloc (.cells #[.int .i64 b, .slice p n c, .int .i64 u] 24)).alloc (.cells #[.int .i64 0, .int .i64 0] 26)).alloc (.cells #[.int .i64 0, .int .i64 0] 26)) (w.heap.size + 1) ∧ ((((w.alloc (.cells #[.int .i64 b, .slice p n c, .int .i64 u] 24)).alloc (.cells #[.int .i64 0, .int .i64 0] 26)).alloc (.cells #[.int .i64 0, .int .i64 0] 26)).cell? ⟨w.heap.size + 1 + 1, 0, none⟩ = some (.int .i64 0) ∧ (((w.alloc (.cells #[.int .i64 b, .slice p n c, .int .i64 u] 24)).alloc (.cells #[.int .i64 0, .int .i64 0] 26)).alloc (.cells #[.int .i64 0, .int .i64 0] 26)).cell? ⟨w.heap.size + 1 + 1, 1, none⟩ = some (.int .i64 0)) ∧ Below w.heap.size w (((w.alloc (.cells #[.int .i64 b, .slice p n c, .int .i64 u] 24)).alloc (.cells #[.int .i64 0, .int .i64 0] 26)).alloc (.cells #[.int .i64 0, .int .i64 0] 26)) := by
  obtain ⟨h1, h2, h4⟩ := ntp_start w b u n c p
  have e2 : ((w.alloc (.cells #[.int .i64 b, .slice p n c, .int .i64 u] 24)).alloc (.cells #[.int .i64 0, .int .i64 0] 26)).heap.size = w.heap.size + 1 + 1 := by simp
  have h3 := two_cells ((w.alloc (.cells #[.int .i64 b, .slice p n c, .int .i64 u] 24)).alloc (.cells #[.int .i64 0, .int .i64 0] 26)) (.int .i64 0) (.int .i64 0) 26
  rw [e2] at h3
  exact ⟨h1, h2, h3, h4⟩
set_option maxHeartbeats 2000000 in
theorem ofNtp_tab (fv : Value) (b u s : Int) (n c : Nat) (p : Option Addr) (f : Nat → Int × Int) (w : World) (hw : Mon w) (hs : LpIn w f n p) (hn : n ≤ 1000000000000) (ht : tabE b u n f ≠ 0) :
    Calls Tryd.prog 39 #[.agg #[.int .i64 b, .slice p n c, .int .i64 u], .int .i64 s, fv] w fun e w' => e = .returned (.tuple #[.agg #[.int .i64 0, .int .i64 0], .int .i64 (tabE b u n f)]) ∧ Below w.heap.size w w' := by
  obtain ⟨hx0, hr0, hd0, A0⟩ := ntpz_start w b u n c p
  have HX0 := Lib.hid hx0
  have HR0 := Lib.hid hr0
  have HD0 := Lib.hid hd0
  clear hx0 hr0 hd0
  have HOP := Lib.hid (open_no b u n c p f _ (hw.below A0) (hs.below A0) hn ht)
  have A0 := Lib.hid A0
  obtain ⟨er, her⟩ : ∃ er, tabE b u n f = er := ⟨_, rfl⟩
  rw [her] at ht HOP ⊢
  have hne : (er == 0) = false := by simpa using ht
  clear hw hs her ht
  go_enter Tryd.func39, Tryd.ntmps39
  go_upto_region 2 with fail
  generalize ((w.alloc (.cells #[.int .i64 b, .slice p n c, .int .i64 u] 24)).alloc (.cells #[.int .i64 0, .int .i64 0] 26)).alloc (.cells #[.int .i64 0, .int .i64 0] 26) = W1 at *
  obtain ⟨x0, x1, x2⟩ := HX0.out
  have zx := cell_lt x0
  go_upto_region 3 with (go_at_call 31; refine HOP.out.mono ?_; rintro e w2 ⟨rfl, hb2⟩; have HB2 := Lib.hid hb2; clear hb2)
  clear x0 x1 x2 zx
  have hb3 := below_alloc (Below.refl w2.heap.size w2) (.cells #[.int .i64 0, .slice none 0 0, .int .i64 0, .map none] 77)
  have HB3 := Lib.hid (bt HB2.out hb3)
  clear hb3
  generalize w2.alloc (.cells #[.int .i64 0, .slice none 0 0, .int .i64 0, .map none] 77) = W3 at *
  obtain ⟨⟨q0, r0⟩, ⟨q1, r1⟩, rz⟩ := HR0.out.below (HB3.out)
  have z0 := rz 0
  have z1 := rz 1
  have zr := cell_lt r0
  clear rz
  have d0 := cell_below (HB3.out) HD0.out.1
  have d1 := cell_below (HB3.out) HD0.out.2
  have zd := cell_lt d0
  go_wp2
  refine bodyPost_ret (v := .tuple #[.agg #[.int .i64 0, .int .i64 0], .int .i64 er]) (by simp [results, Tryd.results39, go_sem, r0, r1]) rfl ⟨rfl, ?_⟩
  exact ((bt A0.out HB3.out).setCell (p := ⟨w.heap.size + 1, _, none⟩) (Nat.le_succ _) _).setCell (p := ⟨w.heap.size + 1, _, none⟩) (Nat.le_succ _) _
set_option maxHeartbeats 2000000 in
theorem ofNtp_rng (fv : Value) (b u s : Int) (n c : Nat) (p : Option Addr) (f : Nat → Int × Int) (w : World) (hw : Mon w) (hs : LpIn w f n p) (hc : n ≤ c) (hcm : c ≤ maxLen) (ht : tabE b u n f = 0) (hd : inB s (beginS f n u) = false) :
    Calls Tryd.prog 39 #[.agg #[.int .i64 b, .slice p n c, .int .i64 u], .int .i64 s, fv] w fun e w' => e = .returned (.tuple #[.agg #[.int .i64 0, .int .i64 0], .int .i64 6]) ∧ Below w.heap.size w w' := by
  obtain ⟨hx0, hr0, hd0, A0⟩ := ntpz_start w b u n c p
  have HX0 := Lib.hid hx0
  have HR0 := Lib.hid hr0
  have HD0 := Lib.hid hd0
  clear hx0 hr0 hd0
  have HTO := Lib.hid (tab_ok ht)
  have HOP := Lib.hid (open_ok b u n c p f _ (hw.below A0) (hs.below A0) (by have := HTO.out.n1; omega) ht)
  have HS := Lib.hid (hs.below A0)
  have HW := Lib.hid (hw.below A0)
  have A0 := Lib.hid A0
  have HD := Lib.hid hd
  unfold inB at HD
  have hub := HTO.out.total_bd
  clear hw hs ht hd
  go_enter Tryd.func39, Tryd.ntmps39
  go_upto_region 2 with fail
  generalize ((w.alloc (.cells #[.int .i64 b, .slice p n c, .int .i64 u] 24)).alloc (.cells #[.int .i64 0, .int .i64 0] 26)).alloc (.cells #[.int .i64 0, .int .i64 0] 26) = W1 at *
  obtain ⟨x0, x1, x2⟩ := HX0.out
  have zx := cell_lt x0
  go_upto_region 5 with (go_at_call 31; refine HOP.out.mono ?_; rintro e w2 ⟨mb, rfl, hM, hb2⟩; have HM := Lib.hid hM; have HB2 := Lib.hid hb2; clear hM hb2)
  clear x0 x1 x2 zx
  have hb3 := below_alloc (Below.refl w2.heap.size w2) (.cells #[.int .i64 b, .slice p n c, .int .i64 u, .map (some mb)] 77)
  have HB3 := Lib.hid (bt HB2.out hb3)
  have HX := Lib.hid (WBox.new w2 b u n c p mb)
  have HM3 := Lib.hid (HM.out.below hb3)
  have HS3 := Lib.hid (HS.out.below HB3.out)
  have HW3 := Lib.hid (HW.out.below HB3.out)
  clear hb3
  generalize w2.alloc (.cells #[.int .i64 b, .slice p n c, .int .i64 u, .map (some mb)] 77) = W3 at *
  obtain ⟨⟨x0, x1, x2⟩, x3⟩ := HX.out
  have zx := cell_lt x0
  have HTL := Lib.hid (total_any HTO.out c p W3 HS3.out hc hcm)
  have HIX := Lib.hid (fun X => index_any s (beginS f n u) X (by omega))
  rw [HD.out] at HIX
  generalize beginS f n u = tot at *
  go_upto_region 6 with (first | (go_at_call 48; refine HTL.out.mono ?_; rintro e w4 ⟨rfl, hb4⟩; have HB4 := Lib.hid hb4; clear hb4) | (go_at_call 42; refine (HIX.out _).mono ?_; rintro e w5 ⟨rfl, rfl⟩))
  obtain ⟨⟨q0, r0⟩, ⟨q1, r1⟩, rz⟩ := HR0.out.below (bt HB3.out HB4.out)
  have z0 := rz 0
  have z1 := rz 1
  have zr := cell_lt r0
  clear rz
  have d0 := cell_below (bt HB3.out HB4.out) HD0.out.1
  have d1 := cell_below (bt HB3.out HB4.out) HD0.out.2
  have zd := cell_lt d0
  go_wp2
  refine bodyPost_ret (v := .tuple #[.agg #[.int .i64 0, .int .i64 0], .int .i64 6]) (by simp [results, Tryd.results39, go_sem, r0, r1]) rfl ⟨rfl, ?_⟩
  exact ((bt (bt A0.out HB3.out) HB4.out).setCell (p := ⟨w.heap.size + 1, _, none⟩) (Nat.le_succ _) _).setCell (p := ⟨w.heap.size + 1, _, none⟩) (Nat.le_succ _) _
set_option maxHeartbeats 1000000 in
theorem ToNtp_no {b u : Int} {n : Nat} {f : Nat → Int × Int} {s : Int} (hk : knownE b u n f s ≠ 0) (c : Nat) (p : Option Addr) (w : World) (hw : Mon w) (hs : LpIn w f n p) (hn : n ≤ 1000000000000) (hc : n ≤ c) (hcm : c ≤ maxLen) :
    Calls Tryd.prog 12 #[.agg #[.int .i64 b, .slice p n c, .int .i64 u], .int .i64 s] w fun e w' => e = .returned (.tuple #[.agg #[.int .i64 0, .int .i64 0], .int .i64 (knownE b u n f s)]) ∧ Below w.heap.size w w' := by
  obtain ⟨hx, hr, A0⟩ := nts_start w b u n c p
  obtain ⟨x0, x1, x2⟩ := hx
  have HR := Lib.hid hr
  have H : Calls Tryd.prog 39 #[.agg #[.int .i64 b, .slice p n c, .int .i64 u], .int .i64 s, .func (.func 40) #[] #[]] ((w.alloc (.cells #[.int .i64 b, .slice p n c, .int .i64 u] 24)).alloc (.cells #[.int .i64 0, .int .i64 0] 26)) fun e w' => e = .returned (.tuple #[.agg #[.int .i64 0, .int .i64 0], .int .i64 (knownE b u n f s)]) ∧ Below ((w.alloc (.cells #[.int .i64 b, .slice p n c, .int .i64 u] 24)).alloc (.cells #[.int .i64 0, .int .i64 0] 26)).heap.size ((w.alloc (.cells #[.int .i64 b, .slice p n c, .int .i64 u] 24)).alloc (.cells #[.int .i64 0, .int .i64 0] 26)) w' := by
    unfold knownE at hk ⊢
    by_cases ht : tabE b u n f = 0
    · rw [if_pos ht] at hk ⊢
      by_cases hi : inB s (beginS f n u) = true
      · rw [if_pos hi] at hk; exact absurd rfl hk
      · rw [if_neg hi]
        exact ofNtp_rng _ b u s n c p f _ (hw.below A0) (hs.below A0) hc hcm ht (by simpa using hi)
    · rw [if_neg ht]
      exact ofNtp_tab _ b u s n c p f _ (hw.below A0) (hs.below A0) hn ht
  have H := Lib.hid H
  have A0 := Lib.hid A0
  obtain ⟨vv, hvv⟩ : ∃ vv, knownE b u n f s = vv := ⟨_, rfl⟩
  rw [hvv] at H ⊢
  clear hw hs hk hvv hr
  go_enter Tryd.func12, Tryd.ntmps12
  go_upto_region 1 with fail
  generalize (w.alloc (.cells #[.int .i64 b, .slice p n c, .int .i64 u] 24)).alloc (.cells #[.int .i64 0, .int .i64 0] 26) = W1 at *
  have zx := cell_lt x0
  go_wp2_with fail
  refine H.out.mono ?_
  rintro e w2 ⟨rfl, hb2⟩
  have HB2 := Lib.hid hb2
  clear hb2 x0 x1 x2 zx
  obtain ⟨⟨q0, r0⟩, ⟨q1, r1⟩, rz⟩ := HR.out.below HB2.out
  have z0 := rz 0
  have z1 := rz 1
  have zr := cell_lt r0
  clear rz
  go_wp2
  refine bodyPost_ret (v := .tuple #[.agg #[.int .i64 0, .int .i64 0], .int .i64 vv]) (by simp [results, Tryd.results12, go_sem, r0, r1]) rfl ⟨rfl, ?_⟩
  exact ((bt A0.out HB2.out).setCell (p := ⟨w.heap.size + 1, _, none⟩) (Nat.le_succ _) _).setCell (p := ⟨w.heap.size + 1, _, none⟩) (Nat.le_succ _) _
set_option maxHeartbeats 1000000 in
theorem rToNtp_ok {b u : Int} {n : Nat} {f : Nat → Int × Int} {s : Int} (hk : knownE b u n f s = 0) {D : Int} (hD : IsDayOf u n f s D) (c : Nat) (p : Option Addr) (w : World) (hs : LpIn w f n p) :
    Calls Tryd.prog 13 #[.agg #[.int .i64 b, .slice p n c, .int .i64 u], .int .i64 s] w fun e w' => e = .returned (.tuple #[.agg #[.int .i64 ((unixS f n D s + 2208988800) / 4294967296), .int .i64 ((unixS f n D s + 2208988800) % 4294967296)], .int .i64 0]) ∧ Below w.heap.size w w' := by
  have A0 := below_alloc (below_alloc (Below.refl w.heap.size w) (.cells #[.int .i64 b, .slice p n c, .int .i64 u] 33)) (.cells #[.int .i64 0, .int .i64 0] 47)
  have hX := (TBox.new w b u n c p 33).below (below_alloc (Below.refl _ _) (.cells #[.int .i64 0, .int .i64 0] 47))
  have e1 : (w.alloc (.cells #[.int .i64 b, .slice p n c, .int .i64 u] 33)).heap.size = w.heap.size + 1 := by simp
  have hR := Res2.new (w.alloc (.cells #[.int .i64 b, .slice p n c, .int .i64 u] 33)) (.int .i64 0) (.int .i64 0) 47
  rw [e1] at hR
  have HR := Lib.hid hR
  have HX := Lib.hid hX
  have hub := (tab_ok (knownE_zero hk).1).unix_bd hD
  have HU := Lib.hid (rUnix_ok hk hD c p _ (hs.below A0))
  have A0 := Lib.hid A0
  generalize unixS f n D s = U at *
  have v1 : IntKind.i64.wrap (U + 2208988800) = U + 2208988800 := IntWalk.i64_in _ (by omega)
  obtain ⟨N, hN⟩ : ∃ N, U + 2208988800 = N := ⟨_, rfl⟩
  rw [hN] at v1 ⊢
  have q1 : N.tdiv 4294967296 = N / 4294967296 := Int.tdiv_eq_ediv_of_nonneg (by omega)
  have q2 : N.tmod 4294967296 = N % 4294967296 := Int.tmod_eq_emod_of_nonneg (by omega)
  obtain ⟨E, hE⟩ : ∃ E, N / 4294967296 = E := ⟨_, rfl⟩
  obtain ⟨S, hS⟩ : ∃ S, N % 4294967296 = S := ⟨_, rfl⟩
  have q3 : IntKind.i64.wrap E = E := IntWalk.i64_in _ (by omega)
  have q4 : IntKind.i64.wrap S = S := IntWalk.i64_in _ (by omega)
  rw [hE] at q1 ⊢
  rw [hS] at q2 ⊢
  have v2 : IntKind.i64.wrap (U + 2208988800) = N := by rw [hN]; exact v1
  clear hs hk hD hub hN hE hS e1 hR v1 hX
  go_enter Tryd.func13, Tryd.ntmps13
  go_upto_region 1 with fail
  generalize (w.alloc (.cells #[.int .i64 b, .slice p n c, .int .i64 u] 33)).alloc (.cells #[.int .i64 0, .int .i64 0] 47) = W1 at *
  obtain ⟨x0, x1, x2⟩ := HX.out
  have zx := cell_lt x0
  go_upto_region 2 with (go_at_call 8; refine HU.out.mono ?_; rintro e w2 ⟨rfl, hb2⟩; have HB2 := Lib.hid hb2; clear hb2)
  obtain ⟨⟨y0, r0⟩, ⟨y1, r1⟩, rz⟩ := HR.out.below HB2.out
  have z0 := rz 0
  have z1 := rz 1
  have zr := cell_lt r0
  clear rz x0 x1 x2 zx
  go_wp2_with fail
  refine bodyPost_ret (v := .tuple #[.agg #[.int .i64 E, .int .i64 S], .int .i64 0]) (by simp [results, Tryd.results13, go_sem, r0, r1]) rfl ⟨rfl, ?_⟩
  exact ((bt A0.out HB2.out).setCell (p := ⟨w.heap.size + 1, _, none⟩) (Nat.le_succ _) _).setCell (p := ⟨w.heap.size + 1, _, none⟩) (Nat.le_succ _) _
set_option maxHeartbeats 1000000 in
theorem rToNtp_no {b u : Int} {n : Nat} {f : Nat → Int × Int} {s : Int} (hk : knownE b u n f s ≠ 0) (c : Nat) (p : Option Addr) (w : World) (hs : LpIn w f n p) (hn : n ≤ 1000) :
    Calls Tryd.prog 13 #[.agg #[.int .i64 b, .slice p n c, .int .i64 u], .int .i64 s] w fun e w' => e = .returned (.tuple #[.agg #[.int .i64 0, .int .i64 0], .int .i64 (knownE b u n f s)]) ∧ Below w.heap.size w w' := by
  have A0 := below_alloc (below_alloc (Below.refl w.heap.size w) (.cells #[.int .i64 b, .slice p n c, .int .i64 u] 33)) (.cells #[.int .i64 0, .int .i64 0] 47)
  have hX := (TBox.new w b u n c p 33).below (below_alloc (Below.refl _ _) (.cells #[.int .i64 0, .int .i64 0] 47))
  have e1 : (w.alloc (.cells #[.int .i64 b, .slice p n c, .int .i64 u] 33)).heap.size = w.heap.size + 1 := by simp
  have hR := Res2.new (w.alloc (.cells #[.int .i64 b, .slice p n c, .int .i64 u] 33)) (.int .i64 0) (.int .i64 0) 47
  rw [e1] at hR
  have HR := Lib.hid hR
  have HX := Lib.hid hX
  have HU := Lib.hid (rUnix_no hk c p _ (hs.below A0) (by omega))
  have A0 := Lib.hid A0
  obtain ⟨er, her⟩ : ∃ er, knownE b u n f s = er := ⟨_, rfl⟩
  rw [her] at hk HU ⊢
  have hne : (er == 0) = false := by simpa using hk
  clear hs her e1 hR hX hn
  go_enter Tryd.func13, Tryd.ntmps13
  go_upto_region 1 with fail
  generalize (w.alloc (.cells #[.int .i64 b, .slice p n c, .int .i64 u] 33)).alloc (.cells #[.int .i64 0, .int .i64 0] 47) = W1 at *
  obtain ⟨x0, x1, x2⟩ := HX.out
  have zx := cell_lt x0
  go_upto_region 2 with (go_at_call 8; refine HU.out.mono ?_; rintro e w2 ⟨rfl, hb2⟩; have HB2 := Lib.hid hb2; clear hb2)
  obtain ⟨⟨y0, r0⟩, ⟨y1, r1⟩, rz⟩ := HR.out.below HB2.out
  have z0 := rz 0
  have z1 := rz 1
  have zr := cell_lt r0
  clear rz x0 x1 x2 zx
  go_wp2_with fail
  refine bodyPost_ret (v := .tuple #[.agg #[.int .i64 0, .int .i64 0], .int .i64 er]) (by simp [results, Tryd.results13, go_sem, r0, r1]) rfl ⟨rfl, ?_⟩
  exact ((bt A0.out HB2.out).setCell (p := ⟨w.heap.size + 1, _, none⟩) (Nat.le_succ _) _).setCell (p := ⟨w.heap.size + 1, _, none⟩) (Nat.le_succ _) _
theorem tn_pair (b u s : Int) (n : Nat) (f : Nat → Int × Int) (hn : n ≤ 1000) : ∃ x y e, Pair 12 13 b u n f (fun t => #[t, .int .i64 s]) (.tuple #[.agg #[.int .i64 x, .int .i64 y], .int .i64 e]) := by
  by_cases hk : knownE b u n f s = 0
  · obtain ⟨D, hD⟩ := known_day hk
    exact ⟨_, _, _, fun X c p hX hl h1 h2 => ToNtp_ok hk hD c p X hX hl h1 h2, fun X c p hl => rToNtp_ok hk hD c p X hl⟩
  · exact ⟨_, _, _, fun X c p hX hl h1 h2 => ToNtp_no hk c p X hX hl (by omega) h1 h2, fun X c p hl => rToNtp_no hk c p X hl hn⟩
theorem un_pair (b u s : Int) (n : Nat) (f : Nat → Int × Int) (hn : n ≤ 1000) : ∃ x e, Pair 7 8 b u n f (fun t => #[t, .int .i64 s]) (.tuple #[.int .i64 x, .int .i64 e]) := by
  by_cases hk : knownE b u n f s = 0
  · obtain ⟨D, hD⟩ := known_day hk
    exact ⟨unixS f n D s, 0, fun X c p hX hl h1 h2 => Unix_ok hk hD c p X hX hl h1 h2, fun X c p hl => rUnix_ok hk hD c p X hl⟩
  · exact ⟨_, _, fun X c p hX hl h1 h2 => Unix_no hk c p X hX hl (by omega) h1 h2, fun X c p hl => rUnix_no hk c p X hl (by omega)⟩
end Go.Proofs.YtjdpdabafbbfaaaDoor.Cal
