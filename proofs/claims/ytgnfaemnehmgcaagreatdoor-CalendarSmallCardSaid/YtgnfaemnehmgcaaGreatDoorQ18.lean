/-  ·  ·  -/
import Derived.Test.YtgnfaemnehmgcaaGreatDoorQ07
import Derived.Test.YtgnfaemnehmgcaaGreatDoorQ12
namespace Go.Proofs.YtgnfaemnehmgcaaGreatDoor.Cal
open Go Go.RowKit
attribute [local go_sem] Oper.semAt_some
def cmpI (x y : Int) : Int := if x < y then -1 else if y < x then 1 else 0
theorem isNaN_any (x : Int) (w : World) : Calls Tryz.prog 137 #[.int .i64 x] w fun e w' => e = .returned (.bool false) ∧ w = w' := by
  go_enter Tryz.func137, Tryz.ntmps137
  go_wp2_with fail
  go_ret
  exact ⟨by first | rfl | simp, rfl⟩
theorem cmp_any (x y : Int) (w : World) : Calls Tryz.prog 116 #[.int .i64 x, .int .i64 y] w fun e w' => e = .returned (.int .i64 (cmpI x y)) ∧ w = w' := by
  by_cases h1 : x < y
  · have HV := Lib.hid (show (-1 : Int) = cmpI x y by unfold cmpI; rw [if_pos h1])
    go_enter Tryz.func116, Tryz.ntmps116
    go_wp2_with (go_at_call 137; refine (isNaN_any _ _).mono ?_; rintro e w' ⟨rfl, rfl⟩)
    go_ret
    exact ⟨ret_i64 HV.out, rfl⟩
  · by_cases h2 : y < x
    · have HV := Lib.hid (show (1 : Int) = cmpI x y by unfold cmpI; rw [if_neg h1, if_pos h2])
      go_enter Tryz.func116, Tryz.ntmps116
      go_wp2_with (go_at_call 137; refine (isNaN_any _ _).mono ?_; rintro e w' ⟨rfl, rfl⟩)
      go_ret
      exact ⟨ret_i64 HV.out, rfl⟩
    · have HV := Lib.hid (show (0 : Int) = cmpI x y by unfold cmpI; rw [if_neg h1, if_neg h2])
      go_enter Tryz.func116, Tryz.ntmps116
      go_wp2_with (go_at_call 137; refine (isNaN_any _ _).mono ?_; rintro e w' ⟨rfl, rfl⟩)
      go_ret
      exact ⟨ret_i64 HV.out, rfl⟩
end Go.Proofs.YtgnfaemnehmgcaaGreatDoor.Cal
namespace Go.Proofs.YtgnfaemnehmgcaaGreatDoor.Cal
open Go Go.RowKit
attribute [local go_sem] Oper.semAt_some
set_option maxHeartbeats 1000000 in
theorem Unix_no {b u : Int} {n : Nat} {f : Nat → Int × Int} {s : Int} (hk : knownE b u n f s ≠ 0) (c : Nat) (p : Option Addr) (w : World) (hw : Mon w) (hs : LpIn w f n p) (hn : n ≤ 1000000000000) (hc : n ≤ c) (hcm : c ≤ maxLen) :
    Calls Tryz.prog 48 #[.agg #[.int .i64 b, .slice p n c, .int .i64 u], .int .i64 s] w fun e w' => e = .returned (.tuple #[.int .i64 0, .int .i64 (knownE b u n f s)]) ∧ Below w.heap.size w w' := by
  have A0 := below_alloc (Below.refl w.heap.size w) (.cells #[.int .i64 b, .slice p n c, .int .i64 u] 24)
  obtain ⟨x0, x1, x2⟩ := TBox.new w b u n c p 24
  have H : Calls Tryz.prog 105 #[.agg #[.int .i64 b, .slice p n c, .int .i64 u], .int .i64 s, .func (.func 108) #[] #[]] (w.alloc (.cells #[.int .i64 b, .slice p n c, .int .i64 u] 24)) fun e w' => e = .returned (.tuple #[.int .i64 0, .int .i64 (knownE b u n f s)]) ∧ Below (w.alloc (.cells #[.int .i64 b, .slice p n c, .int .i64 u] 24)).heap.size (w.alloc (.cells #[.int .i64 b, .slice p n c, .int .i64 u] 24)) w' := by
    unfold knownE at hk ⊢
    by_cases ht : tabE b u n f = 0
    · rw [if_pos ht] at hk ⊢
      by_cases hi : inB s (beginS f n u) = true
      · rw [if_pos hi] at hk; exact absurd rfl hk
      · rw [if_neg hi]
        exact ofInt_rng _ b u s n c p f _ (hw.below A0) (hs.below A0) hc hcm ht (by simpa using hi)
    · rw [if_neg ht]
      exact ofInt_tab _ b u s n c p f _ (hw.below A0) (hs.below A0) hn ht
  have H := Lib.hid H
  have A0 := Lib.hid A0
  obtain ⟨vv, hvv⟩ : ∃ vv, knownE b u n f s = vv := ⟨_, rfl⟩
  rw [hvv] at H ⊢
  clear hw hs hk hvv
  go_enter Tryz.func48, Tryz.ntmps48
  go_upto_region 1 with fail
  generalize w.alloc (.cells #[.int .i64 b, .slice p n c, .int .i64 u] 24) = W1 at *
  have zx := cell_lt x0
  go_wp2_with (go_at_call 105; refine H.out.mono ?_; rintro e w2 ⟨rfl, hb2⟩; have HB2 := Lib.hid hb2; clear hb2)
  go_ret2
  exact ⟨rfl, bt A0.out HB2.out⟩
def unixS (f : Nat → Int × Int) (n : Nat) (D s : Int) : Int := 86400 * (D - 40587) + (s - beginS f n D)
theorem TabOk.unix_bd {b u : Int} {n : Nat} {f : Nat → Int × Int} (ht : TabOk b u n f) {s D : Int} (hD : IsDayOf u n f s D) : 63072000 ≤ unixS f n D s ∧ unixS f n D s ≤ 10000000000 := by
  have hd1 := hD.d1; have hd2 := hD.d2; have hu2 := ht.u2
  have hrb := hD.rest_bd ht
  unfold unixS; omega
set_option maxHeartbeats 1000000 in
theorem wntp_any {b u : Int} {n : Nat} {f : Nat → Int × Int} (ht : TabOk b u n f) {s D : Int} (hD : IsDayOf u n f s D) (c : Nat) (p : Option Addr) (mb : Nat) (w : World) (hs : LpIn w f n p) (hc : n ≤ c) (hcm : c ≤ maxLen) :
    Calls Tryz.prog 110 #[.agg #[.int .i64 b, .slice p n c, .int .i64 u, .map (some mb)], .int .i64 s] w fun e w' => e = .returned (.agg #[.int .i64 ((unixS f n D s + 2208988800) / 4294967296), .int .i64 ((unixS f n D s + 2208988800) % 4294967296)]) ∧ Below w.heap.size w w' := by
  have A0 := below_alloc (below_alloc (Below.refl w.heap.size w) (.cells #[.int .i64 b, .slice p n c, .int .i64 u, .map (some mb)] 132)) (.cells #[.int .i64 0, .int .i64 0] 42)
  have hX := (WBox.new w b u n c p mb).below (below_alloc (Below.refl _ _) (.cells #[.int .i64 0, .int .i64 0] 42))
  have e1 : (w.alloc (.cells #[.int .i64 b, .slice p n c, .int .i64 u, .map (some mb)] 132)).heap.size = w.heap.size + 1 := by simp
  have hR := Res2.new (w.alloc (.cells #[.int .i64 b, .slice p n c, .int .i64 u, .map (some mb)] 132)) (.int .i64 0) (.int .i64 0) 42
  rw [e1] at hR
  have hub := ht.unix_bd hD
  have HU := Lib.hid (wunix_any ht hD c p mb _ (hs.below A0) hc hcm)
  change Hid (Calls _ _ _ _ (fun e w' => e = .returned (.int .i64 (unixS f n D s)) ∧ _)) at HU
  generalize unixS f n D s = U at *
  have v1 : IntKind.i64.wrap (U + 2208988800) = U + 2208988800 := IntWalk.i64_in _ (by omega)
  obtain ⟨N, hN⟩ : ∃ N, U + 2208988800 = N := ⟨_, rfl⟩
  rw [hN] at v1 ⊢
  have q1 : N.tdiv 4294967296 = N / 4294967296 := Int.tdiv_eq_ediv_of_nonneg (by omega)
  have q2 : N.tmod 4294967296 = N % 4294967296 := Int.tmod_eq_emod_of_nonneg (by omega)
  obtain ⟨E, hE⟩ : ∃ E, N / 4294967296 = E := ⟨_, rfl⟩
  obtain ⟨S, hS⟩ : ∃ S, N % 4294967296 = S := ⟨_, rfl⟩
  have q3 : IntKind.i64.wrap E = E := IntWalk.i64_in _ (by omega)
  have q4 : IntKind.i64.wrap S = S := IntWalk.i64_in _ (by omega)
  rw [hE] at q1 ⊢
  rw [hS] at q2 ⊢
  have v2 : IntKind.i64.wrap (U + 2208988800) = N := by rw [hN]; exact v1
  have A0 := Lib.hid A0
  have HR := Lib.hid hR
  clear hs ht hD hub hN hE hS e1 hR v1
  go_enter Tryz.func110, Tryz.ntmps110
  go_upto_region 1 with fail
  generalize (w.alloc (.cells #[.int .i64 b, .slice p n c, .int .i64 u, .map (some mb)] 132)).alloc (.cells #[.int .i64 0, .int .i64 0] 42) = W1 at *
  obtain ⟨⟨x0, x1, x2⟩, x3⟩ := hX
  have zx := cell_lt x0
  go_upto_region 2 with (go_at_call 108; refine HU.out.mono ?_; rintro e w2 ⟨rfl, hb2⟩; have HB2 := Lib.hid hb2; clear hb2)
  obtain ⟨⟨y0, r0⟩, ⟨y1, r1⟩, rz⟩ := HR.out.below HB2.out
  have z0 := rz 0
  have z1 := rz 1
  have zr := cell_lt r0
  clear rz x0 x1 x2 x3 zx
  go_wp2_with fail
  refine bodyPost_ret (v := .agg #[.int .i64 E, .int .i64 S]) (by simp [results, Tryz.results110, go_sem, r0, r1]) rfl ⟨rfl, ?_⟩
  exact ((bt A0.out HB2.out).setCell (p := ⟨w.heap.size + 1, _, none⟩) (Nat.le_succ _) _).setCell (p := ⟨w.heap.size + 1, _, none⟩) (Nat.le_succ _) _
theorem ntp_start (w : World) (b u : Int) (n c : Nat) (p : Option Addr) : TBox (((w.alloc (.cells #[.int .i64 b, .slice p n c, .int .i64 u] 24)).alloc (.cells #[.int .i64 0, .int .i64 0] 42)).alloc (.cells #[.int .i64 0, .int .i64 0] 42)) w.heap.size b u n c p ∧ Res2 (((w.alloc (.cells #[.int .i64 b, .slice p n c, .int .i64 u] 24)).alloc (.cells #[.int .i64 0, .int .i64 0] 42)).alloc (.cells #[.int .i64 0, .int .i64 0] 42)) (w.heap.size + 1) ∧ Below w.heap.size w (((w.alloc (.cells #[.int .i64 b, .slice p n c, .int .i64 u] 24)).alloc (.cells #[.int .i64 0, .int .i64 0] 42)).alloc (.cells #[.int .i64 0, .int .i64 0] 42)) := by
  have b1 := below_alloc (Below.refl w.heap.size w) (.cells #[.int .i64 b, .slice p n c, .int .i64 u] 24)
  have h1 := TBox.new w b u n c p 24
  have e1 : (w.alloc (.cells #[.int .i64 b, .slice p n c, .int .i64 u] 24)).heap.size = w.heap.size + 1 := by simp
  generalize w.alloc (.cells #[.int .i64 b, .slice p n c, .int .i64 u] 24) = W1 at *
  have b2 := below_alloc (Below.refl W1.heap.size W1) (.cells #[.int .i64 0, .int .i64 0] 42)
  have h2 := Res2.new W1 (.int .i64 0) (.int .i64 0) 42
  have e2 : (W1.alloc (.cells #[.int .i64 0, .int .i64 0] 42)).heap.size = w.heap.size + 1 + 1 := by simp [e1]
  rw [e1] at h2
  have h1' := h1.below b2
  have b2' := bt b1 b2
  generalize W1.alloc (.cells #[.int .i64 0, .int .i64 0] 42) = W2 at *
  have b3 := below_alloc (Below.refl W2.heap.size W2) (.cells #[.int .i64 0, .int .i64 0] 42)
  exact ⟨h1'.below b3, h2.below b3, bt b2' b3⟩
set_option maxHeartbeats 2000000 in
theorem ofNtp_nt (b u s : Int) (n c : Nat) (p : Option Addr) (f : Nat → Int × Int) (v0 v1 : Int) (w : World) (hw : Mon w) (hs : LpIn w f n p) (hc : n ≤ c) (hcm : c ≤ maxLen) (ht : tabE b u n f = 0) (hd : inB s (beginS f n u) = true) (hf : FOk 110 b u n c p f s (.agg #[.int .i64 v0, .int .i64 v1])) :
    Calls Tryz.prog 109 #[.agg #[.int .i64 b, .slice p n c, .int .i64 u], .int .i64 s, .func (.func 110) #[] #[]] w fun e w' => e = .returned (.tuple #[.agg #[.int .i64 v0, .int .i64 v1], .int .i64 0]) ∧ Below w.heap.size w w' := by
  have HF := Lib.hid hf
  clear hf
  obtain ⟨hx0, hr0, A0⟩ := ntp_start w b u n c p
  have HX0 := Lib.hid hx0
  have HR0 := Lib.hid hr0
  clear hx0 hr0
  have HTO := Lib.hid (tab_ok ht)
  have HOP := Lib.hid (open_ok b u n c p f _ (hw.below A0) (hs.below A0) (by have := HTO.out.n1; omega) ht)
  have HS := Lib.hid (hs.below A0)
  have HW := Lib.hid (hw.below A0)
  have A0 := Lib.hid A0
  have HD := Lib.hid hd
  unfold inB at HD
  have hub := HTO.out.total_bd
  clear hw hs ht hd
  go_enter Tryz.func109, Tryz.ntmps109
  go_upto_region 2 with fail
  generalize ((w.alloc (.cells #[.int .i64 b, .slice p n c, .int .i64 u] 24)).alloc (.cells #[.int .i64 0, .int .i64 0] 42)).alloc (.cells #[.int .i64 0, .int .i64 0] 42) = W1 at *
  obtain ⟨x0, x1, x2⟩ := HX0.out
  have zx := cell_lt x0
  go_upto_region 5 with (go_at_call 82; refine HOP.out.mono ?_; rintro e w2 ⟨mb, rfl, hM, hb2⟩; have HM := Lib.hid hM; have HB2 := Lib.hid hb2; clear hM hb2)
  clear x0 x1 x2 zx
  have hb3 := below_alloc (Below.refl w2.heap.size w2) (.cells #[.int .i64 b, .slice p n c, .int .i64 u, .map (some mb)] 132)
  have HB3 := Lib.hid (bt HB2.out hb3)
  have HX := Lib.hid (WBox.new w2 b u n c p mb)
  have HM3 := Lib.hid (HM.out.below hb3)
  have HS3 := Lib.hid (HS.out.below HB3.out)
  have HW3 := Lib.hid (HW.out.below HB3.out)
  clear hb3
  generalize w2.alloc (.cells #[.int .i64 b, .slice p n c, .int .i64 u, .map (some mb)] 132) = W3 at *
  obtain ⟨⟨x0, x1, x2⟩, x3⟩ := HX.out
  have zx := cell_lt x0
  have HTL := Lib.hid (total_any HTO.out c p W3 HS3.out hc hcm)
  have HIX := Lib.hid (fun X => index_any s (beginS f n u) X (by omega))
  rw [HD.out] at HIX
  generalize beginS f n u = tot at *
  go_upto_region 7 with (first | (go_at_call 99; refine HTL.out.mono ?_; rintro e w4 ⟨rfl, hb4⟩; have HB4 := Lib.hid hb4; clear hb4) | (go_at_call 111; refine (HIX.out _).mono ?_; rintro e w5 ⟨rfl, rfl⟩))
  clear x0 x1 x2 x3 zx
  obtain ⟨⟨x0, x1, x2⟩, x3⟩ := HX.out.below HB4.out
  have zx := cell_lt x0
  have HG := Lib.hid (HF.out mb w4 (HW3.out.below HB4.out) (HS3.out.below HB4.out) (HM3.out.below HB4.out))
  go_wp2_with fail
  refine HG.out.mono ?_
  rintro e w5 ⟨rfl, hb5⟩
  have HB5 := Lib.hid hb5
  clear hb5 x0 x1 x2 x3 zx
  obtain ⟨⟨q0, r0⟩, ⟨q1, r1⟩, rz⟩ := HR0.out.below (bt (bt HB3.out HB4.out) HB5.out)
  have z0 := rz 0
  have z1 := rz 1
  have zr := cell_lt r0
  clear rz
  go_wp2
  refine bodyPost_ret (v := .tuple #[.agg #[.int .i64 v0, .int .i64 v1], .int .i64 0]) (by simp [results, Tryz.results109, go_sem, r0, r1]) rfl ⟨rfl, ?_⟩
  exact ((bt (bt (bt A0.out HB3.out) HB4.out) HB5.out).setCell (p := ⟨w.heap.size + 1, _, none⟩) (Nat.le_succ _) _).setCell (p := ⟨w.heap.size + 1, _, none⟩) (Nat.le_succ _) _
theorem nts_start (w : World) (b u : Int) (n c : Nat) (p : Option Addr) : TBox ((w.alloc (.cells #[.int .i64 b, .slice p n c, .int .i64 u] 24)).alloc (.cells #[.int .i64 0, .int .i64 0] 42)) w.heap.size b u n c p ∧ Res2 ((w.alloc (.cells #[.int .i64 b, .slice p n c, .int .i64 u] 24)).alloc (.cells #[.int .i64 0, .int .i64 0] 42)) (w.heap.size + 1) ∧ Below w.heap.size w ((w.alloc (.cells #[.int .i64 b, .slice p n c, .int .i64 u] 24)).alloc (.cells #[.int .i64 0, .int .i64 0] 42)) := by
  have b1 := below_alloc (Below.refl w.heap.size w) (.cells #[.int .i64 b, .slice p n c, .int .i64 u] 24)
  have h1 := TBox.new w b u n c p 24
  have e1 : (w.alloc (.cells #[.int .i64 b, .slice p n c, .int .i64 u] 24)).heap.size = w.heap.size + 1 := by simp
  generalize w.alloc (.cells #[.int .i64 b, .slice p n c, .int .i64 u] 24) = W1 at *
  have b2 := below_alloc (Below.refl W1.heap.size W1) (.cells #[.int .i64 0, .int .i64 0] 42)
  have h2 := Res2.new W1 (.int .i64 0) (.int .i64 0) 42
  rw [e1] at h2
  exact ⟨h1.below b2, h2, bt b1 b2⟩
set_option maxHeartbeats 1000000 in
theorem ToNtp_ok {b u : Int} {n : Nat} {f : Nat → Int × Int} {s : Int} (hk : knownE b u n f s = 0) {D : Int} (hD : IsDayOf u n f s D) (c : Nat) (p : Option Addr) (w : World) (hw : Mon w) (hs : LpIn w f n p) (hc : n ≤ c) (hcm : c ≤ maxLen) :
    Calls Tryz.prog 51 #[.agg #[.int .i64 b, .slice p n c, .int .i64 u], .int .i64 s] w fun e w' => e = .returned (.tuple #[.agg #[.int .i64 ((unixS f n D s + 2208988800) / 4294967296), .int .i64 ((unixS f n D s + 2208988800) % 4294967296)], .int .i64 0]) ∧ Below w.heap.size w w' := by
  obtain ⟨ht, hi⟩ := knownE_zero hk
  have HT := tab_ok ht
  obtain ⟨hx, hr, A0⟩ := nts_start w b u n c p
  obtain ⟨x0, x1, x2⟩ := hx
  have HR := Lib.hid hr
  have H := Lib.hid (ofNtp_nt b u s n c p f ((unixS f n D s + 2208988800) / 4294967296) ((unixS f n D s + 2208988800) % 4294967296) _ (hw.below A0) (hs.below A0) hc hcm ht hi (fun mb X hX hl hm => wntp_any HT hD c p mb X hl hc hcm))
  have A0 := Lib.hid A0
  clear hw hs hk ht hi HT hr
  generalize (unixS f n D s + 2208988800) / 4294967296 = E at *
  generalize (unixS f n D s + 2208988800) % 4294967296 = S at *
  go_enter Tryz.func51, Tryz.ntmps51
  go_upto_region 1 with fail
  generalize (w.alloc (.cells #[.int .i64 b, .slice p n c, .int .i64 u] 24)).alloc (.cells #[.int .i64 0, .int .i64 0] 42) = W1 at *
  have zx := cell_lt x0
  go_wp2_with fail
  refine H.out.mono ?_
  rintro e w2 ⟨rfl, hb2⟩
  have HB2 := Lib.hid hb2
  clear hb2 x0 x1 x2 zx
  obtain ⟨⟨q0, r0⟩, ⟨q1, r1⟩, rz⟩ := HR.out.below HB2.out
  have z0 := rz 0
  have z1 := rz 1
  have zr := cell_lt r0
  clear rz
  go_wp2
  refine bodyPost_ret (v := .tuple #[.agg #[.int .i64 E, .int .i64 S], .int .i64 0]) (by simp [results, Tryz.results51, go_sem, r0, r1]) rfl ⟨rfl, ?_⟩
  exact ((bt A0.out HB2.out).setCell (p := ⟨w.heap.size + 1, _, none⟩) (Nat.le_succ _) _).setCell (p := ⟨w.heap.size + 1, _, none⟩) (Nat.le_succ _) _
set_option maxHeartbeats 1000000 in
theorem wsince_any {b u : Int} {n : Nat} {f : Nat → Int × Int} (ht : TabOk b u n f) (s : Int) (hsb : 0 ≤ s ∧ s ≤ 100000000000) (c : Nat) (p : Option Addr) (mb : Nat) (w : World) (hs : LpIn w f n p) (hc : n ≤ c) (hcm : c ≤ maxLen) :
    Calls Tryz.prog 112 #[.agg #[.int .i64 b, .slice p n c, .int .i64 u, .map (some mb)], .int .i64 s] w fun e w' => e = .returned (.int .i64 (s - beginS f n 44244)) ∧ Below w.heap.size w w' := by
  have A0 := below_alloc (Below.refl w.heap.size w) (.cells #[.int .i64 b, .slice p n c, .int .i64 u, .map (some mb)] 132)
  obtain ⟨⟨x0, x1, x2⟩, x3⟩ := WBox.new w b u n c p mb
  have HB := Lib.hid (begin_any ht 44244 c p _ (hs.below A0) hc hcm (by decide))
  have A0 := Lib.hid A0
  have hg := ht.grow_bd 44244
  have hv : -1000 ≤ beginS f n 44244 ∧ beginS f n 44244 ≤ 1000000000 := by unfold beginS; omega
  generalize beginS f n 44244 = B at *
  have v1 : IntKind.i64.wrap (s - B) = s - B := IntWalk.i64_in _ (by omega)
  clear hs ht hg
  go_enter Tryz.func112, Tryz.ntmps112
  go_upto_region 1 with fail
  generalize w.alloc (.cells #[.int .i64 b, .slice p n c, .int .i64 u, .map (some mb)] 132) = W1 at *
  have zx := cell_lt x0
  go_wp2_with (go_at_call 113; refine HB.out.mono ?_; rintro e w2 ⟨rfl, hb2⟩; have HB2 := Lib.hid hb2; clear hb2)
  go_ret
  exact ⟨rfl, bt A0.out HB2.out⟩
set_option maxHeartbeats 2000000 in
theorem ofInt_si (b u s : Int) (n c : Nat) (p : Option Addr) (f : Nat → Int × Int) (v : Int) (w : World) (hw : Mon w) (hs : LpIn w f n p) (hc : n ≤ c) (hcm : c ≤ maxLen) (ht : tabE b u n f = 0) (hd : inB s (beginS f n u) = true) (hf : FOk 112 b u n c p f s (.int .i64 v)) :
    Calls Tryz.prog 105 #[.agg #[.int .i64 b, .slice p n c, .int .i64 u], .int .i64 s, .func (.func 112) #[] #[]] w fun e w' => e = .returned (.tuple #[.int .i64 v, .int .i64 0]) ∧ Below w.heap.size w w' := by
  have HF := Lib.hid hf
  clear hf
  have A0 := below_alloc (Below.refl w.heap.size w) (.cells #[.int .i64 b, .slice p n c, .int .i64 u] 24)
  have HX0 := Lib.hid (TBox.new w b u n c p 24)
  have HTO := Lib.hid (tab_ok ht)
  have HOP := Lib.hid (open_ok b u n c p f _ (hw.below A0) (hs.below A0) (by have := HTO.out.n1; omega) ht)
  have HS := Lib.hid (hs.below A0)
  have HW := Lib.hid (hw.below A0)
  have A0 := Lib.hid A0
  have HD := Lib.hid hd
  unfold inB at HD
  have hub := HTO.out.total_bd
  clear hw hs ht hd
  go_enter Tryz.func105, Tryz.ntmps105
  go_upto_region 2 with fail
  generalize w.alloc (.cells #[.int .i64 b, .slice p n c, .int .i64 u] 24) = W1 at *
  obtain ⟨x0, x1, x2⟩ := HX0.out
  have zx := cell_lt x0
  go_upto_region 5 with (go_at_call 82; refine HOP.out.mono ?_; rintro e w2 ⟨mb, rfl, hM, hb2⟩; have HM := Lib.hid hM; have HB2 := Lib.hid hb2; clear hM hb2)
  clear x0 x1 x2 zx
  have hb3 := below_alloc (Below.refl w2.heap.size w2) (.cells #[.int .i64 b, .slice p n c, .int .i64 u, .map (some mb)] 132)
  have HB3 := Lib.hid (bt HB2.out hb3)
  have HX := Lib.hid (WBox.new w2 b u n c p mb)
  have HM3 := Lib.hid (HM.out.below hb3)
  have HS3 := Lib.hid (HS.out.below HB3.out)
  have HW3 := Lib.hid (HW.out.below HB3.out)
  clear hb3
  generalize w2.alloc (.cells #[.int .i64 b, .slice p n c, .int .i64 u, .map (some mb)] 132) = W3 at *
  obtain ⟨⟨x0, x1, x2⟩, x3⟩ := HX.out
  have zx := cell_lt x0
  have HTL := Lib.hid (total_any HTO.out c p W3 HS3.out hc hcm)
  have HIX := Lib.hid (fun X => index_any s (beginS f n u) X (by omega))
  rw [HD.out] at HIX
  generalize beginS f n u = tot at *
  go_upto_region 7 with (first | (go_at_call 99; refine HTL.out.mono ?_; rintro e w4 ⟨rfl, hb4⟩; have HB4 := Lib.hid hb4; clear hb4) | (go_at_call 111; refine (HIX.out _).mono ?_; rintro e w5 ⟨rfl, rfl⟩))
  clear x0 x1 x2 x3 zx
  obtain ⟨⟨x0, x1, x2⟩, x3⟩ := HX.out.below HB4.out
  have zx := cell_lt x0
  have HG := Lib.hid (HF.out mb w4 (HW3.out.below HB4.out) (HS3.out.below HB4.out) (HM3.out.below HB4.out))
  go_wp2_with fail
  refine HG.out.mono ?_
  rintro e w5 ⟨rfl, hb5⟩
  have HB5 := Lib.hid hb5
  clear hb5 x0 x1 x2 x3 zx
  go_wp2
  go_ret2
  exact ⟨rfl, bt (bt (bt A0.out HB3.out) HB4.out) HB5.out⟩
theorem gps_start (w : World) (b u : Int) (n c : Nat) (p : Option Addr) : TBox ((w.alloc (.cells #[.int .i64 b, .slice p n c, .int .i64 u] 24)).alloc (.cells #[.int .i64 0, .int .i64 0] 44)) w.heap.size b u n c p ∧ Res2 ((w.alloc (.cells #[.int .i64 b, .slice p n c, .int .i64 u] 24)).alloc (.cells #[.int .i64 0, .int .i64 0] 44)) (w.heap.size + 1) ∧ Below w.heap.size w ((w.alloc (.cells #[.int .i64 b, .slice p n c, .int .i64 u] 24)).alloc (.cells #[.int .i64 0, .int .i64 0] 44)) := by
  have b1 := below_alloc (Below.refl w.heap.size w) (.cells #[.int .i64 b, .slice p n c, .int .i64 u] 24)
  have h1 := TBox.new w b u n c p 24
  have e1 : (w.alloc (.cells #[.int .i64 b, .slice p n c, .int .i64 u] 24)).heap.size = w.heap.size + 1 := by simp
  generalize w.alloc (.cells #[.int .i64 b, .slice p n c, .int .i64 u] 24) = W1 at *
  have b2 := below_alloc (Below.refl W1.heap.size W1) (.cells #[.int .i64 0, .int .i64 0] 44)
  have h2 := Res2.new W1 (.int .i64 0) (.int .i64 0) 44
  rw [e1] at h2
  exact ⟨h1.below b2, h2, bt b1 b2⟩
set_option maxHeartbeats 1000000 in
theorem ToGps_ok {b u : Int} {n : Nat} {f : Nat → Int × Int} {s : Int} (hk : knownE b u n f s = 0) (hq : 0 ≤ s - beginS f n 44244) (c : Nat) (p : Option Addr) (w : World) (hw : Mon w) (hs : LpIn w f n p) (hc : n ≤ c) (hcm : c ≤ maxLen) :
    Calls Tryz.prog 55 #[.agg #[.int .i64 b, .slice p n c, .int .i64 u], .int .i64 s] w fun e w' => e = .returned (.tuple #[.agg #[.int .i64 ((s - beginS f n 44244) / 604800 % 1024), .int .i64 ((s - beginS f n 44244) % 604800)], .int .i64 0]) ∧ Below w.heap.size w w' := by
  obtain ⟨ht, hi⟩ := knownE_zero hk
  have HT := tab_ok ht
  have hib := inB_bd hi
  have htb := HT.total_bd
  obtain ⟨hx, hr, A0⟩ := gps_start w b u n c p
  obtain ⟨x0, x1, x2⟩ := hx
  have HR := Lib.hid hr
  have H := Lib.hid (ofInt_si b u s n c p f (s - beginS f n 44244) _ (hw.below A0) (hs.below A0) hc hcm ht hi (fun mb X hX hl hm => wsince_any HT s (by omega) c p mb X hl hc hcm))
  have A0 := Lib.hid A0
  have hg := HT.grow_bd 44244
  have hv : -1000 ≤ beginS f n 44244 ∧ beginS f n 44244 ≤ 1000000000 := by unfold beginS; omega
  obtain ⟨Q, hQ⟩ : ∃ Q, s - beginS f n 44244 = Q := ⟨_, rfl⟩
  rw [hQ] at H hq ⊢
  have hqn : ¬ Q < 0 := by omega
  have q1 : Q.tdiv 604800 = Q / 604800 := Int.tdiv_eq_ediv_of_nonneg (by omega)
  have q2 : (Q / 604800).tmod 1024 = Q / 604800 % 1024 := Int.tmod_eq_emod_of_nonneg (by omega)
  have q3 : Q.tmod 604800 = Q % 604800 := Int.tmod_eq_emod_of_nonneg (by omega)
  obtain ⟨K, hK⟩ : ∃ K, Q / 604800 = K := ⟨_, rfl⟩
  have q4 : IntKind.i64.wrap K = K := IntWalk.i64_in _ (by omega)
  rw [hK] at q1 q2 ⊢
  obtain ⟨E, hE⟩ : ∃ E, K % 1024 = E := ⟨_, rfl⟩
  obtain ⟨S, hS⟩ : ∃ S, Q % 604800 = S := ⟨_, rfl⟩
  rw [hE] at q2 ⊢
  rw [hS] at q3 ⊢
  have q5 : IntKind.i64.wrap E = E := IntWalk.i64_in _ (by omega)
  have q6 : IntKind.i64.wrap S = S := IntWalk.i64_in _ (by omega)
  clear hK hE hS
  clear hw hs hk ht hi HT hr htb hib hg hv hQ
  go_enter Tryz.func55, Tryz.ntmps55
  go_upto_region 1 with fail
  generalize (w.alloc (.cells #[.int .i64 b, .slice p n c, .int .i64 u] 24)).alloc (.cells #[.int .i64 0, .int .i64 0] 44) = W1 at *
  have zx := cell_lt x0
  go_upto_region 2 with (go_at_call 105; refine H.out.mono ?_; rintro e w2 ⟨rfl, hb2⟩; have HB2 := Lib.hid hb2; clear hb2)
  clear x0 x1 x2 zx
  obtain ⟨⟨y0, r0⟩, ⟨y1, r1⟩, rz⟩ := HR.out.below HB2.out
  have z0 := rz 0
  have z1 := rz 1
  have zr := cell_lt r0
  clear rz
  go_wp2_with fail
  refine bodyPost_ret (v := .tuple #[.agg #[.int .i64 E, .int .i64 S], .int .i64 0]) (by simp [results, Tryz.results55, go_sem, r0, r1]) rfl ⟨rfl, ?_⟩
  exact ((bt A0.out HB2.out).setCell (p := ⟨w.heap.size + 1, _, none⟩) (Nat.le_succ _) _).setCell (p := ⟨w.heap.size + 1, _, none⟩) (Nat.le_succ _) _
set_option maxHeartbeats 1000000 in
theorem ToGps_old {b u : Int} {n : Nat} {f : Nat → Int × Int} {s : Int} (hk : knownE b u n f s = 0) (hq : s - beginS f n 44244 < 0) (c : Nat) (p : Option Addr) (w : World) (hw : Mon w) (hs : LpIn w f n p) (hc : n ≤ c) (hcm : c ≤ maxLen) :
    Calls Tryz.prog 55 #[.agg #[.int .i64 b, .slice p n c, .int .i64 u], .int .i64 s] w fun e w' => e = .returned (.tuple #[.agg #[.int .i64 0, .int .i64 0], .int .i64 4]) ∧ Below w.heap.size w w' := by
  obtain ⟨ht, hi⟩ := knownE_zero hk
  have HT := tab_ok ht
  have hib := inB_bd hi
  have htb := HT.total_bd
  obtain ⟨hx, hr, A0⟩ := gps_start w b u n c p
  obtain ⟨x0, x1, x2⟩ := hx
  have HR := Lib.hid hr
  have H := Lib.hid (ofInt_si b u s n c p f (s - beginS f n 44244) _ (hw.below A0) (hs.below A0) hc hcm ht hi (fun mb X hX hl hm => wsince_any HT s (by omega) c p mb X hl hc hcm))
  have A0 := Lib.hid A0
  have hg := HT.grow_bd 44244
  have hv : -1000 ≤ beginS f n 44244 ∧ beginS f n 44244 ≤ 1000000000 := by unfold beginS; omega
  obtain ⟨Q, hQ⟩ : ∃ Q, s - beginS f n 44244 = Q := ⟨_, rfl⟩
  rw [hQ] at H hq
  clear hw hs hk ht hi HT hr htb hib hg hv hQ
  go_enter Tryz.func55, Tryz.ntmps55
  go_upto_region 1 with fail
  generalize (w.alloc (.cells #[.int .i64 b, .slice p n c, .int .i64 u] 24)).alloc (.cells #[.int .i64 0, .int .i64 0] 44) = W1 at *
  have zx := cell_lt x0
  go_upto_region 2 with (go_at_call 105; refine H.out.mono ?_; rintro e w2 ⟨rfl, hb2⟩; have HB2 := Lib.hid hb2; clear hb2)
  clear x0 x1 x2 zx
  obtain ⟨⟨y0, r0⟩, ⟨y1, r1⟩, rz⟩ := HR.out.below HB2.out
  have z0 := rz 0
  have z1 := rz 1
  have zr := cell_lt r0
  clear rz
  go_wp2_with fail
  refine bodyPost_ret (v := .tuple #[.agg #[.int .i64 0, .int .i64 0], .int .i64 4]) (by simp [results, Tryz.results55, go_sem, r0, r1]) rfl ⟨rfl, ?_⟩
  exact ((bt A0.out HB2.out).setCell (p := ⟨w.heap.size + 1, _, none⟩) (Nat.le_succ _) _).setCell (p := ⟨w.heap.size + 1, _, none⟩) (Nat.le_succ _) _
end Go.Proofs.YtgnfaemnehmgcaaGreatDoor.Cal
namespace Go.Proofs.YtgnfaemnehmgcaaGreatDoor.Cal
open Go Go.RowKit
attribute [local go_sem] Oper.semAt_some
def distI (near a : Int) : Int := if a - near < near - a then near - a else a - near
set_option maxHeartbeats 1000000 in
theorem gpsCmp_any (a b near : Int) (an : Nat) (w : World) (hc : w.cell? ⟨an, 0, none⟩ = some (.int .i64 near)) (ha : -10000000000000 ≤ a ∧ a ≤ 10000000000000) (hb : -10000000000000 ≤ b ∧ b ≤ 10000000000000) (hn : -10000000000000 ≤ near ∧ near ≤ 10000000000000) :
    Calls Tryz.prog 115 #[.int .i64 a, .int .i64 b, .pointer (some ⟨an, 0, none⟩)] w fun e w' => e = .returned (.int .i64 (cmpI (distI near a) (distI near b))) ∧ w = w' := by
  have zc := cell_lt hc
  have v1 : IntKind.i64.wrap (a - near) = a - near := IntWalk.i64_in _ (by omega)
  have v2 : IntKind.i64.wrap (near - a) = near - a := IntWalk.i64_in _ (by omega)
  have v3 : IntKind.i64.wrap (b - near) = b - near := IntWalk.i64_in _ (by omega)
  have v4 : IntKind.i64.wrap (near - b) = near - b := IntWalk.i64_in _ (by omega)
  obtain ⟨da, hda⟩ : ∃ q, distI near a = q := ⟨_, rfl⟩
  obtain ⟨db, hdb⟩ : ∃ q, distI near b = q := ⟨_, rfl⟩
  rw [hda, hdb]
  unfold distI at hda hdb
  go_enter Tryz.func115, Tryz.ntmps115
  go_wp2_with (go_at_call 116; refine (cmp_any _ _ _).mono ?_; rintro e w' ⟨rfl, rfl⟩)
  go_ret
  exact ⟨rfl, rfl⟩
def minF (near : Int) (f : Nat → Int) : Nat → Int
  | 0 => f 0
  | k + 1 => if distI near (f (k + 1)) < distI near (minF near f k) then f (k + 1) else minF near f k
theorem minF_bd {near M : Int} {f : Nat → Int} {n : Nat} (h : ∀ i, i < n → -M ≤ f i ∧ f i ≤ M) : ∀ k, k < n → -M ≤ minF near f k ∧ minF near f k ≤ M
  | 0, hk => h 0 hk
  | k + 1, hk => by
    rw [minF]
    split
    · exact h _ hk
    · exact minF_bd h k (by omega)
set_option maxHeartbeats 2000000 in
theorem minFunc_any (f : Nat → Int) (near : Int) (n c an : Nat) (p : Option Addr) (w : World) (hn0 : 1 ≤ n) (hn : n ≤ 1000000000) (hs : FnIn w f n p) (hc : w.cell? ⟨an, 0, none⟩ = some (.int .i64 near))
    (hf : ∀ i, i < n → -10000000000000 ≤ f i ∧ f i ≤ 10000000000000) (hnb : -10000000000000 ≤ near ∧ near ≤ 10000000000000) :
    Calls Tryz.prog 114 #[.slice p n c, .func (.func 115) #[] #[.pointer (some ⟨an, 0, none⟩)]] w fun e w' => e = .returned (.int .i64 (minF near f (n - 1))) ∧ Below w.heap.size w w' := by
  have H1 := Lib.hid hs
  have HC := Lib.hid hc
  have HF := Lib.hid hf
  obtain ⟨b1, o1, rfl, hi1⟩ := hs.resolve_left (by omega)
  have x0 := hi1 0 (by omega)
  rw [Nat.add_zero] at x0
  have z0 := cell_lt x0
  have hn1 : ¬ (n : Int) < 1 := by omega
  have hn2 : (0 : Int) < n := by omega
  have HI := Lib.hid hi1
  clear hs hi1 hc hf
  obtain ⟨f0, hf0⟩ : ∃ q, f 0 = q := ⟨_, rfl⟩
  rw [hf0] at x0
  go_enter Tryz.func114, Tryz.ntmps114
  go_wp2_with fail
  go_loopw [5, 6] (fun s5 s6 wr => ∃ (k : Nat), k + 1 ≤ n ∧ s5 = .int .i64 (minF near f k) ∧ s6 = .int .i64 ((k + 1 : Nat) : Int) ∧ Hid (Below w.heap.size w wr)) (fun _ s _ => n - (intOf s).toNat)
  case atStart => exact ⟨0, hn0, by rw [← hf0]; rfl, rfl, Lib.hid (Below.refl _ _)⟩
  case round =>
    obtain ⟨k, hk, rfl, rfl, HB⟩ := hrel
    clear x0 z0 hf0
    by_cases hlt : k + 1 < n
    · have hki : ((k + 1 : Nat) : Int) < n := by omega
      have vk : IntKind.i64.wrap (((k + 1 : Nat) : Int) + 1) = ((k + 1 + 1 : Nat) : Int) := by rw [IntWalk.i64_in _ (by omega)]; omega
      have x1 := cell_below HB.out (HI.out (k + 1) hlt)
      have z1 := cell_lt x1
      have hc := cell_below HB.out HC.out
      have HST := Lib.hid (show minF near f (k + 1) = if distI near (f (k + 1)) < distI near (minF near f k) then f (k + 1) else minF near f k from rfl)
      have HCH := Lib.hid (gpsCmp_any (f (k + 1)) (minF near f k) near an wr hc (HF.out _ hlt) (minF_bd HF.out k (by omega)) hnb)
      have HK := Lib.hid hlt
      have hkt : ((k + 1 : Nat) : Int).toNat = k + 1 := by omega
      clear hlt hk hc
      generalize minF near f k = m at *
      generalize f (k + 1) = a at *
      by_cases h0 : distI near a < distI near m
      · rw [if_pos h0] at HST
        rw [show cmpI (distI near a) (distI near m) = -1 by unfold cmpI; rw [if_pos h0]] at HCH
        clear h0
        obtain ⟨k1, hk1⟩ : ∃ q, k + 1 = q := ⟨_, rfl⟩
        rw [hk1] at hki vk x1 hkt HST HK ⊢
        clear hk1
        go_wp2_with fail
        refine HCH.out.mono ?_
        rintro e w2 ⟨rfl, rfl⟩
        go_wp2_with fail
        go_roundw
        case rel => exact ⟨k1, HK.out, by rw [HST.out], rfl, HB⟩
        case measure => have := HK.out; simp [intOf]; omega
      · rw [if_neg h0] at HST
        obtain ⟨cv, hcv, hcn⟩ : ∃ cv, cmpI (distI near a) (distI near m) = cv ∧ ¬ cv < 0 := ⟨_, rfl, by unfold cmpI; rw [if_neg h0]; split <;> omega⟩
        rw [hcv] at HCH
        clear h0 hcv
        obtain ⟨k1, hk1⟩ : ∃ q, k + 1 = q := ⟨_, rfl⟩
        rw [hk1] at hki vk x1 hkt HST HK ⊢
        clear hk1
        go_wp2_with fail
        refine HCH.out.mono ?_
        rintro e w2 ⟨rfl, rfl⟩
        go_wp2_with fail
        go_roundw
        case rel => exact ⟨k1, HK.out, by rw [HST.out], rfl, HB⟩
        case measure => have := HK.out; simp [intOf]; omega
    · have hki : ¬ (((k + 1 : Nat) : Int) < n) := by omega
      have HV := Lib.hid (show minF near f k = minF near f (n - 1) by rw [show n - 1 = k by omega])
      clear hlt
      generalize minF near f k = m at *
      generalize ((k + 1 : Nat) : Int) = k1 at *
      go_wp2_with fail
      go_ret
      exact ⟨ret_i64 HV.out, HB.out⟩
end Go.Proofs.YtgnfaemnehmgcaaGreatDoor.Cal
