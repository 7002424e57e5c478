/- Layer 9 (calendar): ToGps, program and reference, errors too. (by gen_jf.py) -/
import Derived.Test.YtjdpdabafbbfaaaDoorJe
namespace Go.Proofs.YtjdpdabafbbfaaaDoor.Cal
open Go Go.RowKit
attribute [local go_sem] Oper.semAt_some
set_option maxHeartbeats 1000000 in
theorem ToGps_no {b u : Int} {n : Nat} {f : Nat → Int × Int} {s : Int} (hk : knownE b u n f s ≠ 0) (c : Nat) (p : Option Addr) (w : World) (hw : Mon w) (hs : LpIn w f n p) (hn : n ≤ 1000000000000) (hc : n ≤ c) (hcm : c ≤ maxLen) :
    Calls Tryd.prog 16 #[.agg #[.int .i64 b, .slice p n c, .int .i64 u], .int .i64 s] w fun e w' => e = .returned (.tuple #[.agg #[.int .i64 0, .int .i64 0], .int .i64 (knownE b u n f s)]) ∧ Below w.heap.size w w' := by
  obtain ⟨hx, hr, A0⟩ := gps_start w b u n c p
  obtain ⟨x0, x1, x2⟩ := hx
  have HR := Lib.hid hr
  have H : Calls Tryd.prog 27 #[.agg #[.int .i64 b, .slice p n c, .int .i64 u], .int .i64 s, .func (.func 44) #[] #[]] ((w.alloc (.cells #[.int .i64 b, .slice p n c, .int .i64 u] 24)).alloc (.cells #[.int .i64 0, .int .i64 0] 28)) fun e w' => e = .returned (.tuple #[.int .i64 0, .int .i64 (knownE b u n f s)]) ∧ Below ((w.alloc (.cells #[.int .i64 b, .slice p n c, .int .i64 u] 24)).alloc (.cells #[.int .i64 0, .int .i64 0] 28)).heap.size ((w.alloc (.cells #[.int .i64 b, .slice p n c, .int .i64 u] 24)).alloc (.cells #[.int .i64 0, .int .i64 0] 28)) w' := by
    unfold knownE at hk ⊢
    by_cases ht : tabE b u n f = 0
    · rw [if_pos ht] at hk ⊢
      by_cases hi : inB s (beginS f n u) = true
      · rw [if_pos hi] at hk; exact absurd rfl hk
      · rw [if_neg hi]
        exact ofInt_rng _ b u s n c p f _ (hw.below A0) (hs.below A0) hc hcm ht (by simpa using hi)
    · rw [if_neg ht]
      exact ofInt_tab _ b u s n c p f _ (hw.below A0) (hs.below A0) hn ht
  have H := Lib.hid H
  have A0 := Lib.hid A0
  obtain ⟨vv, hvv⟩ : ∃ vv, knownE b u n f s = vv := ⟨_, rfl⟩
  rw [hvv] at H hk ⊢
  have hne : (vv == 0) = false := by simpa using hk
  clear hw hs hvv hr
  go_enter Tryd.func16, Tryd.ntmps16
  go_upto_region 1 with fail
  generalize (w.alloc (.cells #[.int .i64 b, .slice p n c, .int .i64 u] 24)).alloc (.cells #[.int .i64 0, .int .i64 0] 28) = W1 at *
  have zx := cell_lt x0
  go_upto_region 2 with (go_at_call 27; refine H.out.mono ?_; rintro e w2 ⟨rfl, hb2⟩; have HB2 := Lib.hid hb2; clear hb2)
  clear x0 x1 x2 zx
  obtain ⟨⟨y0, r0⟩, ⟨y1, r1⟩, rz⟩ := HR.out.below HB2.out
  have z0 := rz 0
  have z1 := rz 1
  have zr := cell_lt r0
  clear rz
  go_wp2_with fail
  refine bodyPost_ret (v := .tuple #[.agg #[.int .i64 0, .int .i64 0], .int .i64 vv]) (by simp [results, Tryd.results16, go_sem, r0, r1]) rfl ⟨rfl, ?_⟩
  exact ((bt A0.out HB2.out).setCell (p := ⟨w.heap.size + 1, _, none⟩) (Nat.le_succ _) _).setCell (p := ⟨w.heap.size + 1, _, none⟩) (Nat.le_succ _) _
set_option maxHeartbeats 1000000 in
theorem rToGps_no {b u : Int} {n : Nat} {f : Nat → Int × Int} {s : Int} (hk : knownE b u n f s ≠ 0) (c : Nat) (p : Option Addr) (w : World) (hs : LpIn w f n p) (hn : n ≤ 1000) :
    Calls Tryd.prog 17 #[.agg #[.int .i64 b, .slice p n c, .int .i64 u], .int .i64 s] w fun e w' => e = .returned (.tuple #[.agg #[.int .i64 0, .int .i64 0], .int .i64 (knownE b u n f s)]) ∧ Below w.heap.size w w' := by
  have A0 := below_alloc (below_alloc (Below.refl w.heap.size w) (.cells #[.int .i64 b, .slice p n c, .int .i64 u] 33)) (.cells #[.int .i64 0, .int .i64 0] 54)
  have hX := (TBox.new w b u n c p 33).below (below_alloc (Below.refl _ _) (.cells #[.int .i64 0, .int .i64 0] 54))
  have e1 : (w.alloc (.cells #[.int .i64 b, .slice p n c, .int .i64 u] 33)).heap.size = w.heap.size + 1 := by simp
  have hR := Res2.new (w.alloc (.cells #[.int .i64 b, .slice p n c, .int .i64 u] 33)) (.int .i64 0) (.int .i64 0) 54
  rw [e1] at hR
  have HR := Lib.hid hR
  have HX := Lib.hid hX
  have HKN := Lib.hid (rknown_any b u s n c p f _ (hs.below A0) (by omega))
  have A0 := Lib.hid A0
  obtain ⟨er, her⟩ : ∃ er, knownE b u n f s = er := ⟨_, rfl⟩
  rw [her] at hk HKN ⊢
  have hne : (er == 0) = false := by simpa using hk
  clear hs her e1 hR hX hn
  go_enter Tryd.func17, Tryd.ntmps17
  go_upto_region 1 with fail
  generalize (w.alloc (.cells #[.int .i64 b, .slice p n c, .int .i64 u] 33)).alloc (.cells #[.int .i64 0, .int .i64 0] 54) = W1 at *
  obtain ⟨x0, x1, x2⟩ := HX.out
  have zx := cell_lt x0
  go_upto_region 2 with (go_at_call 45; refine HKN.out.mono ?_; rintro e w2 ⟨rfl, hb2⟩; have HB2 := Lib.hid hb2; clear hb2)
  obtain ⟨⟨y0, r0⟩, ⟨y1, r1⟩, rz⟩ := HR.out.below HB2.out
  have z0 := rz 0
  have z1 := rz 1
  have zr := cell_lt r0
  clear rz x0 x1 x2 zx
  go_wp2_with fail
  refine bodyPost_ret (v := .tuple #[.agg #[.int .i64 0, .int .i64 0], .int .i64 er]) (by simp [results, Tryd.results17, go_sem, r0, r1]) rfl ⟨rfl, ?_⟩
  exact ((bt A0.out HB2.out).setCell (p := ⟨w.heap.size + 1, _, none⟩) (Nat.le_succ _) _).setCell (p := ⟨w.heap.size + 1, _, none⟩) (Nat.le_succ _) _
set_option maxHeartbeats 1000000 in
theorem rToGps_early {b u : Int} {n : Nat} {f : Nat → Int × Int} {s : Int} (hk : knownE b u n f s = 0) (hu : u ≤ 44244) (c : Nat) (p : Option Addr) (w : World) (hs : LpIn w f n p) (hn : n ≤ 1000) :
    Calls Tryd.prog 17 #[.agg #[.int .i64 b, .slice p n c, .int .i64 u], .int .i64 s] w fun e w' => e = .returned (.tuple #[.agg #[.int .i64 0, .int .i64 0], .int .i64 4]) ∧ Below w.heap.size w w' := by
  have A0 := below_alloc (below_alloc (Below.refl w.heap.size w) (.cells #[.int .i64 b, .slice p n c, .int .i64 u] 33)) (.cells #[.int .i64 0, .int .i64 0] 54)
  have hX := (TBox.new w b u n c p 33).below (below_alloc (Below.refl _ _) (.cells #[.int .i64 0, .int .i64 0] 54))
  have e1 : (w.alloc (.cells #[.int .i64 b, .slice p n c, .int .i64 u] 33)).heap.size = w.heap.size + 1 := by simp
  have hR := Res2.new (w.alloc (.cells #[.int .i64 b, .slice p n c, .int .i64 u] 33)) (.int .i64 0) (.int .i64 0) 54
  rw [e1] at hR
  have HR := Lib.hid hR
  have HX := Lib.hid hX
  have HKN := Lib.hid (rknown_any b u s n c p f _ (hs.below A0) (by omega))
  rw [hk] at HKN
  have A0 := Lib.hid A0
  clear hs e1 hR hX hn hk
  go_enter Tryd.func17, Tryd.ntmps17
  go_upto_region 1 with fail
  generalize (w.alloc (.cells #[.int .i64 b, .slice p n c, .int .i64 u] 33)).alloc (.cells #[.int .i64 0, .int .i64 0] 54) = W1 at *
  obtain ⟨x0, x1, x2⟩ := HX.out
  have zx := cell_lt x0
  go_upto_region 2 with (go_at_call 45; refine HKN.out.mono ?_; rintro e w2 ⟨rfl, hb2⟩; have HB2 := Lib.hid hb2; clear hb2)
  clear x0 x1 x2 zx
  obtain ⟨x0, x1, x2⟩ := HX.out.below HB2.out
  have zx := cell_lt x0
  obtain ⟨⟨y0, r0⟩, ⟨y1, r1⟩, rz⟩ := HR.out.below HB2.out
  have z0 := rz 0
  have z1 := rz 1
  have zr := cell_lt r0
  clear rz
  go_wp2_with fail
  refine bodyPost_ret (v := .tuple #[.agg #[.int .i64 0, .int .i64 0], .int .i64 4]) (by simp [results, Tryd.results17, go_sem, r0, r1]) rfl ⟨rfl, ?_⟩
  exact ((bt A0.out HB2.out).setCell (p := ⟨w.heap.size + 1, _, none⟩) (Nat.le_succ _) _).setCell (p := ⟨w.heap.size + 1, _, none⟩) (Nat.le_succ _) _
set_option maxHeartbeats 1000000 in
theorem rToGps_old {b u : Int} {n : Nat} {f : Nat → Int × Int} {s : Int} (hk : knownE b u n f s = 0) (hu : 44244 < u) (hq : s - beginS f n 44244 < 0) (c : Nat) (p : Option Addr) (w : World) (hs : LpIn w f n p) (hn : n ≤ 1000) :
    Calls Tryd.prog 17 #[.agg #[.int .i64 b, .slice p n c, .int .i64 u], .int .i64 s] w fun e w' => e = .returned (.tuple #[.agg #[.int .i64 0, .int .i64 0], .int .i64 4]) ∧ Below w.heap.size w w' := by
  have A0 := below_alloc (below_alloc (Below.refl w.heap.size w) (.cells #[.int .i64 b, .slice p n c, .int .i64 u] 33)) (.cells #[.int .i64 0, .int .i64 0] 54)
  have hX := (TBox.new w b u n c p 33).below (below_alloc (Below.refl _ _) (.cells #[.int .i64 0, .int .i64 0] 54))
  have e1 : (w.alloc (.cells #[.int .i64 b, .slice p n c, .int .i64 u] 33)).heap.size = w.heap.size + 1 := by simp
  have hR := Res2.new (w.alloc (.cells #[.int .i64 b, .slice p n c, .int .i64 u] 33)) (.int .i64 0) (.int .i64 0) 54
  rw [e1] at hR
  have HR := Lib.hid hR
  have HX := Lib.hid hX
  have HT := tab_ok (knownE_zero hk).1
  have hib := inB_bd (knownE_zero hk).2
  have htb := HT.total_bd
  have hg := HT.grow_bd 44244
  have hv : -1000 ≤ beginS f n 44244 ∧ beginS f n 44244 ≤ 1000000000 := by unfold beginS; omega
  have HKN := Lib.hid (rknown_any b u s n c p f _ (hs.below A0) (by omega))
  rw [hk] at HKN
  have HS := Lib.hid (hs.below A0)
  have HBG := Lib.hid (fun X (hL : LpIn X f n p) => rbegin_any HT 44244 c p X hL (by decide))
  have A0 := Lib.hid A0
  have hnu : ¬ u ≤ 44244 := by omega
  generalize beginS f n 44244 = BB at *
  have hlt : s < BB := by omega
  clear hs e1 hR hX hn hk HT hg htb hib
  go_enter Tryd.func17, Tryd.ntmps17
  go_upto_region 1 with fail
  generalize (w.alloc (.cells #[.int .i64 b, .slice p n c, .int .i64 u] 33)).alloc (.cells #[.int .i64 0, .int .i64 0] 54) = W1 at *
  obtain ⟨x0, x1, x2⟩ := HX.out
  have zx := cell_lt x0
  go_upto_region 2 with (go_at_call 45; refine HKN.out.mono ?_; rintro e w2 ⟨rfl, hb2⟩; have HB2 := Lib.hid hb2; clear hb2)
  clear x0 x1 x2 zx
  obtain ⟨x0, x1, x2⟩ := HX.out.below HB2.out
  have zx := cell_lt x0
  go_upto_region 5 with (go_at_call 46; refine (HBG.out _ (HS.out.below HB2.out)).mono ?_; rintro e w3 ⟨rfl, hb3⟩; have HB3 := Lib.hid hb3; clear hb3)
  obtain ⟨⟨y0, r0⟩, ⟨y1, r1⟩, rz⟩ := HR.out.below (bt HB2.out HB3.out)
  have z0 := rz 0
  have z1 := rz 1
  have zr := cell_lt r0
  clear rz x0 x1 x2 zx
  go_wp2_with fail
  refine bodyPost_ret (v := .tuple #[.agg #[.int .i64 0, .int .i64 0], .int .i64 4]) (by simp [results, Tryd.results17, go_sem, r0, r1]) rfl ⟨rfl, ?_⟩
  exact ((bt (bt A0.out HB2.out) HB3.out).setCell (p := ⟨w.heap.size + 1, _, none⟩) (Nat.le_succ _) _).setCell (p := ⟨w.heap.size + 1, _, none⟩) (Nat.le_succ _) _
set_option maxHeartbeats 1000000 in
theorem rToGps_ok {b u : Int} {n : Nat} {f : Nat → Int × Int} {s : Int} (hk : knownE b u n f s = 0) (hu : 44244 < u) (hq : 0 ≤ s - beginS f n 44244) (c : Nat) (p : Option Addr) (w : World) (hs : LpIn w f n p) (hn : n ≤ 1000) :
    Calls Tryd.prog 17 #[.agg #[.int .i64 b, .slice p n c, .int .i64 u], .int .i64 s] w fun e w' => e = .returned (.tuple #[.agg #[.int .i64 ((s - beginS f n 44244) / 604800 % 1024), .int .i64 ((s - beginS f n 44244) % 604800)], .int .i64 0]) ∧ Below w.heap.size w w' := by
  have A0 := below_alloc (below_alloc (Below.refl w.heap.size w) (.cells #[.int .i64 b, .slice p n c, .int .i64 u] 33)) (.cells #[.int .i64 0, .int .i64 0] 54)
  have hX := (TBox.new w b u n c p 33).below (below_alloc (Below.refl _ _) (.cells #[.int .i64 0, .int .i64 0] 54))
  have e1 : (w.alloc (.cells #[.int .i64 b, .slice p n c, .int .i64 u] 33)).heap.size = w.heap.size + 1 := by simp
  have hR := Res2.new (w.alloc (.cells #[.int .i64 b, .slice p n c, .int .i64 u] 33)) (.int .i64 0) (.int .i64 0) 54
  rw [e1] at hR
  have HR := Lib.hid hR
  have HX := Lib.hid hX
  have HT := tab_ok (knownE_zero hk).1
  have hib := inB_bd (knownE_zero hk).2
  have htb := HT.total_bd
  have hg := HT.grow_bd 44244
  have hv : -1000 ≤ beginS f n 44244 ∧ beginS f n 44244 ≤ 1000000000 := by unfold beginS; omega
  have HKN := Lib.hid (rknown_any b u s n c p f _ (hs.below A0) (by omega))
  rw [hk] at HKN
  have HS := Lib.hid (hs.below A0)
  have HBG := Lib.hid (fun X (hL : LpIn X f n p) => rbegin_any HT 44244 c p X hL (by decide))
  have A0 := Lib.hid A0
  have hnu : ¬ u ≤ 44244 := by omega
  generalize beginS f n 44244 = BB at *
  have hlt : ¬ s < BB := by omega
  have v1 : IntKind.i64.wrap (s - BB) = s - BB := IntWalk.i64_in _ (by omega)
  obtain ⟨Q, hQ⟩ : ∃ Q, s - BB = Q := ⟨_, rfl⟩
  rw [hQ] at hq v1 ⊢
  have v2 : IntKind.i64.wrap (s - BB) = Q := by rw [hQ]; exact v1
  obtain ⟨M, hM⟩ : ∃ M, Q % 619315200 = M := ⟨_, rfl⟩
  have q1 : Q.tmod 619315200 = M := by rw [Int.tmod_eq_emod_of_nonneg hq]; exact hM
  have q2 : M.tdiv 604800 = M / 604800 := Int.tdiv_eq_ediv_of_nonneg (by omega)
  have q3 : M.tmod 604800 = M % 604800 := Int.tmod_eq_emod_of_nonneg (by omega)
  have e2 : M / 604800 = Q / 604800 % 1024 := by omega
  have e3 : M % 604800 = Q % 604800 := by omega
  obtain ⟨E, hE⟩ : ∃ E, Q / 604800 % 1024 = E := ⟨_, rfl⟩
  obtain ⟨S, hS⟩ : ∃ S, Q % 604800 = S := ⟨_, rfl⟩
  rw [e2, hE] at q2
  rw [e3, hS] at q3
  rw [hE, hS]
  have q4 : IntKind.i64.wrap M = M := IntWalk.i64_in _ (by omega)
  have q5 : IntKind.i64.wrap E = E := IntWalk.i64_in _ (by omega)
  have q6 : IntKind.i64.wrap S = S := IntWalk.i64_in _ (by omega)
  clear hs e1 hR hX hn hk HT hg htb hib v1 hQ hM e2 e3 hE hS hq
  go_enter Tryd.func17, Tryd.ntmps17
  go_upto_region 1 with fail
  generalize (w.alloc (.cells #[.int .i64 b, .slice p n c, .int .i64 u] 33)).alloc (.cells #[.int .i64 0, .int .i64 0] 54) = W1 at *
  obtain ⟨x0, x1, x2⟩ := HX.out
  have zx := cell_lt x0
  go_upto_region 2 with (go_at_call 45; refine HKN.out.mono ?_; rintro e w2 ⟨rfl, hb2⟩; have HB2 := Lib.hid hb2; clear hb2)
  clear x0 x1 x2 zx
  obtain ⟨x0, x1, x2⟩ := HX.out.below HB2.out
  have zx := cell_lt x0
  go_upto_region 6 with (go_at_call 46; refine (HBG.out _ (HS.out.below HB2.out)).mono ?_; rintro e w3 ⟨rfl, hb3⟩; have HB3 := Lib.hid hb3; clear hb3)
  clear x0 x1 x2 zx
  obtain ⟨x0, x1, x2⟩ := (HX.out.below HB2.out).below HB3.out
  have zx := cell_lt x0
  go_upto_region 7 with (go_at_call 46; refine (HBG.out _ ((HS.out.below HB2.out).below HB3.out)).mono ?_; rintro e w4 ⟨rfl, hb4⟩; have HB4 := Lib.hid hb4; clear hb4)
  obtain ⟨⟨y0, r0⟩, ⟨y1, r1⟩, rz⟩ := HR.out.below (bt (bt HB2.out HB3.out) HB4.out)
  have z0 := rz 0
  have z1 := rz 1
  have zr := cell_lt r0
  clear rz x0 x1 x2 zx
  go_wp2_with fail
  refine bodyPost_ret (v := .tuple #[.agg #[.int .i64 E, .int .i64 S], .int .i64 0]) (by simp [results, Tryd.results17, go_sem, r0, r1]) rfl ⟨rfl, ?_⟩
  exact ((bt (bt (bt A0.out HB2.out) HB3.out) HB4.out).setCell (p := ⟨w.heap.size + 1, _, none⟩) (Nat.le_succ _) _).setCell (p := ⟨w.heap.size + 1, _, none⟩) (Nat.le_succ _) _
theorem tg_pair (b u s : Int) (n : Nat) (f : Nat → Int × Int) (hn : n ≤ 1000) : ∃ x y e, Pair 16 17 b u n f (fun t => #[t, .int .i64 s]) (.tuple #[.agg #[.int .i64 x, .int .i64 y], .int .i64 e]) := by
  by_cases hk : knownE b u n f s = 0
  · have HT := tab_ok (knownE_zero hk).1
    have hib := inB_bd (knownE_zero hk).2
    by_cases hu : u ≤ 44244
    · have hm := HT.begin_mono hu
      exact ⟨_, _, _, fun X c p hX hl h1 h2 => ToGps_old hk (by omega) c p X hX hl h1 h2, fun X c p hl => rToGps_early hk hu c p X hl hn⟩
    · by_cases hq : s - beginS f n 44244 < 0
      · exact ⟨_, _, _, fun X c p hX hl h1 h2 => ToGps_old hk hq c p X hX hl h1 h2, fun X c p hl => rToGps_old hk (by omega) hq c p X hl hn⟩
      · exact ⟨_, _, _, fun X c p hX hl h1 h2 => ToGps_ok hk (by omega) c p X hX hl h1 h2, fun X c p hl => rToGps_ok hk (by omega) (by omega) c p X hl hn⟩
  · exact ⟨_, _, _, fun X c p hX hl h1 h2 => ToGps_no hk c p X hX hl (by omega) h1 h2, fun X c p hl => rToGps_no hk c p X hl hn⟩
end Go.Proofs.YtjdpdabafbbfaaaDoor.Cal
