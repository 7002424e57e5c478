/- Layer 9 (calendar), the reference: Length, Offset, Total, known, split, Dates, Atomic, Announced. (by gen_dy.py) -/
import Derived.Test.YtklhepgpepfgjaaDoorQ36
import Derived.Test.YtklhepgpepfgjaaDoorQ23
namespace Go.Proofs.YtklhepgpepfgjaaDoor.Cal
open Go Go.RowKit
theorem rTotal_any (b u : Int) (n c : Nat) (p : Option Addr) (f : Nat → Int × Int) (w : World) (hs : LpIn w f n p) (hn : n ≤ 1000000000000) :
    Calls Tryd.prog 93 #[.agg #[.int .i64 b, .slice p n c, .int .i64 u]] w fun e w' => e = .returned (.tuple #[.int .i64 (if tabE b u n f = 0 then beginS f n u else 0), .int .i64 (tabE b u n f)]) ∧ Below w.heap.size w w' := by
  have A0 := below_alloc (Below.refl w.heap.size w) (.cells #[.int .i64 b, .slice p n c, .int .i64 u] 53)
  have HX := Lib.hid (TBox.new w b u n c p 53)
  have HCK := Lib.hid (rCheck_any b u n c p f _ (hs.below A0) hn)
  have HS := Lib.hid (hs.below A0)
  have A0 := Lib.hid A0
  clear hs
  by_cases ht : tabE b u n f = 0
  · rw [if_pos ht, ht]
    rw [ht] at HCK
    have HTO := Lib.hid (tab_ok ht)
    clear ht
    go_enter Tryd.func93, Tryd.ntmps93
    go_upto_region 1 with fail
    generalize w.alloc (.cells #[.int .i64 b, .slice p n c, .int .i64 u] 53) = W1 at *
    obtain ⟨x0, x1, x2⟩ := HX.out
    have zx := cell_lt x0
    go_upto_region 4 with (go_at_call 57; refine HCK.out.mono ?_; rintro e w2 ⟨rfl, hb2⟩; have HB2 := Lib.hid hb2; clear hb2)
    clear x0 x1 x2 zx
    obtain ⟨x0, x1, x2⟩ := HX.out.below HB2.out
    have zx := cell_lt x0
    have HTL := Lib.hid (rbegin_any HTO.out u c p w2 (HS.out.below HB2.out) (by have := HTO.out.u1; have := HTO.out.u2; omega))
    go_wp2_with (go_at_call 87; refine HTL.out.mono ?_; rintro e w3 ⟨rfl, hb3⟩; have HB3 := Lib.hid hb3; clear hb3)
    go_ret2
    exact ⟨rfl, bt (bt A0.out HB2.out) HB3.out⟩
  · rw [if_neg ht]
    obtain ⟨er, her⟩ : ∃ er, tabE b u n f = er := ⟨_, rfl⟩
    rw [her] at ht HCK ⊢
    have hne : (er == 0) = false := by simpa using ht
    clear her ht
    go_enter Tryd.func93, Tryd.ntmps93
    go_upto_region 1 with fail
    generalize w.alloc (.cells #[.int .i64 b, .slice p n c, .int .i64 u] 53) = W1 at *
    obtain ⟨x0, x1, x2⟩ := HX.out
    have zx := cell_lt x0
    go_wp2_with (go_at_call 57; refine HCK.out.mono ?_; rintro e w2 ⟨rfl, hb2⟩; have HB2 := Lib.hid hb2; clear hb2)
    go_ret2
    exact ⟨rfl, bt A0.out HB2.out⟩
theorem rknown_any (b u s : Int) (n c : Nat) (p : Option Addr) (f : Nat → Int × Int) (w : World) (hs : LpIn w f n p) (hn : n ≤ 1000000000000) :
    Calls Tryd.prog 84 #[.agg #[.int .i64 b, .slice p n c, .int .i64 u], .int .i64 s] w fun e w' => e = .returned (.int .i64 (knownE b u n f s)) ∧ Below w.heap.size w w' := by
  have A0 := below_alloc (Below.refl w.heap.size w) (.cells #[.int .i64 b, .slice p n c, .int .i64 u] 53)
  have HX := Lib.hid (TBox.new w b u n c p 53)
  have HTT := Lib.hid (rTotal_any b u n c p f _ (hs.below A0) hn)
  have A0 := Lib.hid A0
  clear hs
  by_cases ht : tabE b u n f = 0
  · have HKN := Lib.hid (show knownE b u n f s = if inB s (beginS f n u) = true then 0 else 6 from if_pos ht)
    have htb := (tab_ok ht).total_bd
    rw [if_pos ht, ht] at HTT
    have vt : IntKind.i64.wrap (beginS f n u - 1) = beginS f n u - 1 := IntWalk.i64_in _ (by omega)
    rw [HKN.out]
    clear ht htb
    generalize beginS f n u = tot at *
    cases hi : inB s tot
    · have HI := Lib.hid (show (decide (0 ≤ s) && decide (s ≤ tot - 1)) = false from hi)
      clear hi
      simp only [Bool.false_eq_true, if_false]
      go_enter Tryd.func84, Tryd.ntmps84
      go_upto_region 1 with fail
      generalize w.alloc (.cells #[.int .i64 b, .slice p n c, .int .i64 u] 53) = W1 at *
      obtain ⟨x0, x1, x2⟩ := HX.out
      have zx := cell_lt x0
      go_wp2_with (first | (go_at_call 93; refine HTT.out.mono ?_; rintro e w2 ⟨rfl, hb2⟩; have HB2 := Lib.hid hb2; clear hb2) | (go_at_call 56; refine (in_any _ _ _ _).mono ?_; rintro e w' ⟨rfl, rfl⟩; rw [HI.out]))
      go_ret
      exact ⟨rfl, bt A0.out HB2.out⟩
    · have HI := Lib.hid (show (decide (0 ≤ s) && decide (s ≤ tot - 1)) = true from hi)
      clear hi
      simp only [if_true]
      go_enter Tryd.func84, Tryd.ntmps84
      go_upto_region 1 with fail
      generalize w.alloc (.cells #[.int .i64 b, .slice p n c, .int .i64 u] 53) = W1 at *
      obtain ⟨x0, x1, x2⟩ := HX.out
      have zx := cell_lt x0
      go_wp2_with (first | (go_at_call 93; refine HTT.out.mono ?_; rintro e w2 ⟨rfl, hb2⟩; have HB2 := Lib.hid hb2; clear hb2) | (go_at_call 56; refine (in_any _ _ _ _).mono ?_; rintro e w' ⟨rfl, rfl⟩; rw [HI.out]))
      go_ret
      exact ⟨rfl, bt A0.out HB2.out⟩
  · have HKN := Lib.hid (show knownE b u n f s = tabE b u n f from if_neg ht)
    rw [if_neg ht] at HTT
    obtain ⟨er, her⟩ : ∃ er, tabE b u n f = er := ⟨_, rfl⟩
    rw [HKN.out]
    rw [her] at ht HTT ⊢
    have hne : (er == 0) = false := by simpa using ht
    clear her ht HKN
    go_enter Tryd.func84, Tryd.ntmps84
    go_upto_region 1 with fail
    generalize w.alloc (.cells #[.int .i64 b, .slice p n c, .int .i64 u] 53) = W1 at *
    obtain ⟨x0, x1, x2⟩ := HX.out
    have zx := cell_lt x0
    go_wp2_with (go_at_call 93; refine HTT.out.mono ?_; rintro e w2 ⟨rfl, hb2⟩; have HB2 := Lib.hid hb2; clear hb2)
    go_ret
    exact ⟨rfl, bt A0.out HB2.out⟩
set_option maxHeartbeats 2000000 in
theorem rsplit_any {b u : Int} {n : Nat} {f : Nat → Int × Int} (ht : TabOk b u n f) {s D : Int} (hD : IsDayOf u n f s D) (c : Nat) (p : Option Addr) (w : World) (hs : LpIn w f n p) :
    Calls Tryd.prog 85 #[.agg #[.int .i64 b, .slice p n c, .int .i64 u], .int .i64 s] w fun e w' => e = .returned (.tuple #[.int .i64 D, .int .i64 (s - beginS f n D)]) ∧ Below w.heap.size w w' := by
  have A0 := below_alloc (Below.refl w.heap.size w) (.cells #[.int .i64 b, .slice p n c, .int .i64 u] 53)
  have HX := Lib.hid (TBox.new w b u n c p 53)
  have HS := Lib.hid (hs.below A0)
  have A0 := Lib.hid A0
  have HT := Lib.hid ht
  have HD := Lib.hid hD
  have hu1 := ht.u1
  have hu2 := ht.u2
  have hd1 := hD.d1
  have hd2 := hD.d2
  have hrb := hD.rest_bd ht
  have v1 : IntKind.i64.wrap (u - 1) = u - 1 := IntWalk.i64_in _ (by omega)
  have v2 : IntKind.i64.wrap (s - beginS f n D) = s - beginS f n D := IntWalk.i64_in _ (by omega)
  clear hs ht hD hrb
  go_enter Tryd.func85, Tryd.ntmps85
  go_upto_region 1 with fail
  generalize w.alloc (.cells #[.int .i64 b, .slice p n c, .int .i64 u] 53) = W1 at *
  obtain ⟨x0, x1, x2⟩ := HX.out
  have zx := cell_lt x0
  go_quiet (fail)
  clear x0 x1 x2 zx
  have HB1 := Lib.hid (below_drewN (Below.refl W1.heap.size W1) nq)
  generalize W1.drewN nq = W2 at *
  go_wp2_with fail
  go_loopw [6, 7, 8] (fun s6 s7 s8 wr => ∃ (lo hi : Int) (v : Value), 41317 ≤ lo ∧ lo ≤ D ∧ D ≤ hi ∧ hi ≤ u - 1 ∧ s6 = .int .i64 lo ∧ s7 = .int .i64 hi ∧ s8 = v ∧ Hid (Below W1.heap.size W1 wr)) (fun s6 s7 _ _ => (intOf s7 - intOf s6).toNat)
  case atStart => exact ⟨41317, u - 1, _, by omega, by omega, by omega, by omega, rfl, rfl, rfl, HB1⟩
  case round =>
    obtain ⟨lo, hi, v, h1, h2, h3, h4, rfl, rfl, rfl, HB⟩ := hrel
    obtain ⟨x0, x1, x2⟩ := HX.out.below HB.out
    have zx := cell_lt x0
    by_cases hlt : lo < hi
    · have k1 : IntKind.i64.wrap (lo + hi) = lo + hi := IntWalk.i64_in _ (by omega)
      have k2 : IntKind.i64.wrap (lo + hi + 1) = lo + hi + 1 := IntWalk.i64_in _ (by omega)
      obtain ⟨md, hmd⟩ : ∃ md, (lo + hi + 1) / 2 = md := ⟨_, rfl⟩
      have hm0 : lo < md ∧ md ≤ hi := by omega
      have k3 : IntKind.i64.wrap (md - 1) = md - 1 := IntWalk.i64_in _ (by omega)
      have HBG := Lib.hid (rbegin_any HT.out md c p wr (HS.out.below HB.out) (by omega))
      by_cases hmD : md ≤ D
      · have hbl := HD.out.before HT.out hmD
        generalize beginS f n md = bg at *
        go_wp2_with (go_at_call 87; refine HBG.out.mono ?_; rintro e w3 ⟨rfl, hb3⟩; have HB3 := Lib.hid (bt HB.out hb3); clear hb3)
        go_roundw
        case rel => exact ⟨md, hi, _, by omega, hmD, h3, h4, rfl, rfl, rfl, HB3⟩
        case measure => simp [intOf]; omega
      · have hbl := HD.out.after HT.out (e := md) (by omega)
        have hbl2 : ¬ beginS f n md ≤ s := by omega
        clear hbl
        generalize beginS f n md = bg at *
        go_wp2_with (go_at_call 87; refine HBG.out.mono ?_; rintro e w3 ⟨rfl, hb3⟩; have HB3 := Lib.hid (bt HB.out hb3); clear hb3)
        go_roundw
        case rel => exact ⟨lo, md - 1, _, h1, h2, by omega, by omega, rfl, rfl, rfl, HB3⟩
        case measure => simp [intOf]; omega
    · have e1 : lo = D := by omega
      subst e1
      have HBG := Lib.hid (rbegin_any HT.out lo c p wr (HS.out.below HB.out) (by omega))
      obtain ⟨bg, hbg⟩ : ∃ bg, beginS f n lo = bg := ⟨_, rfl⟩
      have HE := Lib.hid (show s - bg = s - beginS f n lo by rw [hbg])
      rw [hbg] at HBG v2
      clear hbg
      go_wp2_with (go_at_call 87; refine HBG.out.mono ?_; rintro e w3 ⟨rfl, hb3⟩; have HB3 := Lib.hid (bt HB.out hb3); clear hb3)
      go_ret2
      exact ⟨congrArg (fun z => Ending.returned (.tuple #[.int .i64 lo, .int .i64 z])) HE.out, bt A0.out HB3.out⟩
end Go.Proofs.YtklhepgpepfgjaaDoor.Cal
