/- Layer 9 (calendar), the reference: Dates, Atomic, Announced, Seconds. (by gen_dz.py) -/
import Derived.Test.YtklhepgpepfgjaaDoorQ37
namespace Go.Proofs.YtklhepgpepfgjaaDoor.Cal
open Go Go.RowKit
attribute [local go_sem] Oper.semAt_some

theorem rdts_start (w : World) (b u : Int) (n c : Nat) (p : Option Addr) : TBox ((w.alloc (.cells #[.int .i64 b, .slice p n c, .int .i64 u] 53)).alloc (.cells #[.int .i64 0, .int .i64 0, .int .i64 0, .int .i64 0, .int .i64 0, .int .i64 0] 65)) w.heap.size b u n c p ∧ Res6 ((w.alloc (.cells #[.int .i64 b, .slice p n c, .int .i64 u] 53)).alloc (.cells #[.int .i64 0, .int .i64 0, .int .i64 0, .int .i64 0, .int .i64 0, .int .i64 0] 65)) (w.heap.size + 1) ∧ Below w.heap.size w ((w.alloc (.cells #[.int .i64 b, .slice p n c, .int .i64 u] 53)).alloc (.cells #[.int .i64 0, .int .i64 0, .int .i64 0, .int .i64 0, .int .i64 0, .int .i64 0] 65)) := by
  have b1 := below_alloc (Below.refl w.heap.size w) (.cells #[.int .i64 b, .slice p n c, .int .i64 u] 53)
  have h1 := TBox.new w b u n c p 53
  have e1 : (w.alloc (.cells #[.int .i64 b, .slice p n c, .int .i64 u] 53)).heap.size = w.heap.size + 1 := by simp
  generalize w.alloc (.cells #[.int .i64 b, .slice p n c, .int .i64 u] 53) = W1 at *
  have b2 := below_alloc (Below.refl W1.heap.size W1) (.cells #[.int .i64 0, .int .i64 0, .int .i64 0, .int .i64 0, .int .i64 0, .int .i64 0] 65)
  have h2 := Res6.new W1 (.int .i64 0) (.int .i64 0) (.int .i64 0) (.int .i64 0) (.int .i64 0) (.int .i64 0) 65
  rw [e1] at h2
  exact ⟨h1.below b2, h2, bt b1 b2⟩

set_option maxHeartbeats 2000000 in
theorem rDates_ok {b u : Int} {n : Nat} {f : Nat → Int × Int} {s : Int} (hk : knownE b u n f s = 0) {D : Int} (hD : IsDayOf u n f s D) {y : Int} {k : Nat} {d : Int} (hci : IsCiv D y k d) (c : Nat) (p : Option Addr) (w : World) (hs : LpIn w f n p) :
    Calls Tryd.prog 58 #[.agg #[.int .i64 b, .slice p n c, .int .i64 u], .int .i64 s] w fun e w' => e = .returned (.tuple #[.agg #[.int .i64 y, .int .i64 (k : Int), .int .i64 d, .int .i64 (hrS (s - beginS f n D)), .int .i64 (mnS (s - beginS f n D)), .int .i64 (scS (s - beginS f n D))], .int .i64 0]) ∧ Below w.heap.size w w' := by
  obtain ⟨ht, hi⟩ := knownE_zero hk
  have HTO := Lib.hid (tab_ok ht)
  obtain ⟨hx, hr, A0⟩ := rdts_start w b u n c p
  have HX := Lib.hid hx
  have HR := Lib.hid hr
  have HKN := Lib.hid (rknown_any b u s n c p f _ (hs.below A0) (by have := HTO.out.n1; omega))
  rw [hk] at HKN
  have HS := Lib.hid (hs.below A0)
  have A0 := Lib.hid A0
  have hrb := hD.rest_bd HTO.out
  have HD := Lib.hid hD
  have HCI := Lib.hid hci
  clear hx hr hs hk ht hi hD hci
  have HSP := Lib.hid (fun X (hX : LpIn X f n p) => rsplit_any HTO.out HD.out c p X hX)
  obtain ⟨r, hrr⟩ : ∃ r, s - beginS f n D = r := ⟨_, rfl⟩
  rw [hrr] at HSP hrb ⊢
  clear hrr
  have hmb := minS_bd r hrb.1
  have hsb := sec_bd r hrb
  obtain ⟨mn, hmn⟩ : ∃ mn, minS r = mn := ⟨_, rfl⟩
  have v3 : (if 1439 < r / 60 then 1439 else r / 60) = mn := hmn
  have HE1 := Lib.hid (show mn / 60 = hrS r by unfold hrS; rw [hmn])
  have HE2 := Lib.hid (show mn % 60 = mnS r by unfold mnS; rw [hmn])
  have HE3 := Lib.hid (show r - 60 * mn = scS r by unfold scS; rw [hmn])
  rw [hmn] at hmb hsb
  rw [← HE1.out, ← HE2.out, ← HE3.out]
  have v6 : IntKind.i64.wrap (60 * mn) = 60 * mn := IntWalk.i64_in _ (by omega)
  have v7 : IntKind.i64.wrap (r - 60 * mn) = r - 60 * mn := IntWalk.i64_in _ (by omega)
  have hr0 : 0 ≤ r := hrb.1
  have hr1 : r ≤ 86400 := hrb.2
  have hm0 : 0 ≤ mn := hmb.1
  have hm1 : mn ≤ 1439 := hmb.2
  clear hmb hsb hmn hrb HE1 HE2 HE3
  go_enter Tryd.func58, Tryd.ntmps58
  go_upto_region 1 with fail
  generalize (w.alloc (.cells #[.int .i64 b, .slice p n c, .int .i64 u] 53)).alloc (.cells #[.int .i64 0, .int .i64 0, .int .i64 0, .int .i64 0, .int .i64 0, .int .i64 0] 65) = W1 at *
  obtain ⟨x0, x1, x2⟩ := HX.out
  have zx := cell_lt x0
  go_upto_region 4 with (go_at_call 84; refine HKN.out.mono ?_; rintro e w2 ⟨rfl, hb2⟩; have HB2 := Lib.hid hb2; clear hb2)
  clear x0 x1 x2 zx
  obtain ⟨x0, x1, x2⟩ := HX.out.below HB2.out
  have zx := cell_lt x0
  have HSC := Lib.hid (HSP.out w2 (HS.out.below HB2.out))
  go_upto_region 5 with (go_at_call 85; refine HSC.out.mono ?_; rintro e w3 ⟨rfl, hb3⟩; have HB3 := Lib.hid (bt HB2.out hb3); clear hb3)
  have HCC := Lib.hid (rCivil_ok w3 HCI.out)
  clear x0 x1 x2 zx
  go_upto_region 6 with (go_at_call 82; refine HCC.out.mono ?_; rintro e w4 ⟨rfl, rfl⟩)
  obtain ⟨⟨q0, r0⟩, ⟨q1, r1⟩, ⟨q2, r2⟩, ⟨q3, r3⟩, ⟨q4, r4⟩, ⟨q5, r5⟩, rz⟩ := HR.out.below (HB3.out)
  have z0 := rz 0
  have z1 := rz 1
  have z2 := rz 2
  have z3 := rz 3
  have z4 := rz 4
  have z5 := rz 5
  have zr := cell_lt r0
  clear rz
  go_wp2
  refine bodyPost_ret (v := .tuple #[.agg #[.int .i64 y, .int .i64 (k : Int), .int .i64 d, .int .i64 (mn / 60), .int .i64 (mn % 60), .int .i64 (r - 60 * mn)], .int .i64 0]) (by simp [results, Tryd.results58, go_sem, r0, r1, r2, r3, r4, r5]) rfl ⟨rfl, ?_⟩
  exact (((((((bt A0.out HB3.out).setCell (p := ⟨w.heap.size + 1, _, none⟩) (Nat.le_succ _) _).setCell (p := ⟨w.heap.size + 1, _, none⟩) (Nat.le_succ _) _).setCell (p := ⟨w.heap.size + 1, _, none⟩) (Nat.le_succ _) _).setCell (p := ⟨w.heap.size + 1, _, none⟩) (Nat.le_succ _) _).setCell (p := ⟨w.heap.size + 1, _, none⟩) (Nat.le_succ _) _).setCell (p := ⟨w.heap.size + 1, _, none⟩) (Nat.le_succ _) _)
set_option maxHeartbeats 2000000 in
theorem rDates_no {b u : Int} {n : Nat} {f : Nat → Int × Int} {s : Int} (hk : knownE b u n f s ≠ 0) (c : Nat) (p : Option Addr) (w : World) (hs : LpIn w f n p) (hn : n ≤ 1000000000000) :
    Calls Tryd.prog 58 #[.agg #[.int .i64 b, .slice p n c, .int .i64 u], .int .i64 s] w fun e w' => e = .returned (.tuple #[.agg #[.int .i64 0, .int .i64 0, .int .i64 0, .int .i64 0, .int .i64 0, .int .i64 0], .int .i64 (knownE b u n f s)]) ∧ Below w.heap.size w w' := by
  obtain ⟨hx, hr, A0⟩ := rdts_start w b u n c p
  have HX := Lib.hid hx
  have HR := Lib.hid hr
  have HKN := Lib.hid (rknown_any b u s n c p f _ (hs.below A0) hn)
  have A0 := Lib.hid A0
  obtain ⟨er, her⟩ : ∃ er, knownE b u n f s = er := ⟨_, rfl⟩
  rw [her] at hk HKN ⊢
  have hne : (er == 0) = false := by simpa using hk
  clear hx hr hs hk her
  go_enter Tryd.func58, Tryd.ntmps58
  go_upto_region 1 with fail
  generalize (w.alloc (.cells #[.int .i64 b, .slice p n c, .int .i64 u] 53)).alloc (.cells #[.int .i64 0, .int .i64 0, .int .i64 0, .int .i64 0, .int .i64 0, .int .i64 0] 65) = W1 at *
  obtain ⟨x0, x1, x2⟩ := HX.out
  have zx := cell_lt x0
  go_upto_region 2 with (go_at_call 84; refine HKN.out.mono ?_; rintro e w2 ⟨rfl, hb2⟩; have HB2 := Lib.hid hb2; clear hb2)
  clear x0 x1 x2 zx
  obtain ⟨⟨q0, r0⟩, ⟨q1, r1⟩, ⟨q2, r2⟩, ⟨q3, r3⟩, ⟨q4, r4⟩, ⟨q5, r5⟩, rz⟩ := HR.out.below (HB2.out)
  have z0 := rz 0
  have z1 := rz 1
  have z2 := rz 2
  have z3 := rz 3
  have z4 := rz 4
  have z5 := rz 5
  have zr := cell_lt r0
  clear rz
  go_wp2
  refine bodyPost_ret (v := .tuple #[.agg #[.int .i64 0, .int .i64 0, .int .i64 0, .int .i64 0, .int .i64 0, .int .i64 0], .int .i64 er]) (by simp [results, Tryd.results58, go_sem, r0, r1, r2, r3, r4, r5]) rfl ⟨rfl, ?_⟩
  exact (((((((bt A0.out HB2.out).setCell (p := ⟨w.heap.size + 1, _, none⟩) (Nat.le_succ _) _).setCell (p := ⟨w.heap.size + 1, _, none⟩) (Nat.le_succ _) _).setCell (p := ⟨w.heap.size + 1, _, none⟩) (Nat.le_succ _) _).setCell (p := ⟨w.heap.size + 1, _, none⟩) (Nat.le_succ _) _).setCell (p := ⟨w.heap.size + 1, _, none⟩) (Nat.le_succ _) _).setCell (p := ⟨w.heap.size + 1, _, none⟩) (Nat.le_succ _) _)
end Go.Proofs.YtklhepgpepfgjaaDoor.Cal
