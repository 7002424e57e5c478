/-  ·  ·  -/
import Derived.Test.YtgnfaemnehmgcaaGreatDoorQ09
import Derived.Test.YtgnfaemnehmgcaaGreatDoorQ07
namespace Go.Proofs.YtgnfaemnehmgcaaGreatDoor.Cal
open Go Go.RowKit
attribute [local go_sem] Oper.semAt_some
structure Res6 (w : World) (a : Nat) : Prop where
  r0 : ∃ v, w.cell? ⟨a, 0, none⟩ = some v
  r1 : ∃ v, w.cell? ⟨a, 1, none⟩ = some v
  r2 : ∃ v, w.cell? ⟨a, 2, none⟩ = some v
  r3 : ∃ v, w.cell? ⟨a, 3, none⟩ = some v
  r4 : ∃ v, w.cell? ⟨a, 4, none⟩ = some v
  r5 : ∃ v, w.cell? ⟨a, 5, none⟩ = some v
  z : ∀ i, w.frozen? ⟨a, i, none⟩ = false
theorem Res6.lt {w : World} {a : Nat} (h : Res6 w a) : a < w.heap.size := let ⟨_, e⟩ := h.r0; cell_lt e
theorem Res6.new (w : World) (v0 v1 v2 v3 v4 v5 : Value) (t : TypeId) : Res6 (w.alloc (.cells #[v0, v1, v2, v3, v4, v5] t)) w.heap.size := ⟨⟨v0, by simp⟩, ⟨v1, by simp⟩, ⟨v2, by simp⟩, ⟨v3, by simp⟩, ⟨v4, by simp⟩, ⟨v5, by simp⟩, fun i => by simp⟩
theorem Res6.below {w w' : World} {a : Nat} (h : Res6 w a) (hb : Below w.heap.size w w') : Res6 w' a :=
  ⟨h.r0.imp fun _ e => cell_below hb e, h.r1.imp fun _ e => cell_below hb e, h.r2.imp fun _ e => cell_below hb e, h.r3.imp fun _ e => cell_below hb e, h.r4.imp fun _ e => cell_below hb e, h.r5.imp fun _ e => cell_below hb e, fun i => (hb.frozen (p := ⟨a, i, none⟩) h.lt).trans (h.z i)⟩
theorem wr_start (w : World) (b u : Int) (n c : Nat) (p : Option Addr) (mb : Nat) : WBox ((w.alloc (.cells #[.int .i64 b, .slice p n c, .int .i64 u, .map (some mb)] 132)).alloc (.cells #[.int .i64 0, .int .i64 0] 136)) w.heap.size b u n c p mb ∧ Res2 ((w.alloc (.cells #[.int .i64 b, .slice p n c, .int .i64 u, .map (some mb)] 132)).alloc (.cells #[.int .i64 0, .int .i64 0] 136)) (w.heap.size + 1) ∧ Below w.heap.size w ((w.alloc (.cells #[.int .i64 b, .slice p n c, .int .i64 u, .map (some mb)] 132)).alloc (.cells #[.int .i64 0, .int .i64 0] 136)) := by
  have b1 := below_alloc (Below.refl w.heap.size w) (.cells #[.int .i64 b, .slice p n c, .int .i64 u, .map (some mb)] 132)
  have e : (w.alloc (.cells #[.int .i64 b, .slice p n c, .int .i64 u, .map (some mb)] 132)).heap.size = w.heap.size + 1 := by simp
  have h := Res2.new (w.alloc (.cells #[.int .i64 b, .slice p n c, .int .i64 u, .map (some mb)] 132)) (.int .i64 0) (.int .i64 0) 136
  rw [e] at h
  exact ⟨(WBox.new w b u n c p mb).below (below_alloc (Below.refl _ _) _), h, below_alloc b1 _⟩
set_option maxHeartbeats 2000000 in
theorem wmoment_any {b u : Int} {n : Nat} {f : Nat → Int × Int} (ht : TabOk b u n f) {s D : Int} (hD : IsDayOf u n f s D) (c : Nat) (p : Option Addr) (mb : Nat) (w : World) (hs : LpIn w f n p) (hc : n ≤ c) (hcm : c ≤ maxLen) :
    Calls Tryz.prog 119 #[.agg #[.int .i64 b, .slice p n c, .int .i64 u, .map (some mb)], .int .i64 s] w fun e w' => e = .returned (.agg #[.int .i64 (1440 * D + minS (s - beginS f n D)), .int .i64 (s - beginS f n D - 60 * minS (s - beginS f n D))]) ∧ Below w.heap.size w w' := by
  obtain ⟨hx, hr, hb⟩ := wr_start w b u n c p mb
  have HX := Lib.hid hx
  have HR := Lib.hid hr
  have A0 := Lib.hid hb
  have HS := Lib.hid (hs.below hb)
  have hrb := hD.rest_bd ht
  have hd1 := hD.d1
  have hd2 := hD.d2
  have hu2 := ht.u2
  have HDY := Lib.hid (fun X (hX : Below ((w.alloc (.cells #[.int .i64 b, .slice p n c, .int .i64 u, .map (some mb)] 132)).alloc (.cells #[.int .i64 0, .int .i64 0] 136)).heap.size ((w.alloc (.cells #[.int .i64 b, .slice p n c, .int .i64 u, .map (some mb)] 132)).alloc (.cells #[.int .i64 0, .int .i64 0] 136)) X) => dayOf_any ht hD c p X (HS.out.below hX) hc hcm)
  have HBG := Lib.hid (fun X (hX : Below ((w.alloc (.cells #[.int .i64 b, .slice p n c, .int .i64 u, .map (some mb)] 132)).alloc (.cells #[.int .i64 0, .int .i64 0] 136)).heap.size ((w.alloc (.cells #[.int .i64 b, .slice p n c, .int .i64 u, .map (some mb)] 132)).alloc (.cells #[.int .i64 0, .int .i64 0] 136)) X) => begin_any ht D c p X (HS.out.below hX) hc hcm (by omega))
  obtain ⟨bg, hbg⟩ : ∃ bg, beginS f n D = bg := ⟨_, rfl⟩
  rw [hbg] at HBG hrb ⊢
  clear hbg
  have hmb := minS_bd (s - bg) hrb.1
  have hsb := sec_bd (s - bg) hrb
  have v1 : IntKind.i64.wrap (s - bg) = s - bg := IntWalk.i64_in _ (by omega)
  obtain ⟨r, hrr⟩ : ∃ r, s - bg = r := ⟨_, rfl⟩
  rw [hrr] at v1 hmb hsb hrb ⊢
  have v2 : IntKind.i64.wrap (s - bg) = r := by rw [hrr]; exact v1
  obtain ⟨mn, hmn⟩ : ∃ mn, minS r = mn := ⟨_, rfl⟩
  have v3 : (if 1439 < r / 60 then 1439 else r / 60) = mn := hmn
  rw [hmn] at hmb hsb ⊢
  have v4 : IntKind.i64.wrap (1440 * D) = 1440 * D := IntWalk.i64_in _ (by omega)
  have v5 : IntKind.i64.wrap (1440 * D + mn) = 1440 * D + mn := IntWalk.i64_in _ (by omega)
  have v6 : IntKind.i64.wrap (60 * mn) = 60 * mn := IntWalk.i64_in _ (by omega)
  have v7 : IntKind.i64.wrap (r - 60 * mn) = r - 60 * mn := IntWalk.i64_in _ (by omega)
  have hr0 : 0 ≤ r := hrb.1
  have hr1 : r ≤ 86400 := hrb.2
  clear hx hr hb hs hrb hd1 hd2 hu2 ht hD hmn hrr v1 hmb hsb
  go_enter Tryz.func119, Tryz.ntmps119
  go_upto_region 1 with fail
  generalize (w.alloc (.cells #[.int .i64 b, .slice p n c, .int .i64 u, .map (some mb)] 132)).alloc (.cells #[.int .i64 0, .int .i64 0] 136) = W1 at *
  obtain ⟨⟨x0, x1, x2⟩, x3⟩ := HX.out
  have zx := cell_lt x0
  have HDC := Lib.hid (HDY.out W1 (Below.refl _ _))
  go_upto_region 2 with (go_at_call 136; refine HDC.out.mono ?_; rintro e w2 ⟨rfl, hb2⟩; have HB2 := Lib.hid hb2; clear hb2)
  clear x0 x1 x2 x3 zx
  obtain ⟨⟨x0, x1, x2⟩, x3⟩ := HX.out.below HB2.out
  have zx := cell_lt x0
  have HBC := Lib.hid (HBG.out w2 HB2.out)
  go_upto_region 3 with (go_at_call 113; refine HBC.out.mono ?_; rintro e w3 ⟨rfl, hb3⟩; have HB3 := Lib.hid (bt HB2.out hb3); clear hb3)
  clear x0 x1 x2 x3 zx
  obtain ⟨⟨u0, r0⟩, ⟨u1, r1⟩, rz⟩ := HR.out.below HB3.out
  have z0 := rz 0
  have z1 := rz 1
  have zr := cell_lt r0
  clear rz
  go_wp2
  refine bodyPost_ret (v := .agg #[.int .i64 (1440 * D + mn), .int .i64 (r - 60 * mn)]) (by simp [results, Tryz.results119, go_sem, r0, r1]) rfl ⟨rfl, ?_⟩
  exact ((bt A0.out HB3.out).setCell (p := ⟨w.heap.size + 1, _, none⟩) (Nat.le_succ _) _).setCell (p := ⟨w.heap.size + 1, _, none⟩) (Nat.le_succ _) _
theorem mr_start (w : World) (m s : Int) : MBox ((w.alloc (.cells #[.int .i64 m, .int .i64 s] 136)).alloc (.cells #[.int .i64 0, .int .i64 0, .int .i64 0, .int .i64 0, .int .i64 0, .int .i64 0] 26)) w.heap.size m s ∧ Res6 ((w.alloc (.cells #[.int .i64 m, .int .i64 s] 136)).alloc (.cells #[.int .i64 0, .int .i64 0, .int .i64 0, .int .i64 0, .int .i64 0, .int .i64 0] 26)) (w.heap.size + 1) ∧ Below w.heap.size w ((w.alloc (.cells #[.int .i64 m, .int .i64 s] 136)).alloc (.cells #[.int .i64 0, .int .i64 0, .int .i64 0, .int .i64 0, .int .i64 0, .int .i64 0] 26)) := by
  have b1 := below_alloc (Below.refl w.heap.size w) (.cells #[.int .i64 m, .int .i64 s] 136)
  have e : (w.alloc (.cells #[.int .i64 m, .int .i64 s] 136)).heap.size = w.heap.size + 1 := by simp
  have h := Res6.new (w.alloc (.cells #[.int .i64 m, .int .i64 s] 136)) (.int .i64 0) (.int .i64 0) (.int .i64 0) (.int .i64 0) (.int .i64 0) (.int .i64 0) 26
  rw [e] at h
  exact ⟨(MBox.new w m s).below (below_alloc (Below.refl _ _) _), h, below_alloc b1 _⟩
set_option maxHeartbeats 2000000 in
theorem mdate_any {m s D : Int} (hm : m / 1440 = D) {od : Int} (ho : m % 1440 = od) {y : Int} {k : Nat} {d : Int} (hci : IsCiv D y k d) (w : World) (hw : Mon w) :
    Calls Tryz.prog 123 #[.agg #[.int .i64 m, .int .i64 s]] w fun e w' => e = .returned (.agg #[.int .i64 y, .int .i64 (k : Int), .int .i64 d, .int .i64 (od / 60), .int .i64 (od % 60), .int .i64 s]) ∧ Below w.heap.size w w' := by
  obtain ⟨hx, hr, hb⟩ := mr_start w m s
  have HX := Lib.hid hx
  have HR := Lib.hid hr
  have A0 := Lib.hid hb
  have HW := Lib.hid (hw.below hb)
  have hnb := hci.n_bd
  have HMD := Lib.hid (fun X => mday_any m s X (by omega))
  rw [hm] at HMD
  have HOD := Lib.hid (fun X => mofday_any m s X)
  rw [ho] at HOD
  have ho0 : 0 ≤ od := by omega
  have ho1 : od < 1440 := by omega
  have HCI := Lib.hid hci
  clear hx hr hb hw hnb hm ho hci
  go_enter Tryz.func123, Tryz.ntmps123
  go_upto_region 1 with fail
  generalize (w.alloc (.cells #[.int .i64 m, .int .i64 s] 136)).alloc (.cells #[.int .i64 0, .int .i64 0, .int .i64 0, .int .i64 0, .int .i64 0, .int .i64 0] 26) = W1 at *
  obtain ⟨y0, y1⟩ := HX.out
  have zy := cell_lt y0
  go_wp2_with fail
  refine (HMD.out W1).mono ?_
  rintro e w2 ⟨rfl, hb2⟩
  have HB2 := Lib.hid hb2
  clear hb2
  have HCC := Lib.hid (civil_any w2 (HW.out.below HB2.out) HCI.out)
  go_upto_region 2 with (go_at_call 89; refine HCC.out.mono ?_; rintro e w3 ⟨rfl, rfl⟩)
  clear y0 y1 zy
  obtain ⟨y0, y1⟩ := HX.out.below HB2.out
  have zy := cell_lt y0
  go_upto_region 3 with (go_at_call 134; refine (HOD.out w2).mono ?_; rintro e w3 ⟨rfl, hb3⟩; have HB3 := Lib.hid (bt HB2.out hb3); clear hb3)
  clear y0 y1 zy
  obtain ⟨y0, y1⟩ := HX.out.below HB3.out
  have zy := cell_lt y0
  obtain ⟨⟨u0, r0⟩, ⟨u1, r1⟩, ⟨u2, r2⟩, ⟨u3, r3⟩, ⟨u4, r4⟩, ⟨u5, r5⟩, rz⟩ := HR.out.below HB3.out
  have z0 := rz 0
  have z1 := rz 1
  have z2 := rz 2
  have z3 := rz 3
  have z4 := rz 4
  have z5 := rz 5
  have zr := cell_lt r0
  clear rz
  go_wp2
  refine bodyPost_ret (v := .agg #[.int .i64 y, .int .i64 (k : Int), .int .i64 d, .int .i64 (od / 60), .int .i64 (od % 60), .int .i64 s]) (by simp [results, Tryz.results123, go_sem, r0, r1, r2, r3, r4, r5]) rfl ⟨rfl, ?_⟩
  exact (((((((bt A0.out HB3.out).setCell (p := ⟨w.heap.size + 1, _, none⟩) (Nat.le_succ _) _).setCell (p := ⟨w.heap.size + 1, _, none⟩) (Nat.le_succ _) _).setCell (p := ⟨w.heap.size + 1, _, none⟩) (Nat.le_succ _) _).setCell (p := ⟨w.heap.size + 1, _, none⟩) (Nat.le_succ _) _).setCell (p := ⟨w.heap.size + 1, _, none⟩) (Nat.le_succ _) _).setCell (p := ⟨w.heap.size + 1, _, none⟩) (Nat.le_succ _) _)
end Go.Proofs.YtgnfaemnehmgcaaGreatDoor.Cal
namespace Go.Proofs.YtgnfaemnehmgcaaGreatDoor.Cal
open Go Go.RowKit
attribute [local go_sem] Oper.semAt_some
theorem total_any {b u : Int} {n : Nat} {f : Nat → Int × Int} (ht : TabOk b u n f) (c : Nat) (p : Option Addr) (w : World) (hs : LpIn w f n p) (hc : n ≤ c) (hcm : c ≤ maxLen) :
    Calls Tryz.prog 99 #[.agg #[.int .i64 b, .slice p n c, .int .i64 u]] w fun e w' => e = .returned (.int .i64 (beginS f n u)) ∧ Below w.heap.size w w' := by
  have A0 := below_alloc (Below.refl w.heap.size w) (.cells #[.int .i64 b, .slice p n c, .int .i64 u] 24)
  obtain ⟨x0, x1, x2⟩ := TBox.new w b u n c p 24
  have HBG := Lib.hid (begin_any ht u c p _ (hs.below A0) hc hcm (by have := ht.u1; have := ht.u2; omega))
  have A0 := Lib.hid A0
  clear hs ht
  go_enter Tryz.func99, Tryz.ntmps99
  go_upto_region 1 with fail
  generalize w.alloc (.cells #[.int .i64 b, .slice p n c, .int .i64 u] 24) = W1 at *
  have zx := cell_lt x0
  go_wp2_with (go_at_call 113; refine HBG.out.mono ?_; rintro e w2 ⟨rfl, hb2⟩; have HB2 := Lib.hid hb2; clear hb2)
  go_ret
  exact ⟨rfl, bt A0.out HB2.out⟩
theorem length_any {b u : Int} {n : Nat} {f : Nat → Int × Int} (ht : TabOk b u n f) (d : Int) (hd : -1000000000000 ≤ d ∧ d ≤ 1000000000000) (c : Nat) (p : Option Addr) (mb : Nat) (w : World) (hM : StM w mb f n) :
    Calls Tryz.prog 95 #[.agg #[.int .i64 b, .slice p n c, .int .i64 u, .map (some mb)], .int .i64 d] w fun e w' => e = .returned (.int .i64 (86400 + stepAt f n d)) ∧ Below w.heap.size w w' := by
  have A0 := below_alloc (Below.refl w.heap.size w) (.cells #[.int .i64 b, .slice p n c, .int .i64 u, .map (some mb)] 132)
  obtain ⟨⟨x0, x1, x2⟩, x3⟩ := WBox.new w b u n c p mb
  have hlk := (hM.below A0).look d (wf_big (by omega))
  have hst := stepAt_bd (f := f) d n ht.s
  have v1 : IntKind.i64.wrap (86400 + stepAt f n d) = 86400 + stepAt f n d := IntWalk.i64_in _ (by omega)
  have A0 := Lib.hid A0
  clear hM ht hst hd
  obtain ⟨st, hst⟩ : ∃ st, stepAt f n d = st := ⟨_, rfl⟩
  rw [hst] at hlk v1 ⊢
  clear hst
  go_enter Tryz.func95, Tryz.ntmps95
  go_upto_region 1 with fail
  generalize w.alloc (.cells #[.int .i64 b, .slice p n c, .int .i64 u, .map (some mb)] 132) = W1 at *
  have zx := cell_lt x0
  go_wp2
  go_ret
  exact ⟨rfl, A0.out⟩
theorem atomic_any {b u : Int} {n : Nat} (s : Int) (c : Nat) (p : Option Addr) (mb : Nat) (w : World) (hb : 0 ≤ b ∧ b ≤ 100) (hs : 0 ≤ s ∧ s ≤ 1000000000000) :
    Calls Tryz.prog 106 #[.agg #[.int .i64 b, .slice p n c, .int .i64 u, .map (some mb)], .int .i64 s] w fun e w' => e = .returned (.int .i64 (s + b)) ∧ Below w.heap.size w w' := by
  have A0 := Lib.hid (below_alloc (Below.refl w.heap.size w) (.cells #[.int .i64 b, .slice p n c, .int .i64 u, .map (some mb)] 132))
  obtain ⟨⟨x0, x1, x2⟩, x3⟩ := WBox.new w b u n c p mb
  have v1 : IntKind.i64.wrap (s + b) = s + b := IntWalk.i64_in _ (by omega)
  go_enter Tryz.func106, Tryz.ntmps106
  go_upto_region 1 with fail
  generalize w.alloc (.cells #[.int .i64 b, .slice p n c, .int .i64 u, .map (some mb)] 132) = W1 at *
  have zx := cell_lt x0
  go_wp2
  go_ret
  exact ⟨rfl, A0.out⟩
set_option maxHeartbeats 2000000 in
theorem announced_any {b u : Int} {n : Nat} {f : Nat → Int × Int} (ht : TabOk b u n f) {s D : Int} (hD : IsDayOf u n f s D) (c : Nat) (p : Option Addr) (mb : Nat) (w : World) (hw : Mon w) (hs : LpIn w f n p) (hM : StM w mb f n) (hc : n ≤ c) (hcm : c ≤ maxLen) :
    Calls Tryz.prog 107 #[.agg #[.int .i64 b, .slice p n c, .int .i64 u, .map (some mb)], .int .i64 s] w fun e w' => e = .returned (.int .i64 (stepAt f n (eom D))) ∧ Below w.heap.size w w' := by
  have A0 := below_alloc (Below.refl w.heap.size w) (.cells #[.int .i64 b, .slice p n c, .int .i64 u, .map (some mb)] 132)
  obtain ⟨⟨x0, x1, x2⟩, x3⟩ := WBox.new w b u n c p mb
  have HS := Lib.hid (hs.below A0)
  have HW := Lib.hid (hw.below A0)
  have HM := Lib.hid (hM.below A0)
  have A0 := Lib.hid A0
  have hdr : 41317 ≤ D ∧ D ≤ 88068 := by have := hD.d1; have := hD.d2; have := ht.u2; omega
  have heb := eom_bd D hdr
  have HWF := Lib.hid (wf_big (z := eom D) (by omega))
  clear hw hs hM heb
  go_enter Tryz.func107, Tryz.ntmps107
  go_wp2_with fail
  generalize w.alloc (.cells #[.int .i64 b, .slice p n c, .int .i64 u, .map (some mb)] 132) = W1 at *
  have zx := cell_lt x0
  have HB0 := Lib.hid (Below.refl W1.heap.size W1)
  have HLK := Lib.hid (fun X (h : Below W1.heap.size W1 X) => (HM.out.below h).look (eom D) HWF.out)
  have HDY := Lib.hid (fun X (h : Below W1.heap.size W1 X) => Calls.bel h (dayOf_any ht hD c p X (HS.out.below h) hc hcm))
  have HEM := Lib.hid (fun X (h : Below W1.heap.size W1 X) => endOfMonth_any D X (HW.out.below h) hdr)
  obtain ⟨ed, hed⟩ : ∃ ed, eom D = ed := ⟨_, rfl⟩
  rw [hed] at HLK HEM
  obtain ⟨st, hst⟩ : ∃ st, stepAt f n ed = st := ⟨_, rfl⟩
  rw [hst] at HLK
  have HE := Lib.hid (show st = stepAt f n (eom D) by rw [hed, hst])
  clear hed hst ht hD hdr
  have HK := Lib.hid (show ∀ X, Below W1.heap.size W1 X → (fun w' => Below W1.heap.size W1 w' ∧ w'.cell? ⟨w.heap.size, 0, none⟩ = some (.int .i64 b) ∧ w'.cell? ⟨w.heap.size, 1, none⟩ = some (.slice p n c) ∧ w'.cell? ⟨w.heap.size, 2, none⟩ = some (.int .i64 u) ∧ w'.cell? ⟨w.heap.size, 3, none⟩ = some (.map (some mb)) ∧ (Instr.lookup 130 (.map (some mb)) (.int .i64 ed) false).run Tryz.prog w' = .ok (.int .i64 st) w') X from fun X h => ⟨h, cell_below h x0, cell_below h x1, cell_below h x2, cell_below h x3, HLK.out X h⟩)
  go_region_held3 (fun w' => Below W1.heap.size W1 w' ∧ w'.cell? ⟨w.heap.size, 0, none⟩ = some (.int .i64 b) ∧ w'.cell? ⟨w.heap.size, 1, none⟩ = some (.slice p n c) ∧ w'.cell? ⟨w.heap.size, 2, none⟩ = some (.int .i64 u) ∧ w'.cell? ⟨w.heap.size, 3, none⟩ = some (.map (some mb)) ∧ (Instr.lookup 130 (.map (some mb)) (.int .i64 ed) false).run Tryz.prog w' = .ok (.int .i64 st) w')
    (exact HK.out _ (by first | assumption | exact HB0.out | exact Below.drew HB0.out | exact Below.drew (by assumption)))
    (first | (go_at_call 136; refine (HDY.out _ (by first | assumption | exact HB0.out | exact Below.drew HB0.out)).mono ?_; rintro e w2 ⟨rfl, hb2⟩) | (go_at_call 135; refine (HEM.out _ (by first | assumption | exact HB0.out | exact Below.drew HB0.out)).mono ?_; rintro e w2 ⟨rfl, rfl⟩))
  all_goals
    go_wp2
    go_ret
    exact ⟨ret_i64 HE.out, bt A0.out (by assumption)⟩
theorem wd_start (w : World) (b u : Int) (n c : Nat) (p : Option Addr) (mb : Nat) : WBox ((w.alloc (.cells #[.int .i64 b, .slice p n c, .int .i64 u, .map (some mb)] 132)).alloc (.cells #[.int .i64 0, .int .i64 0, .int .i64 0, .int .i64 0, .int .i64 0, .int .i64 0] 26)) w.heap.size b u n c p mb ∧ Res6 ((w.alloc (.cells #[.int .i64 b, .slice p n c, .int .i64 u, .map (some mb)] 132)).alloc (.cells #[.int .i64 0, .int .i64 0, .int .i64 0, .int .i64 0, .int .i64 0, .int .i64 0] 26)) (w.heap.size + 1) ∧ Below w.heap.size w ((w.alloc (.cells #[.int .i64 b, .slice p n c, .int .i64 u, .map (some mb)] 132)).alloc (.cells #[.int .i64 0, .int .i64 0, .int .i64 0, .int .i64 0, .int .i64 0, .int .i64 0] 26)) := by
  have b1 := below_alloc (Below.refl w.heap.size w) (.cells #[.int .i64 b, .slice p n c, .int .i64 u, .map (some mb)] 132)
  have e : (w.alloc (.cells #[.int .i64 b, .slice p n c, .int .i64 u, .map (some mb)] 132)).heap.size = w.heap.size + 1 := by simp
  have h := Res6.new (w.alloc (.cells #[.int .i64 b, .slice p n c, .int .i64 u, .map (some mb)] 132)) (.int .i64 0) (.int .i64 0) (.int .i64 0) (.int .i64 0) (.int .i64 0) (.int .i64 0) 26
  rw [e] at h
  exact ⟨(WBox.new w b u n c p mb).below (below_alloc (Below.refl _ _) _), h, below_alloc b1 _⟩
def hrS (r : Int) : Int := minS r / 60
def mnS (r : Int) : Int := minS r % 60
def scS (r : Int) : Int := r - 60 * minS r
theorem wdate_any {b u : Int} {n : Nat} {f : Nat → Int × Int} (ht : TabOk b u n f) {s D : Int} (hD : IsDayOf u n f s D) {y : Int} {k : Nat} {d : Int} (hci : IsCiv D y k d) (c : Nat) (p : Option Addr) (mb : Nat) (w : World) (hw : Mon w) (hs : LpIn w f n p) (hc : n ≤ c) (hcm : c ≤ maxLen) :
    Calls Tryz.prog 102 #[.agg #[.int .i64 b, .slice p n c, .int .i64 u, .map (some mb)], .int .i64 s] w fun e w' => e = .returned (.agg #[.int .i64 y, .int .i64 (k : Int), .int .i64 d, .int .i64 (hrS (s - beginS f n D)), .int .i64 (mnS (s - beginS f n D)), .int .i64 (scS (s - beginS f n D))]) ∧ Below w.heap.size w w' := by
  obtain ⟨hx, hr, hb⟩ := wd_start w b u n c p mb
  have HX := Lib.hid hx
  have HR := Lib.hid hr
  have A0 := Lib.hid hb
  have HW := Lib.hid (hw.below hb)
  have HM := Lib.hid (wmoment_any ht hD c p mb _ (hs.below hb) hc hcm)
  have hrb := hD.rest_bd ht
  obtain ⟨e1, e2⟩ := mom_day D (s - beginS f n D) hrb.1
  have HMD := Lib.hid (fun X hX => mdate_any (s := s - beginS f n D - 60 * minS (s - beginS f n D)) e1 e2 hci X hX)
  change Hid (∀ X, Mon X → Calls Tryz.prog 123 _ X fun e w' => e = .returned (.agg #[.int .i64 y, .int .i64 (k : Int), .int .i64 d, .int .i64 (hrS (s - beginS f n D)), .int .i64 (mnS (s - beginS f n D)), .int .i64 (scS (s - beginS f n D))]) ∧ Below X.heap.size X w') at HMD
  clear hx hr hb hw hs hrb e1 e2 ht hD hci
  obtain ⟨r, hr⟩ : ∃ r, s - beginS f n D = r := ⟨_, rfl⟩
  rw [hr] at HM HMD ⊢
  clear hr
  generalize 1440 * D + minS r = mm at *
  generalize r - 60 * minS r = ss at *
  obtain ⟨hh, hhe⟩ : ∃ hh, hrS r = hh := ⟨_, rfl⟩
  obtain ⟨mi, hmi⟩ : ∃ mi, mnS r = mi := ⟨_, rfl⟩
  obtain ⟨sc, hsc⟩ : ∃ sc, scS r = sc := ⟨_, rfl⟩
  rw [hhe, hmi, hsc] at HMD ⊢
  clear hhe hmi hsc
  go_enter Tryz.func102, Tryz.ntmps102
  go_upto_region 1 with fail
  generalize (w.alloc (.cells #[.int .i64 b, .slice p n c, .int .i64 u, .map (some mb)] 132)).alloc (.cells #[.int .i64 0, .int .i64 0, .int .i64 0, .int .i64 0, .int .i64 0, .int .i64 0] 26) = W1 at *
  obtain ⟨⟨x0, x1, x2⟩, x3⟩ := HX.out
  have zx := cell_lt x0
  go_wp2_with fail
  refine HM.out.mono ?_
  rintro e w2 ⟨rfl, hb2⟩
  have HB2 := Lib.hid hb2
  clear hb2
  go_wp2_with fail
  refine (HMD.out w2 (HW.out.below HB2.out)).mono ?_
  rintro e w3 ⟨rfl, hb3⟩
  have HB3 := Lib.hid (bt HB2.out hb3)
  clear hb3 x0 x1 x2 x3 zx
  obtain ⟨⟨u0, r0⟩, ⟨u1, r1⟩, ⟨u2, r2⟩, ⟨u3, r3⟩, ⟨u4, r4⟩, ⟨u5, r5⟩, rz⟩ := HR.out.below HB3.out
  have z0 := rz 0
  have z1 := rz 1
  have z2 := rz 2
  have z3 := rz 3
  have z4 := rz 4
  have z5 := rz 5
  have zr := cell_lt r0
  clear rz
  go_wp2
  refine bodyPost_ret (v := .agg #[.int .i64 y, .int .i64 (k : Int), .int .i64 d, .int .i64 hh, .int .i64 mi, .int .i64 sc]) (by simp [results, Tryz.results102, go_sem, r0, r1, r2, r3, r4, r5]) rfl ⟨rfl, ?_⟩
  exact (((((((bt A0.out HB3.out).setCell (p := ⟨w.heap.size + 1, _, none⟩) (Nat.le_succ _) _).setCell (p := ⟨w.heap.size + 1, _, none⟩) (Nat.le_succ _) _).setCell (p := ⟨w.heap.size + 1, _, none⟩) (Nat.le_succ _) _).setCell (p := ⟨w.heap.size + 1, _, none⟩) (Nat.le_succ _) _).setCell (p := ⟨w.heap.size + 1, _, none⟩) (Nat.le_succ _) _).setCell (p := ⟨w.heap.size + 1, _, none⟩) (Nat.le_succ _) _)
end Go.Proofs.YtgnfaemnehmgcaaGreatDoor.Cal
namespace Go.Proofs.YtgnfaemnehmgcaaGreatDoor.Cal
open Go Go.RowKit
attribute [local go_sem] Oper.semAt_some
theorem ofDay_tab (fv : Value) (b u d : Int) (n c : Nat) (p : Option Addr) (f : Nat → Int × Int) (w : World) (hw : Mon w) (hs : LpIn w f n p) (hn : n ≤ 1000000000000) (ht : tabE b u n f ≠ 0) :
    Calls Tryz.prog 94 #[.agg #[.int .i64 b, .slice p n c, .int .i64 u], .int .i64 d, fv] w fun e w' => e = .returned (.tuple #[.int .i64 0, .int .i64 (tabE b u n f)]) ∧ Below w.heap.size w w' := by
  have A0 := below_alloc (Below.refl w.heap.size w) (.cells #[.int .i64 b, .slice p n c, .int .i64 u] 24)
  obtain ⟨x0, x1, x2⟩ := TBox.new w b u n c p 24
  have HOP := Lib.hid (open_no b u n c p f _ (hw.below A0) (hs.below A0) hn ht)
  have A0 := Lib.hid A0
  obtain ⟨er, her⟩ : ∃ er, tabE b u n f = er := ⟨_, rfl⟩
  rw [her] at ht HOP ⊢
  have hne : (er == 0) = false := by simpa using ht
  clear hw hs her ht
  go_enter Tryz.func94, Tryz.ntmps94
  go_upto_region 1 with fail
  generalize w.alloc (.cells #[.int .i64 b, .slice p n c, .int .i64 u] 24) = W1 at *
  have zx := cell_lt x0
  go_upto_region 2 with (go_at_call 82; refine HOP.out.mono ?_; rintro e w2 ⟨rfl, hb2⟩; have HB2 := Lib.hid hb2; clear hb2)
  go_wp2
  go_ret2
  exact ⟨rfl, below_alloc (bt A0.out HB2.out) _⟩
theorem ofDay_day (fv : Value) (b u d : Int) (n c : Nat) (p : Option Addr) (f : Nat → Int × Int) (w : World) (hw : Mon w) (hs : LpIn w f n p) (ht : tabE b u n f = 0) (hd : dayK u d = false) :
    Calls Tryz.prog 94 #[.agg #[.int .i64 b, .slice p n c, .int .i64 u], .int .i64 d, fv] w fun e w' => e = .returned (.tuple #[.int .i64 0, .int .i64 6]) ∧ Below w.heap.size w w' := by
  have A0 := below_alloc (Below.refl w.heap.size w) (.cells #[.int .i64 b, .slice p n c, .int .i64 u] 24)
  obtain ⟨x0, x1, x2⟩ := TBox.new w b u n c p 24
  have HTO := Lib.hid (tab_ok ht)
  have HOP := Lib.hid (open_ok b u n c p f _ (hw.below A0) (hs.below A0) (by have := HTO.out.n1; omega) ht)
  have A0 := Lib.hid A0
  have HD := Lib.hid hd
  clear hw hs ht hd
  go_enter Tryz.func94, Tryz.ntmps94
  go_upto_region 1 with fail
  generalize w.alloc (.cells #[.int .i64 b, .slice p n c, .int .i64 u] 24) = W1 at *
  have zx := cell_lt x0
  go_upto_region 4 with (go_at_call 82; refine HOP.out.mono ?_; rintro e w2 ⟨mb, rfl, hM, hb2⟩; have HM := Lib.hid hM; have HB2 := Lib.hid hb2; clear hM hb2)
  clear x0 x1 x2 zx
  have HB3 := Lib.hid (below_alloc (bt A0.out HB2.out) (.cells #[.int .i64 b, .slice p n c, .int .i64 u, .map (some mb)] 132))
  obtain ⟨⟨x0, x1, x2⟩, x3⟩ := WBox.new w2 b u n c p mb
  generalize w2.alloc (.cells #[.int .i64 b, .slice p n c, .int .i64 u, .map (some mb)] 132) = W3 at *
  have zx := cell_lt x0
  have HKD := Lib.hid (knowsDay_any b u d n c p W3 (by have := HTO.out.u1; have := HTO.out.u2; omega))
  rw [HD.out] at HKD
  go_wp2_with (go_at_call 93; refine HKD.out.mono ?_; rintro e w4 ⟨rfl, hb4⟩; have HB4 := Lib.hid hb4; clear hb4)
  go_ret2
  exact ⟨rfl, bt HB3.out HB4.out⟩
theorem ofDay_len (b u d : Int) (n c : Nat) (p : Option Addr) (f : Nat → Int × Int) (w : World) (hw : Mon w) (hs : LpIn w f n p) (ht : tabE b u n f = 0) (hd : dayK u d = true) :
    Calls Tryz.prog 94 #[.agg #[.int .i64 b, .slice p n c, .int .i64 u], .int .i64 d, .func (.func 95) #[] #[]] w fun e w' => e = .returned (.tuple #[.int .i64 (86400 + stepAt f n d), .int .i64 0]) ∧ Below w.heap.size w w' := by
  have A0 := below_alloc (Below.refl w.heap.size w) (.cells #[.int .i64 b, .slice p n c, .int .i64 u] 24)
  obtain ⟨x0, x1, x2⟩ := TBox.new w b u n c p 24
  have HTO := Lib.hid (tab_ok ht)
  have HOP := Lib.hid (open_ok b u n c p f _ (hw.below A0) (hs.below A0) (by have := HTO.out.n1; omega) ht)
  have A0 := Lib.hid A0
  have HD := Lib.hid hd
  have HDB := Lib.hid (show -1000000000000 ≤ d ∧ d ≤ 1000000000000 by have := HTO.out.u2; unfold dayK at hd; simp at hd; omega)
  clear hw hs ht hd
  go_enter Tryz.func94, Tryz.ntmps94
  go_upto_region 1 with fail
  generalize w.alloc (.cells #[.int .i64 b, .slice p n c, .int .i64 u] 24) = W1 at *
  have zx := cell_lt x0
  go_upto_region 4 with (go_at_call 82; refine HOP.out.mono ?_; rintro e w2 ⟨mb, rfl, hM, hb2⟩; have HM := Lib.hid hM; have HB2 := Lib.hid hb2; clear hM hb2)
  clear x0 x1 x2 zx
  have hb3 := below_alloc (Below.refl w2.heap.size w2) (.cells #[.int .i64 b, .slice p n c, .int .i64 u, .map (some mb)] 132)
  have HB3 := Lib.hid (bt (bt A0.out HB2.out) hb3)
  have HX := Lib.hid (WBox.new w2 b u n c p mb)
  have HM3 := Lib.hid (HM.out.below hb3)
  clear hb3
  generalize w2.alloc (.cells #[.int .i64 b, .slice p n c, .int .i64 u, .map (some mb)] 132) = W3 at *
  obtain ⟨⟨x0, x1, x2⟩, x3⟩ := HX.out
  have zx := cell_lt x0
  have HKD := Lib.hid (knowsDay_any b u d n c p W3 (by have := HTO.out.u1; have := HTO.out.u2; omega))
  rw [HD.out] at HKD
  go_upto_region 6 with (go_at_call 93; refine HKD.out.mono ?_; rintro e w4 ⟨rfl, hb4⟩; have HB4 := Lib.hid hb4; clear hb4)
  clear x0 x1 x2 x3 zx
  obtain ⟨⟨x0, x1, x2⟩, x3⟩ := HX.out.below HB4.out
  have zx := cell_lt x0
  have HLE := Lib.hid (length_any HTO.out d HDB.out c p mb w4 (HM3.out.below HB4.out))
  go_wp2_with (go_at_call 95; refine HLE.out.mono ?_; rintro e w5 ⟨rfl, hb5⟩; have HB5 := Lib.hid hb5; clear hb5)
  go_ret2
  exact ⟨rfl, bt (bt HB3.out HB4.out) HB5.out⟩
theorem ofDay_off (b u d : Int) (n c : Nat) (p : Option Addr) (f : Nat → Int × Int) (w : World) (hw : Mon w) (hs : LpIn w f n p) (ht : tabE b u n f = 0) (hd : dayK u d = true) (hc : n ≤ c) (hcm : c ≤ maxLen) :
    Calls Tryz.prog 94 #[.agg #[.int .i64 b, .slice p n c, .int .i64 u], .int .i64 d, .func (.methodOf 132 "meridian/calendar.offset") #[] #[]] w fun e w' => e = .returned (.tuple #[.int .i64 (b + growS f n d), .int .i64 0]) ∧ Below w.heap.size w w' := by
  have A0 := below_alloc (Below.refl w.heap.size w) (.cells #[.int .i64 b, .slice p n c, .int .i64 u] 24)
  obtain ⟨x0, x1, x2⟩ := TBox.new w b u n c p 24
  have HTO := Lib.hid (tab_ok ht)
  have HOP := Lib.hid (open_ok b u n c p f _ (hw.below A0) (hs.below A0) (by have := HTO.out.n1; omega) ht)
  have HS := Lib.hid (hs.below A0)
  have A0 := Lib.hid A0
  have HD := Lib.hid hd
  clear hw hs ht hd
  go_enter Tryz.func94, Tryz.ntmps94
  go_upto_region 1 with fail
  generalize w.alloc (.cells #[.int .i64 b, .slice p n c, .int .i64 u] 24) = W1 at *
  have zx := cell_lt x0
  go_upto_region 4 with (go_at_call 82; refine HOP.out.mono ?_; rintro e w2 ⟨mb, rfl, hM, hb2⟩; have HB2 := Lib.hid hb2; clear hM hb2)
  clear x0 x1 x2 zx
  have hb3 := below_alloc (Below.refl w2.heap.size w2) (.cells #[.int .i64 b, .slice p n c, .int .i64 u, .map (some mb)] 132)
  have HB3 := Lib.hid (bt (bt A0.out HB2.out) hb3)
  have HX := Lib.hid (WBox.new w2 b u n c p mb)
  have HS3 := Lib.hid ((HS.out.below HB2.out).below hb3)
  clear hb3
  generalize w2.alloc (.cells #[.int .i64 b, .slice p n c, .int .i64 u, .map (some mb)] 132) = W3 at *
  obtain ⟨⟨x0, x1, x2⟩, x3⟩ := HX.out
  have zx := cell_lt x0
  have HKD := Lib.hid (knowsDay_any b u d n c p W3 (by have := HTO.out.u1; have := HTO.out.u2; omega))
  rw [HD.out] at HKD
  go_upto_region 6 with (go_at_call 93; refine HKD.out.mono ?_; rintro e w4 ⟨rfl, hb4⟩; have HB4 := Lib.hid hb4; clear hb4)
  clear x0 x1 x2 x3 zx
  obtain ⟨⟨x0, x1, x2⟩, x3⟩ := HX.out.below HB4.out
  have zx := cell_lt x0
  have HLE := Lib.hid (offset_any HTO.out d c p w4 (HS3.out.below HB4.out) hc hcm)
  go_wp2_with fail
  have key : ∀ (ar : Array Value) (R : Ending → World → Prop), ar = #[.int .i64 b, .slice p n c, .int .i64 u] → Calls Tryz.prog 97 #[.agg #[.int .i64 b, .slice p n c, .int .i64 u], .int .i64 d] w4 R → Calls Tryz.prog 97 #[.agg ar, .int .i64 d] w4 R := fun ar R e h => by rw [e]; exact h
  refine key _ _ (by kernel_rfl) ?_
  refine HLE.out.mono ?_
  rintro e w5 ⟨rfl, hb5⟩
  have HB5 := Lib.hid hb5
  clear hb5
  go_wp2
  go_ret2
  exact ⟨rfl, bt (bt HB3.out HB4.out) HB5.out⟩
theorem Length_any (b u d : Int) (n c : Nat) (p : Option Addr) (f : Nat → Int × Int) (w : World) (hw : Mon w) (hs : LpIn w f n p) (hn : n ≤ 1000000000000) :
    Calls Tryz.prog 35 #[.agg #[.int .i64 b, .slice p n c, .int .i64 u], .int .i64 d] w fun e w' => e = .returned (.tuple #[.int .i64 (if tabE b u n f = 0 then if dayK u d = true then 86400 + stepAt f n d else 0 else 0), .int .i64 (if tabE b u n f = 0 then if dayK u d = true then 0 else 6 else tabE b u n f)]) ∧ Below w.heap.size w w' := by
  have A0 := below_alloc (Below.refl w.heap.size w) (.cells #[.int .i64 b, .slice p n c, .int .i64 u] 24)
  obtain ⟨x0, x1, x2⟩ := TBox.new w b u n c p 24
  have H : Calls Tryz.prog 94 #[.agg #[.int .i64 b, .slice p n c, .int .i64 u], .int .i64 d, .func (.func 95) #[] #[]] (w.alloc (.cells #[.int .i64 b, .slice p n c, .int .i64 u] 24)) fun e w' => e = .returned (.tuple #[.int .i64 (if tabE b u n f = 0 then if dayK u d = true then 86400 + stepAt f n d else 0 else 0), .int .i64 (if tabE b u n f = 0 then if dayK u d = true then 0 else 6 else tabE b u n f)]) ∧ Below (w.alloc (.cells #[.int .i64 b, .slice p n c, .int .i64 u] 24)).heap.size (w.alloc (.cells #[.int .i64 b, .slice p n c, .int .i64 u] 24)) w' := by
    by_cases ht : tabE b u n f = 0
    · rw [if_pos ht, if_pos ht]
      cases hd : dayK u d
      · simp only [Bool.false_eq_true, if_false]
        exact ofDay_day _ b u d n c p f _ (hw.below A0) (hs.below A0) ht hd
      · simp only [if_true]
        exact ofDay_len b u d n c p f _ (hw.below A0) (hs.below A0) ht hd
    · rw [if_neg ht, if_neg ht]
      exact ofDay_tab _ b u d n c p f _ (hw.below A0) (hs.below A0) hn ht
  generalize (if tabE b u n f = 0 then if dayK u d = true then 86400 + stepAt f n d else 0 else 0) = r0 at *
  generalize (if tabE b u n f = 0 then if dayK u d = true then 0 else 6 else tabE b u n f) = r1 at *
  have H := Lib.hid H
  have A0 := Lib.hid A0
  clear hw hs
  go_enter Tryz.func35, Tryz.ntmps35
  go_upto_region 1 with fail
  generalize w.alloc (.cells #[.int .i64 b, .slice p n c, .int .i64 u] 24) = W1 at *
  have zx := cell_lt x0
  go_wp2_with (go_at_call 94; refine H.out.mono ?_; rintro e w2 ⟨rfl, hb2⟩; have HB2 := Lib.hid hb2; clear hb2)
  go_ret2
  exact ⟨rfl, bt A0.out HB2.out⟩
theorem Offset_any (b u d : Int) (n c : Nat) (p : Option Addr) (f : Nat → Int × Int) (w : World) (hw : Mon w) (hs : LpIn w f n p) (hn : n ≤ 1000000000000) (hc : n ≤ c) (hcm : c ≤ maxLen) :
    Calls Tryz.prog 37 #[.agg #[.int .i64 b, .slice p n c, .int .i64 u], .int .i64 d] w fun e w' => e = .returned (.tuple #[.int .i64 (if tabE b u n f = 0 then if dayK u d = true then b + growS f n d else 0 else 0), .int .i64 (if tabE b u n f = 0 then if dayK u d = true then 0 else 6 else tabE b u n f)]) ∧ Below w.heap.size w w' := by
  have A0 := below_alloc (Below.refl w.heap.size w) (.cells #[.int .i64 b, .slice p n c, .int .i64 u] 24)
  obtain ⟨x0, x1, x2⟩ := TBox.new w b u n c p 24
  have H : Calls Tryz.prog 94 #[.agg #[.int .i64 b, .slice p n c, .int .i64 u], .int .i64 d, .func (.methodOf 132 "meridian/calendar.offset") #[] #[]] (w.alloc (.cells #[.int .i64 b, .slice p n c, .int .i64 u] 24)) fun e w' => e = .returned (.tuple #[.int .i64 (if tabE b u n f = 0 then if dayK u d = true then b + growS f n d else 0 else 0), .int .i64 (if tabE b u n f = 0 then if dayK u d = true then 0 else 6 else tabE b u n f)]) ∧ Below (w.alloc (.cells #[.int .i64 b, .slice p n c, .int .i64 u] 24)).heap.size (w.alloc (.cells #[.int .i64 b, .slice p n c, .int .i64 u] 24)) w' := by
    by_cases ht : tabE b u n f = 0
    · rw [if_pos ht, if_pos ht]
      cases hd : dayK u d
      · simp only [Bool.false_eq_true, if_false]
        exact ofDay_day _ b u d n c p f _ (hw.below A0) (hs.below A0) ht hd
      · simp only [if_true]
        exact ofDay_off b u d n c p f _ (hw.below A0) (hs.below A0) ht hd hc hcm
    · rw [if_neg ht, if_neg ht]
      exact ofDay_tab _ b u d n c p f _ (hw.below A0) (hs.below A0) hn ht
  generalize (if tabE b u n f = 0 then if dayK u d = true then b + growS f n d else 0 else 0) = r0 at *
  generalize (if tabE b u n f = 0 then if dayK u d = true then 0 else 6 else tabE b u n f) = r1 at *
  have H := Lib.hid H
  have A0 := Lib.hid A0
  clear hw hs
  go_enter Tryz.func37, Tryz.ntmps37
  go_upto_region 1 with fail
  generalize w.alloc (.cells #[.int .i64 b, .slice p n c, .int .i64 u] 24) = W1 at *
  have zx := cell_lt x0
  go_wp2_with (go_at_call 94; refine H.out.mono ?_; rintro e w2 ⟨rfl, hb2⟩; have HB2 := Lib.hid hb2; clear hb2)
  go_ret2
  exact ⟨rfl, bt A0.out HB2.out⟩
theorem Total_any (b u : Int) (n c : Nat) (p : Option Addr) (f : Nat → Int × Int) (w : World) (hw : Mon w) (hs : LpIn w f n p) (hn : n ≤ 1000000000000) (hc : n ≤ c) (hcm : c ≤ maxLen) :
    Calls Tryz.prog 39 #[.agg #[.int .i64 b, .slice p n c, .int .i64 u]] w fun e w' => e = .returned (.tuple #[.int .i64 (if tabE b u n f = 0 then beginS f n u else 0), .int .i64 (tabE b u n f)]) ∧ Below w.heap.size w w' := by
  have A0 := below_alloc (Below.refl w.heap.size w) (.cells #[.int .i64 b, .slice p n c, .int .i64 u] 24)
  have HX := Lib.hid (TBox.new w b u n c p 24)
  have HCK := Lib.hid (Check_any b u n c p f _ (hw.below A0) (hs.below A0) hn)
  have HS := Lib.hid (hs.below A0)
  have A0 := Lib.hid A0
  clear hw hs
  by_cases ht : tabE b u n f = 0
  · rw [if_pos ht, ht]
    rw [ht] at HCK
    have HTO := Lib.hid (tab_ok ht)
    clear ht
    go_enter Tryz.func39, Tryz.ntmps39
    go_upto_region 1 with fail
    generalize w.alloc (.cells #[.int .i64 b, .slice p n c, .int .i64 u] 24) = W1 at *
    obtain ⟨x0, x1, x2⟩ := HX.out
    have zx := cell_lt x0
    go_upto_region 4 with (go_at_call 33; refine HCK.out.mono ?_; rintro e w2 ⟨rfl, hb2⟩; have HB2 := Lib.hid hb2; clear hb2)
    clear x0 x1 x2 zx
    obtain ⟨x0, x1, x2⟩ := HX.out.below HB2.out
    have zx := cell_lt x0
    have HTL := Lib.hid (total_any HTO.out c p w2 (HS.out.below HB2.out) hc hcm)
    go_wp2_with (go_at_call 99; refine HTL.out.mono ?_; rintro e w3 ⟨rfl, hb3⟩; have HB3 := Lib.hid hb3; clear hb3)
    go_ret2
    exact ⟨rfl, bt (bt A0.out HB2.out) HB3.out⟩
  · rw [if_neg ht]
    obtain ⟨er, her⟩ : ∃ er, tabE b u n f = er := ⟨_, rfl⟩
    rw [her] at ht HCK ⊢
    have hne : (er == 0) = false := by simpa using ht
    clear her ht
    go_enter Tryz.func39, Tryz.ntmps39
    go_upto_region 1 with fail
    generalize w.alloc (.cells #[.int .i64 b, .slice p n c, .int .i64 u] 24) = W1 at *
    obtain ⟨x0, x1, x2⟩ := HX.out
    have zx := cell_lt x0
    go_wp2_with (go_at_call 33; refine HCK.out.mono ?_; rintro e w2 ⟨rfl, hb2⟩; have HB2 := Lib.hid hb2; clear hb2)
    go_ret2
    exact ⟨rfl, bt A0.out HB2.out⟩
end Go.Proofs.YtgnfaemnehmgcaaGreatDoor.Cal
