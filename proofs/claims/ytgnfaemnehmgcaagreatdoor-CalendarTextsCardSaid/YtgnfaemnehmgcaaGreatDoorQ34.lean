/- Layer 9 (calendar): moments and dates of seconds; what a table at work says. -/
import Derived.Test.YtgnfaemnehmgcaaGreatDoorQ33
import Derived.Test.YtgnfaemnehmgcaaGreatDoorQ14
namespace Go.Proofs.YtgnfaemnehmgcaaGreatDoor.Cal
open Go Go.RowKit
attribute [local go_sem] Oper.semAt_some
/-- a result's six cells -/
structure Res6 (w : World) (a : Nat) : Prop where
  r0 : ∃ v, w.cell? ⟨a, 0, none⟩ = some v
  r1 : ∃ v, w.cell? ⟨a, 1, none⟩ = some v
  r2 : ∃ v, w.cell? ⟨a, 2, none⟩ = some v
  r3 : ∃ v, w.cell? ⟨a, 3, none⟩ = some v
  r4 : ∃ v, w.cell? ⟨a, 4, none⟩ = some v
  r5 : ∃ v, w.cell? ⟨a, 5, none⟩ = some v
  z : ∀ i, w.frozen? ⟨a, i, none⟩ = false
theorem Res6.lt {w : World} {a : Nat} (h : Res6 w a) : a < w.heap.size := let ⟨_, e⟩ := h.r0; cell_lt e
theorem Res6.new (w : World) (v0 v1 v2 v3 v4 v5 : Value) (t : TypeId) : Res6 (w.alloc (.cells #[v0, v1, v2, v3, v4, v5] t)) w.heap.size := ⟨⟨v0, by simp⟩, ⟨v1, by simp⟩, ⟨v2, by simp⟩, ⟨v3, by simp⟩, ⟨v4, by simp⟩, ⟨v5, by simp⟩, fun i => by simp⟩
theorem Res6.below {w w' : World} {a : Nat} (h : Res6 w a) (hb : Below w.heap.size w w') : Res6 w' a :=
  ⟨h.r0.imp fun _ e => cell_below hb e, h.r1.imp fun _ e => cell_below hb e, h.r2.imp fun _ e => cell_below hb e, h.r3.imp fun _ e => cell_below hb e, h.r4.imp fun _ e => cell_below hb e, h.r5.imp fun _ e => cell_below hb e, fun i => (hb.frozen (p := ⟨a, i, none⟩) h.lt).trans (h.z i)⟩
theorem wr_start (w : World) (b u : Int) (n c : Nat) (p : Option Addr) (mb : Nat) : WBox ((w.alloc (.cells #[.int .i64 b, .slice p n c, .int .i64 u, .map (some mb)] 132)).alloc (.cells #[.int .i64 0, .int .i64 0] 136)) w.heap.size b u n c p mb ∧ Res2 ((w.alloc (.cells #[.int .i64 b, .slice p n c, .int .i64 u, .map (some mb)] 132)).alloc (.cells #[.int .i64 0, .int .i64 0] 136)) (w.heap.size + 1) ∧ Below w.heap.size w ((w.alloc (.cells #[.int .i64 b, .slice p n c, .int .i64 u, .map (some mb)] 132)).alloc (.cells #[.int .i64 0, .int .i64 0] 136)) := by
  have b1 := below_alloc (Below.refl w.heap.size w) (.cells #[.int .i64 b, .slice p n c, .int .i64 u, .map (some mb)] 132)
  have e : (w.alloc (.cells #[.int .i64 b, .slice p n c, .int .i64 u, .map (some mb)] 132)).heap.size = w.heap.size + 1 := by simp
  have h := Res2.new (w.alloc (.cells #[.int .i64 b, .slice p n c, .int .i64 u, .map (some mb)] 132)) (.int .i64 0) (.int .i64 0) 136
  rw [e] at h
  exact ⟨(WBox.new w b u n c p mb).below (below_alloc (Below.refl _ _) _), h, below_alloc b1 _⟩
set_option maxHeartbeats 2000000 in
theorem wmoment_any {b u : Int} {n : Nat} {f : Nat → Int × Int} (ht : TabOk b u n f) {s D : Int} (hD : IsDayOf u n f s D) (c : Nat) (p : Option Addr) (mb : Nat) (w : World) (hs : LpIn w f n p) (hc : n ≤ c) (hcm : c ≤ maxLen) :
    Calls Tryz.prog 119 #[.agg #[.int .i64 b, .slice p n c, .int .i64 u, .map (some mb)], .int .i64 s] w fun e w' => e = .returned (.agg #[.int .i64 (1440 * D + minS (s - beginS f n D)), .int .i64 (s - beginS f n D - 60 * minS (s - beginS f n D))]) ∧ Below w.heap.size w w' := by
  obtain ⟨hx, hr, hb⟩ := wr_start w b u n c p mb
  have HX := Lib.hid hx
  have HR := Lib.hid hr
  have A0 := Lib.hid hb
  have HS := Lib.hid (hs.below hb)
  have hrb := hD.rest_bd ht
  have hd1 := hD.d1
  have hd2 := hD.d2
  have hu2 := ht.u2
  have HDY := Lib.hid (fun X (hX : Below ((w.alloc (.cells #[.int .i64 b, .slice p n c, .int .i64 u, .map (some mb)] 132)).alloc (.cells #[.int .i64 0, .int .i64 0] 136)).heap.size ((w.alloc (.cells #[.int .i64 b, .slice p n c, .int .i64 u, .map (some mb)] 132)).alloc (.cells #[.int .i64 0, .int .i64 0] 136)) X) => dayOf_any ht hD c p X (HS.out.below hX) hc hcm)
  have HBG := Lib.hid (fun X (hX : Below ((w.alloc (.cells #[.int .i64 b, .slice p n c, .int .i64 u, .map (some mb)] 132)).alloc (.cells #[.int .i64 0, .int .i64 0] 136)).heap.size ((w.alloc (.cells #[.int .i64 b, .slice p n c, .int .i64 u, .map (some mb)] 132)).alloc (.cells #[.int .i64 0, .int .i64 0] 136)) X) => begin_any ht D c p X (HS.out.below hX) hc hcm (by omega))
  obtain ⟨bg, hbg⟩ : ∃ bg, beginS f n D = bg := ⟨_, rfl⟩
  rw [hbg] at HBG hrb ⊢
  clear hbg
  have hmb := minS_bd (s - bg) hrb.1
  have hsb := sec_bd (s - bg) hrb
  have v1 : IntKind.i64.wrap (s - bg) = s - bg := IntWalk.i64_in _ (by omega)
  obtain ⟨r, hrr⟩ : ∃ r, s - bg = r := ⟨_, rfl⟩
  rw [hrr] at v1 hmb hsb hrb ⊢
  have v2 : IntKind.i64.wrap (s - bg) = r := by rw [hrr]; exact v1
  obtain ⟨mn, hmn⟩ : ∃ mn, minS r = mn := ⟨_, rfl⟩
  have v3 : (if 1439 < r / 60 then 1439 else r / 60) = mn := hmn
  rw [hmn] at hmb hsb ⊢
  have v4 : IntKind.i64.wrap (1440 * D) = 1440 * D := IntWalk.i64_in _ (by omega)
  have v5 : IntKind.i64.wrap (1440 * D + mn) = 1440 * D + mn := IntWalk.i64_in _ (by omega)
  have v6 : IntKind.i64.wrap (60 * mn) = 60 * mn := IntWalk.i64_in _ (by omega)
  have v7 : IntKind.i64.wrap (r - 60 * mn) = r - 60 * mn := IntWalk.i64_in _ (by omega)
  have hr0 : 0 ≤ r := hrb.1
  have hr1 : r ≤ 86400 := hrb.2
  clear hx hr hb hs hrb hd1 hd2 hu2 ht hD hmn hrr v1 hmb hsb
  go_enter Tryz.func119, Tryz.ntmps119
  go_upto_region 1 with fail
  generalize (w.alloc (.cells #[.int .i64 b, .slice p n c, .int .i64 u, .map (some mb)] 132)).alloc (.cells #[.int .i64 0, .int .i64 0] 136) = W1 at *
  obtain ⟨⟨x0, x1, x2⟩, x3⟩ := HX.out
  have zx := cell_lt x0
  have HDC := Lib.hid (HDY.out W1 (Below.refl _ _))
  go_upto_region 2 with (go_at_call 136; refine HDC.out.mono ?_; rintro e w2 ⟨rfl, hb2⟩; have HB2 := Lib.hid hb2; clear hb2)
  clear x0 x1 x2 x3 zx
  obtain ⟨⟨x0, x1, x2⟩, x3⟩ := HX.out.below HB2.out
  have zx := cell_lt x0
  have HBC := Lib.hid (HBG.out w2 HB2.out)
  go_upto_region 3 with (go_at_call 113; refine HBC.out.mono ?_; rintro e w3 ⟨rfl, hb3⟩; have HB3 := Lib.hid (bt HB2.out hb3); clear hb3)
  clear x0 x1 x2 x3 zx
  obtain ⟨⟨u0, r0⟩, ⟨u1, r1⟩, rz⟩ := HR.out.below HB3.out
  have z0 := rz 0
  have z1 := rz 1
  have zr := cell_lt r0
  clear rz
  go_wp2
  refine bodyPost_ret (v := .agg #[.int .i64 (1440 * D + mn), .int .i64 (r - 60 * mn)]) (by simp [results, Tryz.results119, go_sem, r0, r1]) rfl ⟨rfl, ?_⟩
  exact ((bt A0.out HB3.out).setCell (p := ⟨w.heap.size + 1, _, none⟩) (Nat.le_succ _) _).setCell (p := ⟨w.heap.size + 1, _, none⟩) (Nat.le_succ _) _
theorem mr_start (w : World) (m s : Int) : MBox ((w.alloc (.cells #[.int .i64 m, .int .i64 s] 136)).alloc (.cells #[.int .i64 0, .int .i64 0, .int .i64 0, .int .i64 0, .int .i64 0, .int .i64 0] 26)) w.heap.size m s ∧ Res6 ((w.alloc (.cells #[.int .i64 m, .int .i64 s] 136)).alloc (.cells #[.int .i64 0, .int .i64 0, .int .i64 0, .int .i64 0, .int .i64 0, .int .i64 0] 26)) (w.heap.size + 1) ∧ Below w.heap.size w ((w.alloc (.cells #[.int .i64 m, .int .i64 s] 136)).alloc (.cells #[.int .i64 0, .int .i64 0, .int .i64 0, .int .i64 0, .int .i64 0, .int .i64 0] 26)) := by
  have b1 := below_alloc (Below.refl w.heap.size w) (.cells #[.int .i64 m, .int .i64 s] 136)
  have e : (w.alloc (.cells #[.int .i64 m, .int .i64 s] 136)).heap.size = w.heap.size + 1 := by simp
  have h := Res6.new (w.alloc (.cells #[.int .i64 m, .int .i64 s] 136)) (.int .i64 0) (.int .i64 0) (.int .i64 0) (.int .i64 0) (.int .i64 0) (.int .i64 0) 26
  rw [e] at h
  exact ⟨(MBox.new w m s).below (below_alloc (Below.refl _ _) _), h, below_alloc b1 _⟩
set_option maxHeartbeats 2000000 in
theorem mdate_any {m s D : Int} (hm : m / 1440 = D) {od : Int} (ho : m % 1440 = od) {y : Int} {k : Nat} {d : Int} (hci : IsCiv D y k d) (w : World) (hw : Mon w) :
    Calls Tryz.prog 123 #[.agg #[.int .i64 m, .int .i64 s]] w fun e w' => e = .returned (.agg #[.int .i64 y, .int .i64 (k : Int), .int .i64 d, .int .i64 (od / 60), .int .i64 (od % 60), .int .i64 s]) ∧ Below w.heap.size w w' := by
  obtain ⟨hx, hr, hb⟩ := mr_start w m s
  have HX := Lib.hid hx
  have HR := Lib.hid hr
  have A0 := Lib.hid hb
  have HW := Lib.hid (hw.below hb)
  have hnb := hci.n_bd
  have HMD := Lib.hid (fun X => mday_any m s X (by omega))
  rw [hm] at HMD
  have HOD := Lib.hid (fun X => mofday_any m s X)
  rw [ho] at HOD
  have ho0 : 0 ≤ od := by omega
  have ho1 : od < 1440 := by omega
  have HCI := Lib.hid hci
  clear hx hr hb hw hnb hm ho hci
  go_enter Tryz.func123, Tryz.ntmps123
  go_upto_region 1 with fail
  generalize (w.alloc (.cells #[.int .i64 m, .int .i64 s] 136)).alloc (.cells #[.int .i64 0, .int .i64 0, .int .i64 0, .int .i64 0, .int .i64 0, .int .i64 0] 26) = W1 at *
  obtain ⟨y0, y1⟩ := HX.out
  have zy := cell_lt y0
  go_wp2_with fail
  refine (HMD.out W1).mono ?_
  rintro e w2 ⟨rfl, hb2⟩
  have HB2 := Lib.hid hb2
  clear hb2
  have HCC := Lib.hid (civil_any w2 (HW.out.below HB2.out) HCI.out)
  go_upto_region 2 with (go_at_call 89; refine HCC.out.mono ?_; rintro e w3 ⟨rfl, rfl⟩)
  clear y0 y1 zy
  obtain ⟨y0, y1⟩ := HX.out.below HB2.out
  have zy := cell_lt y0
  go_upto_region 3 with (go_at_call 134; refine (HOD.out w2).mono ?_; rintro e w3 ⟨rfl, hb3⟩; have HB3 := Lib.hid (bt HB2.out hb3); clear hb3)
  clear y0 y1 zy
  obtain ⟨y0, y1⟩ := HX.out.below HB3.out
  have zy := cell_lt y0
  obtain ⟨⟨u0, r0⟩, ⟨u1, r1⟩, ⟨u2, r2⟩, ⟨u3, r3⟩, ⟨u4, r4⟩, ⟨u5, r5⟩, rz⟩ := HR.out.below HB3.out
  have z0 := rz 0
  have z1 := rz 1
  have z2 := rz 2
  have z3 := rz 3
  have z4 := rz 4
  have z5 := rz 5
  have zr := cell_lt r0
  clear rz
  go_wp2
  refine bodyPost_ret (v := .agg #[.int .i64 y, .int .i64 (k : Int), .int .i64 d, .int .i64 (od / 60), .int .i64 (od % 60), .int .i64 s]) (by simp [results, Tryz.results123, go_sem, r0, r1, r2, r3, r4, r5]) rfl ⟨rfl, ?_⟩
  exact (((((((bt A0.out HB3.out).setCell (p := ⟨w.heap.size + 1, _, none⟩) (Nat.le_succ _) _).setCell (p := ⟨w.heap.size + 1, _, none⟩) (Nat.le_succ _) _).setCell (p := ⟨w.heap.size + 1, _, none⟩) (Nat.le_succ _) _).setCell (p := ⟨w.heap.size + 1, _, none⟩) (Nat.le_succ _) _).setCell (p := ⟨w.heap.size + 1, _, none⟩) (Nat.le_succ _) _).setCell (p := ⟨w.heap.size + 1, _, none⟩) (Nat.le_succ _) _)
end Go.Proofs.YtgnfaemnehmgcaaGreatDoor.Cal
