/- Layer 9 (calendar): the reference's Unix and FromUnix. (by gen_jb.py) -/
import Derived.Test.YtjdpdabafbbfaaaDoorDz
import Derived.Test.YtjdpdabafbbfaaaDoorGe
import Derived.Test.YtjdpdabafbbfaaaDoorEfa
import Derived.Test.YtjdpdabafbbfaaaDoorFha
namespace Go.Proofs.YtjdpdabafbbfaaaDoor.Cal
open Go Go.RowKit
attribute [local go_sem] Oper.semAt_some
theorem rdate_cells (w : World) (y m d h mi s : Int) : (w.alloc (.cells #[.int .i64 y, .int .i64 m, .int .i64 d, .int .i64 h, .int .i64 mi, .int .i64 s] 78)).cell? ⟨w.heap.size, 0, none⟩ = some (.int .i64 y) ∧ (w.alloc (.cells #[.int .i64 y, .int .i64 m, .int .i64 d, .int .i64 h, .int .i64 mi, .int .i64 s] 78)).cell? ⟨w.heap.size, 1, none⟩ = some (.int .i64 m) ∧ (w.alloc (.cells #[.int .i64 y, .int .i64 m, .int .i64 d, .int .i64 h, .int .i64 mi, .int .i64 s] 78)).cell? ⟨w.heap.size, 2, none⟩ = some (.int .i64 d) ∧ (w.alloc (.cells #[.int .i64 y, .int .i64 m, .int .i64 d, .int .i64 h, .int .i64 mi, .int .i64 s] 78)).cell? ⟨w.heap.size, 3, none⟩ = some (.int .i64 h) ∧ (w.alloc (.cells #[.int .i64 y, .int .i64 m, .int .i64 d, .int .i64 h, .int .i64 mi, .int .i64 s] 78)).cell? ⟨w.heap.size, 4, none⟩ = some (.int .i64 mi) ∧ (w.alloc (.cells #[.int .i64 y, .int .i64 m, .int .i64 d, .int .i64 h, .int .i64 mi, .int .i64 s] 78)).cell? ⟨w.heap.size, 5, none⟩ = some (.int .i64 s) := by
  refine ⟨?_, ?_, ?_, ?_, ?_, ?_⟩ <;> simp
theorem tod (r : Int) : 3600 * hrS r + 60 * mnS r + scS r = r := by unfold hrS mnS scS; omega
set_option maxHeartbeats 2000000 in
theorem rUnix_ok {b u : Int} {n : Nat} {f : Nat → Int × Int} {s : Int} (hk : knownE b u n f s = 0) {D : Int} (hD : IsDayOf u n f s D) (c : Nat) (p : Option Addr) (w : World) (hs : LpIn w f n p) :
    Calls Tryd.prog 8 #[.agg #[.int .i64 b, .slice p n c, .int .i64 u], .int .i64 s] w fun e w' => e = .returned (.tuple #[.int .i64 (unixS f n D s), .int .i64 0]) ∧ Below w.heap.size w w' := by
  obtain ⟨ht, _⟩ := knownE_zero hk
  have HT := tab_ok ht
  have A0 := below_alloc (Below.refl w.heap.size w) (.cells #[.int .i64 b, .slice p n c, .int .i64 u] 33)
  obtain ⟨x0, x1, x2⟩ := TBox.new w b u n c p 33
  obtain ⟨y, k, d, hci⟩ := civ_exists D (by have := hD.d1; have := hD.d2; have := HT.u2; omega)
  have HDA := Lib.hid (rDates_ok hk hD hci c p _ (hs.below A0))
  have HDY := Lib.hid (fun X => rDay_ok X hci.toIsDate)
  rw [← hci.n_] at HDY
  have hrb := hD.rest_bd HT
  have hd1 := hD.d1; have hd2 := hD.d2; have hu2 := HT.u2
  have hto := tod (s - beginS f n D)
  have HV := Lib.hid (show 86400 * (D - 40587) + 3600 * hrS (s - beginS f n D) + 60 * mnS (s - beginS f n D) + scS (s - beginS f n D) = unixS f n D s by unfold unixS; omega)
  have hb1 : 0 ≤ hrS (s - beginS f n D) ∧ hrS (s - beginS f n D) ≤ 100 ∧ 0 ≤ mnS (s - beginS f n D) ∧ mnS (s - beginS f n D) ≤ 100 ∧ -100 ≤ scS (s - beginS f n D) ∧ scS (s - beginS f n D) ≤ 100 := by
    have := minS_bd (s - beginS f n D) hrb.1
    have := sec_bd (s - beginS f n D) hrb
    unfold hrS mnS scS; omega
  have A0 := Lib.hid A0
  obtain ⟨hh, hhe⟩ : ∃ q, hrS (s - beginS f n D) = q := ⟨_, rfl⟩
  obtain ⟨mi, hmi⟩ : ∃ q, mnS (s - beginS f n D) = q := ⟨_, rfl⟩
  obtain ⟨sc, hsc⟩ : ∃ q, scS (s - beginS f n D) = q := ⟨_, rfl⟩
  rw [hhe, hmi, hsc] at HDA HV hb1
  clear hto hhe hmi hsc
  generalize unixS f n D s = U at *
  have v1 : IntKind.i64.wrap (D - 40587) = D - 40587 := IntWalk.i64_in _ (by omega)
  have v2 : IntKind.i64.wrap (86400 * (D - 40587)) = 86400 * (D - 40587) := IntWalk.i64_in _ (by omega)
  have v3 : IntKind.i64.wrap (3600 * hh) = 3600 * hh := IntWalk.i64_in _ (by omega)
  have v4 : IntKind.i64.wrap (86400 * (D - 40587) + 3600 * hh) = 86400 * (D - 40587) + 3600 * hh := IntWalk.i64_in _ (by omega)
  have v5 : IntKind.i64.wrap (60 * mi) = 60 * mi := IntWalk.i64_in _ (by omega)
  have v6 : IntKind.i64.wrap (86400 * (D - 40587) + 3600 * hh + 60 * mi) = 86400 * (D - 40587) + 3600 * hh + 60 * mi := IntWalk.i64_in _ (by omega)
  have v7 : IntKind.i64.wrap (86400 * (D - 40587) + 3600 * hh + 60 * mi + sc) = U := by rw [IntWalk.i64_in _ (by omega)]; exact HV.out
  clear hs hk ht HT hci hrb hd1 hd2 hu2 hb1 hD
  go_enter Tryd.func8, Tryd.ntmps8
  go_upto_region 1 with fail
  generalize w.alloc (.cells #[.int .i64 b, .slice p n c, .int .i64 u] 33) = W1 at *
  have zx := cell_lt x0
  go_upto_region 2 with (go_at_call 29; refine HDA.out.mono ?_; rintro e w2 ⟨rfl, hb2⟩; have HB2 := Lib.hid hb2; clear hb2)
  clear x0 x1 x2 zx
  obtain ⟨d0, d1, d2, d3, d4, d5⟩ := rdate_cells w2 y (k : Int) d hh mi sc
  have HB3 := Lib.hid (below_alloc (Below.refl w2.heap.size w2) (.cells #[.int .i64 y, .int .i64 (k : Int), .int .i64 d, .int .i64 hh, .int .i64 mi, .int .i64 sc] 78))
  generalize w2.alloc (.cells #[.int .i64 y, .int .i64 (k : Int), .int .i64 d, .int .i64 hh, .int .i64 mi, .int .i64 sc] 78) = W3 at *
  have zd := cell_lt d0
  go_wp2_with (go_at_call 30; refine (HDY.out _).mono ?_; rintro e w' ⟨rfl, rfl⟩)
  go_ret2
  exact ⟨rfl, bt (bt A0.out HB2.out) HB3.out⟩
set_option maxHeartbeats 1000000 in
theorem rUnix_no {b u : Int} {n : Nat} {f : Nat → Int × Int} {s : Int} (hk : knownE b u n f s ≠ 0) (c : Nat) (p : Option Addr) (w : World) (hs : LpIn w f n p) (hn : n ≤ 1000000000000) :
    Calls Tryd.prog 8 #[.agg #[.int .i64 b, .slice p n c, .int .i64 u], .int .i64 s] w fun e w' => e = .returned (.tuple #[.int .i64 0, .int .i64 (knownE b u n f s)]) ∧ Below w.heap.size w w' := by
  have A0 := below_alloc (Below.refl w.heap.size w) (.cells #[.int .i64 b, .slice p n c, .int .i64 u] 33)
  obtain ⟨x0, x1, x2⟩ := TBox.new w b u n c p 33
  have HDA := Lib.hid (rDates_no hk c p _ (hs.below A0) hn)
  have A0 := Lib.hid A0
  obtain ⟨er, her⟩ : ∃ er, knownE b u n f s = er := ⟨_, rfl⟩
  rw [her] at hk HDA ⊢
  have hne : (er == 0) = false := by simpa using hk
  clear hs her
  go_enter Tryd.func8, Tryd.ntmps8
  go_upto_region 1 with fail
  generalize w.alloc (.cells #[.int .i64 b, .slice p n c, .int .i64 u] 33) = W1 at *
  have zx := cell_lt x0
  go_upto_region 2 with (go_at_call 29; refine HDA.out.mono ?_; rintro e w2 ⟨rfl, hb2⟩; have HB2 := Lib.hid hb2; clear hb2)
  clear x0 x1 x2 zx
  have HB3 := Lib.hid (below_alloc (Below.refl w2.heap.size w2) (.cells #[.int .i64 0, .int .i64 0, .int .i64 0, .int .i64 0, .int .i64 0, .int .i64 0] 78))
  go_wp2_with fail
  go_ret2
  exact ⟨rfl, bt (bt A0.out HB2.out) HB3.out⟩
end Go.Proofs.YtjdpdabafbbfaaaDoor.Cal
