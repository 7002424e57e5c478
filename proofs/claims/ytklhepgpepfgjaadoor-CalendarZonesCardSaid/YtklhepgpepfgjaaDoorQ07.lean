/- Layer 9 (calendar): the offset and the first second of a day. · Layer 9 (calendar): the moment of a date; what a table has. (by gen_dk.py) -/
import Derived.Test.YtklhepgpepfgjaaDoorQ06
namespace Go.Proofs.YtklhepgpepfgjaaDoor.Cal
open Go Go.RowKit
attribute [local go_sem] Oper.semAt_some
set_option maxHeartbeats 1000000 in
theorem offset_any {b u : Int} {n : Nat} {f : Nat → Int × Int} (ht : TabOk b u n f) (d : Int) (c : Nat) (p : Option Addr) (w : World) (hs : LpIn w f n p) (hc : n ≤ c) (hcm : c ≤ maxLen) :
    Calls Tryd.prog 89 #[.agg #[.int .i64 b, .slice p n c, .int .i64 u], .int .i64 d] w fun e w' => e = .returned (.int .i64 (b + growS f n d)) ∧ Below w.heap.size w w' := by
  have A0 := below_alloc (Below.refl w.heap.size w) (.cells #[.int .i64 b, .slice p n c, .int .i64 u] 24)
  have HBX := Lib.hid (TBox.new w b u n c p 24)
  have HS := Lib.hid (hs.below A0)
  have A0 := Lib.hid A0
  obtain ⟨x0, x1, x2⟩ := HBX.out
  have HT := Lib.hid ht
  clear hs ht
  go_enter Tryd.func89, Tryd.ntmps89
  go_upto_region 1 with fail
  generalize w.alloc (.cells #[.int .i64 b, .slice p n c, .int .i64 u] 24) = W0 at *
  have zx := cell_lt x0
  have HBF := Lib.hid (before_any b u d n c p f W0 HS.out (by have := HT.out.n1; omega) hc hcm)
  go_wp2_with (go_at_call 95; refine HBF.out.mono ?_; rintro e w1 ⟨i, hi, rfl, h1, h2, hb1⟩; have H1 := Lib.hid h1; have H2 := Lib.hid h2; have HB1 := Lib.hid hb1; clear h1 h2 hb1)
  clear x0 x1 x2 zx
  have HG := Lib.hid (grow_sum (f := f) (d := d) H1.out n hi (fun j h1 h2 => by
    have hin : i < n := by omega
    by_cases e : i = j
    · subst e; exact H2.out hin
    · have := HT.out.o i j (by omega) h2
      have := H2.out hin
      omega))
  go_loopw [5, 7, 14] (fun s5 s7 s14 wr => ∃ (k : Nat) (a7 : Value), k ≤ i ∧ s5 = .int .i64 (b + sumS f k) ∧ s7 = a7 ∧ s14 = .int .i64 (k : Int) ∧ Hid (Below w1.heap.size w1 wr)) (fun _ _ s _ => i - (intOf s).toNat)
  case atStart => exact ⟨0, _, Nat.zero_le _, by simp [sumS], rfl, rfl, Lib.hid (Below.refl _ _)⟩
  case round =>
    obtain ⟨k, a7, hk, rfl, rfl, rfl, HB⟩ := hrel
    have hb1' := HT.out.b1
    have hb2' := HT.out.b2
    have hn1 := HT.out.n1
    have hsb := sumS_bd (f := f) k (fun j hj => HT.out.s j (by omega))
    by_cases hlt : k < i
    · have hki : (k : Int) < i := by omega
      have hst := HT.out.s k (by omega)
      have vk : IntKind.i64.wrap ((k : Int) + 1) = (k : Int) + 1 := IntWalk.i64_in _ (by omega)
      have vs : IntKind.i64.wrap (b + sumS f k + (f k).2) = b + sumS f k + (f k).2 := IntWalk.i64_in _ (by omega)
      obtain ⟨bb, oo, rfl, hsi⟩ := HS.out.resolve_left (by omega)
      obtain ⟨y0, y1⟩ := ((hsi.below HB1.out).below HB.out) k (by omega)
      have zy := cell_lt y0
      have hb2 := below_alloc (Below.refl wr.heap.size wr) (.cells #[.int .i64 (f k).1, .int .i64 (f k).2] 81)
      have q1 : (wr.alloc (.cells #[.int .i64 (f k).1, .int .i64 (f k).2] 81)).cell? ⟨wr.heap.size, 1, none⟩ = some (.int .i64 (f k).2) := by simp
      have HB2 := Lib.hid hb2
      have HE := Lib.hid (show b + sumS f k + (f k).2 = b + sumS f (k + 1) by rw [sumS]; omega)
      have HK := Lib.hid hlt
      clear hlt hsi hb2 hst hsb hb1' hb2' hn1
      generalize (f k).1 = dk at *
      generalize (f k).2 = sk at *
      generalize sumS f k = sm at *
      go_upto_region 5 with fail
      generalize wr.alloc (.cells #[.int .i64 dk, .int .i64 sk] 81) = W1 at *
      clear y0 y1 zy
      have zq := cell_lt q1
      go_wp2_with fail
      go_roundw
      case rel => exact ⟨k + 1, _, HK.out, by rw [HE.out], rfl, by simp, Lib.hid (bt HB.out HB2.out)⟩
      case measure => have := HK.out; simp [intOf]; omega
    · obtain rfl : k = i := by omega
      have hki : ¬ ((k : Int) < k) := by omega
      have HE := Lib.hid (show b + sumS f k = b + growS f n d by rw [HG.out])
      clear hlt
      generalize sumS f k = sm at *
      go_wp2_with fail
      go_ret
      exact ⟨ret_i64 HE.out, bt (bt A0.out HB1.out) HB.out⟩
set_option maxHeartbeats 1000000 in
theorem begin_any {b u : Int} {n : Nat} {f : Nat → Int × Int} (ht : TabOk b u n f) (d : Int) (c : Nat) (p : Option Addr) (w : World) (hs : LpIn w f n p) (hc : n ≤ c) (hcm : c ≤ maxLen) (hd : -1000000000000 ≤ d ∧ d ≤ 1000000000000) :
    Calls Tryd.prog 72 #[.agg #[.int .i64 b, .slice p n c, .int .i64 u], .int .i64 d] w fun e w' => e = .returned (.int .i64 (beginS f n d)) ∧ Below w.heap.size w w' := by
  have A0 := below_alloc (Below.refl w.heap.size w) (.cells #[.int .i64 b, .slice p n c, .int .i64 u] 24)
  have HBX := TBox.new w b u n c p 24
  obtain ⟨x0, x1, x2⟩ := HBX
  have HS := Lib.hid (hs.below A0)
  have A0 := Lib.hid A0
  have HT := Lib.hid ht
  have hgb := ht.grow_bd d
  have hb1 := ht.b1
  have hb2 := ht.b2
  have v1 : IntKind.i64.wrap (d - 41317) = d - 41317 := IntWalk.i64_in _ (by omega)
  have v2 : IntKind.i64.wrap (86400 * (d - 41317)) = 86400 * (d - 41317) := IntWalk.i64_in _ (by omega)
  have v3 : IntKind.i64.wrap (86400 * (d - 41317) + (b + growS f n d)) = 86400 * (d - 41317) + (b + growS f n d) := IntWalk.i64_in _ (by omega)
  have v4 : IntKind.i64.wrap (86400 * (d - 41317) + (b + growS f n d) - b) = 86400 * (d - 41317) + (b + growS f n d) - b := IntWalk.i64_in _ (by omega)
  have HE := Lib.hid (show 86400 * (d - 41317) + (b + growS f n d) - b = beginS f n d by unfold beginS; omega)
  clear hs ht hgb hb1 hb2 hd
  go_enter Tryd.func72, Tryd.ntmps72
  go_wp2_with fail
  generalize w.alloc (.cells #[.int .i64 b, .slice p n c, .int .i64 u] 24) = W0 at *
  have zx := cell_lt x0
  have HK := Lib.hid (show ∀ X, Below W0.heap.size W0 X → (fun w' => Below W0.heap.size W0 w' ∧ w'.cell? ⟨w.heap.size, 0, none⟩ = some (.int .i64 b) ∧ w'.cell? ⟨w.heap.size, 1, none⟩ = some (.slice p n c) ∧ w'.cell? ⟨w.heap.size, 2, none⟩ = some (.int .i64 u)) X from fun X h => ⟨h, cell_below h x0, cell_below h x1, cell_below h x2⟩)
  have HOF := Lib.hid (fun X (h : Below W0.heap.size W0 X) => (offset_any HT.out d c p X (HS.out.below h) hc hcm).mono (fun e w' (q : _ ∧ _) => (⟨q.1, bt h q.2⟩ : _ ∧ Below W0.heap.size W0 w')))
  generalize growS f n d = gs at *
  have HB0 := Lib.hid (Below.refl W0.heap.size W0)
  go_region_held3 (fun w' => Below W0.heap.size W0 w' ∧ w'.cell? ⟨w.heap.size, 0, none⟩ = some (.int .i64 b) ∧ w'.cell? ⟨w.heap.size, 1, none⟩ = some (.slice p n c) ∧ w'.cell? ⟨w.heap.size, 2, none⟩ = some (.int .i64 u))
    (exact HK.out _ (by first | assumption | exact HB0.out | exact Below.drew HB0.out))
    (first | (go_at_call 89; refine (HOF.out _ (by first | assumption | exact HB0.out | exact Below.drew HB0.out)).mono ?_; rintro e w2 ⟨rfl, hb2⟩))
  have HB2 := Lib.hid hb2
  clear hb2
  go_wp2
  go_ret
  exact ⟨ret_i64 HE.out, bt A0.out HB2.out⟩
end Go.Proofs.YtklhepgpepfgjaaDoor.Cal
namespace Go.Proofs.YtklhepgpepfgjaaDoor.Cal
open Go Go.RowKit
attribute [local go_sem] Oper.semAt_some
def tB (h : Int) : Bool := decide (0 ≤ h) && decide (h ≤ 24 - 1)
def miB (h : Int) : Bool := decide (0 ≤ h) && decide (h ≤ 60 - 1)
def sB (h : Int) : Bool := decide (0 ≤ h) && decide (h ≤ 60)
def momB (y m d h mi s : Int) : Bool := okDate y m d && tB h && miB mi && sB s
def dateObj (y m d h mi s : Int) : Obj := .cells #[.int .i64 y, .int .i64 m, .int .i64 d, .int .i64 h, .int .i64 mi, .int .i64 s] 29
/-- a date in a box -/
structure DBox (w : World) (a : Nat) (y m d h mi s : Int) : Prop where
  c0 : w.cell? ⟨a, 0, none⟩ = some (.int .i64 y)
  c1 : w.cell? ⟨a, 1, none⟩ = some (.int .i64 m)
  c2 : w.cell? ⟨a, 2, none⟩ = some (.int .i64 d)
  c3 : w.cell? ⟨a, 3, none⟩ = some (.int .i64 h)
  c4 : w.cell? ⟨a, 4, none⟩ = some (.int .i64 mi)
  c5 : w.cell? ⟨a, 5, none⟩ = some (.int .i64 s)
theorem DBox.below {w w' : World} {a : Nat} {y m d h mi s : Int} (k : DBox w a y m d h mi s) (hb : Below w.heap.size w w') : DBox w' a y m d h mi s := ⟨cell_below hb k.c0, cell_below hb k.c1, cell_below hb k.c2, cell_below hb k.c3, cell_below hb k.c4, cell_below hb k.c5⟩
theorem DBox.new (w : World) (y m d h mi s : Int) : DBox (w.alloc (.cells #[.int .i64 y, .int .i64 m, .int .i64 d, .int .i64 h, .int .i64 mi, .int .i64 s] 29)) w.heap.size y m d h mi s := ⟨by simp, by simp, by simp, by simp, by simp, by simp⟩
/-- a result's two cells -/
structure Res2 (w : World) (a : Nat) : Prop where
  r0 : ∃ v, w.cell? ⟨a, 0, none⟩ = some v
  r1 : ∃ v, w.cell? ⟨a, 1, none⟩ = some v
  z : ∀ i, w.frozen? ⟨a, i, none⟩ = false
theorem Res2.lt {w : World} {a : Nat} (h : Res2 w a) : a < w.heap.size := let ⟨_, e⟩ := h.r0; cell_lt e
theorem Res2.new (w : World) (v0 v1 : Value) (t : TypeId) : Res2 (w.alloc (.cells #[v0, v1] t)) w.heap.size := ⟨⟨v0, by simp⟩, ⟨v1, by simp⟩, fun i => by simp⟩
theorem Res2.below {w w' : World} {a : Nat} (h : Res2 w a) (hb : Below w.heap.size w w') : Res2 w' a :=
  ⟨h.r0.imp fun _ e => cell_below hb e, h.r1.imp fun _ e => cell_below hb e, fun i => (hb.frozen (p := ⟨a, i, none⟩) h.lt).trans (h.z i)⟩
def momW (w : World) (y m d h mi s : Int) : World := (w.alloc (.cells #[.int .i64 y, .int .i64 m, .int .i64 d, .int .i64 h, .int .i64 mi, .int .i64 s] 29)).alloc (.cells #[.int .i64 0, .int .i64 0] 88)
theorem mom_start (w : World) (y m d h mi s : Int) : DBox (momW w y m d h mi s) w.heap.size y m d h mi s ∧ Res2 (momW w y m d h mi s) (w.heap.size + 1) ∧ Below w.heap.size w (momW w y m d h mi s) := by
  unfold momW
  have b1 := below_alloc (Below.refl w.heap.size w) (.cells #[.int .i64 y, .int .i64 m, .int .i64 d, .int .i64 h, .int .i64 mi, .int .i64 s] 29)
  refine ⟨(DBox.new w y m d h mi s).below (below_alloc (Below.refl _ _) _), ?_, below_alloc b1 _⟩
  have := Res2.new (w.alloc (.cells #[.int .i64 y, .int .i64 m, .int .i64 d, .int .i64 h, .int .i64 mi, .int .i64 s] 29)) (.int .i64 0) (.int .i64 0) 88
  rwa [show (w.alloc (.cells #[.int .i64 y, .int .i64 m, .int .i64 d, .int .i64 h, .int .i64 mi, .int .i64 s] 29)).heap.size = w.heap.size + 1 by simp] at this

set_option maxHeartbeats 1000000 in
theorem dmoment_ok {y : Int} {m : Nat} {d : Int} (h mi s : Int) (w : World) (hw : Mon w) (hd : IsDate y m d) (hh : tB h = true) (hm : miB mi = true) (hs : sB s = true) :
    Calls Tryd.prog 46 #[.agg #[.int .i64 y, .int .i64 (m : Int), .int .i64 d, .int .i64 h, .int .i64 mi, .int .i64 s]] w fun e w' => e = .returned (.tuple #[.agg #[.int .i64 (1440 * dayN y m d + 60 * h + mi), .int .i64 s], .int .i64 0]) ∧ Below w.heap.size w w' := by
  have HDT := Lib.hid hd
  have hdb := hd.civ.n_bd
  unfold tB at hh
  unfold miB at hm
  unfold sB at hs
  have hh2 : 0 ≤ h ∧ h ≤ 23 := by simp at hh; omega
  have hm2 : 0 ≤ mi ∧ mi ≤ 59 := by simp at hm; omega
  have HT := Lib.hid hh
  have HM := Lib.hid hm
  have HS := Lib.hid hs
  obtain ⟨dn, hdn⟩ : ∃ dn, dayN y m d = dn := ⟨_, rfl⟩
  rw [hdn] at hdb ⊢
  have HDY := Lib.hid hdn
  clear hd hh hm hs hdn
  obtain ⟨hx, hr, hb⟩ := mom_start w y (m : Int) d h mi s
  unfold momW at hx hr hb
  obtain ⟨x0, x1, x2, x3, x4, x5⟩ := hx
  have HR := Lib.hid hr
  have A0 := Lib.hid hb
  have HW := Lib.hid (hw.below hb)
  clear hr hb hw
  go_enter Tryd.func46, Tryd.ntmps46
  go_upto_region 1 with fail
  generalize (w.alloc (.cells #[.int .i64 y, .int .i64 (m : Int), .int .i64 d, .int .i64 h, .int .i64 mi, .int .i64 s] 29)).alloc (.cells #[.int .i64 0, .int .i64 0] 88) = W1 at *
  have zx := cell_lt x0
  obtain ⟨⟨v0, r0⟩, ⟨v1, r1⟩, rz⟩ := HR.out
  have z0 := rz 0
  have z1 := rz 1
  have zr := cell_lt r0
  clear rz
  have HD := Lib.hid (Day_ok W1 HW.out HDT.out)
  rw [HDY.out] at HD
  go_wp2_with (first | (go_at_call 16; refine HD.out.mono ?_; rintro e w' ⟨rfl, rfl⟩) | (go_at_call 74; refine (index_any _ _ _ (by decide)).mono ?_; rintro e w' ⟨rfl, rfl⟩; first | rw [HT.out] | rw [HM.out]) | (go_at_call 48; refine (within_any _ _ _ _).mono ?_; rintro e w' ⟨rfl, rfl⟩; rw [HS.out]))
  refine bodyPost_ret (v := .tuple #[.agg #[.int .i64 (1440 * dn + 60 * h + mi), .int .i64 s], .int .i64 0]) (by simp [results, Tryd.results46, go_sem, r0, r1]) rfl ⟨rfl, ?_⟩
  exact (A0.out.setCell (p := ⟨w.heap.size + 1, _, none⟩) (Nat.le_succ _) _).setCell (p := ⟨w.heap.size + 1, _, none⟩) (Nat.le_succ _) _
set_option maxHeartbeats 1000000 in
theorem dmoment_no (y m d h mi s : Int) (w : World) (hw : Mon w) (hn : momB y m d h mi s = false) :
    Calls Tryd.prog 46 #[.agg #[.int .i64 y, .int .i64 m, .int .i64 d, .int .i64 h, .int .i64 mi, .int .i64 s]] w fun e w' => e = .returned (.tuple #[.agg #[.int .i64 0, .int .i64 0], .int .i64 90]) ∧ Below w.heap.size w w' := by
  unfold momB at hn
  cases h1 : okDate y m d
  · have HDN := Lib.hid h1
    clear hn h1
    obtain ⟨hx, hr, hb⟩ := mom_start w y m d h mi s
    unfold momW at hx hr hb
    obtain ⟨x0, x1, x2, x3, x4, x5⟩ := hx
    have HR := Lib.hid hr
    have A0 := Lib.hid hb
    have HW := Lib.hid (hw.below hb)
    clear hr hb hw
    go_enter Tryd.func46, Tryd.ntmps46
    go_upto_region 1 with fail
    generalize (w.alloc (.cells #[.int .i64 y, .int .i64 m, .int .i64 d, .int .i64 h, .int .i64 mi, .int .i64 s] 29)).alloc (.cells #[.int .i64 0, .int .i64 0] 88) = W1 at *
    have zx := cell_lt x0
    obtain ⟨⟨v0, r0⟩, ⟨v1, r1⟩, rz⟩ := HR.out
    have z0 := rz 0
    have z1 := rz 1
    have zr := cell_lt r0
    clear rz
    have HD := Lib.hid (Day_no y m d W1 HW.out HDN.out)
    go_wp2_with (first | (go_at_call 16; refine HD.out.mono ?_; rintro e w' ⟨rfl, rfl⟩))
    refine bodyPost_ret (v := .tuple #[.agg #[.int .i64 0, .int .i64 0], .int .i64 90]) (by simp [results, Tryd.results46, go_sem, r0, r1]) rfl ⟨rfl, ?_⟩
    exact (A0.out.setCell (p := ⟨w.heap.size + 1, _, none⟩) (Nat.le_succ _) _).setCell (p := ⟨w.heap.size + 1, _, none⟩) (Nat.le_succ _) _
  · obtain ⟨k, rfl, hd⟩ := okDate_yes h1
    have HDT := Lib.hid hd
    rw [h1] at hn
    simp only [Bool.true_and] at hn
    clear h1 hd
    cases h2 : tB h
    · unfold tB at h2
      have HT := Lib.hid h2
      clear hn h2
      obtain ⟨hx, hr, hb⟩ := mom_start w y (k : Int) d h mi s
      unfold momW at hx hr hb
      obtain ⟨x0, x1, x2, x3, x4, x5⟩ := hx
      have HR := Lib.hid hr
      have A0 := Lib.hid hb
      have HW := Lib.hid (hw.below hb)
      clear hr hb hw
      go_enter Tryd.func46, Tryd.ntmps46
      go_upto_region 1 with fail
      generalize (w.alloc (.cells #[.int .i64 y, .int .i64 (k : Int), .int .i64 d, .int .i64 h, .int .i64 mi, .int .i64 s] 29)).alloc (.cells #[.int .i64 0, .int .i64 0] 88) = W1 at *
      have zx := cell_lt x0
      obtain ⟨⟨v0, r0⟩, ⟨v1, r1⟩, rz⟩ := HR.out
      have z0 := rz 0
      have z1 := rz 1
      have zr := cell_lt r0
      clear rz
      have HD := Lib.hid (Day_ok W1 HW.out HDT.out)
      generalize dayN y k d = dn at *
      go_wp2_with (first | (go_at_call 16; refine HD.out.mono ?_; rintro e w' ⟨rfl, rfl⟩) | (go_at_call 74; refine (index_any _ _ _ (by decide)).mono ?_; rintro e w' ⟨rfl, rfl⟩; first | rw [HT.out]))
      refine bodyPost_ret (v := .tuple #[.agg #[.int .i64 0, .int .i64 0], .int .i64 90]) (by simp [results, Tryd.results46, go_sem, r0, r1]) rfl ⟨rfl, ?_⟩
      exact (A0.out.setCell (p := ⟨w.heap.size + 1, _, none⟩) (Nat.le_succ _) _).setCell (p := ⟨w.heap.size + 1, _, none⟩) (Nat.le_succ _) _
    · rw [h2] at hn
      simp only [Bool.true_and] at hn
      unfold tB at h2
      have HT := Lib.hid h2
      clear h2
      cases h3 : miB mi
      · unfold miB at h3
        have HM := Lib.hid h3
        clear hn h3
        obtain ⟨hx, hr, hb⟩ := mom_start w y (k : Int) d h mi s
        unfold momW at hx hr hb
        obtain ⟨x0, x1, x2, x3, x4, x5⟩ := hx
        have HR := Lib.hid hr
        have A0 := Lib.hid hb
        have HW := Lib.hid (hw.below hb)
        clear hr hb hw
        go_enter Tryd.func46, Tryd.ntmps46
        go_upto_region 1 with fail
        generalize (w.alloc (.cells #[.int .i64 y, .int .i64 (k : Int), .int .i64 d, .int .i64 h, .int .i64 mi, .int .i64 s] 29)).alloc (.cells #[.int .i64 0, .int .i64 0] 88) = W1 at *
        have zx := cell_lt x0
        obtain ⟨⟨v0, r0⟩, ⟨v1, r1⟩, rz⟩ := HR.out
        have z0 := rz 0
        have z1 := rz 1
        have zr := cell_lt r0
        clear rz
        have HD := Lib.hid (Day_ok W1 HW.out HDT.out)
        generalize dayN y k d = dn at *
        go_wp2_with (first | (go_at_call 16; refine HD.out.mono ?_; rintro e w' ⟨rfl, rfl⟩) | (go_at_call 74; refine (index_any _ _ _ (by decide)).mono ?_; rintro e w' ⟨rfl, rfl⟩; first | rw [HT.out] | rw [HM.out]))
        refine bodyPost_ret (v := .tuple #[.agg #[.int .i64 0, .int .i64 0], .int .i64 90]) (by simp [results, Tryd.results46, go_sem, r0, r1]) rfl ⟨rfl, ?_⟩
        exact (A0.out.setCell (p := ⟨w.heap.size + 1, _, none⟩) (Nat.le_succ _) _).setCell (p := ⟨w.heap.size + 1, _, none⟩) (Nat.le_succ _) _
      · rw [h3] at hn
        simp only [Bool.true_and] at hn
        unfold miB at h3
        unfold sB at hn
        have HM := Lib.hid h3
        have HS := Lib.hid hn
        clear hn h3
        obtain ⟨hx, hr, hb⟩ := mom_start w y (k : Int) d h mi s
        unfold momW at hx hr hb
        obtain ⟨x0, x1, x2, x3, x4, x5⟩ := hx
        have HR := Lib.hid hr
        have A0 := Lib.hid hb
        have HW := Lib.hid (hw.below hb)
        clear hr hb hw
        go_enter Tryd.func46, Tryd.ntmps46
        go_upto_region 1 with fail
        generalize (w.alloc (.cells #[.int .i64 y, .int .i64 (k : Int), .int .i64 d, .int .i64 h, .int .i64 mi, .int .i64 s] 29)).alloc (.cells #[.int .i64 0, .int .i64 0] 88) = W1 at *
        have zx := cell_lt x0
        obtain ⟨⟨v0, r0⟩, ⟨v1, r1⟩, rz⟩ := HR.out
        have z0 := rz 0
        have z1 := rz 1
        have zr := cell_lt r0
        clear rz
        have HD := Lib.hid (Day_ok W1 HW.out HDT.out)
        generalize dayN y k d = dn at *
        go_wp2_with (first | (go_at_call 16; refine HD.out.mono ?_; rintro e w' ⟨rfl, rfl⟩) | (go_at_call 74; refine (index_any _ _ _ (by decide)).mono ?_; rintro e w' ⟨rfl, rfl⟩; first | rw [HT.out] | rw [HM.out]) | (go_at_call 48; refine (within_any _ _ _ _).mono ?_; rintro e w' ⟨rfl, rfl⟩; rw [HS.out]))
        refine bodyPost_ret (v := .tuple #[.agg #[.int .i64 0, .int .i64 0], .int .i64 90]) (by simp [results, Tryd.results46, go_sem, r0, r1]) rfl ⟨rfl, ?_⟩
        exact (A0.out.setCell (p := ⟨w.heap.size + 1, _, none⟩) (Nat.le_succ _) _).setCell (p := ⟨w.heap.size + 1, _, none⟩) (Nat.le_succ _) _
end Go.Proofs.YtklhepgpepfgjaaDoor.Cal
