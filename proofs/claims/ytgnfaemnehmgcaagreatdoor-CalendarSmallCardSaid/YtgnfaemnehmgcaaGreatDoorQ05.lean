/-  ·  ·  -/
import Derived.Test.YtgnfaemnehmgcaaGreatDoorQ04
import Derived.Test.YtgnfaemnehmgcaaGreatDoorQ03
namespace Go.Proofs.YtgnfaemnehmgcaaGreatDoor.Cal
open Go Go.RowKit
attribute [local go_sem] Oper.semAt_some
theorem modulo_any (a b : Int) (w : World) (hb : 1 ≤ b ∧ b ≤ 9223372036854775807) :
    Calls Tryz.prog 87 #[.int .i64 a, .int .i64 b] w fun e w' => e = .returned (.int .i64 (a % b)) ∧ w = w' := by
  have hm := tmod_bd a b hb.1
  have hne : (b == 0) = false := by simp; omega
  have hnz : ¬ b = 0 := by omega
  have k2 : IntKind.i64.wrap (a.tmod b) = a.tmod b := IntWalk.i64_in _ (by omega)
  by_cases h : a.tmod b < 0
  · have H := Lib.hid (modulo_neg a b hb.1 h)
    have k3 : IntKind.i64.wrap (a.tmod b + b) = a.tmod b + b := IntWalk.i64_in _ (by omega)
    clear hm
    go_enter Tryz.func87, Tryz.ntmps87
    go_wp2
    go_ret
    exact ⟨ret_i64 H.out, rfl⟩
  · have H := Lib.hid (modulo_pos a b hb.1 h)
    clear hm
    go_enter Tryz.func87, Tryz.ntmps87
    go_wp2
    go_ret
    exact ⟨ret_i64 H.out, rfl⟩
theorem mday_any (m s : Int) (w : World) (hm : -9000000000000000000 ≤ m ∧ m ≤ 9000000000000000000) :
    Calls Tryz.prog 122 #[.agg #[.int .i64 m, .int .i64 s]] w fun e w' => e = .returned (.int .i64 (m / 1440)) ∧ Below w.heap.size w w' := by
  have A0 := Lib.hid (below_alloc (Below.refl w.heap.size w) (.cells #[.int .i64 m, .int .i64 s] 136))
  go_enter Tryz.func122, Tryz.ntmps122
  go_wp2_with (go_at_call 86; refine (floor_any _ _ _ hm (by decide)).mono ?_; rintro e w' ⟨rfl, rfl⟩)
  go_ret
  exact ⟨rfl, A0.out⟩
theorem mofday_any (m s : Int) (w : World) :
    Calls Tryz.prog 134 #[.agg #[.int .i64 m, .int .i64 s]] w fun e w' => e = .returned (.int .i64 (m % 1440)) ∧ Below w.heap.size w w' := by
  have A0 := Lib.hid (below_alloc (Below.refl w.heap.size w) (.cells #[.int .i64 m, .int .i64 s] 136))
  go_enter Tryz.func134, Tryz.ntmps134
  go_wp2_with (go_at_call 87; refine (modulo_any _ _ _ (by decide)).mono ?_; rintro e w' ⟨rfl, rfl⟩)
  go_ret
  exact ⟨rfl, A0.out⟩
set_option maxHeartbeats 1000000 in
theorem before_any (b u d : Int) (n c : Nat) (p : Option Addr) (f : Nat → Int × Int) (w : World) (hs : LpIn w f n p) (hn : n ≤ 1000) (hc : n ≤ c) (hcm : c ≤ maxLen) :
    Calls Tryz.prog 73 #[.agg #[.int .i64 b, .slice p n c, .int .i64 u], .int .i64 d] w fun e w' => ∃ i : Nat, i ≤ n ∧ e = .returned (.slice p i c) ∧ (∀ j, j < i → (f j).1 < d) ∧ (i < n → d ≤ (f i).1) ∧ Below w.heap.size w w' := by
  have A0 := below_alloc (Below.refl w.heap.size w) (.cells #[.int .i64 b, .slice p n c, .int .i64 u] 24)
  have HBX := Lib.hid (TBox.new w b u n c p 24)
  have HS := Lib.hid (hs.below A0)
  have A0 := Lib.hid A0
  obtain ⟨x0, x1, x2⟩ := HBX.out
  unfold maxLen at hcm
  clear hs
  go_enter Tryz.func73, Tryz.ntmps73
  go_upto_region 1 with fail
  generalize w.alloc (.cells #[.int .i64 b, .slice p n c, .int .i64 u] 24) = W0 at *
  have zx := cell_lt x0
  go_wp2_with fail
  clear x0 x1 x2 zx
  go_loopw [4, 5, 6, 10] (fun s4 s5 s6 s10 wr => ∃ (k : Nat) (a5 a6 : Value), k ≤ n ∧ s4 = .slice none 0 0 ∧ s5 = a5 ∧ s6 = a6 ∧ s10 = .int .i64 (k : Int) ∧ Hid (∀ j, j < k → (f j).1 < d) ∧ Hid (Below W0.heap.size W0 wr)) (fun _ _ _ s _ => n - (intOf s).toNat)
  case atStart => exact ⟨0, _, _, Nat.zero_le _, rfl, rfl, rfl, rfl, Lib.hid (fun j hj => absurd hj (Nat.not_lt_zero _)), Lib.hid (Below.refl _ _)⟩
  case round =>
    obtain ⟨k, a5, a6, hk, rfl, rfl, rfl, rfl, HL, HB⟩ := hrel
    obtain ⟨x0, x1, x2⟩ := HBX.out.below HB.out
    have zx := cell_lt x0
    by_cases hlt : k < n
    · have hki : (k : Int) < n := by omega
      have vk : IntKind.i64.wrap ((k : Int) + 1) = (k : Int) + 1 := IntWalk.i64_in _ (by omega)
      obtain ⟨bb, oo, rfl, hsi⟩ := HS.out.resolve_left (by omega)
      obtain ⟨y0, y1⟩ := (hsi.below HB.out) k hlt
      have zy := cell_lt y0
      have hb1 := below_alloc (Below.refl wr.heap.size wr) (.cells #[.int .i64 (f k).1, .int .i64 (f k).2] 33)
      have q0 : (wr.alloc (.cells #[.int .i64 (f k).1, .int .i64 (f k).2] 33)).cell? ⟨wr.heap.size, 0, none⟩ = some (.int .i64 (f k).1) := by simp
      have HB1 := Lib.hid hb1
      have HBB := Lib.hid ((HBX.out.below HB.out).below hb1)
      have HK := Lib.hid hlt
      have HFK := Lib.hid (show (f k).1 = (f k).1 from rfl)
      obtain ⟨dk, hdk⟩ : ∃ dk, (f k).1 = dk := ⟨_, rfl⟩
      have HDK := Lib.hid hdk
      rw [hdk] at y0 q0
      rw [hdk] at HB1 HBB
      clear hlt hsi hb1 HFK
      go_upto_region 4 with fail
      clear hdk x0 x1 x2 zx y0 y1 zy
      generalize wr.alloc (.cells #[.int .i64 dk, .int .i64 (f k).2] 33) = W1 at *
      have zq := cell_lt q0
      obtain ⟨x0, x1, x2⟩ := HBB.out
      have zx := cell_lt x0
      have hkc : (k : Int) ≤ c := by omega
      by_cases hge : d ≤ dk
      · go_wp2_with fail
        go_ret
        exact ⟨k, hk, rfl, HL.out, fun _ => by rw [HDK.out]; exact hge, bt (bt A0.out HB.out) HB1.out⟩
      · have HLT := Lib.hid (show dk < d by omega)
        go_wp2_with fail
        go_roundw
        case rel => exact ⟨k + 1, _, _, HK.out, rfl, rfl, rfl, by simp, Lib.hid (fun j hj => by
          by_cases e : j = k
          · subst e; rw [HDK.out]; exact HLT.out
          · exact HL.out j (by omega)), Lib.hid (bt HB.out HB1.out)⟩
        case measure => have := HK.out; simp [intOf]; omega
    · obtain rfl : k = n := by omega
      have hki : ¬ ((k : Int) < k) := by omega
      clear hlt
      go_wp2_with fail
      go_ret
      exact ⟨k, Nat.le_refl _, rfl, HL.out, fun h => absurd h (Nat.lt_irrefl _), bt A0.out HB.out⟩
end Go.Proofs.YtgnfaemnehmgcaaGreatDoor.Cal
namespace Go.Proofs.YtgnfaemnehmgcaaGreatDoor.Cal
open Go Go.RowKit
attribute [local go_sem] Oper.semAt_some
set_option maxHeartbeats 1000000 in
theorem offset_any {b u : Int} {n : Nat} {f : Nat → Int × Int} (ht : TabOk b u n f) (d : Int) (c : Nat) (p : Option Addr) (w : World) (hs : LpIn w f n p) (hc : n ≤ c) (hcm : c ≤ maxLen) :
    Calls Tryz.prog 97 #[.agg #[.int .i64 b, .slice p n c, .int .i64 u], .int .i64 d] w fun e w' => e = .returned (.int .i64 (b + growS f n d)) ∧ Below w.heap.size w w' := by
  have A0 := below_alloc (Below.refl w.heap.size w) (.cells #[.int .i64 b, .slice p n c, .int .i64 u] 24)
  have HBX := Lib.hid (TBox.new w b u n c p 24)
  have HS := Lib.hid (hs.below A0)
  have A0 := Lib.hid A0
  obtain ⟨x0, x1, x2⟩ := HBX.out
  have HT := Lib.hid ht
  clear hs ht
  go_enter Tryz.func97, Tryz.ntmps97
  go_upto_region 1 with fail
  generalize w.alloc (.cells #[.int .i64 b, .slice p n c, .int .i64 u] 24) = W0 at *
  have zx := cell_lt x0
  have HBF := Lib.hid (before_any b u d n c p f W0 HS.out (by have := HT.out.n1; omega) hc hcm)
  go_wp2_with (go_at_call 73; refine HBF.out.mono ?_; rintro e w1 ⟨i, hi, rfl, h1, h2, hb1⟩; have H1 := Lib.hid h1; have H2 := Lib.hid h2; have HB1 := Lib.hid hb1; clear h1 h2 hb1)
  clear x0 x1 x2 zx
  have HG := Lib.hid (grow_sum (f := f) (d := d) H1.out n hi (fun j h1 h2 => by
    have hin : i < n := by omega
    by_cases e : i = j
    · subst e; exact H2.out hin
    · have := HT.out.o i j (by omega) h2
      have := H2.out hin
      omega))
  go_loopw [5, 7, 14] (fun s5 s7 s14 wr => ∃ (k : Nat) (a7 : Value), k ≤ i ∧ s5 = .int .i64 (b + sumS f k) ∧ s7 = a7 ∧ s14 = .int .i64 (k : Int) ∧ Hid (Below w1.heap.size w1 wr)) (fun _ _ s _ => i - (intOf s).toNat)
  case atStart => exact ⟨0, _, Nat.zero_le _, by simp [sumS], rfl, rfl, Lib.hid (Below.refl _ _)⟩
  case round =>
    obtain ⟨k, a7, hk, rfl, rfl, rfl, HB⟩ := hrel
    have hb1' := HT.out.b1
    have hb2' := HT.out.b2
    have hn1 := HT.out.n1
    have hsb := sumS_bd (f := f) k (fun j hj => HT.out.s j (by omega))
    by_cases hlt : k < i
    · have hki : (k : Int) < i := by omega
      have hst := HT.out.s k (by omega)
      have vk : IntKind.i64.wrap ((k : Int) + 1) = (k : Int) + 1 := IntWalk.i64_in _ (by omega)
      have vs : IntKind.i64.wrap (b + sumS f k + (f k).2) = b + sumS f k + (f k).2 := IntWalk.i64_in _ (by omega)
      obtain ⟨bb, oo, rfl, hsi⟩ := HS.out.resolve_left (by omega)
      obtain ⟨y0, y1⟩ := ((hsi.below HB1.out).below HB.out) k (by omega)
      have zy := cell_lt y0
      have hb2 := below_alloc (Below.refl wr.heap.size wr) (.cells #[.int .i64 (f k).1, .int .i64 (f k).2] 33)
      have q1 : (wr.alloc (.cells #[.int .i64 (f k).1, .int .i64 (f k).2] 33)).cell? ⟨wr.heap.size, 1, none⟩ = some (.int .i64 (f k).2) := by simp
      have HB2 := Lib.hid hb2
      have HE := Lib.hid (show b + sumS f k + (f k).2 = b + sumS f (k + 1) by rw [sumS]; omega)
      have HK := Lib.hid hlt
      clear hlt hsi hb2 hst hsb hb1' hb2' hn1
      generalize (f k).1 = dk at *
      generalize (f k).2 = sk at *
      generalize sumS f k = sm at *
      go_upto_region 5 with fail
      generalize wr.alloc (.cells #[.int .i64 dk, .int .i64 sk] 33) = W1 at *
      clear y0 y1 zy
      have zq := cell_lt q1
      go_wp2_with fail
      go_roundw
      case rel => exact ⟨k + 1, _, HK.out, by rw [HE.out], rfl, by simp, Lib.hid (bt HB.out HB2.out)⟩
      case measure => have := HK.out; simp [intOf]; omega
    · obtain rfl : k = i := by omega
      have hki : ¬ ((k : Int) < k) := by omega
      have HE := Lib.hid (show b + sumS f k = b + growS f n d by rw [HG.out])
      clear hlt
      generalize sumS f k = sm at *
      go_wp2_with fail
      go_ret
      exact ⟨ret_i64 HE.out, bt (bt A0.out HB1.out) HB.out⟩
set_option maxHeartbeats 1000000 in
theorem begin_any {b u : Int} {n : Nat} {f : Nat → Int × Int} (ht : TabOk b u n f) (d : Int) (c : Nat) (p : Option Addr) (w : World) (hs : LpIn w f n p) (hc : n ≤ c) (hcm : c ≤ maxLen) (hd : -1000000000000 ≤ d ∧ d ≤ 1000000000000) :
    Calls Tryz.prog 113 #[.agg #[.int .i64 b, .slice p n c, .int .i64 u], .int .i64 d] w fun e w' => e = .returned (.int .i64 (beginS f n d)) ∧ Below w.heap.size w w' := by
  have A0 := below_alloc (Below.refl w.heap.size w) (.cells #[.int .i64 b, .slice p n c, .int .i64 u] 24)
  have HBX := TBox.new w b u n c p 24
  obtain ⟨x0, x1, x2⟩ := HBX
  have HS := Lib.hid (hs.below A0)
  have A0 := Lib.hid A0
  have HT := Lib.hid ht
  have hgb := ht.grow_bd d
  have hb1 := ht.b1
  have hb2 := ht.b2
  have v1 : IntKind.i64.wrap (d - 41317) = d - 41317 := IntWalk.i64_in _ (by omega)
  have v2 : IntKind.i64.wrap (86400 * (d - 41317)) = 86400 * (d - 41317) := IntWalk.i64_in _ (by omega)
  have v3 : IntKind.i64.wrap (86400 * (d - 41317) + (b + growS f n d)) = 86400 * (d - 41317) + (b + growS f n d) := IntWalk.i64_in _ (by omega)
  have v4 : IntKind.i64.wrap (86400 * (d - 41317) + (b + growS f n d) - b) = 86400 * (d - 41317) + (b + growS f n d) - b := IntWalk.i64_in _ (by omega)
  have HE := Lib.hid (show 86400 * (d - 41317) + (b + growS f n d) - b = beginS f n d by unfold beginS; omega)
  clear hs ht hgb hb1 hb2 hd
  go_enter Tryz.func113, Tryz.ntmps113
  go_wp2_with fail
  generalize w.alloc (.cells #[.int .i64 b, .slice p n c, .int .i64 u] 24) = W0 at *
  have zx := cell_lt x0
  have HK := Lib.hid (show ∀ X, Below W0.heap.size W0 X → (fun w' => Below W0.heap.size W0 w' ∧ w'.cell? ⟨w.heap.size, 0, none⟩ = some (.int .i64 b) ∧ w'.cell? ⟨w.heap.size, 1, none⟩ = some (.slice p n c) ∧ w'.cell? ⟨w.heap.size, 2, none⟩ = some (.int .i64 u)) X from fun X h => ⟨h, cell_below h x0, cell_below h x1, cell_below h x2⟩)
  have HOF := Lib.hid (fun X (h : Below W0.heap.size W0 X) => (offset_any HT.out d c p X (HS.out.below h) hc hcm).mono (fun e w' (q : _ ∧ _) => (⟨q.1, bt h q.2⟩ : _ ∧ Below W0.heap.size W0 w')))
  generalize growS f n d = gs at *
  have HB0 := Lib.hid (Below.refl W0.heap.size W0)
  go_region_held3 (fun w' => Below W0.heap.size W0 w' ∧ w'.cell? ⟨w.heap.size, 0, none⟩ = some (.int .i64 b) ∧ w'.cell? ⟨w.heap.size, 1, none⟩ = some (.slice p n c) ∧ w'.cell? ⟨w.heap.size, 2, none⟩ = some (.int .i64 u))
    (exact HK.out _ (by first | assumption | exact HB0.out | exact Below.drew HB0.out))
    (first | (go_at_call 97; refine (HOF.out _ (by first | assumption | exact HB0.out | exact Below.drew HB0.out)).mono ?_; rintro e w2 ⟨rfl, hb2⟩))
  have HB2 := Lib.hid hb2
  clear hb2
  go_wp2
  go_ret
  exact ⟨ret_i64 HE.out, bt A0.out HB2.out⟩
end Go.Proofs.YtgnfaemnehmgcaaGreatDoor.Cal
namespace Go.Proofs.YtgnfaemnehmgcaaGreatDoor.Cal
open Go Go.RowKit
attribute [local go_sem] Oper.semAt_some
def tB (h : Int) : Bool := decide (0 ≤ h) && decide (h ≤ 24 - 1)
def miB (h : Int) : Bool := decide (0 ≤ h) && decide (h ≤ 60 - 1)
def sB (h : Int) : Bool := decide (0 ≤ h) && decide (h ≤ 60)
def momB (y m d h mi s : Int) : Bool := okDate y m d && tB h && miB mi && sB s
structure DBox (w : World) (a : Nat) (y m d h mi s : Int) : Prop where
  c0 : w.cell? ⟨a, 0, none⟩ = some (.int .i64 y)
  c1 : w.cell? ⟨a, 1, none⟩ = some (.int .i64 m)
  c2 : w.cell? ⟨a, 2, none⟩ = some (.int .i64 d)
  c3 : w.cell? ⟨a, 3, none⟩ = some (.int .i64 h)
  c4 : w.cell? ⟨a, 4, none⟩ = some (.int .i64 mi)
  c5 : w.cell? ⟨a, 5, none⟩ = some (.int .i64 s)
theorem DBox.below {w w' : World} {a : Nat} {y m d h mi s : Int} (k : DBox w a y m d h mi s) (hb : Below w.heap.size w w') : DBox w' a y m d h mi s := ⟨cell_below hb k.c0, cell_below hb k.c1, cell_below hb k.c2, cell_below hb k.c3, cell_below hb k.c4, cell_below hb k.c5⟩
theorem DBox.new (w : World) (y m d h mi s : Int) : DBox (w.alloc (.cells #[.int .i64 y, .int .i64 m, .int .i64 d, .int .i64 h, .int .i64 mi, .int .i64 s] 26)) w.heap.size y m d h mi s := ⟨by simp, by simp, by simp, by simp, by simp, by simp⟩
structure Res2 (w : World) (a : Nat) : Prop where
  r0 : ∃ v, w.cell? ⟨a, 0, none⟩ = some v
  r1 : ∃ v, w.cell? ⟨a, 1, none⟩ = some v
  z : ∀ i, w.frozen? ⟨a, i, none⟩ = false
theorem Res2.lt {w : World} {a : Nat} (h : Res2 w a) : a < w.heap.size := let ⟨_, e⟩ := h.r0; cell_lt e
theorem Res2.new (w : World) (v0 v1 : Value) (t : TypeId) : Res2 (w.alloc (.cells #[v0, v1] t)) w.heap.size := ⟨⟨v0, by simp⟩, ⟨v1, by simp⟩, fun i => by simp⟩
theorem Res2.below {w w' : World} {a : Nat} (h : Res2 w a) (hb : Below w.heap.size w w') : Res2 w' a :=
  ⟨h.r0.imp fun _ e => cell_below hb e, h.r1.imp fun _ e => cell_below hb e, fun i => (hb.frozen (p := ⟨a, i, none⟩) h.lt).trans (h.z i)⟩
def momW (w : World) (y m d h mi s : Int) : World := (w.alloc (.cells #[.int .i64 y, .int .i64 m, .int .i64 d, .int .i64 h, .int .i64 mi, .int .i64 s] 26)).alloc (.cells #[.int .i64 0, .int .i64 0] 136)
theorem mom_start (w : World) (y m d h mi s : Int) : DBox (momW w y m d h mi s) w.heap.size y m d h mi s ∧ Res2 (momW w y m d h mi s) (w.heap.size + 1) ∧ Below w.heap.size w (momW w y m d h mi s) := by
  unfold momW
  have b1 := below_alloc (Below.refl w.heap.size w) (.cells #[.int .i64 y, .int .i64 m, .int .i64 d, .int .i64 h, .int .i64 mi, .int .i64 s] 26)
  refine ⟨(DBox.new w y m d h mi s).below (below_alloc (Below.refl _ _) _), ?_, below_alloc b1 _⟩
  have := Res2.new (w.alloc (.cells #[.int .i64 y, .int .i64 m, .int .i64 d, .int .i64 h, .int .i64 mi, .int .i64 s] 26)) (.int .i64 0) (.int .i64 0) 136
  rwa [show (w.alloc (.cells #[.int .i64 y, .int .i64 m, .int .i64 d, .int .i64 h, .int .i64 mi, .int .i64 s] 26)).heap.size = w.heap.size + 1 by simp] at this

set_option maxHeartbeats 1000000 in
theorem dmoment_ok {y : Int} {m : Nat} {d : Int} (h mi s : Int) (w : World) (hw : Mon w) (hd : IsDate y m d) (hh : tB h = true) (hm : miB mi = true) (hs : sB s = true) :
    Calls Tryz.prog 83 #[.agg #[.int .i64 y, .int .i64 (m : Int), .int .i64 d, .int .i64 h, .int .i64 mi, .int .i64 s]] w fun e w' => e = .returned (.tuple #[.agg #[.int .i64 (1440 * dayN y m d + 60 * h + mi), .int .i64 s], .int .i64 0]) ∧ Below w.heap.size w w' := by
  have HDT := Lib.hid hd
  have hdb := hd.civ.n_bd
  unfold tB at hh
  unfold miB at hm
  unfold sB at hs
  have hh2 : 0 ≤ h ∧ h ≤ 23 := by simp at hh; omega
  have hm2 : 0 ≤ mi ∧ mi ≤ 59 := by simp at hm; omega
  have HT := Lib.hid hh
  have HM := Lib.hid hm
  have HS := Lib.hid hs
  obtain ⟨dn, hdn⟩ : ∃ dn, dayN y m d = dn := ⟨_, rfl⟩
  rw [hdn] at hdb ⊢
  have HDY := Lib.hid hdn
  clear hd hh hm hs hdn
  obtain ⟨hx, hr, hb⟩ := mom_start w y (m : Int) d h mi s
  unfold momW at hx hr hb
  obtain ⟨x0, x1, x2, x3, x4, x5⟩ := hx
  have HR := Lib.hid hr
  have A0 := Lib.hid hb
  have HW := Lib.hid (hw.below hb)
  clear hr hb hw
  go_enter Tryz.func83, Tryz.ntmps83
  go_upto_region 1 with fail
  generalize (w.alloc (.cells #[.int .i64 y, .int .i64 (m : Int), .int .i64 d, .int .i64 h, .int .i64 mi, .int .i64 s] 26)).alloc (.cells #[.int .i64 0, .int .i64 0] 136) = W1 at *
  have zx := cell_lt x0
  obtain ⟨⟨v0, r0⟩, ⟨v1, r1⟩, rz⟩ := HR.out
  have z0 := rz 0
  have z1 := rz 1
  have zr := cell_lt r0
  clear rz
  have HD := Lib.hid (Day_ok W1 HW.out HDT.out)
  rw [HDY.out] at HD
  go_wp2_with (first | (go_at_call 13; refine HD.out.mono ?_; rintro e w' ⟨rfl, rfl⟩) | (go_at_call 111; refine (index_any _ _ _ (by decide)).mono ?_; rintro e w' ⟨rfl, rfl⟩; first | rw [HT.out] | rw [HM.out]) | (go_at_call 67; refine (within_any _ _ _ _).mono ?_; rintro e w' ⟨rfl, rfl⟩; rw [HS.out]))
  refine bodyPost_ret (v := .tuple #[.agg #[.int .i64 (1440 * dn + 60 * h + mi), .int .i64 s], .int .i64 0]) (by simp [results, Tryz.results83, go_sem, r0, r1]) rfl ⟨rfl, ?_⟩
  exact (A0.out.setCell (p := ⟨w.heap.size + 1, _, none⟩) (Nat.le_succ _) _).setCell (p := ⟨w.heap.size + 1, _, none⟩) (Nat.le_succ _) _
set_option maxHeartbeats 1000000 in
theorem dmoment_no (y m d h mi s : Int) (w : World) (hw : Mon w) (hn : momB y m d h mi s = false) :
    Calls Tryz.prog 83 #[.agg #[.int .i64 y, .int .i64 m, .int .i64 d, .int .i64 h, .int .i64 mi, .int .i64 s]] w fun e w' => e = .returned (.tuple #[.agg #[.int .i64 0, .int .i64 0], .int .i64 90]) ∧ Below w.heap.size w w' := by
  unfold momB at hn
  cases h1 : okDate y m d
  · have HDN := Lib.hid h1
    clear hn h1
    obtain ⟨hx, hr, hb⟩ := mom_start w y m d h mi s
    unfold momW at hx hr hb
    obtain ⟨x0, x1, x2, x3, x4, x5⟩ := hx
    have HR := Lib.hid hr
    have A0 := Lib.hid hb
    have HW := Lib.hid (hw.below hb)
    clear hr hb hw
    go_enter Tryz.func83, Tryz.ntmps83
    go_upto_region 1 with fail
    generalize (w.alloc (.cells #[.int .i64 y, .int .i64 m, .int .i64 d, .int .i64 h, .int .i64 mi, .int .i64 s] 26)).alloc (.cells #[.int .i64 0, .int .i64 0] 136) = W1 at *
    have zx := cell_lt x0
    obtain ⟨⟨v0, r0⟩, ⟨v1, r1⟩, rz⟩ := HR.out
    have z0 := rz 0
    have z1 := rz 1
    have zr := cell_lt r0
    clear rz
    have HD := Lib.hid (Day_no y m d W1 HW.out HDN.out)
    go_wp2_with (first | (go_at_call 13; refine HD.out.mono ?_; rintro e w' ⟨rfl, rfl⟩))
    refine bodyPost_ret (v := .tuple #[.agg #[.int .i64 0, .int .i64 0], .int .i64 90]) (by simp [results, Tryz.results83, go_sem, r0, r1]) rfl ⟨rfl, ?_⟩
    exact (A0.out.setCell (p := ⟨w.heap.size + 1, _, none⟩) (Nat.le_succ _) _).setCell (p := ⟨w.heap.size + 1, _, none⟩) (Nat.le_succ _) _
  · obtain ⟨k, rfl, hd⟩ := okDate_yes h1
    have HDT := Lib.hid hd
    rw [h1] at hn
    simp only [Bool.true_and] at hn
    clear h1 hd
    cases h2 : tB h
    · unfold tB at h2
      have HT := Lib.hid h2
      clear hn h2
      obtain ⟨hx, hr, hb⟩ := mom_start w y (k : Int) d h mi s
      unfold momW at hx hr hb
      obtain ⟨x0, x1, x2, x3, x4, x5⟩ := hx
      have HR := Lib.hid hr
      have A0 := Lib.hid hb
      have HW := Lib.hid (hw.below hb)
      clear hr hb hw
      go_enter Tryz.func83, Tryz.ntmps83
      go_upto_region 1 with fail
      generalize (w.alloc (.cells #[.int .i64 y, .int .i64 (k : Int), .int .i64 d, .int .i64 h, .int .i64 mi, .int .i64 s] 26)).alloc (.cells #[.int .i64 0, .int .i64 0] 136) = W1 at *
      have zx := cell_lt x0
      obtain ⟨⟨v0, r0⟩, ⟨v1, r1⟩, rz⟩ := HR.out
      have z0 := rz 0
      have z1 := rz 1
      have zr := cell_lt r0
      clear rz
      have HD := Lib.hid (Day_ok W1 HW.out HDT.out)
      generalize dayN y k d = dn at *
      go_wp2_with (first | (go_at_call 13; refine HD.out.mono ?_; rintro e w' ⟨rfl, rfl⟩) | (go_at_call 111; refine (index_any _ _ _ (by decide)).mono ?_; rintro e w' ⟨rfl, rfl⟩; first | rw [HT.out]))
      refine bodyPost_ret (v := .tuple #[.agg #[.int .i64 0, .int .i64 0], .int .i64 90]) (by simp [results, Tryz.results83, go_sem, r0, r1]) rfl ⟨rfl, ?_⟩
      exact (A0.out.setCell (p := ⟨w.heap.size + 1, _, none⟩) (Nat.le_succ _) _).setCell (p := ⟨w.heap.size + 1, _, none⟩) (Nat.le_succ _) _
    · rw [h2] at hn
      simp only [Bool.true_and] at hn
      unfold tB at h2
      have HT := Lib.hid h2
      clear h2
      cases h3 : miB mi
      · unfold miB at h3
        have HM := Lib.hid h3
        clear hn h3
        obtain ⟨hx, hr, hb⟩ := mom_start w y (k : Int) d h mi s
        unfold momW at hx hr hb
        obtain ⟨x0, x1, x2, x3, x4, x5⟩ := hx
        have HR := Lib.hid hr
        have A0 := Lib.hid hb
        have HW := Lib.hid (hw.below hb)
        clear hr hb hw
        go_enter Tryz.func83, Tryz.ntmps83
        go_upto_region 1 with fail
        generalize (w.alloc (.cells #[.int .i64 y, .int .i64 (k : Int), .int .i64 d, .int .i64 h, .int .i64 mi, .int .i64 s] 26)).alloc (.cells #[.int .i64 0, .int .i64 0] 136) = W1 at *
        have zx := cell_lt x0
        obtain ⟨⟨v0, r0⟩, ⟨v1, r1⟩, rz⟩ := HR.out
        have z0 := rz 0
        have z1 := rz 1
        have zr := cell_lt r0
        clear rz
        have HD := Lib.hid (Day_ok W1 HW.out HDT.out)
        generalize dayN y k d = dn at *
        go_wp2_with (first | (go_at_call 13; refine HD.out.mono ?_; rintro e w' ⟨rfl, rfl⟩) | (go_at_call 111; refine (index_any _ _ _ (by decide)).mono ?_; rintro e w' ⟨rfl, rfl⟩; first | rw [HT.out] | rw [HM.out]))
        refine bodyPost_ret (v := .tuple #[.agg #[.int .i64 0, .int .i64 0], .int .i64 90]) (by simp [results, Tryz.results83, go_sem, r0, r1]) rfl ⟨rfl, ?_⟩
        exact (A0.out.setCell (p := ⟨w.heap.size + 1, _, none⟩) (Nat.le_succ _) _).setCell (p := ⟨w.heap.size + 1, _, none⟩) (Nat.le_succ _) _
      · rw [h3] at hn
        simp only [Bool.true_and] at hn
        unfold miB at h3
        unfold sB at hn
        have HM := Lib.hid h3
        have HS := Lib.hid hn
        clear hn h3
        obtain ⟨hx, hr, hb⟩ := mom_start w y (k : Int) d h mi s
        unfold momW at hx hr hb
        obtain ⟨x0, x1, x2, x3, x4, x5⟩ := hx
        have HR := Lib.hid hr
        have A0 := Lib.hid hb
        have HW := Lib.hid (hw.below hb)
        clear hr hb hw
        go_enter Tryz.func83, Tryz.ntmps83
        go_upto_region 1 with fail
        generalize (w.alloc (.cells #[.int .i64 y, .int .i64 (k : Int), .int .i64 d, .int .i64 h, .int .i64 mi, .int .i64 s] 26)).alloc (.cells #[.int .i64 0, .int .i64 0] 136) = W1 at *
        have zx := cell_lt x0
        obtain ⟨⟨v0, r0⟩, ⟨v1, r1⟩, rz⟩ := HR.out
        have z0 := rz 0
        have z1 := rz 1
        have zr := cell_lt r0
        clear rz
        have HD := Lib.hid (Day_ok W1 HW.out HDT.out)
        generalize dayN y k d = dn at *
        go_wp2_with (first | (go_at_call 13; refine HD.out.mono ?_; rintro e w' ⟨rfl, rfl⟩) | (go_at_call 111; refine (index_any _ _ _ (by decide)).mono ?_; rintro e w' ⟨rfl, rfl⟩; first | rw [HT.out] | rw [HM.out]) | (go_at_call 67; refine (within_any _ _ _ _).mono ?_; rintro e w' ⟨rfl, rfl⟩; rw [HS.out]))
        refine bodyPost_ret (v := .tuple #[.agg #[.int .i64 0, .int .i64 0], .int .i64 90]) (by simp [results, Tryz.results83, go_sem, r0, r1]) rfl ⟨rfl, ?_⟩
        exact (A0.out.setCell (p := ⟨w.heap.size + 1, _, none⟩) (Nat.le_succ _) _).setCell (p := ⟨w.heap.size + 1, _, none⟩) (Nat.le_succ _) _
end Go.Proofs.YtgnfaemnehmgcaaGreatDoor.Cal
