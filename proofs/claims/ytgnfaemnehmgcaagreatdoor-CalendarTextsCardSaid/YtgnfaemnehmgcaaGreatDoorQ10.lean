/- Layer 9 (calendar): the offset and the first second of a day. -/
import Derived.Test.YtgnfaemnehmgcaaGreatDoorQ09
namespace Go.Proofs.YtgnfaemnehmgcaaGreatDoor.Cal
open Go Go.RowKit
attribute [local go_sem] Oper.semAt_some
set_option maxHeartbeats 1000000 in
theorem offset_any {b u : Int} {n : Nat} {f : Nat → Int × Int} (ht : TabOk b u n f) (d : Int) (c : Nat) (p : Option Addr) (w : World) (hs : LpIn w f n p) (hc : n ≤ c) (hcm : c ≤ maxLen) :
    Calls Tryz.prog 97 #[.agg #[.int .i64 b, .slice p n c, .int .i64 u], .int .i64 d] w fun e w' => e = .returned (.int .i64 (b + growS f n d)) ∧ Below w.heap.size w w' := by
  have A0 := below_alloc (Below.refl w.heap.size w) (.cells #[.int .i64 b, .slice p n c, .int .i64 u] 24)
  have HBX := Lib.hid (TBox.new w b u n c p 24)
  have HS := Lib.hid (hs.below A0)
  have A0 := Lib.hid A0
  obtain ⟨x0, x1, x2⟩ := HBX.out
  have HT := Lib.hid ht
  clear hs ht
  go_enter Tryz.func97, Tryz.ntmps97
  go_upto_region 1 with fail
  generalize w.alloc (.cells #[.int .i64 b, .slice p n c, .int .i64 u] 24) = W0 at *
  have zx := cell_lt x0
  have HBF := Lib.hid (before_any b u d n c p f W0 HS.out (by have := HT.out.n1; omega) hc hcm)
  go_wp2_with (go_at_call 73; refine HBF.out.mono ?_; rintro e w1 ⟨i, hi, rfl, h1, h2, hb1⟩; have H1 := Lib.hid h1; have H2 := Lib.hid h2; have HB1 := Lib.hid hb1; clear h1 h2 hb1)
  clear x0 x1 x2 zx
  have HG := Lib.hid (grow_sum (f := f) (d := d) H1.out n hi (fun j h1 h2 => by
    have hin : i < n := by omega
    by_cases e : i = j
    · subst e; exact H2.out hin
    · have := HT.out.o i j (by omega) h2
      have := H2.out hin
      omega))
  go_loopw [5, 7, 14] (fun s5 s7 s14 wr => ∃ (k : Nat) (a7 : Value), k ≤ i ∧ s5 = .int .i64 (b + sumS f k) ∧ s7 = a7 ∧ s14 = .int .i64 (k : Int) ∧ Hid (Below w1.heap.size w1 wr)) (fun _ _ s _ => i - (intOf s).toNat)
  case atStart => exact ⟨0, _, Nat.zero_le _, by simp [sumS], rfl, rfl, Lib.hid (Below.refl _ _)⟩
  case round =>
    obtain ⟨k, a7, hk, rfl, rfl, rfl, HB⟩ := hrel
    have hb1' := HT.out.b1
    have hb2' := HT.out.b2
    have hn1 := HT.out.n1
    have hsb := sumS_bd (f := f) k (fun j hj => HT.out.s j (by omega))
    by_cases hlt : k < i
    · have hki : (k : Int) < i := by omega
      have hst := HT.out.s k (by omega)
      have vk : IntKind.i64.wrap ((k : Int) + 1) = (k : Int) + 1 := IntWalk.i64_in _ (by omega)
      have vs : IntKind.i64.wrap (b + sumS f k + (f k).2) = b + sumS f k + (f k).2 := IntWalk.i64_in _ (by omega)
      obtain ⟨bb, oo, rfl, hsi⟩ := HS.out.resolve_left (by omega)
      obtain ⟨y0, y1⟩ := ((hsi.below HB1.out).below HB.out) k (by omega)
      have zy := cell_lt y0
      have hb2 := below_alloc (Below.refl wr.heap.size wr) (.cells #[.int .i64 (f k).1, .int .i64 (f k).2] 33)
      have q1 : (wr.alloc (.cells #[.int .i64 (f k).1, .int .i64 (f k).2] 33)).cell? ⟨wr.heap.size, 1, none⟩ = some (.int .i64 (f k).2) := by simp
      have HB2 := Lib.hid hb2
      have HE := Lib.hid (show b + sumS f k + (f k).2 = b + sumS f (k + 1) by rw [sumS]; omega)
      have HK := Lib.hid hlt
      clear hlt hsi hb2 hst hsb hb1' hb2' hn1
      generalize (f k).1 = dk at *
      generalize (f k).2 = sk at *
      generalize sumS f k = sm at *
      go_upto_region 5 with fail
      generalize wr.alloc (.cells #[.int .i64 dk, .int .i64 sk] 33) = W1 at *
      clear y0 y1 zy
      have zq := cell_lt q1
      go_wp2_with fail
      go_roundw
      case rel => exact ⟨k + 1, _, HK.out, by rw [HE.out], rfl, by simp, Lib.hid (bt HB.out HB2.out)⟩
      case measure => have := HK.out; simp [intOf]; omega
    · obtain rfl : k = i := by omega
      have hki : ¬ ((k : Int) < k) := by omega
      have HE := Lib.hid (show b + sumS f k = b + growS f n d by rw [HG.out])
      clear hlt
      generalize sumS f k = sm at *
      go_wp2_with fail
      go_ret
      exact ⟨ret_i64 HE.out, bt (bt A0.out HB1.out) HB.out⟩
set_option maxHeartbeats 1000000 in
theorem begin_any {b u : Int} {n : Nat} {f : Nat → Int × Int} (ht : TabOk b u n f) (d : Int) (c : Nat) (p : Option Addr) (w : World) (hs : LpIn w f n p) (hc : n ≤ c) (hcm : c ≤ maxLen) (hd : -1000000000000 ≤ d ∧ d ≤ 1000000000000) :
    Calls Tryz.prog 113 #[.agg #[.int .i64 b, .slice p n c, .int .i64 u], .int .i64 d] w fun e w' => e = .returned (.int .i64 (beginS f n d)) ∧ Below w.heap.size w w' := by
  have A0 := below_alloc (Below.refl w.heap.size w) (.cells #[.int .i64 b, .slice p n c, .int .i64 u] 24)
  have HBX := TBox.new w b u n c p 24
  obtain ⟨x0, x1, x2⟩ := HBX
  have HS := Lib.hid (hs.below A0)
  have A0 := Lib.hid A0
  have HT := Lib.hid ht
  have hgb := ht.grow_bd d
  have hb1 := ht.b1
  have hb2 := ht.b2
  have v1 : IntKind.i64.wrap (d - 41317) = d - 41317 := IntWalk.i64_in _ (by omega)
  have v2 : IntKind.i64.wrap (86400 * (d - 41317)) = 86400 * (d - 41317) := IntWalk.i64_in _ (by omega)
  have v3 : IntKind.i64.wrap (86400 * (d - 41317) + (b + growS f n d)) = 86400 * (d - 41317) + (b + growS f n d) := IntWalk.i64_in _ (by omega)
  have v4 : IntKind.i64.wrap (86400 * (d - 41317) + (b + growS f n d) - b) = 86400 * (d - 41317) + (b + growS f n d) - b := IntWalk.i64_in _ (by omega)
  have HE := Lib.hid (show 86400 * (d - 41317) + (b + growS f n d) - b = beginS f n d by unfold beginS; omega)
  clear hs ht hgb hb1 hb2 hd
  go_enter Tryz.func113, Tryz.ntmps113
  go_wp2_with fail
  generalize w.alloc (.cells #[.int .i64 b, .slice p n c, .int .i64 u] 24) = W0 at *
  have zx := cell_lt x0
  have HK := Lib.hid (show ∀ X, Below W0.heap.size W0 X → (fun w' => Below W0.heap.size W0 w' ∧ w'.cell? ⟨w.heap.size, 0, none⟩ = some (.int .i64 b) ∧ w'.cell? ⟨w.heap.size, 1, none⟩ = some (.slice p n c) ∧ w'.cell? ⟨w.heap.size, 2, none⟩ = some (.int .i64 u)) X from fun X h => ⟨h, cell_below h x0, cell_below h x1, cell_below h x2⟩)
  have HOF := Lib.hid (fun X (h : Below W0.heap.size W0 X) => (offset_any HT.out d c p X (HS.out.below h) hc hcm).mono (fun e w' (q : _ ∧ _) => (⟨q.1, bt h q.2⟩ : _ ∧ Below W0.heap.size W0 w')))
  generalize growS f n d = gs at *
  have HB0 := Lib.hid (Below.refl W0.heap.size W0)
  go_region_held3 (fun w' => Below W0.heap.size W0 w' ∧ w'.cell? ⟨w.heap.size, 0, none⟩ = some (.int .i64 b) ∧ w'.cell? ⟨w.heap.size, 1, none⟩ = some (.slice p n c) ∧ w'.cell? ⟨w.heap.size, 2, none⟩ = some (.int .i64 u))
    (exact HK.out _ (by first | assumption | exact HB0.out | exact Below.drew HB0.out))
    (first | (go_at_call 97; refine (HOF.out _ (by first | assumption | exact HB0.out | exact Below.drew HB0.out)).mono ?_; rintro e w2 ⟨rfl, hb2⟩))
  have HB2 := Lib.hid hb2
  clear hb2
  go_wp2
  go_ret
  exact ⟨ret_i64 HE.out, bt A0.out HB2.out⟩
end Go.Proofs.YtgnfaemnehmgcaaGreatDoor.Cal
