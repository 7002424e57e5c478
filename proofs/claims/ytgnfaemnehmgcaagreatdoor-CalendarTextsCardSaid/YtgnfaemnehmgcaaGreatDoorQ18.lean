/- Layer 9 (calendar): tables that are compared (kept). -/
import Derived.Test.YtgnfaemnehmgcaaGreatDoorQ17
namespace Go.Proofs.YtgnfaemnehmgcaaGreatDoor.Cal
open Go Go.RowKit
attribute [local go_sem] Oper.semAt_some
set_option maxHeartbeats 1000000 in
theorem equalL_yes (f : Nat → Int × Int) (n c1 c2 : Nat) (p q : Option Addr) (w : World) (hn : n ≤ 1000000000) (h1 : LpIn w f n p) (h2 : LpIn w f n q) :
    Calls Tryz.prog 72 #[.slice p n c1, .slice q n c2] w fun e w' => e = .returned (.bool true) ∧ Below w.heap.size w w' := by
  have H1 := Lib.hid h1
  have H2 := Lib.hid h2
  clear h1 h2
  go_enter Tryz.func72, Tryz.ntmps72
  go_wp2_with fail
  go_loopw [4, 5, 13] (fun s4 s5 s13 wr => ∃ (k : Nat) (v5 : Value), k ≤ n ∧ s4 = .bool false ∧ s5 = v5 ∧ s13 = .int .i64 (k : Int) ∧ Hid (Below w.heap.size w wr)) (fun _ _ s _ => n - (intOf s).toNat)
  case atStart => exact ⟨0, _, Nat.zero_le _, rfl, rfl, rfl, Lib.hid (Below.refl _ _)⟩
  case round =>
    obtain ⟨k, v5, hk, rfl, rfl, rfl, HB⟩ := hrel
    by_cases hlt : k < n
    · have hki : (k : Int) < n := by omega
      have vk : IntKind.i64.wrap ((k : Int) + 1) = (k : Int) + 1 := IntWalk.i64_in _ (by omega)
      obtain ⟨b1, o1, rfl, hi1⟩ := H1.out.resolve_left (by omega)
      obtain ⟨b2, o2, rfl, hi2⟩ := H2.out.resolve_left (by omega)
      obtain ⟨x1, x2⟩ := (hi1.below HB.out) k hlt
      obtain ⟨y1, y2⟩ := (hi2.below HB.out) k hlt
      have z1 := cell_lt x1
      have z2 := cell_lt y1
      have HK := Lib.hid hlt
      clear hlt hi1 hi2
      generalize (f k).1 = dk at *
      generalize (f k).2 = sk at *
      go_wp2_with fail
      go_quiet (fail)
      go_wp2_with fail
      go_roundw
      case rel => exact ⟨k + 1, _, HK.out, rfl, rfl, by simp, Lib.hid (below_drewN HB.out _)⟩
      case measure => have := HK.out; simp [intOf]; omega
    · obtain rfl : k = n := by omega
      have hki : ¬ ((k : Int) < k) := by omega
      clear hlt
      go_wp2_with fail
      go_ret
      exact ⟨rfl, HB.out⟩
theorem kept_yes (b u : Int) (f : Nat → Int × Int) (n c1 c2 : Nat) (p q : Option Addr) (w : World) (hn : n ≤ 1000000000) (h1 : LpIn w f n p) (h2 : LpIn w f n q) :
    Calls Tryz.prog 18 #[.agg #[.int .i64 b, .slice p n c1, .int .i64 u], .agg #[.int .i64 b, .slice q n c2, .int .i64 u]] w fun e w' => e = .returned (.bool true) ∧ Below w.heap.size w w' := by
  have b1 := below_alloc (Below.refl w.heap.size w) (.cells #[.int .i64 b, .slice p n c1, .int .i64 u] 24)
  have t1 := TBox.new w b u n c1 p 24
  have e1 : (w.alloc (.cells #[.int .i64 b, .slice p n c1, .int .i64 u] 24)).heap.size = w.heap.size + 1 := by simp
  have b2 := below_alloc (Below.refl (w.alloc (.cells #[.int .i64 b, .slice p n c1, .int .i64 u] 24)).heap.size (w.alloc (.cells #[.int .i64 b, .slice p n c1, .int .i64 u] 24))) (.cells #[.int .i64 b, .slice q n c2, .int .i64 u] 24)
  have t2 := TBox.new (w.alloc (.cells #[.int .i64 b, .slice p n c1, .int .i64 u] 24)) b u n c2 q 24
  rw [e1] at t2
  obtain ⟨x0, x1, x2⟩ := t1.below b2
  obtain ⟨y0, y1, y2⟩ := t2
  have A0 := bt b1 b2
  have HEQ := Lib.hid (equalL_yes f n c1 c2 p q _ hn (h1.below A0) (h2.below A0))
  have A0 := Lib.hid A0
  clear b1 b2 t1 e1 h1 h2
  go_enter Tryz.func18, Tryz.ntmps18
  go_upto_region 1 with fail
  generalize (w.alloc (.cells #[.int .i64 b, .slice p n c1, .int .i64 u] 24)).alloc (.cells #[.int .i64 b, .slice q n c2, .int .i64 u] 24) = W1 at *
  have zx := cell_lt x0
  have zy := cell_lt y0
  go_wp2_with (go_at_call 72; refine HEQ.out.mono ?_; rintro e w2 ⟨rfl, hb2⟩; have HB2 := Lib.hid hb2; clear hb2)
  go_ret
  exact ⟨rfl, bt A0.out HB2.out⟩
end Go.Proofs.YtgnfaemnehmgcaaGreatDoor.Cal
