/- Layer 9 (calendar): moments; the first second of a day. -/
import Derived.Test.YtgnfaemnehmgcaaGreatDoorQ08
import Derived.Test.YtgnfaemnehmgcaaGreatDoorQ07
namespace Go.Proofs.YtgnfaemnehmgcaaGreatDoor.Cal
open Go Go.RowKit
attribute [local go_sem] Oper.semAt_some
theorem modulo_any (a b : Int) (w : World) (hb : 1 ≤ b ∧ b ≤ 9223372036854775807) :
    Calls Tryz.prog 87 #[.int .i64 a, .int .i64 b] w fun e w' => e = .returned (.int .i64 (a % b)) ∧ w = w' := by
  have hm := tmod_bd a b hb.1
  have hne : (b == 0) = false := by simp; omega
  have hnz : ¬ b = 0 := by omega
  have k2 : IntKind.i64.wrap (a.tmod b) = a.tmod b := IntWalk.i64_in _ (by omega)
  by_cases h : a.tmod b < 0
  · have H := Lib.hid (modulo_neg a b hb.1 h)
    have k3 : IntKind.i64.wrap (a.tmod b + b) = a.tmod b + b := IntWalk.i64_in _ (by omega)
    clear hm
    go_enter Tryz.func87, Tryz.ntmps87
    go_wp2
    go_ret
    exact ⟨ret_i64 H.out, rfl⟩
  · have H := Lib.hid (modulo_pos a b hb.1 h)
    clear hm
    go_enter Tryz.func87, Tryz.ntmps87
    go_wp2
    go_ret
    exact ⟨ret_i64 H.out, rfl⟩
theorem mday_any (m s : Int) (w : World) (hm : -9000000000000000000 ≤ m ∧ m ≤ 9000000000000000000) :
    Calls Tryz.prog 122 #[.agg #[.int .i64 m, .int .i64 s]] w fun e w' => e = .returned (.int .i64 (m / 1440)) ∧ Below w.heap.size w w' := by
  have A0 := Lib.hid (below_alloc (Below.refl w.heap.size w) (.cells #[.int .i64 m, .int .i64 s] 136))
  go_enter Tryz.func122, Tryz.ntmps122
  go_wp2_with (go_at_call 86; refine (floor_any _ _ _ hm (by decide)).mono ?_; rintro e w' ⟨rfl, rfl⟩)
  go_ret
  exact ⟨rfl, A0.out⟩
theorem mofday_any (m s : Int) (w : World) :
    Calls Tryz.prog 134 #[.agg #[.int .i64 m, .int .i64 s]] w fun e w' => e = .returned (.int .i64 (m % 1440)) ∧ Below w.heap.size w w' := by
  have A0 := Lib.hid (below_alloc (Below.refl w.heap.size w) (.cells #[.int .i64 m, .int .i64 s] 136))
  go_enter Tryz.func134, Tryz.ntmps134
  go_wp2_with (go_at_call 87; refine (modulo_any _ _ _ (by decide)).mono ?_; rintro e w' ⟨rfl, rfl⟩)
  go_ret
  exact ⟨rfl, A0.out⟩
set_option maxHeartbeats 1000000 in
theorem before_any (b u d : Int) (n c : Nat) (p : Option Addr) (f : Nat → Int × Int) (w : World) (hs : LpIn w f n p) (hn : n ≤ 1000) (hc : n ≤ c) (hcm : c ≤ maxLen) :
    Calls Tryz.prog 73 #[.agg #[.int .i64 b, .slice p n c, .int .i64 u], .int .i64 d] w fun e w' => ∃ i : Nat, i ≤ n ∧ e = .returned (.slice p i c) ∧ (∀ j, j < i → (f j).1 < d) ∧ (i < n → d ≤ (f i).1) ∧ Below w.heap.size w w' := by
  have A0 := below_alloc (Below.refl w.heap.size w) (.cells #[.int .i64 b, .slice p n c, .int .i64 u] 24)
  have HBX := Lib.hid (TBox.new w b u n c p 24)
  have HS := Lib.hid (hs.below A0)
  have A0 := Lib.hid A0
  obtain ⟨x0, x1, x2⟩ := HBX.out
  unfold maxLen at hcm
  clear hs
  go_enter Tryz.func73, Tryz.ntmps73
  go_upto_region 1 with fail
  generalize w.alloc (.cells #[.int .i64 b, .slice p n c, .int .i64 u] 24) = W0 at *
  have zx := cell_lt x0
  go_wp2_with fail
  clear x0 x1 x2 zx
  go_loopw [4, 5, 6, 10] (fun s4 s5 s6 s10 wr => ∃ (k : Nat) (a5 a6 : Value), k ≤ n ∧ s4 = .slice none 0 0 ∧ s5 = a5 ∧ s6 = a6 ∧ s10 = .int .i64 (k : Int) ∧ Hid (∀ j, j < k → (f j).1 < d) ∧ Hid (Below W0.heap.size W0 wr)) (fun _ _ _ s _ => n - (intOf s).toNat)
  case atStart => exact ⟨0, _, _, Nat.zero_le _, rfl, rfl, rfl, rfl, Lib.hid (fun j hj => absurd hj (Nat.not_lt_zero _)), Lib.hid (Below.refl _ _)⟩
  case round =>
    obtain ⟨k, a5, a6, hk, rfl, rfl, rfl, rfl, HL, HB⟩ := hrel
    obtain ⟨x0, x1, x2⟩ := HBX.out.below HB.out
    have zx := cell_lt x0
    by_cases hlt : k < n
    · have hki : (k : Int) < n := by omega
      have vk : IntKind.i64.wrap ((k : Int) + 1) = (k : Int) + 1 := IntWalk.i64_in _ (by omega)
      obtain ⟨bb, oo, rfl, hsi⟩ := HS.out.resolve_left (by omega)
      obtain ⟨y0, y1⟩ := (hsi.below HB.out) k hlt
      have zy := cell_lt y0
      have hb1 := below_alloc (Below.refl wr.heap.size wr) (.cells #[.int .i64 (f k).1, .int .i64 (f k).2] 33)
      have q0 : (wr.alloc (.cells #[.int .i64 (f k).1, .int .i64 (f k).2] 33)).cell? ⟨wr.heap.size, 0, none⟩ = some (.int .i64 (f k).1) := by simp
      have HB1 := Lib.hid hb1
      have HBB := Lib.hid ((HBX.out.below HB.out).below hb1)
      have HK := Lib.hid hlt
      have HFK := Lib.hid (show (f k).1 = (f k).1 from rfl)
      obtain ⟨dk, hdk⟩ : ∃ dk, (f k).1 = dk := ⟨_, rfl⟩
      have HDK := Lib.hid hdk
      rw [hdk] at y0 q0
      rw [hdk] at HB1 HBB
      clear hlt hsi hb1 HFK
      go_upto_region 4 with fail
      clear hdk x0 x1 x2 zx y0 y1 zy
      generalize wr.alloc (.cells #[.int .i64 dk, .int .i64 (f k).2] 33) = W1 at *
      have zq := cell_lt q0
      obtain ⟨x0, x1, x2⟩ := HBB.out
      have zx := cell_lt x0
      have hkc : (k : Int) ≤ c := by omega
      by_cases hge : d ≤ dk
      · go_wp2_with fail
        go_ret
        exact ⟨k, hk, rfl, HL.out, fun _ => by rw [HDK.out]; exact hge, bt (bt A0.out HB.out) HB1.out⟩
      · have HLT := Lib.hid (show dk < d by omega)
        go_wp2_with fail
        go_roundw
        case rel => exact ⟨k + 1, _, _, HK.out, rfl, rfl, rfl, by simp, Lib.hid (fun j hj => by
          by_cases e : j = k
          · subst e; rw [HDK.out]; exact HLT.out
          · exact HL.out j (by omega)), Lib.hid (bt HB.out HB1.out)⟩
        case measure => have := HK.out; simp [intOf]; omega
    · obtain rfl : k = n := by omega
      have hki : ¬ ((k : Int) < k) := by omega
      clear hlt
      go_wp2_with fail
      go_ret
      exact ⟨k, Nat.le_refl _, rfl, HL.out, fun h => absurd h (Nat.lt_irrefl _), bt A0.out HB.out⟩
end Go.Proofs.YtgnfaemnehmgcaaGreatDoor.Cal
