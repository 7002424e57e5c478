/- Layer 9 (calendar): zones: isOffset, CheckZone. -/
import Derived.Test.YtklhepgpepfgjaaDoorQ04
namespace Go.Proofs.YtklhepgpepfgjaaDoor.Cal
open Go Go.RowKit
attribute [local go_sem] Oper.semAt_some
/-- the first error of a list of steps -/
def firstE (g : Nat → Int) : Nat → Int
  | 0 => 0
  | k + 1 => if firstE g k = 0 then g k else firstE g k
theorem firstE_stop {g : Nat → Int} {k : Nat} (h : firstE g k ≠ 0) : ∀ n, k ≤ n → firstE g n = firstE g k
  | 0, hn => by
    have : k = 0 := by omega
    subst this; rfl
  | n + 1, hn => by
    by_cases e : k = n + 1
    · subst e; rfl
    · have i := firstE_stop h n (by omega)
      rw [firstE, i, if_neg h]
theorem firstE_at {g : Nat → Int} {k n : Nat} (hk : k < n) (h0 : firstE g k = 0) (h : g k ≠ 0) : firstE g n = g k := by
  have e : firstE g (k + 1) = g k := by rw [firstE, if_pos h0]
  rw [firstE_stop (k := k + 1) (by rw [e]; exact h) n hk, e]
def offB (x : Int) : Bool := decide (-1440 ≤ x) && decide (x ≤ 1440)
/-- where the change before stands -/
def prevZ (f : Nat → Int × Int) (k : Nat) : Int := if k = 0 then -1 else (f (k - 1)).1
/-- the error of one change -/
def chE (f : Nat → Int × Int) (k : Nat) : Int := if offB (f k).2 = true then if 0 ≤ (f k).1 then if prevZ f k < (f k).1 then 0 else 11 else 6 else 6
/-- the error of a zone -/
def zoneE (o : Int) (n : Nat) (f : Nat → Int × Int) : Int := if n ≤ 200 then if offB o = true then firstE (chE f) n else 6 else 2
/-- a zone in a box -/
structure ZBox (w : World) (a : Nat) (o : Int) (n c : Nat) (p : Option Addr) : Prop where
  c0 : w.cell? ⟨a, 0, none⟩ = some (.int .i64 o)
  c1 : w.cell? ⟨a, 1, none⟩ = some (.slice p n c)
theorem ZBox.below {w w' : World} {a : Nat} {o : Int} {n c : Nat} {p : Option Addr} (h : ZBox w a o n c p) (hb : Below w.heap.size w w') : ZBox w' a o n c p := ⟨cell_below hb h.c0, cell_below hb h.c1⟩
theorem ZBox.new (w : World) (o : Int) (n c : Nat) (p : Option Addr) (t : TypeId) : ZBox (w.alloc (.cells #[.int .i64 o, .slice p n c] t)) w.heap.size o n c p := ⟨by simp, by simp⟩
theorem isOffset_any (x : Int) (w : World) :
    Calls Tryd.prog 55 #[.int .i64 x] w fun e w' => e = .returned (.bool (offB x)) ∧ w = w' := by
  have HV := Lib.hid (show (decide (-1440 ≤ x) && decide (x ≤ 1440)) = offB x from rfl)
  go_enter Tryd.func55, Tryd.ntmps55
  go_wp2_with (go_at_call 48; refine (within_any _ _ _ _).mono ?_; rintro e w' ⟨rfl, rfl⟩)
  go_ret
  exact ⟨ret_bool HV.out, rfl⟩
set_option maxHeartbeats 1000000 in
theorem CheckZone_any (o : Int) (n c : Nat) (p : Option Addr) (f : Nat → Int × Int) (w : World) (hs : LpIn w f n p) (hn : n ≤ 1000000000000) :
    Calls Tryd.prog 19 #[.agg #[.int .i64 o, .slice p n c]] w fun e w' => e = .returned (.int .i64 (zoneE o n f)) ∧ Below w.heap.size w w' := by
  have A0 := below_alloc (Below.refl w.heap.size w) (.cells #[.int .i64 o, .slice p n c] 27)
  obtain ⟨x0, x1⟩ := ZBox.new w o n c p 27
  have HBX := Lib.hid (ZBox.new w o n c p 27)
  have HS := Lib.hid (hs.below A0)
  have A0 := Lib.hid A0
  clear hs
  by_cases h3 : n ≤ 200
  · have h3i : ¬ (200 : Int) < n := by omega
    cases h1 : offB o
    · have HV := Lib.hid (show zoneE o n f = 6 by unfold zoneE; rw [if_pos h3, h1]; rfl)
      have H1 := Lib.hid h1
      clear h1 h3
      rw [HV.out]
      go_enter Tryd.func19, Tryd.ntmps19
      go_wp2_with (go_at_call 55; refine (isOffset_any _ _).mono ?_; rintro e w' ⟨rfl, rfl⟩; rw [H1.out])
      go_ret
      exact ⟨rfl, A0.out⟩
    · have HV := Lib.hid (show zoneE o n f = firstE (chE f) n by unfold zoneE; rw [if_pos h3, if_pos h1])
      have H1 := Lib.hid h1
      have H3 := Lib.hid h3
      clear h1 h3
      rw [HV.out]
      go_enter Tryd.func19, Tryd.ntmps19
      go_wp2_with (go_at_call 55; refine (isOffset_any _ _).mono ?_; rintro e w' ⟨rfl, rfl⟩; rw [H1.out])
      generalize w.alloc (.cells #[.int .i64 o, .slice p n c] 27) = W0 at *
      go_loopw [2, 3, 5, 17, 21, 31] (fun s2 s3 s5 s17 s21 s31 wr => ∃ (k : Nat) (a5 a21 a31 : Value), k ≤ n ∧ s2 = .int .i64 0 ∧ s3 = .int .i64 (prevZ f k) ∧ s5 = a5 ∧ s17 = .int .i64 (k : Int) ∧ s21 = a21 ∧ s31 = a31 ∧ Hid (firstE (chE f) k = 0) ∧ Hid (Below W0.heap.size W0 wr)) (fun _ _ _ s _ _ _ => n - (intOf s).toNat)
      case atStart => exact ⟨0, _, _, _, Nat.zero_le _, rfl, rfl, rfl, rfl, rfl, rfl, Lib.hid rfl, Lib.hid (Below.refl _ _)⟩
      case round =>
        clear x0 x1
        obtain ⟨k, a5, a21, a31, hk, rfl, rfl, rfl, rfl, rfl, rfl, HL, HBW⟩ := hrel
        have hn3 := H3.out
        by_cases hlt : k < n
        · have hki : (k : Int) < n := by omega
          have vk : IntKind.i64.wrap ((k : Int) + 1) = (k : Int) + 1 := IntWalk.i64_in _ (by omega)
          obtain ⟨bb, oo, rfl, hsi⟩ := HS.out.resolve_left (by omega)
          obtain ⟨y0, y1⟩ := (hsi.below HBW.out) k hlt
          have zy := cell_lt y0
          have HEF : Hid (chE f k = if offB (f k).2 = true then if 0 ≤ (f k).1 then if prevZ f k < (f k).1 then 0 else 11 else 6 else 6) := Lib.hid rfl
          have HAT := Lib.hid (fun h => firstE_at (g := chE f) hlt HL.out h)
          have HSU := Lib.hid (show chE f k = 0 → firstE (chE f) (k + 1) = 0 from fun h => by rw [firstE, if_pos HL.out]; exact h)
          have HNX := Lib.hid (show (f k).1 = prevZ f (k + 1) by unfold prevZ; rw [if_neg (by omega), Nat.add_sub_cancel])
          have hb1 := below_alloc (Below.refl wr.heap.size wr) (.cells #[.int .i64 (f k).1, .int .i64 (f k).2] 58)
          have q0 : (wr.alloc (.cells #[.int .i64 (f k).1, .int .i64 (f k).2] 58)).cell? ⟨wr.heap.size, 0, none⟩ = some (.int .i64 (f k).1) := by simp
          have q1 : (wr.alloc (.cells #[.int .i64 (f k).1, .int .i64 (f k).2] 58)).cell? ⟨wr.heap.size, 1, none⟩ = some (.int .i64 (f k).2) := by simp
          have HB1 := Lib.hid hb1
          have HK := Lib.hid hlt
          clear hlt hsi hb1
          generalize (f k).1 = dk at *
          generalize (f k).2 = sk at *
          generalize prevZ f k = bk at *
          go_upto_region 9 with fail
          generalize wr.alloc (.cells #[.int .i64 dk, .int .i64 sk] 58) = W1 at *
          have zq := cell_lt q0
          clear y0 y1 zy
          cases cl : offB sk
          · have HE := Lib.hid (show (6 : Int) = firstE (chE f) n by
              have e : chE f k = 6 := by rw [HEF.out, cl]; rfl
              rw [HAT.out (by rw [e]; decide), e])
            have HCL := Lib.hid cl
            clear cl
            go_wp2_with (go_at_call 55; refine (isOffset_any _ _).mono ?_; rintro e w' ⟨rfl, rfl⟩; rw [HCL.out])
            go_ret
            exact ⟨ret_i64 HE.out, bt (bt A0.out HBW.out) HB1.out⟩
          · have HCL := Lib.hid cl
            clear cl
            by_cases hz : dk < 0
            · have HE := Lib.hid (show (6 : Int) = firstE (chE f) n by
                have e : chE f k = 6 := by rw [HEF.out, HCL.out, if_pos rfl, if_neg (by omega)]
                rw [HAT.out (by rw [e]; decide), e])
              go_wp2_with (go_at_call 55; refine (isOffset_any _ _).mono ?_; rintro e w' ⟨rfl, rfl⟩; rw [HCL.out])
              go_ret
              exact ⟨ret_i64 HE.out, bt (bt A0.out HBW.out) HB1.out⟩
            · by_cases ch : bk < dk
              · have HE := Lib.hid (show chE f k = 0 by rw [HEF.out, HCL.out, if_pos rfl, if_pos (by omega), if_pos ch])
                have hni : ¬ dk ≤ bk := by omega
                go_wp2_with (go_at_call 55; refine (isOffset_any _ _).mono ?_; rintro e w' ⟨rfl, rfl⟩; rw [HCL.out])
                go_roundw
                case rel => exact ⟨k + 1, _, _, _, HK.out, rfl, by rw [← HNX.out], rfl, by simp, rfl, rfl, Lib.hid (HSU.out HE.out), Lib.hid (bt HBW.out HB1.out)⟩
                case measure => have := HK.out; simp [intOf]; omega
              · have HE := Lib.hid (show (11 : Int) = firstE (chE f) n by
                  have e : chE f k = 11 := by rw [HEF.out, HCL.out, if_pos rfl, if_pos (by omega), if_neg ch]
                  rw [HAT.out (by rw [e]; decide), e])
                have hni : dk ≤ bk := by omega
                go_wp2_with (go_at_call 55; refine (isOffset_any _ _).mono ?_; rintro e w' ⟨rfl, rfl⟩; rw [HCL.out])
                go_ret
                exact ⟨ret_i64 HE.out, bt (bt A0.out HBW.out) HB1.out⟩
        · obtain rfl : k = n := by omega
          have hki : ¬ ((k : Int) < k) := by omega
          have HE := Lib.hid HL.out.symm
          generalize prevZ f k = bk at *
          go_wp2_with fail
          go_ret
          exact ⟨ret_i64 HE.out, bt A0.out HBW.out⟩
  · have h3i : (200 : Int) < n := by omega
    have HV := Lib.hid (show zoneE o n f = 2 by unfold zoneE; rw [if_neg h3])
    clear h3
    rw [HV.out]
    go_enter Tryd.func19, Tryd.ntmps19
    go_wp2_with fail
    go_ret
    exact ⟨rfl, A0.out⟩
end Go.Proofs.YtklhepgpepfgjaaDoor.Cal
