/- Layer 9 (calendar): lists of numbers are compared. -/
import Derived.Test.YtnbccbjhnlggaaaDoorDn
namespace Go.Proofs.YtnbccbjhnlggaaaDoor.Cal
open Go Go.RowKit
attribute [local go_sem] Oper.semAt_some
def cmpI (x y : Int) : Int := if x < y then -1 else if y < x then 1 else 0
theorem isNaN_any (x : Int) (w : World) : Calls Tryd.prog 96 #[.int .i64 x] w fun e w' => e = .returned (.bool false) ∧ w = w' := by
  go_enter Tryd.func96, Tryd.ntmps96
  go_wp2_with fail
  go_ret
  exact ⟨by first | rfl | simp, rfl⟩
theorem cmp_any (x y : Int) (w : World) : Calls Tryd.prog 74 #[.int .i64 x, .int .i64 y] w fun e w' => e = .returned (.int .i64 (cmpI x y)) ∧ w = w' := by
  by_cases h1 : x < y
  · have HV := Lib.hid (show (-1 : Int) = cmpI x y by unfold cmpI; rw [if_pos h1])
    go_enter Tryd.func74, Tryd.ntmps74
    go_wp2_with (go_at_call 96; refine (isNaN_any _ _).mono ?_; rintro e w' ⟨rfl, rfl⟩)
    go_ret
    exact ⟨ret_i64 HV.out, rfl⟩
  · by_cases h2 : y < x
    · have HV := Lib.hid (show (1 : Int) = cmpI x y by unfold cmpI; rw [if_neg h1, if_pos h2])
      go_enter Tryd.func74, Tryd.ntmps74
      go_wp2_with (go_at_call 96; refine (isNaN_any _ _).mono ?_; rintro e w' ⟨rfl, rfl⟩)
      go_ret
      exact ⟨ret_i64 HV.out, rfl⟩
    · have HV := Lib.hid (show (0 : Int) = cmpI x y by unfold cmpI; rw [if_neg h1, if_neg h2])
      go_enter Tryd.func74, Tryd.ntmps74
      go_wp2_with (go_at_call 96; refine (isNaN_any _ _).mono ?_; rintro e w' ⟨rfl, rfl⟩)
      go_ret
      exact ⟨ret_i64 HV.out, rfl⟩
/-- the first difference of two lists, from place k on, m places left -/
def lexF (f g : Nat → Int) (k : Nat) : Nat → Int
  | 0 => 0
  | m + 1 => if cmpI (f k) (g k) = 0 then lexF f g (k + 1) m else cmpI (f k) (g k)
theorem compare_any (f g : Nat → Int) (n b o b' o' c c' : Nat) (w : World) (hf : FnAt w f n b o) (hg : FnAt w g n b' o') (hn : n ≤ 1000) (hn0 : 0 < n) :
    Calls Tryd.prog 44 #[.slice (some ⟨b, o, none⟩) n c, .slice (some ⟨b', o', none⟩) n c'] w fun e w' => e = .returned (.int .i64 (lexF f g 0 n)) ∧ w = w' := by
  obtain ⟨r, hr⟩ : ∃ r, lexF f g 0 n = r := ⟨_, rfl⟩
  rw [hr]
  have HR := Lib.hid hr
  have HF := Lib.hid hf
  have HG := Lib.hid hg
  clear hr hf hg
  go_enter Tryd.func44, Tryd.ntmps44
  go_wp2_with fail
  go_loopw [4, 5, 6, 7, 8, 11] (fun s4 s5 s6 s7 s8 s11 wr => ∃ (k m : Nat) (a5 a6 a7 a8 : Value), k + m = n ∧ s4 = .int .i64 0 ∧ s5 = a5 ∧ s6 = a6 ∧ s7 = a7 ∧ s8 = a8 ∧ s11 = .int .i64 (k : Int) ∧ Hid (lexF f g k m = r) ∧ wr = w) (fun _ _ _ _ _ s _ => n - (intOf s).toNat)
  case atStart => exact ⟨0, n, _, _, _, _, by omega, rfl, rfl, rfl, rfl, rfl, rfl, HR, rfl⟩
  case round =>
    obtain ⟨k, m, a5, a6, a7, a8, hkm, rfl, rfl, rfl, rfl, rfl, rfl, HL, rfl⟩ := hrel
    match m, hkm, HL with
    | 0, hkm, HL =>
      have hki : ¬ (k : Int) < n := by omega
      have HV := Lib.hid (show (0 : Int) = r from HL.out)
      go_wp2_with fail
      go_ret
      exact ⟨ret_i64 HV.out, rfl⟩
    | m + 1, hkm, HL =>
      have hki : (k : Int) < n := by omega
      have hki2 : ¬ (n : Int) ≤ k := by omega
      have vk : IntKind.i64.wrap ((k : Int) + 1) = (k : Int) + 1 := IntWalk.i64_in _ (by omega)
      have y0 := HF.out k (by omega)
      have y1 := HG.out k (by omega)
      have zy0 := cell_lt y0
      have zy1 := cell_lt y1
      have HC := Lib.hid (cmp_any (f k) (g k) wr)
      by_cases h0 : cmpI (f k) (g k) = 0
      · have HN := Lib.hid (show lexF f g (k + 1) m = r by have := HL.out; rw [lexF, if_pos h0] at this; exact this)
        rw [h0] at HC
        clear h0
        generalize f k = x at *
        generalize g k = y at *
        go_wp2_with (go_at_call 74; refine HC.out.mono ?_; rintro e w' ⟨rfl, rfl⟩)
        go_roundw
        case rel => exact ⟨k + 1, m, _, _, _, _, by omega, rfl, rfl, rfl, rfl, rfl, by simp, HN, by trivial⟩
        case measure => simp [intOf]; omega
      · have HN := Lib.hid (show cmpI (f k) (g k) = r by have := HL.out; rw [lexF, if_neg h0] at this; exact this)
        obtain ⟨cc, hcc⟩ : ∃ cc, cmpI (f k) (g k) = cc := ⟨_, rfl⟩
        rw [hcc] at HC h0 HN
        clear hcc
        generalize f k = x at *
        generalize g k = y at *
        go_wp2_with (go_at_call 74; refine HC.out.mono ?_; rintro e w' ⟨rfl, rfl⟩)
        go_ret
        exact ⟨ret_i64 HN.out, rfl⟩
end Go.Proofs.YtnbccbjhnlggaaaDoor.Cal
