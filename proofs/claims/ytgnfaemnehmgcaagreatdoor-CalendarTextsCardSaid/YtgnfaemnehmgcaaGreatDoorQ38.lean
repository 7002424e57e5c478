/- Layer 9 (calendar): read and Parse of a text that is no date. (by gen_vi.py) -/
import Derived.Test.YtgnfaemnehmgcaaGreatDoorQ37
namespace Go.Proofs.YtgnfaemnehmgcaaGreatDoor.Cal
open Go Go.RowKit
attribute [local go_sem] Oper.semAt_some
theorem fits_no_digit (c : Int) (w : World) (h : ¬ (48 ≤ c ∧ c ≤ 57)) :
    Calls Tryz.prog 131 #[.int .u8 c, .int .u8 48] w fun e w' => e = .returned (.bool false) ∧ w = w' := by
  by_cases h1 : 48 ≤ c
  · have h2 : ¬ c ≤ 57 := fun g => h ⟨h1, g⟩
    clear h
    go_enter Tryz.func131, Tryz.ntmps131
    go_wp2
    go_ret
    exact ⟨rfl, rfl⟩
  · clear h
    go_enter Tryz.func131, Tryz.ntmps131
    go_wp2
    go_ret
    exact ⟨rfl, rfl⟩
theorem fits_no_sign (c p : Int) (w : World) (h : ¬ p = 48) (hc : ¬ c = p) :
    Calls Tryz.prog 131 #[.int .u8 c, .int .u8 p] w fun e w' => e = .returned (.bool false) ∧ w = w' := by
  have hb : (p == 48) = false := by simpa using h
  have hb2 : (c == p) = false := by simpa using hc
  go_enter Tryz.func131, Tryz.ntmps131
  go_wp2
  go_ret
  exact ⟨rfl, rfl⟩
theorem fits_not (c p : Int) (w : World) (h : ¬ Fits c p) :
    Calls Tryz.prog 131 #[.int .u8 c, .int .u8 p] w fun e w' => e = .returned (.bool false) ∧ w = w' := by
  by_cases hp : p = 48
  · subst hp
    exact fits_no_digit c w fun g => h (.inl ⟨rfl, g.1, g.2⟩)
  · exact fits_no_sign c p w hp fun g => h (.inr ⟨hp, g⟩)
set_option maxRecDepth 100000 in
set_option maxHeartbeats 4000000 in
theorem read_size (S : ByteArray) (hz : S.size ≠ 19) (w : World) :
    Calls Tryz.prog 77 #[.string S] w fun e w' => e = .panicked [{ v := .iface 50 (.int .i64 3), recovered := false }] ∧ Below w.heap.size w w' := by
  have hzq : ((S.size : Int) == 19) = false := beq_eq_false_iff_ne.2 (by omega)
  have hzn : ¬ (S.size : Int) = 19 := by omega
  have hmf : ∀ (fn : Fn) (first cap : Array Value) (w : World), (Instr.makeFunc fn first cap).run Tryz.prog w = .ok (.func fn first cap) w := fun _ _ _ _ => rfl
  have HR := Lib.hid (rd_new w S)
  go_enter Tryz.func77, Tryz.ntmps77
  go_upto_region 1 with fail
  generalize (w.alloc (.cells #[.string S] 9)).alloc (.cells #[.int .i64 0, .int .i64 0, .int .i64 0, .int .i64 0, .int .i64 0, .int .i64 0] 26) = W1 at *
  have c0 := HR.out.c
  have zc := cell_lt c0
  go_wp2_with fail
  exact ⟨rfl, rfl, HR.out.b⟩
/-- the byte j is as the pattern asks -/
def FitAt (S : ByteArray) (j : Nat) : Prop := Fits (((S.data.toList[j]?.getD 0 : UInt8).toNat : Int)) (((patL[j]?.getD 0 : UInt8).toNat : Int))
set_option maxRecDepth 100000 in
set_option maxHeartbeats 4000000 in
theorem read_bad (S : ByteArray) (hz : S.size = 19) (i0 : Nat) (hi0 : i0 < 19) (hfit : ∀ j, j < i0 → FitAt S j) (hno : ¬ FitAt S i0) (w : World) :
    Calls Tryz.prog 77 #[.string S] w fun e w' => e = .panicked [{ v := .iface 50 (.int .i64 3), recovered := false }] ∧ Below w.heap.size w w' := by
  have hzi : (S.size : Int) = 19 := by omega
  have hmf : ∀ (fn : Fn) (first cap : Array Value) (w : World), (Instr.makeFunc fn first cap).run Tryz.prog w = .ok (.func fn first cap) w := fun _ _ _ _ => rfl
  have HF := Lib.hid hfit
  have HN := Lib.hid hno
  have HR := Lib.hid (rd_new w S)
  have HI := Lib.hid hi0
  clear hfit hno hi0
  go_enter Tryz.func77, Tryz.ntmps77
  go_upto_region 1 with fail
  generalize (w.alloc (.cells #[.string S] 9)).alloc (.cells #[.int .i64 0, .int .i64 0, .int .i64 0, .int .i64 0, .int .i64 0, .int .i64 0] 26) = W1 at *
  have c0 := HR.out.c
  have zc := cell_lt c0
  go_upto_region 4 with fail
  clear c0 zc
  go_loopw [3, 9] (fun s3 s9 wr => ∃ (j : Nat) (v3 : Value), j ≤ i0 ∧ s3 = v3 ∧ s9 = .int .i64 (j : Int) ∧ Hid (RdBox w wr S)) (fun _ s _ => 19 - (intOf s).toNat)
  case atStart => exact ⟨0, _, Nat.zero_le _, rfl, rfl, HR⟩
  case round =>
    clear HR
    obtain ⟨j, v3, hj, rfl, rfl, HR⟩ := hrel
    have h19 := HI.out
    have hki : (j : Int) < 19 := by omega
    have vk : IntKind.i64.wrap ((j : Int) + 1) = (j : Int) + 1 := IntWalk.i64_in _ (by omega)
    have hjS : j < S.size := by omega
    by_cases hlt : j < i0
    · have HFJ := Lib.hid (show ∀ (h1 : j < S.size) (h2 : j < (⟨#[48, 48, 48, 48, 45, 48, 48, 45, 48, 48, 32, 48, 48, 58, 48, 48, 58, 48, 48]⟩ : ByteArray).size), Fits ((S[j]'h1).toNat : Int) (((⟨#[48, 48, 48, 48, 45, 48, 48, 45, 48, 48, 32, 48, 48, 58, 48, 48, 58, 48, 48]⟩ : ByteArray)[j]'h2).toNat : Int) from fun h1 h2 => by
        rw [byte_at S j h1, byte_at _ j h2]
        exact HF.out j hlt)
      have HK := Lib.hid hlt
      have c0 := HR.out.c
      have zc := cell_lt c0
      clear hlt hj h19
      go_upto_region 6 with fail
      go_region_with (go_at_call 131; refine (fits_any _ _ _ (HFJ.out _ _)).mono ?_; rintro e w' ⟨rfl, rfl⟩)
      all_goals (try go_wp2_with fail)
      all_goals exact ⟨⟨j + 1, _, HK.out, rfl, by simp, Lib.hid (HR.out.below (Below.drew (Below.refl _ _)))⟩, by have := HK.out; have := HI.out; simp [intOf]; omega⟩
    · obtain rfl : j = i0 := by omega
      have HFJ := Lib.hid (show ∀ (h1 : j < S.size) (h2 : j < (⟨#[48, 48, 48, 48, 45, 48, 48, 45, 48, 48, 32, 48, 48, 58, 48, 48, 58, 48, 48]⟩ : ByteArray).size), ¬ Fits ((S[j]'h1).toNat : Int) (((⟨#[48, 48, 48, 48, 45, 48, 48, 45, 48, 48, 32, 48, 48, 58, 48, 48, 58, 48, 48]⟩ : ByteArray)[j]'h2).toNat : Int) from fun h1 h2 => by
        rw [byte_at S j h1, byte_at _ j h2]
        exact HN.out)
      clear hlt hj HF h19
      have c0 := HR.out.c
      have zc := cell_lt c0
      go_upto_region 6 with fail
      go_region_with (go_at_call 131; refine (fits_not _ _ _ (HFJ.out _ _)).mono ?_; rintro e w' ⟨rfl, rfl⟩)
      all_goals (try go_wp2_with fail)
      all_goals exact ⟨rfl, rfl, bt HR.out.b (Below.drew (Below.refl _ _))⟩
theorem catch_hit (p q : Nat) (pv : Value) (w : World) (hd : Res6 w p) (he : ∃ v, w.cell? ⟨q, 0, none⟩ = some v) (hz : w.frozen? ⟨q, 0, none⟩ = false) (hpq : ¬ p = q) :
    CallsD Tryz.prog 76 #[.pointer (some ⟨p, 0, none⟩), .pointer (some ⟨q, 0, none⟩)] (.panicking [{ v := .iface 50 pv, recovered := false }]) w fun e u' w' => e = .returned (.tuple #[]) ∧ u' = .panicking [{ v := .iface 50 pv, recovered := true }] ∧ w' = (((((((w.setCell ⟨p, 0, none⟩ (.int .i64 0)).setCell ⟨p, 1, none⟩ (.int .i64 0)).setCell ⟨p, 2, none⟩ (.int .i64 0)).setCell ⟨p, 3, none⟩ (.int .i64 0)).setCell ⟨p, 4, none⟩ (.int .i64 0)).setCell ⟨p, 5, none⟩ (.int .i64 0)).setCell ⟨q, 0, none⟩ (.int .i64 3)) := by
  obtain ⟨⟨v0, r0⟩, ⟨v1, r1⟩, ⟨v2, r2⟩, ⟨v3, r3⟩, ⟨v4, r4⟩, ⟨v5, r5⟩, rz⟩ := hd
  have z0 := rz 0
  have z1 := rz 1
  have z2 := rz 2
  have z3 := rz 3
  have z4 := rz 4
  have z5 := rz 5
  obtain ⟨ve, e0⟩ := he
  have zp := cell_lt r0
  have zq := cell_lt e0
  refine callsD_of_wpS Tryz.func76 rfl fun c₀ cs hu => ?_
  apply wpS_seq
  apply wpS_region
  simp [wpOpsS, go_sem, recoverD, hu, Tryz.ntmps76, Exit.thenS]
  refine wpS_cond (t := true) (by simp [Act.eval, Array.replicate]) ?_
  simp only [if_true]
  apply wpS_region
  simp [wpOpsS, go_sem, r0, r1, r2, r3, r4, r5, z0, z1, z2, z3, z4, z5, e0, hz, bodyPostS, results, Tryz.results76]
theorem Parse_bad (S : ByteArray) (hR : ∀ X, Calls Tryz.prog 77 #[.string S] X fun e w' => e = .panicked [{ v := .iface 50 (.int .i64 3), recovered := false }] ∧ Below X.heap.size X w') (w : World) :
    Calls Tryz.prog 21 #[.string S] w fun e w' => e = .returned (.tuple #[.agg #[.int .i64 0, .int .i64 0, .int .i64 0, .int .i64 0, .int .i64 0, .int .i64 0], .int .i64 3]) ∧ Below w.heap.size w w' := by
  have hmf : ∀ (fn : Fn) (first cap : Array Value) (w : World), (Instr.makeFunc fn first cap).run Tryz.prog w = .ok (.func fn first cap) w := fun _ _ _ _ => rfl
  have HR := Lib.hid hR
  have HP := Lib.hid (ps_new w)
  clear hR
  go_enter_defers Tryz.func21, Tryz.ntmps21
  go_upto_region 1 with fail
  generalize (w.alloc (.cells #[.int .i64 0, .int .i64 0, .int .i64 0, .int .i64 0, .int .i64 0, .int .i64 0] 26)).alloc (.cells #[.int .i64 0] 50) = W1 at *
  go_wp2_with (go_at_call 77; refine (HR.out _).mono ?_; rintro e w2 ⟨rfl, hb⟩; have HP2 := Lib.hid (HP.out.below hb); clear hb)
  refine leaves_cons (f := 76) (args := #[.pointer (some ⟨w.heap.size, 0, none⟩), .pointer (some ⟨w.heap.size + 1, 0, none⟩)]) (by simp) (by simp [go_sem]) ?_
  refine (catch_hit w.heap.size (w.heap.size + 1) _ _ HP2.out.d HP2.out.e HP2.out.z (by omega)).mono ?_
  rintro e u' w'' ⟨rfl, rfl, rfl⟩
  obtain ⟨⟨v0, r0⟩, ⟨v1, r1⟩, ⟨v2, r2⟩, ⟨v3, r3⟩, ⟨v4, r4⟩, ⟨v5, r5⟩, rz⟩ := HP2.out.d
  have zr := cell_lt r0
  obtain ⟨ve, e0⟩ := HP2.out.e
  have st : ∀ (X : World) (i o : Nat) (v : Value), w.heap.size ≤ i → Below w.heap.size w X → Below w.heap.size w (X.setCell ⟨i, o, none⟩ v) := fun X i o v h hb => hb.setCell (p := ⟨i, o, none⟩) h _
  have HBB := Lib.hid (st _ (w.heap.size + 1) 0 (.int .i64 3) (by omega) (st _ _ 5 (.int .i64 0) (Nat.le_refl _) (st _ _ 4 (.int .i64 0) (Nat.le_refl _) (st _ _ 3 (.int .i64 0) (Nat.le_refl _) (st _ _ 2 (.int .i64 0) (Nat.le_refl _) (st _ _ 1 (.int .i64 0) (Nat.le_refl _) (st _ _ 0 (.int .i64 0) (Nat.le_refl _) HP2.out.b)))))))
  simp [Leaves, settle, results, Tryz.results21, go_sem, r0, r1, r2, r3, r4, r5, e0]
  exact HBB.out
end Go.Proofs.YtgnfaemnehmgcaaGreatDoor.Cal
