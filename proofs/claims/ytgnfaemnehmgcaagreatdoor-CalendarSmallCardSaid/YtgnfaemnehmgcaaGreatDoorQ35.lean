/-  ·  ·  -/
import Derived.Test.YtgnfaemnehmgcaaGreatDoorQ32
import Derived.Test.YtgnfaemnehmgcaaGreatDoorQ34
namespace Go.Proofs.YtgnfaemnehmgcaaGreatDoor.Cal
open Go Go.RowKit
attribute [local go_sem] Oper.semAt_some
theorem catch_idle (p q : Addr) (w : World) :
    CallsD Tryz.prog 76 #[.pointer (some p), .pointer (some q)] .returning w fun e u' w' => e = .returned (.tuple #[]) ∧ u' = .returning ∧ w' = w := by
  refine callsD_of_wpS Tryz.func76 rfl fun c₀ cs hu => ?_
  apply wpS_seq
  apply wpS_region
  simp [wpOpsS, go_sem, recoverD, hu, Tryz.ntmps76, Exit.thenS]
  refine wpS_cond (t := false) (by simp [Act.eval, Array.replicate]) ?_
  simp only [Bool.false_eq_true, if_false]
  refine wpS_of_wp (wp_skip ?_)
  cases c₀
  simp_all [bodyPostS, results, Tryz.results76]
structure PsBox (w X : World) : Prop where
  d : Res6 X w.heap.size
  e : ∃ v, X.cell? ⟨w.heap.size + 1, 0, none⟩ = some v
  z : X.frozen? ⟨w.heap.size + 1, 0, none⟩ = false
  b : Below w.heap.size w X
theorem PsBox.below {w X Y : World} (h : PsBox w X) (hb : Below X.heap.size X Y) : PsBox w Y :=
  ⟨h.d.below hb, h.e.imp fun _ e => cell_below hb e, (hb.frozen (p := ⟨w.heap.size + 1, 0, none⟩) (cell_lt h.e.choose_spec)).trans h.z, bt h.b hb⟩
theorem ps_new (w : World) : PsBox w ((w.alloc (.cells #[.int .i64 0, .int .i64 0, .int .i64 0, .int .i64 0, .int .i64 0, .int .i64 0] 26)).alloc (.cells #[.int .i64 0] 50)) := by
  have b1 := below_alloc (Below.refl w.heap.size w) (.cells #[.int .i64 0, .int .i64 0, .int .i64 0, .int .i64 0, .int .i64 0, .int .i64 0] 26)
  have h1 := Res6.new w (.int .i64 0) (.int .i64 0) (.int .i64 0) (.int .i64 0) (.int .i64 0) (.int .i64 0) 26
  have e1 : (w.alloc (.cells #[.int .i64 0, .int .i64 0, .int .i64 0, .int .i64 0, .int .i64 0, .int .i64 0] 26)).heap.size = w.heap.size + 1 := by simp
  generalize w.alloc (.cells #[.int .i64 0, .int .i64 0, .int .i64 0, .int .i64 0, .int .i64 0, .int .i64 0] 26) = W1 at *
  have b2 := below_alloc (Below.refl W1.heap.size W1) (.cells #[.int .i64 0] 50)
  have h2 : (W1.alloc (.cells #[.int .i64 0] 50)).cell? ⟨W1.heap.size, 0, none⟩ = some (.int .i64 0) := by simp
  have h3 : (W1.alloc (.cells #[.int .i64 0] 50)).frozen? ⟨W1.heap.size, 0, none⟩ = false := by simp
  rw [e1] at h2 h3
  exact ⟨h1.below b2, ⟨_, h2⟩, h3, bt b1 b2⟩
set_option maxRecDepth 100000 in
set_option maxHeartbeats 4000000 in
theorem Parse_gen (S : ByteArray) (y k d h m s : Nat) (hy : y < 10000) (hk : k < 100) (hd : d < 100) (hh : h < 100) (hm : m < 100) (hs : s < 100) (hS : S.data.toList = fmtL y k d h m s) (w : World) :
    Calls Tryz.prog 21 #[.string S] w fun e w' => e = .returned (.tuple #[.agg #[.int .i64 (y : Int), .int .i64 (k : Int), .int .i64 (d : Int), .int .i64 (h : Int), .int .i64 (m : Int), .int .i64 (s : Int)], .int .i64 0]) ∧ Below w.heap.size w w' := by
  have hmf : ∀ (fn : Fn) (first cap : Array Value) (w : World), (Instr.makeFunc fn first cap).run Tryz.prog w = .ok (.func fn first cap) w := fun _ _ _ _ => rfl
  have HR := Lib.hid (fun X => read_gen S y k d h m s hy hk hd hh hm hs hS X)
  have HP := Lib.hid (ps_new w)
  clear hS
  generalize (y : Int) = yi at *
  generalize (k : Int) = ki at *
  generalize (d : Int) = di at *
  generalize (h : Int) = hi at *
  generalize (m : Int) = mi at *
  generalize (s : Int) = si at *
  go_enter_defers Tryz.func21, Tryz.ntmps21
  go_upto_region 1 with fail
  generalize (w.alloc (.cells #[.int .i64 0, .int .i64 0, .int .i64 0, .int .i64 0, .int .i64 0, .int .i64 0] 26)).alloc (.cells #[.int .i64 0] 50) = W1 at *
  go_wp2_with (go_at_call 77; refine (HR.out _).mono ?_; rintro e w2 ⟨rfl, hb⟩; have HP2 := Lib.hid (HP.out.below hb); clear hb; obtain ⟨⟨v0, r0⟩, ⟨v1, r1⟩, ⟨v2, r2⟩, ⟨v3, r3⟩, ⟨v4, r4⟩, ⟨v5, r5⟩, rz⟩ := HP2.out.d; have z0 := rz 0; have z1 := rz 1; have z2 := rz 2; have z3 := rz 3; have z4 := rz 4; have z5 := rz 5; have zr := cell_lt r0; clear rz; obtain ⟨ve, e0⟩ := HP2.out.e; have ez := HP2.out.z; have ze := cell_lt e0)
  refine leaves_cons (f := 76) (args := #[.pointer (some ⟨w.heap.size, 0, none⟩), .pointer (some ⟨w.heap.size + 1, 0, none⟩)]) (by simp) (by simp [go_sem]) ?_
  refine (catch_idle ⟨w.heap.size, 0, none⟩ ⟨w.heap.size + 1, 0, none⟩ _).mono ?_
  rintro e u' w'' ⟨rfl, rfl, rfl⟩
  have st : ∀ (X : World) (i o : Nat) (v : Value), w.heap.size ≤ i → Below w.heap.size w X → Below w.heap.size w (X.setCell ⟨i, o, none⟩ v) := fun X i o v h hb => hb.setCell (p := ⟨i, o, none⟩) h _
  have HBB := Lib.hid (st _ _ 0 (.int .i64 0) (by omega) (st _ _ 5 (.int .i64 si) (by omega) (st _ _ 4 (.int .i64 mi) (by omega) (st _ _ 3 (.int .i64 hi) (by omega) (st _ _ 2 (.int .i64 di) (by omega) (st _ _ 1 (.int .i64 ki) (by omega) (st _ _ 0 (.int .i64 yi) (Nat.le_refl _) HP2.out.b)))))) : Below w.heap.size w (((((((w2.setCell ⟨w.heap.size, 0, none⟩ (.int .i64 yi)).setCell ⟨w.heap.size, 1, none⟩ (.int .i64 ki)).setCell ⟨w.heap.size, 2, none⟩ (.int .i64 di)).setCell ⟨w.heap.size, 3, none⟩ (.int .i64 hi)).setCell ⟨w.heap.size, 4, none⟩ (.int .i64 mi)).setCell ⟨w.heap.size, 5, none⟩ (.int .i64 si)).setCell ⟨w.heap.size + 1, 0, none⟩ (.int .i64 0)))
  simp [Leaves, settle, results, Tryz.results21, go_sem, r0, r1, r2, r3, r4, r5, e0]
  exact HBB.out
end Go.Proofs.YtgnfaemnehmgcaaGreatDoor.Cal
namespace Go.Proofs.YtgnfaemnehmgcaaGreatDoor.Cal
open Go Go.RowKit
attribute [local go_sem] Oper.semAt_some
theorem fits_no_digit (c : Int) (w : World) (h : ¬ (48 ≤ c ∧ c ≤ 57)) :
    Calls Tryz.prog 131 #[.int .u8 c, .int .u8 48] w fun e w' => e = .returned (.bool false) ∧ w = w' := by
  by_cases h1 : 48 ≤ c
  · have h2 : ¬ c ≤ 57 := fun g => h ⟨h1, g⟩
    clear h
    go_enter Tryz.func131, Tryz.ntmps131
    go_wp2
    go_ret
    exact ⟨rfl, rfl⟩
  · clear h
    go_enter Tryz.func131, Tryz.ntmps131
    go_wp2
    go_ret
    exact ⟨rfl, rfl⟩
theorem fits_no_sign (c p : Int) (w : World) (h : ¬ p = 48) (hc : ¬ c = p) :
    Calls Tryz.prog 131 #[.int .u8 c, .int .u8 p] w fun e w' => e = .returned (.bool false) ∧ w = w' := by
  have hb : (p == 48) = false := by simpa using h
  have hb2 : (c == p) = false := by simpa using hc
  go_enter Tryz.func131, Tryz.ntmps131
  go_wp2
  go_ret
  exact ⟨rfl, rfl⟩
theorem fits_not (c p : Int) (w : World) (h : ¬ Fits c p) :
    Calls Tryz.prog 131 #[.int .u8 c, .int .u8 p] w fun e w' => e = .returned (.bool false) ∧ w = w' := by
  by_cases hp : p = 48
  · subst hp
    exact fits_no_digit c w fun g => h (.inl ⟨rfl, g.1, g.2⟩)
  · exact fits_no_sign c p w hp fun g => h (.inr ⟨hp, g⟩)
set_option maxRecDepth 100000 in
set_option maxHeartbeats 4000000 in
theorem read_size (S : ByteArray) (hz : S.size ≠ 19) (w : World) :
    Calls Tryz.prog 77 #[.string S] w fun e w' => e = .panicked [{ v := .iface 50 (.int .i64 3), recovered := false }] ∧ Below w.heap.size w w' := by
  have hzq : ((S.size : Int) == 19) = false := beq_eq_false_iff_ne.2 (by omega)
  have hzn : ¬ (S.size : Int) = 19 := by omega
  have hmf : ∀ (fn : Fn) (first cap : Array Value) (w : World), (Instr.makeFunc fn first cap).run Tryz.prog w = .ok (.func fn first cap) w := fun _ _ _ _ => rfl
  have HR := Lib.hid (rd_new w S)
  go_enter Tryz.func77, Tryz.ntmps77
  go_upto_region 1 with fail
  generalize (w.alloc (.cells #[.string S] 9)).alloc (.cells #[.int .i64 0, .int .i64 0, .int .i64 0, .int .i64 0, .int .i64 0, .int .i64 0] 26) = W1 at *
  have c0 := HR.out.c
  have zc := cell_lt c0
  go_wp2_with fail
  exact ⟨rfl, rfl, HR.out.b⟩
def FitAt (S : ByteArray) (j : Nat) : Prop := Fits (((S.data.toList[j]?.getD 0 : UInt8).toNat : Int)) (((patL[j]?.getD 0 : UInt8).toNat : Int))
set_option maxRecDepth 100000 in
set_option maxHeartbeats 4000000 in
theorem read_bad (S : ByteArray) (hz : S.size = 19) (i0 : Nat) (hi0 : i0 < 19) (hfit : ∀ j, j < i0 → FitAt S j) (hno : ¬ FitAt S i0) (w : World) :
    Calls Tryz.prog 77 #[.string S] w fun e w' => e = .panicked [{ v := .iface 50 (.int .i64 3), recovered := false }] ∧ Below w.heap.size w w' := by
  have hzi : (S.size : Int) = 19 := by omega
  have hmf : ∀ (fn : Fn) (first cap : Array Value) (w : World), (Instr.makeFunc fn first cap).run Tryz.prog w = .ok (.func fn first cap) w := fun _ _ _ _ => rfl
  have HF := Lib.hid hfit
  have HN := Lib.hid hno
  have HR := Lib.hid (rd_new w S)
  have HI := Lib.hid hi0
  clear hfit hno hi0
  go_enter Tryz.func77, Tryz.ntmps77
  go_upto_region 1 with fail
  generalize (w.alloc (.cells #[.string S] 9)).alloc (.cells #[.int .i64 0, .int .i64 0, .int .i64 0, .int .i64 0, .int .i64 0, .int .i64 0] 26) = W1 at *
  have c0 := HR.out.c
  have zc := cell_lt c0
  go_upto_region 4 with fail
  clear c0 zc
  go_loopw [3, 9] (fun s3 s9 wr => ∃ (j : Nat) (v3 : Value), j ≤ i0 ∧ s3 = v3 ∧ s9 = .int .i64 (j : Int) ∧ Hid (RdBox w wr S)) (fun _ s _ => 19 - (intOf s).toNat)
  case atStart => exact ⟨0, _, Nat.zero_le _, rfl, rfl, HR⟩
  case round =>
    clear HR
    obtain ⟨j, v3, hj, rfl, rfl, HR⟩ := hrel
    have h19 := HI.out
    have hki : (j : Int) < 19 := by omega
    have vk : IntKind.i64.wrap ((j : Int) + 1) = (j : Int) + 1 := IntWalk.i64_in _ (by omega)
    have hjS : j < S.size := by omega
    by_cases hlt : j < i0
    · have HFJ := Lib.hid (show ∀ (h1 : j < S.size) (h2 : j < (⟨#[48, 48, 48, 48, 45, 48, 48, 45, 48, 48, 32, 48, 48, 58, 48, 48, 58, 48, 48]⟩ : ByteArray).size), Fits ((S[j]'h1).toNat : Int) (((⟨#[48, 48, 48, 48, 45, 48, 48, 45, 48, 48, 32, 48, 48, 58, 48, 48, 58, 48, 48]⟩ : ByteArray)[j]'h2).toNat : Int) from fun h1 h2 => by
        rw [byte_at S j h1, byte_at _ j h2]
        exact HF.out j hlt)
      have HK := Lib.hid hlt
      have c0 := HR.out.c
      have zc := cell_lt c0
      clear hlt hj h19
      go_upto_region 6 with fail
      go_region_with (go_at_call 131; refine (fits_any _ _ _ (HFJ.out _ _)).mono ?_; rintro e w' ⟨rfl, rfl⟩)
      all_goals (try go_wp2_with fail)
      all_goals exact ⟨⟨j + 1, _, HK.out, rfl, by simp, Lib.hid (HR.out.below (Below.drew (Below.refl _ _)))⟩, by have := HK.out; have := HI.out; simp [intOf]; omega⟩
    · obtain rfl : j = i0 := by omega
      have HFJ := Lib.hid (show ∀ (h1 : j < S.size) (h2 : j < (⟨#[48, 48, 48, 48, 45, 48, 48, 45, 48, 48, 32, 48, 48, 58, 48, 48, 58, 48, 48]⟩ : ByteArray).size), ¬ Fits ((S[j]'h1).toNat : Int) (((⟨#[48, 48, 48, 48, 45, 48, 48, 45, 48, 48, 32, 48, 48, 58, 48, 48, 58, 48, 48]⟩ : ByteArray)[j]'h2).toNat : Int) from fun h1 h2 => by
        rw [byte_at S j h1, byte_at _ j h2]
        exact HN.out)
      clear hlt hj HF h19
      have c0 := HR.out.c
      have zc := cell_lt c0
      go_upto_region 6 with fail
      go_region_with (go_at_call 131; refine (fits_not _ _ _ (HFJ.out _ _)).mono ?_; rintro e w' ⟨rfl, rfl⟩)
      all_goals (try go_wp2_with fail)
      all_goals exact ⟨rfl, rfl, bt HR.out.b (Below.drew (Below.refl _ _))⟩
theorem catch_hit (p q : Nat) (pv : Value) (w : World) (hd : Res6 w p) (he : ∃ v, w.cell? ⟨q, 0, none⟩ = some v) (hz : w.frozen? ⟨q, 0, none⟩ = false) (hpq : ¬ p = q) :
    CallsD Tryz.prog 76 #[.pointer (some ⟨p, 0, none⟩), .pointer (some ⟨q, 0, none⟩)] (.panicking [{ v := .iface 50 pv, recovered := false }]) w fun e u' w' => e = .returned (.tuple #[]) ∧ u' = .panicking [{ v := .iface 50 pv, recovered := true }] ∧ w' = (((((((w.setCell ⟨p, 0, none⟩ (.int .i64 0)).setCell ⟨p, 1, none⟩ (.int .i64 0)).setCell ⟨p, 2, none⟩ (.int .i64 0)).setCell ⟨p, 3, none⟩ (.int .i64 0)).setCell ⟨p, 4, none⟩ (.int .i64 0)).setCell ⟨p, 5, none⟩ (.int .i64 0)).setCell ⟨q, 0, none⟩ (.int .i64 3)) := by
  obtain ⟨⟨v0, r0⟩, ⟨v1, r1⟩, ⟨v2, r2⟩, ⟨v3, r3⟩, ⟨v4, r4⟩, ⟨v5, r5⟩, rz⟩ := hd
  have z0 := rz 0
  have z1 := rz 1
  have z2 := rz 2
  have z3 := rz 3
  have z4 := rz 4
  have z5 := rz 5
  obtain ⟨ve, e0⟩ := he
  have zp := cell_lt r0
  have zq := cell_lt e0
  refine callsD_of_wpS Tryz.func76 rfl fun c₀ cs hu => ?_
  apply wpS_seq
  apply wpS_region
  simp [wpOpsS, go_sem, recoverD, hu, Tryz.ntmps76, Exit.thenS]
  refine wpS_cond (t := true) (by simp [Act.eval, Array.replicate]) ?_
  simp only [if_true]
  apply wpS_region
  simp [wpOpsS, go_sem, r0, r1, r2, r3, r4, r5, z0, z1, z2, z3, z4, z5, e0, hz, bodyPostS, results, Tryz.results76]
theorem Parse_bad (S : ByteArray) (hR : ∀ X, Calls Tryz.prog 77 #[.string S] X fun e w' => e = .panicked [{ v := .iface 50 (.int .i64 3), recovered := false }] ∧ Below X.heap.size X w') (w : World) :
    Calls Tryz.prog 21 #[.string S] w fun e w' => e = .returned (.tuple #[.agg #[.int .i64 0, .int .i64 0, .int .i64 0, .int .i64 0, .int .i64 0, .int .i64 0], .int .i64 3]) ∧ Below w.heap.size w w' := by
  have hmf : ∀ (fn : Fn) (first cap : Array Value) (w : World), (Instr.makeFunc fn first cap).run Tryz.prog w = .ok (.func fn first cap) w := fun _ _ _ _ => rfl
  have HR := Lib.hid hR
  have HP := Lib.hid (ps_new w)
  clear hR
  go_enter_defers Tryz.func21, Tryz.ntmps21
  go_upto_region 1 with fail
  generalize (w.alloc (.cells #[.int .i64 0, .int .i64 0, .int .i64 0, .int .i64 0, .int .i64 0, .int .i64 0] 26)).alloc (.cells #[.int .i64 0] 50) = W1 at *
  go_wp2_with (go_at_call 77; refine (HR.out _).mono ?_; rintro e w2 ⟨rfl, hb⟩; have HP2 := Lib.hid (HP.out.below hb); clear hb)
  refine leaves_cons (f := 76) (args := #[.pointer (some ⟨w.heap.size, 0, none⟩), .pointer (some ⟨w.heap.size + 1, 0, none⟩)]) (by simp) (by simp [go_sem]) ?_
  refine (catch_hit w.heap.size (w.heap.size + 1) _ _ HP2.out.d HP2.out.e HP2.out.z (by omega)).mono ?_
  rintro e u' w'' ⟨rfl, rfl, rfl⟩
  obtain ⟨⟨v0, r0⟩, ⟨v1, r1⟩, ⟨v2, r2⟩, ⟨v3, r3⟩, ⟨v4, r4⟩, ⟨v5, r5⟩, rz⟩ := HP2.out.d
  have zr := cell_lt r0
  obtain ⟨ve, e0⟩ := HP2.out.e
  have st : ∀ (X : World) (i o : Nat) (v : Value), w.heap.size ≤ i → Below w.heap.size w X → Below w.heap.size w (X.setCell ⟨i, o, none⟩ v) := fun X i o v h hb => hb.setCell (p := ⟨i, o, none⟩) h _
  have HBB := Lib.hid (st _ (w.heap.size + 1) 0 (.int .i64 3) (by omega) (st _ _ 5 (.int .i64 0) (Nat.le_refl _) (st _ _ 4 (.int .i64 0) (Nat.le_refl _) (st _ _ 3 (.int .i64 0) (Nat.le_refl _) (st _ _ 2 (.int .i64 0) (Nat.le_refl _) (st _ _ 1 (.int .i64 0) (Nat.le_refl _) (st _ _ 0 (.int .i64 0) (Nat.le_refl _) HP2.out.b)))))))
  simp [Leaves, settle, results, Tryz.results21, go_sem, r0, r1, r2, r3, r4, r5, e0]
  exact HBB.out
end Go.Proofs.YtgnfaemnehmgcaaGreatDoor.Cal
namespace Go.Proofs.YtgnfaemnehmgcaaGreatDoor.Cal
open Go Go.RowKit
theorem list19 (l : List UInt8) (h : l.length = 19) : l = (List.range 19).map (fun j => l[j]?.getD 0) := by
  apply List.ext_getElem (by simp [h])
  intro i h1 h2
  simp [h1]
theorem bOf_ext (S : ByteArray) (a b j : Nat) (_hb : b ≤ S.size) (h : a + j < b) : bOf (S.extract a b) j = bOf S (a + j) := by
  unfold bOf
  rw [Lib.extract_data, List.getElem?_take_of_lt (by omega), List.getElem?_drop]
theorem digB_ext (S : ByteArray) (a b j : Nat) (hb : b ≤ S.size) (h : a + j < b) : digB (S.extract a b) j ↔ digB S (a + j) := by
  unfold digB
  rw [bOf_ext S a b j hb h]
theorem dig_of {c : UInt8} {x : Nat} (h : 48 ≤ c.toNat) (hx : c.toNat - 48 = x) : c = UInt8.ofNat (48 + x) := by
  rw [← hx, show 48 + (c.toNat - 48) = c.toNat by omega, UInt8.ofNat_toNat]
theorem sep_of {c : UInt8} {v : Nat} (h : c.toNat = v) : c = UInt8.ofNat v := by
  rw [← h, UInt8.ofNat_toNat]
theorem fit_dig {S : ByteArray} {j : Nat} (hp : (patL[j]?.getD 0 : UInt8).toNat = 48) (h : FitAt S j) : digB S j := by
  unfold FitAt at h
  rw [hp] at h
  rcases h with ⟨_, h1, h2⟩ | ⟨h1, _⟩
  · unfold digB bOf
    omega
  · exact absurd rfl h1
theorem fit_sep {S : ByteArray} {j v : Nat} (hp : (patL[j]?.getD 0 : UInt8).toNat = v) (hv : v ≠ 48) (h : FitAt S j) : bOf S j = v := by
  unfold FitAt at h
  rw [hp] at h
  rcases h with ⟨h1, _⟩ | ⟨_, h2⟩
  · omega
  · unfold bOf
    omega
theorem dig_fits {S : ByteArray} {j : Nat} (hp : (patL[j]?.getD 0 : UInt8).toNat = 48) (h : digB S j) : FitAt S j := by
  unfold FitAt
  rw [hp]
  unfold digB bOf at h
  exact .inl ⟨rfl, by omega, by omega⟩
theorem sep_fits {S : ByteArray} {j v : Nat} (hp : (patL[j]?.getD 0 : UInt8).toNat = v) (hv : v ≠ 48) (h : bOf S j = v) : FitAt S j := by
  unfold FitAt
  rw [hp]
  unfold bOf at h
  exact .inr ⟨by omega, by omega⟩
theorem first_fit (S : ByteArray) : ∀ n, (∀ i, i < n → FitAt S i) ∨ ∃ m, m < n ∧ (∀ i, i < m → FitAt S i) ∧ ¬ FitAt S m
  | 0 => .inl fun i hi => absurd hi (Nat.not_lt_zero i)
  | n + 1 => by
    rcases first_fit S n with h | ⟨m, hm, h1, h2⟩
    · by_cases e : FitAt S n
      · exact .inl fun i hi => if e2 : i = n then e2 ▸ e else h i (by omega)
      · exact .inr ⟨n, by omega, h, e⟩
    · exact .inr ⟨m, by omega, h1, h2⟩
theorem neg_of {S : ByteArray} {a b : Nat} {v : Int} (hT : NumIs (S.extract a b) v) (hb : b ≤ S.size) {j : Nat} (h : a ≤ j ∧ j < b) (hno : ¬ digB S j) : v < 0 := by
  rcases hT with ⟨h1, _⟩ | ⟨_, h2⟩
  · refine absurd ?_ hno
    have := (digB_ext S a b (j - a) hb (by omega)).1 (h1 (j - a) (by rw [ByteArray.size_extract]; omega))
    rwa [show a + (j - a) = j by omega] at this
  · omega
theorem fits_all (S : ByteArray) (hz : S.size = 19) (hf : ∀ j, j < 19 → FitAt S j) :
    ∃ y k d h m s : Nat, y < 10000 ∧ k < 100 ∧ d < 100 ∧ h < 100 ∧ m < 100 ∧ s < 100 ∧ S.data.toList = fmtL y k d h m s ∧
      (y : Int) = numF (S.extract 0 4) 4 ∧ (∀ i, i < 4 → digB (S.extract 0 4) i) ∧ (k : Int) = numF (S.extract 5 7) 2 ∧ (∀ i, i < 2 → digB (S.extract 5 7) i) ∧ (d : Int) = numF (S.extract 8 10) 2 ∧ (∀ i, i < 2 → digB (S.extract 8 10) i) ∧ (h : Int) = numF (S.extract 11 13) 2 ∧ (∀ i, i < 2 → digB (S.extract 11 13) i) ∧ (m : Int) = numF (S.extract 14 16) 2 ∧ (∀ i, i < 2 → digB (S.extract 14 16) i) ∧ (s : Int) = numF (S.extract 17 19) 2 ∧ (∀ i, i < 2 → digB (S.extract 17 19) i) := by
  have hL : S.data.toList.length = 19 := by simpa using hz
  have hG := list19 _ hL
  have b0 := fit_dig (S := S) (j := 0) rfl (hf 0 (by decide))
  have B0 := b0.1
  have C0 := b0.2
  have b1 := fit_dig (S := S) (j := 1) rfl (hf 1 (by decide))
  have B1 := b1.1
  have C1 := b1.2
  have b2 := fit_dig (S := S) (j := 2) rfl (hf 2 (by decide))
  have B2 := b2.1
  have C2 := b2.2
  have b3 := fit_dig (S := S) (j := 3) rfl (hf 3 (by decide))
  have B3 := b3.1
  have C3 := b3.2
  have s4 := fit_sep (S := S) (j := 4) (v := 45) rfl (by decide) (hf 4 (by decide))
  have b5 := fit_dig (S := S) (j := 5) rfl (hf 5 (by decide))
  have B5 := b5.1
  have C5 := b5.2
  have b6 := fit_dig (S := S) (j := 6) rfl (hf 6 (by decide))
  have B6 := b6.1
  have C6 := b6.2
  have s7 := fit_sep (S := S) (j := 7) (v := 45) rfl (by decide) (hf 7 (by decide))
  have b8 := fit_dig (S := S) (j := 8) rfl (hf 8 (by decide))
  have B8 := b8.1
  have C8 := b8.2
  have b9 := fit_dig (S := S) (j := 9) rfl (hf 9 (by decide))
  have B9 := b9.1
  have C9 := b9.2
  have s10 := fit_sep (S := S) (j := 10) (v := 32) rfl (by decide) (hf 10 (by decide))
  have b11 := fit_dig (S := S) (j := 11) rfl (hf 11 (by decide))
  have B11 := b11.1
  have C11 := b11.2
  have b12 := fit_dig (S := S) (j := 12) rfl (hf 12 (by decide))
  have B12 := b12.1
  have C12 := b12.2
  have s13 := fit_sep (S := S) (j := 13) (v := 58) rfl (by decide) (hf 13 (by decide))
  have b14 := fit_dig (S := S) (j := 14) rfl (hf 14 (by decide))
  have B14 := b14.1
  have C14 := b14.2
  have b15 := fit_dig (S := S) (j := 15) rfl (hf 15 (by decide))
  have B15 := b15.1
  have C15 := b15.2
  have s16 := fit_sep (S := S) (j := 16) (v := 58) rfl (by decide) (hf 16 (by decide))
  have b17 := fit_dig (S := S) (j := 17) rfl (hf 17 (by decide))
  have B17 := b17.1
  have C17 := b17.2
  have b18 := fit_dig (S := S) (j := 18) rfl (hf 18 (by decide))
  have B18 := b18.1
  have C18 := b18.2
  obtain ⟨g0, hg0⟩ : ∃ g, S.data.toList[0]?.getD 0 = g := ⟨_, rfl⟩
  have t0 : bOf S 0 = g0.toNat := by unfold bOf; rw [hg0]
  obtain ⟨g1, hg1⟩ : ∃ g, S.data.toList[1]?.getD 0 = g := ⟨_, rfl⟩
  have t1 : bOf S 1 = g1.toNat := by unfold bOf; rw [hg1]
  obtain ⟨g2, hg2⟩ : ∃ g, S.data.toList[2]?.getD 0 = g := ⟨_, rfl⟩
  have t2 : bOf S 2 = g2.toNat := by unfold bOf; rw [hg2]
  obtain ⟨g3, hg3⟩ : ∃ g, S.data.toList[3]?.getD 0 = g := ⟨_, rfl⟩
  have t3 : bOf S 3 = g3.toNat := by unfold bOf; rw [hg3]
  obtain ⟨g4, hg4⟩ : ∃ g, S.data.toList[4]?.getD 0 = g := ⟨_, rfl⟩
  have t4 : bOf S 4 = g4.toNat := by unfold bOf; rw [hg4]
  obtain ⟨g5, hg5⟩ : ∃ g, S.data.toList[5]?.getD 0 = g := ⟨_, rfl⟩
  have t5 : bOf S 5 = g5.toNat := by unfold bOf; rw [hg5]
  obtain ⟨g6, hg6⟩ : ∃ g, S.data.toList[6]?.getD 0 = g := ⟨_, rfl⟩
  have t6 : bOf S 6 = g6.toNat := by unfold bOf; rw [hg6]
  obtain ⟨g7, hg7⟩ : ∃ g, S.data.toList[7]?.getD 0 = g := ⟨_, rfl⟩
  have t7 : bOf S 7 = g7.toNat := by unfold bOf; rw [hg7]
  obtain ⟨g8, hg8⟩ : ∃ g, S.data.toList[8]?.getD 0 = g := ⟨_, rfl⟩
  have t8 : bOf S 8 = g8.toNat := by unfold bOf; rw [hg8]
  obtain ⟨g9, hg9⟩ : ∃ g, S.data.toList[9]?.getD 0 = g := ⟨_, rfl⟩
  have t9 : bOf S 9 = g9.toNat := by unfold bOf; rw [hg9]
  obtain ⟨g10, hg10⟩ : ∃ g, S.data.toList[10]?.getD 0 = g := ⟨_, rfl⟩
  have t10 : bOf S 10 = g10.toNat := by unfold bOf; rw [hg10]
  obtain ⟨g11, hg11⟩ : ∃ g, S.data.toList[11]?.getD 0 = g := ⟨_, rfl⟩
  have t11 : bOf S 11 = g11.toNat := by unfold bOf; rw [hg11]
  obtain ⟨g12, hg12⟩ : ∃ g, S.data.toList[12]?.getD 0 = g := ⟨_, rfl⟩
  have t12 : bOf S 12 = g12.toNat := by unfold bOf; rw [hg12]
  obtain ⟨g13, hg13⟩ : ∃ g, S.data.toList[13]?.getD 0 = g := ⟨_, rfl⟩
  have t13 : bOf S 13 = g13.toNat := by unfold bOf; rw [hg13]
  obtain ⟨g14, hg14⟩ : ∃ g, S.data.toList[14]?.getD 0 = g := ⟨_, rfl⟩
  have t14 : bOf S 14 = g14.toNat := by unfold bOf; rw [hg14]
  obtain ⟨g15, hg15⟩ : ∃ g, S.data.toList[15]?.getD 0 = g := ⟨_, rfl⟩
  have t15 : bOf S 15 = g15.toNat := by unfold bOf; rw [hg15]
  obtain ⟨g16, hg16⟩ : ∃ g, S.data.toList[16]?.getD 0 = g := ⟨_, rfl⟩
  have t16 : bOf S 16 = g16.toNat := by unfold bOf; rw [hg16]
  obtain ⟨g17, hg17⟩ : ∃ g, S.data.toList[17]?.getD 0 = g := ⟨_, rfl⟩
  have t17 : bOf S 17 = g17.toNat := by unfold bOf; rw [hg17]
  obtain ⟨g18, hg18⟩ : ∃ g, S.data.toList[18]?.getD 0 = g := ⟨_, rfl⟩
  have t18 : bOf S 18 = g18.toNat := by unfold bOf; rw [hg18]
  have hG2 : S.data.toList = [g0, g1, g2, g3, g4, g5, g6, g7, g8, g9, g10, g11, g12, g13, g14, g15, g16, g17, g18] := by
    rw [hG]
    show [S.data.toList[0]?.getD 0, S.data.toList[1]?.getD 0, S.data.toList[2]?.getD 0, S.data.toList[3]?.getD 0, S.data.toList[4]?.getD 0, S.data.toList[5]?.getD 0, S.data.toList[6]?.getD 0, S.data.toList[7]?.getD 0, S.data.toList[8]?.getD 0, S.data.toList[9]?.getD 0, S.data.toList[10]?.getD 0, S.data.toList[11]?.getD 0, S.data.toList[12]?.getD 0, S.data.toList[13]?.getD 0, S.data.toList[14]?.getD 0, S.data.toList[15]?.getD 0, S.data.toList[16]?.getD 0, S.data.toList[17]?.getD 0, S.data.toList[18]?.getD 0] = _
    rw [hg0, hg1, hg2, hg3, hg4, hg5, hg6, hg7, hg8, hg9, hg10, hg11, hg12, hg13, hg14, hg15, hg16, hg17, hg18]
  refine ⟨((((bOf S 0 - 48) * 10 + (bOf S 1 - 48)) * 10 + (bOf S 2 - 48)) * 10 + (bOf S 3 - 48)), ((bOf S 5 - 48) * 10 + (bOf S 6 - 48)), ((bOf S 8 - 48) * 10 + (bOf S 9 - 48)), ((bOf S 11 - 48) * 10 + (bOf S 12 - 48)), ((bOf S 14 - 48) * 10 + (bOf S 15 - 48)), ((bOf S 17 - 48) * 10 + (bOf S 18 - 48)), by omega, by omega, by omega, by omega, by omega, by omega, ?_, ?_, ?_, ?_, ?_, ?_, ?_, ?_, ?_, ?_, ?_, ?_, ?_⟩
  · rw [hG2]
    have e0 : g0 = UInt8.ofNat (48 + ((((bOf S 0 - 48) * 10 + (bOf S 1 - 48)) * 10 + (bOf S 2 - 48)) * 10 + (bOf S 3 - 48)) / 100 / 10) := dig_of (by omega) (by omega)
    have e1 : g1 = UInt8.ofNat (48 + ((((bOf S 0 - 48) * 10 + (bOf S 1 - 48)) * 10 + (bOf S 2 - 48)) * 10 + (bOf S 3 - 48)) / 100 % 10) := dig_of (by omega) (by omega)
    have e2 : g2 = UInt8.ofNat (48 + ((((bOf S 0 - 48) * 10 + (bOf S 1 - 48)) * 10 + (bOf S 2 - 48)) * 10 + (bOf S 3 - 48)) % 100 / 10) := dig_of (by omega) (by omega)
    have e3 : g3 = UInt8.ofNat (48 + ((((bOf S 0 - 48) * 10 + (bOf S 1 - 48)) * 10 + (bOf S 2 - 48)) * 10 + (bOf S 3 - 48)) % 100 % 10) := dig_of (by omega) (by omega)
    have e5 : g5 = UInt8.ofNat (48 + ((bOf S 5 - 48) * 10 + (bOf S 6 - 48)) / 10) := dig_of (by omega) (by omega)
    have e6 : g6 = UInt8.ofNat (48 + ((bOf S 5 - 48) * 10 + (bOf S 6 - 48)) % 10) := dig_of (by omega) (by omega)
    have e8 : g8 = UInt8.ofNat (48 + ((bOf S 8 - 48) * 10 + (bOf S 9 - 48)) / 10) := dig_of (by omega) (by omega)
    have e9 : g9 = UInt8.ofNat (48 + ((bOf S 8 - 48) * 10 + (bOf S 9 - 48)) % 10) := dig_of (by omega) (by omega)
    have e11 : g11 = UInt8.ofNat (48 + ((bOf S 11 - 48) * 10 + (bOf S 12 - 48)) / 10) := dig_of (by omega) (by omega)
    have e12 : g12 = UInt8.ofNat (48 + ((bOf S 11 - 48) * 10 + (bOf S 12 - 48)) % 10) := dig_of (by omega) (by omega)
    have e14 : g14 = UInt8.ofNat (48 + ((bOf S 14 - 48) * 10 + (bOf S 15 - 48)) / 10) := dig_of (by omega) (by omega)
    have e15 : g15 = UInt8.ofNat (48 + ((bOf S 14 - 48) * 10 + (bOf S 15 - 48)) % 10) := dig_of (by omega) (by omega)
    have e17 : g17 = UInt8.ofNat (48 + ((bOf S 17 - 48) * 10 + (bOf S 18 - 48)) / 10) := dig_of (by omega) (by omega)
    have e18 : g18 = UInt8.ofNat (48 + ((bOf S 17 - 48) * 10 + (bOf S 18 - 48)) % 10) := dig_of (by omega) (by omega)
    have e4 : g4 = UInt8.ofNat 45 := sep_of (by omega)
    have e7 : g7 = UInt8.ofNat 45 := sep_of (by omega)
    have e10 : g10 = UInt8.ofNat 32 := sep_of (by omega)
    have e13 : g13 = UInt8.ofNat 58 := sep_of (by omega)
    have e16 : g16 = UInt8.ofNat 58 := sep_of (by omega)
    rw [e0, e1, e2, e3, e4, e5, e6, e7, e8, e9, e10, e11, e12, e13, e14, e15, e16, e17, e18]
    rfl
  · simp only [numF]
    rw [show bOf (S.extract 0 4) 0 = bOf S 0 from bOf_ext S 0 4 0 (by omega) (by decide), show bOf (S.extract 0 4) 1 = bOf S 1 from bOf_ext S 0 4 1 (by omega) (by decide), show bOf (S.extract 0 4) 2 = bOf S 2 from bOf_ext S 0 4 2 (by omega) (by decide), show bOf (S.extract 0 4) 3 = bOf S 3 from bOf_ext S 0 4 3 (by omega) (by decide)]
    omega
  · intro i hi
    refine (digB_ext S 0 4 i (by omega) (by omega)).2 ?_
    rcases (by omega : i = 0 ∨ i = 1 ∨ i = 2 ∨ i = 3) with rfl | rfl | rfl | rfl
    · exact b0
    · exact b1
    · exact b2
    · exact b3
  · simp only [numF]
    rw [show bOf (S.extract 5 7) 0 = bOf S 5 from bOf_ext S 5 7 0 (by omega) (by decide), show bOf (S.extract 5 7) 1 = bOf S 6 from bOf_ext S 5 7 1 (by omega) (by decide)]
    omega
  · intro i hi
    refine (digB_ext S 5 7 i (by omega) (by omega)).2 ?_
    rcases (by omega : i = 0 ∨ i = 1) with rfl | rfl
    · exact b5
    · exact b6
  · simp only [numF]
    rw [show bOf (S.extract 8 10) 0 = bOf S 8 from bOf_ext S 8 10 0 (by omega) (by decide), show bOf (S.extract 8 10) 1 = bOf S 9 from bOf_ext S 8 10 1 (by omega) (by decide)]
    omega
  · intro i hi
    refine (digB_ext S 8 10 i (by omega) (by omega)).2 ?_
    rcases (by omega : i = 0 ∨ i = 1) with rfl | rfl
    · exact b8
    · exact b9
  · simp only [numF]
    rw [show bOf (S.extract 11 13) 0 = bOf S 11 from bOf_ext S 11 13 0 (by omega) (by decide), show bOf (S.extract 11 13) 1 = bOf S 12 from bOf_ext S 11 13 1 (by omega) (by decide)]
    omega
  · intro i hi
    refine (digB_ext S 11 13 i (by omega) (by omega)).2 ?_
    rcases (by omega : i = 0 ∨ i = 1) with rfl | rfl
    · exact b11
    · exact b12
  · simp only [numF]
    rw [show bOf (S.extract 14 16) 0 = bOf S 14 from bOf_ext S 14 16 0 (by omega) (by decide), show bOf (S.extract 14 16) 1 = bOf S 15 from bOf_ext S 14 16 1 (by omega) (by decide)]
    omega
  · intro i hi
    refine (digB_ext S 14 16 i (by omega) (by omega)).2 ?_
    rcases (by omega : i = 0 ∨ i = 1) with rfl | rfl
    · exact b14
    · exact b15
  · simp only [numF]
    rw [show bOf (S.extract 17 19) 0 = bOf S 17 from bOf_ext S 17 19 0 (by omega) (by decide), show bOf (S.extract 17 19) 1 = bOf S 18 from bOf_ext S 17 19 1 (by omega) (by decide)]
    omega
  · intro i hi
    refine (digB_ext S 17 19 i (by omega) (by omega)).2 ?_
    rcases (by omega : i = 0 ∨ i = 1) with rfl | rfl
    · exact b17
    · exact b18
theorem parse_pair (S : ByteArray) : ∃ y k d h m s e : Int, (∀ w, Calls Tryz.prog 21 #[.string S] w fun e' w' => e' = .returned (.tuple #[.agg #[.int .i64 y, .int .i64 k, .int .i64 d, .int .i64 h, .int .i64 m, .int .i64 s], .int .i64 e]) ∧ Below w.heap.size w w') ∧ (∀ w, Calls Tryz.prog 22 #[.string S] w fun e' w' => e' = .returned (.tuple #[.agg #[.int .i64 y, .int .i64 k, .int .i64 d, .int .i64 h, .int .i64 m, .int .i64 s], .int .i64 e]) ∧ Below w.heap.size w w') := by
  by_cases hz : S.size = 19
  · rcases first_fit S 19 with hf | ⟨i0, hi0, hf, hno⟩
    · obtain ⟨y, k, d, h, m, s, hy, hk, hd, hh, hm, hs, hS, n0, g0, n1, g1, n2, g2, n3, g3, n4, g4, n5, g5⟩ := fits_all S hz hf
      refine ⟨y, k, d, h, m, s, 0, fun w => Parse_gen S y k d h m s hy hk hd hh hm hs hS w, fun w => ?_⟩
      rw [n0, n1, n2, n3, n4, n5]
      exact rParse_yes S hz (fit_sep (j := 4) rfl (by decide) (hf 4 (by decide))) (fit_sep (j := 7) rfl (by decide) (hf 7 (by decide))) (fit_sep (j := 10) rfl (by decide) (hf 10 (by decide))) (fit_sep (j := 13) rfl (by decide) (hf 13 (by decide))) (fit_sep (j := 16) rfl (by decide) (hf 16 (by decide))) (fun w => rNumber_yes _ 4 (by rw [ByteArray.size_extract]; omega) (by decide) g0 w) (fun w => rNumber_yes _ 2 (by rw [ByteArray.size_extract]; omega) (by decide) g1 w) (fun w => rNumber_yes _ 2 (by rw [ByteArray.size_extract]; omega) (by decide) g2 w) (fun w => rNumber_yes _ 2 (by rw [ByteArray.size_extract]; omega) (by decide) g3 w) (fun w => rNumber_yes _ 2 (by rw [ByteArray.size_extract]; omega) (by decide) g4 w) (fun w => rNumber_yes _ 2 (by rw [ByteArray.size_extract]; omega) (by decide) g5 w) ⟨by rw [← n0]; omega, by rw [← n1]; omega, by rw [← n2]; omega, by rw [← n3]; omega, by rw [← n4]; omega, by rw [← n5]; omega⟩ w
    · refine ⟨0, 0, 0, 0, 0, 0, 3, fun w => Parse_bad S (fun X => read_bad S hz i0 hi0 hf hno X) w, fun w => ?_⟩
      by_cases s4 : bOf S 4 = 45
      case neg => exact rParse_sep4 S hz  s4 w
      by_cases s7 : bOf S 7 = 45
      case neg => exact rParse_sep7 S hz s4 s7 w
      by_cases s10 : bOf S 10 = 32
      case neg => exact rParse_sep10 S hz s4 s7 s10 w
      by_cases s13 : bOf S 13 = 58
      case neg => exact rParse_sep13 S hz s4 s7 s10 s13 w
      by_cases s16 : bOf S 16 = 58
      case neg => exact rParse_sep16 S hz s4 s7 s10 s13 s16 w
      obtain ⟨x0, N0, K0⟩ := num_ex (S.extract 0 4) (by rw [ByteArray.size_extract]; omega)
      obtain ⟨x1, N1, K1⟩ := num_ex (S.extract 5 7) (by rw [ByteArray.size_extract]; omega)
      obtain ⟨x2, N2, K2⟩ := num_ex (S.extract 8 10) (by rw [ByteArray.size_extract]; omega)
      obtain ⟨x3, N3, K3⟩ := num_ex (S.extract 11 13) (by rw [ByteArray.size_extract]; omega)
      obtain ⟨x4, N4, K4⟩ := num_ex (S.extract 14 16) (by rw [ByteArray.size_extract]; omega)
      obtain ⟨x5, N5, K5⟩ := num_ex (S.extract 17 19) (by rw [ByteArray.size_extract]; omega)
      refine rParse_part S hz s4 s7 s10 s13 s16 K0 K1 K2 K3 K4 K5 ?_ w
      rcases (by omega : i0 = 0 ∨ i0 = 1 ∨ i0 = 2 ∨ i0 = 3 ∨ i0 = 4 ∨ i0 = 5 ∨ i0 = 6 ∨ i0 = 7 ∨ i0 = 8 ∨ i0 = 9 ∨ i0 = 10 ∨ i0 = 11 ∨ i0 = 12 ∨ i0 = 13 ∨ i0 = 14 ∨ i0 = 15 ∨ i0 = 16 ∨ i0 = 17 ∨ i0 = 18) with rfl | rfl | rfl | rfl | rfl | rfl | rfl | rfl | rfl | rfl | rfl | rfl | rfl | rfl | rfl | rfl | rfl | rfl | rfl
      · exact .inl (neg_of N0 (by omega) (j := 0) (by omega) (fun q => hno (dig_fits rfl q)))
      · exact .inl (neg_of N0 (by omega) (j := 1) (by omega) (fun q => hno (dig_fits rfl q)))
      · exact .inl (neg_of N0 (by omega) (j := 2) (by omega) (fun q => hno (dig_fits rfl q)))
      · exact .inl (neg_of N0 (by omega) (j := 3) (by omega) (fun q => hno (dig_fits rfl q)))
      · exact absurd (sep_fits (j := 4) rfl (by decide) s4) hno
      · exact .inr (.inl (neg_of N1 (by omega) (j := 5) (by omega) (fun q => hno (dig_fits rfl q))))
      · exact .inr (.inl (neg_of N1 (by omega) (j := 6) (by omega) (fun q => hno (dig_fits rfl q))))
      · exact absurd (sep_fits (j := 7) rfl (by decide) s7) hno
      · exact .inr (.inr (.inl (neg_of N2 (by omega) (j := 8) (by omega) (fun q => hno (dig_fits rfl q)))))
      · exact .inr (.inr (.inl (neg_of N2 (by omega) (j := 9) (by omega) (fun q => hno (dig_fits rfl q)))))
      · exact absurd (sep_fits (j := 10) rfl (by decide) s10) hno
      · exact .inr (.inr (.inr (.inl (neg_of N3 (by omega) (j := 11) (by omega) (fun q => hno (dig_fits rfl q))))))
      · exact .inr (.inr (.inr (.inl (neg_of N3 (by omega) (j := 12) (by omega) (fun q => hno (dig_fits rfl q))))))
      · exact absurd (sep_fits (j := 13) rfl (by decide) s13) hno
      · exact .inr (.inr (.inr (.inr (.inl (neg_of N4 (by omega) (j := 14) (by omega) (fun q => hno (dig_fits rfl q)))))))
      · exact .inr (.inr (.inr (.inr (.inl (neg_of N4 (by omega) (j := 15) (by omega) (fun q => hno (dig_fits rfl q)))))))
      · exact absurd (sep_fits (j := 16) rfl (by decide) s16) hno
      · exact .inr (.inr (.inr (.inr (.inr (neg_of N5 (by omega) (j := 17) (by omega) (fun q => hno (dig_fits rfl q)))))))
      · exact .inr (.inr (.inr (.inr (.inr (neg_of N5 (by omega) (j := 18) (by omega) (fun q => hno (dig_fits rfl q)))))))
  · exact ⟨0, 0, 0, 0, 0, 0, 3, fun w => Parse_bad S (fun X => read_size S hz X) w, fun w => rParse_size S hz w⟩
end Go.Proofs.YtgnfaemnehmgcaaGreatDoor.Cal
