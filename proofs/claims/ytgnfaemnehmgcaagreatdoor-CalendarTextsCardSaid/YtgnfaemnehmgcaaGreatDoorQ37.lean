/- Layer 9 (calendar): Parse. (by gen_ig.py) -/
import Derived.Test.YtgnfaemnehmgcaaGreatDoorQ36
namespace Go.Proofs.YtgnfaemnehmgcaaGreatDoor.Cal
open Go Go.RowKit
attribute [local go_sem] Oper.semAt_some
theorem catch_idle (p q : Addr) (w : World) :
    CallsD Tryz.prog 76 #[.pointer (some p), .pointer (some q)] .returning w fun e u' w' => e = .returned (.tuple #[]) ∧ u' = .returning ∧ w' = w := by
  refine callsD_of_wpS Tryz.func76 rfl fun c₀ cs hu => ?_
  apply wpS_seq
  apply wpS_region
  simp [wpOpsS, go_sem, recoverD, hu, Tryz.ntmps76, Exit.thenS]
  refine wpS_cond (t := false) (by simp [Act.eval, Array.replicate]) ?_
  simp only [Bool.false_eq_true, if_false]
  refine wpS_of_wp (wp_skip ?_)
  cases c₀
  simp_all [bodyPostS, results, Tryz.results76]
/-- what Parse keeps in memory -/
structure PsBox (w X : World) : Prop where
  d : Res6 X w.heap.size
  e : ∃ v, X.cell? ⟨w.heap.size + 1, 0, none⟩ = some v
  z : X.frozen? ⟨w.heap.size + 1, 0, none⟩ = false
  b : Below w.heap.size w X
theorem PsBox.below {w X Y : World} (h : PsBox w X) (hb : Below X.heap.size X Y) : PsBox w Y :=
  ⟨h.d.below hb, h.e.imp fun _ e => cell_below hb e, (hb.frozen (p := ⟨w.heap.size + 1, 0, none⟩) (cell_lt h.e.choose_spec)).trans h.z, bt h.b hb⟩
theorem ps_new (w : World) : PsBox w ((w.alloc (.cells #[.int .i64 0, .int .i64 0, .int .i64 0, .int .i64 0, .int .i64 0, .int .i64 0] 26)).alloc (.cells #[.int .i64 0] 50)) := by
  have b1 := below_alloc (Below.refl w.heap.size w) (.cells #[.int .i64 0, .int .i64 0, .int .i64 0, .int .i64 0, .int .i64 0, .int .i64 0] 26)
  have h1 := Res6.new w (.int .i64 0) (.int .i64 0) (.int .i64 0) (.int .i64 0) (.int .i64 0) (.int .i64 0) 26
  have e1 : (w.alloc (.cells #[.int .i64 0, .int .i64 0, .int .i64 0, .int .i64 0, .int .i64 0, .int .i64 0] 26)).heap.size = w.heap.size + 1 := by simp
  generalize w.alloc (.cells #[.int .i64 0, .int .i64 0, .int .i64 0, .int .i64 0, .int .i64 0, .int .i64 0] 26) = W1 at *
  have b2 := below_alloc (Below.refl W1.heap.size W1) (.cells #[.int .i64 0] 50)
  have h2 : (W1.alloc (.cells #[.int .i64 0] 50)).cell? ⟨W1.heap.size, 0, none⟩ = some (.int .i64 0) := by simp
  have h3 : (W1.alloc (.cells #[.int .i64 0] 50)).frozen? ⟨W1.heap.size, 0, none⟩ = false := by simp
  rw [e1] at h2 h3
  exact ⟨h1.below b2, ⟨_, h2⟩, h3, bt b1 b2⟩
set_option maxRecDepth 100000 in
set_option maxHeartbeats 4000000 in
theorem Parse_gen (S : ByteArray) (y k d h m s : Nat) (hy : y < 10000) (hk : k < 100) (hd : d < 100) (hh : h < 100) (hm : m < 100) (hs : s < 100) (hS : S.data.toList = fmtL y k d h m s) (w : World) :
    Calls Tryz.prog 21 #[.string S] w fun e w' => e = .returned (.tuple #[.agg #[.int .i64 (y : Int), .int .i64 (k : Int), .int .i64 (d : Int), .int .i64 (h : Int), .int .i64 (m : Int), .int .i64 (s : Int)], .int .i64 0]) ∧ Below w.heap.size w w' := by
  have hmf : ∀ (fn : Fn) (first cap : Array Value) (w : World), (Instr.makeFunc fn first cap).run Tryz.prog w = .ok (.func fn first cap) w := fun _ _ _ _ => rfl
  have HR := Lib.hid (fun X => read_gen S y k d h m s hy hk hd hh hm hs hS X)
  have HP := Lib.hid (ps_new w)
  clear hS
  generalize (y : Int) = yi at *
  generalize (k : Int) = ki at *
  generalize (d : Int) = di at *
  generalize (h : Int) = hi at *
  generalize (m : Int) = mi at *
  generalize (s : Int) = si at *
  go_enter_defers Tryz.func21, Tryz.ntmps21
  go_upto_region 1 with fail
  generalize (w.alloc (.cells #[.int .i64 0, .int .i64 0, .int .i64 0, .int .i64 0, .int .i64 0, .int .i64 0] 26)).alloc (.cells #[.int .i64 0] 50) = W1 at *
  go_wp2_with (go_at_call 77; refine (HR.out _).mono ?_; rintro e w2 ⟨rfl, hb⟩; have HP2 := Lib.hid (HP.out.below hb); clear hb; obtain ⟨⟨v0, r0⟩, ⟨v1, r1⟩, ⟨v2, r2⟩, ⟨v3, r3⟩, ⟨v4, r4⟩, ⟨v5, r5⟩, rz⟩ := HP2.out.d; have z0 := rz 0; have z1 := rz 1; have z2 := rz 2; have z3 := rz 3; have z4 := rz 4; have z5 := rz 5; have zr := cell_lt r0; clear rz; obtain ⟨ve, e0⟩ := HP2.out.e; have ez := HP2.out.z; have ze := cell_lt e0)
  refine leaves_cons (f := 76) (args := #[.pointer (some ⟨w.heap.size, 0, none⟩), .pointer (some ⟨w.heap.size + 1, 0, none⟩)]) (by simp) (by simp [go_sem]) ?_
  refine (catch_idle ⟨w.heap.size, 0, none⟩ ⟨w.heap.size + 1, 0, none⟩ _).mono ?_
  rintro e u' w'' ⟨rfl, rfl, rfl⟩
  have st : ∀ (X : World) (i o : Nat) (v : Value), w.heap.size ≤ i → Below w.heap.size w X → Below w.heap.size w (X.setCell ⟨i, o, none⟩ v) := fun X i o v h hb => hb.setCell (p := ⟨i, o, none⟩) h _
  have HBB := Lib.hid (st _ _ 0 (.int .i64 0) (by omega) (st _ _ 5 (.int .i64 si) (by omega) (st _ _ 4 (.int .i64 mi) (by omega) (st _ _ 3 (.int .i64 hi) (by omega) (st _ _ 2 (.int .i64 di) (by omega) (st _ _ 1 (.int .i64 ki) (by omega) (st _ _ 0 (.int .i64 yi) (Nat.le_refl _) HP2.out.b)))))) : Below w.heap.size w (((((((w2.setCell ⟨w.heap.size, 0, none⟩ (.int .i64 yi)).setCell ⟨w.heap.size, 1, none⟩ (.int .i64 ki)).setCell ⟨w.heap.size, 2, none⟩ (.int .i64 di)).setCell ⟨w.heap.size, 3, none⟩ (.int .i64 hi)).setCell ⟨w.heap.size, 4, none⟩ (.int .i64 mi)).setCell ⟨w.heap.size, 5, none⟩ (.int .i64 si)).setCell ⟨w.heap.size + 1, 0, none⟩ (.int .i64 0)))
  simp [Leaves, settle, results, Tryz.results21, go_sem, r0, r1, r2, r3, r4, r5, e0]
  exact HBB.out
theorem Parse_any (S : ByteArray) (y k d h m s : Nat) (hy0 : 1972 ≤ y) (hy9 : y < 2100) (hk : k < 100) (hd : d < 100) (hh : h < 100) (hm : m < 100) (hs : s < 100) (hS : S.data.toList = fmtL y k d h m s) (w : World) :
    Calls Tryz.prog 21 #[.string S] w fun e w' => e = .returned (.tuple #[.agg #[.int .i64 (y : Int), .int .i64 (k : Int), .int .i64 (d : Int), .int .i64 (h : Int), .int .i64 (m : Int), .int .i64 (s : Int)], .int .i64 0]) ∧ Below w.heap.size w w' :=
  Parse_gen S y k d h m s (by omega) hk hd hh hm hs hS w
end Go.Proofs.YtgnfaemnehmgcaaGreatDoor.Cal
