/- Contracts of layer 2: draws, small numbers, which counters are right. · slices.Repeat of one number. -/
import Derived.Test.YthkndjkgokojmaaProg
import Derived.WalkKit
import Derived.Handy
import Derived.Lib.Hide
import Derived.WalkSmall
import Derived.Deep.QuietTactic
import Derived.BigQuiet
import Derived.Outline
import Derived.LoopTactic
import Derived.IntWalk
import Derived.StillTailTactics
import Derived.Deep.RegionHeld3
import Derived.Laws.EntriesVeiled
import Derived.Deep.CutRange
import Derived.Deep.AppendLies
import Derived.Maps.AppendAt
import Derived.Test.YthkndjkgokojmaaStPre
import Derived.OwnWalk
import Derived.OwnWalkIn
import Derived.Laws.OwnMore
import Derived.Laws.CopyOwn
import Derived.Laws.Bits64b
namespace Go.Proofs.Ythkndjkgokojmaa.Ct
open Go Go.RowKit
theorem ret_u64 {a b : Int} (h : a = b) : Ending.returned (.int .u64 a) = .returned (.int .u64 b) := by rw [h]
theorem ret_i64 {a b : Int} (h : a = b) : Ending.returned (.int .i64 a) = .returned (.int .i64 b) := by rw [h]
theorem ret_bool {a b : Bool} (h : a = b) : Ending.returned (.bool a) = .returned (.bool b) := by rw [h]
theorem cell_lt {w : World} {b o : Nat} {v : Value} (h : w.cell? ⟨b, o, none⟩ = some v) : b < w.heap.size := World.block_lt_of_cell? w ⟨b, o, none⟩ h
theorem cell_below {w w' : World} {b o : Nat} {v : Value} (hb : Below w.heap.size w w') (h : w.cell? ⟨b, o, none⟩ = some v) : w'.cell? ⟨b, o, none⟩ = some v :=
  (hb.cell (p := ⟨b, o, none⟩) (cell_lt h)).trans h
theorem below_alloc {X Y : World} (h : Below X.heap.size X Y) (o : Obj) : Below X.heap.size X (Y.alloc o) := h.alloc h.size o
theorem below_drewN {X Y : World} (h : Below X.heap.size X Y) (n : Nat) : Below X.heap.size X (Y.drewN n) := h.trans ⟨rfl, rfl, rfl, Nat.le_refl _, fun _ _ => rfl⟩
/-! draws -/
def mixA (x y : Int) : Int := IntKind.u64.wrap (x + IntKind.u64.wrap (y * 11400714819323198485))
def mixB (z : Int) : Int := IntKind.u64.wrap (bits BinOp.xor IntKind.u64 z (z / 2147483648) * 10723151780598845931)
def mixC (z : Int) : Int := bits BinOp.xor IntKind.u64 z (z / 1073741824)
def mixS (x y : Int) : Int := mixC (mixB (mixA x y))
theorem mixS_bd (x y : Int) : 0 ≤ mixS x y ∧ mixS x y ≤ 18446744073709551615 := by
  unfold mixS mixC bits
  rw [IntKind.wrap_u64]
  omega
def sourceS (seed kind clock : Int) : Int := mixS (mixS seed kind) clock
def drawS (source index most : Int) : Int := mixS source index % (2 * most + 1) - most
theorem drawS_bd (s i m : Int) (h : 0 ≤ m) : -m ≤ drawS s i m ∧ drawS s i m ≤ m := by
  unfold drawS
  have h1 := Int.emod_nonneg (mixS s i) (show 2 * m + 1 ≠ 0 by omega)
  have h2 := Int.emod_lt_of_pos (mixS s i) (show 0 < 2 * m + 1 by omega)
  omega
theorem mix_any (x y : Int) (w : World) :
    Calls Try.prog 107 #[.int .u64 x, .int .u64 y] w fun e w' => e = .returned (.int .u64 (mixS x y)) ∧ w = w' := by
  go_enter Try.func107, Try.ntmps107
  go_wp2
  go_ret
  exact ⟨rfl, rfl⟩
theorem source_any (s k c : Int) (w : World) (hk : 0 ≤ k) (hk' : k ≤ 9223372036854775807) (hc : 0 ≤ c) (hc' : c ≤ 9223372036854775807) :
    Calls Try.prog 79 #[.int .u64 s, .int .i64 k, .int .i64 c] w fun e w' => e = .returned (.int .u64 (sourceS s k c)) ∧ w = w' := by
  go_enter Try.func79, Try.ntmps79
  go_wp2_with (go_at_call 107; refine (mix_any _ _ _).mono ?_; rintro e w' ⟨rfl, rfl⟩)
  go_ret
  exact ⟨rfl, rfl⟩
theorem draw_any (s i m : Int) (w : World) (hi : 0 ≤ i) (hi' : i ≤ 9223372036854775807) (hm : 0 ≤ m) (hm' : m ≤ 1000000000000000) :
    Calls Try.prog 78 #[.int .u64 s, .int .i64 i, .int .i64 m] w fun e w' => e = .returned (.int .i64 (drawS s i m)) ∧ w = w' := by
  obtain ⟨g1, g2⟩ := mixS_bd s i
  have g3 : 0 ≤ mixS s i % (2 * m + 1) := Int.emod_nonneg (mixS s i) (by omega)
  have g4 : mixS s i % (2 * m + 1) ≤ 2 * m := by have := Int.emod_lt_of_pos (mixS s i) (show 0 < 2 * m + 1 by omega); omega
  go_enter Try.func78, Try.ntmps78
  go_wp2_with (go_at_call 107; refine (mix_any _ _ _).mono ?_; rintro e w' ⟨rfl, rfl⟩)
  go_ret
  exact ⟨rfl, rfl⟩
theorem within_any (n lo hi : Int) (w : World) :
    Calls Try.prog 56 #[.int .i64 n, .int .i64 lo, .int .i64 hi] w fun e w' => e = .returned (.bool (decide (lo ≤ n) && decide (n ≤ hi))) ∧ w = w' := by
  by_cases h : lo ≤ n
  · have E := Lib.hid (show decide (n ≤ hi) = (decide (lo ≤ n) && decide (n ≤ hi)) by simp [h])
    go_enter Try.func56, Try.ntmps56
    go_wp2
    go_ret
    exact ⟨ret_bool E.out, rfl⟩
  · have E := Lib.hid (show false = (decide (lo ≤ n) && decide (n ≤ hi)) by simp [h])
    go_enter Try.func56, Try.ntmps56
    go_wp2
    go_ret
    exact ⟨ret_bool E.out, rfl⟩
theorem within_yes (n lo hi : Int) (w : World) (h : lo ≤ n ∧ n ≤ hi) :
    Calls Try.prog 56 #[.int .i64 n, .int .i64 lo, .int .i64 hi] w fun e w' => e = .returned (.bool true) ∧ w = w' :=
  (within_any n lo hi w).mono fun _ _ ⟨a, b⟩ => ⟨by rw [a]; simp [h], b⟩
theorem within_no (n lo hi : Int) (w : World) (h : ¬ (lo ≤ n ∧ n ≤ hi)) :
    Calls Try.prog 56 #[.int .i64 n, .int .i64 lo, .int .i64 hi] w fun e w' => e = .returned (.bool false) ∧ w = w' :=
  (within_any n lo hi w).mono fun _ _ ⟨a, b⟩ => ⟨by rw [a]; congr 2; simpa using h, b⟩
theorem floor_neg (a b : Int) (hb : 1 ≤ b) (h : a.tmod b < 0) : a.tdiv b - 1 = a / b := by
  have h1 := Int.tmod_add_mul_tdiv a b
  have h2 : -b < a.tmod b := by
    have := Int.natAbs_tmod a b
    have := Nat.mod_lt a.natAbs (show 0 < b.natAbs by omega)
    omega
  symm
  refine Int.ediv_eq_iff_of_pos (by omega) |>.2 ⟨?_, ?_⟩ <;> grind
theorem floor_pos (a b : Int) (hb : 1 ≤ b) (h : ¬ a.tmod b < 0) : a.tdiv b = a / b := by
  have h1 := Int.tmod_add_mul_tdiv a b
  have h2 : a.tmod b < b := by
    have := Int.natAbs_tmod a b
    have := Nat.mod_lt a.natAbs (show 0 < b.natAbs by omega)
    omega
  symm
  refine Int.ediv_eq_iff_of_pos (by omega) |>.2 ⟨?_, ?_⟩ <;> grind
theorem modulo_neg (a b : Int) (hb : 1 ≤ b) (h : a.tmod b < 0) : a.tmod b + b = a % b := by
  have h1 := Int.tmod_add_mul_tdiv a b
  have h2 := floor_neg a b hb h
  have h3 := Int.emod_add_mul_ediv a b
  rw [← h2] at h3
  grind
theorem modulo_pos (a b : Int) (hb : 1 ≤ b) (h : ¬ a.tmod b < 0) : a.tmod b = a % b := by
  have h1 := Int.tmod_add_mul_tdiv a b
  have h2 := floor_pos a b hb h
  have h3 := Int.emod_add_mul_ediv a b
  rw [← h2] at h3
  grind
theorem tdiv_bd (a b : Int) (hb : 1 ≤ b) (h1 : -9223372036854775807 ≤ a) (h2 : a ≤ 9223372036854775807) : -9223372036854775807 ≤ a.tdiv b ∧ a.tdiv b ≤ 9223372036854775807 := by
  rw [tdiv_eq_if]
  split
  · rename_i hx; have := IntWalk.tdiv_le a b hx hb; omega
  · rename_i hx; have := IntWalk.tdiv_le (-a) b (by omega) hb; omega
theorem tmod_bd (a b : Int) (hb : 1 ≤ b) : -b < a.tmod b ∧ a.tmod b < b := by
  have h1 := Int.natAbs_tmod a b
  have h2 := Nat.mod_lt a.natAbs (show 0 < b.natAbs by omega)
  omega
theorem floor_any (a b : Int) (w : World) (h1 : -9223372036854775807 ≤ a ∧ a ≤ 9223372036854775807) (hb : 1 ≤ b ∧ b ≤ 9223372036854775807) :
    Calls Try.prog 81 #[.int .i64 a, .int .i64 b] w fun e w' => e = .returned (.int .i64 (a / b)) ∧ w = w' := by
  have hd := tdiv_bd a b hb.1 h1.1 h1.2
  have hm := tmod_bd a b hb.1
  by_cases h : a.tmod b < 0
  · have H := Lib.hid (floor_neg a b hb.1 h)
    have hne : (b == 0) = false := by simp; omega
    have hnz : ¬ b = 0 := by omega
    have k1 : IntKind.i64.wrap (a.tdiv b) = a.tdiv b := IntWalk.i64_in _ (by omega)
    have k2 : IntKind.i64.wrap (a.tmod b) = a.tmod b := IntWalk.i64_in _ (by omega)
    have k3 : IntKind.i64.wrap (a.tdiv b - 1) = a.tdiv b - 1 := by
      rw [H.out]; refine IntWalk.i64_in _ ?_
      rw [← H.out]
      have h6 := Int.mul_tdiv_add_tmod a b
      by_cases hb1 : b = 1
      · subst hb1; have : a.tmod 1 = 0 := Int.tmod_one a; omega
      · rw [tdiv_eq_if] at hd ⊢
        split
        · rename_i hx; have := Int.tmod_nonneg b hx; omega
        · rename_i hx
          have h7 := Int.ediv_le_self (b := b) (a := -a) (by omega)
          have h8 : (-a) / b * 2 ≤ (-a) / b * b := Int.mul_le_mul_of_nonneg_left (by omega) (Int.ediv_nonneg (by omega) (by omega))
          have h9 := Int.ediv_mul_le (-a) (b := b) (by omega)
          omega
    clear hd hm
    go_enter Try.func81, Try.ntmps81
    go_wp2
    go_ret
    exact ⟨ret_i64 H.out, rfl⟩
  · have H := Lib.hid (floor_pos a b hb.1 h)
    have hne : (b == 0) = false := by simp; omega
    have hnz : ¬ b = 0 := by omega
    have k1 : IntKind.i64.wrap (a.tdiv b) = a.tdiv b := IntWalk.i64_in _ (by omega)
    have k2 : IntKind.i64.wrap (a.tmod b) = a.tmod b := IntWalk.i64_in _ (by omega)
    clear hd hm
    go_enter Try.func81, Try.ntmps81
    go_wp2
    go_ret
    exact ⟨ret_i64 H.out, rfl⟩
theorem modulo_any (a b : Int) (w : World) (hb : 1 ≤ b ∧ b ≤ 9223372036854775807) :
    Calls Try.prog 80 #[.int .i64 a, .int .i64 b] w fun e w' => e = .returned (.int .i64 (a % b)) ∧ w = w' := by
  have hm := tmod_bd a b hb.1
  have hne : (b == 0) = false := by simp; omega
  have hnz : ¬ b = 0 := by omega
  have k2 : IntKind.i64.wrap (a.tmod b) = a.tmod b := IntWalk.i64_in _ (by omega)
  by_cases h : a.tmod b < 0
  · have H := Lib.hid (modulo_neg a b hb.1 h)
    have k3 : IntKind.i64.wrap (a.tmod b + b) = a.tmod b + b := IntWalk.i64_in _ (by omega)
    clear hm
    go_enter Try.func80, Try.ntmps80
    go_wp2
    go_ret
    exact ⟨ret_i64 H.out, rfl⟩
  · have H := Lib.hid (modulo_pos a b hb.1 h)
    clear hm
    go_enter Try.func80, Try.ntmps80
    go_wp2
    go_ret
    exact ⟨ret_i64 H.out, rfl⟩
end Go.Proofs.Ythkndjkgokojmaa.Ct
namespace Go.Proofs.Ythkndjkgokojmaa.Ct
open Go Go.RowKit Go.Lib
set_option maxRecDepth 100000 in
set_option maxHeartbeats 1000000 in
theorem mul64_one (c : Nat) (hc : c ≤ 100000) (w : World) :
    Calls Try.prog 76 #[.int .u64 1, .int .u64 c] w fun e w' => e = .returned (.tuple #[.int .u64 0, .int .u64 c]) ∧ w = w' := by
  have k1 : bits .and .u64 (c : Int) 4294967295 = (c : Int) := by
    have h := bits_and_u64_nat c 4294967295 (by omega) (by omega)
    have e : c &&& 4294967295 = c % 4294967296 := Nat.and_two_pow_sub_one_eq_mod c 32
    rw [e, Nat.mod_eq_of_lt (by omega)] at h
    exact h
  have k2 : (c : Int) / 4294967296 = 0 := by omega
  have k3 : bits .and .u64 1 4294967295 = 1 := by decide
  have k4 : bits .and .u64 0 4294967295 = 0 := by decide
  have k5 : IntKind.u64.wrap (c : Int) = (c : Int) := by rw [IntKind.wrap_u64]; omega
  go_enter Try.func76, Try.ntmps76
  go_wp2
  go_ret2
  exact ⟨rfl, rfl⟩
theorem mul_one (c : Nat) (hc : c ≤ 100000) (w : World) :
    Calls Try.prog 44 #[.int .u64 1, .int .u64 c] w fun e w' => e = .returned (.tuple #[.int .u64 0, .int .u64 c]) ∧ w = w' := by
  have HM := Lib.hid (fun W => mul64_one c hc W)
  go_enter Try.func44, Try.ntmps44
  go_wp2_with (go_at_call 76; refine (HM.out _).mono ?_; rintro e w1 ⟨rfl, rfl⟩)
  go_ret2
  exact ⟨rfl, rfl⟩
theorem infoInt' : (Try.prog.info? 3).map (fun i => (i.zero, i.size, i.bytes)) = some (some (.int .i64 0), 1, 8) := by kernel_rfl
theorem sizeInt : (Try.prog.info? 3).map (·.size) = some 1 := by kernel_rfl
/-- q numbers are there, the others are still 0 -/
def repL (x : Int) (q n : Nat) : List Value := List.replicate q (.int .i64 x) ++ List.replicate (n - q) (.int .i64 0)
theorem repL_len (x : Int) {q n : Nat} (h : q ≤ n) : (repL x q n).length = n := by simp [repL]; omega
theorem repL_all (x : Int) (n : Nat) : repL x n n = List.replicate n (.int .i64 x) := by simp [repL]
theorem repL_none (x : Int) (n : Nat) : repL x 0 n = List.replicate n (.int .i64 0) := by simp [repL]
theorem repL_splice (x : Int) (q r n : Nat) : splice (repL x q n) q (List.replicate r (.int .i64 x)) = repL x (q + r) n := by
  unfold splice repL
  rw [List.length_replicate, List.take_left' (by simp), List.drop_append, List.length_replicate, List.drop_eq_nil_of_le (by simp), List.nil_append, show q + r - q = r by omega, List.drop_replicate, ← List.append_assoc, List.replicate_append_replicate]
  congr 2
  omega
/-- the row that is filled -/
structure RepAt (w X : World) (g : Nat) (x : Int) (q n : Nat) : Prop where
  row : X.heap[g]? = some (.cells (repL x q n).toArray 3 (0, 0))
  bel : Below w.heap.size w X
  ge : w.heap.size ≤ g
theorem RepAt.cell {w X : World} {g q n : Nat} {x : Int} (h : RepAt w X g x q n) (i : Nat) (hi : i < q) : X.cell? ⟨g, i, none⟩ = some (.int .i64 x) := by
  simp [World.cell?, h.row, repL, List.getElem?_append, hi]
theorem copy_rep {w X Y : World} {g q r n : Nat} {x : Int} (h : RepAt w X g x q n) (hr : Y.heap[g]? = some (.cells (splice (repL x q n) q (List.replicate r (.int .i64 x))).toArray 3 (0, 0))) (hb : Below w.heap.size w Y) : RepAt w Y g x (q + r) n := by
  rw [repL_splice] at hr
  exact ⟨hr, hb, h.ge⟩
theorem wpIn_copy_row {F : Fence} {m : Nat} {P : Program} (w : World) {o : Oper} {a : Act} {K : Act → World → Prop} {Q : Exit → Act → World → Prop} (d s : Operand) (dT sT : TypeId)
    (ho : o.op = .call { callee := .builtin .copy, args := #[d, s], argTypes := #[dT, sT] }) (elem : TypeId) (hu : P.underlying dT = some (.slice elem)) (hsz : (P.info? elem).map (·.size) = some 1)
    (g off dLen dCap : Nat) (ad : Addr) (sLen sCap : Nat) (hd : a.eval d = .slice (some ⟨g, off, none⟩) dLen dCap) (hs : a.eval s = .slice (some ad) sLen sCap)
    (cur : List Value) (t : TypeId) (hg : w.heap[g]? = some (.cells cur.toArray t (0, 0))) (cs : List Value) (hn : cs.length = Nat.min sLen dLen)
    (hsrc : ∀ j v, cs[j]? = some v → w.cell? (ad.add j) = some v) (hfit : off + cs.length ≤ cur.length) (h1 : ∀ v ∈ cs, v.oneCell' = true) (B : Nat) (w0 : World) (hb : Below B w0 w) (hBg : B ≤ g)
    (h : ∀ w', Hid (w'.heap[g]? = some (.cells (splice cur off cs).toArray t (0, 0))) → Below B w0 w' → K (a.put o.dst (goInt cs.length)) w') : Oper.wpIn F m P o a w K Q := by
  have hrun := run_copy_row (P := P) w dT sT o.type elem g off dLen dCap ad sLen sCap cur.toArray t cs hu hsz hg hn hsrc (by simpa using hfit) h1
  unfold Oper.wpIn
  refine ⟨?_, ?_⟩
  · simp [Oper.about, ho, resolve, Target.leads, Sem.run_pure]
  · rw [Oper.semAt_plain F _ _ (by rw [ho]; intro c hc'; cases hc')]
    simp [execOp, ho, resolve, invoke, builtin, hd, hs, hrun, Result.andThen]
    exact h _ (show _ = _ by simpa [splice] using setRow_heap w g _ _ t _ hg) (below_setRow hb hBg _)
theorem made_row {w X : World} {B g n : Nat} {x : Int} (h : X.ownsRow B 3 1 (.slice (some ⟨g, 0, none⟩) n n) n (List.replicate n (.int .i64 0))) (hb : Below w.heap.size w X) (hg : w.heap.size ≤ g) : RepAt w X g x 0 n := by
  refine ⟨?_, hb, hg⟩
  rcases h.2 with ⟨e, _⟩ | ⟨g', cap', cur, e, _, hgb, _, _, hs, ht⟩
  · cases e
  · cases e
    rw [hgb, repL_none, ← ht, List.take_of_length_le (by simp [hs])]
theorem rep_src {X : World} {ad : Addr} {x : Int} {r : Nat} (h : ∀ j, j < r → X.cell? (ad.add j) = some (.int .i64 x)) : ∀ j v, (List.replicate r (Value.int .i64 x))[j]? = some v → X.cell? (ad.add j) = some v := fun j v hj => by
  rw [List.getElem?_replicate] at hj
  split at hj
  · rename_i hlt
    cases hj
    exact h j hlt
  · cases hj
theorem rep_one (r : Nat) (x : Int) : ∀ v ∈ List.replicate r (Value.int .i64 x), v.oneCell' = true := fun v hv => by
  rw [List.eq_of_mem_replicate hv]; rfl
theorem add_at (g o j : Nat) : (⟨g, o, none⟩ : Addr).add j = ⟨g, o + j, none⟩ := by unfold Addr.add; split <;> simp_all
theorem rep_pos {X : World} {g b o n : Nat} {x : Int} (hx : X.cell? ⟨b, o, none⟩ = some (.int .i64 x)) : 0 < (List.replicate (min 1 n) (Value.int .i64 x)).length → (some ⟨g, 0, none⟩ : Option Addr) = some ⟨g, 0, none⟩ ∧ ∃ ad, (some ⟨b, o, none⟩ : Option Addr) = some ad ∧ ∀ j v, (List.replicate (min 1 n) (Value.int .i64 x))[j]? = some v → X.cell? (ad.add j) = some v :=
  fun _ => ⟨rfl, _, rfl, rep_src fun j hj => by
    obtain rfl : j = 0 := by omega
    rw [add_at]
    exact hx⟩
theorem rep_copy {w X : World} {g q r n : Nat} {x : Int} (h : RepAt w X g x q n) (hqn : q ≤ n) (hr : r = min q (n - q)) :
    ∃ Y, RepAt w Y g x (q + r) n ∧ (Builtin.copy_ #[22, 22] 3 #[.slice (some ⟨g, q, none⟩) (n - q) (n - q), .slice (some ⟨g, 0, none⟩) q n]).run Try.prog X = .ok (.int .i64 (r : Int)) Y := by
  have hrun := run_copy_row (P := Try.prog) X 22 22 3 3 g q (n - q) (n - q) ⟨g, 0, none⟩ q n (repL x q n).toArray 3 (List.replicate r (.int .i64 x)) Try.underlying22 sizeInt h.row (by rw [List.length_replicate, hr])
    (rep_src fun j hj => by rw [add_at, Nat.zero_add]; exact h.cell j (by omega)) (by rw [List.length_replicate, List.size_toArray, repL_len x hqn]; omega) (rep_one _ _)
  refine ⟨_, ?_, by rw [hrun, List.length_replicate]; rfl⟩
  refine copy_rep h ?_ (below_setRow h.bel h.ge _)
  have h2 := setRow_heap X g (repL x q n).toArray ((repL x q n).take q ++ (List.replicate r (Value.int .i64 x) ++ (repL x q n).drop (q + r))).toArray 3 (0, 0) h.row
  simpa [splice] using h2
def RepRet (x : Int) (n : Nat) (w : World) (e : Ending) (w' : World) : Prop := ∃ g, e = .returned (.slice (some ⟨g, 0, none⟩) n n) ∧ RepAt w w' g x n n
set_option maxRecDepth 100000 in
set_option maxHeartbeats 4000000 in
theorem repeat_any (x : Int) (b o cx n : Nat) (w : World) (hn : n ≤ 10000) (hx : w.cell? ⟨b, o, none⟩ = some (.int .i64 x)) :
    Calls Try.prog 11 #[.slice (some ⟨b, o, none⟩) 1 cx, .int .i64 n] w (RepRet x n w) := by
  obtain ⟨i0, hi0, hz0, hz1, hz2⟩ := info_parts infoInt'
  have HM := Lib.hid (fun W => mul_one n (by omega) W)
  have k1 : IntKind.u64.wrap (n : Int) = (n : Int) := by rw [IntKind.wrap_u64]; omega
  have k2 : IntKind.i64.wrap (n : Int) = (n : Int) := IntWalk.i64_in _ (by omega)
  have k3 : ¬ ((9223372036854775807 : Int) < (n : Int)) := by omega
  have k4 : ¬ ((n : Int) < 0) := by omega
  have HX := Lib.hid hx
  clear hx
  go_enter Try.func11, Try.ntmps11
  have HXX := Lib.hid (fun (X : World) (hX : Below w.heap.size w X) => cell_below hX HX.out)
  go_wp2_with (first | (go_at_call 44; refine (HM.out _).mono ?_; rintro e w1 ⟨rfl, rfl⟩) | (at_make; refine wpList_make_full _ rfl _ _ 22 rfl w.heap.size 3 i0 (.int .i64 0) 1 Try.underlying22 hi0 hz0 hz1 .i64 .i64 _ _ n rfl rfl rfl rfl (by rw [hz2]; omega) (by unfold maxLen; omega) (Nat.le_refl _) ?_; intro w0 hown0 hgrow0; have HR0 : Hid (RepAt w w0 w.heap.size x 0 n) := Lib.hid (made_row (by rw [Nat.mul_one, show (Value.int .i64 0).cells = #[.int .i64 0] from rfl, toList_madeCells_one] at hown0; exact hown0) ((Below.refl _ _).grown hgrow0 (Nat.le_refl _) (fun k hk => by cases hk)) (Nat.le_refl _)); clear hown0 hgrow0) |
    (refine wpList_copy_splice (o := ⟨some 33, _, _, _, _, _⟩) rfl (.tmp 31) (.tmp 32) 22 22 rfl 3 Try.underlying22 sizeInt (some ⟨w.heap.size, 0, none⟩) (some ⟨b, o, none⟩) n n 1 cx rfl rfl w.heap.size 0 (repL x 0 n) 3 HR0.out.row (List.replicate (min 1 n) (.int .i64 x)) (by rw [List.length_replicate]) (rep_pos (HXX.out _ HR0.out.bel)) (by rw [List.length_replicate, repL_len x (Nat.zero_le _)]; omega) (rep_one _ _) w.heap.size w HR0.out.bel (Nat.le_refl _) ?_; intro w2 hrow2 hb2; have HR1 := Lib.hid (copy_rep HR0.out hrow2.out hb2); clear hrow2 hb2))
  clear HXX HR0 HX HM
  go_loopw [8] (fun s wr => ∃ q : Nat, (q ≤ n ∧ (1 ≤ q ∨ n = 0)) ∧ s = .int .i64 (q : Int) ∧ Hid (RepAt w wr w.heap.size x q n)) (fun s _ => n - (intOf s).toNat)
  case atStart => exact ⟨0 + min 1 n, by omega, by simp, HR1⟩
  case round =>
    obtain ⟨q, ⟨hq1, hq2⟩, rfl, HE⟩ := hrel
    by_cases hlt : q < n
    · have hqi : (q : Int) < (n : Int) := by omega
      have hqi2 : (q : Int) ≤ (n : Int) := by omega
      have hqn : q ≤ n := by omega
      obtain ⟨r, hr⟩ : ∃ r, r = min q (n - q) := ⟨_, rfl⟩
      have hr1 : 1 ≤ r ∧ q + r ≤ n := by omega
      have v1 : IntKind.i64.wrap ((q : Int) + (r : Int)) = ((q + r : Nat) : Int) := by rw [IntWalk.i64_in _ (by omega)]; omega
      have HR := Lib.hid hr
      have HQ := Lib.hid hr1
      clear hr hr1
      have hnq : ¬ n = q := by omega
      have hq0 : q ≤ n - q ∨ n - q ≤ q := by omega
      obtain ⟨Y, hY, hrun⟩ := rep_copy (X := wr.drew) (g := w.heap.size) (x := x) (r := r) ⟨HE.out.row, HE.out.bel.drew, Nat.le_refl _⟩ hqn HR.out
      have HY := Lib.hid hY
      have HM2 := Lib.hid (show n - (q + r) < n - q by have := HQ.out; omega)
      have hqr := HQ.out
      clear hY hq0 hqr
      go_wp2
      go_region
      go_wp2
      go_roundw
      case rel => exact ⟨q + r, by have := HQ.out; omega, by simp, HY⟩
      case measure => have := HQ.out; simp [intOf]; omega
    · obtain rfl : q = n := by omega
      have HF := Lib.hid (show RepRet x q w (.returned (.slice (some ⟨w.heap.size, 0, none⟩) q q)) wr from ⟨_, rfl, HE.out⟩)
      go_wp2
      go_ret
      exact HF.out
end Go.Proofs.Ythkndjkgokojmaa.Ct
