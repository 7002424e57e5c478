/- slices.Repeat of one number. -/
import Derived.Test.YtlelamjbfjneiaaCa
import Derived.Test.YtlelamjbfjneiaaStPre
import Derived.OwnWalk
import Derived.OwnWalkIn
import Derived.Laws.EntriesVeiled
import Derived.Laws.OwnMore
import Derived.Laws.CopyOwn
import Derived.Laws.Bits64b
namespace Go.Proofs.Ytlelamjbfjneiaa.Ct
open Go Go.RowKit Go.Lib
set_option maxRecDepth 100000 in
set_option maxHeartbeats 1000000 in
theorem mul64_one (c : Nat) (hc : c ≤ 100000) (w : World) :
    Calls Try.prog 80 #[.int .u64 1, .int .u64 c] w fun e w' => e = .returned (.tuple #[.int .u64 0, .int .u64 c]) ∧ w = w' := by
  have k1 : bits .and .u64 (c : Int) 4294967295 = (c : Int) := by
    have h := bits_and_u64_nat c 4294967295 (by omega) (by omega)
    have e : c &&& 4294967295 = c % 4294967296 := Nat.and_two_pow_sub_one_eq_mod c 32
    rw [e, Nat.mod_eq_of_lt (by omega)] at h
    exact h
  have k2 : (c : Int) / 4294967296 = 0 := by omega
  have k3 : bits .and .u64 1 4294967295 = 1 := by decide
  have k4 : bits .and .u64 0 4294967295 = 0 := by decide
  have k5 : IntKind.u64.wrap (c : Int) = (c : Int) := by rw [IntKind.wrap_u64]; omega
  go_enter Try.func80, Try.ntmps80
  go_wp2
  go_ret2
  exact ⟨rfl, rfl⟩
theorem mul_one (c : Nat) (hc : c ≤ 100000) (w : World) :
    Calls Try.prog 78 #[.int .u64 1, .int .u64 c] w fun e w' => e = .returned (.tuple #[.int .u64 0, .int .u64 c]) ∧ w = w' := by
  have HM := Lib.hid (fun W => mul64_one c hc W)
  go_enter Try.func78, Try.ntmps78
  go_wp2_with (go_at_call 80; refine (HM.out _).mono ?_; rintro e w1 ⟨rfl, rfl⟩)
  go_ret2
  exact ⟨rfl, rfl⟩
theorem infoInt' : (Try.prog.info? 3).map (fun i => (i.zero, i.size, i.bytes)) = some (some (.int .i64 0), 1, 8) := by kernel_rfl
theorem sizeInt : (Try.prog.info? 3).map (·.size) = some 1 := by kernel_rfl
/-- q numbers are there, the others are still 0 -/
def repL (x : Int) (q n : Nat) : List Value := List.replicate q (.int .i64 x) ++ List.replicate (n - q) (.int .i64 0)
theorem repL_len (x : Int) {q n : Nat} (h : q ≤ n) : (repL x q n).length = n := by simp [repL]; omega
theorem repL_all (x : Int) (n : Nat) : repL x n n = List.replicate n (.int .i64 x) := by simp [repL]
theorem repL_none (x : Int) (n : Nat) : repL x 0 n = List.replicate n (.int .i64 0) := by simp [repL]
theorem repL_splice (x : Int) (q r n : Nat) : splice (repL x q n) q (List.replicate r (.int .i64 x)) = repL x (q + r) n := by
  unfold splice repL
  rw [List.length_replicate, List.take_left' (by simp), List.drop_append, List.length_replicate, List.drop_eq_nil_of_le (by simp), List.nil_append, show q + r - q = r by omega, List.drop_replicate, ← List.append_assoc, List.replicate_append_replicate]
  congr 2
  omega
/-- the row that is filled -/
structure RepAt (w X : World) (g : Nat) (x : Int) (q n : Nat) : Prop where
  row : X.heap[g]? = some (.cells (repL x q n).toArray 3 (0, 0))
  bel : Below w.heap.size w X
  ge : w.heap.size ≤ g
theorem RepAt.cell {w X : World} {g q n : Nat} {x : Int} (h : RepAt w X g x q n) (i : Nat) (hi : i < q) : X.cell? ⟨g, i, none⟩ = some (.int .i64 x) := by
  simp [World.cell?, h.row, repL, List.getElem?_append, hi]
theorem copy_rep {w X Y : World} {g q r n : Nat} {x : Int} (h : RepAt w X g x q n) (hr : Y.heap[g]? = some (.cells (splice (repL x q n) q (List.replicate r (.int .i64 x))).toArray 3 (0, 0))) (hb : Below w.heap.size w Y) : RepAt w Y g x (q + r) n := by
  rw [repL_splice] at hr
  exact ⟨hr, hb, h.ge⟩
theorem wpIn_copy_row {F : Fence} {m : Nat} {P : Program} (w : World) {o : Oper} {a : Act} {K : Act → World → Prop} {Q : Exit → Act → World → Prop} (d s : Operand) (dT sT : TypeId)
    (ho : o.op = .call { callee := .builtin .copy, args := #[d, s], argTypes := #[dT, sT] }) (elem : TypeId) (hu : P.underlying dT = some (.slice elem)) (hsz : (P.info? elem).map (·.size) = some 1)
    (g off dLen dCap : Nat) (ad : Addr) (sLen sCap : Nat) (hd : a.eval d = .slice (some ⟨g, off, none⟩) dLen dCap) (hs : a.eval s = .slice (some ad) sLen sCap)
    (cur : List Value) (t : TypeId) (hg : w.heap[g]? = some (.cells cur.toArray t (0, 0))) (cs : List Value) (hn : cs.length = Nat.min sLen dLen)
    (hsrc : ∀ j v, cs[j]? = some v → w.cell? (ad.add j) = some v) (hfit : off + cs.length ≤ cur.length) (h1 : ∀ v ∈ cs, v.oneCell' = true) (B : Nat) (w0 : World) (hb : Below B w0 w) (hBg : B ≤ g)
    (h : ∀ w', Hid (w'.heap[g]? = some (.cells (splice cur off cs).toArray t (0, 0))) → Below B w0 w' → K (a.put o.dst (goInt cs.length)) w') : Oper.wpIn F m P o a w K Q := by
  have hrun := run_copy_row (P := P) w dT sT o.type elem g off dLen dCap ad sLen sCap cur.toArray t cs hu hsz hg hn hsrc (by simpa using hfit) h1
  unfold Oper.wpIn
  refine ⟨?_, ?_⟩
  · simp [Oper.about, ho, resolve, Target.leads, Sem.run_pure]
  · rw [Oper.semAt_plain F _ _ (by rw [ho]; intro c hc'; cases hc')]
    simp [execOp, ho, resolve, invoke, builtin, hd, hs, hrun, Result.andThen]
    exact h _ (show _ = _ by simpa [splice] using setRow_heap w g _ _ t _ hg) (below_setRow hb hBg _)
theorem made_row {w X : World} {B g n : Nat} {x : Int} (h : X.ownsRow B 3 1 (.slice (some ⟨g, 0, none⟩) n n) n (List.replicate n (.int .i64 0))) (hb : Below w.heap.size w X) (hg : w.heap.size ≤ g) : RepAt w X g x 0 n := by
  refine ⟨?_, hb, hg⟩
  rcases h.2 with ⟨e, _⟩ | ⟨g', cap', cur, e, _, hgb, _, _, hs, ht⟩
  · cases e
  · cases e
    rw [hgb, repL_none, ← ht, List.take_of_length_le (by simp [hs])]
theorem rep_src {X : World} {ad : Addr} {x : Int} {r : Nat} (h : ∀ j, j < r → X.cell? (ad.add j) = some (.int .i64 x)) : ∀ j v, (List.replicate r (Value.int .i64 x))[j]? = some v → X.cell? (ad.add j) = some v := fun j v hj => by
  rw [List.getElem?_replicate] at hj
  split at hj
  · rename_i hlt
    cases hj
    exact h j hlt
  · cases hj
theorem rep_one (r : Nat) (x : Int) : ∀ v ∈ List.replicate r (Value.int .i64 x), v.oneCell' = true := fun v hv => by
  rw [List.eq_of_mem_replicate hv]; rfl
theorem add_at (g o j : Nat) : (⟨g, o, none⟩ : Addr).add j = ⟨g, o + j, none⟩ := by unfold Addr.add; split <;> simp_all
theorem rep_pos {X : World} {g b o n : Nat} {x : Int} (hx : X.cell? ⟨b, o, none⟩ = some (.int .i64 x)) : 0 < (List.replicate (min 1 n) (Value.int .i64 x)).length → (some ⟨g, 0, none⟩ : Option Addr) = some ⟨g, 0, none⟩ ∧ ∃ ad, (some ⟨b, o, none⟩ : Option Addr) = some ad ∧ ∀ j v, (List.replicate (min 1 n) (Value.int .i64 x))[j]? = some v → X.cell? (ad.add j) = some v :=
  fun _ => ⟨rfl, _, rfl, rep_src fun j hj => by
    obtain rfl : j = 0 := by omega
    rw [add_at]
    exact hx⟩
theorem rep_copy {w X : World} {g q r n : Nat} {x : Int} (h : RepAt w X g x q n) (hqn : q ≤ n) (hr : r = min q (n - q)) :
    ∃ Y, RepAt w Y g x (q + r) n ∧ (Builtin.copy_ #[52, 52] 3 #[.slice (some ⟨g, q, none⟩) (n - q) (n - q), .slice (some ⟨g, 0, none⟩) q n]).run Try.prog X = .ok (.int .i64 (r : Int)) Y := by
  have hrun := run_copy_row (P := Try.prog) X 52 52 3 3 g q (n - q) (n - q) ⟨g, 0, none⟩ q n (repL x q n).toArray 3 (List.replicate r (.int .i64 x)) Try.underlying52 sizeInt h.row (by rw [List.length_replicate, hr])
    (rep_src fun j hj => by rw [add_at, Nat.zero_add]; exact h.cell j (by omega)) (by rw [List.length_replicate, List.size_toArray, repL_len x hqn]; omega) (rep_one _ _)
  refine ⟨_, ?_, by rw [hrun, List.length_replicate]; rfl⟩
  refine copy_rep h ?_ (below_setRow h.bel h.ge _)
  have h2 := setRow_heap X g (repL x q n).toArray ((repL x q n).take q ++ (List.replicate r (Value.int .i64 x) ++ (repL x q n).drop (q + r))).toArray 3 (0, 0) h.row
  simpa [splice] using h2
def RepRet (x : Int) (n : Nat) (w : World) (e : Ending) (w' : World) : Prop := ∃ g, e = .returned (.slice (some ⟨g, 0, none⟩) n n) ∧ RepAt w w' g x n n
set_option maxRecDepth 100000 in
set_option maxHeartbeats 4000000 in
theorem repeat_any (x : Int) (b o cx n : Nat) (w : World) (hn : n ≤ 10000) (hx : w.cell? ⟨b, o, none⟩ = some (.int .i64 x)) :
    Calls Try.prog 70 #[.slice (some ⟨b, o, none⟩) 1 cx, .int .i64 n] w (RepRet x n w) := by
  obtain ⟨i0, hi0, hz0, hz1, hz2⟩ := info_parts infoInt'
  have HM := Lib.hid (fun W => mul_one n (by omega) W)
  have k1 : IntKind.u64.wrap (n : Int) = (n : Int) := by rw [IntKind.wrap_u64]; omega
  have k2 : IntKind.i64.wrap (n : Int) = (n : Int) := IntWalk.i64_in _ (by omega)
  have k3 : ¬ ((9223372036854775807 : Int) < (n : Int)) := by omega
  have k4 : ¬ ((n : Int) < 0) := by omega
  have HX := Lib.hid hx
  clear hx
  go_enter Try.func70, Try.ntmps70
  have HXX := Lib.hid (fun (X : World) (hX : Below w.heap.size w X) => cell_below hX HX.out)
  go_wp2_with (first | (go_at_call 78; refine (HM.out _).mono ?_; rintro e w1 ⟨rfl, rfl⟩) | (at_make; refine wpList_make_full _ rfl _ _ 52 rfl w.heap.size 3 i0 (.int .i64 0) 1 Try.underlying52 hi0 hz0 hz1 .i64 .i64 _ _ n rfl rfl rfl rfl (by rw [hz2]; omega) (by unfold maxLen; omega) (Nat.le_refl _) ?_; intro w0 hown0 hgrow0; have HR0 : Hid (RepAt w w0 w.heap.size x 0 n) := Lib.hid (made_row (by rw [Nat.mul_one, show (Value.int .i64 0).cells = #[.int .i64 0] from rfl, toList_madeCells_one] at hown0; exact hown0) ((Below.refl _ _).grown hgrow0 (Nat.le_refl _) (fun k hk => by cases hk)) (Nat.le_refl _)); clear hown0 hgrow0) |
    (refine wpList_copy_splice (o := ⟨some 33, _, _, _, _, _⟩) rfl (.tmp 31) (.tmp 32) 52 52 rfl 3 Try.underlying52 sizeInt (some ⟨w.heap.size, 0, none⟩) (some ⟨b, o, none⟩) n n 1 cx rfl rfl w.heap.size 0 (repL x 0 n) 3 HR0.out.row (List.replicate (min 1 n) (.int .i64 x)) (by rw [List.length_replicate]) (rep_pos (HXX.out _ HR0.out.bel)) (by rw [List.length_replicate, repL_len x (Nat.zero_le _)]; omega) (rep_one _ _) w.heap.size w HR0.out.bel (Nat.le_refl _) ?_; intro w2 hrow2 hb2; have HR1 := Lib.hid (copy_rep HR0.out hrow2.out hb2); clear hrow2 hb2))
  clear HXX HR0 HX HM
  go_loopw [8] (fun s wr => ∃ q : Nat, (q ≤ n ∧ (1 ≤ q ∨ n = 0)) ∧ s = .int .i64 (q : Int) ∧ Hid (RepAt w wr w.heap.size x q n)) (fun s _ => n - (intOf s).toNat)
  case atStart => exact ⟨0 + min 1 n, by omega, by simp, HR1⟩
  case round =>
    obtain ⟨q, ⟨hq1, hq2⟩, rfl, HE⟩ := hrel
    by_cases hlt : q < n
    · have hqi : (q : Int) < (n : Int) := by omega
      have hqi2 : (q : Int) ≤ (n : Int) := by omega
      have hqn : q ≤ n := by omega
      obtain ⟨r, hr⟩ : ∃ r, r = min q (n - q) := ⟨_, rfl⟩
      have hr1 : 1 ≤ r ∧ q + r ≤ n := by omega
      have v1 : IntKind.i64.wrap ((q : Int) + (r : Int)) = ((q + r : Nat) : Int) := by rw [IntWalk.i64_in _ (by omega)]; omega
      have HR := Lib.hid hr
      have HQ := Lib.hid hr1
      clear hr hr1
      have hnq : ¬ n = q := by omega
      have hq0 : q ≤ n - q ∨ n - q ≤ q := by omega
      obtain ⟨Y, hY, hrun⟩ := rep_copy (X := wr.drew) (g := w.heap.size) (x := x) (r := r) ⟨HE.out.row, HE.out.bel.drew, Nat.le_refl _⟩ hqn HR.out
      have HY := Lib.hid hY
      have HM2 := Lib.hid (show n - (q + r) < n - q by have := HQ.out; omega)
      have hqr := HQ.out
      clear hY hq0 hqr
      go_wp2
      go_region
      go_wp2
      go_roundw
      case rel => exact ⟨q + r, by have := HQ.out; omega, by simp, HY⟩
      case measure => have := HQ.out; simp [intOf]; omega
    · obtain rfl : q = n := by omega
      have HF := Lib.hid (show RepRet x q w (.returned (.slice (some ⟨w.heap.size, 0, none⟩) q q)) wr from ⟨_, rfl, HE.out⟩)
      go_wp2
      go_ret
      exact HF.out
end Go.Proofs.Ytlelamjbfjneiaa.Ct
