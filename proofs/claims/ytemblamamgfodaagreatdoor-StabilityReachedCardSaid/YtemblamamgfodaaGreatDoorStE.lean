/- Contracts of layer 3: the iterators over second and third differences. -/
import Derived.Test.YtemblamamgfodaaGreatDoorStA
import Derived.Test.YtemblamamgfodaaGreatDoorStPre
import Derived.RangeFuncNested
import Derived.RangeFuncBound
import Derived.RangeFuncCalls
import Derived.RangeFuncLeaves
import Derived.Shelf.Abstract
import Derived.Shelf.RegionOpen
import Derived.OwnWalkIn
import Derived.TacticsInMore
import Derived.LoopNIn
import Derived.LoopIn
namespace Go.Proofs.YtemblamamgfodaaGreatDoor
open Go Go.RowKit Go.Shelf
attribute [local go_sem] Oper.semAt_some
/-- what an iterator of this layer gives -/
def SInt : Type := { x : Int // -200000000 ≤ x ∧ x ≤ 200000000 }
/-- the blocks of which f holds lie as they lay -/
def Stay (f : Nat → Prop) (A B : World) : Prop := A.heap.size ≤ B.heap.size ∧ ∀ k, f k → B.heap[k]? = A.heap[k]?
theorem Stay.refl {f : Nat → Prop} {A : World} : Stay f A A := ⟨Nat.le_refl _, fun _ _ => rfl⟩
theorem Stay.trans {f : Nat → Prop} {A B C : World} (h : Stay f A B) (k : Stay f B C) : Stay f A C :=
  ⟨Nat.le_trans h.1 k.1, fun i h1 => (k.2 i h1).trans (h.2 i h1)⟩
theorem Stay.putObj {f : Nat → Prop} {w : World} (hn : ∀ k, f k → k < w.heap.size) (W : World) (l : Nat) (o o' : Obj) (hl : w.heap.size ≤ l) (_h : W.heap[l]? = some o) (_ : o.isCells = false) (_ : o.isWalk = false) : Stay f W (W.putObj l o') :=
  ⟨by simp, fun k hk => World.putObj_heap_other (by have := hn k hk; omega)⟩
theorem Stay.cell {f : Nat → Prop} {b o : Nat} {A B : World} {v : Value} (h : Stay f A B) (hb : f b) (hc : A.cell? ⟨b, o, none⟩ = some v) : B.cell? ⟨b, o, none⟩ = some v := by
  rw [← hc]; exact World.cell?_of_block (a := ⟨b, o, none⟩) (h.2 b hb)
theorem Stay.of_below {f : Nat → Prop} {B : Nat} {A C : World} (h : Below B A C) (hn : ∀ k, f k → k < B) : Stay f A C := ⟨h.size, fun k hk => h.block k (hn k hk)⟩
/-! plain -/
def cntS (len m st : Nat) : Nat := (len - m + st - 1) / st
theorem cntS_lt {len m st j : Nat} (hs : 1 ≤ st) : j < cntS len m st ↔ j * st + m < len := by
  unfold cntS
  rw [Nat.lt_iff_add_one_le, Nat.le_div_iff_mul_le hs, Nat.add_mul]
  omega
def secAt (l : List Int) (m i : Nat) : Int := atL l (i + 2 * m) - 2 * atL l (i + m) + atL l i
def secD (l : List Int) (hp : phasesOk l = true) (m i : Nat) : SInt := ⟨secAt l m i, by
  have h1 := atL_bd hp (i + 2 * m); have h2 := atL_bd hp (i + m); have h3 := atL_bd hp i; unfold secAt; omega⟩
def secL (l : List Int) (hp : phasesOk l = true) (m st k : Nat) : List SInt := (List.range k).map fun j => secD l hp m (j * st)
theorem secL_succ (l : List Int) (hp : phasesOk l = true) (m st k : Nat) : secL l hp m st (k + 1) = secL l hp m st k ++ [secD l hp m (k * st)] := by
  simp [secL, List.range_succ]
theorem secL_len (l : List Int) (hp : phasesOk l = true) (m st k : Nat) : (secL l hp m st k).length = k := by simp [secL]
theorem secL_prefix (l : List Int) (hp : phasesOk l = true) (m st : Nat) {k n : Nat} (h : k ≤ n) : secL l hp m st k <+: secL l hp m st n := by
  obtain ⟨d, rfl⟩ := Nat.exists_eq_add_of_le h
  refine ⟨(List.range d).map (fun j => secD l hp m ((k + j) * st)), ?_⟩
  simp [secL, List.range_add, Function.comp_def]
/-- what the iterator over second differences reads -/
def SecIn (w : World) (Bm Bs Bt : Nat) (m st : Nat) (l : List Int) (p : Option Addr) (cap : Nat) : Prop :=
  w.cell? ⟨Bm, 0, none⟩ = some (.int .i64 m) ∧ w.cell? ⟨Bs, 1, none⟩ = some (.slice p l.length cap) ∧ w.cell? ⟨Bt, 0, none⟩ = some (.int .i64 st) ∧ SliceIn p l.length (IntsAt w l)
def SecOk (f : Nat → Prop) (Bm Bs Bt : Nat) (p : Option Addr) (n : Nat) : Prop := f Bm ∧ f Bs ∧ f Bt ∧ (n = 0 ∨ ∀ b o, p = some ⟨b, o, none⟩ → f b)
theorem SecIn.stay {A B : World} {f : Nat → Prop} {Bm Bs Bt m st : Nat} {l : List Int} {p : Option Addr} {cap : Nat} (h : SecIn A Bm Bs Bt m st l p cap) (hk : Stay f A B) (ho : SecOk f Bm Bs Bt p l.length) : SecIn B Bm Bs Bt m st l p cap := by
  refine ⟨hk.cell ho.1 h.1, hk.cell ho.2.1 h.2.1, hk.cell ho.2.2.1 h.2.2.1, ?_⟩
  rcases h.2.2.2 with h0 | ⟨b, o, hp, hi⟩
  · exact .inl h0
  · rcases ho.2.2.2 with h0 | hf
    · exact .inl h0
    · exact .inr ⟨b, o, hp, fun i hi' => hk.cell (hf b o hp) (hi i hi')⟩
set_option maxRecDepth 100000 in
set_option maxHeartbeats 2000000 in
theorem seconds1_in (n lp Bm Bs Bt m st : Nat) (f : Nat → Prop) (l : List Int) (p : Option Addr) (cap : Nat) (ho : SecOk f Bm Bs Bt p l.length) (hp : phasesOk l = true) (h128 : l.length ≤ 128)
    (hm : 1 ≤ m ∧ m ≤ 1000) (hst : 1 ≤ st ∧ st ≤ 1000) (hn : 1 ≤ n) (J Jx : List SInt → World → Prop) (W : World)
    (hY : ∀ pre d W1, J pre W1 → pre.length < cntS l.length (2 * m) st → YieldAt Fence.wide (n - 1) Tryz.prog lp #[.int .i64 d.1] W1 fun e W' =>
      (e = .returned (.bool true) ∧ J (pre ++ [d]) W' ∧ Stay f W1 W') ∨ (e = .returned (.bool false) ∧ Jx (pre ++ [d]) W'))
    (hJ : AbidesFrom W.heap.size J) (hD : SecIn W Bm Bs Bt m st l p cap) (hJ0 : J [] W) :
    CallsIn Fence.wide n Tryz.prog 141 #[.func (.yield lp) #[] #[], .pointer (some ⟨Bm, 0, none⟩), .pointer (some ⟨Bs, 0, none⟩), .pointer (some ⟨Bt, 0, none⟩)] W fun e W' => (∃ v, e = .returned v) ∧
      ((∃ ys, ys = secL l hp m st (cntS l.length (2 * m) st) ∧ J ys W') ∨ (∃ pre, pre <+: secL l hp m st (cntS l.length (2 * m) st) ∧ Jx pre W')) := by
  have hro : Fence.wide.round = none := rfl
  have HJ := Lib.hid (show ∀ (s : List SInt) (A : World) (k : Nat), W.heap.size ≤ A.heap.size → J s A → J s (A.drewN k) from fun s A k _ h => hJ s A _ none h ⟨rfl, rfl, rfl, Nat.le_refl _, fun _ _ _ => rfl⟩ (fun r e => by cases e))
  have HD0 := Lib.hid hD
  have HSZ := Lib.hid (Nat.le_refl W.heap.size)
  clear hD hJ
  refine callsIn_of_wp Tryz.func141 rfl trivial ?_ hro
  simp only [Tryz.ntmps141, List.size_toArray, List.length_cons, List.length_nil, Nat.reduceAdd, Nat.reduceSub, Array.replicate_succ, Array.replicate_zero, List.push_toArray, List.append_toArray, List.nil_append, List.cons_append]
  gi_wp2
  gi_loopw [5] (fun i wr => ∃ j q : Nat, j ≤ cntS l.length (2 * m) st ∧ q = j * st ∧ q ≤ 2000 ∧ i = .int .i64 (q : Int) ∧ Hid (SecIn wr Bm Bs Bt m st l p cap) ∧ Hid (W.heap.size ≤ wr.heap.size) ∧ J (secL l hp m st j) wr) (fun i _ => (3000 - intOf i).toNat)
  case atStart => exact ⟨0, 0, Nat.zero_le _, by simp, by omega, rfl, HD0, HSZ, hJ0⟩
  case round =>
    obtain ⟨j, q, hj, hq, hq2, rfl, HD, HS, hJj⟩ := hrel
    have hc := cntS_lt (len := l.length) (m := 2 * m) (st := st) (j := j) hst.1
    rw [← hq] at hc
    obtain ⟨d0, d1, d2, d3⟩ := id HD.out
    by_cases hlt : j < cntS l.length (2 * m) st
    · have hql := hc.1 hlt
      obtain ⟨b, o, rfl, hi⟩ := d3.resolve_left (by omega)
      have x0 := hi q (by omega)
      have x1 := hi (q + m) (by omega)
      have x2 := hi (q + 2 * m) (by omega)
      rw [atL_get] at x0 x1 x2
      obtain ⟨u1, hu1⟩ : ∃ u : Nat, u = q + m := ⟨_, rfl⟩
      obtain ⟨u2, hu2⟩ : ∃ u : Nat, u = q + 2 * m := ⟨_, rfl⟩
      have hyy := fun W1 h1 => hY _ (secD l hp m (j * st)) W1 (h1 : J (secL l hp m st j) W1) (by rw [secL_len]; exact hlt)
      rw [← secL_succ, ← hq] at hyy
      dsimp only [secD, secAt] at hyy
      rw [← hu1] at x1 hyy
      rw [← hu2] at x2 hyy hql
      have b0 := atL_bd hp q
      have b1 := atL_bd hp u1
      have b2 := atL_bd hp u2
      generalize atL l q = y0 at *
      generalize atL l u1 = y1 at *
      generalize atL l u2 = y2 at *
      have w1 : IntKind.i64.wrap (2 * (m : Int)) = 2 * m := IntWalk.i64_in _ (by omega)
      have w2 : IntKind.i64.wrap ((q : Int) + 2 * (m : Int)) = (u2 : Int) := by rw [IntWalk.i64_in _ (by omega)]; omega
      have w3 : IntKind.i64.wrap ((q : Int) + (m : Int)) = (u1 : Int) := by rw [IntWalk.i64_in _ (by omega)]; omega
      have w4 : IntKind.i64.wrap (2 * y1) = 2 * y1 := IntWalk.i64_in _ (by omega)
      have w5 : IntKind.i64.wrap (y2 - 2 * y1) = y2 - 2 * y1 := IntWalk.i64_in _ (by omega)
      have w6 : IntKind.i64.wrap (y2 - 2 * y1 + y0) = y2 - 2 * y1 + y0 := IntWalk.i64_in _ (by omega)
      have l0 : (q : Int) < l.length := by omega
      have l1 : (u1 : Int) < l.length := by omega
      have l2 : (u2 : Int) < l.length := by omega
      have HQ := Lib.hid hq
      have hj4 := Lib.hid (show j + 1 ≤ cntS l.length (2 * m) st by omega)
      clear hi hc hlt hu1 hu2 hq
      gi_wp2
      refine wpIn_region_pre_lit 24 2 rfl (by kernel_rfl) (by kernel_rfl) (by kernel_rfl) (by kernel_rfl) rfl ?_
      simp only [List.take_succ_cons, List.take_zero]
      repeat (refine wpQuietIn_step (by first | exact fun _ _ _ _ => trivial | quiet_asked_in) (fun KQ hKQ => ?_); go_simp; first | (refine hKQ _ ?_; clear hKQ KQ) | (apply Exists.intro; refine ⟨fun _ => ?_, hKQ _ ?_⟩; (fail); clear hKQ KQ))
      refine wpQuietIn_nil ?_
      intro _ hwq1
      obtain ⟨nq, hwq2⟩ := hwq1
      subst hwq2
      simp only [List.replicate_succ, List.replicate_zero, List.cons_append, List.nil_append]
      obtain ⟨fn, tmps, assign, body, hy, hR⟩ := hyy (wr.drewN nq) (HJ.out _ _ _ HS.out hJj)
      clear hyy
      refine wpAnyIn_ready (rs := [24]) (by kernel_rfl) (by simp) (AllReadyIn.cons rfl (fun K' hK => ?_) AllReadyIn.nil)
      go_simp
      refine hR.mono ?_
      rintro e W3 (⟨rfl, hJ3, hk3⟩ | ⟨rfl, hJx3⟩)
      · go_simp
        refine hK _ _ ?_
        clear hK
        refine wpAnyIn_ready (rs := [25]) (by kernel_rfl) (by simp) (AllReadyIn.cons rfl (fun K' hK => ?_) AllReadyIn.nil)
        go_simp
        refine hK _ _ ?_
        clear hK
        refine wpAnyIn_done (by kernel_rfl) ?_ _
        have HD3 := Lib.hid (SecIn.stay (show SecIn (wr.drewN nq) Bm Bs Bt m st l _ cap from HD.out) hk3 ho)
        have HS3 := Lib.hid (Nat.le_trans HS.out hk3.1)
        have d2' := HD3.out.2.2.1
        clear d0 d1 d2 d3 x0 x1 x2 hk3
        have hj5 := hj4.out
        gi_wp2
        go_roundw
        case rel => exact ⟨j + 1, q + st, by omega, by rw [HQ.out, Nat.add_mul, Nat.one_mul], by omega, by simp, HD3, HS3, hJ3⟩
        case measure => simp [intOf]; omega
      · go_simp
        refine hK _ _ ?_
        clear hK
        refine wpAnyIn_ready (rs := [25]) (by kernel_rfl) (by simp) (AllReadyIn.cons rfl (fun K' hK => ?_) AllReadyIn.nil)
        go_simp
        refine hK _ _ ?_
        clear hK
        refine wpAnyIn_done (by kernel_rfl) ?_ _
        gi_wp2
        refine bodyPost_ret (results_none rfl _ _ _) rfl ?_
        exact ⟨⟨_, rfl⟩, .inr ⟨_, secL_prefix l hp m st hj4.out, hJx3⟩⟩
    · have hql : ¬ (q + 2 * m < l.length) := fun h => hlt (hc.2 h)
      obtain rfl : j = cntS l.length (2 * m) st := by omega
      clear hc hlt
      gi_wp2
      go_end0
      exact ⟨⟨_, rfl⟩, .inl ⟨_, rfl, hJj⟩⟩
end Go.Proofs.YtemblamamgfodaaGreatDoor
