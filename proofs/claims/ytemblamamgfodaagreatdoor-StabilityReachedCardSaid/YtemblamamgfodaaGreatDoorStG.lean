/- Contracts of layer 3: the iterator over third differences. -/
import Derived.Test.YtemblamamgfodaaGreatDoorStF
namespace Go.Proofs.YtemblamamgfodaaGreatDoor
open Go Go.RowKit Go.Shelf
attribute [local go_sem] Oper.semAt_some
def thiAt (l : List Int) (m i : Nat) : Int := atL l (i + 3 * m) - 3 * atL l (i + 2 * m) + 3 * atL l (i + m) - atL l i
def thiD (l : List Int) (hp : phasesOk l = true) (m i : Nat) : SInt := ⟨thiAt l m i, by
  have h1 := atL_bd hp (i + 3 * m); have h2 := atL_bd hp (i + 2 * m); have h3 := atL_bd hp (i + m); have h4 := atL_bd hp i; unfold thiAt; omega⟩
def thiL (l : List Int) (hp : phasesOk l = true) (m k : Nat) : List SInt := (List.range k).map fun j => thiD l hp m j
theorem thiL_succ (l : List Int) (hp : phasesOk l = true) (m k : Nat) : thiL l hp m (k + 1) = thiL l hp m k ++ [thiD l hp m k] := by
  simp [thiL, List.range_succ]
theorem thiL_len (l : List Int) (hp : phasesOk l = true) (m k : Nat) : (thiL l hp m k).length = k := by simp [thiL]
theorem thiL_prefix (l : List Int) (hp : phasesOk l = true) (m : Nat) {k n : Nat} (h : k ≤ n) : thiL l hp m k <+: thiL l hp m n := by
  obtain ⟨d, rfl⟩ := Nat.exists_eq_add_of_le h
  refine ⟨(List.range d).map (fun j => thiD l hp m (k + j)), ?_⟩
  simp [thiL, List.range_add, Function.comp_def]
def ThiIn (w : World) (Bm Bs : Nat) (m : Nat) (l : List Int) (p : Option Addr) (cap : Nat) : Prop :=
  w.cell? ⟨Bm, 0, none⟩ = some (.int .i64 m) ∧ w.cell? ⟨Bs, 1, none⟩ = some (.slice p l.length cap) ∧ SliceIn p l.length (IntsAt w l)
def ThiOk (f : Nat → Prop) (Bm Bs : Nat) (p : Option Addr) (n : Nat) : Prop := f Bm ∧ f Bs ∧ (n = 0 ∨ ∀ b o, p = some ⟨b, o, none⟩ → f b)
theorem ThiIn.stay {A B : World} {f : Nat → Prop} {Bm Bs m : Nat} {l : List Int} {p : Option Addr} {cap : Nat} (h : ThiIn A Bm Bs m l p cap) (hk : Stay f A B) (ho : ThiOk f Bm Bs p l.length) : ThiIn B Bm Bs m l p cap := by
  refine ⟨hk.cell ho.1 h.1, hk.cell ho.2.1 h.2.1, ?_⟩
  rcases h.2.2 with h0 | ⟨b, o, hp, hi⟩
  · exact .inl h0
  · rcases ho.2.2 with h0 | hf
    · exact .inl h0
    · exact .inr ⟨b, o, hp, fun i hi' => hk.cell (hf b o hp) (hi i hi')⟩
set_option maxRecDepth 100000 in
set_option maxHeartbeats 2000000 in
theorem thirds1_in (n lp Bm Bs m : Nat) (f : Nat → Prop) (l : List Int) (p : Option Addr) (cap : Nat) (ho : ThiOk f Bm Bs p l.length) (hp : phasesOk l = true) (h128 : l.length ≤ 128)
    (hm : 1 ≤ m ∧ m ≤ 1000) (hn : 1 ≤ n) (J Jx : List SInt → World → Prop) (W : World)
    (hY : ∀ pre d W1, J pre W1 → pre.length < l.length - 3 * m → YieldAt Fence.wide (n - 1) Tryz.prog lp #[.int .i64 d.1] W1 fun e W' =>
      (e = .returned (.bool true) ∧ J (pre ++ [d]) W' ∧ Stay f W1 W') ∨ (e = .returned (.bool false) ∧ Jx (pre ++ [d]) W'))
    (hJ : AbidesFrom W.heap.size J) (hD : ThiIn W Bm Bs m l p cap) (hJ0 : J [] W) :
    CallsIn Fence.wide n Tryz.prog 144 #[.func (.yield lp) #[] #[], .pointer (some ⟨Bm, 0, none⟩), .pointer (some ⟨Bs, 0, none⟩)] W fun e W' => (∃ v, e = .returned v) ∧
      ((∃ ys, ys = thiL l hp m (l.length - 3 * m) ∧ J ys W') ∨ (∃ pre, pre <+: thiL l hp m (l.length - 3 * m) ∧ Jx pre W')) := by
  have hro : Fence.wide.round = none := rfl
  have HJ := Lib.hid (show ∀ (s : List SInt) (A : World) (k : Nat), W.heap.size ≤ A.heap.size → J s A → J s (A.drewN k) from fun s A k _ h => hJ s A _ none h ⟨rfl, rfl, rfl, Nat.le_refl _, fun _ _ _ => rfl⟩ (fun r e => by cases e))
  have HD0 := Lib.hid hD
  have HSZ := Lib.hid (Nat.le_refl W.heap.size)
  clear hD hJ
  refine callsIn_of_wp Tryz.func144 rfl trivial ?_ hro
  simp only [Tryz.ntmps144, List.size_toArray, List.length_cons, List.length_nil, Nat.reduceAdd, Nat.reduceSub, Array.replicate_succ, Array.replicate_zero, List.push_toArray, List.append_toArray, List.nil_append, List.cons_append]
  gi_wp2
  gi_loopw [4] (fun i wr => ∃ q : Nat, q ≤ l.length - 3 * m ∧ i = .int .i64 (q : Int) ∧ Hid (ThiIn wr Bm Bs m l p cap) ∧ Hid (W.heap.size ≤ wr.heap.size) ∧ J (thiL l hp m q) wr) (fun i _ => (3000 - intOf i).toNat)
  case atStart => exact ⟨0, Nat.zero_le _, rfl, HD0, HSZ, hJ0⟩
  case round =>
    obtain ⟨q, hj, rfl, HD, HS, hJj⟩ := hrel
    obtain ⟨d0, d1, d3⟩ := id HD.out
    by_cases hlt : q < l.length - 3 * m
    · have hql : q + 3 * m < l.length := by omega
      obtain ⟨b, o, rfl, hi⟩ := d3.resolve_left (by omega)
      have x0 := hi q (by omega)
      have x1 := hi (q + m) (by omega)
      have x2 := hi (q + 2 * m) (by omega)
      have x3 := hi (q + 3 * m) (by omega)
      rw [atL_get] at x0 x1 x2 x3
      obtain ⟨u1, hu1⟩ : ∃ u : Nat, u = q + m := ⟨_, rfl⟩
      obtain ⟨u2, hu2⟩ : ∃ u : Nat, u = q + 2 * m := ⟨_, rfl⟩
      obtain ⟨u3, hu3⟩ : ∃ u : Nat, u = q + 3 * m := ⟨_, rfl⟩
      have hyy := fun W1 h1 => hY _ (thiD l hp m q) W1 (h1 : J (thiL l hp m q) W1) (by rw [thiL_len]; exact hlt)
      rw [← thiL_succ] at hyy
      dsimp only [thiD, thiAt] at hyy
      rw [← hu1] at x1 hyy
      rw [← hu2] at x2 hyy
      rw [← hu3] at x3 hyy hql
      have b0 := atL_bd hp q
      have b1 := atL_bd hp u1
      have b2 := atL_bd hp u2
      have b3 := atL_bd hp u3
      generalize atL l q = y0 at *
      generalize atL l u1 = y1 at *
      generalize atL l u2 = y2 at *
      generalize atL l u3 = y3 at *
      have w1 : IntKind.i64.wrap (2 * (m : Int)) = 2 * m := IntWalk.i64_in _ (by omega)
      have w1' : IntKind.i64.wrap (3 * (m : Int)) = 3 * m := IntWalk.i64_in _ (by omega)
      have w2 : IntKind.i64.wrap ((q : Int) + 3 * (m : Int)) = (u3 : Int) := by rw [IntWalk.i64_in _ (by omega)]; omega
      have w2' : IntKind.i64.wrap ((q : Int) + 2 * (m : Int)) = (u2 : Int) := by rw [IntWalk.i64_in _ (by omega)]; omega
      have w3 : IntKind.i64.wrap ((q : Int) + (m : Int)) = (u1 : Int) := by rw [IntWalk.i64_in _ (by omega)]; omega
      have w4 : IntKind.i64.wrap (3 * y2) = 3 * y2 := IntWalk.i64_in _ (by omega)
      have w4' : IntKind.i64.wrap (3 * y1) = 3 * y1 := IntWalk.i64_in _ (by omega)
      have w5 : IntKind.i64.wrap (y3 - 3 * y2) = y3 - 3 * y2 := IntWalk.i64_in _ (by omega)
      have w6 : IntKind.i64.wrap (y3 - 3 * y2 + 3 * y1) = y3 - 3 * y2 + 3 * y1 := IntWalk.i64_in _ (by omega)
      have w7 : IntKind.i64.wrap (y3 - 3 * y2 + 3 * y1 - y0) = y3 - 3 * y2 + 3 * y1 - y0 := IntWalk.i64_in _ (by omega)
      have l0 : (q : Int) < l.length := by omega
      have l1 : (u1 : Int) < l.length := by omega
      have l2 : (u2 : Int) < l.length := by omega
      have l3 : (u3 : Int) < l.length := by omega
      have hj4 := Lib.hid (show q + 1 ≤ l.length - 3 * m by omega)
      clear hi hlt hu1 hu2 hu3
      gi_wp2
      refine wpIn_region_pre_lit 34 2 rfl (by kernel_rfl) (by kernel_rfl) (by kernel_rfl) (by kernel_rfl) rfl ?_
      simp only [List.take_succ_cons, List.take_zero]
      repeat (refine wpQuietIn_step (by first | exact fun _ _ _ _ => trivial | quiet_asked_in) (fun KQ hKQ => ?_); go_simp; first | (refine hKQ _ ?_; clear hKQ KQ) | (apply Exists.intro; refine ⟨fun _ => ?_, hKQ _ ?_⟩; (fail); clear hKQ KQ))
      refine wpQuietIn_nil ?_
      intro _ hwq1
      obtain ⟨nq, hwq2⟩ := hwq1
      subst hwq2
      simp only [List.replicate_succ, List.replicate_zero, List.cons_append, List.nil_append]
      obtain ⟨fn, tmps, assign, body, hy, hR⟩ := hyy (wr.drewN nq) (HJ.out _ _ _ HS.out hJj)
      clear hyy
      refine wpAnyIn_ready (rs := [34]) (by kernel_rfl) (by simp) (AllReadyIn.cons rfl (fun K' hK => ?_) AllReadyIn.nil)
      go_simp
      refine hR.mono ?_
      rintro e W3 (⟨rfl, hJ3, hk3⟩ | ⟨rfl, hJx3⟩)
      · go_simp
        refine hK _ _ ?_
        clear hK
        refine wpAnyIn_ready (rs := [35]) (by kernel_rfl) (by simp) (AllReadyIn.cons rfl (fun K' hK => ?_) AllReadyIn.nil)
        go_simp
        refine hK _ _ ?_
        clear hK
        refine wpAnyIn_done (by kernel_rfl) ?_ _
        have HD3 := Lib.hid (ThiIn.stay (show ThiIn (wr.drewN nq) Bm Bs m l _ cap from HD.out) hk3 ho)
        have HS3 := Lib.hid (Nat.le_trans HS.out hk3.1)
        clear d0 d1 d3 x0 x1 x2 x3 hk3
        gi_wp2
        go_roundw
        case rel => exact ⟨q + 1, hj4.out, by simp, HD3, HS3, hJ3⟩
        case measure => simp [intOf]; omega
      · go_simp
        refine hK _ _ ?_
        clear hK
        refine wpAnyIn_ready (rs := [35]) (by kernel_rfl) (by simp) (AllReadyIn.cons rfl (fun K' hK => ?_) AllReadyIn.nil)
        go_simp
        refine hK _ _ ?_
        clear hK
        refine wpAnyIn_done (by kernel_rfl) ?_ _
        gi_wp2
        refine bodyPost_ret (results_none rfl _ _ _) rfl ?_
        exact ⟨⟨_, rfl⟩, .inr ⟨_, thiL_prefix l hp m hj4.out, hJx3⟩⟩
    · obtain rfl : q = l.length - 3 * m := by omega
      have hql : ¬ (l.length - 3 * m + 3 * m < l.length) := by omega
      have w1' : IntKind.i64.wrap (3 * (m : Int)) = 3 * m := IntWalk.i64_in _ (by omega)
      obtain ⟨q, hq⟩ : ∃ q, q = l.length - 3 * m := ⟨_, rfl⟩
      rw [← hq] at hJj hql hlt ⊢
      have HQ := Lib.hid hq
      clear hlt hj hq
      have HL := Lib.hid (show q ≤ 128 ∧ (l.length : Int) ≤ (q : Int) + 3 * m by have := HQ.out; omega)
      have hz := HL.out
      gi_wp2
      go_end0
      exact ⟨⟨_, rfl⟩, .inl ⟨_, rfl, by rw [← HQ.out]; exact hJj⟩⟩
set_option maxHeartbeats 1000000 in
theorem thirds_gives (tau : Int) (l : List Int) (p : Option Addr) (cap m : Nat) (w : World) (hs : SerIn w l p) (hp : phasesOk l = true) (h128 : l.length ≤ 128) (hm : 1 ≤ m ∧ m ≤ 1000) :
    Gives w l p 100 #[.agg #[.int .i64 tau, .slice p l.length cap], .int .i64 m] 144 (thiL l hp m (l.length - 3 * m)) := by
  have hB0 : Below w.heap.size w ((w.alloc (.cells #[.int .i64 tau, .slice p l.length cap] 56)).alloc (.cells #[.int .i64 m] 3)) := below_alloc (below_alloc (Below.refl _ _) _) _
  have hS : ThiIn ((w.alloc (.cells #[.int .i64 tau, .slice p l.length cap] 56)).alloc (.cells #[.int .i64 m] 3)) (w.heap.size + 1) w.heap.size m l p cap :=
    ⟨by simp [go_sem], by simp [go_sem], (hs.below hB0).2⟩
  have HS := Lib.hid hs
  have HB := Lib.hid hB0
  have HSS := Lib.hid hS
  clear hs hB0 hS
  unfold Gives
  go_enter Tryz.func100, Tryz.ntmps100
  go_wp2
  go_ret
  refine ⟨_, (fun k => (w.heap.size ≤ k ∧ k < w.heap.size + 2) ∨ (l ≠ [] ∧ ∃ o, p = some ⟨k, o, none⟩)), rfl, HB.out, ?_, ?_⟩
  · rintro k (⟨h1, h2⟩ | ⟨h1, o, h2⟩)
    · exact ⟨by simp; omega, .inl h1⟩
    · exact ⟨by have := HS.out.blk h1 h2; simp; omega, .inr ⟨h1, o, h2⟩⟩
  · intro n hn lp J Jx W hW hJ _ hY hJ0
    have ho : ThiOk (fun k => (w.heap.size ≤ k ∧ k < w.heap.size + 2) ∨ (l ≠ [] ∧ ∃ o, p = some ⟨k, o, none⟩)) (w.heap.size + 1) w.heap.size p l.length := by
      refine ⟨.inl (by omega), .inl (by omega), ?_⟩
      by_cases hl : l = []
      · exact .inl (by simp [hl])
      · exact .inr fun b o h => .inr ⟨hl, o, h⟩
    rw [thiL_len] at hY
    exact thirds1_in n lp _ _ m _ l p cap ho hp h128 hm hn J Jx W hY hJ (HSS.out.stay (Stay.of_below hW (fun k hk => by
      rcases hk with ⟨h1, h2⟩ | ⟨h1, o, h2⟩
      · simp; omega
      · have := HS.out.blk h1 h2; simp; omega)) ho) hJ0
end Go.Proofs.YtemblamamgfodaaGreatDoor
