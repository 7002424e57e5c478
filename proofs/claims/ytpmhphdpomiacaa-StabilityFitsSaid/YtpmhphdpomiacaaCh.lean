/- The iterator of slices.Chunk over a list of numbers. -/
import Derived.Test.YtpmhphdpomiacaaStG
namespace Go.Proofs.Ytpmhphdpomiacaa
open Go Go.RowKit Go.Shelf
attribute [local go_sem] Oper.semAt_some
/-- how long the part is that begins at q -/
def partN (len m q : Nat) : Nat := min m (len - q)
def partV (b o len m q : Nat) : Value := .slice (some ⟨b, o + q, none⟩) (partN len m q) (partN len m q)
/-- where the parts begin -/
abbrev PIx (len : Nat) : Type := { q : Nat // q < len }
def startAt (len m : Nat) (h0 : 0 < len) (j : Nat) : PIx len := if h : j * m < len then ⟨j * m, h⟩ else ⟨0, h0⟩
def startsL (len m : Nat) (h0 : 0 < len) (k : Nat) : List (PIx len) := (List.range k).map (startAt len m h0)
theorem startsL_succ (len m : Nat) (h0 : 0 < len) (k : Nat) : startsL len m h0 (k + 1) = startsL len m h0 k ++ [startAt len m h0 k] := by simp [startsL, List.range_succ]
theorem startsL_len (len m : Nat) (h0 : 0 < len) (k : Nat) : (startsL len m h0 k).length = k := by simp [startsL]
theorem startsL_prefix (len m : Nat) (h0 : 0 < len) {k n : Nat} (h : k ≤ n) : startsL len m h0 k <+: startsL len m h0 n := by
  obtain ⟨d, rfl⟩ := Nat.exists_eq_add_of_le h
  refine ⟨(List.range d).map (fun j => startAt len m h0 (k + j)), ?_⟩
  simp [startsL, List.range_add, Function.comp_def]
theorem startAt_val (len m : Nat) (h0 : 0 < len) (j : Nat) (h : j * m < len) : (startAt len m h0 j).1 = j * m := by
  unfold startAt; rw [dif_pos h]
/-- what the iterator reads -/
def ChIn (w : World) (Bs Bn : Nat) (m len b o cap : Nat) : Prop :=
  w.cell? ⟨Bs, 0, none⟩ = some (.slice (some ⟨b, o, none⟩) len cap) ∧ w.cell? ⟨Bn, 0, none⟩ = some (.int .i64 m)
theorem ChIn.stay {A B : World} {f : Nat → Prop} {Bs Bn m len b o cap : Nat} (h : ChIn A Bs Bn m len b o cap) (hk : Stay f A B) (h1 : f Bs) (h2 : f Bn) : ChIn B Bs Bn m len b o cap :=
  ⟨hk.cell h1 h.1, hk.cell h2 h.2⟩
set_option maxRecDepth 100000 in
set_option maxHeartbeats 2000000 in
theorem chunk1_in (n lp Bs Bn m len b o cap : Nat) (f : Nat → Prop) (h1 : f Bs) (h2 : f Bn) (h128 : len ≤ 128) (hcap : len ≤ cap) (hm : 1 ≤ m ∧ m ≤ 1000) (hn : 1 ≤ n) (h0 : 0 < len) (J Jx : List (PIx len) → World → Prop) (W : World)
    (hY : ∀ pre d W1, J pre W1 → pre.length < cntS len 0 m → YieldAt Fence.wide (n - 1) Try.prog lp #[partV b o len m d.1] W1 fun e W' =>
      (e = .returned (.bool true) ∧ J (pre ++ [d]) W' ∧ Stay f W1 W') ∨ (e = .returned (.bool false) ∧ Jx (pre ++ [d]) W'))
    (hJ : AbidesFrom W.heap.size J) (hD : ChIn W Bs Bn m len b o cap) (hJ0 : J [] W) :
    CallsIn Fence.wide n Try.prog 87 #[.func (.yield lp) #[] #[], .pointer (some ⟨Bs, 0, none⟩), .pointer (some ⟨Bn, 0, none⟩)] W fun e W' => (∃ v, e = .returned v) ∧
      ((∃ ys, ys = startsL len m h0 (cntS len 0 m) ∧ J ys W') ∨ (∃ pre, pre <+: startsL len m h0 (cntS len 0 m) ∧ Jx pre W')) := by
  have hro : Fence.wide.round = none := rfl
  have HJ := Lib.hid (show ∀ (s : List (PIx len)) (A : World) (k : Nat), W.heap.size ≤ A.heap.size → J s A → J s (A.drewN k) from fun s A k _ h => hJ s A _ none h ⟨rfl, rfl, rfl, Nat.le_refl _, fun _ _ _ => rfl⟩ (fun r e => by cases e))
  have HD0 := Lib.hid hD
  have HSZ := Lib.hid (Nat.le_refl W.heap.size)
  clear hD hJ
  refine callsIn_of_wp Try.func87 rfl trivial ?_ hro
  simp only [Try.ntmps87, List.size_toArray, List.length_cons, List.length_nil, Nat.reduceAdd, Nat.reduceSub, Array.replicate_succ, Array.replicate_zero, List.push_toArray, List.append_toArray, List.nil_append, List.cons_append]
  gi_wp2
  gi_loopw [4] (fun i wr => ∃ j q : Nat, j ≤ cntS len 0 m ∧ q = j * m ∧ q ≤ 2000 ∧ i = .int .i64 (q : Int) ∧ Hid (ChIn wr Bs Bn m len b o cap) ∧ Hid (W.heap.size ≤ wr.heap.size) ∧ J (startsL len m h0 j) wr) (fun i _ => (3000 - intOf i).toNat)
  case atStart => exact ⟨0, 0, Nat.zero_le _, by simp, by omega, rfl, HD0, HSZ, hJ0⟩
  case round =>
    obtain ⟨j, q, hj, hq, hq2, rfl, HD, HS, hJj⟩ := hrel
    have hc := cntS_lt (len := len) (m := 0) (st := m) (j := j) hm.1
    rw [← hq, Nat.add_zero] at hc
    obtain ⟨d0, d1⟩ := id HD.out
    by_cases hlt : j < cntS len 0 m
    · have hql := hc.1 hlt
      obtain ⟨e, he⟩ : ∃ e : Nat, e = partN len m q := ⟨_, rfl⟩
      have hyy := fun W1 h1 => hY _ (startAt len m h0 j) W1 (h1 : J (startsL len m h0 j) W1) (by rw [startsL_len]; exact hlt)
      rw [← startsL_succ, startAt_val len m h0 j (by rw [← hq]; exact hql), ← hq] at hyy
      unfold partV at hyy
      rw [← he] at hyy
      obtain ⟨r, hr⟩ : ∃ r : Nat, len - q = r := ⟨_, rfl⟩
      have hemin : (m = e ∧ (m : Int) ≤ (r : Int)) ∨ (r = e ∧ (r : Int) < (m : Int)) := by unfold partN at he; omega
      obtain ⟨u, hu⟩ : ∃ u : Nat, u = q + e := ⟨_, rfl⟩
      have hle : e ≤ len - q := by unfold partN at he; omega
      have he1 : 1 ≤ e := by unfold partN at he; omega
      have lq : (q : Int) < (len : Int) := by omega
      have lq2 : (q : Int) ≤ (len : Int) := by omega
      have lc : (len : Int) ≤ (cap : Int) := by omega
      have we : IntKind.i64.wrap ((q : Int) + (e : Int)) = (u : Int) := by rw [IntWalk.i64_in _ (by omega)]; omega
      have lqe : (u : Int) ≤ (cap : Int) := by omega
      have lqu : (q : Int) ≤ (u : Int) := by omega
      have luq : u - q = e := by omega
      have luc : u ≤ cap := by omega
      have lqn : q ≤ u := by omega
      have lql : q ≤ len := by omega
      have HQ := Lib.hid hq
      have HE := Lib.hid he
      have hj4 := Lib.hid (show j + 1 ≤ cntS len 0 m by omega)
      have HU := Lib.hid hu
      clear hc hlt hq he hu
      rcases hemin with ⟨rfl, hmr⟩ | ⟨rfl, hmr⟩
      all_goals
        gi_wp2
        refine wpIn_region_pre_lit 6 1 rfl (by kernel_rfl) (by kernel_rfl) (by kernel_rfl) (by kernel_rfl) rfl ?_
        simp only [List.take_succ_cons, List.take_zero]
        repeat (refine wpQuietIn_step (by first | exact fun _ _ _ _ => trivial | quiet_asked_in) (fun KQ hKQ => ?_); go_simp; first | (refine hKQ _ ?_; clear hKQ KQ) | (apply Exists.intro; refine ⟨fun _ => ?_, hKQ _ ?_⟩; (fail); clear hKQ KQ))
        refine wpQuietIn_nil ?_
        intro _ hwq1
        obtain ⟨nq, hwq2⟩ := hwq1
        subst hwq2
        simp only [List.replicate_succ, List.replicate_zero, List.cons_append, List.nil_append]
        refine wpAnyIn_ready (rs := [6]) (by kernel_rfl) (by simp) (AllReadyIn.cons rfl (fun K' hK => ?_) AllReadyIn.nil)
        go_simp
        refine hK _ _ ?_
        clear hK
        refine wpAnyIn_done (by kernel_rfl) ?_ _
        obtain ⟨fn, tmps, assign, body, hy, hR⟩ := hyy (wr.drewN nq) (HJ.out _ _ _ HS.out hJj)
        clear hyy
        gi_wp2
        refine hR.mono ?_
        rintro e W3 (⟨rfl, hJ3, hk3⟩ | ⟨rfl, hJx3⟩)
        · have HD3 := Lib.hid (ChIn.stay (show ChIn (wr.drewN nq) Bs Bn m len b o cap from HD.out) hk3 h1 h2)
          have HS3 := Lib.hid (Nat.le_trans HS.out hk3.1)
          have d1' := HD3.out.2
          have hj5 := hj4.out
          clear d0 d1 hk3
          gi_wp2
          go_roundw
          case rel => exact ⟨j + 1, q + m, by omega, by rw [HQ.out, Nat.add_mul, Nat.one_mul], by omega, by first | (congr 1; have := HU.out; omega) | simp, HD3, HS3, hJ3⟩
          case measure => simp [intOf]; omega
        · gi_wp2
          refine bodyPost_ret (results_none rfl _ _ _) rfl ?_
          exact ⟨⟨_, rfl⟩, .inr ⟨_, startsL_prefix len m h0 hj4.out, hJx3⟩⟩
    · have hql : ¬ (q < len) := fun h => hlt (hc.2 h)
      have hqi : ¬ ((q : Int) < (len : Int)) := by omega
      obtain rfl : j = cntS len 0 m := by omega
      clear hc hlt
      gi_wp2
      go_end0
      exact ⟨⟨_, rfl⟩, .inl hJj⟩
/-- slices.Chunk at a list that is there: it hands back an iterator over its parts -/
theorem chunk_gives (m len b o cap : Nat) (w : World) (h0 : 0 < len) (h128 : len ≤ 128) (hcap : len ≤ cap) (hm : 1 ≤ m ∧ m ≤ 1000) :
    Calls Try.prog 56 #[.slice (some ⟨b, o, none⟩) len cap, .int .i64 m] w fun e w1 => ∃ lb, e = .returned (.func (.func 87) #[] lb) ∧ Below w.heap.size w w1 ∧ w1.heap.size = w.heap.size + 2 ∧
      ∀ n, 1 ≤ n → SeqStopsK Fence.wide n Try.prog 87 lb (fun q : PIx len => #[partV b o len m q.1]) (Stay (fun k => w.heap.size ≤ k ∧ k < w.heap.size + 2)) (fun ys => ys = startsL len m h0 (cntS len 0 m)) (fun pre => pre <+: startsL len m h0 (cntS len 0 m)) (startsL len m h0 (cntS len 0 m)).length w1 := by
  have hB0 : Below w.heap.size w ((w.alloc (.cells #[.slice (some ⟨b, o, none⟩) len cap] 22)).alloc (.cells #[.int .i64 m] 3)) := below_alloc (below_alloc (Below.refl _ _) _) _
  have hS : ChIn ((w.alloc (.cells #[.slice (some ⟨b, o, none⟩) len cap] 22)).alloc (.cells #[.int .i64 m] 3)) w.heap.size (w.heap.size + 1) m len b o cap := ⟨by simp [go_sem], by simp [go_sem]⟩
  have HB := Lib.hid hB0
  have HSS := Lib.hid hS
  have hm1 : ¬ ((m : Int) < 1) := by omega
  clear hB0 hS
  go_enter Try.func56, Try.ntmps56
  go_wp2
  go_ret
  refine ⟨_, rfl, HB.out, by simp, ?_⟩
  intro n hn lp J Jx W hW hJ _ hY hJ0
  rw [startsL_len] at hY
  exact chunk1_in n lp _ _ m len b o cap (fun k => w.heap.size ≤ k ∧ k < w.heap.size + 2) ⟨Nat.le_refl _, by omega⟩ ⟨by omega, by omega⟩ h128 hcap hm hn h0 J Jx W hY hJ ⟨cell_below hW HSS.out.1, cell_below hW HSS.out.2⟩ hJ0
end Go.Proofs.Ytpmhphdpomiacaa
