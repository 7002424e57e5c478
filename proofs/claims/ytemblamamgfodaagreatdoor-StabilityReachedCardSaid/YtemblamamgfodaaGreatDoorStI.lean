/- Contracts of layer 3: the iterator over sums. -/
import Derived.Test.YtemblamamgfodaaGreatDoorStG
import Derived.Test.YtemblamamgfodaaGreatDoorStH
namespace Go.Proofs.YtemblamamgfodaaGreatDoor
open Go Go.RowKit Go.Shelf
attribute [local go_sem] Oper.semAt_some
/-- the cells of which f holds lie as they lay -/
def StayC (f : Nat → Prop) (A B : World) : Prop := A.heap.size ≤ B.heap.size ∧ ∀ k o, f k → A.heap[k]? = some o → o.isCells = true → B.heap[k]? = some o
theorem StayC.trans {f : Nat → Prop} {A B C : World} (h : StayC f A B) (k : StayC f B C) : StayC f A C :=
  ⟨Nat.le_trans h.1 k.1, fun i o h1 h2 h3 => k.2 i o h1 (h.2 i o h1 h2 h3) h3⟩
theorem StayC.putObj {f : Nat → Prop} {w : World} (W : World) (l : Nat) (o o' : Obj) (_hl : w.heap.size ≤ l) (h : W.heap[l]? = some o) (hc : o.isCells = false) (_ : o.isWalk = false) : StayC f W (W.putObj l o') :=
  ⟨by simp, fun k ob _ hk hkc => by
    by_cases hkl : k = l
    · subst hkl; rw [h] at hk; cases hk; rw [hc] at hkc; cases hkc
    · exact (World.putObj_heap_other hkl).trans hk⟩
theorem cells_of_cell {A : World} {b o : Nat} {v : Value} (h : A.cell? ⟨b, o, none⟩ = some v) : ∃ ob, A.heap[b]? = some ob ∧ ob.isCells = true := by
  have hl := cell_lt h
  obtain ⟨ob, hob⟩ : ∃ ob, A.heap[b]? = some ob := ⟨_, Array.getElem?_eq_getElem hl⟩
  refine ⟨ob, hob, ?_⟩
  cases ob <;> simp [World.cell?, hob] at h <;> rfl
theorem StayC.cell {f : Nat → Prop} {b o : Nat} {A B : World} {v : Value} (h : StayC f A B) (hb : f b) (hc : A.cell? ⟨b, o, none⟩ = some v) : B.cell? ⟨b, o, none⟩ = some v := by
  obtain ⟨ob, h1, h2⟩ := cells_of_cell hc
  rw [← hc]; exact World.cell?_of_block (a := ⟨b, o, none⟩) ((h.2 b ob hb h1 h2).trans h1.symm)
/-! plain -/
def difL (l : List Int) (hp : phasesOk l = true) (m : Nat) : List Int := (secL l hp m 1 (cntS l.length (2 * m) 1)).map (·.1)
theorem difL_len (l : List Int) (hp : phasesOk l = true) (m : Nat) : (difL l hp m).length = l.length - 2 * m := by simp [difL, secL, cntS]
theorem difL_bd (l : List Int) (hp : phasesOk l = true) (m i : Nat) : -4000000 ≤ atL (difL l hp m) i ∧ atL (difL l hp m) i ≤ 4000000 := by
  unfold atL
  cases h : (difL l hp m)[i]? with
  | none => simp
  | some x =>
    have hx : x ∈ difL l hp m := List.mem_of_getElem? h
    simp only [difL, secL, List.map_map, List.mem_map, Function.comp_apply] at hx
    obtain ⟨j, _, rfl⟩ := hx
    have h1 := atL_bd hp (j * 1 + 2 * m); have h2 := atL_bd hp (j * 1 + m); have h3 := atL_bd hp (j * 1)
    simp only [Option.getD_some, secD, secAt]
    omega
def partL (D : List Int) (m i : Nat) : List Int := (D.drop i).take m
theorem partL_bd {D : List Int} {B : Int} (hB : ∀ i, -B ≤ atL D i ∧ atL D i ≤ B) (m i k : Nat) : -B ≤ atL (partL D m i) k ∧ atL (partL D m i) k ≤ B := by
  have h0 := hB 0
  unfold atL partL
  rw [List.getElem?_take]
  split
  · rw [List.getElem?_drop]; exact hB (i + k)
  · simp; omega
theorem partL_len {D : List Int} {m i : Nat} (h : i + m ≤ D.length) : (partL D m i).length = m := by simp [partL]; omega
theorem totalP_bd {D : List Int} {B : Int} (hB : ∀ i, -B ≤ atL D i ∧ atL D i ≤ B) : -(B * D.length) ≤ totalL D ∧ totalL D ≤ B * D.length := by
  have := sumF_bd (atL D) B D.length (fun i _ => hB i)
  unfold totalL
  omega
def sumsV (l : List Int) (hp : phasesOk l = true) (m i : Nat) : Int := if m ≤ 32 then totalL (partL (difL l hp m) m i) else 0
def sumsD (l : List Int) (hp : phasesOk l = true) (m i : Nat) : SInt := ⟨sumsV l hp m i, by
  unfold sumsV
  split
  · have h1 := totalP_bd (D := partL (difL l hp m) m i) (B := 4000000) (fun k => partL_bd (difL_bd l hp m) m i k)
    have h2 : (partL (difL l hp m) m i).length ≤ m := by simp [partL]; omega
    omega
  · decide⟩
def sumsK (l : List Int) (hp : phasesOk l = true) (m k : Nat) : List SInt := (List.range k).map fun i => sumsD l hp m i
def sumsL (l : List Int) (hp : phasesOk l = true) (m : Nat) : List SInt := sumsK l hp m (l.length - 2 * m + 1 - m)
theorem sumsK_succ (l : List Int) (hp : phasesOk l = true) (m k : Nat) : sumsK l hp m (k + 1) = sumsK l hp m k ++ [sumsD l hp m k] := by
  simp [sumsK, List.range_succ]
theorem sumsK_len (l : List Int) (hp : phasesOk l = true) (m k : Nat) : (sumsK l hp m k).length = k := by simp [sumsK]
theorem sumsK_prefix (l : List Int) (hp : phasesOk l = true) (m : Nat) {k n : Nat} (h : k ≤ n) : sumsK l hp m k <+: sumsK l hp m n := by
  obtain ⟨d, rfl⟩ := Nat.exists_eq_add_of_le h
  refine ⟨(List.range d).map (fun j => sumsD l hp m (k + j)), ?_⟩
  simp [sumsK, List.range_add, Function.comp_def]
theorem sumsL_len (l : List Int) (hp : phasesOk l = true) (m : Nat) (h : l.length ≤ 128) (hm : 1 ≤ m) : (sumsL l hp m).length ≤ 128 := by unfold sumsL; rw [sumsK_len]; omega
theorem part_at {W : World} {D : List Int} {b o m q : Nat} (hi : IntsAt W D b o) (h : q + m ≤ D.length) : IntsAt W (partL D m q) b (o + q) := fun k hk => by
  have hk' : k < m := by rw [partL_len h] at hk; exact hk
  have e : (partL D m q)[k] = D[q + k] := by simp [partL]
  rw [e, Nat.add_assoc]
  exact hi (q + k) (by omega)
set_option maxRecDepth 100000 in
set_option maxHeartbeats 2000000 in
theorem sums1_in (n lp Bs Bm m : Nat) (f : Nat → Prop) (tau : Int) (l : List Int) (p : Option Addr) (cap : Nat) (hp : phasesOk l = true) (h128 : l.length ≤ 128)
    (hm : 1 ≤ m ∧ m ≤ 32) (hn : 1 ≤ n) (J Jx : List SInt → World → Prop) (W : World) (hfm : f Bm) (hfW : ∀ k, W.heap.size ≤ k → f k)
    (hY : ∀ pre d W1, J pre W1 → pre.length < l.length - 2 * m + 1 - m → YieldAt Fence.wide (n - 1) Tryz.prog lp #[.int .i64 d.1] W1 fun e W' =>
      (e = .returned (.bool true) ∧ J (pre ++ [d]) W' ∧ StayC f W1 W') ∨ (e = .returned (.bool false) ∧ Jx (pre ++ [d]) W'))
    (hJ : AbidesFrom W.heap.size J) (s0 : W.cell? ⟨Bs, 0, none⟩ = some (.int .i64 tau)) (s1 : W.cell? ⟨Bs, 1, none⟩ = some (.slice p l.length cap)) (m0 : W.cell? ⟨Bm, 0, none⟩ = some (.int .i64 m)) (hs : SerIn W l p) (hJ0 : J [] W) :
    CallsIn Fence.wide n Tryz.prog 142 #[.func (.yield lp) #[] #[], .pointer (some ⟨Bs, 0, none⟩), .pointer (some ⟨Bm, 0, none⟩)] W fun e W' => (∃ v, e = .returned v) ∧
      ((∃ ys, ys = sumsL l hp m ∧ J ys W') ∨ (∃ pre, pre <+: sumsL l hp m ∧ Jx pre W')) := by
  have hro : Fence.wide.round = none := rfl
  have HG := Lib.hid (seconds_gives tau l p cap m 1 W hs hp h128 (by omega) (by omega))
  have HJ := Lib.hid (show ∀ C, Below W.heap.size W C → J [] C from fun C hb => by
    have hbs := hb.size
    refine hJ [] W C none hJ0 ⟨?_, ?_, ?_, hb.size, fun k hk _ => hb.block k hk⟩ (fun r e => by cases e)
    · exact hb.1
    · exact hb.2
    · exact hb.3)
  have hz := cell_lt s0
  clear hs hJ0 hJ
  refine callsIn_of_wp Tryz.func142 rfl trivial ?_ hro
  simp only [Tryz.ntmps142, List.size_toArray, List.length_cons, List.length_nil, Nat.reduceAdd, Nat.reduceSub, Array.replicate_succ, Array.replicate_zero, List.push_toArray, List.append_toArray, List.nil_append, List.cons_append]
  gi_wp2
  refine ⟨trivial, (callsIn_wide.2 HG.out).mono ?_⟩
  rintro e w1 ⟨lb, g, rfl, hb, hg, hseq⟩
  have m1 := cell_below hb m0
  have HC := Lib.hid (collect_any 141 lb g _ w1 (enters_of Tryz.func141 (by kernel_rfl) rfl) (fun k hk => (hg k hk).1) (by rw [secL_len]; unfold cntS; exact Nat.le_trans (Nat.div_le_self _ _) (by omega)) hseq)
  have HB1 := Lib.hid hb
  clear hb hg hseq HG
  gi_wp2
  refine ⟨trivial, (callsIn_wide.2 HC.out).mono ?_⟩
  rintro e w2 ⟨p', cap', rfl, hsl, hfr, hcap, hb⟩
  have e1 : (secL l hp m 1 (cntS l.length (2 * m) 1)).length = (difL l hp m).length := by simp [difL]
  rw [e1] at hsl hcap ⊢
  have m2 := cell_below hb m1
  have HBB := Lib.hid (HB1.out.trans (hb.mono HB1.out.size))
  have HF := Lib.hid (show ∀ k o, p' = some ⟨k, o, none⟩ → f k from fun k o h => hfW k (Nat.le_trans HB1.out.size (hfr k o h)))
  have HX := Lib.hid (show w2.cell? ⟨Bm, 0, none⟩ = some (.int .i64 m) ∧ SliceIn p' (difL l hp m).length (IntsAt w2 (difL l hp m)) from ⟨m2, hsl⟩)
  have hJ2 := HJ.out w2 HBB.out
  have hdl := difL_len l hp m
  obtain ⟨D, hD⟩ : ∃ D, D = difL l hp m := ⟨_, rfl⟩
  have HD := Lib.hid hD
  rw [← hD] at HX hcap hdl ⊢
  clear m0 m1 m2 s0 s1 hz HC hb hfr hsl HBB HB1 HJ hD e1
  gi_wp2
  gi_loopw [5] (fun i wr => ∃ q : Nat, q ≤ l.length - 2 * m + 1 - m ∧ i = .int .i64 (q : Int) ∧ Hid (wr.cell? ⟨Bm, 0, none⟩ = some (.int .i64 m) ∧ SliceIn p' D.length (IntsAt wr D)) ∧ J (sumsK l hp m q) wr) (fun i _ => (3000 - intOf i).toNat)
  case atStart => exact ⟨0, Nat.zero_le _, rfl, HX, hJ2⟩
  case round =>
    obtain ⟨q, hj, rfl, HI, hJj⟩ := hrel
    obtain ⟨d0, d1⟩ := id HI.out
    by_cases hlt : q < l.length - 2 * m + 1 - m
    · have hqm : q + m ≤ D.length := by omega
      obtain ⟨b, o, rfl, hi⟩ := d1.resolve_left (by omega)
      have hpl := partL_len hqm
      have HSM := Lib.hid (sum_any (partL D m q) (some ⟨b, o + q, none⟩) (cap' - q) 4000000 wr ⟨by rw [hpl]; unfold maxLen; omega, .inr ⟨b, o + q, rfl, part_at hi hqm⟩⟩ (fun k => partL_bd (fun i => by rw [HD.out]; exact difL_bd l hp m i) m q k) (by rw [hpl]; omega))
      rw [hpl] at HSM
      have hval : (sumsD l hp m q).1 = totalL (partL D m q) := by show sumsV l hp m q = _; unfold sumsV; rw [if_pos hm.2, HD.out]
      obtain ⟨fn, tmps, assign, body, hy, hR⟩ := hY _ (sumsD l hp m q) wr hJj (by rw [sumsK_len]; exact hlt)
      rw [← sumsK_succ] at hR
      rw [hval] at hy
      obtain ⟨u, hu⟩ : ∃ u : Nat, u = q + m := ⟨_, rfl⟩
      have w1' : IntKind.i64.wrap ((q : Int) + (m : Int)) = (u : Int) := by rw [IntWalk.i64_in _ (by omega)]; omega
      have l1 : (u : Int) ≤ D.length := by omega
      have l2 : (q : Int) ≤ u := by omega
      have l3 : (u : Int) ≤ cap' := by omega
      have l4 : u - q = m := by omega
      have l5 : u ≤ cap' := by omega
      have l6 : q ≤ u := by omega
      have hj4 := Lib.hid (show q + 1 ≤ l.length - 2 * m + 1 - m by omega)
      have HFb := Lib.hid (HF.out b o rfl)
      generalize totalL (partL D m q) = tv at *
      have HIA := Lib.hid hi
      clear hi hlt hu hqm hval hj d1
      gi_wp2_with ((refine ⟨trivial, ?_⟩; gi_at_call 109; refine (callsIn_wide.2 HSM.out).mono ?_; rintro e w' ⟨rfl, rfl⟩))
      refine hR.mono ?_
      rintro e W3 (⟨rfl, hJ3, hk3⟩ | ⟨rfl, hJx3⟩)
      · have d0' := hk3.cell hfm d0
        have HI3 := Lib.hid (show W3.cell? ⟨Bm, 0, none⟩ = some (.int .i64 m) ∧ SliceIn (some ⟨b, o, none⟩) D.length (IntsAt W3 D) from ⟨d0', .inr ⟨b, o, rfl, fun i hi => hk3.cell HFb.out (HIA.out i hi)⟩⟩)
        clear d0 hk3
        gi_wp2
        go_roundw
        case rel => exact ⟨q + 1, hj4.out, by simp, HI3, hJ3⟩
        case measure => simp [intOf]; omega
      · gi_wp2
        refine bodyPost_ret (results_none rfl _ _ _) rfl ?_
        exact ⟨⟨_, rfl⟩, .inr ⟨_, sumsK_prefix l hp m hj4.out, hJx3⟩⟩
    · have hqm : ¬ (q + m ≤ D.length) := by omega
      have hq0 : q = l.length - 2 * m + 1 - m := by omega
      have hq1 : q ≤ 200 := by omega
      rw [hq0] at hJj
      obtain ⟨u, hu⟩ : ∃ u : Nat, u = q + m := ⟨_, rfl⟩
      have w1' : IntKind.i64.wrap ((q : Int) + (m : Int)) = (u : Int) := by rw [IntWalk.i64_in _ (by omega)]; omega
      have l1 : ((l.length - 2 * m : Nat) : Int) < u := by omega
      clear hlt hq0 hu hqm hdl hj d1
      gi_wp2
      go_end0
      exact ⟨⟨_, rfl⟩, .inl ⟨_, rfl, hJj⟩⟩
def GivesC (w : World) (fn : FuncId) (args : Array Value) (gf : Nat) (xs : List SInt) : Prop :=
  Calls Tryz.prog fn args w fun e w1 => ∃ lb, e = .returned (.func (.func gf) #[] lb) ∧ Below w.heap.size w w1 ∧
    ∀ n, 1 ≤ n → SeqStopsK Fence.wide n Tryz.prog gf lb (fun d : SInt => #[.int .i64 d.1]) (StayC (fun k => w.heap.size ≤ k)) (fun ys => ys = xs) (fun pre => pre <+: xs) xs.length w1
set_option maxHeartbeats 1000000 in
theorem sums_gives (tau : Int) (l : List Int) (p : Option Addr) (cap m : Nat) (w : World) (hs : SerIn w l p) (hp : phasesOk l = true) (h128 : l.length ≤ 128) (hm : 1 ≤ m ∧ m ≤ 32) :
    GivesC w 98 #[.agg #[.int .i64 tau, .slice p l.length cap], .int .i64 m] 142 (sumsL l hp m) := by
  have hB0 : Below w.heap.size w ((w.alloc (.cells #[.int .i64 tau, .slice p l.length cap] 56)).alloc (.cells #[.int .i64 m] 3)) := below_alloc (below_alloc (Below.refl _ _) _) _
  have HB := Lib.hid hB0
  have HS := Lib.hid (hs.below hB0)
  have c0 : ((w.alloc (.cells #[.int .i64 tau, .slice p l.length cap] 56)).alloc (.cells #[.int .i64 m] 3)).cell? ⟨w.heap.size, 0, none⟩ = some (.int .i64 tau) := by simp [go_sem]
  have c1 : ((w.alloc (.cells #[.int .i64 tau, .slice p l.length cap] 56)).alloc (.cells #[.int .i64 m] 3)).cell? ⟨w.heap.size, 1, none⟩ = some (.slice p l.length cap) := by simp [go_sem]
  have c2 : ((w.alloc (.cells #[.int .i64 tau, .slice p l.length cap] 56)).alloc (.cells #[.int .i64 m] 3)).cell? ⟨w.heap.size + 1, 0, none⟩ = some (.int .i64 m) := by simp [go_sem]
  have C0 := Lib.hid c0
  have C1 := Lib.hid c1
  have C2 := Lib.hid c2
  clear hs hB0 c0 c1 c2
  unfold GivesC
  go_enter Tryz.func98, Tryz.ntmps98
  go_wp2
  go_ret
  refine ⟨_, rfl, HB.out, ?_⟩
  intro n hn lp J Jx W hW hJ _ hY hJ0
  have hlen : (sumsL l hp m).length = l.length - 2 * m + 1 - m := by unfold sumsL; rw [sumsK_len]
  rw [hlen] at hY
  exact sums1_in n lp _ _ m _ tau l p cap hp h128 hm hn J Jx W (by show w.heap.size ≤ w.heap.size + 1; omega) (fun k hk => Nat.le_trans (Nat.le_trans HB.out.size hW.size) hk) hY hJ (cell_below hW C0.out) (cell_below hW C1.out) (cell_below hW C2.out) (HS.out.below hW) hJ0
end Go.Proofs.YtemblamamgfodaaGreatDoor
