/-  -/
import Derived.Test.YtgnfaemnehmgcaaGreatDoorQ41
import Derived.Test.YtgnfaemnehmgcaaGreatDoorQ30
import Derived.Test.YtgnfaemnehmgcaaGreatDoorQ06
import Derived.RangeFuncBox
namespace Go.Proofs.YtgnfaemnehmgcaaGreatDoor.Cal
open Go Go.RowKit Go.Shelf
attribute [local go_sem] Oper.semAt_some
def encC (f : Nat → Int × Int) (n : Nat) (lm ls o : Int) (q : Nat) (g : Nat → Int × Int) (d : Kx q) : Array Value := #[.int .i64 (candX f n lm ls o g d.1), .agg #[.int .i64 (fromK g d.1), .int .i64 (hiK q g d.1)]]
theorem StM.kpn {N B : Nat} {X Y : World} {mb n : Nat} {f : Nat → Int × Int} (h : StM X mb f n) (hk : KpN N B X Y) (h1 : mb < N) (h2 : mb ≠ B) : StM Y mb f n := by
  obtain ⟨D, ⟨es, clock, hb, F, hs, hD⟩, h3, h4⟩ := h
  exact ⟨D, ⟨es, clock, hk.low _ _ h1 h2 hb, F, hs, hD⟩, h3, h4⟩
structure CAt (W : World) (Bw Bz Bm : Nat) (b u : Int) (n c : Nat) (p : Option Addr) (mb : Nat) (f : Nat → Int × Int) (lm ls o : Int) (q cz : Nat) (pz : Option Addr) (g : Nat → Int × Int) : Prop where
  work : W.heap[Bw]? = some (.cells #[.int .i64 b, .slice p n c, .int .i64 u, .map (some mb)] 132)
  zone : W.heap[Bz]? = some (.cells #[.int .i64 o, .slice pz q cz] 38)
  mom : W.heap[Bm]? = some (.cells #[.int .i64 lm, .int .i64 ls] 136)
  st : StM W mb f n
  lp : LpIn W f n p
  lz : LpIn W g q pz
theorem CAt.kpn {N B : Nat} {X Y : World} {Bw Bz Bm : Nat} {b u : Int} {n c : Nat} {p : Option Addr} {mb : Nat} {f : Nat → Int × Int} {lm ls o : Int} {q cz : Nat} {pz : Option Addr} {g : Nat → Int × Int}
    (h : CAt X Bw Bz Bm b u n c p mb f lm ls o q cz pz g) (hk : KpN N B X Y) (h1 : mb < N) (h2 : mb ≠ B) (hp : LowIn N B n p) (hz : LowIn N B q pz) : CAt Y Bw Bz Bm b u n c p mb f lm ls o q cz pz g :=
  ⟨hk.typ _ _ _ (by decide) (by decide) h.work, hk.typ _ _ _ (by decide) (by decide) h.zone, hk.typ _ _ _ (by decide) (by decide) h.mom, h.st.kpn hk h1 h2, hk.lp h.lp hp, hk.lp h.lz hz⟩
theorem CAt.below {X Y : World} {Bw Bz Bm : Nat} {b u : Int} {n c : Nat} {p : Option Addr} {mb : Nat} {f : Nat → Int × Int} {lm ls o : Int} {q cz : Nat} {pz : Option Addr} {g : Nat → Int × Int}
    (h : CAt X Bw Bz Bm b u n c p mb f lm ls o q cz pz g) (hb : Below X.heap.size X Y) : CAt Y Bw Bz Bm b u n c p mb f lm ls o q cz pz g :=
  ⟨heap_below hb h.work, heap_below hb h.zone, heap_below hb h.mom, h.st.below hb, h.lp.below hb, h.lz.below hb⟩
theorem kpn_grown {N B M : Nat} {X Y : World} {row : Option Nat} (hg : X.grownBy Y row) (hr : ∀ r, row = some r → M ≤ r ∧ ∃ o : Obj, X.heap[r]? = some o ∧ o.isCells = false) (hM : N ≤ M) : KpN N B X Y := by
  have hb : ∀ k o, X.heap[k]? = some o → some k ≠ row → Y.heap[k]? = some o := fun k o h1 h2 => (hg.block k (Array.getElem?_eq_some_iff.1 h1).1 h2).trans h1
  refine ⟨hg.size, fun k o h1 _ h3 => hb k o h3 (fun e => ?_), fun k a t _ _ h3 => hb k _ h3 (fun e => ?_)⟩
  · have := (hr k e.symm).1; omega
  · obtain ⟨-, o, ho, hc⟩ := hr k e.symm
    rw [h3] at ho; cases ho; cases hc
theorem roundIn_wide {l2 a b : Nat} {P : Program} {l : Nat} {fn : FuncId} {tmps : Array Value} {assign body : Code} {W : World} {R : Ending → World → Prop} (h : RoundIn Fence.wide a P l fn tmps assign body W R) : RoundIn (Fence.wide.inRound l2) b P l fn tmps assign body W R :=
  ⟨trivial, fun c cs _ => h.2 c cs (fun d hd => by cases hd)⟩
theorem wf_day {lm x : Int} (h : -2000000000 ≤ lm ∧ lm ≤ 2000000000) (hx : -1440 ≤ x ∧ x ≤ 1440) : (-200000000000000000 ≤ lm - x ∧ lm - x ≤ 200000000000000000) ∧ (-1000000000000 ≤ lm - x ∧ lm - x ≤ 1000000000000) := by omega
set_option maxRecDepth 100000 in
set_option maxHeartbeats 8000000 in
theorem cand1_in (m l N B Bw Bz Bm : Nat) (b u : Int) (n c : Nat) (p : Option Addr) (mb : Nat) (f : Nat → Int × Int) (lm ls o : Int) (q cz : Nat) (pz : Option Addr) (g : Nat → Int × Int) (ht : TabOk b u n f) (hz : ZoneOk o q g) (hgt : ∀ i, i < q → (g i).1 ≤ 9223372036854775807)
    (hc : n ≤ c) (hcm : c ≤ maxLen) (hlm : -2000000000 ≤ lm ∧ lm ≤ 2000000000) (hls : 0 ≤ ls ∧ ls ≤ 1000000) (h1 : mb < N) (h2 : mb ≠ B) (hp : LowIn N B n p) (hpz : LowIn N B q pz) (hm : 5 ≤ m) (J : List (Kx q) → World → Prop) (W : World) (hN : N ≤ W.heap.size) (hl : l < W.heap.size)
    (hY : ∀ pre d W1, J pre W1 → pre.length < q + 1 → YieldAt Fence.wide (m - 1) Tryz.prog l (encC f n lm ls o q g d) W1 fun e W' =>
      e = .returned (.bool true) ∧ J (pre ++ [d]) W' ∧ KpN N B W1 W' ∧ KeepsFrom (l + 1) W1 W')
    (hJ : OwnFrom W.heap.size J) (hD : CAt W Bw Bz Bm b u n c p mb f lm ls o q cz pz g) (hJ0 : J [] W) :
    CallsIn Fence.wide m Tryz.prog 139 #[.func (.yield l) #[] #[], .pointer (some ⟨Bz, 0, none⟩), .pointer (some ⟨Bm, 0, none⟩), .pointer (some ⟨Bw, 0, none⟩)] W fun e W' => (∃ v, e = .returned v) ∧
      J ((kxL q (q + 1) (Nat.le_refl _)).filter fun d => candB u f n lm ls o g d.1) W' := by
  have hro : Fence.wide.round = none := rfl
  refine callsIn_of_wp_marks Tryz.func139 rfl trivial ?_ hro
  simp only [Tryz.ntmps139, List.size_toArray, List.length_cons, List.length_nil, Nat.reduceAdd, Nat.reduceSub, Array.replicate_succ, Array.replicate_zero, List.push_toArray, List.append_toArray, List.nil_append, List.cons_append]
  refine wpIn_wide.2 ?_
  have hzx : ZBox W Bz o q cz pz := by
    have hb := hD.zone
    constructor <;> simp [World.cell?, hb]
  obtain ⟨x0, x1⟩ := hzx
  have z0 := cell_lt x0
  go_wp2_with (go_at_call 138; refine (offsets_any _ _ _ _ _).mono ?_; rintro e w' ⟨rfl, rfl⟩)
  obtain ⟨W0, hW0⟩ : ∃ W0, (W.alloc (.cells #[.func (.yield l) #[] #[]] 184)).alloc (.cells #[.int .i64 o, .slice pz q cz] 38) = W0 := ⟨_, rfl⟩
  have hB0 : Below W.heap.size W W0 := by
    rw [← hW0]
    exact below_alloc (below_alloc (Below.refl _ _) _) _
  have hsz : W0.heap.size = W.heap.size + 2 := by rw [← hW0]; simp
  have bY : Boxed W0 W.heap.size 184 (.func (.yield l) #[] #[]) := by
    rw [← hW0]
    exact (Boxed.new W 184 (.func (.yield l) #[] #[])).alloc (.cells #[.int .i64 o, .slice pz q cz] 38)
  have hDz : ZAt W0 (W.heap.size + 1) o g q cz pz := by
    refine ⟨?_, hD.lz.below hB0⟩
    rw [← hW0]
    have := World.alloc_heap_new (W.alloc (.cells #[.func (.yield l) #[] #[]] 184)) (.cells #[.int .i64 o, .slice pz q cz] 38)
    simpa using this
  have hD0 := hD.below hB0
  have hJ1 : J [] W0 := hJ _ _ _ none hJ0 (gbw hB0) (fun r e => by cases e)
  clear x0 x1 z0 hD hJ0
  rw [hW0]
  clear hW0
  have HST := offs1_stops (m - 1) (W.heap.size + 1) N B o q cz pz g hz hgt hpz (by omega) W0 hDz
  refine (wpIn_wide (n := m)).1 ?_
  refine wpIn_rangeFunc_ownH hro (by omega) (gf := 152) (lb := #[.pointer (some ⟨W.heap.size + 1, 0, none⟩)]) rfl trivial (enters_of Tryz.func152 (by kernel_rfl) rfl)
    HST (fun h k => h.trans k) (fun X r ob ob' e1 e2 e3 _ => KpN.putObj (by omega) X r ob ob' e1 e2 e3) (Below.refl _ _) (fun _ => rfl)
    (fun pre X => J (pre.filter fun d => candB u f n lm ls o g d.1) X ∧ CAt X Bw Bz Bm b u n c p mb f lm ls o q cz pz g ∧ Boxed X W.heap.size 184 (.func (.yield l) #[] #[])) (fun _ _ _ => False)
    (fun s X Y row hs hg hr => ⟨hJ _ _ _ _ hs.1 hg (fun r e => ⟨by have := (hr r e).1; omega, (hr r e).2⟩), hs.2.1.kpn (N := N) (B := B) (kpn_grown hg hr (by omega)) h1 h2 hp hpz, hs.2.2.kept hg (fun e => by
      obtain ⟨-, ob, ho, hc⟩ := hr _ e.symm
      have hbx : X.heap[W.heap.size]? = some (.cells #[.func (.yield l) #[] #[]] 184) := hs.2.2
      rw [hbx] at ho; cases ho; cases hc)⟩)
    (fun _ _ _ _ _ hs _ _ => hs) ⟨hJ1, hD0, bY⟩
    (fun d a' X => ∃ Bh, Boxed2 X Bh 171 (.int .i64 (fromK g d.1)) (.int .i64 (hiK q g d.1)) ∧ a' = { tmps := #[.func (.yield l) #[] #[], .pointer (some ⟨Bz, 0, none⟩), .pointer (some ⟨Bm, 0, none⟩), .pointer (some ⟨Bw, 0, none⟩), .pointer (some ⟨W.heap.size, 0, none⟩), .int .i64 (offK o g d.1), .pointer (some ⟨Bh, 0, none⟩), undef, .agg #[.int .i64 o, .slice pz q cz], .func (.func 152) #[] #[.pointer (some ⟨W.heap.size + 1, 0, none⟩)], .int .i64 (offK o g d.1), .agg #[.int .i64 (fromK g d.1), .int .i64 (hiK q g d.1)], undef, undef, undef, undef, undef, undef, undef, undef, undef, undef, undef, undef, undef, undef, undef, undef], defers := [] })
    (fun d a' _ X Y row hs hg hr => by
      obtain ⟨Bh, e1, e2⟩ := hs
      exact ⟨Bh, e1.kept hg (fun e => by obtain ⟨_, o, ho, hc⟩ := hr Bh e.symm; rw [show X.heap[Bh]? = _ from e1] at ho; cases ho; cases hc), e2⟩) ?assign ?body ?done ?stop
  case assign =>
    rintro l2 pre d X K ⟨i1, i2, i3⟩ hK
    unfold encZ
    gi_wp2
    have hb := below_alloc (Below.refl X.heap.size X) (.cells #[.int .i64 (fromK g d.1), .int .i64 (hiK q g d.1)] 171)
    exact hK _ _ ((KeepsOthers.alloc _ _).from _) (KpN.of_below hb) ⟨hJ _ _ _ none i1 (gbw hb) (fun r e => by cases e), i2.below hb, i3.alloc _⟩ ⟨_, World.alloc_heap_new _ _, rfl⟩
  case done =>
    rintro D ys X hD rfl ⟨i1, i2, i3⟩ hK
    go_wp2_with fail
    refine ⟨by simp, .inl ⟨_, _, rfl, run_takeDeferred hK, ?_⟩⟩
    refine ⟨_, results_none rfl _ _ _, ⟨_, rfl⟩, ?_⟩
    exact hJ.putObj _ i1 (by omega) hK rfl
  case stop =>
    rintro D c pre X _ _ h _
    exact h.elim
  case body =>
    rintro l2 pre d a' X hl2 hrc ⟨i1, i2, i3⟩ ⟨Bh, hB, rfl⟩ hlen
    have hmo : X.heap[Bm]? = some (.cells #[.int .i64 lm, .int .i64 ls] 136) := i2.mom
    have y0 : X.cell? ⟨Bm, 0, none⟩ = some (.int .i64 lm) := by simp [World.cell?, hmo]
    have y1 : X.cell? ⟨Bm, 1, none⟩ = some (.int .i64 ls) := by simp [World.cell?, hmo]
    have zy := cell_lt y0
    have hof := hz.off d.1 d.2
    have vn : IntKind.i64.wrap (-(offK o g d.1)) = -(offK o g d.1) := IntWalk.i64_in _ (by omega)
    obtain ⟨hm1, hm2⟩ := wf_day hlm hof
    have HLT := Lib.hid (later_any lm ls (-(offK o g d.1)) (by omega) (by omega) X)
    rw [show lm + -(offK o g d.1) = lm - offK o g d.1 from rfl] at HLT
    obtain ⟨mo, hmoe⟩ : ∃ mo, lm - offK o g d.1 = mo := ⟨_, rfl⟩
    rw [hmoe] at HLT hm1 hm2
    obtain ⟨ok, hok⟩ : ∃ ok, offK o g d.1 = ok := ⟨_, rfl⟩
    rw [hok] at HLT vn hmoe ⊢
    clear hof
    gi_wp2_with (refine ⟨trivial, fun _ => (by omega), ?_⟩; gi_at_call 121; refine (CallsIn.inRound l2 (callsIn_wide.2 HLT.out)).mono ?_; rintro e X2 ⟨rfl, hb2⟩)
    have hbV : Below X.heap.size X (X2.alloc (.cells #[.int .i64 mo, .int .i64 ls] 136)) := below_alloc hb2 _
    have hv : (X2.alloc (.cells #[.int .i64 mo, .int .i64 ls] 136)).heap[X2.heap.size]? = some (.cells #[.int .i64 mo, .int .i64 ls] 136) := World.alloc_heap_new _ _
    have j1 := hJ _ _ _ none i1 (gbw hbV) (fun r e => by cases e)
    have j2 := i2.below hbV
    have j3 : Boxed (X2.alloc (.cells #[.int .i64 mo, .int .i64 ls] 136)) W.heap.size 184 (.func (.yield l) #[] #[]) := heap_below hbV i3
    have j4 : Boxed2 (X2.alloc (.cells #[.int .i64 mo, .int .i64 ls] 136)) Bh 171 (.int .i64 (fromK g d.1)) (.int .i64 (hiK q g d.1)) := heap_below hbV hB
    generalize X2.alloc (.cells #[.int .i64 mo, .int .i64 ls] 136) = V at *
    generalize X2.heap.size = Bv at *
    clear y0 y1 zy hmo HLT hb2
    have HRW := Lib.hid (show ∀ Z, Below V.heap.size V Z → Z.cell? ⟨Bw, 0, none⟩ = some (.int .i64 b) ∧ Z.cell? ⟨Bw, 1, none⟩ = some (.slice p n c) ∧ Z.cell? ⟨Bw, 2, none⟩ = some (.int .i64 u) ∧ Z.cell? ⟨Bw, 3, none⟩ = some (.map (some mb)) from fun Z hZ => by
      have h := heap_below hZ j2.work
      refine ⟨?_, ?_, ?_, ?_⟩ <;> simp [World.cell?, h])
    have HRM := Lib.hid (show ∀ Z, Below V.heap.size V Z → Z.cell? ⟨Bv, 0, none⟩ = some (.int .i64 mo) ∧ Z.cell? ⟨Bv, 1, none⟩ = some (.int .i64 ls) from fun Z hZ => by
      have h := heap_below hZ hv
      refine ⟨?_, ?_⟩ <;> simp [World.cell?, h])
    have HRH := Lib.hid (show ∀ Z, Below V.heap.size V Z → Z.cell? ⟨Bh, 0, none⟩ = some (.int .i64 (fromK g d.1)) ∧ Z.cell? ⟨Bh, 1, none⟩ = some (.int .i64 (hiK q g d.1)) from fun Z hZ => by
      have h := heap_below hZ (show V.heap[Bh]? = _ from j4)
      refine ⟨?_, ?_⟩ <;> simp [World.cell?, h])
    have HRY := Lib.hid (show ∀ Z, Below V.heap.size V Z → Z.cell? ⟨W.heap.size, 0, none⟩ = some (.func (.yield l) #[] #[]) from fun Z hZ => by
      have h := heap_below hZ (show V.heap[W.heap.size]? = _ from j3)
      simp [World.cell?, h])
    have HHA := Lib.hid (show ∀ Z, Below V.heap.size V Z → _ from fun Z hZ => Calls.bel hZ (has_any ht mo ls c p mb Z (j2.st.below hZ) hm1))
    have HNU := Lib.hid (show ∀ Z, Below V.heap.size V Z → _ from fun Z hZ => Calls.bel hZ (number_any ht mo ls c p mb Z (j2.lp.below hZ) hc hcm hm2 (by omega)))
    have HCB := Lib.hid (show candB u f n lm ls o g d.1 = hasB u f n mo ls by unfold candB; rw [hok, hmoe])
    have HCX := Lib.hid (show candX f n lm ls o g d.1 = numS f n mo ls by unfold candX; rw [hok, hmoe])
    have HJ1 := Lib.hid j1
    have HC1 := Lib.hid j2
    have HY1 := Lib.hid j3
    have HXV := Lib.hid hbV
    clear j1 j2 j3 j4 hv hm1 hm2
    cases hh : hasB u f n mo ls
    · rw [hh] at HCB
      have HHA := HHA.out
      rw [hh] at HHA
      have HHA := Lib.hid HHA
      clear hh HNU
      refine wpIn_region_cls (fun Z => Below V.heap.size V Z) 9 3 (Below.drew (Below.refl _ _)) (by kernel_rfl) (by kernel_rfl) (by kernel_rfl) (by kernel_rfl) (by kernel_rfl) rfl ?_
      simp only [List.take_succ_cons, List.take_zero]
      refine wpQuietIn_step (fun _ _ _ _ => trivial) (fun KQ hKQ => ?_)
      rw [if_pos (by rfl)]
      refine ⟨.agg #[.int .i64 b, .slice p n c, .int .i64 u, .map (some mb)], fun Z hZ => ?_, hKQ _ ?_⟩
      · obtain ⟨q0, q1, q2, q3⟩ := HRW.out Z hZ; have qz := cell_lt q0; unfold Oper.quietAtIn; go_simp
      clear hKQ KQ
      simp only [Act.put, List.setIfInBounds_toArray, List.set_cons_zero, List.set_cons_succ]
      refine wpQuietIn_step (fun _ _ _ _ => trivial) (fun KQ hKQ => ?_)
      rw [if_pos (by rfl)]
      refine ⟨.agg #[.int .i64 mo, .int .i64 ls], fun Z hZ => ?_, hKQ _ ?_⟩
      · obtain ⟨q0, q1⟩ := HRM.out Z hZ; have qz := cell_lt q0; unfold Oper.quietAtIn; go_simp
      clear hKQ KQ
      simp only [Act.put, List.setIfInBounds_toArray, List.set_cons_zero, List.set_cons_succ]
      refine wpQuietIn_step (fun _ _ _ _ => trivial) (fun KQ hKQ => ?_)
      rw [if_pos (by rfl)]
      refine ⟨.bool false, fun Z hZ => ?_, hKQ _ ?_⟩
      · unfold Oper.quietAtIn; go_simp; exact ⟨fun _ => by omega, CallsIn.inRound l2 (callsIn_wide.2 (HHA.out Z hZ))⟩
      clear hKQ KQ
      simp only [Act.put, List.setIfInBounds_toArray, List.set_cons_zero, List.set_cons_succ]
      refine wpQuietIn_step (fun _ _ _ _ => trivial) (fun KQ hKQ => ?_)
      rw [if_pos (by rfl)]
      refine ⟨.bool false, fun Z hZ => ?_, hKQ _ ?_⟩
      · unfold Oper.quietAtIn; go_simp
      clear hKQ KQ
      simp only [Act.put, List.setIfInBounds_toArray, List.set_cons_zero, List.set_cons_succ]
      refine wpQuietIn_step (fun _ _ _ _ => trivial) (fun KQ hKQ => ?_)
      go_simp
      refine hKQ _ ?_
      clear hKQ KQ
      refine wpQuietIn_step (fun _ _ _ _ => trivial) (fun KQ hKQ => ?_)
      go_simp
      refine hKQ _ ?_
      clear hKQ KQ
      refine wpQuietIn_step (fun _ _ _ _ => trivial) (fun KQ hKQ => ?_)
      go_simp
      refine hKQ _ ?_
      clear hKQ KQ
      refine wpQuietIn_step (fun _ _ _ _ => trivial) (fun KQ hKQ => ?_)
      go_simp
      refine hKQ _ ?_
      clear hKQ KQ
      refine wpQuietIn_step (fun _ _ _ _ => trivial) (fun KQ hKQ => ?_)
      go_simp
      refine hKQ _ ?_
      clear hKQ KQ
      refine wpQuietIn_nil ?_
      intro Z hZ
      simp only [List.replicate_succ, List.replicate_zero, List.cons_append, List.nil_append]
      refine wpAnyIn_ready (rs := [9]) (by kernel_rfl) (by simp) (AllReadyIn.cons rfl (fun K' hKK => ?_) AllReadyIn.nil)
      go_simp
      refine ⟨fun _ _ => trivial, ?_⟩
      refine hKK _ _ ?_
      clear hKK
      refine wpAnyIn_ready (rs := [10]) (by kernel_rfl) (by simp) (AllReadyIn.cons rfl (fun K' hKK => ?_) AllReadyIn.nil)
      go_simp
      refine hKK _ _ ?_
      clear hKK
      refine wpAnyIn_ready (rs := [11]) (by kernel_rfl) (by simp) (AllReadyIn.cons rfl (fun K' hKK => ?_) AllReadyIn.nil)
      go_simp
      refine hKK _ _ ?_
      clear hKK
      refine wpAnyIn_done (by kernel_rfl) ?_ _
      gi_wp2
      have hXZ := bt HXV.out hZ
      refine ⟨keeps_below hXZ, KpN.of_below hXZ, ?_⟩
      show J ((pre ++ [d]).filter _) Z ∧ _
      rw [List.filter_append, show ([d].filter fun d => candB u f n lm ls o g d.1) = [] by simp [HCB.out], List.append_nil]
      exact ⟨hJ _ _ _ none HJ1.out (gbw hZ) (fun r e => by cases e), HC1.out.below hZ, heap_below hZ HY1.out⟩
    · rw [hh] at HCB
      have HHA := HHA.out
      rw [hh] at HHA
      have HHA := Lib.hid HHA
      clear hh
      refine wpIn_region_cls (fun Z => Below V.heap.size V Z) 9 3 (Below.drew (Below.refl _ _)) (by kernel_rfl) (by kernel_rfl) (by kernel_rfl) (by kernel_rfl) (by kernel_rfl) rfl ?_
      simp only [List.take_succ_cons, List.take_zero]
      refine wpQuietIn_step (fun _ _ _ _ => trivial) (fun KQ hKQ => ?_)
      rw [if_pos (by rfl)]
      refine ⟨.agg #[.int .i64 b, .slice p n c, .int .i64 u, .map (some mb)], fun Z hZ => ?_, hKQ _ ?_⟩
      · obtain ⟨q0, q1, q2, q3⟩ := HRW.out Z hZ; have qz := cell_lt q0; unfold Oper.quietAtIn; go_simp
      clear hKQ KQ
      simp only [Act.put, List.setIfInBounds_toArray, List.set_cons_zero, List.set_cons_succ]
      refine wpQuietIn_step (fun _ _ _ _ => trivial) (fun KQ hKQ => ?_)
      rw [if_pos (by rfl)]
      refine ⟨.agg #[.int .i64 mo, .int .i64 ls], fun Z hZ => ?_, hKQ _ ?_⟩
      · obtain ⟨q0, q1⟩ := HRM.out Z hZ; have qz := cell_lt q0; unfold Oper.quietAtIn; go_simp
      clear hKQ KQ
      simp only [Act.put, List.setIfInBounds_toArray, List.set_cons_zero, List.set_cons_succ]
      refine wpQuietIn_step (fun _ _ _ _ => trivial) (fun KQ hKQ => ?_)
      rw [if_pos (by rfl)]
      refine ⟨.bool true, fun Z hZ => ?_, hKQ _ ?_⟩
      · unfold Oper.quietAtIn; go_simp; exact ⟨fun _ => by omega, CallsIn.inRound l2 (callsIn_wide.2 (HHA.out Z hZ))⟩
      clear hKQ KQ
      simp only [Act.put, List.setIfInBounds_toArray, List.set_cons_zero, List.set_cons_succ]
      refine wpQuietIn_step (fun _ _ _ _ => trivial) (fun KQ hKQ => ?_)
      rw [if_pos (by rfl)]
      refine ⟨.bool true, fun Z hZ => ?_, hKQ _ ?_⟩
      · unfold Oper.quietAtIn; go_simp
      clear hKQ KQ
      simp only [Act.put, List.setIfInBounds_toArray, List.set_cons_zero, List.set_cons_succ]
      refine wpQuietIn_step (fun _ _ _ _ => trivial) (fun KQ hKQ => ?_)
      rw [if_pos (by rfl)]
      refine ⟨.func (.yield l) #[] #[], fun Z hZ => ?_, hKQ _ ?_⟩
      · have q0 := HRY.out Z hZ; have qz := cell_lt q0; unfold Oper.quietAtIn; go_simp
      clear hKQ KQ
      simp only [Act.put, List.setIfInBounds_toArray, List.set_cons_zero, List.set_cons_succ]
      refine wpQuietIn_step (fun _ _ _ _ => trivial) (fun KQ hKQ => ?_)
      rw [if_pos (by rfl)]
      refine ⟨.agg #[.int .i64 b, .slice p n c, .int .i64 u, .map (some mb)], fun Z hZ => ?_, hKQ _ ?_⟩
      · obtain ⟨q0, q1, q2, q3⟩ := HRW.out Z hZ; have qz := cell_lt q0; unfold Oper.quietAtIn; go_simp
      clear hKQ KQ
      simp only [Act.put, List.setIfInBounds_toArray, List.set_cons_zero, List.set_cons_succ]
      refine wpQuietIn_step (fun _ _ _ _ => trivial) (fun KQ hKQ => ?_)
      rw [if_pos (by rfl)]
      refine ⟨.agg #[.int .i64 mo, .int .i64 ls], fun Z hZ => ?_, hKQ _ ?_⟩
      · obtain ⟨q0, q1⟩ := HRM.out Z hZ; have qz := cell_lt q0; unfold Oper.quietAtIn; go_simp
      clear hKQ KQ
      simp only [Act.put, List.setIfInBounds_toArray, List.set_cons_zero, List.set_cons_succ]
      refine wpQuietIn_step (fun _ _ _ _ => trivial) (fun KQ hKQ => ?_)
      rw [if_pos (by rfl)]
      refine ⟨.int .i64 (numS f n mo ls), fun Z hZ => ?_, hKQ _ ?_⟩
      · unfold Oper.quietAtIn; go_simp; exact ⟨fun _ => by omega, CallsIn.inRound l2 (callsIn_wide.2 (HNU.out Z hZ))⟩
      clear hKQ KQ
      simp only [Act.put, List.setIfInBounds_toArray, List.set_cons_zero, List.set_cons_succ]
      refine wpQuietIn_step (fun _ _ _ _ => trivial) (fun KQ hKQ => ?_)
      rw [if_pos (by rfl)]
      refine ⟨.agg #[.int .i64 (fromK g d.1), .int .i64 (hiK q g d.1)], fun Z hZ => ?_, hKQ _ ?_⟩
      · obtain ⟨q0, q1⟩ := HRH.out Z hZ; have qz := cell_lt q0; unfold Oper.quietAtIn; go_simp
      clear hKQ KQ
      simp only [Act.put, List.setIfInBounds_toArray, List.set_cons_zero, List.set_cons_succ]
      refine wpQuietIn_nil ?_
      intro Z hZ
      simp only [List.replicate_succ, List.replicate_zero, List.cons_append, List.nil_append]
      have hjz := hJ _ _ _ none HJ1.out (gbw hZ) (fun r e => by cases e)
      have hy1 := hY _ d Z hjz (by have := List.length_filter_le (fun d : Kx q => candB u f n lm ls o g d.1) pre; omega)
      unfold encC at hy1
      rw [HCX.out] at hy1
      obtain ⟨fn, tmps, assign, body, hy, hR⟩ := hy1
      refine wpAnyIn_ready (rs := [9]) (by kernel_rfl) (by simp) (AllReadyIn.cons rfl (fun K' hKK => ?_) AllReadyIn.nil)
      go_simp
      refine ⟨fun _ => by omega, (roundIn_wide hR).mono ?_⟩
      rintro e Z2 ⟨rfl, hJ2, hk2, hf2⟩
      clear hy hR
      go_simp
      refine hKK _ _ ?_
      clear hKK
      refine wpAnyIn_ready (rs := [10]) (by kernel_rfl) (by simp) (AllReadyIn.cons rfl (fun K' hKK => ?_) AllReadyIn.nil)
      go_simp
      refine hKK _ _ ?_
      clear hKK
      refine wpAnyIn_ready (rs := [11]) (by kernel_rfl) (by simp) (AllReadyIn.cons rfl (fun K' hKK => ?_) AllReadyIn.nil)
      go_simp
      refine hKK _ _ ?_
      clear hKK
      refine wpAnyIn_done (by kernel_rfl) ?_ _
      gi_wp2
      have hXZ := bt HXV.out hZ
      refine ⟨(keeps_below hXZ).trans (keeps_up hf2 (by omega)), (KpN.of_below hXZ).trans hk2, ?_⟩
      show J ((pre ++ [d]).filter _) Z2 ∧ _
      rw [List.filter_append, show ([d].filter fun d => candB u f n lm ls o g d.1) = [d] by simp [HCB.out]]
      exact ⟨hJ2, (HC1.out.below hZ).kpn hk2 h1 h2 hp hpz, hk2.typ _ _ _ (by decide) (by decide) (heap_below hZ HY1.out)⟩
end Go.Proofs.YtgnfaemnehmgcaaGreatDoor.Cal
