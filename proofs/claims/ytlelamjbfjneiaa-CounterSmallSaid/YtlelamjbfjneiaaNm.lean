/- Contracts of layer 2: what the iterator over turns yields. -/
import Derived.Test.YtlelamjbfjneiaaNl
namespace Go.Proofs.Ytlelamjbfjneiaa.Ct
open Go Go.RowKit Go.Shelf
attribute [local go_sem] Oper.semAt_some
/-- what a call makes of a box of two numbers that was laid just ahead of it -/
theorem span_at {f : Nat} {args : Array Value} {r : Value} (X : World) (t : TypeId) (hC : ∀ W, Calls Try.prog f args W fun e w' => e = .returned r ∧ Below W.heap.size W w') :
    Calls Try.prog f args (X.alloc (.cells #[.int .i64 0, .int .i64 0] t)) fun e w' => e = .returned r ∧ Below X.heap.size X w' ∧ w'.cell? ⟨X.heap.size, 0, none⟩ = some (.int .i64 0) ∧ w'.cell? ⟨X.heap.size, 1, none⟩ = some (.int .i64 0) ∧ w'.frozen? ⟨X.heap.size, 0, none⟩ = false ∧ w'.frozen? ⟨X.heap.size, 1, none⟩ = false ∧ X.heap.size < w'.heap.size := by
  have hb0 : Below X.heap.size X (X.alloc (.cells #[.int .i64 0, .int .i64 0] t)) := below_alloc (Below.refl _ _) _
  have k0 : (X.alloc (.cells #[.int .i64 0, .int .i64 0] t)).cell? ⟨X.heap.size, 0, none⟩ = some (.int .i64 0) := by simp
  have k1 : (X.alloc (.cells #[.int .i64 0, .int .i64 0] t)).cell? ⟨X.heap.size, 1, none⟩ = some (.int .i64 0) := by simp
  have f0 : (X.alloc (.cells #[.int .i64 0, .int .i64 0] t)).frozen? ⟨X.heap.size, 0, none⟩ = false := by simp
  have f1 : (X.alloc (.cells #[.int .i64 0, .int .i64 0] t)).frozen? ⟨X.heap.size, 1, none⟩ = false := by simp
  refine (hC _).mono ?_
  rintro e w' ⟨rfl, hb⟩
  have hz := cell_lt k0
  exact ⟨rfl, below_go hb0 hb, cell_below hb k0, cell_below hb k1, (hb.frozen (p := ⟨X.heap.size, 0, none⟩) hz).trans f0, (hb.frozen (p := ⟨X.heap.size, 1, none⟩) hz).trans f1, Nat.lt_of_lt_of_le hz hb.size⟩
theorem span_box {f : Nat} {args : Array Value} {r : Value} (Y : World) (t : TypeId) (hC : ∀ W, Calls Try.prog f args W fun e w' => e = .returned r ∧ Below W.heap.size W w') :
    Calls Try.prog f args (Y.drew.alloc (.cells #[.int .i64 0, .int .i64 0] t)) fun e w' => e = .returned r ∧ Below Y.heap.size Y w' ∧ w'.cell? ⟨Y.heap.size, 0, none⟩ = some (.int .i64 0) ∧ w'.cell? ⟨Y.heap.size, 1, none⟩ = some (.int .i64 0) ∧ w'.frozen? ⟨Y.heap.size, 0, none⟩ = false ∧ w'.frozen? ⟨Y.heap.size, 1, none⟩ = false ∧ Y.heap.size < w'.heap.size :=
  (span_at Y.drew t hC).mono fun _ _ h => ⟨h.1, (Below.drew (Below.refl Y.heap.size Y)).trans h.2.1, h.2.2⟩
/-- a span in a box -/
def SpBox (X : World) (b : Nat) (x y : Int) : Prop := X.cell? ⟨b, 0, none⟩ = some (.int .i64 x) ∧ X.cell? ⟨b, 1, none⟩ = some (.int .i64 y)
theorem SpBox.new (X : World) (x y : Int) (t : TypeId) : SpBox (X.alloc (.cells #[.int .i64 x, .int .i64 y] t)) X.heap.size x y := ⟨by simp, by simp⟩
theorem SpBox.set {X : World} {b : Nat} {x y : Int} {u v : Value} (h0 : X.cell? ⟨b, 0, none⟩ = some u) (h1 : X.cell? ⟨b, 1, none⟩ = some v) : SpBox ((X.setCell ⟨b, 0, none⟩ (.int .i64 x)).setCell ⟨b, 1, none⟩ (.int .i64 y)) b x y := by
  refine ⟨?_, World.cell?_setCell_same _ _ _ (u := v) ?_⟩
  · rw [World.cell?_setCell_other _ ⟨b, 1, none⟩ ⟨b, 0, none⟩ _ (fun e => by cases e)]; exact World.cell?_setCell_same _ _ _ h0
  · rw [World.cell?_setCell_other X ⟨b, 0, none⟩ ⟨b, 1, none⟩ _ (fun e => by cases e)]; exact h1
theorem SpBox.below {X Y : World} {b : Nat} {x y : Int} (h : SpBox X b x y) (hb : Below X.heap.size X Y) : SpBox Y b x y := ⟨cell_below hb h.1, cell_below hb h.2⟩
/-- turn k's numbers in the prior -/
def xLo (c : Cnt) (mid lo k : Int) : Int := max (turnLo c (mid + k * c.r)) lo
def xHi (c : Cnt) (mid hi k : Int) : Int := min (turnHi c (mid + k * c.r)) hi
def spanL (c : Cnt) (mid lo hi first : Int) : Nat → List (Int × Int)
  | 0 => []
  | j + 1 => if xLo c mid lo (first + j) ≤ xHi c mid hi (first + j) then spanL c mid lo hi first j ++ [(xLo c mid lo (first + j), xHi c mid hi (first + j))] else spanL c mid lo hi first j
theorem spanL_le (c : Cnt) (mid lo hi first : Int) : ∀ n, (spanL c mid lo hi first n).length ≤ n
  | 0 => Nat.le_refl _
  | n + 1 => by
    have := spanL_le c mid lo hi first n
    unfold spanL
    split
    · simp; omega
    · omega
theorem spanL_step (c : Cnt) (mid lo hi first : Int) (n : Nat) : spanL c mid lo hi first n <+: spanL c mid lo hi first (n + 1) := by
  rw [spanL]
  split
  · exact List.prefix_append _ _
  · exact List.prefix_refl _
theorem spanL_prefix (c : Cnt) (mid lo hi first : Int) : ∀ {k n : Nat}, k ≤ n → spanL c mid lo hi first k <+: spanL c mid lo hi first n
  | k, 0, h => by obtain rfl : k = 0 := by omega
                  exact List.prefix_refl _
  | k, n + 1, h => by
    by_cases e : k = n + 1
    · subst e; exact List.prefix_refl _
    · exact (spanL_prefix c mid lo hi first (show k ≤ n by omega)).trans (spanL_step c mid lo hi first n)
def spVal (d : Int × Int) : Value := .agg #[.int .i64 d.1, .int .i64 d.2]
theorem TurnIn.below {X Y : World} {b b8 b9 : Nat} {c : Cnt} {lo hi mid first last : Int} (h : TurnIn X b b8 b9 c lo hi mid first last) (hb : Below X.heap.size X Y) : TurnIn Y b b8 b9 c lo hi mid first last := ⟨h.t.below hb, h.a.below hb, h.z.below hb⟩
theorem One.stay {f : Nat → Prop} {A B : World} {b : Nat} {x : Int} (h : One A b x) (hk : StayC f A B) (hf : f b) : One B b x := by
  obtain ⟨ob, h1, h2⟩ := cells_of_cell h.c
  exact ⟨hk.cell hf h.c, (World.frozen?_of_block (a := ⟨b, 0, none⟩) ((hk.2 b ob hf h1 h2).trans h1.symm)).trans h.f⟩
theorem TurnIn.stay {f : Nat → Prop} {A B : World} {b b8 b9 : Nat} {c : Cnt} {lo hi mid first last : Int} (h : TurnIn A b b8 b9 c lo hi mid first last) (hk : StayC f A B) (h0 : f b) (h1 : f (b + 1)) (h2 : f (b + 1 + 1)) (h8 : f b8) (h9 : f b9) : TurnIn B b b8 b9 c lo hi mid first last :=
  ⟨⟨⟨hk.cell h0 h.t.cb.c0, hk.cell h0 h.t.cb.c1, hk.cell h0 h.t.cb.c2, hk.cell h0 h.t.cb.c3, hk.cell h0 h.t.cb.c4, hk.cell h0 h.t.cb.c5, hk.cell h0 h.t.cb.c6⟩, hk.cell h1 h.t.s0, hk.cell h1 h.t.s1, hk.cell h2 h.t.m⟩, h.a.stay hk h8, h.z.stay hk h9⟩
set_option maxRecDepth 100000 in
set_option maxHeartbeats 8000000 in
theorem turns1_in (n lp b b8 b9 N : Nat) (f : Nat → Prop) (c : Cnt) (lo hi mid first last : Int) (hc : CntIn c) (h0 : f b) (h1' : f (b + 1)) (h2 : f (b + 1 + 1)) (h8 : f b8) (h9 : f b9)
    (hN : (N : Int) = max 0 (last + 1 - first)) (hf : -4000000000000000000 ≤ first ∧ first ≤ 4000000000000000000) (hN2 : N ≤ 10000)
    (hk : ∀ k, first ≤ k → k ≤ last → -2000000000000000000 ≤ k * c.r ∧ k * c.r ≤ 2000000000000000000) (hm : -1000000000000000000 ≤ mid ∧ mid ≤ 1000000000000000000)
    (hn : 1 ≤ n) (J Jx : List (Int × Int) → World → Prop) (W : World)
    (hY : ∀ pre d W1, J pre W1 → pre.length < N → YieldAt Fence.wide (n - 1) Try.prog lp #[spVal d] W1 fun e W' =>
      (e = .returned (.bool true) ∧ J (pre ++ [d]) W' ∧ StayC f W1 W') ∨ (e = .returned (.bool false) ∧ Jx (pre ++ [d]) W'))
    (hJ : AbidesFrom W.heap.size J) (hD : TurnIn W b b8 b9 c lo hi mid first last) (hJ0 : J [] W) :
    CallsIn Fence.wide n Try.prog 74 #[.func (.yield lp) #[] #[], .pointer (some ⟨b8, 0, none⟩), .pointer (some ⟨b9, 0, none⟩), .pointer (some ⟨b, 0, none⟩), .pointer (some ⟨b + 1 + 1, 0, none⟩), .pointer (some ⟨b + 1, 0, none⟩)] W fun e W' => (∃ v, e = .returned v) ∧
      ((∃ ys, ys = spanL c mid lo hi first N ∧ J ys W') ∨ (∃ pre, pre <+: spanL c mid lo hi first N ∧ Jx pre W')) := by
  have hro : Fence.wide.round = none := rfl
  have HJ := Lib.hid (show ∀ (s : List (Int × Int)) (A B : World), J s A → Below A.heap.size A B → J s B from fun s A B h hb => hJ s A B none h (grown_below hb) (fun r e => by cases e))
  have HD0 := Lib.hid hD
  have ha := hD.a.c
  have hza := cell_lt ha
  have HC := Lib.hid hc
  have HKB := Lib.hid hk
  have HMB := Lib.hid hm
  clear hD hJ hk hm hc
  refine callsIn_of_wp Try.func74 rfl trivial ?_ hro
  simp only [Try.ntmps74, List.size_toArray, List.length_cons, List.length_nil, Nat.reduceAdd, Nat.reduceSub, Array.replicate_succ, Array.replicate_zero, List.push_toArray, List.append_toArray, List.nil_append, List.cons_append]
  gi_wp2
  clear ha hza
  gi_loopw [7, 8] (fun i s8 wr => ∃ (j : Nat) (v8 : Value), j ≤ N ∧ i = .int .i64 (first + (j : Int)) ∧ s8 = v8 ∧ Hid (TurnIn wr b b8 b9 c lo hi mid first last) ∧ J (spanL c mid lo hi first j) wr) (fun i _ _ => (first + N + 1 - intOf i).toNat)
  case atStart => exact ⟨0, _, Nat.zero_le _, by simp, rfl, HD0, hJ0⟩
  case round =>
    obtain ⟨j, v8, hj, rfl, rfl, HD, hJj⟩ := hrel
    obtain ⟨kk, hkk⟩ : ∃ kk, kk = first + (j : Int) := ⟨_, rfl⟩
    rw [← hkk]
    have z9 := HD.out.z.c
    have hz9 := cell_lt z9
    by_cases hlt : j < N
    · have hle : kk ≤ last := by omega
      have hkb := HKB.out kk (by omega) hle
      have hmb := HMB.out
      have w1 : IntKind.i64.wrap (kk * c.r) = kk * c.r := IntWalk.i64_in _ (by omega)
      have w2 : IntKind.i64.wrap (mid + kk * c.r) = mid + kk * c.r := IntWalk.i64_in _ (by omega)
      have w3 : IntKind.i64.wrap (kk + 1) = kk + 1 := IntWalk.i64_in _ (by omega)
      have HTU := Lib.hid (fun X => turn_any c (mid + kk * c.r) X HC.out (by omega))
      unfold cntVal at HTU
      have HX : Hid (xLo c mid lo kk = max (turnLo c (mid + kk * c.r)) lo ∧ xHi c mid hi kk = min (turnHi c (mid + kk * c.r)) hi) := Lib.hid ⟨rfl, rfl⟩
      have HSP : Hid (spanL c mid lo hi first (j + 1) = if xLo c mid lo kk ≤ xHi c mid hi kk then spanL c mid lo hi first j ++ [(xLo c mid lo kk, xHi c mid hi kk)] else spanL c mid lo hi first j) := Lib.hid (by rw [hkk]; rfl)
      have HK := Lib.hid hkk
      have HLT := Lib.hid hlt
      generalize turnLo c (mid + kk * c.r) = tl at *
      generalize turnHi c (mid + kk * c.r) = th at *
      have HCO := Lib.hid (fun X => common_any tl th lo hi X)
      rw [← HX.out.1, ← HX.out.2] at HCO
      generalize xLo c mid lo kk = xl at *
      generalize xHi c mid hi kk = xh at *
      obtain ⟨c0, c1, c2, c3, c4, c5, c6, s0, s1, s2⟩ := HD.out.t.cells
      have hz := cell_lt c0
      have hzs := cell_lt s0
      have hzm := cell_lt s2
      clear hkk hlt hkb hmb
      refine wpIn_wide.2 ?_
      go_upto_region 3 with fail
      go_cut [8] from 15 to 24 (fun sb wx => ∃ b', sb = .pointer (some ⟨b', 0, none⟩) ∧ Hid (SpBox wx b' xl xh) ∧ Hid (Below wr.heap.size wr wx))
      case first =>
        have hB0 : Below wr.heap.size wr wr.drew := Below.drew (Below.refl _ _)
        go_region_held3 (fun w' => w'.cell? ⟨b, 0, none⟩ = some (.int .i64 c.f) ∧ w'.cell? ⟨b, 1, none⟩ = some (.int .i64 c.o) ∧ w'.cell? ⟨b, 2, none⟩ = some (.int .i64 c.j) ∧ w'.cell? ⟨b, 3, none⟩ = some (.int .i64 c.g) ∧ w'.cell? ⟨b, 4, none⟩ = some (.int .i64 c.r) ∧ w'.cell? ⟨b, 5, none⟩ = some (.int .i64 c.d) ∧ w'.cell? ⟨b, 6, none⟩ = some (.int .i64 c.i) ∧ w'.cell? ⟨b + 1, 0, none⟩ = some (.int .i64 lo) ∧ w'.cell? ⟨b + 1, 1, none⟩ = some (.int .i64 hi) ∧ w'.cell? ⟨b + 1 + 1, 0, none⟩ = some (.int .i64 mid))
          (first | exact (HD.out.t.below hB0).cells | exact (HD.out.t.below (below_alloc hB0 _)).cells | exact (HD.out.t.below hb2).cells | exact (HD.out.t.below (below_alloc hb2 _)).cells | exact (HD.out.t.below hb4).cells | exact (HD.out.t.below (below_alloc hb4 _)).cells | exact (((HD.out.t.below hb4).far hzm).far hzm).cells | exact (((HD.out.t.below hb4).far (Nat.lt_of_lt_of_le hzm hb2.size)).far (Nat.lt_of_lt_of_le hzm hb2.size)).cells)
          (first | (go_at_call 76; refine (one_bare wr HTU.out).mono ?_; rintro e w2 ⟨rfl, hb2⟩) |
            (go_at_call 76; refine (span_box wr 43 HTU.out).mono ?_; rintro e w2 ⟨rfl, hb2, k0, k1, f0, f1, hz2⟩) |
            (go_at_call 75; refine (HCO.out _).mono ?_; rintro e w3 ⟨rfl, hb3⟩; have q0 := cell_below hb3 k0; have q1 := cell_below hb3 k1; have g0 := (hb3.frozen (p := ⟨wr.heap.size, 0, none⟩) hz2).trans f0; have g1 := (hb3.frozen (p := ⟨wr.heap.size, 1, none⟩) hz2).trans f1; have hz3 := cell_lt q0; have hb4 := below_go hb2 hb3) |
            (go_at_call 75; refine (span_at w2 43 HCO.out).mono ?_; rintro e w3 ⟨rfl, hb3, q0, q1, g0, g1, hz3⟩; have hb4 := below_go hb2 hb3) |
            (go_at_call 75; refine (HCO.out w2).mono ?_; rintro e w3 ⟨rfl, hb3⟩; have hb4 := below_go hb2 hb3))
        all_goals
          go_wp2_with fail
          go_meet
        all_goals first
          | exact ⟨w3.heap.size, rfl, Lib.hid (SpBox.new w3 xl xh 43), Lib.hid (below_alloc hb4 _)⟩
          | exact ⟨w2.heap.size, rfl, Lib.hid (SpBox.set q0 q1), Lib.hid ((hb4.setCell (p := ⟨w2.heap.size, 0, none⟩) hb2.size _).setCell (p := ⟨w2.heap.size, 1, none⟩) hb2.size _)⟩
          | exact ⟨wr.heap.size, rfl, Lib.hid (SpBox.set q0 q1), Lib.hid ((hb4.setCell (p := ⟨wr.heap.size, 0, none⟩) (Nat.le_refl _) _).setCell (p := ⟨wr.heap.size, 1, none⟩) (Nat.le_refl _) _)⟩
      case rest =>
        obtain ⟨b', rfl, HBX, HB⟩ := hcut
        generalize wc = Z at *
        have HD2 := Lib.hid (HD.out.below HB.out)
        have hJ2 := HJ.out _ _ _ hJj HB.out
        obtain ⟨q0, q1⟩ := HBX.out
        have hzq := cell_lt q0
        clear c0 c1 c2 c3 c4 c5 c6 s0 s1 s2 hz hzs hzm z9 hz9 hJj HTU HCO HKB HMB w1 w2
        rename_i K2 aK
        refine aK _ _ ?_
        refine (wpIn_wide (n := n)).1 ?_
        by_cases hle2 : xl ≤ xh
        · have h1 := hY (spanL c mid lo hi first j) (xl, xh) Z hJ2 (Nat.lt_of_le_of_lt (spanL_le c mid lo hi first j) HLT.out)
          obtain ⟨fn, tmps, assign, body, hy, hR⟩ := h1
          unfold spVal at hy
          dsimp only at hy
          have HS1 : Hid (spanL c mid lo hi first (j + 1) = spanL c mid lo hi first j ++ [(xl, xh)]) := Lib.hid (by rw [HSP.out, if_pos hle2])
          gi_wp2
          refine hR.mono ?_
          rintro e W3 (⟨rfl, hJ3, hk3⟩ | ⟨rfl, hJx3⟩)
          · have HD3 := Lib.hid (HD2.out.stay hk3 h0 h1' h2 h8 h9)
            rw [← HS1.out] at hJ3
            clear hy hR hk3 q0 q1 hzq HSP
            gi_wp2
            go_wp2
            go_roundw
            case rel => exact ⟨j + 1, _, HLT.out, by rw [HK.out, Int.natCast_add, Int.add_assoc]; rfl, rfl, HD3, hJ3⟩
            case measure => have := HK.out; have := HLT.out; simp [intOf]; omega
          · clear hy hR q0 q1 hzq HSP
            gi_wp2
            refine bodyPost_ret (results_none rfl _ _ _) rfl ?_
            refine ⟨⟨_, rfl⟩, .inr ⟨_, ?_, hJx3⟩⟩
            rw [← HS1.out]
            exact spanL_prefix c mid lo hi first HLT.out
        · have HS1 : Hid (spanL c mid lo hi first (j + 1) = spanL c mid lo hi first j) := Lib.hid (by rw [HSP.out, if_neg hle2])
          rw [← HS1.out] at hJ2
          clear HSP
          gi_wp2
          refine ⟨fun _ h => (by cases h), ?_⟩
          go_at_K
          gi_wp2
          go_wp2
          go_roundw
          case rel => exact ⟨j + 1, _, HLT.out, by rw [HK.out, Int.natCast_add, Int.add_assoc]; rfl, rfl, HD2, hJ2⟩
          case measure => have := HK.out; have := HLT.out; simp [intOf]; omega
    · obtain rfl : j = N := by omega
      have hle : ¬ kk ≤ last := by omega
      gi_wp2
      go_end0
      exact ⟨⟨_, rfl⟩, .inl hJj⟩
theorem turns1_stops (n b b8 b9 N : Nat) (f : Nat → Prop) (c : Cnt) (lo hi mid first last : Int) (hc : CntIn c) (h0 : f b) (h1' : f (b + 1)) (h2 : f (b + 1 + 1)) (h8 : f b8) (h9 : f b9)
    (hN : (N : Int) = max 0 (last + 1 - first)) (hf : -4000000000000000000 ≤ first ∧ first ≤ 4000000000000000000) (hN2 : N ≤ 10000)
    (hk : ∀ k, first ≤ k → k ≤ last → -2000000000000000000 ≤ k * c.r ∧ k * c.r ≤ 2000000000000000000) (hm : -1000000000000000000 ≤ mid ∧ mid ≤ 1000000000000000000)
    (hn : 1 ≤ n) (w : World) (hD : TurnIn w b b8 b9 c lo hi mid first last) :
    SeqStopsK Fence.wide n Try.prog 74 #[.pointer (some ⟨b8, 0, none⟩), .pointer (some ⟨b9, 0, none⟩), .pointer (some ⟨b, 0, none⟩), .pointer (some ⟨b + 1 + 1, 0, none⟩), .pointer (some ⟨b + 1, 0, none⟩)] (fun d : Int × Int => #[spVal d]) (StayC f)
      (fun ys => ys = spanL c mid lo hi first N) (fun pre => pre <+: spanL c mid lo hi first N) N w := by
  intro lp J Jx W hW hJ _ hY hJ0
  exact turns1_in n lp b b8 b9 N f c lo hi mid first last hc h0 h1' h2 h8 h9 hN hf hN2 hk hm hn J Jx W hY hJ (hD.below hW) hJ0
end Go.Proofs.Ytlelamjbfjneiaa.Ct
