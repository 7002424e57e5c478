/- Contracts of layer 2: the iterator over both sides of each bound. -/
import Derived.Test.YtlelamjbfjneiaaNc
namespace Go.Proofs.Ytlelamjbfjneiaa.Ct
open Go Go.RowKit Go.Shelf
attribute [local go_sem] Oper.semAt_some
/-- what the iterator gives: a bound's index, and which of its sides -/
def Uix (N : Nat) : Type := { q : Nat × Bool // q.1 < N }
def uix (N k : Nat) (up : Bool) (h : k < N) : Uix N := ⟨(k, up), h⟩
def useL (N : Nat) : (k : Nat) → k ≤ N → List (Uix N)
  | 0, _ => []
  | k + 1, h => useL N k (Nat.le_of_succ_le h) ++ [uix N k true h] ++ [uix N k false h]
theorem useL_len (N : Nat) : ∀ k h, (useL N k h).length = 2 * k
  | 0, _ => rfl
  | k + 1, h => by simp only [useL, List.length_append, List.length_singleton, useL_len N k]; omega
theorem useL_val (N : Nat) : ∀ k h, (useL N k h).map (·.1) = useN k
  | 0, _ => rfl
  | k + 1, h => by simp only [useL, useN, List.map_append, useL_val N k, List.map_cons, List.map_nil, List.append_assoc]; rfl
theorem useL_prefix (N : Nat) {k : Nat} (h : k ≤ N) : ∀ {n : Nat} (hn : n ≤ N), k ≤ n → useL N k h <+: useL N n hn
  | 0, _, hk => by obtain rfl : k = 0 := by omega
                   exact List.prefix_refl _
  | n + 1, hn, hk => by
    by_cases e : k = n + 1
    · subst e; exact List.prefix_refl _
    · refine (useL_prefix N h (Nat.le_of_succ_le hn) (by omega)).trans ?_
      simp only [useL, List.append_assoc]
      exact List.prefix_append _ _
theorem useL_prefix1 (N : Nat) {k n : Nat} (h : k + 1 ≤ N) (hn : n ≤ N) (hk : k + 1 ≤ n) : useL N k (Nat.le_of_succ_le h) ++ [uix N k true h] <+: useL N n hn :=
  (List.prefix_append _ [uix N k false h]).trans (useL_prefix N h hn hk)
/-- bounds that lie in memory -/
def BndCells (w : World) (b o : Nat) (x : Bnd) : Prop :=
  (w.cell? ⟨b, o, none⟩ = some (.int .i64 x.a) ∧ w.cell? ⟨b, o + 1, none⟩ = some (.int .i64 x.b)) ∧ w.cell? ⟨b, o + 2, none⟩ = some (.int .i64 x.lo) ∧ w.cell? ⟨b, o + 3, none⟩ = some (.int .i64 x.hi)
theorem BndCells.of {A B : World} {b o : Nat} {x : Bnd} (h : BndCells A b o x) (hk : ∀ {o : Nat} {v : Value}, A.cell? ⟨b, o, none⟩ = some v → B.cell? ⟨b, o, none⟩ = some v) : BndCells B b o x := ⟨⟨hk h.1.1, hk h.1.2⟩, hk h.2.1, hk h.2.2⟩
def BndsIn (w : World) (l : List Bnd) (p : Option Addr) : Prop := l.length = 0 ∨ ∃ b o, p = some ⟨b, o, none⟩ ∧ ∀ i, i < l.length → BndCells w b (o + i * 4) (bndAt l i)
theorem BndsIn.below {w w' : World} {l : List Bnd} {p : Option Addr} (h : BndsIn w l p) (hb : Below w.heap.size w w') : BndsIn w' l p :=
  h.imp id fun ⟨b, o, e, hi⟩ => ⟨b, o, e, fun i h' => (hi i h').of (cell_below hb)⟩
/-- the blocks of numbers of which f holds lie as they lay -/
def StayC (f : Nat → Prop) (A B : World) : Prop := A.heap.size ≤ B.heap.size ∧ ∀ k o, f k → A.heap[k]? = some o → o.isCells = true → B.heap[k]? = some o
theorem StayC.trans {f : Nat → Prop} {A B C : World} (h : StayC f A B) (k : StayC f B C) : StayC f A C :=
  ⟨Nat.le_trans h.1 k.1, fun i o h1 h2 h3 => k.2 i o h1 (h.2 i o h1 h2 h3) h3⟩
theorem StayC.putObj {f : Nat → Prop} {w : World} (W : World) (l : Nat) (o o' : Obj) (_hl : w.heap.size ≤ l) (h : W.heap[l]? = some o) (hc : o.isCells = false) (_ : o.isWalk = false) : StayC f W (W.putObj l o') :=
  ⟨by simp, fun k ob _ hk hkc => by
    by_cases hkl : k = l
    · subst hkl; rw [h] at hk; cases hk; rw [hc] at hkc; cases hkc
    · exact (World.putObj_heap_other hkl).trans hk⟩
theorem cells_of_cell {A : World} {b o : Nat} {v : Value} (h : A.cell? ⟨b, o, none⟩ = some v) : ∃ ob, A.heap[b]? = some ob ∧ ob.isCells = true := by
  have hl := cell_lt h
  obtain ⟨ob, hob⟩ : ∃ ob, A.heap[b]? = some ob := ⟨_, Array.getElem?_eq_getElem hl⟩
  refine ⟨ob, hob, ?_⟩
  cases ob <;> simp [World.cell?, hob] at h <;> rfl
theorem StayC.cell {f : Nat → Prop} {b o : Nat} {A B : World} {v : Value} (h : StayC f A B) (hb : f b) (hc : A.cell? ⟨b, o, none⟩ = some v) : B.cell? ⟨b, o, none⟩ = some v := by
  obtain ⟨ob, h1, h2⟩ := cells_of_cell hc
  rw [← hc]; exact World.cell?_of_block (a := ⟨b, o, none⟩) ((h.2 b ob hb h1 h2).trans h1.symm)
theorem StayC.of_below {f : Nat → Prop} {A C : World} (h : Below A.heap.size A C) : StayC f A C := ⟨h.size, fun k o _ hk _ => by
  rw [h.block k (by
    have := Array.getElem?_eq_some_iff.1 hk
    obtain ⟨q, -⟩ := this
    exact q)]
  exact hk⟩
theorem grown_below {A B : World} (h : Below A.heap.size A B) : A.grownBy B none := ⟨h.os, h.tape, h.output, h.size, fun k hk _ => h.block k hk⟩
/-- what the iterator reads -/
structure LimIn (w : World) (Bl : Nat) (l : List Bnd) (p : Option Addr) (cap : Nat) : Prop where
  c : w.cell? ⟨Bl, 0, none⟩ = some (.slice p l.length cap)
  d : BndsIn w l p
def LimOk (f : Nat → Prop) (Bl : Nat) (p : Option Addr) (n : Nat) : Prop := f Bl ∧ (n = 0 ∨ ∀ b o, p = some ⟨b, o, none⟩ → f b)
theorem LimIn.stay {A B : World} {f : Nat → Prop} {Bl : Nat} {l : List Bnd} {p : Option Addr} {cap : Nat} (h : LimIn A Bl l p cap) (hk : StayC f A B) (ho : LimOk f Bl p l.length) : LimIn B Bl l p cap := by
  refine ⟨hk.cell ho.1 h.c, ?_⟩
  rcases h.d with h0 | ⟨b, o, hp, hi⟩
  · exact .inl h0
  · rcases ho.2 with h0 | hf
    · exact .inl h0
    · exact .inr ⟨b, o, hp, fun i hi' => (hi i hi').of (hk.cell (hf b o hp))⟩
theorem LimIn.below {A B : World} {Bl : Nat} {l : List Bnd} {p : Option Addr} {cap : Nat} (h : LimIn A Bl l p cap) (hb : Below A.heap.size A B) : LimIn B Bl l p cap := ⟨cell_below hb h.c, h.d.below hb⟩
def uixVal {N : Nat} (d : Uix N) : Value := .agg #[.int .i64 (d.1.1 : Int), .bool d.1.2]
def uixLim (l : List Bnd) (d : Uix l.length) : Lim := limOf (bndAt l d.1.1) d.1.2
set_option maxRecDepth 100000 in
set_option maxHeartbeats 2000000 in
theorem limits1_in (n lp Bl : Nat) (f : Nat → Prop) (l : List Bnd) (p : Option Addr) (cap : Nat) (ho : LimOk f Bl p l.length) (h240 : l.length ≤ 240) (hlo : ∀ i, i < l.length → -1000000000000000 ≤ (bndAt l i).lo ∧ (bndAt l i).lo ≤ 1000000000000000)
    (hn : 1 ≤ n) (J Jx : List (Uix l.length) → World → Prop) (W : World)
    (hY : ∀ pre d W1, J pre W1 → pre.length < 2 * l.length → YieldAt Fence.wide (n - 1) Try.prog lp #[uixVal d, limVal (uixLim l d)] W1 fun e W' =>
      (e = .returned (.bool true) ∧ J (pre ++ [d]) W' ∧ StayC f W1 W') ∨ (e = .returned (.bool false) ∧ Jx (pre ++ [d]) W'))
    (hJ : AbidesFrom W.heap.size J) (hfn : ∀ k, W.heap.size ≤ k → f k) (hD : LimIn W Bl l p cap) (hJ0 : J [] W) :
    CallsIn Fence.wide n Try.prog 71 #[.func (.yield lp) #[] #[], .pointer (some ⟨Bl, 0, none⟩)] W fun e W' => (∃ v, e = .returned v) ∧
      ((∃ ys, ys = useL l.length l.length (Nat.le_refl _) ∧ J ys W') ∨ (∃ pre, pre <+: useL l.length l.length (Nat.le_refl _) ∧ Jx pre W')) := by
  have hro : Fence.wide.round = none := rfl
  have HJ := Lib.hid (show ∀ (s : List (Uix l.length)) (A B : World), J s A → Below A.heap.size A B → J s B from fun s A B h hb => hJ s A B none h (grown_below hb) (fun r e => by cases e))
  have HD0 := Lib.hid hD
  have hc0 := hD.c
  have HLO := Lib.hid hlo
  clear hD hJ hlo
  refine callsIn_of_wp Try.func71 rfl trivial ?_ hro
  simp only [Try.ntmps71, List.size_toArray, List.length_cons, List.length_nil, Nat.reduceAdd, Nat.reduceSub, Array.replicate_succ, Array.replicate_zero, List.push_toArray, List.append_toArray, List.nil_append, List.cons_append]
  gi_wp2
  clear hc0
  gi_loopw [3, 4, 7] (fun _ _ i wr => ∃ (k : Nat) (h : k ≤ l.length), i = .int .i64 (k : Int) ∧ Hid (LimIn wr Bl l p cap) ∧ Hid (W.heap.size ≤ wr.heap.size) ∧ J (useL l.length k h) wr) (fun _ _ i _ => l.length - (intOf i).toNat)
  case atStart => exact ⟨0, Nat.zero_le _, rfl, HD0, Lib.hid (Nat.le_refl _), hJ0⟩
  case round =>
    obtain ⟨k, hk, rfl, HD, HS, hJk⟩ := hrel
    by_cases hlt : k < l.length
    · have hki : (k : Int) < l.length := by omega
      obtain ⟨b, o, rfl, hi⟩ := HD.out.d.resolve_left (by omega)
      obtain ⟨⟨x0, x1⟩, x2, x3⟩ := hi k hlt
      have hzb := cell_lt x0
      have hlk := Lib.hid (HLO.out k hlt)
      have hY1 := Lib.hid (fun W1 h1 => hY (useL l.length k hk) (uix l.length k true hlt) W1 h1 (by rw [useL_len]; omega))
      have hY2 := Lib.hid (fun W1 h1 => hY (useL l.length k hk ++ [uix l.length k true hlt]) (uix l.length k false hlt) W1 h1 (by rw [List.length_append, useL_len]; simp; omega))
      have HK := Lib.hid hlt
      obtain ⟨xk, hxk⟩ : ∃ xk, xk = bndAt l k := ⟨_, rfl⟩
      rw [← hxk] at x0 x1 x2 x3 hlk
      have HXK := Lib.hid hxk
      clear hxk hi hY
      obtain ⟨xa, xb, xlo, xhi⟩ := xk
      dsimp only at x0 x1 x2 x3
      gi_wp2
      have A1 := Lib.hid (below_alloc (Below.refl wr.heap.size wr) (.cells #[.int .i64 xa, .int .i64 xb, .int .i64 xlo, .int .i64 xhi] 46))
      have c0 : (wr.alloc (.cells #[.int .i64 xa, .int .i64 xb, .int .i64 xlo, .int .i64 xhi] 46)).cell? ⟨wr.heap.size, 0, none⟩ = some (.int .i64 xa) := by simp
      have c1 : (wr.alloc (.cells #[.int .i64 xa, .int .i64 xb, .int .i64 xlo, .int .i64 xhi] 46)).cell? ⟨wr.heap.size, 1, none⟩ = some (.int .i64 xb) := by simp
      have c2 : (wr.alloc (.cells #[.int .i64 xa, .int .i64 xb, .int .i64 xlo, .int .i64 xhi] 46)).cell? ⟨wr.heap.size, 2, none⟩ = some (.int .i64 xlo) := by simp
      have c3 : (wr.alloc (.cells #[.int .i64 xa, .int .i64 xb, .int .i64 xlo, .int .i64 xhi] 46)).cell? ⟨wr.heap.size, 3, none⟩ = some (.int .i64 xhi) := by simp
      clear x0 x1 x2 x3
      refine ⟨trivial, (callsIn_wide.2 (limit_any ⟨xa, xb, xlo, xhi⟩ true _ hlk.out)).mono ?_⟩
      rintro e W2 ⟨rfl, hb2⟩
      have B2 := Lib.hid (A1.out.trans (hb2.mono A1.out.size))
      have HBX := Lib.hid (show BndCells W2 wr.heap.size 0 ⟨xa, xb, xlo, xhi⟩ from ⟨⟨cell_below hb2 c0, cell_below hb2 c1⟩, cell_below hb2 c2, cell_below hb2 c3⟩)
      clear c0 c1 c2 c3 hb2
      have h1 := hY1.out W2 (HJ.out _ _ _ hJk B2.out)
      have e1 : uixLim l (uix l.length k true hlt) = limOf ⟨xa, xb, xlo, xhi⟩ true := by rw [HXK.out]; rfl
      rw [e1] at h1
      obtain ⟨fn, tmps, assign, body, hy, hR⟩ := h1
      clear hY1 e1
      unfold uixVal at hy
      dsimp only [uix] at hy
      have HW := Lib.hid (Nat.le_trans HS.out (below_alloc (Below.refl wr.heap.size wr) (.cells #[.int .i64 xa, .int .i64 xb, .int .i64 xlo, .int .i64 xhi] 46)).size)
      gi_wp2
      refine hR.mono ?_
      rintro e W3 (⟨rfl, hJ3, hk3⟩ | ⟨rfl, hJx3⟩)
      · clear hR
        have HD3 := Lib.hid ((HD.out.below B2.out).stay hk3 ho)
        have HB3 := HBX.out.of (hk3.cell (hfn _ HS.out))
        obtain ⟨⟨z0, z1⟩, z2, z3⟩ := HB3
        simp only [Nat.zero_add] at z0 z1 z2 z3
        have hz3 := cell_lt z0
        have hD3s := hk3.1
        clear hy hk3
        gi_wp2
        refine ⟨trivial, (callsIn_wide.2 (limit_any ⟨xa, xb, xlo, xhi⟩ false _ hlk.out)).mono ?_⟩
        rintro e W4 ⟨rfl, hb4⟩
        have h2 := hY2.out W4 (HJ.out _ _ _ hJ3 hb4)
        have e2 : uixLim l (uix l.length k false HK.out) = limOf ⟨xa, xb, xlo, xhi⟩ false := by rw [HXK.out]; rfl
        rw [e2] at h2
        obtain ⟨fn2, tmps2, assign2, body2, hy2, hR2⟩ := h2
        have HD4 := Lib.hid (HD3.out.below hb4)
        have HS4 := Lib.hid (show W.heap.size ≤ W4.heap.size from Nat.le_trans HS.out (Nat.le_trans (by have := B2.out.size; omega) hb4.size))
        clear hY2 e2 z0 z1 z2 z3 hz3 hb4
        unfold uixVal at hy2
        dsimp only [uix] at hy2
        gi_wp2
        refine hR2.mono ?_
        rintro e W5 (⟨rfl, hJ5, hk5⟩ | ⟨rfl, hJx5⟩)
        · have HD5 := Lib.hid (HD4.out.stay hk5 ho)
          have HS5 := Lib.hid (Nat.le_trans HS4.out hk5.1)
          clear hy2 hR2 hk5
          gi_wp2
          go_roundw
          case rel => exact ⟨k + 1, HK.out, by simp, HD5, HS5, hJ5⟩
          case measure => have := HK.out; simp [intOf]; omega
        · clear hy2 hR2
          gi_wp2
          refine bodyPost_ret (results_none rfl _ _ _) rfl ?_
          refine ⟨⟨_, rfl⟩, .inr ⟨_, ?_, hJx5⟩⟩
          exact useL_prefix l.length (Nat.succ_le_of_lt HK.out) (Nat.le_refl _) (Nat.succ_le_of_lt HK.out)
      · clear hR hy
        gi_wp2
        refine ⟨trivial, ?_⟩
        go_at_K
        gi_wp2
        refine ⟨fun _ h => (by cases h), ?_⟩
        go_at_K
        gi_wp2
        refine bodyPost_ret (results_none rfl _ _ _) rfl ?_
        exact ⟨⟨_, rfl⟩, .inr ⟨_, useL_prefix1 l.length (Nat.succ_le_of_lt HK.out) (Nat.le_refl _) (Nat.succ_le_of_lt HK.out), hJx3⟩⟩
    · have hki : ¬ ((k : Int) < l.length) := by omega
      obtain rfl : k = l.length := by omega
      gi_wp2
      go_end0
      exact ⟨⟨_, rfl⟩, .inl hJk⟩
theorem limits1_stops (n Bl : Nat) (f : Nat → Prop) (l : List Bnd) (p : Option Addr) (cap : Nat) (ho : LimOk f Bl p l.length) (h240 : l.length ≤ 240) (hlo : ∀ i, i < l.length → -1000000000000000 ≤ (bndAt l i).lo ∧ (bndAt l i).lo ≤ 1000000000000000)
    (hn : 1 ≤ n) (w : World) (hfn : ∀ k, w.heap.size ≤ k → f k) (hD : LimIn w Bl l p cap) :
    SeqStopsK Fence.wide n Try.prog 71 #[.pointer (some ⟨Bl, 0, none⟩)] (fun d : Uix l.length => #[uixVal d, limVal (uixLim l d)]) (StayC f)
      (fun ys => ys = useL l.length l.length (Nat.le_refl _)) (fun pre => pre <+: useL l.length l.length (Nat.le_refl _)) (2 * l.length) w := by
  intro lp J Jx W hW hJ _ hY hJ0
  exact limits1_in n lp Bl f l p cap ho h240 hlo hn J Jx W hY hJ (fun k hk => hfn k (Nat.le_trans hW.size hk)) (hD.below hW) hJ0
end Go.Proofs.Ytlelamjbfjneiaa.Ct
