/- Contracts of layer 2: Unwrap. -/
import Derived.Test.YtlelamjbfjneiaaCd
import Derived.OwnWalk
import Derived.Laws.OwnMore
namespace Go.Proofs.Ytlelamjbfjneiaa.Ct
open Go Go.RowKit
/-- numbers that lie in memory -/
def FnAt (w : World) (m : Nat → Int) (n b o : Nat) : Prop := ∀ i, i < n → w.cell? ⟨b, o + i, none⟩ = some (.int .i64 (m i))
theorem FnAt.below {w w' : World} {m : Nat → Int} {n b o : Nat} (h : FnAt w m n b o) (hb : Below w.heap.size w w') : FnAt w' m n b o := fun i hi => cell_below hb (h i hi)
def FnIn (w : World) (m : Nat → Int) (n : Nat) (p : Option Addr) : Prop := n = 0 ∨ ∃ b o, p = some ⟨b, o, none⟩ ∧ FnAt w m n b o
theorem FnIn.below {w w' : World} {m : Nat → Int} {n : Nat} {p : Option Addr} (h : FnIn w m n p) (hb : Below w.heap.size w w') : FnIn w' m n p := h.imp id fun ⟨b, o, e, hi⟩ => ⟨b, o, e, hi.below hb⟩
def unwS (c : Cnt) (m : Nat → Int) : Nat → Int
  | 0 => m 0
  | i + 1 => unwS c m i + wrapS c (m (i + 1) - m i)
theorem unwS_bd {c : Cnt} (h : CntIn c) (m : Nat → Int) (hm : -1000000000000000 ≤ m 0 ∧ m 0 ≤ 1000000000000000) : ∀ i : Nat, -(1000000000000000 * ((i : Int) + 1)) ≤ unwS c m i ∧ unwS c m i ≤ 1000000000000000 * ((i : Int) + 1)
  | 0 => by simp only [unwS]; omega
  | i + 1 => by
    have h1 := unwS_bd h m hm i
    have h2 := wrapS_bd h (m (i + 1) - m i)
    have h3 := h.r
    simp only [unwS]
    omega
/-- what lies about the loop of unwrap -/
structure UnAt (w W : World) (c : Cnt) (m : Nat → Int) (n g k : Nat) (p : Option Addr) : Prop where
  b : CBox W w.heap.size c
  src : FnIn W m n p
  sl : ∀ b o, p = some ⟨b, o, none⟩ → 1 ≤ n → b < w.heap.size
  done : FnAt W (unwS c m) k g 0
  cells : ∀ i, i < n → (∃ x : Int, W.cell? ⟨g, i, none⟩ = some (.int .i64 x)) ∧ W.frozen? ⟨g, i, none⟩ = false
  bel : Below w.heap.size w W
  gt : w.heap.size < g
theorem UnAt.below {w W Y : World} {c : Cnt} {m : Nat → Int} {n g k : Nat} {p : Option Addr} (h : UnAt w W c m n g k p) (hb : Below W.heap.size W Y) : UnAt w Y c m n g k p :=
  ⟨h.b.below hb, h.src.below hb, h.sl, h.done.below hb, fun i hi => by
    obtain ⟨⟨x, hx⟩, hf⟩ := h.cells i hi
    exact ⟨⟨x, cell_below hb hx⟩, (hb.frozen (p := ⟨g, i, none⟩) (cell_lt hx)).trans hf⟩, h.bel.trans (hb.mono h.bel.size), h.gt⟩
theorem UnAt.put {w W : World} {c : Cnt} {m : Nat → Int} {n g k : Nat} {p : Option Addr} (h : UnAt w W c m n g k p) (hk : k < n) : UnAt w (W.setCell ⟨g, k, none⟩ (.int .i64 (unwS c m k))) c m n g (k + 1) p := by
  have hg := h.gt
  have far : ∀ {b o : Nat} {v : Value}, b ≠ g → W.cell? ⟨b, o, none⟩ = some v → (W.setCell ⟨g, k, none⟩ (.int .i64 (unwS c m k))).cell? ⟨b, o, none⟩ = some v := fun hne hv => by
    rw [World.cell?_setCell_far _ _ _ _ (fun e => hne e.symm)]; exact hv
  have oth : ∀ {o : Nat} {v : Value}, o ≠ k → W.cell? ⟨g, o, none⟩ = some v → (W.setCell ⟨g, k, none⟩ (.int .i64 (unwS c m k))).cell? ⟨g, o, none⟩ = some v := fun hne hv => by
    rw [World.cell?_setCell_other _ _ _ _ (by simp)]; exact hv
  obtain ⟨⟨xk, hxk⟩, -⟩ := h.cells k hk
  have same : (W.setCell ⟨g, k, none⟩ (.int .i64 (unwS c m k))).cell? ⟨g, k, none⟩ = some (.int .i64 (unwS c m k)) := World.cell?_setCell_same _ _ _ hxk
  have hne : w.heap.size ≠ g := by omega
  refine ⟨⟨far hne h.b.c0, far hne h.b.c1, far hne h.b.c2, far hne h.b.c3, far hne h.b.c4, far hne h.b.c5, far hne h.b.c6⟩, ?_, h.sl, fun i hi => ?_, fun i hi => ?_, h.bel.setCell (p := ⟨g, k, none⟩) (by show w.heap.size ≤ g; omega) _, hg⟩
  · rcases h.src with h0 | ⟨b, o, e, hi⟩
    · exact .inl h0
    · have := h.sl b o e (by omega)
      exact .inr ⟨b, o, e, fun i hi' => far (by omega) (hi i hi')⟩
  · rw [Nat.zero_add]
    by_cases e : i = k
    · subst e; exact same
    · have := h.done i (by omega)
      rw [Nat.zero_add] at this
      exact oth e this
  · obtain ⟨⟨x, hx⟩, hf⟩ := h.cells i hi
    refine ⟨?_, by rw [World.frozen?_setCell]; exact hf⟩
    by_cases e : i = k
    · subst e; exact ⟨_, same⟩
    · exact ⟨x, oth e hx⟩
theorem infoInt : (Try.prog.info? 3).map (fun i => (i.zero, i.size, i.bytes)) = some (some (.int .i64 0), 1, 8) := by kernel_rfl
theorem made_cells {X : World} {B g n cap : Nat} (h : X.ownsRow B 3 1 (.slice (some ⟨g, 0, none⟩) n cap) n (List.replicate n (.int .i64 0))) : ∀ i, i < n → (∃ x : Int, X.cell? ⟨g, i, none⟩ = some (.int .i64 x)) ∧ X.frozen? ⟨g, i, none⟩ = false := fun i hi => by
  refine ⟨⟨0, ?_⟩, ?_⟩
  · have := World.ownsRow.cells h (g := g) rfl i (.int .i64 0) (by simp [hi])
    rwa [show (⟨g, 0, none⟩ : Addr).add i = ⟨g, i, none⟩ by unfold Addr.add; split <;> simp_all] at this
  · rcases h.2 with ⟨e, _⟩ | ⟨g', cap', cur, e, hg, hgb, _⟩
    · cases e
    · cases e
      simp [World.frozen?, hgb]
def UnwRet (c : Cnt) (m : Nat → Int) (n : Nat) (w : World) (e : Ending) (w' : World) : Prop := ∃ g, e = .returned (.slice (some ⟨g, 0, none⟩) n n) ∧ FnAt w' (unwS c m) n g 0 ∧ w.heap.size < g ∧ Below w.heap.size w w'
set_option maxRecDepth 100000 in
set_option maxHeartbeats 4000000 in
theorem unwrap_any (c : Cnt) (m : Nat → Int) (n : Nat) (p : Option Addr) (cap : Nat) (w : World) (hc : CntIn c) (hn : n ≤ 2000) (hm : ∀ i, i < n → -1000000000000000 ≤ m i ∧ m i ≤ 1000000000000000) (hs : FnIn w m n p) :
    Calls Try.prog 37 #[cntVal c, .slice p n cap] w (UnwRet c m n w) := by
  obtain ⟨i0, hi0, hz0, hz1, hz2⟩ := info_parts infoInt
  have a0 := below_alloc (Below.refl w.heap.size w) (cntObj c)
  have A0 := Lib.hid a0
  have HB := Lib.hid (CBox.new w c)
  have HS := Lib.hid (hs.below a0)
  have hsl : ∀ b o, p = some ⟨b, o, none⟩ → 1 ≤ n → b < w.heap.size := fun b o e h1 => by
    rcases hs with h | ⟨b', o', e', hi⟩
    · omega
    · cases e.symm.trans e'
      exact cell_lt (hi 0 h1)
  have HSL := Lib.hid hsl
  have HM := Lib.hid hm
  have HC := Lib.hid hc
  have hsz : (w.alloc (cntObj c)).heap.size = w.heap.size + 1 := by simp
  have HSZ := Lib.hid hsz
  clear a0 hs hsl hm hc hsz
  unfold cntObj at A0 HB HS HSZ
  unfold cntVal
  go_enter Try.func37, Try.ntmps37
  go_wp2_with (at_make; refine wpList_make_full _ rfl _ _ 52 rfl (w.heap.size + 1) 3 i0 (.int .i64 0) 1 Try.underlying52 hi0 hz0 hz1 .i64 .i64 _ _ n rfl rfl rfl rfl (by rw [hz2]; omega) (by unfold maxLen; omega) (by rw [HSZ.out]; exact Nat.le_refl _) ?_; intro w0 hown0 hgrow0)
  rw [show ((w.alloc (.cells #[.int .i64 c.f, .int .i64 c.o, .int .i64 c.j, .int .i64 c.g, .int .i64 c.r, .int .i64 c.d, .int .i64 c.i] 56)).heap.size) = w.heap.size + 1 from HSZ.out] at hown0
  have hb0 : Below (w.heap.size + 1) (w.alloc (.cells #[.int .i64 c.f, .int .i64 c.o, .int .i64 c.j, .int .i64 c.g, .int .i64 c.r, .int .i64 c.d, .int .i64 c.i] 56)) w0 := (Below.refl _ _).grown hgrow0 (by rw [HSZ.out]; exact Nat.le_refl _) (fun k hk => by cases hk)
  have hb1 := hb0
  rw [← HSZ.out] at hb1
  have HU : Hid (UnAt w w0 c m n (w.heap.size + 1) 0 p) := Lib.hid ⟨HB.out.below hb1, HS.out.below hb1, HSL.out, fun i hi => absurd hi (Nat.not_lt_zero i), made_cells (by
    rw [Nat.mul_one, show (Value.int .i64 0).cells = #[.int .i64 0] from rfl, toList_madeCells_one] at hown0
    exact hown0), A0.out.trans (hb1.mono A0.out.size), Nat.lt_succ_self _⟩
  clear hown0 hgrow0 hb0 hb1 HB HS A0 HSZ hz0 hz1 hz2 hi0
  generalize w.heap.size + 1 = g at *
  go_loopw [13] (fun i wr => ∃ k : Nat, k ≤ n ∧ i = .int .i64 (k : Int) ∧ Hid (UnAt w wr c m n g k p)) (fun i _ => n - (intOf i).toNat)
  case atStart => exact ⟨0, Nat.zero_le _, rfl, HU⟩
  case round =>
    obtain ⟨k, hk, rfl, HE⟩ := hrel
    by_cases hlt : k < n
    · have hki : (k : Int) < (n : Int) := by omega
      have HPU := Lib.hid (HE.out.put hlt)
      obtain ⟨bs, os, rfl, hsrc⟩ := HE.out.src.resolve_left (by omega)
      obtain ⟨⟨old, hold⟩, hfr⟩ := HE.out.cells k hlt
      have hmk := hsrc k hlt
      have hz := cell_lt hmk
      have hz2 := cell_lt hold
      have v1 : IntKind.i64.wrap ((k : Int) + 1) = (k : Int) + 1 := IntWalk.i64_in _ (by omega)
      by_cases hk0 : k = 0
      · subst hk0
        have hmk0 : wr.cell? ⟨bs, os, none⟩ = some (.int .i64 (m 0)) := hmk
        have HPU0 : Hid (UnAt w (wr.setCell ⟨g, 0, none⟩ (.int .i64 (m 0))) c m n g 1 (some ⟨bs, os, none⟩)) := HPU
        generalize m 0 = m0 at hmk0 HPU0
        clear hsrc hmk HPU hk
        go_wp2
        go_roundw
        case rel => exact ⟨1, by omega, rfl, HPU0⟩
        case measure => simp [intOf]; omega
      · obtain ⟨q, hq⟩ : ∃ q, k = q + 1 := ⟨k - 1, by omega⟩
        have hk0i : ((k : Int) == 0) = false := beq_eq_false_iff_ne.2 (by omega)
        have hk0j : ¬ (k : Int) = 0 := by omega
        have hmq := hsrc q (by omega)
        have huq := HE.out.done q (by omega)
        rw [Nat.zero_add] at huq
        obtain ⟨mk, hmkk⟩ : ∃ x, x = m k := ⟨_, rfl⟩
        obtain ⟨mq, hmqq⟩ : ∃ x, x = m q := ⟨_, rfl⟩
        obtain ⟨uq, huqq⟩ : ∃ x, x = unwS c m q := ⟨_, rfl⟩
        have hb1 := HM.out k hlt
        have hb2 := HM.out q (by omega)
        have hb3 := unwS_bd HC.out m (HM.out 0 (by omega)) q
        have hb4 := wrapS_bd HC.out (mk - mq)
        have hb5 := HC.out.r
        rw [← hmkk] at hmk hb1
        rw [← hmqq] at hmq hb2
        rw [← huqq] at huq hb3
        have hun : unwS c m k = uq + wrapS c (mk - mq) := by rw [hmkk, hmqq, huqq, hq]; rfl
        have v2 : IntKind.i64.wrap ((k : Int) - 1) = (q : Int) := by rw [IntWalk.i64_in _ (by omega)]; omega
        have hqi : (q : Int) < (n : Int) := by omega
        have v3 : IntKind.i64.wrap (mk - mq) = mk - mq := IntWalk.i64_in _ (by omega)
        have HWR := Lib.hid (fun W => wrap_any c (mk - mq) W HC.out (by omega))
        obtain ⟨wv, hwv⟩ : ∃ x, x = wrapS c (mk - mq) := ⟨_, rfl⟩
        rw [← hwv] at HWR hun hb4
        have v4 : IntKind.i64.wrap (uq + wv) = uq + wv := IntWalk.i64_in _ (by omega)
        rw [hun] at HPU
        unfold cntVal at HWR
        have HK := Lib.hid (fun (W : World) (hb : Below wr.heap.size wr W) => (show W.cell? ⟨w.heap.size, 0, none⟩ = some (.int .i64 c.f) ∧ W.cell? ⟨w.heap.size, 1, none⟩ = some (.int .i64 c.o) ∧ W.cell? ⟨w.heap.size, 2, none⟩ = some (.int .i64 c.j) ∧ W.cell? ⟨w.heap.size, 3, none⟩ = some (.int .i64 c.g) ∧ W.cell? ⟨w.heap.size, 4, none⟩ = some (.int .i64 c.r) ∧ W.cell? ⟨w.heap.size, 5, none⟩ = some (.int .i64 c.d) ∧ W.cell? ⟨w.heap.size, 6, none⟩ = some (.int .i64 c.i) ∧ W.cell? ⟨g, q, none⟩ = some (.int .i64 uq) ∧ W.cell? ⟨bs, os + q, none⟩ = some (.int .i64 mq) from by
          have h := HE.out.b.below hb
          exact ⟨h.c0, h.c1, h.c2, h.c3, h.c4, h.c5, h.c6, cell_below hb huq, cell_below hb hmq⟩))
        have hne1 : g ≠ w.heap.size := by have := HE.out.gt; omega
        have hne2 : g ≠ bs := by have := HE.out.gt; have := HE.out.sl bs os rfl (by omega); omega
        have HK2 := Lib.hid (fun (W : World) (v : Value) (h : W.cell? ⟨w.heap.size, 0, none⟩ = some (.int .i64 c.f) ∧ W.cell? ⟨w.heap.size, 1, none⟩ = some (.int .i64 c.o) ∧ W.cell? ⟨w.heap.size, 2, none⟩ = some (.int .i64 c.j) ∧ W.cell? ⟨w.heap.size, 3, none⟩ = some (.int .i64 c.g) ∧ W.cell? ⟨w.heap.size, 4, none⟩ = some (.int .i64 c.r) ∧ W.cell? ⟨w.heap.size, 5, none⟩ = some (.int .i64 c.d) ∧ W.cell? ⟨w.heap.size, 6, none⟩ = some (.int .i64 c.i) ∧ W.cell? ⟨g, q, none⟩ = some (.int .i64 uq) ∧ W.cell? ⟨bs, os + q, none⟩ = some (.int .i64 mq)) => (show (W.setCell ⟨g, k, none⟩ v).cell? ⟨w.heap.size, 0, none⟩ = some (.int .i64 c.f) ∧ (W.setCell ⟨g, k, none⟩ v).cell? ⟨w.heap.size, 1, none⟩ = some (.int .i64 c.o) ∧ (W.setCell ⟨g, k, none⟩ v).cell? ⟨w.heap.size, 2, none⟩ = some (.int .i64 c.j) ∧ (W.setCell ⟨g, k, none⟩ v).cell? ⟨w.heap.size, 3, none⟩ = some (.int .i64 c.g) ∧ (W.setCell ⟨g, k, none⟩ v).cell? ⟨w.heap.size, 4, none⟩ = some (.int .i64 c.r) ∧ (W.setCell ⟨g, k, none⟩ v).cell? ⟨w.heap.size, 5, none⟩ = some (.int .i64 c.d) ∧ (W.setCell ⟨g, k, none⟩ v).cell? ⟨w.heap.size, 6, none⟩ = some (.int .i64 c.i) ∧ (W.setCell ⟨g, k, none⟩ v).cell? ⟨g, q, none⟩ = some (.int .i64 uq) ∧ (W.setCell ⟨g, k, none⟩ v).cell? ⟨bs, os + q, none⟩ = some (.int .i64 mq) from by
          obtain ⟨h0, h1, h2, h3, h4, h5, h6, h7, h8⟩ := h
          exact ⟨by rw [World.cell?_setCell_far _ _ _ _ hne1]; exact h0, by rw [World.cell?_setCell_far _ _ _ _ hne1]; exact h1, by rw [World.cell?_setCell_far _ _ _ _ hne1]; exact h2, by rw [World.cell?_setCell_far _ _ _ _ hne1]; exact h3, by rw [World.cell?_setCell_far _ _ _ _ hne1]; exact h4, by rw [World.cell?_setCell_far _ _ _ _ hne1]; exact h5, by rw [World.cell?_setCell_far _ _ _ _ hne1]; exact h6,
            by rw [World.cell?_setCell_other _ _ _ _ (by simp)]; exact h7, by rw [World.cell?_setCell_far _ _ _ _ hne2]; exact h8⟩))
        have HPN := Lib.hid (fun (W : World) (hb : Below wr.heap.size wr W) => (HE.out.below hb).put hlt)
        rw [hun] at HPN
        have hB0 : Below wr.heap.size wr wr.drew := Below.drew (Below.refl _ _)
        have HWK := Lib.hid (fun (W : World) (hb : Below wr.heap.size wr W) => (HWR.out W).mono fun _ _ h => And.intro h.1 (hb.trans (h.2.mono hb.size)))
        have HFR := Lib.hid (fun (W : World) (hb : Below wr.heap.size wr W) => And.intro (cell_below hb hold) ((hb.frozen (p := ⟨g, k, none⟩) hz2).trans hfr))
        have HKQ := Lib.hid hq
        clear hq hk0 hsrc hun HPU hmkk hmqq huqq hwv hb1 hb2 hb3 hb4 hb5 hne1 hne2
        go_upto_region 7 with fail
        go_region_held3 (fun w' => w'.cell? ⟨w.heap.size, 0, none⟩ = some (.int .i64 c.f) ∧ w'.cell? ⟨w.heap.size, 1, none⟩ = some (.int .i64 c.o) ∧ w'.cell? ⟨w.heap.size, 2, none⟩ = some (.int .i64 c.j) ∧ w'.cell? ⟨w.heap.size, 3, none⟩ = some (.int .i64 c.g) ∧ w'.cell? ⟨w.heap.size, 4, none⟩ = some (.int .i64 c.r) ∧ w'.cell? ⟨w.heap.size, 5, none⟩ = some (.int .i64 c.d) ∧ w'.cell? ⟨w.heap.size, 6, none⟩ = some (.int .i64 c.i) ∧ w'.cell? ⟨g, q, none⟩ = some (.int .i64 uq) ∧ w'.cell? ⟨bs, os + q, none⟩ = some (.int .i64 mq))
          (first | exact HK.out _ hbA | exact HK.out _ hB0 | exact HK.out _ (Below.refl _ _) | exact HK2.out _ _ (HK.out _ hbA))
          (first | (go_at_call 41; refine (HWK.out _ hB0).mono ?_; rintro e wA ⟨rfl, hbA⟩; have hoA := (HFR.out _ hbA).1; have hfA := (HFR.out _ hbA).2; have hzA := cell_lt hoA))
        go_wp2
        go_roundw
        case rel => exact ⟨k + 1, by omega, by simp, Lib.hid (HPN.out _ hbA)⟩
        case measure => simp [intOf]; omega
    · obtain rfl : k = n := by omega
      have HF := Lib.hid (show UnwRet c m k w (.returned (.slice (some ⟨g, 0, none⟩) k k)) wr from ⟨g, rfl, HE.out.done, HE.out.gt, HE.out.bel⟩)
      go_wp2
      go_ret
      exact HF.out
def UnwRet2 (c : Cnt) (m : Nat → Int) (n : Nat) (w : World) (e : Ending) (w' : World) : Prop := ∃ g, e = .returned (.tuple #[.slice (some ⟨g, 0, none⟩) n n, .int .i64 0]) ∧ FnAt w' (unwS c m) n g 0 ∧ w.heap.size < g ∧ Below w.heap.size w w'
set_option maxRecDepth 100000 in
set_option maxHeartbeats 4000000 in
theorem Unwrap_ok (c : Cnt) (m : Nat → Int) (n : Nat) (p : Option Addr) (cap : Nat) (most : Int) (w : World) (hc : CntIn c) (hn : n ≤ 2000) (hm : ∀ i, i < n → showB c (m i) = true) (h1 : 0 ≤ most ∧ most ≤ 1000000000000000) (h2 : c.f * most + 2 * faultS c < c.r / 2) (hs : FnIn w m n p) :
    Calls Try.prog 18 #[cntVal c, .slice p n cap, .int .i64 most] w (UnwRet2 c m n w) := by
  have a0 := below_alloc (Below.refl w.heap.size w) (cntObj c)
  have A0 := Lib.hid a0
  have HB := Lib.hid (CBox.new w c)
  have HS := Lib.hid (hs.below a0)
  have HCI := Lib.hid hc
  have HM := Lib.hid hm
  have HCK := Lib.hid (fun W => check_any c W)
  rw [show checkC c = 0 from if_pos (cntB_of hc)] at HCK
  have HSH := Lib.hid (fun i W => canShow_any c (m i) W hc)
  have HER := Lib.hid (fun W => error_any c W hc)
  have hr := hc.r
  have hmb : ∀ i, i < n → -1000000000000000 ≤ m i ∧ m i ≤ 1000000000000000 := fun i hi => by
    have := hm i hi
    simp only [showB, Bool.and_eq_true, decide_eq_true_eq] at this
    omega
  have HUN := Lib.hid (fun (W : World) (h : FnIn W m n p) => unwrap_any c m n p cap W hc hn hmb h)
  have hfb := mul_bd c.f most 1000 1000000000000000 (by have := hc.f; omega) (by omega)
  have hj := hc.j
  have hg := hc.g
  have k1 : IntKind.i64.wrap (c.f * most) = c.f * most := IntWalk.i64_in _ (by omega)
  have k2 : IntKind.i64.wrap (2 * faultS c) = 2 * faultS c := IntWalk.i64_in _ (by unfold faultS; omega)
  have k3 : IntKind.i64.wrap (c.f * most + 2 * faultS c) = c.f * most + 2 * faultS c := IntWalk.i64_in _ (by unfold faultS; omega)
  have k4 : IntKind.i64.wrap (c.r.tdiv 2) = c.r / 2 := IntWalk.i64_quo c.r 2 (by omega)
  have hd1 : decide (most < 0) = false := by simp; omega
  have hd2 : ¬ (c.r / 2 ≤ c.f * most + 2 * faultS c) := by omega
  have hmo : ¬ (1000000000000000 < most) := by omega
  generalize faultS c = fa at *
  clear a0 hs hc hm hmb hfb hj hg h1 h2 hr
  unfold cntObj at A0 HB HS
  unfold cntVal at HCK HSH HER HUN
  unfold cntVal
  go_enter Try.func18, Try.ntmps18
  obtain ⟨x0, x1, x2, x3, x4, x5, x6⟩ := HB.out
  have hz := cell_lt x0
  go_wp2_with fail
  refine (HCK.out _).mono ?_
  rintro e w1 ⟨rfl, hb⟩
  have HB1 := Lib.hid (HB.out.below hb)
  have A1 := Lib.hid (A0.out.trans (hb.mono A0.out.size))
  have HS1 := Lib.hid (HS.out.below hb)
  clear hb x0 x1 x2 x3 x4 x5 x6 hz HB A0 HS
  go_wp2
  go_loopw [21] (fun i wr => ∃ k : Nat, k ≤ n ∧ i = .int .i64 (k : Int) ∧ Hid (CBox wr w.heap.size c) ∧ Hid (FnIn wr m n p) ∧ Hid (Below w.heap.size w wr)) (fun i _ => n - (intOf i).toNat)
  case atStart => exact ⟨0, Nat.zero_le _, rfl, HB1, HS1, A1⟩
  case round =>
    obtain ⟨k, hk, rfl, HE, HSr, HBr⟩ := hrel
    obtain ⟨x0, x1, x2, x3, x4, x5, x6⟩ := HE.out
    have hz := cell_lt x0
    by_cases hlt : k < n
    · have hki : (k : Int) < (n : Int) := by omega
      obtain ⟨bs, os, rfl, hsrc⟩ := HSr.out.resolve_left (by omega)
      have hmk := hsrc k hlt
      have hz2 := cell_lt hmk
      have v1 : IntKind.i64.wrap ((k : Int) + 1) = (k : Int) + 1 := IntWalk.i64_in _ (by omega)
      have HSK := Lib.hid (HSH.out k)
      rw [HM.out k hlt] at HSK
      clear hsrc
      generalize m k = mk at *
      go_wp2_with fail
      refine (HSK.out _).mono ?_
      rintro e w2 ⟨rfl, hb⟩
      have HE2 := Lib.hid (HE.out.below hb)
      have HS2 := Lib.hid (HSr.out.below hb)
      have HB2 := Lib.hid (HBr.out.trans (hb.mono HBr.out.size))
      clear hb x0 x1 x2 x3 x4 x5 x6 hz hz2 hmk
      go_wp2
      go_roundw
      case rel => exact ⟨k + 1, by omega, by simp, HE2, HS2, HB2⟩
      case measure => simp [intOf]; omega
    · obtain rfl : k = n := by omega
      go_upto_region 14 with fail
      have HK := Lib.hid (fun (W : World) (hb : Below wr.heap.size wr W) => box_keep wr w.heap.size c HE.out W hb)
      have hB0 : Below wr.heap.size wr wr.drew := Below.drew (Below.refl _ _)
      have HEK := Lib.hid (fun (W : World) (hb : Below wr.heap.size wr W) => (HER.out W).mono fun _ _ h => And.intro h.1 (hb.trans (h.2.mono hb.size)))
      clear x0 x1 x2 x3 x4 x5 x6 hz
      go_region_held3 (fun w' => w'.cell? ⟨w.heap.size, 0, none⟩ = some (.int .i64 c.f) ∧ w'.cell? ⟨w.heap.size, 1, none⟩ = some (.int .i64 c.o) ∧ w'.cell? ⟨w.heap.size, 2, none⟩ = some (.int .i64 c.j) ∧ w'.cell? ⟨w.heap.size, 3, none⟩ = some (.int .i64 c.g) ∧ w'.cell? ⟨w.heap.size, 4, none⟩ = some (.int .i64 c.r) ∧ w'.cell? ⟨w.heap.size, 5, none⟩ = some (.int .i64 c.d) ∧ w'.cell? ⟨w.heap.size, 6, none⟩ = some (.int .i64 c.i))
        (first | exact HK.out _ hbA | exact HK.out _ hB0 | exact HK.out _ (Below.refl _ _))
        (first | (go_at_call 36; refine (HEK.out _ hB0).mono ?_; rintro e wA ⟨rfl, hbA⟩))
      have HEA := Lib.hid (HE.out.below hbA)
      have HSA := Lib.hid (HSr.out.below hbA)
      have HBA := Lib.hid (HBr.out.trans (hbA.mono HBr.out.size))
      clear hbA hB0
      obtain ⟨x0, x1, x2, x3, x4, x5, x6⟩ := HEA.out
      have hz := cell_lt x0
      go_wp2_with fail
      refine (HUN.out _ HSA.out).mono ?_
      rintro e wU ⟨g, rfl, hd, hg, hb⟩
      have HF := Lib.hid (show UnwRet2 c m k w (.returned (.tuple #[.slice (some ⟨g, 0, none⟩) k k, .int .i64 0])) wU from ⟨g, rfl, hd, Nat.lt_of_le_of_lt HBA.out.size hg, HBA.out.trans (hb.mono HBA.out.size)⟩)
      clear hd hg hb x0 x1 x2 x3 x4 x5 x6 hz
      go_wp2
      go_ret2
      exact HF.out
end Go.Proofs.Ytlelamjbfjneiaa.Ct
