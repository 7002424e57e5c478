/- Contracts of layer 3: Thin where its arguments are allowed. -/
import Derived.Test.YtpmhphdpomiacaaCh
import Derived.Test.YtpmhphdpomiacaaStS
import Derived.Test.YtpmhphdpomiacaaQb
namespace Go.Proofs.Ytpmhphdpomiacaa
open Go Go.RowKit Go.Shelf
attribute [local go_sem] Oper.semAt_some
/-- a series in a box, as it is read -/
def SRd (X : World) (b : Nat) (tau : Int) (v : Value) : Prop := X.cell? ⟨b, 0, none⟩ = some (.int .i64 tau) ∧ X.cell? ⟨b, 1, none⟩ = some v
theorem SRd.below {X Y : World} {b : Nat} {tau : Int} {v : Value} (h : SRd X b tau v) (hb : Below X.heap.size X Y) : SRd Y b tau v := ⟨cell_below hb h.1, cell_below hb h.2⟩
/-- what Thin's loop keeps: the thinned series' box, the result's box -/
structure ThAt (w : World) (B bx : Nat) (mt : Int) (L : List Int) (v : Value) (W : World) : Prop where
  own : OwnI B W v L
  c0 : W.cell? ⟨bx, 0, none⟩ = some (.int .i64 mt)
  c1 : W.cell? ⟨bx, 1, none⟩ = some v
  f1 : W.frozen? ⟨bx, 1, none⟩ = false
  lt : w.heap.size + 1 < bx ∧ bx < B
  r0 : W.cell? ⟨w.heap.size + 1, 0, none⟩ = some (.int .i64 0)
  r1 : W.cell? ⟨w.heap.size + 1, 1, none⟩ = some (.slice none 0 0)
  g0 : W.frozen? ⟨w.heap.size + 1, 0, none⟩ = false
  g1 : W.frozen? ⟨w.heap.size + 1, 1, none⟩ = false
  bel : Below w.heap.size w W
  sz : B ≤ W.heap.size
theorem OwnI.cells {B : Nat} {W : World} {v : Value} {L : List Int} (h : OwnI B W v L) {k : Nat} (hk : v.ownBlock = some k) : ∃ ob : Obj, W.heap[k]? = some ob ∧ ob.isCells = true := by
  rcases h.2 with ⟨rfl, _⟩ | ⟨g, cap, cur, rfl, hg, hgg, rest⟩
  · simp [Value.ownBlock] at hk
  · simp [Value.ownBlock] at hk
    subst hk
    exact ⟨_, hgg, rfl⟩
theorem ThAt.grown {w : World} {B bx : Nat} {mt : Int} {L : List Int} {v : Value} {W W' : World} {row : Option Nat} (h : ThAt w B bx mt L v W) (hg : W.grownBy W' row) (hr : ∀ r, row = some r → B ≤ r ∧ ∃ o : Obj, W.heap[r]? = some o ∧ o.isCells = false) : ThAt w B bx mt L v W' := by
  have hr' : ∀ r, row = some r → ∃ o : Obj, W.heap[r]? = some o ∧ o.isCells = false := fun r e => (hr r e).2
  refine ⟨h.own.kept hg ?_, cell_kept h.c0 hg hr', cell_kept h.c1 hg hr', (frozen_kept h.c1 hg hr').trans h.f1, h.lt, cell_kept h.r0 hg hr', cell_kept h.r1 hg hr', (frozen_kept h.r0 hg hr').trans h.g0, (frozen_kept h.r1 hg hr').trans h.g1,
    h.bel.grown hg h.bel.size (fun k e => by have := (hr k e).1; have := h.lt; omega), Nat.le_trans h.sz hg.size⟩
  cases e : v.ownBlock with
  | none => exact .inl rfl
  | some k =>
    refine .inr fun hk => ?_
    obtain ⟨o1, h1, h2⟩ := hr' k hk.symm
    obtain ⟨o2, h3, h4⟩ := h.own.cells e
    rw [h1] at h3
    cases h3
    rw [h2] at h4
    cases h4
/-- an append, and its store into the box -/
theorem ThAt.step {w : World} {B bx : Nat} {mt x : Int} {L : List Int} {v v' : Value} {W Y : World} {o : Obj} (h : ThAt w B bx mt L v W) (hown : Y.ownsRow B 3 1 v' (L.length + 1) (ints L ++ [.int .i64 x])) (hg : (W.alloc o).grownBy Y v.ownBlock)
    (hb : v'.ownBlock = v.ownBlock ∨ v'.ownBlock = some (W.alloc o).heap.size) : ThAt w B bx mt (L ++ [x]) v' (Y.setCell ⟨bx, 1, none⟩ v') := by
  have hlt := h.lt
  have hne : ∀ k, k < B → v.ownBlock ≠ some k := fun k hk e => by have := (World.ownsRow.lt h.own k e).1; omega
  have hne' : ∀ k, k < B → v'.ownBlock ≠ some k := fun k hk e => by
    rcases hb with hb | hb
    · exact hne k hk (hb ▸ e)
    · rw [hb] at e; cases e; have := h.sz; simp at hk; omega
  have hs := h.sz
  refine ⟨(OwnI.snoc hown).kept (grownBy_set Y bx 1 v') (.inr (hne' bx hlt.2)), ?_, World.cell?_setCell_same _ _ _ (grown_cell hg (hne bx hlt.2) h.c1), ?_, hlt, ?_, ?_, ?_, ?_, ?_, ?_⟩
  · rw [World.cell?_setCell_other Y ⟨bx, 1, none⟩ ⟨bx, 0, none⟩ _ (fun e => by cases e)]
    exact grown_cell hg (hne bx hlt.2) h.c0
  · rw [World.frozen?_setCell]; exact (grown_frozen (by omega) hg (hne bx hlt.2)).trans h.f1
  · rw [World.cell?_setCell_far _ _ _ _ (by show bx ≠ w.heap.size + 1; omega)]; exact grown_cell hg (hne _ (by omega)) h.r0
  · rw [World.cell?_setCell_far _ _ _ _ (by show bx ≠ w.heap.size + 1; omega)]; exact grown_cell hg (hne _ (by omega)) h.r1
  · rw [World.frozen?_setCell]; exact (grown_frozen (by omega) hg (hne _ (by omega))).trans h.g0
  · rw [World.frozen?_setCell]; exact (grown_frozen (by omega) hg (hne _ (by omega))).trans h.g1
  · exact ((h.bel.alloc h.bel.size o).grown hg (by have := h.bel.size; simp; omega) (fun k e => by have := (World.ownsRow.lt h.own k e).1; omega)).setCell (by show w.heap.size ≤ bx; omega) _
  · have := hg.size; simp at this ⊢; omega
theorem ThAt.mid {w : World} {B bx : Nat} {mt x : Int} {L : List Int} {v v' : Value} {W Y : World} {o : Obj} (h : ThAt w B bx mt L v W) (_hown : Y.ownsRow B 3 1 v' (L.length + 1) (ints L ++ [.int .i64 x])) (hg : (W.alloc o).grownBy Y v.ownBlock)
    (_hb : v'.ownBlock = v.ownBlock ∨ v'.ownBlock = some (W.alloc o).heap.size) : Y.cell? ⟨bx, 1, none⟩ = some v ∧ Y.frozen? ⟨bx, 1, none⟩ = false ∧ bx < Y.heap.size ∧ KeepsOthers W (Y.setCell ⟨bx, 1, none⟩ v') ∧ ∀ k, k < B → k ≠ bx → (Y.setCell ⟨bx, 1, none⟩ v').heap[k]? = W.heap[k]? := by
  have hlt := h.lt
  have hs := h.sz
  have hne : ∀ k, k < B → v.ownBlock ≠ some k := fun k hk e => by have := (World.ownsRow.lt h.own k e).1; omega
  have hc := grown_cell hg (hne bx hlt.2) h.c1
  refine ⟨hc, (grown_frozen (by omega) hg (hne bx hlt.2)).trans h.f1, cell_lt hc, ((KeepsOthers.alloc W o).trans (KeepsOthers.of_grownBy hg fun j ob ej hj => ?_)).trans (KeepsOthers.setCell _ _ _), fun k hk hkb => ?_⟩
  · obtain ⟨ob', h1, h2⟩ := (h.own.alloc o).cells ej
    rw [hj] at h1
    cases h1
    exact h2
  · rw [Below.heap_setCell _ _ _ _ (by show k ≠ bx; exact hkb), hg.block k (by simp; omega) (hne k hk).symm]
    exact Below.heap_alloc _ _ _ (by omega)
theorem cntS_le128 {len m : Nat} (h : len ≤ 128) (hm : 1 ≤ m) : cntS len 0 m ≤ 128 := by
  rcases Nat.lt_or_ge 128 (cntS len 0 m) with h1 | h1
  · have h2 := (cntS_lt hm).1 h1
    have h3 := Nat.le_mul_of_pos_right 128 (show 0 < m by omega)
    omega
  · exact h1
theorem wpIn_append_own_at {F : Fence} {n : Nat} {P : Program} (w : World) {o : Oper} {a : Act} {K : Act → World → Prop} {Q : Exit → Act → World → Prop}
    (s x : Operand) (t : TypeId) (hop : o.op = Op.call { callee := Callee.builtin Builtin.append, args := #[s, x], argTypes := #[t, t] })
    (base : Nat) (e : TypeId) (i : TypeInfo) (z : Value) (size bytes : Nat) (h1 : P.underlying t = some (.slice e)) (h2 : P.info? e = some i) (h3 : i.zero = some z) (h4 : i.size = size) (h5 : i.bytes = bytes) (h6 : z.cells.size = size) (h7 : 0 < size)
    (v : Value) (k : Nat) (xs : List Value) (hs : a.eval s = v) (hown : w.ownsRow base e size v k xs) (ad : Addr) (m c : Nat) (news : List Value) (hx : a.eval x = .slice (some ad) m c) (hn : news.length = m * size)
    (hc : ∀ j u, news[j]? = some u → w.cell? (ad.add j) = some u) (h1c : ∀ u ∈ news, u.oneCell' = true) (b1 : k + m ≤ maxLen) (b2 : (k + m) * bytes ≤ 140737488355328) (b3 : base ≤ w.heap.size)
    (hK : ∀ v' w', w'.ownsRow base e size v' (k + m) (xs ++ news) → w.grownBy w' v.ownBlock → (v'.ownBlock = v.ownBlock ∨ v'.ownBlock = some w.heap.size) → K (a.put o.dst v') w') :
    Oper.wpIn F n P o a w K Q := by
  obtain ⟨v', w', hrun, r1, r2, _, r4⟩ := run_append_own_at (P := P) w base t o.type e i z size bytes h1 h2 h3 h4 h5 h6 h7 v k xs hown ad m c news hn hc h1c b1 b2 b3
  unfold Oper.wpIn
  refine ⟨?_, ?_⟩
  · simp [Oper.about, hop, resolve, Target.leads, Sem.run_pure]
  · rw [Oper.semAt_plain F _ _ (by rw [hop]; intro c hc'; cases hc')]
    simp [execOp, hop, resolve, invoke, builtin, hs, hx, hrun, Result.andThen]
    exact hK _ _ r1 r2 r4
set_option maxRecDepth 100000 in
set_option maxHeartbeats 2000000 in
theorem thin_own (tau : Int) (l : List Int) (b o cap M : Nat) (w : World) (hs : SerIn w l (some ⟨b, o, none⟩)) (hcap : l.length ≤ cap) (h0 : 0 < l.length) (h128 : l.length ≤ 128) (hm : 1 ≤ M ∧ M ≤ 32) (ht : 1 ≤ tau ∧ tau ≤ 1000) (he : stepErr tau l M = 0) (hmt : (M : Int) * tau ≤ 1000) :
    Calls Try.prog 23 #[.agg #[.int .i64 tau, .slice (some ⟨b, o, none⟩) l.length cap], .int .i64 M] w fun e w' => ∃ q c, e = .returned (.tuple #[.agg #[.int .i64 ((M : Int) * tau), .slice q (cntS l.length 0 M) c], .int .i64 0]) ∧
      SerIn w' ((startsL l.length M h0 (cntS l.length 0 M)).map fun d => atL l d.1) q ∧ OwnI w.heap.size w' (.slice q (cntS l.length 0 M) c) ((startsL l.length M h0 (cntS l.length 0 M)).map fun d => atL l d.1) ∧ Below w.heap.size w w' := by
  refine (callsIn_wide (n := 9)).1 ?_
  have hro : Fence.wide.round = none := rfl
  obtain ⟨i0, hi, hz0, hz1, hz2⟩ := info_parts infoInt
  have a0 : Below w.heap.size w ((w.alloc (.cells #[.int .i64 tau, .slice (some ⟨b, o, none⟩) l.length cap] 24)).alloc (.cells #[.int .i64 0, .slice none 0 0] 24)) := below_alloc (below_alloc (Below.refl _ _) _) _
  have HC := Lib.hid (checkStep_any tau l (some ⟨b, o, none⟩) cap M _ (hs.below a0))
  have HS := Lib.hid (hs.below a0)
  have HS0 := Lib.hid hs
  have A0 := Lib.hid a0
  have C0 : Hid (SRd ((w.alloc (.cells #[.int .i64 tau, .slice (some ⟨b, o, none⟩) l.length cap] 24)).alloc (.cells #[.int .i64 0, .slice none 0 0] 24)) w.heap.size tau (.slice (some ⟨b, o, none⟩) l.length cap)) := Lib.hid ⟨by simp [go_sem], by simp [go_sem]⟩
  have wmt : IntKind.i64.wrap ((M : Int) * tau) = M * tau := IntWalk.i64_in _ (by have := mul_bd2 (x := (M : Int)) (y := tau) (a := 32) (b := 1000) (by omega) (by omega); omega)
  have hmt' : ¬ (1000 < (M : Int) * tau) := by omega
  clear hs a0
  refine callsIn_of_wp_marks Try.func23 rfl trivial ?_ hro
  simp only [Try.ntmps23, List.size_toArray, List.length_cons, List.length_nil, Nat.reduceAdd, Nat.reduceSub, Array.replicate_succ, Array.replicate_zero, List.push_toArray, List.append_toArray, List.nil_append, List.cons_append]
  gi_wp2
  refine ⟨trivial, (callsIn_wide.2 HC.out).mono ?_⟩
  rintro e w1 ⟨rfl, hb⟩
  rw [he]
  obtain ⟨d0, d1⟩ := C0.out.below hb
  have hz := cell_lt d0
  have HS1 := Lib.hid (HS.out.below hb)
  have A1 := Lib.hid (A0.out.trans (hb.mono A0.out.size))
  have HW0 := Lib.hid (show w.heap.size + 2 ≤ w1.heap.size by have := hb.size; simp at this; omega)
  have HR0 : Hid (w1.cell? ⟨w.heap.size + 1, 0, none⟩ = some (.int .i64 0)) := Lib.hid (cell_below hb (by simp [go_sem]))
  have HR1 : Hid (w1.cell? ⟨w.heap.size + 1, 1, none⟩ = some (.slice none 0 0)) := Lib.hid (cell_below hb (by simp [go_sem]))
  have HQ0 : Hid (w1.frozen? ⟨w.heap.size + 1, 0, none⟩ = false) := Lib.hid ((hb.frozen (p := ⟨w.heap.size + 1, 0, none⟩) (by simp)).trans (by simp [go_sem]))
  have HQ1 : Hid (w1.frozen? ⟨w.heap.size + 1, 1, none⟩ = false) := Lib.hid ((hb.frozen (p := ⟨w.heap.size + 1, 1, none⟩) (by simp)).trans (by simp [go_sem]))
  clear hb
  gi_wp2
  have b2 := below_alloc (Below.refl w1.heap.size w1) (.cells #[.int .i64 ((M : Int) * tau), .slice none 0 0] 24)
  have HG := Lib.hid (fun W => chunk_gives M l.length b o cap W h0 h128 hcap (by omega))
  refine ⟨trivial, (callsIn_wide.2 (HG.out (w1.alloc (.cells #[.int .i64 ((M : Int) * tau), .slice none 0 0] 24)))).mono ?_⟩
  rintro e w3 ⟨lb, rfl, hb3, hsz3, hseq⟩
  have hA : Below w.heap.size w w3 := A1.out.trans ((b2.mono A1.out.size).trans (hb3.mono (Nat.le_trans A1.out.size b2.size)))
  have hW1 := HW0.out
  have b23 : Below w1.heap.size w1 w3 := b2.trans (hb3.mono b2.size)
  have hJ0 : ThAt w w3.heap.size w1.heap.size ((M : Int) * tau) [] (.slice none 0 0) w3 :=
    ⟨World.ownsRow_nil _ _ _ _, cell_below hb3 (by simp [go_sem]), cell_below hb3 (by simp [go_sem]), (hb3.frozen (p := ⟨w1.heap.size, 1, none⟩) (by simp)).trans (by simp [go_sem]), ⟨by omega, by rw [hsz3]; simp; omega⟩,
      cell_below b23 HR0.out, cell_below b23 HR1.out, (b23.frozen (p := ⟨w.heap.size + 1, 0, none⟩) (by show w.heap.size + 1 < _; omega)).trans HQ0.out, (b23.frozen (p := ⟨w.heap.size + 1, 1, none⟩) (by show w.heap.size + 1 < _; omega)).trans HQ1.out, hA, Nat.le_refl _⟩
  have hf1 : ∀ k, (w1.alloc (.cells #[.int .i64 ((M : Int) * tau), .slice none 0 0] 24)).heap.size ≤ k ∧ k < (w1.alloc (.cells #[.int .i64 ((M : Int) * tau), .slice none 0 0] 24)).heap.size + 2 → k < w3.heap.size := fun k hk => by rw [hsz3]; exact hk.2
  have hf2 : ∀ k, (w1.alloc (.cells #[.int .i64 ((M : Int) * tau), .slice none 0 0] 24)).heap.size ≤ k ∧ k < (w1.alloc (.cells #[.int .i64 ((M : Int) * tau), .slice none 0 0] 24)).heap.size + 2 → k ≠ w1.heap.size := fun k hk => by have := hk.1; simp at this; omega
  have HW1 := Lib.hid hW1
  have HAA := Lib.hid hA
  have hn128 : cntS l.length 0 M ≤ 128 := cntS_le128 h128 (by omega)
  clear d0 d1 hz HG hb3 b2 b23 HS1 A1 HC HS A0 C0 HR0 HR1 HQ0 HQ1
  gi_wp2
  have HOF : OwnFrom w3.heap.size (fun (pre : List (PIx l.length)) W => ∃ v, ThAt w w3.heap.size w1.heap.size ((M : Int) * tau) (pre.map fun d : PIx l.length => atL l d.1) v W) := by
    rintro s W W' row ⟨v, h⟩ hg hr
    exact ⟨v, h.grown hg hr⟩
  refine wpIn_rangeFunc_ownF hro (by decide) (gf := 87) (lb := lb) rfl trivial (enters_of Try.func87 (by kernel_rfl) rfl)
    (hseq 8 (by decide)) (fun h k => h.trans k) (Stay.putObj hf1) (Below.refl _ _) (fun _ => rfl)
    (fun (pre : List (PIx l.length)) W => ∃ v, ThAt w w3.heap.size w1.heap.size ((M : Int) * tau) (pre.map fun d : PIx l.length => atL l d.1) v W)
    (fun _ _ _ => False)
    HOF
    (fun _ _ _ _ _ hs _ _ => hs)
    ⟨_, hJ0⟩
    (fun d => { tmps := #[.agg #[.int .i64 tau, .slice (some ⟨b, o, none⟩) l.length cap], .int .i64 M, .pointer (some ⟨w.heap.size, 0, none⟩), undef, .pointer (some ⟨w.heap.size + 1, 0, none⟩), .int .i64 0, .int .i64 0, .pointer (some ⟨w1.heap.size, 0, none⟩), partV b o l.length M d.1, .agg #[.int .i64 tau, .slice (some ⟨b, o, none⟩) l.length cap], .int .i64 M, .int .i64 0, .int .i64 0, .bool false, undef, undef, .int .i64 M, .pointer (some ⟨w.heap.size, 0, none⟩), .int .i64 tau, .int .i64 ((M : Int) * tau), .bool (decide (1000 < (M : Int) * tau)), undef, .int .i64 M, .pointer (some ⟨w.heap.size, 0, none⟩), .int .i64 tau, .int .i64 ((M : Int) * tau), .agg #[.int .i64 ((M : Int) * tau), .slice none 0 0], .pointer (some ⟨w.heap.size, 1, none⟩), .slice (some ⟨b, o, none⟩) l.length cap, .int .i64 M, .func (.func 87) #[] lb, partV b o l.length M d.1, undef, undef, undef, undef, undef, undef, undef, undef, undef], defers := [] }) ?assign ?body ?done ?stop
  case assign =>
    intro l2 x W K hK
    gi_wp2
    exact hK
  case body =>
    rintro l2 pre x W ⟨v, hT⟩ hlt
    obtain ⟨L, hL⟩ : ∃ L, L = pre.map fun d => atL l d.1 := ⟨_, rfl⟩
    have hlen : L.length = pre.length := by rw [hL, List.length_map]
    rw [startsL_len] at hlt
    have hlt' : pre.length + 1 ≤ 128 := by omega
    rw [← hL] at hT
    have hsl := hT.bel
    have hx0 : W.cell? ⟨b, o + x.1, none⟩ = some (.int .i64 (atL l x.1)) := by
      rcases (HS0.out.below hsl).2 with h | ⟨b', o', hp', hI⟩
      · omega
      · cases hp'
        have := hI x.1 x.2
        rw [atL_get] at this
        exact this
    have hpart : partV b o l.length M x.1 = .slice (some ⟨b, o + x.1, none⟩) (partN l.length M x.1) (partN l.length M x.1) := rfl
    have hp0 : (0 : Int) < (partN l.length M x.1 : Int) := by unfold partN; have := x.2; omega
    have hpn : 0 < partN l.length M x.1 := by omega
    have hc1 := hT.c1
    have HT0 := Lib.hid hT
    have hbx := cell_lt hc1
    have FIN : ∀ Y v', KeepsOthers W Y → (∀ k, k < w3.heap.size → k ≠ w1.heap.size → Y.heap[k]? = W.heap[k]?) → ThAt w w3.heap.size w1.heap.size ((M : Int) * tau) (L ++ [atL l x.1]) v' Y → KeepsOthers W Y ∧ Stay (fun k => (w1.alloc (.cells #[.int .i64 ((M : Int) * tau), .slice none 0 0] 24)).heap.size ≤ k ∧ k < (w1.alloc (.cells #[.int .i64 ((M : Int) * tau), .slice none 0 0] 24)).heap.size + 2) W Y ∧ ∃ v, ThAt w w3.heap.size w1.heap.size ((M : Int) * tau) ((pre ++ [x]).map fun d => atL l d.1) v Y :=
      fun Y v' h1 h2 h3 => ⟨h1, ⟨h1.size, fun k hk => h2 k (hf1 k hk) (hf2 k hk)⟩, v', by rw [List.map_append, ← hL]; exact h3⟩
    clear hT hsl
    gi_wp2
    refine wpIn_region_any rfl ?_
    obtain ⟨V, hVV⟩ : ∃ V : World, V = { W with drawn := W.drawn + 1 } := ⟨_, rfl⟩
    rw [← hVV]
    have hg0 : W.grownBy V none := by rw [hVV]; exact ⟨rfl, rfl, rfl, Nat.le_refl _, fun _ _ _ => rfl⟩
    have hh0 : V.heap = W.heap := by rw [hVV]
    have HV := Lib.hid (HT0.out.grown (row := none) hg0 (fun r e => by cases e))
    have hk0 : KeepsOthers W V := KeepsOthers.of_grownBy hg0 (fun j o e _ => by cases e)
    replace FIN : ∀ Y v', KeepsOthers V Y → (∀ k, k < w3.heap.size → k ≠ w1.heap.size → Y.heap[k]? = V.heap[k]?) → ThAt w w3.heap.size w1.heap.size ((M : Int) * tau) (L ++ [atL l x.1]) v' Y → _ := fun Y v' h1 h2 h3 => FIN Y v' (hk0.trans h1) (fun k hk1 hk2 => by rw [h2 k hk1 hk2, hh0]) h3
    replace hx0 : V.cell? ⟨b, o + x.1, none⟩ = some (.int .i64 (atL l x.1)) := by rw [hVV]; exact hx0
    replace hc1 := HV.out.c1
    replace hbx := cell_lt hc1
    have hbb := cell_lt hx0
    have HLN := Lib.hid hlen
    clear hg0 hh0 hk0 HT0 hlen hL
    simp only [List.size_toArray, List.length_cons, List.length_nil, Nat.reduceAdd, Array.replicate_succ, Array.replicate_zero, List.push_toArray, List.nil_append, List.cons_append]
    clear hVV
    obtain ⟨pn, hpq⟩ : ∃ pn, pn = partN l.length M x.1 := ⟨_, rfl⟩
    simp only [← hpq] at hp0 hpn ⊢
    clear hpart hpq
    refine wpAnyIn_ready (rs := [0, 2]) (by kernel_rfl) (by simp) (AllReadyIn.cons rfl (fun K' hK => ?_) (AllReadyIn.cons rfl (fun K' hK => ?_) AllReadyIn.nil))
    · go_simp
      refine hK _ _ ?_
      clear hK
      refine wpAnyIn_ready (rs := [1, 2]) (by kernel_rfl) (by simp) (AllReadyIn.cons rfl (fun K' hK => ?_) (AllReadyIn.cons rfl (fun K' hK => ?_) AllReadyIn.nil))
      · go_simp
        refine hK _ _ ?_
        clear hK
        refine wpAnyIn_ready (rs := [2]) (by kernel_rfl) (by simp) (AllReadyIn.cons rfl (fun K' hK => ?_) AllReadyIn.nil)
        go_simp
        refine hK _ _ ?_
        clear hK
        refine wpAnyIn_ready (rs := [3]) (by kernel_rfl) (by simp) (AllReadyIn.cons rfl (fun K' hK => ?_) AllReadyIn.nil)
        go_simp
        refine hK _ _ ?_
        clear hK
        refine wpAnyIn_ready (rs := [4]) (by kernel_rfl) (by simp) (AllReadyIn.cons rfl (fun K' hK => ?_) AllReadyIn.nil)
        go_simp
        refine hK _ _ ?_
        clear hK
        refine wpAnyIn_ready (rs := [5]) (by kernel_rfl) (by simp) (AllReadyIn.cons rfl (fun K' hK => ?_) AllReadyIn.nil)
        go_simp
        refine hK _ _ ?_
        clear hK
        refine wpAnyIn_ready (rs := [6]) (by kernel_rfl) (by simp) (AllReadyIn.cons rfl (fun K' hK => ?_) AllReadyIn.nil)
        refine Eq.mpr (if_pos rfl) (wpIn_append_own_at _ (.tmp 33) (.tmp 37) 22 rfl w3.heap.size 3 i0 (.int .i64 0) 1 8 Try.underlying22 hi hz0 hz1 hz2 rfl (by decide) v _ _ rfl (HV.out.own.alloc _) ⟨V.heap.size, 0, none⟩ 1 1 [.int .i64 (atL l x.1)] rfl rfl (cell_one_new _ _ _) (by simp [Value.oneCell']) (by rw [HLN.out]; unfold maxLen; omega) (by rw [HLN.out]; omega) (by have := HV.out.sz; simp; omega) ?_)
        intro v' w4 hown hg hb
        have HT := Lib.hid (HV.out.step hown hg hb)
        obtain ⟨e1, e2, e3, e4, e5⟩ := HV.out.mid hown hg hb
        have HKO := Lib.hid e4
        have HST := Lib.hid e5
        obtain ⟨g', cap', rfl⟩ := ownsRow_succ hown
        clear hown hg hb e4 e5
        refine hK _ _ ?_
        clear hK hc1 hbx
        refine wpAnyIn_ready (rs := [7]) (by kernel_rfl) (by simp) (AllReadyIn.cons rfl (fun K' hK => ?_) AllReadyIn.nil)
        go_simp
        refine hK _ _ ?_
        clear hK
        refine wpAnyIn_ready (rs := [8]) (by kernel_rfl) (by simp) (AllReadyIn.cons rfl (fun K' hK => ?_) AllReadyIn.nil)
        go_simp
        refine hK _ _ ?_
        clear hK
        refine wpAnyIn_done (by kernel_rfl) ?_ _
        gi_wp2
        exact FIN _ _ HKO.out HST.out HT.out
      · go_simp
        refine hK _ _ ?_
        clear hK
        refine wpAnyIn_ready (rs := [1, 3]) (by kernel_rfl) (by simp) (AllReadyIn.cons rfl (fun K' hK => ?_) (AllReadyIn.cons rfl (fun K' hK => ?_) AllReadyIn.nil))
        · go_simp
          refine hK _ _ ?_
          clear hK
          refine wpAnyIn_ready (rs := [3]) (by kernel_rfl) (by simp) (AllReadyIn.cons rfl (fun K' hK => ?_) AllReadyIn.nil)
          go_simp
          refine hK _ _ ?_
          clear hK
          refine wpAnyIn_ready (rs := [4]) (by kernel_rfl) (by simp) (AllReadyIn.cons rfl (fun K' hK => ?_) AllReadyIn.nil)
          go_simp
          refine hK _ _ ?_
          clear hK
          refine wpAnyIn_ready (rs := [5]) (by kernel_rfl) (by simp) (AllReadyIn.cons rfl (fun K' hK => ?_) AllReadyIn.nil)
          go_simp
          refine hK _ _ ?_
          clear hK
          refine wpAnyIn_ready (rs := [6]) (by kernel_rfl) (by simp) (AllReadyIn.cons rfl (fun K' hK => ?_) AllReadyIn.nil)
          refine Eq.mpr (if_pos rfl) (wpIn_append_own_at _ (.tmp 33) (.tmp 37) 22 rfl w3.heap.size 3 i0 (.int .i64 0) 1 8 Try.underlying22 hi hz0 hz1 hz2 rfl (by decide) v _ _ rfl (HV.out.own.alloc _) ⟨V.heap.size, 0, none⟩ 1 1 [.int .i64 (atL l x.1)] rfl rfl (cell_one_new _ _ _) (by simp [Value.oneCell']) (by rw [HLN.out]; unfold maxLen; omega) (by rw [HLN.out]; omega) (by have := HV.out.sz; simp; omega) ?_)
          intro v' w4 hown hg hb
          have HT := Lib.hid (HV.out.step hown hg hb)
          obtain ⟨e1, e2, e3, e4, e5⟩ := HV.out.mid hown hg hb
          have HKO := Lib.hid e4
          have HST := Lib.hid e5
          obtain ⟨g', cap', rfl⟩ := ownsRow_succ hown
          clear hown hg hb e4 e5
          refine hK _ _ ?_
          clear hK hc1 hbx
          refine wpAnyIn_ready (rs := [7]) (by kernel_rfl) (by simp) (AllReadyIn.cons rfl (fun K' hK => ?_) AllReadyIn.nil)
          go_simp
          refine hK _ _ ?_
          clear hK
          refine wpAnyIn_ready (rs := [8]) (by kernel_rfl) (by simp) (AllReadyIn.cons rfl (fun K' hK => ?_) AllReadyIn.nil)
          go_simp
          refine hK _ _ ?_
          clear hK
          refine wpAnyIn_done (by kernel_rfl) ?_ _
          gi_wp2
          exact FIN _ _ HKO.out HST.out HT.out
        · go_simp
          refine hK _ _ ?_
          clear hK
          refine wpAnyIn_ready (rs := [1, 4]) (by kernel_rfl) (by simp) (AllReadyIn.cons rfl (fun K' hK => ?_) (AllReadyIn.cons rfl (fun K' hK => ?_) AllReadyIn.nil))
          · go_simp
            refine hK _ _ ?_
            clear hK
            refine wpAnyIn_ready (rs := [4]) (by kernel_rfl) (by simp) (AllReadyIn.cons rfl (fun K' hK => ?_) AllReadyIn.nil)
            go_simp
            refine hK _ _ ?_
            clear hK
            refine wpAnyIn_ready (rs := [5]) (by kernel_rfl) (by simp) (AllReadyIn.cons rfl (fun K' hK => ?_) AllReadyIn.nil)
            go_simp
            refine hK _ _ ?_
            clear hK
            refine wpAnyIn_ready (rs := [6]) (by kernel_rfl) (by simp) (AllReadyIn.cons rfl (fun K' hK => ?_) AllReadyIn.nil)
            refine Eq.mpr (if_pos rfl) (wpIn_append_own_at _ (.tmp 33) (.tmp 37) 22 rfl w3.heap.size 3 i0 (.int .i64 0) 1 8 Try.underlying22 hi hz0 hz1 hz2 rfl (by decide) v _ _ rfl (HV.out.own.alloc _) ⟨V.heap.size, 0, none⟩ 1 1 [.int .i64 (atL l x.1)] rfl rfl (cell_one_new _ _ _) (by simp [Value.oneCell']) (by rw [HLN.out]; unfold maxLen; omega) (by rw [HLN.out]; omega) (by have := HV.out.sz; simp; omega) ?_)
            intro v' w4 hown hg hb
            have HT := Lib.hid (HV.out.step hown hg hb)
            obtain ⟨e1, e2, e3, e4, e5⟩ := HV.out.mid hown hg hb
            have HKO := Lib.hid e4
            have HST := Lib.hid e5
            obtain ⟨g', cap', rfl⟩ := ownsRow_succ hown
            clear hown hg hb e4 e5
            refine hK _ _ ?_
            clear hK hc1 hbx
            refine wpAnyIn_ready (rs := [7]) (by kernel_rfl) (by simp) (AllReadyIn.cons rfl (fun K' hK => ?_) AllReadyIn.nil)
            go_simp
            refine hK _ _ ?_
            clear hK
            refine wpAnyIn_ready (rs := [8]) (by kernel_rfl) (by simp) (AllReadyIn.cons rfl (fun K' hK => ?_) AllReadyIn.nil)
            go_simp
            refine hK _ _ ?_
            clear hK
            refine wpAnyIn_done (by kernel_rfl) ?_ _
            gi_wp2
            exact FIN _ _ HKO.out HST.out HT.out
          · go_simp
            refine hK _ _ ?_
            clear hK
            refine wpAnyIn_ready (rs := [1, 5]) (by kernel_rfl) (by simp) (AllReadyIn.cons rfl (fun K' hK => ?_) (AllReadyIn.cons rfl (fun K' hK => ?_) AllReadyIn.nil))
            · go_simp
              refine hK _ _ ?_
              clear hK
              refine wpAnyIn_ready (rs := [5]) (by kernel_rfl) (by simp) (AllReadyIn.cons rfl (fun K' hK => ?_) AllReadyIn.nil)
              go_simp
              refine hK _ _ ?_
              clear hK
              refine wpAnyIn_ready (rs := [6]) (by kernel_rfl) (by simp) (AllReadyIn.cons rfl (fun K' hK => ?_) AllReadyIn.nil)
              refine Eq.mpr (if_pos rfl) (wpIn_append_own_at _ (.tmp 33) (.tmp 37) 22 rfl w3.heap.size 3 i0 (.int .i64 0) 1 8 Try.underlying22 hi hz0 hz1 hz2 rfl (by decide) v _ _ rfl (HV.out.own.alloc _) ⟨V.heap.size, 0, none⟩ 1 1 [.int .i64 (atL l x.1)] rfl rfl (cell_one_new _ _ _) (by simp [Value.oneCell']) (by rw [HLN.out]; unfold maxLen; omega) (by rw [HLN.out]; omega) (by have := HV.out.sz; simp; omega) ?_)
              intro v' w4 hown hg hb
              have HT := Lib.hid (HV.out.step hown hg hb)
              obtain ⟨e1, e2, e3, e4, e5⟩ := HV.out.mid hown hg hb
              have HKO := Lib.hid e4
              have HST := Lib.hid e5
              obtain ⟨g', cap', rfl⟩ := ownsRow_succ hown
              clear hown hg hb e4 e5
              refine hK _ _ ?_
              clear hK hc1 hbx
              refine wpAnyIn_ready (rs := [7]) (by kernel_rfl) (by simp) (AllReadyIn.cons rfl (fun K' hK => ?_) AllReadyIn.nil)
              go_simp
              refine hK _ _ ?_
              clear hK
              refine wpAnyIn_ready (rs := [8]) (by kernel_rfl) (by simp) (AllReadyIn.cons rfl (fun K' hK => ?_) AllReadyIn.nil)
              go_simp
              refine hK _ _ ?_
              clear hK
              refine wpAnyIn_done (by kernel_rfl) ?_ _
              gi_wp2
              exact FIN _ _ HKO.out HST.out HT.out
            · go_simp
              refine hK _ _ ?_
              clear hK
              refine wpAnyIn_ready (rs := [1]) (by kernel_rfl) (by simp) (AllReadyIn.cons rfl (fun K' hK => ?_) AllReadyIn.nil)
              go_simp
              refine hK _ _ ?_
              clear hK
              refine wpAnyIn_ready (rs := [6]) (by kernel_rfl) (by simp) (AllReadyIn.cons rfl (fun K' hK => ?_) AllReadyIn.nil)
              refine Eq.mpr (if_pos rfl) (wpIn_append_own_at _ (.tmp 33) (.tmp 37) 22 rfl w3.heap.size 3 i0 (.int .i64 0) 1 8 Try.underlying22 hi hz0 hz1 hz2 rfl (by decide) v _ _ rfl (HV.out.own.alloc _) ⟨V.heap.size, 0, none⟩ 1 1 [.int .i64 (atL l x.1)] rfl rfl (cell_one_new _ _ _) (by simp [Value.oneCell']) (by rw [HLN.out]; unfold maxLen; omega) (by rw [HLN.out]; omega) (by have := HV.out.sz; simp; omega) ?_)
              intro v' w4 hown hg hb
              have HT := Lib.hid (HV.out.step hown hg hb)
              obtain ⟨e1, e2, e3, e4, e5⟩ := HV.out.mid hown hg hb
              have HKO := Lib.hid e4
              have HST := Lib.hid e5
              obtain ⟨g', cap', rfl⟩ := ownsRow_succ hown
              clear hown hg hb e4 e5
              refine hK _ _ ?_
              clear hK hc1 hbx
              refine wpAnyIn_ready (rs := [7]) (by kernel_rfl) (by simp) (AllReadyIn.cons rfl (fun K' hK => ?_) AllReadyIn.nil)
              go_simp
              refine hK _ _ ?_
              clear hK
              refine wpAnyIn_ready (rs := [8]) (by kernel_rfl) (by simp) (AllReadyIn.cons rfl (fun K' hK => ?_) AllReadyIn.nil)
              go_simp
              refine hK _ _ ?_
              clear hK
              refine wpAnyIn_done (by kernel_rfl) ?_ _
              gi_wp2
              exact FIN _ _ HKO.out HST.out HT.out
    · go_simp
      refine hK _ _ ?_
      clear hK
      refine wpAnyIn_ready (rs := [0, 3]) (by kernel_rfl) (by simp) (AllReadyIn.cons rfl (fun K' hK => ?_) (AllReadyIn.cons rfl (fun K' hK => ?_) AllReadyIn.nil))
      · go_simp
        refine hK _ _ ?_
        clear hK
        refine wpAnyIn_ready (rs := [1, 3]) (by kernel_rfl) (by simp) (AllReadyIn.cons rfl (fun K' hK => ?_) (AllReadyIn.cons rfl (fun K' hK => ?_) AllReadyIn.nil))
        · go_simp
          refine hK _ _ ?_
          clear hK
          refine wpAnyIn_ready (rs := [3]) (by kernel_rfl) (by simp) (AllReadyIn.cons rfl (fun K' hK => ?_) AllReadyIn.nil)
          go_simp
          refine hK _ _ ?_
          clear hK
          refine wpAnyIn_ready (rs := [4]) (by kernel_rfl) (by simp) (AllReadyIn.cons rfl (fun K' hK => ?_) AllReadyIn.nil)
          go_simp
          refine hK _ _ ?_
          clear hK
          refine wpAnyIn_ready (rs := [5]) (by kernel_rfl) (by simp) (AllReadyIn.cons rfl (fun K' hK => ?_) AllReadyIn.nil)
          go_simp
          refine hK _ _ ?_
          clear hK
          refine wpAnyIn_ready (rs := [6]) (by kernel_rfl) (by simp) (AllReadyIn.cons rfl (fun K' hK => ?_) AllReadyIn.nil)
          refine Eq.mpr (if_pos rfl) (wpIn_append_own_at _ (.tmp 33) (.tmp 37) 22 rfl w3.heap.size 3 i0 (.int .i64 0) 1 8 Try.underlying22 hi hz0 hz1 hz2 rfl (by decide) v _ _ rfl (HV.out.own.alloc _) ⟨V.heap.size, 0, none⟩ 1 1 [.int .i64 (atL l x.1)] rfl rfl (cell_one_new _ _ _) (by simp [Value.oneCell']) (by rw [HLN.out]; unfold maxLen; omega) (by rw [HLN.out]; omega) (by have := HV.out.sz; simp; omega) ?_)
          intro v' w4 hown hg hb
          have HT := Lib.hid (HV.out.step hown hg hb)
          obtain ⟨e1, e2, e3, e4, e5⟩ := HV.out.mid hown hg hb
          have HKO := Lib.hid e4
          have HST := Lib.hid e5
          obtain ⟨g', cap', rfl⟩ := ownsRow_succ hown
          clear hown hg hb e4 e5
          refine hK _ _ ?_
          clear hK hc1 hbx
          refine wpAnyIn_ready (rs := [7]) (by kernel_rfl) (by simp) (AllReadyIn.cons rfl (fun K' hK => ?_) AllReadyIn.nil)
          go_simp
          refine hK _ _ ?_
          clear hK
          refine wpAnyIn_ready (rs := [8]) (by kernel_rfl) (by simp) (AllReadyIn.cons rfl (fun K' hK => ?_) AllReadyIn.nil)
          go_simp
          refine hK _ _ ?_
          clear hK
          refine wpAnyIn_done (by kernel_rfl) ?_ _
          gi_wp2
          exact FIN _ _ HKO.out HST.out HT.out
        · go_simp
          refine hK _ _ ?_
          clear hK
          refine wpAnyIn_ready (rs := [1, 4]) (by kernel_rfl) (by simp) (AllReadyIn.cons rfl (fun K' hK => ?_) (AllReadyIn.cons rfl (fun K' hK => ?_) AllReadyIn.nil))
          · go_simp
            refine hK _ _ ?_
            clear hK
            refine wpAnyIn_ready (rs := [4]) (by kernel_rfl) (by simp) (AllReadyIn.cons rfl (fun K' hK => ?_) AllReadyIn.nil)
            go_simp
            refine hK _ _ ?_
            clear hK
            refine wpAnyIn_ready (rs := [5]) (by kernel_rfl) (by simp) (AllReadyIn.cons rfl (fun K' hK => ?_) AllReadyIn.nil)
            go_simp
            refine hK _ _ ?_
            clear hK
            refine wpAnyIn_ready (rs := [6]) (by kernel_rfl) (by simp) (AllReadyIn.cons rfl (fun K' hK => ?_) AllReadyIn.nil)
            refine Eq.mpr (if_pos rfl) (wpIn_append_own_at _ (.tmp 33) (.tmp 37) 22 rfl w3.heap.size 3 i0 (.int .i64 0) 1 8 Try.underlying22 hi hz0 hz1 hz2 rfl (by decide) v _ _ rfl (HV.out.own.alloc _) ⟨V.heap.size, 0, none⟩ 1 1 [.int .i64 (atL l x.1)] rfl rfl (cell_one_new _ _ _) (by simp [Value.oneCell']) (by rw [HLN.out]; unfold maxLen; omega) (by rw [HLN.out]; omega) (by have := HV.out.sz; simp; omega) ?_)
            intro v' w4 hown hg hb
            have HT := Lib.hid (HV.out.step hown hg hb)
            obtain ⟨e1, e2, e3, e4, e5⟩ := HV.out.mid hown hg hb
            have HKO := Lib.hid e4
            have HST := Lib.hid e5
            obtain ⟨g', cap', rfl⟩ := ownsRow_succ hown
            clear hown hg hb e4 e5
            refine hK _ _ ?_
            clear hK hc1 hbx
            refine wpAnyIn_ready (rs := [7]) (by kernel_rfl) (by simp) (AllReadyIn.cons rfl (fun K' hK => ?_) AllReadyIn.nil)
            go_simp
            refine hK _ _ ?_
            clear hK
            refine wpAnyIn_ready (rs := [8]) (by kernel_rfl) (by simp) (AllReadyIn.cons rfl (fun K' hK => ?_) AllReadyIn.nil)
            go_simp
            refine hK _ _ ?_
            clear hK
            refine wpAnyIn_done (by kernel_rfl) ?_ _
            gi_wp2
            exact FIN _ _ HKO.out HST.out HT.out
          · go_simp
            refine hK _ _ ?_
            clear hK
            refine wpAnyIn_ready (rs := [1, 5]) (by kernel_rfl) (by simp) (AllReadyIn.cons rfl (fun K' hK => ?_) (AllReadyIn.cons rfl (fun K' hK => ?_) AllReadyIn.nil))
            · go_simp
              refine hK _ _ ?_
              clear hK
              refine wpAnyIn_ready (rs := [5]) (by kernel_rfl) (by simp) (AllReadyIn.cons rfl (fun K' hK => ?_) AllReadyIn.nil)
              go_simp
              refine hK _ _ ?_
              clear hK
              refine wpAnyIn_ready (rs := [6]) (by kernel_rfl) (by simp) (AllReadyIn.cons rfl (fun K' hK => ?_) AllReadyIn.nil)
              refine Eq.mpr (if_pos rfl) (wpIn_append_own_at _ (.tmp 33) (.tmp 37) 22 rfl w3.heap.size 3 i0 (.int .i64 0) 1 8 Try.underlying22 hi hz0 hz1 hz2 rfl (by decide) v _ _ rfl (HV.out.own.alloc _) ⟨V.heap.size, 0, none⟩ 1 1 [.int .i64 (atL l x.1)] rfl rfl (cell_one_new _ _ _) (by simp [Value.oneCell']) (by rw [HLN.out]; unfold maxLen; omega) (by rw [HLN.out]; omega) (by have := HV.out.sz; simp; omega) ?_)
              intro v' w4 hown hg hb
              have HT := Lib.hid (HV.out.step hown hg hb)
              obtain ⟨e1, e2, e3, e4, e5⟩ := HV.out.mid hown hg hb
              have HKO := Lib.hid e4
              have HST := Lib.hid e5
              obtain ⟨g', cap', rfl⟩ := ownsRow_succ hown
              clear hown hg hb e4 e5
              refine hK _ _ ?_
              clear hK hc1 hbx
              refine wpAnyIn_ready (rs := [7]) (by kernel_rfl) (by simp) (AllReadyIn.cons rfl (fun K' hK => ?_) AllReadyIn.nil)
              go_simp
              refine hK _ _ ?_
              clear hK
              refine wpAnyIn_ready (rs := [8]) (by kernel_rfl) (by simp) (AllReadyIn.cons rfl (fun K' hK => ?_) AllReadyIn.nil)
              go_simp
              refine hK _ _ ?_
              clear hK
              refine wpAnyIn_done (by kernel_rfl) ?_ _
              gi_wp2
              exact FIN _ _ HKO.out HST.out HT.out
            · go_simp
              refine hK _ _ ?_
              clear hK
              refine wpAnyIn_ready (rs := [1]) (by kernel_rfl) (by simp) (AllReadyIn.cons rfl (fun K' hK => ?_) AllReadyIn.nil)
              go_simp
              refine hK _ _ ?_
              clear hK
              refine wpAnyIn_ready (rs := [6]) (by kernel_rfl) (by simp) (AllReadyIn.cons rfl (fun K' hK => ?_) AllReadyIn.nil)
              refine Eq.mpr (if_pos rfl) (wpIn_append_own_at _ (.tmp 33) (.tmp 37) 22 rfl w3.heap.size 3 i0 (.int .i64 0) 1 8 Try.underlying22 hi hz0 hz1 hz2 rfl (by decide) v _ _ rfl (HV.out.own.alloc _) ⟨V.heap.size, 0, none⟩ 1 1 [.int .i64 (atL l x.1)] rfl rfl (cell_one_new _ _ _) (by simp [Value.oneCell']) (by rw [HLN.out]; unfold maxLen; omega) (by rw [HLN.out]; omega) (by have := HV.out.sz; simp; omega) ?_)
              intro v' w4 hown hg hb
              have HT := Lib.hid (HV.out.step hown hg hb)
              obtain ⟨e1, e2, e3, e4, e5⟩ := HV.out.mid hown hg hb
              have HKO := Lib.hid e4
              have HST := Lib.hid e5
              obtain ⟨g', cap', rfl⟩ := ownsRow_succ hown
              clear hown hg hb e4 e5
              refine hK _ _ ?_
              clear hK hc1 hbx
              refine wpAnyIn_ready (rs := [7]) (by kernel_rfl) (by simp) (AllReadyIn.cons rfl (fun K' hK => ?_) AllReadyIn.nil)
              go_simp
              refine hK _ _ ?_
              clear hK
              refine wpAnyIn_ready (rs := [8]) (by kernel_rfl) (by simp) (AllReadyIn.cons rfl (fun K' hK => ?_) AllReadyIn.nil)
              go_simp
              refine hK _ _ ?_
              clear hK
              refine wpAnyIn_done (by kernel_rfl) ?_ _
              gi_wp2
              exact FIN _ _ HKO.out HST.out HT.out
      · go_simp
        refine hK _ _ ?_
        clear hK
        refine wpAnyIn_ready (rs := [0, 4]) (by kernel_rfl) (by simp) (AllReadyIn.cons rfl (fun K' hK => ?_) (AllReadyIn.cons rfl (fun K' hK => ?_) AllReadyIn.nil))
        · go_simp
          refine hK _ _ ?_
          clear hK
          refine wpAnyIn_ready (rs := [1, 4]) (by kernel_rfl) (by simp) (AllReadyIn.cons rfl (fun K' hK => ?_) (AllReadyIn.cons rfl (fun K' hK => ?_) AllReadyIn.nil))
          · go_simp
            refine hK _ _ ?_
            clear hK
            refine wpAnyIn_ready (rs := [4]) (by kernel_rfl) (by simp) (AllReadyIn.cons rfl (fun K' hK => ?_) AllReadyIn.nil)
            go_simp
            refine hK _ _ ?_
            clear hK
            refine wpAnyIn_ready (rs := [5]) (by kernel_rfl) (by simp) (AllReadyIn.cons rfl (fun K' hK => ?_) AllReadyIn.nil)
            go_simp
            refine hK _ _ ?_
            clear hK
            refine wpAnyIn_ready (rs := [6]) (by kernel_rfl) (by simp) (AllReadyIn.cons rfl (fun K' hK => ?_) AllReadyIn.nil)
            refine Eq.mpr (if_pos rfl) (wpIn_append_own_at _ (.tmp 33) (.tmp 37) 22 rfl w3.heap.size 3 i0 (.int .i64 0) 1 8 Try.underlying22 hi hz0 hz1 hz2 rfl (by decide) v _ _ rfl (HV.out.own.alloc _) ⟨V.heap.size, 0, none⟩ 1 1 [.int .i64 (atL l x.1)] rfl rfl (cell_one_new _ _ _) (by simp [Value.oneCell']) (by rw [HLN.out]; unfold maxLen; omega) (by rw [HLN.out]; omega) (by have := HV.out.sz; simp; omega) ?_)
            intro v' w4 hown hg hb
            have HT := Lib.hid (HV.out.step hown hg hb)
            obtain ⟨e1, e2, e3, e4, e5⟩ := HV.out.mid hown hg hb
            have HKO := Lib.hid e4
            have HST := Lib.hid e5
            obtain ⟨g', cap', rfl⟩ := ownsRow_succ hown
            clear hown hg hb e4 e5
            refine hK _ _ ?_
            clear hK hc1 hbx
            refine wpAnyIn_ready (rs := [7]) (by kernel_rfl) (by simp) (AllReadyIn.cons rfl (fun K' hK => ?_) AllReadyIn.nil)
            go_simp
            refine hK _ _ ?_
            clear hK
            refine wpAnyIn_ready (rs := [8]) (by kernel_rfl) (by simp) (AllReadyIn.cons rfl (fun K' hK => ?_) AllReadyIn.nil)
            go_simp
            refine hK _ _ ?_
            clear hK
            refine wpAnyIn_done (by kernel_rfl) ?_ _
            gi_wp2
            exact FIN _ _ HKO.out HST.out HT.out
          · go_simp
            refine hK _ _ ?_
            clear hK
            refine wpAnyIn_ready (rs := [1, 5]) (by kernel_rfl) (by simp) (AllReadyIn.cons rfl (fun K' hK => ?_) (AllReadyIn.cons rfl (fun K' hK => ?_) AllReadyIn.nil))
            · go_simp
              refine hK _ _ ?_
              clear hK
              refine wpAnyIn_ready (rs := [5]) (by kernel_rfl) (by simp) (AllReadyIn.cons rfl (fun K' hK => ?_) AllReadyIn.nil)
              go_simp
              refine hK _ _ ?_
              clear hK
              refine wpAnyIn_ready (rs := [6]) (by kernel_rfl) (by simp) (AllReadyIn.cons rfl (fun K' hK => ?_) AllReadyIn.nil)
              refine Eq.mpr (if_pos rfl) (wpIn_append_own_at _ (.tmp 33) (.tmp 37) 22 rfl w3.heap.size 3 i0 (.int .i64 0) 1 8 Try.underlying22 hi hz0 hz1 hz2 rfl (by decide) v _ _ rfl (HV.out.own.alloc _) ⟨V.heap.size, 0, none⟩ 1 1 [.int .i64 (atL l x.1)] rfl rfl (cell_one_new _ _ _) (by simp [Value.oneCell']) (by rw [HLN.out]; unfold maxLen; omega) (by rw [HLN.out]; omega) (by have := HV.out.sz; simp; omega) ?_)
              intro v' w4 hown hg hb
              have HT := Lib.hid (HV.out.step hown hg hb)
              obtain ⟨e1, e2, e3, e4, e5⟩ := HV.out.mid hown hg hb
              have HKO := Lib.hid e4
              have HST := Lib.hid e5
              obtain ⟨g', cap', rfl⟩ := ownsRow_succ hown
              clear hown hg hb e4 e5
              refine hK _ _ ?_
              clear hK hc1 hbx
              refine wpAnyIn_ready (rs := [7]) (by kernel_rfl) (by simp) (AllReadyIn.cons rfl (fun K' hK => ?_) AllReadyIn.nil)
              go_simp
              refine hK _ _ ?_
              clear hK
              refine wpAnyIn_ready (rs := [8]) (by kernel_rfl) (by simp) (AllReadyIn.cons rfl (fun K' hK => ?_) AllReadyIn.nil)
              go_simp
              refine hK _ _ ?_
              clear hK
              refine wpAnyIn_done (by kernel_rfl) ?_ _
              gi_wp2
              exact FIN _ _ HKO.out HST.out HT.out
            · go_simp
              refine hK _ _ ?_
              clear hK
              refine wpAnyIn_ready (rs := [1]) (by kernel_rfl) (by simp) (AllReadyIn.cons rfl (fun K' hK => ?_) AllReadyIn.nil)
              go_simp
              refine hK _ _ ?_
              clear hK
              refine wpAnyIn_ready (rs := [6]) (by kernel_rfl) (by simp) (AllReadyIn.cons rfl (fun K' hK => ?_) AllReadyIn.nil)
              refine Eq.mpr (if_pos rfl) (wpIn_append_own_at _ (.tmp 33) (.tmp 37) 22 rfl w3.heap.size 3 i0 (.int .i64 0) 1 8 Try.underlying22 hi hz0 hz1 hz2 rfl (by decide) v _ _ rfl (HV.out.own.alloc _) ⟨V.heap.size, 0, none⟩ 1 1 [.int .i64 (atL l x.1)] rfl rfl (cell_one_new _ _ _) (by simp [Value.oneCell']) (by rw [HLN.out]; unfold maxLen; omega) (by rw [HLN.out]; omega) (by have := HV.out.sz; simp; omega) ?_)
              intro v' w4 hown hg hb
              have HT := Lib.hid (HV.out.step hown hg hb)
              obtain ⟨e1, e2, e3, e4, e5⟩ := HV.out.mid hown hg hb
              have HKO := Lib.hid e4
              have HST := Lib.hid e5
              obtain ⟨g', cap', rfl⟩ := ownsRow_succ hown
              clear hown hg hb e4 e5
              refine hK _ _ ?_
              clear hK hc1 hbx
              refine wpAnyIn_ready (rs := [7]) (by kernel_rfl) (by simp) (AllReadyIn.cons rfl (fun K' hK => ?_) AllReadyIn.nil)
              go_simp
              refine hK _ _ ?_
              clear hK
              refine wpAnyIn_ready (rs := [8]) (by kernel_rfl) (by simp) (AllReadyIn.cons rfl (fun K' hK => ?_) AllReadyIn.nil)
              go_simp
              refine hK _ _ ?_
              clear hK
              refine wpAnyIn_done (by kernel_rfl) ?_ _
              gi_wp2
              exact FIN _ _ HKO.out HST.out HT.out
        · go_simp
          refine hK _ _ ?_
          clear hK
          refine wpAnyIn_ready (rs := [0, 5]) (by kernel_rfl) (by simp) (AllReadyIn.cons rfl (fun K' hK => ?_) (AllReadyIn.cons rfl (fun K' hK => ?_) AllReadyIn.nil))
          · go_simp
            refine hK _ _ ?_
            clear hK
            refine wpAnyIn_ready (rs := [1, 5]) (by kernel_rfl) (by simp) (AllReadyIn.cons rfl (fun K' hK => ?_) (AllReadyIn.cons rfl (fun K' hK => ?_) AllReadyIn.nil))
            · go_simp
              refine hK _ _ ?_
              clear hK
              refine wpAnyIn_ready (rs := [5]) (by kernel_rfl) (by simp) (AllReadyIn.cons rfl (fun K' hK => ?_) AllReadyIn.nil)
              go_simp
              refine hK _ _ ?_
              clear hK
              refine wpAnyIn_ready (rs := [6]) (by kernel_rfl) (by simp) (AllReadyIn.cons rfl (fun K' hK => ?_) AllReadyIn.nil)
              refine Eq.mpr (if_pos rfl) (wpIn_append_own_at _ (.tmp 33) (.tmp 37) 22 rfl w3.heap.size 3 i0 (.int .i64 0) 1 8 Try.underlying22 hi hz0 hz1 hz2 rfl (by decide) v _ _ rfl (HV.out.own.alloc _) ⟨V.heap.size, 0, none⟩ 1 1 [.int .i64 (atL l x.1)] rfl rfl (cell_one_new _ _ _) (by simp [Value.oneCell']) (by rw [HLN.out]; unfold maxLen; omega) (by rw [HLN.out]; omega) (by have := HV.out.sz; simp; omega) ?_)
              intro v' w4 hown hg hb
              have HT := Lib.hid (HV.out.step hown hg hb)
              obtain ⟨e1, e2, e3, e4, e5⟩ := HV.out.mid hown hg hb
              have HKO := Lib.hid e4
              have HST := Lib.hid e5
              obtain ⟨g', cap', rfl⟩ := ownsRow_succ hown
              clear hown hg hb e4 e5
              refine hK _ _ ?_
              clear hK hc1 hbx
              refine wpAnyIn_ready (rs := [7]) (by kernel_rfl) (by simp) (AllReadyIn.cons rfl (fun K' hK => ?_) AllReadyIn.nil)
              go_simp
              refine hK _ _ ?_
              clear hK
              refine wpAnyIn_ready (rs := [8]) (by kernel_rfl) (by simp) (AllReadyIn.cons rfl (fun K' hK => ?_) AllReadyIn.nil)
              go_simp
              refine hK _ _ ?_
              clear hK
              refine wpAnyIn_done (by kernel_rfl) ?_ _
              gi_wp2
              exact FIN _ _ HKO.out HST.out HT.out
            · go_simp
              refine hK _ _ ?_
              clear hK
              refine wpAnyIn_ready (rs := [1]) (by kernel_rfl) (by simp) (AllReadyIn.cons rfl (fun K' hK => ?_) AllReadyIn.nil)
              go_simp
              refine hK _ _ ?_
              clear hK
              refine wpAnyIn_ready (rs := [6]) (by kernel_rfl) (by simp) (AllReadyIn.cons rfl (fun K' hK => ?_) AllReadyIn.nil)
              refine Eq.mpr (if_pos rfl) (wpIn_append_own_at _ (.tmp 33) (.tmp 37) 22 rfl w3.heap.size 3 i0 (.int .i64 0) 1 8 Try.underlying22 hi hz0 hz1 hz2 rfl (by decide) v _ _ rfl (HV.out.own.alloc _) ⟨V.heap.size, 0, none⟩ 1 1 [.int .i64 (atL l x.1)] rfl rfl (cell_one_new _ _ _) (by simp [Value.oneCell']) (by rw [HLN.out]; unfold maxLen; omega) (by rw [HLN.out]; omega) (by have := HV.out.sz; simp; omega) ?_)
              intro v' w4 hown hg hb
              have HT := Lib.hid (HV.out.step hown hg hb)
              obtain ⟨e1, e2, e3, e4, e5⟩ := HV.out.mid hown hg hb
              have HKO := Lib.hid e4
              have HST := Lib.hid e5
              obtain ⟨g', cap', rfl⟩ := ownsRow_succ hown
              clear hown hg hb e4 e5
              refine hK _ _ ?_
              clear hK hc1 hbx
              refine wpAnyIn_ready (rs := [7]) (by kernel_rfl) (by simp) (AllReadyIn.cons rfl (fun K' hK => ?_) AllReadyIn.nil)
              go_simp
              refine hK _ _ ?_
              clear hK
              refine wpAnyIn_ready (rs := [8]) (by kernel_rfl) (by simp) (AllReadyIn.cons rfl (fun K' hK => ?_) AllReadyIn.nil)
              go_simp
              refine hK _ _ ?_
              clear hK
              refine wpAnyIn_done (by kernel_rfl) ?_ _
              gi_wp2
              exact FIN _ _ HKO.out HST.out HT.out
          · go_simp
            refine hK _ _ ?_
            clear hK
            refine wpAnyIn_ready (rs := [0]) (by kernel_rfl) (by simp) (AllReadyIn.cons rfl (fun K' hK => ?_) AllReadyIn.nil)
            go_simp
            refine hK _ _ ?_
            clear hK
            refine wpAnyIn_ready (rs := [1]) (by kernel_rfl) (by simp) (AllReadyIn.cons rfl (fun K' hK => ?_) AllReadyIn.nil)
            go_simp
            refine hK _ _ ?_
            clear hK
            refine wpAnyIn_ready (rs := [6]) (by kernel_rfl) (by simp) (AllReadyIn.cons rfl (fun K' hK => ?_) AllReadyIn.nil)
            refine Eq.mpr (if_pos rfl) (wpIn_append_own_at _ (.tmp 33) (.tmp 37) 22 rfl w3.heap.size 3 i0 (.int .i64 0) 1 8 Try.underlying22 hi hz0 hz1 hz2 rfl (by decide) v _ _ rfl (HV.out.own.alloc _) ⟨V.heap.size, 0, none⟩ 1 1 [.int .i64 (atL l x.1)] rfl rfl (cell_one_new _ _ _) (by simp [Value.oneCell']) (by rw [HLN.out]; unfold maxLen; omega) (by rw [HLN.out]; omega) (by have := HV.out.sz; simp; omega) ?_)
            intro v' w4 hown hg hb
            have HT := Lib.hid (HV.out.step hown hg hb)
            obtain ⟨e1, e2, e3, e4, e5⟩ := HV.out.mid hown hg hb
            have HKO := Lib.hid e4
            have HST := Lib.hid e5
            obtain ⟨g', cap', rfl⟩ := ownsRow_succ hown
            clear hown hg hb e4 e5
            refine hK _ _ ?_
            clear hK hc1 hbx
            refine wpAnyIn_ready (rs := [7]) (by kernel_rfl) (by simp) (AllReadyIn.cons rfl (fun K' hK => ?_) AllReadyIn.nil)
            go_simp
            refine hK _ _ ?_
            clear hK
            refine wpAnyIn_ready (rs := [8]) (by kernel_rfl) (by simp) (AllReadyIn.cons rfl (fun K' hK => ?_) AllReadyIn.nil)
            go_simp
            refine hK _ _ ?_
            clear hK
            refine wpAnyIn_done (by kernel_rfl) ?_ _
            gi_wp2
            exact FIN _ _ HKO.out HST.out HT.out
  case done =>
    rintro D ys W hD hys ⟨v, hT⟩ hK
    rw [hys] at hT
    clear hys
    have hc1' : 1 ≤ cntS l.length 0 M := (cntS_lt (by omega)).2 (by omega)
    have hll : ((startsL l.length M h0 (cntS l.length 0 M)).map fun d : PIx l.length => atL l d.1).length = cntS l.length 0 M := by rw [List.length_map, startsL_len]
    obtain ⟨L, hL⟩ : ∃ L : List Int, L = (startsL l.length M h0 (cntS l.length 0 M)).map fun d : PIx l.length => atL l d.1 := ⟨_, rfl⟩
    rw [← hL] at hT hll
    obtain ⟨g, cg, rfl, hI⟩ := hT.own.ints (by omega)
    have c0 := hT.c0
    have c1 := hT.c1
    have hz := cell_lt c0
    have r0 := hT.r0
    have r1 := hT.r1
    have q0 := hT.g0
    have q1 := hT.g1
    have hz' := cell_lt r0
    have HT := Lib.hid hT
    have HI := Lib.hid hI
    have HL := Lib.hid hL
    have HK := Lib.hid hK
    have HD := Lib.hid hD
    have HLL := Lib.hid hll
    clear hT hI hL hK hD hll
    gi_wp2
    obtain ⟨Y, hY⟩ : ∃ Y, Y = (W.setCell ⟨w.heap.size + 1, 0, none⟩ (.int .i64 ((M : Int) * tau))).setCell ⟨w.heap.size + 1, 1, none⟩ (.slice (some ⟨g, 0, none⟩) L.length cg) := ⟨_, rfl⟩
    rw [← hY]
    have hlt := HT.out.lt
    have hDn : D ≠ w.heap.size + 1 := by have := HD.out; omega
    have hKY : Y.heap[D]? = some (.deferred (some [])) := by
      rw [hY, Below.heap_setCell _ _ _ _ (by show D ≠ w.heap.size + 1; exact hDn), Below.heap_setCell _ _ _ _ (by show D ≠ w.heap.size + 1; exact hDn)]
      exact HK.out
    have hBY : Below w.heap.size w Y := by
      rw [hY]
      exact (HT.out.bel.setCell (by show w.heap.size ≤ w.heap.size + 1; omega) _).setCell (by show w.heap.size ≤ w.heap.size + 1; omega) _
    have hBZ := hBY.trans (belowK_b (w := w) (Nat.le_refl _) Y D _ (.deferred none) (by have := HD.out; omega) hKY rfl rfl)
    have hne : (Value.slice (some ⟨g, 0, none⟩) L.length cg).ownBlock ≠ some (w.heap.size + 1) := fun e => by have := (World.ownsRow.lt HT.out.own _ e).1; omega
    have hOY : OwnI w3.heap.size Y (.slice (some ⟨g, 0, none⟩) L.length cg) L := by
      rw [hY]
      exact (HT.out.own.kept (grownBy_set W (w.heap.size + 1) 0 _) (.inr hne)).kept (grownBy_set _ (w.heap.size + 1) 1 _) (.inr hne)
    have hOZ : OwnI w3.heap.size (Y.putObj D (.deferred none)) (.slice (some ⟨g, 0, none⟩) L.length cg) L := ownsRow_putObj hOY (.deferred none) hKY rfl
    have y0 : Y.cell? ⟨w.heap.size + 1, 0, none⟩ = some (.int .i64 ((M : Int) * tau)) := by
      rw [hY, World.cell?_setCell_other _ ⟨w.heap.size + 1, 1, none⟩ ⟨w.heap.size + 1, 0, none⟩ _ (fun e => by cases e)]
      exact World.cell?_setCell_same _ _ _ r0
    have y1 : Y.cell? ⟨w.heap.size + 1, 1, none⟩ = some (.slice (some ⟨g, 0, none⟩) L.length cg) := by
      rw [hY]
      refine World.cell?_setCell_same _ _ _ (u := .slice none 0 0) ?_
      rw [World.cell?_setCell_other _ ⟨w.heap.size + 1, 0, none⟩ ⟨w.heap.size + 1, 1, none⟩ _ (fun e => by cases e)]
      exact r1
    have hblk : (Y.putObj D (.deferred none)).heap[w.heap.size + 1]? = Y.heap[w.heap.size + 1]? := World.putObj_heap_other (fun e => hDn e.symm)
    have z0 := (World.cell?_of_block (a := ⟨w.heap.size + 1, 0, none⟩) hblk).trans y0
    have z1 := (World.cell?_of_block (a := ⟨w.heap.size + 1, 1, none⟩) hblk).trans y1
    obtain ⟨g2, cg2, hv2, hIZ⟩ := hOZ.ints (by rw [HLL.out]; exact hc1')
    cases hv2
    have hml : L.length ≤ maxLen := by rw [HLL.out]; unfold maxLen; omega
    refine ⟨by simp, .inl ⟨_, _, rfl, run_takeDeferred hKY, ?_⟩⟩
    refine ⟨.tuple #[.agg #[.int .i64 ((M : Int) * tau), .slice (some ⟨g, 0, none⟩) L.length cg], .int .i64 0], by simp [results, Try.results23, go_sem, z0, z1], ?_⟩
    exact ⟨some ⟨g, 0, none⟩, cg, by rw [HLL.out], by rw [← HL.out]; exact ⟨hml, .inr ⟨g, 0, rfl, hIZ⟩⟩, by rw [← HL.out, ← HLL.out]; exact own_low hOZ HAA.out.size, hBZ⟩
  case stop =>
    rintro D c pre W _ _ h _
    exact h.elim
theorem thin_ok (tau : Int) (l : List Int) (b o cap M : Nat) (w : World) (hs : SerIn w l (some ⟨b, o, none⟩)) (hcap : l.length ≤ cap) (h0 : 0 < l.length) (h128 : l.length ≤ 128) (hm : 1 ≤ M ∧ M ≤ 32) (ht : 1 ≤ tau ∧ tau ≤ 1000) (he : stepErr tau l M = 0) (hmt : (M : Int) * tau ≤ 1000) :
    Calls Try.prog 23 #[.agg #[.int .i64 tau, .slice (some ⟨b, o, none⟩) l.length cap], .int .i64 M] w fun e w' => ∃ q c, e = .returned (.tuple #[.agg #[.int .i64 ((M : Int) * tau), .slice q (cntS l.length 0 M) c], .int .i64 0]) ∧
      SerIn w' ((startsL l.length M h0 (cntS l.length 0 M)).map fun d => atL l d.1) q ∧ Below w.heap.size w w' :=
  (thin_own tau l b o cap M w hs hcap h0 h128 hm ht he hmt).mono fun _ _ ⟨q, c, h1, h2, _, h3⟩ => ⟨q, c, h1, h2, h3⟩
end Go.Proofs.Ytpmhphdpomiacaa
