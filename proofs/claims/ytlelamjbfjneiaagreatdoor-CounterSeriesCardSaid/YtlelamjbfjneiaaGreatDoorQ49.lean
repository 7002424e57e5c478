/- Layer 2: a list of spans that is collected. · Contracts of the kit: a list of numbers that is copied, spans that are the same. · Plain facts: what is followed holds the true differences. · Plain: what the reference's Follow asks of its clocks and seconds is what the program's asks. -/
import Derived.Test.YtlelamjbfjneiaaGreatDoorQ48
import Derived.Test.YtlelamjbfjneiaaGreatDoorQ33
import Derived.Test.YtlelamjbfjneiaaGreatDoorQ08
import Derived.Test.YtlelamjbfjneiaaGreatDoorQ17
namespace Go.Proofs.YtlelamjbfjneiaaGreatDoor.Ct
open Go Go.RowKit Go.Shelf
/-- spans that lie in memory -/
def SpnIn (w : World) (sp : Nat → Int × Int) (n : Nat) (p : Option Addr) : Prop :=
  n = 0 ∨ ∃ b o, p = some ⟨b, o, none⟩ ∧ ∀ i, i < n → w.cell? ⟨b, o + i * 2, none⟩ = some (.int .i64 (sp i).1) ∧ w.cell? ⟨b, o + i * 2 + 1, none⟩ = some (.int .i64 (sp i).2)
theorem SpnIn.below {w w' : World} {sp : Nat → Int × Int} {n : Nat} {p : Option Addr} (h : SpnIn w sp n p) (hb : Below w.heap.size w w') : SpnIn w' sp n p :=
  h.imp id fun ⟨b, o, e, hi⟩ => ⟨b, o, e, fun i h => ⟨cell_below hb (hi i h).1, cell_below hb (hi i h).2⟩⟩
def spnV (sp : Nat → Int × Int) : Nat → List Value
  | 0 => []
  | k + 1 => spnV sp k ++ [.int .i64 (sp k).1, .int .i64 (sp k).2]
theorem spnV_len (sp : Nat → Int × Int) : ∀ k, (spnV sp k).length = k * 2
  | 0 => rfl
  | k + 1 => by simp only [spnV, List.length_append, spnV_len sp k, List.length_cons, List.length_nil]; omega
theorem spnV_at (sp : Nat → Int × Int) : ∀ (k i : Nat), i < k → (spnV sp k)[i * 2]? = some (.int .i64 (sp i).1) ∧ (spnV sp k)[i * 2 + 1]? = some (.int .i64 (sp i).2)
  | k + 1, i, h => by
    have hl := spnV_len sp k
    unfold spnV
    by_cases e : i = k
    · subst e
      rw [List.getElem?_append_right (by omega), List.getElem?_append_right (by omega), hl, show i * 2 - i * 2 = 0 by omega, show i * 2 + 1 - i * 2 = 1 by omega]
      exact ⟨rfl, rfl⟩
    · have ih := spnV_at sp k i (by omega)
      rw [List.getElem?_append_left (by omega), List.getElem?_append_left (by omega)]
      exact ih
theorem spn_new (w : World) (x y : Value) (t : TypeId) : ∀ j v, [x, y][j]? = some v → (w.alloc (.cells #[x, y] t)).cell? ((⟨w.heap.size, 0, none⟩ : Addr).add j) = some v := by
  intro j v hj
  match j, hj with
  | 0, hj => simp at hj; subst hj; simp [Addr.add]
  | 1, hj => simp at hj; subst hj; simp [Addr.add]
/-- the spans as they are collected, in blocks from B on -/
structure SpAt (B : Nat) (X : World) (v : Value) (sp : Nat → Int × Int) (k : Nat) : Prop where
  own : X.ownsRow B 31 2 v k (spnV sp k)
  le : B ≤ X.heap.size
theorem SpAt.nil {B : Nat} {X : World} (h : B ≤ X.heap.size) (sp : Nat → Int × Int) : SpAt B X (.slice none 0 0) sp 0 := ⟨World.ownsRow_nil _ _ _ _, h⟩
theorem SpAt.below {B : Nat} {X Y : World} {v : Value} {sp : Nat → Int × Int} {k : Nat} (h : SpAt B X v sp k) (hb : Below X.heap.size X Y) : SpAt B Y v sp k :=
  ⟨World.ownsRow.kept h.own (grown_below hb) (by cases e : v.ownBlock with | none => exact .inl rfl | some k => exact .inr (by simp)), Nat.le_trans h.le hb.size⟩
theorem SpAt.set {B : Nat} {X : World} {v : Value} {sp : Nat → Int × Int} {k : Nat} (h : SpAt B X v sp k) {b : Nat} (hb : b < B) (o : Nat) (u : Value) : SpAt B (X.setCell ⟨b, o, none⟩ u) v sp k :=
  ⟨ownsRow_setCell_below h.own (a := ⟨b, o, none⟩) hb _, by have := h.le; simpa using this⟩
theorem SpAt.in_ {B : Nat} {X : World} {v : Value} {sp : Nat → Int × Int} {k : Nat} (h : SpAt B X v sp k) : ∃ p cap, v = .slice p k cap ∧ SpnIn X sp k p := by
  rcases h.own.2 with ⟨rfl, h0⟩ | ⟨g, cap, cur, rfl, _, _, _⟩
  · exact ⟨none, 0, by rw [h0], .inl h0⟩
  · refine ⟨some ⟨g, 0, none⟩, cap, rfl, .inr ⟨g, 0, rfl, fun i hi => ?_⟩⟩
    obtain ⟨h1, h2⟩ := spnV_at sp k i hi
    have k : ∀ (i : Nat) (v : Value), (spnV sp k)[i]? = some v → X.cell? ⟨g, i, none⟩ = some v := fun i v hi => by
      have := World.ownsRow.cells h.own (g := g) rfl i v hi
      rwa [show (⟨g, 0, none⟩ : Addr).add i = ⟨g, i, none⟩ by unfold Addr.add; split <;> simp_all] at this
    rw [Nat.zero_add]
    exact ⟨k _ _ h1, k _ _ h2⟩
/-- the span that lies last -/
theorem SpAt.last {B : Nat} {X : World} {v : Value} {sp : Nat → Int × Int} {k : Nat} (h : SpAt B X v sp (k + 1)) : ∃ g cap, v = .slice (some ⟨g, 0, none⟩) (k + 1) cap ∧ B ≤ g ∧ X.cell? ⟨g, k * 2, none⟩ = some (.int .i64 (sp k).1) ∧ X.cell? ⟨g, k * 2 + 1, none⟩ = some (.int .i64 (sp k).2) := by
  rcases h.own.2 with ⟨rfl, h0⟩ | ⟨g, cap, cur, rfl, hg, _, _⟩
  · exact absurd h0 (by omega)
  · refine ⟨g, cap, rfl, hg, ?_⟩
    obtain ⟨h1, h2⟩ := spnV_at sp (k + 1) k (by omega)
    have k : ∀ (i : Nat) (v : Value), (spnV sp (k + 1))[i]? = some v → X.cell? ⟨g, i, none⟩ = some v := fun i v hi => by
      have := World.ownsRow.cells h.own (g := g) rfl i v hi
      rwa [show (⟨g, 0, none⟩ : Addr).add i = ⟨g, i, none⟩ by unfold Addr.add; split <;> simp_all] at this
    exact ⟨k _ _ h1, k _ _ h2⟩
/-- the boxes of the reference's Follow: the counter, the world, the prior's span, and the spans so far -/
structure RFol (w X : World) (c : Cnt) (W : Wd.Wld) (p1 p2 : Option Addr) (k1 k2 : Nat) (bp : Nat) (lo hi : Int) (v : Value) (sp : Nat → Int × Int) (k : Nat) : Prop where
  ob : ObsAt w X c W p1 p2 k1 k2
  pr : WS X bp lo hi
  own : SpAt (bp + 1) X v sp k
  gt : w.heap.size + 1 < bp
theorem RFol.below {w X Y : World} {c : Cnt} {W : Wd.Wld} {p1 p2 : Option Addr} {k1 k2 : Nat} {bp : Nat} {lo hi : Int} {v : Value} {sp : Nat → Int × Int} {k : Nat} (h : RFol w X c W p1 p2 k1 k2 bp lo hi v sp k) (hb : Below X.heap.size X Y) : RFol w Y c W p1 p2 k1 k2 bp lo hi v sp k :=
  ⟨h.ob.below hb, h.pr.below hb, h.own.below hb, h.gt⟩
theorem WS.lo1 {X : World} {b : Nat} {x y : Int} (h : WS X b x y) (u : Int) : WS (X.setCell ⟨b, 0, none⟩ (.int .i64 u)) b u y :=
  ⟨World.cell?_setCell_same _ _ _ h.c0, other_cell (by decide) h.c1, by rw [World.frozen?_setCell]; exact h.f0, by rw [World.frozen?_setCell]; exact h.f1⟩
theorem WS.hi1 {X : World} {b : Nat} {x y : Int} (h : WS X b x y) (u : Int) : WS (X.setCell ⟨b, 1, none⟩ (.int .i64 u)) b x u :=
  ⟨other_cell (by decide) h.c0, World.cell?_setCell_same _ _ _ h.c1, by rw [World.frozen?_setCell]; exact h.f0, by rw [World.frozen?_setCell]; exact h.f1⟩
theorem RFol.lo1 {w X : World} {c : Cnt} {W : Wd.Wld} {p1 p2 : Option Addr} {k1 k2 : Nat} {bp : Nat} {lo hi : Int} {v : Value} {sp : Nat → Int × Int} {k : Nat} (h : RFol w X c W p1 p2 k1 k2 bp lo hi v sp k) (u : Int) : RFol w (X.setCell ⟨bp, 0, none⟩ (.int .i64 u)) c W p1 p2 k1 k2 bp u hi v sp k :=
  ⟨h.ob.only ((Only.refl bp X).set 0 _) h.gt, h.pr.lo1 u, h.own.set (Nat.lt_succ_self bp) _ _, h.gt⟩
theorem RFol.hi1 {w X : World} {c : Cnt} {W : Wd.Wld} {p1 p2 : Option Addr} {k1 k2 : Nat} {bp : Nat} {lo hi : Int} {v : Value} {sp : Nat → Int × Int} {k : Nat} (h : RFol w X c W p1 p2 k1 k2 bp lo hi v sp k) (u : Int) : RFol w (X.setCell ⟨bp, 1, none⟩ (.int .i64 u)) c W p1 p2 k1 k2 bp lo u v sp k :=
  ⟨h.ob.only ((Only.refl bp X).set 1 _) h.gt, h.pr.hi1 u, h.own.set (Nat.lt_succ_self bp) _ _, h.gt⟩
/-- one more span -/
theorem RFol.more {w X Y : World} {c : Cnt} {W : Wd.Wld} {p1 p2 : Option Addr} {k1 k2 : Nat} {bp : Nat} {lo hi : Int} {v v' : Value} {sp : Nat → Int × Int} {k : Nat} {o : Obj} {x y : Int} (hx : sp k = (x, y)) (h : RFol w X c W p1 p2 k1 k2 bp lo hi v sp k) (hown : Y.ownsRow (bp + 1) 31 2 v' (k + 1) (spnV sp k ++ [.int .i64 x, .int .i64 y])) (hg : (X.alloc o).grownBy Y v.ownBlock) : RFol w Y c W p1 p2 k1 k2 bp lo hi v' sp (k + 1) := by
  have hb : Below (bp + 1) X Y := ((Below.refl (bp + 1) X).alloc h.own.le o).grown hg (by have := h.own.le; simp; omega) (fun k hk => (World.ownsRow.lt h.own.own k hk).1)
  have hgt := h.gt
  have kc : ∀ {b o : Nat} {u : Value}, b < bp + 1 → X.cell? ⟨b, o, none⟩ = some u → Y.cell? ⟨b, o, none⟩ = some u := fun hlt hc => (hb.cell (p := ⟨_, _, none⟩) hlt).trans hc
  have kf : ∀ {b o : Nat}, b < bp + 1 → X.frozen? ⟨b, o, none⟩ = false → Y.frozen? ⟨b, o, none⟩ = false := fun hlt hc => (hb.frozen (p := ⟨_, _, none⟩) hlt).trans hc
  have hc := h.ob.cb
  refine ⟨⟨⟨kc (by omega) hc.c0, kc (by omega) hc.c1, kc (by omega) hc.c2, kc (by omega) hc.c3, kc (by omega) hc.c4, kc (by omega) hc.c5, kc (by omega) hc.c6⟩, kc (by omega) h.ob.c0, kc (by omega) h.ob.c1, kc (by omega) h.ob.c2, h.ob.bel.trans (hb.mono (by omega))⟩,
    ⟨kc (by omega) h.pr.c0, kc (by omega) h.pr.c1, kf (by omega) h.pr.f0, kf (by omega) h.pr.f1⟩, ⟨?_, Nat.le_trans h.own.le hb.size⟩, hgt⟩
  show Y.ownsRow (bp + 1) 31 2 v' (k + 1) (spnV sp k ++ [.int .i64 (sp k).1, .int .i64 (sp k).2])
  rw [hx]
  exact hown
end Go.Proofs.YtlelamjbfjneiaaGreatDoor.Ct
namespace Go.Proofs.YtlelamjbfjneiaaGreatDoor.Ct
open Go Go.RowKit Go.Shelf
attribute [local go_sem] Oper.semAt_some
set_option maxRecDepth 100000 in
set_option maxHeartbeats 2000000 in
theorem copyInts_any (m : Nat → Int) (n : Nat) (p : Option Addr) (c : Nat) (w : World) (hn : n ≤ 1000000) (h : FnIn w m n p) :
    Calls Tryz.prog 7 #[.slice p n c] w fun e w' => (∃ q d, e = .returned (.slice q n d) ∧ FnIn w' m n q) ∧ Below w.heap.size w w' := by
  obtain ⟨i0, hi0, hz0, hz1, hz2⟩ := info_parts infoInt
  have hl : (seqV m n).length = n := by simp [seqV]
  cases p with
  | none =>
    obtain rfl : n = 0 := by
      rcases h with h | ⟨b, o, e, -⟩
      · exact h
      · cases e
    go_enter Tryz.func7, Tryz.ntmps7
    go_wp2_with fail
    go_ret
    exact ⟨⟨_, _, rfl, .inl rfl⟩, Below.refl _ _⟩
  | some ad =>
    have hcell : ∀ j u, (seqV m n)[j]? = some u → w.cell? (ad.add j) = some u := fun j u hj => by
      unfold seqV at hj
      rw [List.getElem?_map] at hj
      obtain ⟨x, hx, rfl⟩ := Option.map_eq_some_iff.1 hj
      obtain ⟨hj', rfl⟩ := List.getElem?_eq_some_iff.1 hx
      have hjn : j < n := by simpa using hj'
      obtain ⟨b, o, e, hi⟩ := h.resolve_left (by omega)
      cases e
      rw [add_plain]
      have := hi j hjn
      simpa using this
    go_enter Tryz.func7, Tryz.ntmps7
    go_wp2_with (at_builtin; refine wpList_append_own _ rfl _ _ 29 rfl w.heap.size 3 i0 (.int .i64 0) 1 8 Tryz.underlying29 hi0 hz0 hz1 hz2 rfl (by decide) _ 0 [] rfl (World.ownsRow_nil _ _ _ _) ad n c (seqV m n) rfl (by rw [hl]; simp) hcell (by intro u hu; obtain ⟨x, _, rfl⟩ := List.mem_map.1 hu; rfl) (by unfold maxLen; omega) (by omega) (Nat.le_refl _) ?_; intro v' w1 hown' hgrow _)
    have HO : OwnF w.heap.size w1 v' m n := by
      unfold OwnF
      simpa using hown'
    have hB := (Below.refl w.heap.size w).grown hgrow (Nat.le_refl _) (fun k hk => by cases hk)
    obtain ⟨q, d, rfl, hf⟩ := HO.in_
    go_ret
    exact ⟨⟨q, d, rfl, hf⟩, hB⟩
set_option maxRecDepth 100000 in
set_option maxHeartbeats 2000000 in
theorem sameSpans_yes (m : Nat → Int × Int) (n : Nat) (p1 p2 : Option Addr) (c1 c2 : Nat) (w : World) (hn : n ≤ 1000000) (h1 : SpnIn w m n p1) (h2 : SpnIn w m n p2) :
    Calls Tryz.prog 17 #[.slice p1 n c1, .slice p2 n c2] w fun e w' => e = .returned (.bool true) ∧ Below w.heap.size w w' := by
  have H1 := Lib.hid h1
  have H2 := Lib.hid h2
  clear h1 h2
  go_enter Tryz.func17, Tryz.ntmps17
  go_wp2_with fail
  go_loopw [4, 5] (fun s i wr => ∃ (k : Nat) (v : Value), k ≤ n ∧ s = v ∧ i = .int .i64 (k : Int) ∧ Hid (Below w.heap.size w wr)) (fun _ i _ => n - (intOf i).toNat)
  case atStart => exact ⟨0, _, Nat.zero_le _, rfl, rfl, Lib.hid (Below.refl _ _)⟩
  case round =>
    obtain ⟨k, v, hk, rfl, rfl, HB⟩ := hrel
    by_cases hlt : k < n
    · have hki : (k : Int) < n := by omega
      have HK := Lib.hid hlt
      obtain ⟨b1, o1, rfl, x1⟩ := (H1.out.below HB.out).resolve_left (by omega)
      obtain ⟨b2, o2, rfl, x2⟩ := (H2.out.below HB.out).resolve_left (by omega)
      obtain ⟨y1, u1⟩ := x1 k hlt
      obtain ⟨y2, u2⟩ := x2 k hlt
      have z1 := cell_lt y1
      have z2 := cell_lt y2
      have w1 : IntKind.i64.wrap ((k : Int) + 1) = (k : Int) + 1 := IntWalk.i64_in _ (by omega)
      obtain ⟨⟨ma, mb⟩, hm⟩ : ∃ r, r = m k := ⟨_, rfl⟩
      rw [← hm] at y1 u1 y2 u2
      dsimp only at y1 u1 y2 u2
      clear x1 x2 hlt hm
      go_upto_region 6 with fail
      go_quiet (fail)
      go_wp2_with fail
      go_roundw
      case rel => exact ⟨k + 1, _, HK.out, rfl, by simp, Lib.hid (below_drewN HB.out _)⟩
      case measure => have := HK.out; simp [intOf]; omega
    · have hki : ¬ ((k : Int) < n) := by omega
      go_wp2_with fail
      go_ret
      exact ⟨rfl, HB.out⟩
end Go.Proofs.YtlelamjbfjneiaaGreatDoor.Ct
namespace Go.Proofs.YtlelamjbfjneiaaGreatDoor.Ct
open Go Go.RowKit Go.Shelf
theorem obs_zero {c : Cnt} {V : Wd.Wld} {a b s : Int} (h : (obsE c V a b s).2 = 0) : cntB c = true ∧ (Wd.shownE V a s).e = 0 ∧ (Wd.shownE V b s).e = 0 ∧ a ≠ b ∧ meetB c s = true ∧ (obsE c V a b s).1 = shownS c V.seed s ((Wd.shownE V a s).v - (Wd.shownE V b s).v) := by
  unfold obsE at h ⊢
  by_cases h1 : cntB c = true
  · rw [if_pos h1] at h ⊢
    by_cases h2 : (Wd.shownE V a s).e = 0
    · rw [if_pos h2] at h ⊢
      by_cases h3 : (Wd.shownE V b s).e = 0
      · rw [if_pos h3] at h ⊢
        by_cases h4 : a = b
        · rw [if_pos h4] at h; cases h
        · rw [if_neg h4] at h ⊢
          have h5 : showErr c s ((Wd.shownE V a s).v - (Wd.shownE V b s).v) = 0 := h
          refine ⟨h1, h2, h3, h4, ?_, if_pos h5⟩
          unfold showErr at h5
          rw [if_pos h1] at h5
          by_cases h6 : meetB c s = true
          · exact h6
          · rw [if_neg h6] at h5; cases h5
      · rw [if_neg h3] at h; exact absurd h h3
    · rw [if_neg h2] at h; exact absurd h h2
  · rw [if_neg h1] at h; cases h
theorem shown_find {V : Wd.Wld} {k s : Int} (h : (Wd.shownE V k s).e = 0) : Wd.findErr V k [s] = 0 ∧ (Wd.shownE V k s).v = Wd.phaseS V.seed k (Wd.clkOf V k) (Wd.roomOf V k) s + Wd.whiteS V.seed k (Wd.clkOf V k) s := by
  have hr : Wd.runErr V k s = 0 := by
    by_cases hr : Wd.runErr V k s = 0
    · exact hr
    · unfold Wd.shownE at h; rw [if_neg hr] at h; exact absurd h hr
  refine ⟨(Wd.runErr_zero hr).1, ?_⟩
  unfold Wd.shownE
  rw [if_pos hr]
  rfl
theorem find_both {V : Wd.Wld} {k s t : Int} (h1 : Wd.findErr V k [s] = 0) (h2 : Wd.findErr V k [t] = 0) : Wd.findErr V k [s, t] = 0 := by
  obtain ⟨a1, a2, a3⟩ := Wd.findErr_zero h1
  obtain ⟨-, -, b3⟩ := Wd.findErr_zero h2
  unfold Wd.findErr
  rw [if_pos a1, if_pos a2, if_pos]
  simp only [Wd.secsOk, List.all_cons, List.all_nil, Bool.and_true] at a3 b3 ⊢
  rw [a3, b3]; rfl
/-- between two seconds what is shown of a clock changes by its growth and its noise -/
theorem grows {V : Wd.Wld} {k s t : Int} (hs : (Wd.shownE V k s).e = 0) (ht : (Wd.shownE V k t).e = 0) (hst : s ≤ t) : (Wd.growthE V k s t).e = 0 ∧ (Wd.growthE V k s t).a - 2 * (Wd.clkOf V k).white ≤ (Wd.shownE V k t).v - (Wd.shownE V k s).v ∧ (Wd.shownE V k t).v - (Wd.shownE V k s).v ≤ (Wd.growthE V k s t).b + 2 * (Wd.clkOf V k).white := by
  obtain ⟨f1, e1⟩ := shown_find hs
  obtain ⟨f2, e2⟩ := shown_find ht
  have al := Wd.allowed_find f1
  have w1 := Wd.white_bd V.seed k al.cin s
  have w2 := Wd.white_bd V.seed k al.cin t
  have hge : Wd.growErr V k s t = 0 := by
    unfold Wd.growErr
    rw [if_pos (find_both f1 f2), if_neg (by omega)]
  have hg : (Wd.growthE V k s t).e = 0 := by unfold Wd.growthE; rw [if_pos hge]
  have hG := (Wd.holds_growth V V.seed k s t).ok hg
  have hw : Wd.reseed V V.seed = V := rfl
  rw [hw] at hG
  have p1 : (Wd.phaseE V k s).v = Wd.phaseS V.seed k (Wd.clkOf V k) (Wd.roomOf V k) s := by unfold Wd.phaseE; rw [if_pos f1]
  have p2 : (Wd.phaseE V k t).v = Wd.phaseS V.seed k (Wd.clkOf V k) (Wd.roomOf V k) t := by unfold Wd.phaseE; rw [if_pos f2]
  rw [p1, p2] at hG
  obtain ⟨-, g1, g2, -, -⟩ := hG
  rw [e1, e2]
  exact ⟨hg, by omega, by omega⟩
/-- what Watch measured: the seconds, and what they say of step -/
structure Meas (c : Cnt) (V : Wd.Wld) (a b from_ step : Int) (n : Nat) : Prop where
  cnt : cntB c = true
  ne : a ≠ b
  sec : ∀ i : Nat, i < n → watS from_ (stW step) i = from_ + (i : Int) * step ∧ 0 ≤ (i : Int) * step ∧ (i : Int) * step ≤ 1000000 ∧ 0 ≤ from_ + (i : Int) * step ∧ from_ + (i : Int) * step ≤ 1000000
  one : 1 ≤ step
  ok : ∀ i : Nat, i < n → (Wd.shownE V a (from_ + (i : Int) * step)).e = 0 ∧ (Wd.shownE V b (from_ + (i : Int) * step)).e = 0 ∧ meetB c (from_ + (i : Int) * step) = true ∧
    watchM c V a b from_ step i = shownS c V.seed (from_ + (i : Int) * step) ((Wd.shownE V a (from_ + (i : Int) * step)).v - (Wd.shownE V b (from_ + (i : Int) * step)).v)
theorem meas_of {c : Cnt} {V : Wd.Wld} {a b from_ step : Int} {n : Nat} (hf : IntKind.i64.wrap from_ = from_) (hn : 1 ≤ n) (h : watchErr c V a b from_ step n = 0) : Meas c V a b from_ step n := by
  unfold watchErr at h
  by_cases h1 : cntB c = true
  · rw [if_pos h1] at h
    by_cases h2 : step < 1
    · rw [if_pos h2] at h; cases h
    · rw [if_neg h2] at h
      by_cases h3 : 0 ≤ (n : Int) ∧ (n : Int) ≤ 2000
      · rw [if_pos h3, Int.toNat_natCast] at h
        have hz := firstE_zero h
        have ob : ∀ i, i < n → _ := fun i hi => obs_zero (hz i hi)
        have sc : ∀ i, i < n → 0 ≤ watS from_ (stW step) i ∧ watS from_ (stW step) i ≤ 1000000 := fun i hi => Wd.sec_of (shown_find (ob i hi).2.1).1
        have s0 : watS from_ (stW step) 0 = from_ := by unfold watS; rw [show from_ + ((0 : Nat) : Int) * stW step = from_ by simp]; exact hf
        have c0 := sc 0 (by omega)
        rw [s0] at c0
        have hst : 1 ≤ stW step ∧ stW step ≤ 1000001 := by unfold stW; split <;> omega
        have hstep : 1 < n → stW step = step ∧ step ≤ 1000000 := fun h => by
          have c1 := sc 1 h
          unfold watS at c1
          rw [show ((1 : Nat) : Int) * stW step = stW step by simp, IntWalk.i64_in _ (by omega)] at c1
          have : stW step ≤ 1000000 := by omega
          unfold stW at this ⊢
          split at this
          · omega
          · rename_i hh; rw [if_neg hh]; exact ⟨rfl, by omega⟩
        have sec : ∀ i : Nat, i < n → watS from_ (stW step) i = from_ + (i : Int) * step ∧ 0 ≤ (i : Int) * step ∧ (i : Int) * step ≤ 1000000 ∧ 0 ≤ from_ + (i : Int) * step ∧ from_ + (i : Int) * step ≤ 1000000 := fun i hi => by
          by_cases e : i = 0
          · subst e
            rw [s0, show from_ + ((0 : Nat) : Int) * step = from_ by simp, show ((0 : Nat) : Int) * step = 0 by simp]
            omega
          · obtain ⟨e1, e2⟩ := hstep (by omega)
            have q1 : 0 ≤ (i : Int) * step := Int.mul_nonneg (by omega) (by omega)
            have q2 : (i : Int) * step ≤ 2000 * step := Int.mul_le_mul_of_nonneg_right (by omega) (by omega)
            have ci := sc i hi
            have ei : watS from_ (stW step) i = from_ + (i : Int) * step := by unfold watS; rw [e1]; exact IntWalk.i64_in _ (by omega)
            rw [ei] at ci
            exact ⟨ei, q1, by omega, ci.1, ci.2⟩
        refine ⟨h1, (ob 0 (by omega)).2.2.2.1, sec, by omega, fun i hi => ?_⟩
        have o := ob i hi
        have e := (sec i hi).1
        unfold watchM
        rw [e] at o ⊢
        exact ⟨o.2.1, o.2.2.1, o.2.2.2.2.1, o.2.2.2.2.2⟩
      · rw [if_neg h3] at h; cases h
  · rw [if_neg h1] at h; cases h
/-- the true difference at measurement i -/
def trueD (V : Wd.Wld) (a b from_ step : Int) (i : Nat) : Int := (Wd.shownE V a (from_ + (i : Int) * step)).v - (Wd.shownE V b (from_ + (i : Int) * step)).v
theorem trueD_bd {c : Cnt} {V : Wd.Wld} {a b from_ step : Int} {n : Nat} (H : Meas c V a b from_ step n) {i : Nat} (hi : i < n) : (-400000000000000 < (Wd.shownE V a (from_ + (i : Int) * step)).v ∧ (Wd.shownE V a (from_ + (i : Int) * step)).v < 400000000000000) ∧ (-400000000000000 < (Wd.shownE V b (from_ + (i : Int) * step)).v ∧ (Wd.shownE V b (from_ + (i : Int) * step)).v < 400000000000000) := by
  obtain ⟨h1, h2, -, -⟩ := H.ok i hi
  obtain ⟨-, a1, a2, a3, a4⟩ := shown_small V a _ h1
  obtain ⟨-, b1, b2, b3, b4⟩ := shown_small V b _ h2
  omega
theorem fol_true {c : Cnt} {V : Wd.Wld} {a b from_ step : Int} {n : Nat} (H : Meas c V a b from_ step n) {f1 f2 : Int} (hf : f1 ≤ trueD V a b from_ step 0 ∧ trueD V a b from_ step 0 ≤ f2) (hb : -1000000000000000 ≤ f1 ∧ f2 ≤ 1000000000000000) :
    ∀ i, i < n → (folS c V a b from_ step (watchM c V a b from_ step) f1 f2 i).2 = 8 ∨ (folS c V a b from_ step (watchM c V a b from_ step) f1 f2 i).2 = 0 ∧ (folS c V a b from_ step (watchM c V a b from_ step) f1 f2 i).1.1 ≤ trueD V a b from_ step i ∧ trueD V a b from_ step i ≤ (folS c V a b from_ step (watchM c V a b from_ step) f1 f2 i).1.2
  | 0, hi => by
    have hm := (H.ok 0 hi).2.2.2
    have hp := holds_plain (cntB_in H.cnt) V.seed (from_ + ((0 : Nat) : Int) * step) (trueD V a b from_ step 0) f1 f2 hf hb.1 hb.2
    rw [show shownS c V.seed (from_ + ((0 : Nat) : Int) * step) (trueD V a b from_ step 0) = watchM c V a b from_ step 0 from hm.symm] at hp
    show (resS c (watchM c V a b from_ step 0) f1 f2).2 = 8 ∨ (resS c (watchM c V a b from_ step 0) f1 f2).2 = 0 ∧ (resS c (watchM c V a b from_ step 0) f1 f2).1.1 ≤ _ ∧ _ ≤ (resS c (watchM c V a b from_ step 0) f1 f2).1.2
    rcases hp with h | ⟨x, y, e, q1, q2, -, -⟩
    · exact .inl h
    · rw [e]; exact .inr ⟨rfl, q1, q2⟩
  | i + 1, hi => by
    have ih := fol_true H hf hb i (by omega)
    have e1 : folS c V a b from_ step (watchM c V a b from_ step) f1 f2 (i + 1) = if (folS c V a b from_ step (watchM c V a b from_ step) f1 f2 i).2 = 0 then
      (if (widE V a b (from_ + (i : Int) * step) (from_ + ((i + 1 : Nat) : Int) * step) (folS c V a b from_ step (watchM c V a b from_ step) f1 f2 i).1.1 (folS c V a b from_ step (watchM c V a b from_ step) f1 f2 i).1.2).2 = 0 then
        resS c (watchM c V a b from_ step (i + 1)) (widE V a b (from_ + (i : Int) * step) (from_ + ((i + 1 : Nat) : Int) * step) (folS c V a b from_ step (watchM c V a b from_ step) f1 f2 i).1.1 (folS c V a b from_ step (watchM c V a b from_ step) f1 f2 i).1.2).1.1 (widE V a b (from_ + (i : Int) * step) (from_ + ((i + 1 : Nat) : Int) * step) (folS c V a b from_ step (watchM c V a b from_ step) f1 f2 i).1.1 (folS c V a b from_ step (watchM c V a b from_ step) f1 f2 i).1.2).1.2
      else ((0, 0), (widE V a b (from_ + (i : Int) * step) (from_ + ((i + 1 : Nat) : Int) * step) (folS c V a b from_ step (watchM c V a b from_ step) f1 f2 i).1.1 (folS c V a b from_ step (watchM c V a b from_ step) f1 f2 i).1.2).2))
      else folS c V a b from_ step (watchM c V a b from_ step) f1 f2 i := rfl
    rw [e1]
    rcases ih with h8 | ⟨h0, q1, q2⟩
    · rw [if_neg (by rw [h8]; decide)]; exact .inl h8
    · rw [if_pos h0]
      obtain ⟨o1, o2, -, -⟩ := H.ok i (by omega)
      obtain ⟨o3, o4, -, hm⟩ := H.ok (i + 1) hi
      have hle : from_ + (i : Int) * step ≤ from_ + ((i + 1 : Nat) : Int) * step := by
        have e : ((i + 1 : Nat) : Int) * step = (i : Int) * step + step := by rw [Int.natCast_add, Int.add_mul]; simp
        have := H.one
        omega
      obtain ⟨ga, ga1, ga2⟩ := grows o1 o3 hle
      obtain ⟨gb, gb1, gb2⟩ := grows o2 o4 hle
      obtain ⟨⟨d1, d2⟩, d3, d4⟩ := trueD_bd H hi
      have ew : ∀ u v, widE V a b (from_ + (i : Int) * step) (from_ + ((i + 1 : Nat) : Int) * step) u v = ((max (u + (Wd.growthE V a (from_ + (i : Int) * step) (from_ + ((i + 1 : Nat) : Int) * step)).a - (Wd.growthE V b (from_ + (i : Int) * step) (from_ + ((i + 1 : Nat) : Int) * step)).b - noiseS V a b) (-1000000000000000), min (v + (Wd.growthE V a (from_ + (i : Int) * step) (from_ + ((i + 1 : Nat) : Int) * step)).b - (Wd.growthE V b (from_ + (i : Int) * step) (from_ + ((i + 1 : Nat) : Int) * step)).a + noiseS V a b) 1000000000000000), 0) := fun u v => by
        unfold widE; rw [if_pos ga, if_pos gb]
      rw [ew, if_pos rfl]
      dsimp only
      have hnz : noiseS V a b = 2 * ((Wd.clkOf V a).white + (Wd.clkOf V b).white) := rfl
      have hd : trueD V a b from_ step (i + 1) = (Wd.shownE V a (from_ + ((i + 1 : Nat) : Int) * step)).v - (Wd.shownE V b (from_ + ((i + 1 : Nat) : Int) * step)).v := rfl
      have hd0 : trueD V a b from_ step i = (Wd.shownE V a (from_ + (i : Int) * step)).v - (Wd.shownE V b (from_ + (i : Int) * step)).v := rfl
      rw [hd0] at q1 q2
      have hp := fun lo hi' h1 h2 h3 => holds_plain (cntB_in H.cnt) V.seed (from_ + ((i + 1 : Nat) : Int) * step) (trueD V a b from_ step (i + 1)) lo hi' h1 h2 h3
      rw [show shownS c V.seed (from_ + ((i + 1 : Nat) : Int) * step) (trueD V a b from_ step (i + 1)) = watchM c V a b from_ step (i + 1) from hm.symm] at hp
      have := hp (max ((folS c V a b from_ step (watchM c V a b from_ step) f1 f2 i).1.1 + (Wd.growthE V a (from_ + (i : Int) * step) (from_ + ((i + 1 : Nat) : Int) * step)).a - (Wd.growthE V b (from_ + (i : Int) * step) (from_ + ((i + 1 : Nat) : Int) * step)).b - noiseS V a b) (-1000000000000000)) (min ((folS c V a b from_ step (watchM c V a b from_ step) f1 f2 i).1.2 + (Wd.growthE V a (from_ + (i : Int) * step) (from_ + ((i + 1 : Nat) : Int) * step)).b - (Wd.growthE V b (from_ + (i : Int) * step) (from_ + ((i + 1 : Nat) : Int) * step)).a + noiseS V a b) 1000000000000000) (by rw [hd, hnz]; omega) (by omega) (by omega)
      rcases this with h | ⟨x, y, e, r1, r2, -, -⟩
      · exact .inl h
      · rw [e]; exact .inr ⟨rfl, r1, r2⟩
/-- Follow answers, or finds more than one turn -/
theorem fol_errs {c : Cnt} {V : Wd.Wld} {a b from_ step : Int} {n : Nat} (H : Meas c V a b from_ step n) (hn : 1 ≤ n ∧ n ≤ 2000) {f1 f2 : Int} (hf : f1 ≤ trueD V a b from_ step 0 ∧ trueD V a b from_ step 0 ≤ f2) (hb : -1000000000000000 ≤ f1 ∧ f2 ≤ 1000000000000000) :
    followErr c V a b from_ step (watchM c V a b from_ step) n f1 f2 = 8 ∨ followErr c V a b from_ step (watchM c V a b from_ step) n f1 f2 = 0 ∧ ∀ i, i < n → (folS c V a b from_ step (watchM c V a b from_ step) f1 f2 i).1.1 ≤ trueD V a b from_ step i ∧ trueD V a b from_ step i ≤ (folS c V a b from_ step (watchM c V a b from_ step) f1 f2 i).1.2 := by
  obtain ⟨o1, o2, o3, -⟩ := H.ok 0 (by omega)
  have e0 : from_ + ((0 : Nat) : Int) * step = from_ := by simp
  rw [e0] at o1 o2 o3
  have hp : pairErr c V a b from_ = 0 := by
    have k : ∀ k, (Wd.shownE V k from_).e = 0 → (Wd.phaseE V k from_).e = 0 := fun k hk => by unfold Wd.phaseE; rw [if_pos (shown_find hk).1]
    unfold pairErr
    rw [if_pos H.cnt, if_pos (k a o1), if_pos (k b o2), if_neg H.ne, if_pos o3]
  have hs : serErr c from_ step n = 0 := by
    have := H.one
    unfold serErr
    rw [if_neg (by omega), if_neg (by omega)]
    by_cases h1 : (n : Int) ≤ 1
    · rw [if_pos h1]
    · rw [if_neg h1]
      have hl := H.sec (n - 1) (by omega)
      have hq : step ≤ (1000000 - from_) / ((n : Int) - 1) := by
        refine (Int.le_ediv_iff_mul_le (by omega)).2 ?_
        have e : ((n - 1 : Nat) : Int) = (n : Int) - 1 := by omega
        rw [e] at hl
        rw [Int.mul_comm]
        omega
      rw [if_neg (by omega)]
      obtain ⟨-, -, o4, -⟩ := H.ok 1 (by omega)
      have e1 : from_ + ((1 : Nat) : Int) * step = from_ + step := by simp
      rw [e1] at o4
      have m0 := (meetB_yes o3).2
      have m1 := (meetB_yes o4).2
      have : step % c.d = 0 := by
        have : (from_ + step - from_) % c.d = 0 := by rw [Int.sub_emod, m0, m1]; simp
        rwa [show from_ + step - from_ = step by omega] at this
      rw [if_neg (by rw [this]; decide)]
  unfold followErr
  rw [if_pos hp, if_pos hs]
  by_cases h8 : ∃ i, i < n ∧ (folS c V a b from_ step (watchM c V a b from_ step) f1 f2 i).2 = 8
  · obtain ⟨i, hi, h⟩ := h8
    exact .inl ((fol_last (by rw [h]; decide) hi).trans h)
  · have all : ∀ i, i < n → (folS c V a b from_ step (watchM c V a b from_ step) f1 f2 i).2 = 0 ∧ _ := fun i hi => (fol_true H hf hb i hi).resolve_left (fun e => h8 ⟨i, hi, e⟩)
    refine .inr ⟨?_, fun i hi => (all i hi).2⟩
    obtain ⟨j, rfl⟩ : ∃ j, n = j + 1 := ⟨n - 1, by omega⟩
    exact (all j (by omega)).1
end Go.Proofs.YtlelamjbfjneiaaGreatDoor.Ct
namespace Go.Proofs.YtlelamjbfjneiaaGreatDoor.Ct
open Go Go.RowKit
/-- the reference's error of two clocks -/
def rpairErr (c : Cnt) (W : Wd.Wld) (a b s : Int) : Int :=
  if (obsE c W a b s).2 = 22 then (if (Wd.runsE W a s).e = 0 then (if (Wd.runsE W b s).e = 0 then (if a = b then 1 else if meetB c s = true then 0 else 21) else (Wd.runsE W b s).e) else (Wd.runsE W a s).e) else (obsE c W a b s).2
theorem runs_e (W : Wd.Wld) (k s : Int) : (Wd.runsE W k s).e = Wd.findErr W k [s] := by
  unfold Wd.runsE
  by_cases h : Wd.findErr W k [s] = 0
  · rw [if_pos h, h]
  · rw [if_neg h]
theorem phase_e (W : Wd.Wld) (k s : Int) : (Wd.phaseE W k s).e = Wd.findErr W k [s] := by
  unfold Wd.phaseE
  by_cases h : Wd.findErr W k [s] = 0
  · rw [if_pos h, h]
  · rw [if_neg h]
theorem shown_e (W : Wd.Wld) (k s : Int) : (Wd.shownE W k s).e = Wd.runErr W k s := by
  unfold Wd.shownE
  by_cases h : Wd.runErr W k s = 0
  · rw [if_pos h, h]
  · rw [if_neg h]
theorem run_e (W : Wd.Wld) (k s : Int) : Wd.runErr W k s = Wd.findErr W k [s] ∨ Wd.findErr W k [s] = 0 ∧ Wd.runErr W k s = 22 := by
  unfold Wd.runErr
  by_cases h : Wd.findErr W k [s] = 0
  · rw [if_pos h, h]
    by_cases h2 : Wd.runsS (Wd.clkOf W k) s = true
    · rw [if_pos h2]; exact .inl rfl
    · rw [if_neg h2]; exact .inr ⟨rfl, rfl⟩
  · rw [if_neg h]; exact .inl rfl
theorem show_e {c : Cnt} (hc : cntB c = true) (s d : Int) (hd : -1000000000000000 ≤ d ∧ d ≤ 1000000000000000) : showErr c s d = if meetB c s = true then 0 else 21 := by
  unfold showErr
  simp only [hc, if_true]
  by_cases h : meetB c s = true
  · simp [h, hd.1, hd.2]
  · simp [h]
theorem rpair_same (c : Cnt) (W : Wd.Wld) (a b s : Int) : rpairErr c W a b s = pairErr c W a b s := by
  unfold rpairErr pairErr
  rw [phase_e, phase_e, runs_e, runs_e]
  by_cases hc : cntB c = true
  · rw [if_pos hc]
    have ha := run_e W a s
    have hb := run_e W b s
    by_cases h1 : Wd.runErr W a s = 0
    · have fa : Wd.findErr W a [s] = 0 := by omega
      have sa : (Wd.shownE W a s).e = 0 := by rw [shown_e]; exact h1
      rw [if_pos fa]
      by_cases h2 : Wd.runErr W b s = 0
      · have fb : Wd.findErr W b [s] = 0 := by omega
        have sb : (Wd.shownE W b s).e = 0 := by rw [shown_e]; exact h2
        rw [if_pos fb]
        have va := shown_small W a s sa
        have vb := shown_small W b s sb
        have e : (obsE c W a b s).2 = if a = b then 1 else if meetB c s = true then 0 else 21 := by
          unfold obsE
          rw [if_pos hc, if_pos sa, if_pos sb]
          by_cases h3 : a = b
          · rw [if_pos h3, if_pos h3]
          · rw [if_neg h3, if_neg h3]
            exact show_e hc s _ (by omega)
        rw [e, if_neg (show ¬ (if a = b then (1 : Int) else if meetB c s = true then 0 else 21) = 22 from by
          split
          · decide
          · split <;> decide)]
      · have e : (obsE c W a b s).2 = Wd.runErr W b s := by
          unfold obsE
          rw [if_pos hc, if_pos sa, if_neg (by rw [shown_e]; exact h2)]
          exact shown_e W b s
        rw [e]
        rcases hb with hb | ⟨hb, hb'⟩
        · rw [hb]
          have fb : ¬ Wd.findErr W b [s] = 0 := by omega
          rw [if_neg fb]
          split <;> rfl
        · rw [hb', if_pos rfl]
    · have e : (obsE c W a b s).2 = Wd.runErr W a s := by
        unfold obsE
        rw [if_pos hc, if_neg (by rw [shown_e]; exact h1)]
        exact shown_e W a s
      rw [e]
      rcases ha with ha | ⟨ha, ha'⟩
      · rw [ha]
        have fa : ¬ Wd.findErr W a [s] = 0 := by omega
        rw [if_neg fa]
        split <;> rfl
      · rw [ha', if_pos rfl]
  · have e : (obsE c W a b s).2 = 30 := by unfold obsE; rw [if_neg hc]
    rw [if_neg hc, e, if_neg (by decide)]
/-- the seconds of a series, one after the other -/
def nextOk (c : Cnt) (from_ step : Int) (i : Nat) : Prop := step ≤ 1000000 - (from_ + (i : Int) * step) ∧ meetB c (from_ + ((i + 1 : Nat) : Int) * step) = true
theorem succ_mul (i : Nat) (st : Int) : ((i + 1 : Nat) : Int) * st = (i : Int) * st + st := by rw [Int.natCast_add, Int.add_mul]; omega
theorem meet_parts {c : Cnt} {s : Int} : meetB c s = true ↔ 0 ≤ s ∧ s ≤ 1000000 ∧ s % c.d = 0 := by
  unfold meetB; simp [and_assoc]
theorem ser_yes {c : Cnt} {from_ step : Int} {n : Nat} (hm : meetB c from_ = true) (h1 : ¬ step < 1) (hn : n ≤ 2000) (h : ∀ i, i + 1 < n → nextOk c from_ step i) : serErr c from_ step n = 0 := by
  unfold serErr
  rw [if_neg h1, if_neg (by omega)]
  by_cases h2 : (n : Int) ≤ 1
  · rw [if_pos h2]
  · rw [if_neg h2]
    have hl := (h (n - 2) (by omega)).1
    have h0 := meet_parts.1 (h 0 (by omega)).2
    have hf := meet_parts.1 hm
    have e : ((n - 2 : Nat) : Int) * step + step = step * ((n : Int) - 1) := by
      rw [← succ_mul, Int.mul_comm]; congr 1; omega
    rw [if_neg (by
      have := (Int.le_ediv_iff_mul_le (show (0 : Int) < (n : Int) - 1 by omega)).2 (show step * ((n : Int) - 1) ≤ 1000000 - from_ by omega)
      omega), if_neg]
    rw [show from_ + ((0 + 1 : Nat) : Int) * step = from_ + step by simp] at h0
    have h3 := Int.emod_add_mul_ediv (from_ + step) c.d
    have h4 := Int.emod_add_mul_ediv from_ c.d
    have h5 : step = c.d * ((from_ + step) / c.d - from_ / c.d) := by rw [Int.mul_sub]; omega
    intro hne
    apply hne
    rw [h5]
    exact Int.mul_emod_right _ _
theorem ser_no {c : Cnt} {from_ step : Int} {n : Nat} (hm : meetB c from_ = true) (hn : n ≤ 2000) (_hd : 1 ≤ c.d) {i : Nat} (hi : i + 1 < n) (h1 : ¬ step < 1) (h : ¬ nextOk c from_ step i) : serErr c from_ step n = 21 := by
  unfold serErr
  rw [if_neg h1, if_neg (by omega), if_neg (by omega)]
  by_cases h3 : (1000000 - from_) / ((n : Int) - 1) < step
  · rw [if_pos h3]
  · rw [if_neg h3]
    by_cases h4 : step % c.d ≠ 0
    · rw [if_pos h4]
    · refine absurd ?_ h
      have hf := meet_parts.1 hm
      have e1 : step * ((n : Int) - 1) ≤ (1000000 - from_) / ((n : Int) - 1) * ((n : Int) - 1) := Int.mul_le_mul_of_nonneg_right (by omega) (by omega)
      have e2 : (1000000 - from_) / ((n : Int) - 1) * ((n : Int) - 1) ≤ 1000000 - from_ := Int.ediv_mul_le _ (by omega)
      have e3 : ((i + 1 : Nat) : Int) * step ≤ ((n : Int) - 1) * step := Int.mul_le_mul_of_nonneg_right (by omega) (by omega)
      have e4 : 0 ≤ (i : Int) * step := Int.mul_nonneg (by omega) (by omega)
      have e5 : ((n : Int) - 1) * step = step * ((n : Int) - 1) := Int.mul_comm _ _
      have e6 := succ_mul i step
      refine ⟨by omega, meet_parts.2 ⟨by omega, by omega, ?_⟩⟩
      have h5 : step = c.d * (step / c.d) := by have := Int.emod_add_mul_ediv step c.d; omega
      have h6 : from_ = c.d * (from_ / c.d) := by have := Int.emod_add_mul_ediv from_ c.d; omega
      have h7 : from_ + ((i + 1 : Nat) : Int) * step = c.d * (from_ / c.d + ((i + 1 : Nat) : Int) * (step / c.d)) := by
        rw [Int.mul_add, ← h6, Int.mul_left_comm, ← h5]
      rw [h7]
      exact Int.mul_emod_right _ _
/-- between two seconds of a series there is no error of growth -/
theorem wid_zero {c : Cnt} {W : Wd.Wld} {a b from_ step : Int} {n : Nat} (hp : pairErr c W a b from_ = 0) (hs : serErr c from_ step n = 0) {i : Nat} (hi : i + 1 < n) :
    (Wd.growthE W a (from_ + (i : Int) * step) (from_ + ((i + 1 : Nat) : Int) * step)).e = 0 ∧ (Wd.growthE W b (from_ + (i : Int) * step) (from_ + ((i + 1 : Nat) : Int) * step)).e = 0 := by
  obtain ⟨-, ha, hb, -, hm⟩ := pair_ok hp
  obtain ⟨h1, h2, h3⟩ := ser_ok (Wd.sec_of ha) hs
  have i1 := h3 i (by omega)
  have i2 := h3 (i + 1) hi
  have es := succ_mul i step
  have key : ∀ k, Wd.findErr W k [from_] = 0 → (Wd.growthE W k (from_ + (i : Int) * step) (from_ + ((i + 1 : Nat) : Int) * step)).e = 0 := fun k hk => by
    obtain ⟨a1, a2, -⟩ := Wd.findErr_zero hk
    have hge : Wd.growErr W k (from_ + (i : Int) * step) (from_ + ((i + 1 : Nat) : Int) * step) = 0 := by
      unfold Wd.growErr
      have hf : Wd.findErr W k [from_ + (i : Int) * step, from_ + ((i + 1 : Nat) : Int) * step] = 0 := by
        unfold Wd.findErr
        rw [if_pos a1, if_pos a2, if_pos]
        unfold Wd.secsOk Wd.inR
        simp only [List.all_cons, List.all_nil, Bool.and_true, Bool.and_eq_true, decide_eq_true_eq]
        omega
      rw [if_pos hf, if_neg (by omega)]
    unfold Wd.growthE
    rw [if_pos hge]
  exact ⟨key a ha, key b hb⟩
end Go.Proofs.YtlelamjbfjneiaaGreatDoor.Ct
