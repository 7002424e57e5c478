/- Layer 9 (calendar): a table at work (open). -/
import Derived.Test.YtgnfaemnehmgcaaGreatDoorQ05
import Derived.Maps.OwnOps
import Derived.Maps.Views
namespace Go.Proofs.YtgnfaemnehmgcaaGreatDoor.Cal
open Go Go.RowKit
attribute [local go_sem] Oper.semAt_some
theorem lawI : Maps.Keyed Tryz.prog 3 := Maps.int_keyed Tryz.underlying3
theorem zeroI (_w : World) : (zeroValue 3).run Tryz.prog _w = .ok (.int .i64 0) _w := by kernel_rfl
/-- a map that says the steps of days -/
def StM (w : World) (b : Nat) (f : Nat → Int × Int) (n : Nat) : Prop :=
  ∃ D : DataW Unit, w.ownsMap Tryz.prog 3 (plainElem Tryz.prog 3) b n D ∧ Maps.IsMap D ∧ ∀ d : Int, D.atKey (.int .i64 d) (.lit (.int .i64 0)) = .lit (.int .i64 (stepAt f n d))
theorem StM.kept {w w' : World} {b n : Nat} {f : Nat → Int × Int} {row : Option Nat} (h : StM w b f n) (hg : w.grownBy w' row) (hne : some b ≠ row) : StM w' b f n := by
  obtain ⟨D, h1, h2, h3⟩ := h
  exact ⟨D, h1.kept hg hne, h2, h3⟩
theorem Below.grownN {w w' : World} (h : Below w.heap.size w w') : w.grownBy w' none := ⟨h.os, h.tape, h.output, h.size, fun k hk _ => h.block k hk⟩
theorem StM.below {w w' : World} {b n : Nat} {f : Nat → Int × Int} (h : StM w b f n) (hb : Below w.heap.size w w') : StM w' b f n := h.kept (Below.grownN hb) (by simp)
theorem StM.put {w' : World} {b k : Nat} {f : Nat → Int × Int} {D : DataW Unit} (hm : Maps.IsMap D) (h : ∀ d : Int, D.atKey (.int .i64 d) (.lit (.int .i64 0)) = .lit (.int .i64 (stepAt f k d)))
    (ho : w'.ownsMap Tryz.prog 3 (plainElem Tryz.prog 3) b (k + 1) (D.put (.int .i64 (f k).1) (.lit (.int .i64 (f k).2)))) : StM w' b f (k + 1) := by
  refine ⟨_, ho, ?_, fun d => ?_⟩
  · obtain ⟨es, rfl⟩ := hm
    exact ⟨_, rfl⟩
  · by_cases e : (f k).1 = d
    · subst e
      rw [Maps.atKey_put_same hm (by simp [WideAt.IsKeyLit]), stepAt, if_pos rfl]
    · rw [Maps.atKey_put_other (fun q => e (by cases q; rfl)), h, stepAt, if_neg e]
theorem StM.look {w : World} {b n : Nat} {f : Nat → Int × Int} (h : StM w b f n) (d : Int) (hd : (Lit.int .i64 d).wf = true) :
    (Instr.lookup 130 (.map (some b)) (.int .i64 d) false).run Tryz.prog w = .ok (.int .i64 (stepAt f n d)) w := by
  obtain ⟨D, h1, h2, h3⟩ := h
  obtain ⟨c, hrun, hat, _⟩ := h1.lookup_int lawI Tryz.underlying130 Tryz.underlying3 (zeroI _) (Maps.keyOf_int_mk Tryz.underlying3 hd)
  rw [h3] at hat
  have e : stepAt f n d = c := by
    generalize stepAt f n d = s at hat
    cases hat; rfl
  rw [e]; exact hrun
/-- a table at work in a box -/
structure WBox (w : World) (a : Nat) (b u : Int) (n c : Nat) (p : Option Addr) (mb : Nat) : Prop extends TBox w a b u n c p where
  c3 : w.cell? ⟨a, 3, none⟩ = some (.map (some mb))
theorem WBox.below {w w' : World} {a : Nat} {b u : Int} {n c : Nat} {p : Option Addr} {mb : Nat} (h : WBox w a b u n c p mb) (hb : Below w.heap.size w w') : WBox w' a b u n c p mb := ⟨h.toTBox.below hb, cell_below hb h.c3⟩
theorem grown_cell {w w' : World} {b o : Nat} {v : Value} {r : Nat} (hg : w.grownBy w' (some r)) (hc : w.cell? ⟨b, o, none⟩ = some v) (hne : b ≠ r) : w'.cell? ⟨b, o, none⟩ = some v :=
  (World.cell?_of_block (w := w) (a := ⟨b, o, none⟩) (hg.block b (cell_lt hc) (fun e => hne (Option.some.inj e)))).trans hc
theorem grown_refl (w : World) (r : Option Nat) : w.grownBy w r := ⟨rfl, rfl, rfl, Nat.le_refl _, fun _ _ _ => rfl⟩
theorem grown_trans {a b c : World} {r : Option Nat} (h : a.grownBy b r) (k : b.grownBy c r) : a.grownBy c r :=
  ⟨k.os.trans h.os, k.tape.trans h.tape, k.output.trans h.output, Nat.le_trans h.size k.size, fun i hi hr => (k.block i (Nat.lt_of_lt_of_le hi h.size) hr).trans (h.block i hi hr)⟩
theorem grown_below {a b c : World} {r : Option Nat} (h : a.grownBy b r) (k : Below b.heap.size b c) : a.grownBy c r :=
  grown_trans h ⟨k.os, k.tape, k.output, k.size, fun i hi _ => k.block i hi⟩
theorem wf_big {z : Int} (h : -9000000000000000000 ≤ z ∧ z ≤ 9000000000000000000) : (Lit.int .i64 z).wf = true := WalkArith.wf_i64 (by omega)
theorem grown_frozen {w w' : World} {b o r : Nat} (hg : w.grownBy w' (some r)) (hb : b < w.heap.size) (hne : b ≠ r) (hf : w.frozen? ⟨b, o, none⟩ = false) : w'.frozen? ⟨b, o, none⟩ = false := by
  have := hg.block b hb (fun e => hne (Option.some.inj e))
  unfold World.frozen? at *
  simp only [this] at *
  exact hf
theorem grown_set (W : World) (b o : Nat) (v : Value) : W.grownBy (W.setCell ⟨b, o, none⟩ v) (some b) :=
  ⟨rfl, rfl, rfl, by simp, fun k _ hk => Below.heap_setCell _ _ _ k (fun e => hk (by rw [e]))⟩
/-- a result's cells -/
structure Res4 (w : World) (a : Nat) : Prop where
  r0 : ∃ v, w.cell? ⟨a, 0, none⟩ = some v
  r1 : ∃ v, w.cell? ⟨a, 1, none⟩ = some v
  r2 : ∃ v, w.cell? ⟨a, 2, none⟩ = some v
  r3 : ∃ v, w.cell? ⟨a, 3, none⟩ = some v
  z : ∀ i, w.frozen? ⟨a, i, none⟩ = false
theorem Res4.lt {w : World} {a : Nat} (h : Res4 w a) : a < w.heap.size := let ⟨_, e⟩ := h.r0; cell_lt e
theorem Res4.new (w : World) (v0 v1 v2 v3 : Value) (t : TypeId) : Res4 (w.alloc (.cells #[v0, v1, v2, v3] t)) w.heap.size := ⟨⟨v0, by simp⟩, ⟨v1, by simp⟩, ⟨v2, by simp⟩, ⟨v3, by simp⟩, fun i => by simp⟩
theorem Res4.below {w w' : World} {a : Nat} (h : Res4 w a) (hb : Below w.heap.size w w') : Res4 w' a :=
  ⟨h.r0.imp fun _ e => cell_below hb e, h.r1.imp fun _ e => cell_below hb e, h.r2.imp fun _ e => cell_below hb e, h.r3.imp fun _ e => cell_below hb e, fun i => (hb.frozen (p := ⟨a, i, none⟩) h.lt).trans (h.z i)⟩
theorem Res4.grown {w w' : World} {a r : Nat} (h : Res4 w a) (hg : w.grownBy w' (some r)) (hne : a ≠ r) : Res4 w' a :=
  ⟨h.r0.imp fun _ e => grown_cell hg e hne, h.r1.imp fun _ e => grown_cell hg e hne, h.r2.imp fun _ e => grown_cell hg e hne, h.r3.imp fun _ e => grown_cell hg e hne, fun i => grown_frozen hg h.lt hne (h.z i)⟩
set_option maxHeartbeats 1000000 in
theorem open_ok (b u : Int) (n c : Nat) (p : Option Addr) (f : Nat → Int × Int) (w : World) (hw : Mon w) (hs : LpIn w f n p) (hn : n ≤ 1000000000000) (ht : tabE b u n f = 0) :
    Calls Tryz.prog 82 #[.agg #[.int .i64 b, .slice p n c, .int .i64 u]] w fun e w' => ∃ mb, e = .returned (.tuple #[.agg #[.int .i64 b, .slice p n c, .int .i64 u, .map (some mb)], .int .i64 0]) ∧ StM w' mb f n ∧ Below w.heap.size w w' := by
  have A1 := below_alloc (Below.refl w.heap.size w) (.cells #[.int .i64 b, .slice p n c, .int .i64 u] 24)
  have A2 := below_alloc A1 (.cells #[.int .i64 0, .slice none 0 0, .int .i64 0, .map none] 132)
  have HT1 := Lib.hid ((TBox.new w b u n c p 24).below (below_alloc (Below.refl _ _) (.cells #[.int .i64 0, .slice none 0 0, .int .i64 0, .map none] 132)))
  have hr0 := Res4.new (w.alloc (.cells #[.int .i64 b, .slice p n c, .int .i64 u] 24)) (.int .i64 0) (.slice none 0 0) (.int .i64 0) (.map none) 132
  rw [show (w.alloc (.cells #[.int .i64 b, .slice p n c, .int .i64 u] 24)).heap.size = w.heap.size + 1 by simp] at hr0
  have A2 := Lib.hid A2
  have HW1 := Lib.hid (hw.below A2.out)
  have HS1 := Lib.hid (hs.below A2.out)
  have HR := Lib.hid hr0
  have HT := Lib.hid ht
  have HSW := Lib.hid hs
  clear A1 hr0 hw hs ht
  have hmm := @run_makeMap Tryz.prog
  go_enter Tryz.func82, Tryz.ntmps82
  go_upto_region 1 with fail
  generalize (w.alloc (.cells #[.int .i64 b, .slice p n c, .int .i64 u] 24)).alloc (.cells #[.int .i64 0, .slice none 0 0, .int .i64 0, .map none] 132) = W1 at *
  obtain ⟨x0, x1, x2⟩ := HT1.out
  have zx := cell_lt x0
  have HCK := Lib.hid (Check_any b u n c p f W1 HW1.out HS1.out hn)
  rw [HT.out] at HCK
  go_upto_region 4 with (go_at_call 33; refine HCK.out.mono ?_; rintro e w2 ⟨rfl, hb2⟩; have HB2 := Lib.hid hb2; clear hb2)
  clear x0 x1 x2 zx
  obtain ⟨x0, x1, x2⟩ := HT1.out.below HB2.out
  have zx := cell_lt x0
  go_upto_region 5 with fail
  clear x0 x1 x2 zx
  have b5 := below_alloc (below_alloc (Below.refl w2.heap.size w2) (.map #[] 0)) (.cells #[.int .i64 b, .slice p n c, .int .i64 u, .map (some w2.heap.size)] 132)
  have HM5 := Lib.hid (show StM ((w2.alloc (.map #[] 0)).alloc (.cells #[.int .i64 b, .slice p n c, .int .i64 u, .map (some w2.heap.size)] 132)) w2.heap.size f 0 from ⟨_, (World.ownsMap_made w2 Tryz.prog 3 (plainElem Tryz.prog 3)).alloc _, Maps.isMap_empty, fun d => rfl⟩)
  have HWB := Lib.hid (show WBox ((w2.alloc (.map #[] 0)).alloc (.cells #[.int .i64 b, .slice p n c, .int .i64 u, .map (some w2.heap.size)] 132)) (w2.heap.size + 1) b u n c p w2.heap.size from ⟨⟨by simp, by simp, by simp⟩, by simp⟩)
  have hz5 : ((w2.alloc (.map #[] 0)).alloc (.cells #[.int .i64 b, .slice p n c, .int .i64 u, .map (some w2.heap.size)] 132)).heap.size = w2.heap.size + 1 + 1 := by simp
  have HB5 := Lib.hid (And.intro b5 hz5)
  have HT5 := Lib.hid ((HT1.out.below HB2.out).below b5)
  have HS5 := Lib.hid ((HS1.out.below HB2.out).below b5)
  have HR5 := Lib.hid ((HR.out.below HB2.out).below b5)
  clear b5 hz5
  generalize (w2.alloc (.map #[] 0)).alloc (.cells #[.int .i64 b, .slice p n c, .int .i64 u, .map (some w2.heap.size)] 132) = W5 at *
  obtain ⟨x0, x1, x2⟩ := HT5.out
  have zx := cell_lt x0
  go_wp2_with fail
  clear x0 x1 x2 zx
  have HOK := Lib.hid (tab_ok HT.out)
  have HSZ := Lib.hid (show w.heap.size + 1 < w2.heap.size from Nat.lt_of_lt_of_le HR.out.lt HB2.out.size)
  have HA5 := Lib.hid (bt (bt A2.out HB2.out) HB5.out.1)
  generalize hmb : w2.heap.size = mb at *
  have HMB := Lib.hid hmb
  clear hmb
  go_loopw [7, 20] (fun s7 s20 wr => ∃ (k : Nat) (v : Value), k ≤ n ∧ s7 = v ∧ s20 = .int .i64 (k : Int) ∧ Hid (W5.grownBy wr (some mb)) ∧ Hid (StM wr mb f k)) (fun _ s _ => n - (intOf s).toNat)
  case atStart => exact ⟨0, _, Nat.zero_le _, rfl, rfl, Lib.hid (grown_refl _ _), HM5⟩
  case round =>
    obtain ⟨k, v, hk, rfl, rfl, HG, HM⟩ := hrel
    by_cases hlt : k < n
    · have hki : (k : Int) < n := by omega
      have hnn := HOK.out.n1
      have vk : IntKind.i64.wrap ((k : Int) + 1) = (k : Int) + 1 := IntWalk.i64_in _ (by omega)
      obtain ⟨bb, oo, rfl, hsi⟩ := HS5.out.resolve_left (by omega)
      obtain ⟨b0, o0, e0, hs0⟩ := HSW.out.resolve_left (by omega)
      cases e0
      have hbb : bb < w.heap.size := cell_lt (hs0 k hlt).1
      have hsz := HSZ.out
      have y0 := grown_cell HG.out (hsi k hlt).1 (by omega)
      have y1 := grown_cell HG.out (hsi k hlt).2 (by omega)
      have zy := cell_lt y0
      have w3 := grown_cell HG.out HWB.out.c3 (by omega)
      have zw := cell_lt w3
      have hb1 := below_alloc (Below.refl wr.heap.size wr) (.cells #[.int .i64 (f k).1, .int .i64 (f k).2] 33)
      have q0 : (wr.alloc (.cells #[.int .i64 (f k).1, .int .i64 (f k).2] 33)).cell? ⟨wr.heap.size, 0, none⟩ = some (.int .i64 (f k).1) := by simp
      have q1 : (wr.alloc (.cells #[.int .i64 (f k).1, .int .i64 (f k).2] 33)).cell? ⟨wr.heap.size, 1, none⟩ = some (.int .i64 (f k).2) := by simp
      have u3 := cell_below hb1 w3
      have HB1 := Lib.hid hb1
      have HK := Lib.hid hlt
      obtain ⟨D, hown, hmap, hat⟩ := HM.out
      have HOWN := Lib.hid (hown.alloc (.cells #[.int .i64 (f k).1, .int .i64 (f k).2] 33))
      have HSTEP := Lib.hid (fun (w' : World) (h : w'.ownsMap Tryz.prog 3 (plainElem Tryz.prog 3) mb (k + 1) (D.put (.int .i64 (f k).1) (.lit (.int .i64 (f k).2)))) => StM.put hmap hat h)
      have hd := HOK.out.d1 k hlt
      have hst := HOK.out.s k hlt
      have hu2 := HOK.out.u2
      have WF1 := Lib.hid (wf_big (z := (f k).1) (by omega))
      have WF2 := Lib.hid (wf_big (z := (f k).2) (by omega))
      clear hlt hsi hs0 hb1 hown hat hd hst hu2 hnn hbb hsz w3 zw
      generalize (f k).1 = dk at *
      generalize (f k).2 = sk at *
      go_upto_region 8 with fail
      generalize wr.alloc (.cells #[.int .i64 dk, .int .i64 sk] 33) = W6 at *
      have zq := cell_lt q0
      have zu := cell_lt u3
      go_wp2_with (at_mapUpdate; refine wpList_mapUpdate_own _ rfl _ _ _ 130 rfl 3 3 lawI Tryz.underlying130 _ mb k D rfl HOWN.out (by unfold maxLen; omega) _ _ _ rfl rfl (Maps.keyOf_int_mk Tryz.underlying3 WF1.out) _ [] (plainElem_int Tryz.underlying3 WF2.out) ?_; intro w7 hown7 hgrow7; have HOWN7 := Lib.hid hown7; have HG7 := Lib.hid hgrow7; clear hown7 hgrow7)
      go_roundw
      case rel => exact ⟨k + 1, _, HK.out, rfl, by simp, Lib.hid (grown_trans (grown_below HG.out HB1.out) HG7.out), Lib.hid (HSTEP.out _ HOWN7.out)⟩
      case measure => have := HK.out; simp [intOf]; omega
    · obtain rfl : k = n := by omega
      have hki : ¬ ((k : Int) < k) := by omega
      have hsz := HSZ.out
      have w0 := grown_cell HG.out HWB.out.c0 (by omega)
      have w1 := grown_cell HG.out HWB.out.c1 (by omega)
      have w2' := grown_cell HG.out HWB.out.c2 (by omega)
      have w3 := grown_cell HG.out HWB.out.c3 (by omega)
      have zw := cell_lt w0
      obtain ⟨⟨v0, r0⟩, ⟨v1, r1⟩, ⟨v2, r2⟩, ⟨v3, r3⟩, rz⟩ := HR5.out.grown HG.out (by omega)
      have z0 := rz 0
      have z1 := rz 1
      have z2 := rz 2
      have z3 := rz 3
      have zr := cell_lt r0
      have HAL := Lib.hid (Below.grown HA5.out HG.out HA5.out.size (fun j hj => by cases hj; omega))
      have HNE := Lib.hid (show w.heap.size + 1 ≠ mb by omega)
      clear rz hsz hlt hk
      go_wp2
      refine bodyPost_ret (v := .tuple #[.agg #[.int .i64 b, .slice p k c, .int .i64 u, .map (some mb)], .int .i64 0]) (by simp [results, Tryz.results82, go_sem, r0, r1, r2, r3]) rfl ⟨mb, rfl, ?_, ?_⟩
      · have st : ∀ (X : World) (o : Nat) (v : Value), StM X mb f k → StM (X.setCell ⟨w.heap.size + 1, o, none⟩ v) mb f k := fun X o v h => h.kept (grown_set X _ o v) (by simpa using HNE.out.symm)
        exact st _ _ _ (st _ _ _ (st _ _ _ (st _ _ _ HM.out)))
      · exact (((HAL.out.setCell (p := ⟨w.heap.size + 1, _, none⟩) (Nat.le_succ _) _).setCell (p := ⟨w.heap.size + 1, _, none⟩) (Nat.le_succ _) _).setCell (p := ⟨w.heap.size + 1, _, none⟩) (Nat.le_succ _) _).setCell (p := ⟨w.heap.size + 1, _, none⟩) (Nat.le_succ _) _
theorem open_no (b u : Int) (n c : Nat) (p : Option Addr) (f : Nat → Int × Int) (w : World) (hw : Mon w) (hs : LpIn w f n p) (hn : n ≤ 1000000000000) (ht : tabE b u n f ≠ 0) :
    Calls Tryz.prog 82 #[.agg #[.int .i64 b, .slice p n c, .int .i64 u]] w fun e w' => e = .returned (.tuple #[.agg #[.int .i64 0, .slice none 0 0, .int .i64 0, .map none], .int .i64 (tabE b u n f)]) ∧ Below w.heap.size w w' := by
  have A1 := below_alloc (Below.refl w.heap.size w) (.cells #[.int .i64 b, .slice p n c, .int .i64 u] 24)
  have A2 := below_alloc A1 (.cells #[.int .i64 0, .slice none 0 0, .int .i64 0, .map none] 132)
  have HT1 := Lib.hid ((TBox.new w b u n c p 24).below (below_alloc (Below.refl _ _) (.cells #[.int .i64 0, .slice none 0 0, .int .i64 0, .map none] 132)))
  have hr0 := Res4.new (w.alloc (.cells #[.int .i64 b, .slice p n c, .int .i64 u] 24)) (.int .i64 0) (.slice none 0 0) (.int .i64 0) (.map none) 132
  rw [show (w.alloc (.cells #[.int .i64 b, .slice p n c, .int .i64 u] 24)).heap.size = w.heap.size + 1 by simp] at hr0
  have A2 := Lib.hid A2
  have HW1 := Lib.hid (hw.below A2.out)
  have HS1 := Lib.hid (hs.below A2.out)
  have HR := Lib.hid hr0
  obtain ⟨er, her⟩ : ∃ er, tabE b u n f = er := ⟨_, rfl⟩
  rw [her] at ht ⊢
  have HT := Lib.hid her
  have hne : (er == 0) = false := by simpa using ht
  clear A1 hr0 hw hs her
  go_enter Tryz.func82, Tryz.ntmps82
  go_upto_region 1 with fail
  generalize (w.alloc (.cells #[.int .i64 b, .slice p n c, .int .i64 u] 24)).alloc (.cells #[.int .i64 0, .slice none 0 0, .int .i64 0, .map none] 132) = W1 at *
  obtain ⟨x0, x1, x2⟩ := HT1.out
  have zx := cell_lt x0
  have HCK := Lib.hid (Check_any b u n c p f W1 HW1.out HS1.out hn)
  rw [HT.out] at HCK
  go_upto_region 3 with (go_at_call 33; refine HCK.out.mono ?_; rintro e w2 ⟨rfl, hb2⟩; have HB2 := Lib.hid hb2; clear hb2)
  clear x0 x1 x2 zx
  obtain ⟨⟨v0, r0⟩, ⟨v1, r1⟩, ⟨v2, r2⟩, ⟨v3, r3⟩, rz⟩ := HR.out.below HB2.out
  have z0 := rz 0
  have z1 := rz 1
  have z2 := rz 2
  have z3 := rz 3
  have zr := cell_lt r0
  clear rz
  go_wp2
  refine bodyPost_ret (v := .tuple #[.agg #[.int .i64 0, .slice none 0 0, .int .i64 0, .map none], .int .i64 er]) (by simp [results, Tryz.results82, go_sem, r0, r1, r2, r3]) rfl ⟨rfl, ?_⟩
  exact ((((bt A2.out HB2.out).setCell (p := ⟨w.heap.size + 1, _, none⟩) (Nat.le_succ _) _).setCell (p := ⟨w.heap.size + 1, _, none⟩) (Nat.le_succ _) _).setCell (p := ⟨w.heap.size + 1, _, none⟩) (Nat.le_succ _) _).setCell (p := ⟨w.heap.size + 1, _, none⟩) (Nat.le_succ _) _
end Go.Proofs.YtgnfaemnehmgcaaGreatDoor.Cal
