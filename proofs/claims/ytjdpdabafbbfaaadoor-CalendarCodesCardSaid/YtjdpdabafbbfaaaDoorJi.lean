/- The law CalendarCodes. (by gen_ji.py) -/
import Derived.Test.YtjdpdabafbbfaaaDoorEb
import Derived.Test.YtjdpdabafbbfaaaDoorJd
import Derived.Test.YtjdpdabafbbfaaaDoorJe
import Derived.Test.YtjdpdabafbbfaaaDoorJf
import Derived.Test.YtjdpdabafbbfaaaDoorJh
import Derived.Test.YtjdpdabafbbfaaaDoorEe
import Derived.Test.YtjdpdabafbbfaaaDoorDo
namespace Go.Proofs.YtjdpdabafbbfaaaDoor.Cal
open Go Go.RowKit
attribute [local go_sem] Oper.semAt_some
/-- what the law holds in memory -/
structure LawC (w X : World) (a9 : Nat) (b u : Int) (n c cq cr : Nat) (p q qr : Option Addr) (f : Nat → Int × Int) (E S G Z : Int) : Prop where
  t4 : TBox X w.heap.size b u n c p
  x8 : (X.cell? ⟨w.heap.size + 1, 0, none⟩ = some (.int .i64 E) ∧ X.cell? ⟨w.heap.size + 1, 1, none⟩ = some (.int .i64 S))
  g9 : (X.cell? ⟨w.heap.size + 2, 0, none⟩ = some (.int .i64 G) ∧ X.cell? ⟨w.heap.size + 2, 1, none⟩ = some (.int .i64 Z))
  t9 : TBox X a9 b u n cq q
  t10 : TBox X (a9 + 1) b u n cr qr
  lp : LpIn X f n p
  lq : LpIn X f n q
  lr : LpIn X f n qr
  mon : Mon X
  bel : Below w.heap.size w X
theorem LawC.below {w X Y : World} {a9 : Nat} {b u : Int} {n c cq cr : Nat} {p q qr : Option Addr} {f : Nat → Int × Int} {E S G Z : Int} (k : LawC w X a9 b u n c cq cr p q qr f E S G Z) (hb : Below X.heap.size X Y) : LawC w Y a9 b u n c cq cr p q qr f E S G Z :=
  ⟨k.t4.below hb, ⟨cell_below hb k.x8.1, cell_below hb k.x8.2⟩, ⟨cell_below hb k.g9.1, cell_below hb k.g9.2⟩, k.t9.below hb, k.t10.below hb, k.lp.below hb, k.lq.below hb, k.lr.below hb, k.mon.below hb, bt k.bel hb⟩
theorem lc_start (w : World) (b u : Int) (n c : Nat) (p : Option Addr) (E S G Z : Int) : TBox (((w.alloc (.cells #[.int .i64 b, .slice p n c, .int .i64 u] 24)).alloc (.cells #[.int .i64 E, .int .i64 S] 26)).alloc (.cells #[.int .i64 G, .int .i64 Z] 28)) w.heap.size b u n c p ∧ ((((w.alloc (.cells #[.int .i64 b, .slice p n c, .int .i64 u] 24)).alloc (.cells #[.int .i64 E, .int .i64 S] 26)).alloc (.cells #[.int .i64 G, .int .i64 Z] 28)).cell? ⟨w.heap.size + 1, 0, none⟩ = some (.int .i64 E) ∧ (((w.alloc (.cells #[.int .i64 b, .slice p n c, .int .i64 u] 24)).alloc (.cells #[.int .i64 E, .int .i64 S] 26)).alloc (.cells #[.int .i64 G, .int .i64 Z] 28)).cell? ⟨w.heap.size + 1, 1, none⟩ = some (.int .i64 S)) ∧ ((((w.alloc (.cells #[.int .i64 b, .slice p n c, .int .i64 u] 24)).alloc (.cells #[.int .i64 E, .int .i64 S] 26)).alloc (.cells #[.int .i64 G, .int .i64 Z] 28)).cell? ⟨w.heap.size + 2, 0, none⟩ = some (.int .i64 G) ∧ (((w.alloc (.cells #[.int .i64 b, .slice p n c, .int .i64 u] 24)).alloc (.cells #[.int .i64 E, .int .i64 S] 26)).alloc (.cells #[.int .i64 G, .int .i64 Z] 28)).cell? ⟨w.heap.size + 2, 1, none⟩ = some (.int .i64 Z)) ∧ Below w.heap.size w (((w.alloc (.cells #[.int .i64 b, .slice p n c, .int .i64 u] 24)).alloc (.cells #[.int .i64 E, .int .i64 S] 26)).alloc (.cells #[.int .i64 G, .int .i64 Z] 28)) := by
  have b1 := below_alloc (Below.refl w.heap.size w) (.cells #[.int .i64 b, .slice p n c, .int .i64 u] 24)
  have t := TBox.new w b u n c p 24
  have e1 : (w.alloc (.cells #[.int .i64 b, .slice p n c, .int .i64 u] 24)).heap.size = w.heap.size + 1 := by simp
  generalize w.alloc (.cells #[.int .i64 b, .slice p n c, .int .i64 u] 24) = W1 at *
  have b2 := below_alloc (Below.refl W1.heap.size W1) (.cells #[.int .i64 E, .int .i64 S] 26)
  have h2 := two_cells W1 (.int .i64 E) (.int .i64 S) 26
  have e2 : (W1.alloc (.cells #[.int .i64 E, .int .i64 S] 26)).heap.size = w.heap.size + 2 := by simp [e1]
  rw [e1] at h2
  generalize W1.alloc (.cells #[.int .i64 E, .int .i64 S] 26) = W2 at *
  have b3 := below_alloc (Below.refl W2.heap.size W2) (.cells #[.int .i64 G, .int .i64 Z] 28)
  have h3 := two_cells W2 (.int .i64 G) (.int .i64 Z) 28
  rw [e2] at h3
  exact ⟨(t.below b2).below b3, ⟨cell_below b3 h2.1, cell_below b3 h2.2⟩, h3, bt (bt b1 b2) b3⟩
theorem LawC.new {w w2 : World} {b u : Int} {n c cq cr : Nat} {p q qr : Option Addr} {f : Nat → Int × Int} {E S G Z : Int} (h4 : TBox w2 w.heap.size b u n c p) (h8 : (w2.cell? ⟨w.heap.size + 1, 0, none⟩ = some (.int .i64 E) ∧ w2.cell? ⟨w.heap.size + 1, 1, none⟩ = some (.int .i64 S))) (h9 : (w2.cell? ⟨w.heap.size + 2, 0, none⟩ = some (.int .i64 G) ∧ w2.cell? ⟨w.heap.size + 2, 1, none⟩ = some (.int .i64 Z))) (lp : LpIn w2 f n p) (lq : LpIn w2 f n q) (lr : LpIn w2 f n qr) (mon : Mon w2) (bel : Below w.heap.size w w2) :
    LawC w ((w2.alloc (.cells #[.int .i64 b, .slice q n cq, .int .i64 u] 24)).alloc (.cells #[.int .i64 b, .slice qr n cr, .int .i64 u] 33)) w2.heap.size b u n c cq cr p q qr f E S G Z := by
  have b1 := below_alloc (Below.refl w2.heap.size w2) (.cells #[.int .i64 b, .slice q n cq, .int .i64 u] 24)
  have t9 := TBox.new w2 b u n cq q 24
  have e1 : (w2.alloc (.cells #[.int .i64 b, .slice q n cq, .int .i64 u] 24)).heap.size = w2.heap.size + 1 := by simp
  have h4 := h4.below b1
  have h8 := And.intro (cell_below b1 h8.1) (cell_below b1 h8.2)
  have h9 := And.intro (cell_below b1 h9.1) (cell_below b1 h9.2)
  have lp := lp.below b1
  have lq := lq.below b1
  have lr := lr.below b1
  have mon := mon.below b1
  have bel := bt bel b1
  generalize w2.alloc (.cells #[.int .i64 b, .slice q n cq, .int .i64 u] 24) = W at *
  have b2 := below_alloc (Below.refl W.heap.size W) (.cells #[.int .i64 b, .slice qr n cr, .int .i64 u] 33)
  have t10 := TBox.new W b u n cr qr 33
  rw [e1] at t10
  exact ⟨h4.below b2, ⟨cell_below b2 h8.1, cell_below b2 h8.2⟩, ⟨cell_below b2 h9.1, cell_below b2 h9.2⟩, t9.below b2, t10, lp.below b2, lq.below b2, lr.below b2, mon.below b2, bt bel b2⟩
set_option maxRecDepth 100000 in
set_option maxHeartbeats 8000000 in
theorem codes_any (b u : Int) (f : Nat → Int × Int) (n c : Nat) (p : Option Addr) (second unix E S G Z : Int) (hU : -9223372036854775808 ≤ unix ∧ unix ≤ 9223372036854775807) (w : World) (hw : Mon w) (hn : n ≤ 120) (hp : p = none → n = 0) (hs : LpIn w f n p) :
    Calls Tryd.prog 4 #[.agg #[.int .i64 b, .slice p n c, .int .i64 u], .int .i64 second, .int .i64 unix, .agg #[.int .i64 E, .int .i64 S], .agg #[.int .i64 G, .int .i64 Z]] w fun e w' => e = .returned (.bool true) ∧ Below w.heap.size w w' := by
  obtain ⟨ux, ue, hue⟩ := un_pair b u second n f (by omega)
  obtain ⟨LU, le, hlu, hle⟩ := fu_pair b u unix hU n f (by omega)
  obtain ⟨tx, ty, te, hte⟩ := tn_pair b u second n f (by omega)
  obtain ⟨LN, ne, hln, hne⟩ := fn_pair b u E S n f (by omega)
  obtain ⟨gx, gy, ge, hge⟩ := tg_pair b u second n f (by omega)
  obtain ⟨fx, fe, hfe⟩ := fg_pair b u G Z second n f (by omega)
  have PU := Lib.hid hue
  have PF := Lib.hid hle
  have PT := Lib.hid hte
  have PN := Lib.hid hne
  have PG := Lib.hid hge
  have PH := Lib.hid hfe
  unfold Pair at PU PT PG PH
  unfold PairL at PF PN
  obtain ⟨h4, h8, h9, hb⟩ := lc_start w b u n c p E S G Z
  have H4 := Lib.hid h4
  have H8 := Lib.hid h8
  have H9 := Lib.hid h9
  have A0 := Lib.hid hb
  have HS := Lib.hid (hs.below hb)
  have HW := Lib.hid (hw.below hb)
  have HCP := Lib.hid (copied_any b u f n c p _ (by omega) hp (hs.below hb))
  have HN := Lib.hid hn
  have HLU := Lib.hid hlu
  have HLN := Lib.hid hln
  clear hue hle hte hne hge hfe h4 h8 h9 hb hs hw hp hn hU hlu hln
  go_enter Tryd.func4, Tryd.ntmps4
  go_upto_region 1 with fail
  generalize ((w.alloc (.cells #[.int .i64 b, .slice p n c, .int .i64 u] 24)).alloc (.cells #[.int .i64 E, .int .i64 S] 26)).alloc (.cells #[.int .i64 G, .int .i64 Z] 28) = W0 at *
  obtain ⟨x0, x1, x2⟩ := H4.out
  have zx := cell_lt x0
  go_upto_region 2 with (go_at_call 6; refine HCP.out.mono ?_; rintro e w2 ⟨q, cq, qr, cr, rfl, hq, hlq, hlr, hb2⟩; have HQ := Lib.hid hq; have HL := Lib.hid (LawC.new (w := w) (cq := cq) (cr := cr) (H4.out.below hb2) ⟨cell_below hb2 H8.out.1, cell_below hb2 H8.out.2⟩ ⟨cell_below hb2 H9.out.1, cell_below hb2 H9.out.2⟩ (HS.out.below hb2) hlq hlr (HW.out.below hb2) (bt A0.out hb2)); clear hq hlq hlr hb2)
  clear x0 x1 x2 zx HCP
  generalize (w2.alloc (.cells #[.int .i64 b, .slice q n cq, .int .i64 u] 24)).alloc (.cells #[.int .i64 b, .slice qr n cr, .int .i64 u] 33) = X0 at *
  generalize w2.heap.size = a9 at *
  obtain ⟨x0, x1, x2⟩ := HL.out.t9
  have zx := cell_lt x0
  have HF := Lib.hid (PU.out.1 X0 cq q HL.out.mon HL.out.lq HQ.out.1 HQ.out.2)
  go_upto_region 3 with (go_at_call 7; refine HF.out.mono ?_; rintro e v0 ⟨rfl, hb⟩; have HL9 := Lib.hid (HL.out.below hb); clear hb HL)
  clear x0 x1 x2 zx HF
  have HL := Lib.hid HL9.out
  clear HL9
  obtain ⟨x0, x1, x2⟩ := HL.out.t10
  have zx := cell_lt x0
  have HF := Lib.hid (PU.out.2 v0 cr qr HL.out.lr)
  go_upto_region 6 with (go_at_call 8; refine HF.out.mono ?_; rintro e v1 ⟨rfl, hb⟩; have HL9 := Lib.hid (HL.out.below hb); clear hb HL)
  clear x0 x1 x2 zx HF
  have HL := Lib.hid HL9.out
  clear HL9
  obtain ⟨x0, x1, x2⟩ := HL.out.t9
  have zx := cell_lt x0
  have HF := Lib.hid (PF.out.1 v1 cq q HL.out.mon HL.out.lq HQ.out.1 HQ.out.2)
  go_upto_region 7 with (go_at_call 9; refine HF.out.mono ?_; rintro e v2 ⟨pov2, cov2, rfl, hl, hb⟩; have HAo9 := Lib.hid hl; clear hl; have HL9 := Lib.hid (HL.out.below hb); clear hb HL)
  clear x0 x1 x2 zx HF
  have HL := Lib.hid HL9.out
  clear HL9
  obtain ⟨x0, x1, x2⟩ := HL.out.t10
  have zx := cell_lt x0
  have HF := Lib.hid (PF.out.2 v2 cr qr HL.out.lr)
  go_upto_region 8 with (go_at_call 10; refine HF.out.mono ?_; rintro e v3 ⟨prv3, crv3, rfl, hl, hb⟩; have HAr9 := Lib.hid hl; clear hl; have HL9 := Lib.hid (HL.out.below hb); have HAo99 := Lib.hid (HAo9.out.below hb); clear HAo9; clear hb HL)
  clear x0 x1 x2 zx HF
  have HL := Lib.hid HL9.out
  clear HL9
  have HF := Lib.hid (equal_yes (atL LU) LU.length cov2 crv3 pov2 prv3 v3 (by have := HLU.out; omega) HAo99.out HAr9.out)
  go_upto_region 10 with (go_at_call 11; refine HF.out.mono ?_; rintro e v4 ⟨rfl, hb⟩; have HL9 := Lib.hid (HL.out.below hb); clear hb HL)
  clear HF HAo99 HAr9
  have HL := Lib.hid HL9.out
  clear HL9
  obtain ⟨x0, x1, x2⟩ := HL.out.t9
  have zx := cell_lt x0
  have HF := Lib.hid (PT.out.1 v4 cq q HL.out.mon HL.out.lq HQ.out.1 HQ.out.2)
  go_upto_region 11 with (go_at_call 12; refine HF.out.mono ?_; rintro e v5 ⟨rfl, hb⟩; have HL9 := Lib.hid (HL.out.below hb); clear hb HL)
  clear x0 x1 x2 zx HF
  have HL := Lib.hid HL9.out
  clear HL9
  have hbx := below_alloc (Below.refl v5.heap.size v5) (.cells #[.int .i64 tx, .int .i64 ty] 26)
  have HDX := Lib.hid (two_cells v5 (.int .i64 tx) (.int .i64 ty) 26)
  have HL9 := Lib.hid (HL.out.below hbx)
  clear hbx HL
  have HL := Lib.hid HL9.out
  clear HL9
  generalize v5.alloc (.cells #[.int .i64 tx, .int .i64 ty] 26) = v5a at *
  generalize v5.heap.size = v5s at *
  obtain ⟨x0, x1, x2⟩ := HL.out.t10
  have zx := cell_lt x0
  have HF := Lib.hid (PT.out.2 v5a cr qr HL.out.lr)
  go_upto_region 12 with (go_at_call 13; refine HF.out.mono ?_; rintro e v6 ⟨rfl, hb⟩; have HL9 := Lib.hid (HL.out.below hb); have HDX9 := Lib.hid (show _ ∧ _ from ⟨cell_below hb HDX.out.1, cell_below hb HDX.out.2⟩); clear HDX; clear hb HL)
  clear x0 x1 x2 zx HF
  have HL := Lib.hid HL9.out
  clear HL9
  have hbx := below_alloc (Below.refl v6.heap.size v6) (.cells #[.int .i64 tx, .int .i64 ty] 47)
  obtain ⟨e0, e1⟩ := two_cells v6 (.int .i64 tx) (.int .i64 ty) 47
  have d0 := cell_below hbx HDX9.out.1
  have d1 := cell_below hbx HDX9.out.2
  have HL9 := Lib.hid (HL.out.below hbx)
  clear hbx HL HDX9
  have HL := Lib.hid HL9.out
  clear HL9
  generalize v6.alloc (.cells #[.int .i64 tx, .int .i64 ty] 47) = v6a at *
  generalize v6.heap.size = v6s at *
  have zd := cell_lt d0
  have ze := cell_lt e0
  go_upto_region 14 with fail
  clear d0 d1 e0 e1 zd ze
  obtain ⟨x0, x1, x2⟩ := HL.out.t9
  have zx := cell_lt x0
  obtain ⟨d0, d1⟩ := HL.out.x8
  have zd := cell_lt d0
  have HF := Lib.hid (PN.out.1 v6a cq q HL.out.mon HL.out.lq HQ.out.1 HQ.out.2)
  go_upto_region 15 with (go_at_call 14; refine HF.out.mono ?_; rintro e v7 ⟨pov7, cov7, rfl, hl, hb⟩; have HAo9 := Lib.hid hl; clear hl; have HL9 := Lib.hid (HL.out.below hb); clear hb HL)
  clear x0 x1 x2 zx HF d0 d1 zd
  have HL := Lib.hid HL9.out
  clear HL9
  obtain ⟨x0, x1, x2⟩ := HL.out.t10
  have zx := cell_lt x0
  obtain ⟨d0, d1⟩ := HL.out.x8
  have zd := cell_lt d0
  have HF := Lib.hid (PN.out.2 v7 cr qr HL.out.lr)
  go_upto_region 16 with (go_at_call 15; refine HF.out.mono ?_; rintro e v8 ⟨prv8, crv8, rfl, hl, hb⟩; have HAr9 := Lib.hid hl; clear hl; have HL9 := Lib.hid (HL.out.below hb); have HAo99 := Lib.hid (HAo9.out.below hb); clear HAo9; clear hb HL)
  clear x0 x1 x2 zx HF d0 d1 zd
  have HL := Lib.hid HL9.out
  clear HL9
  have HF := Lib.hid (equal_yes (atL LN) LN.length cov7 crv8 pov7 prv8 v8 (by have := HLN.out; omega) HAo99.out HAr9.out)
  go_upto_region 18 with (go_at_call 11; refine HF.out.mono ?_; rintro e v9 ⟨rfl, hb⟩; have HL9 := Lib.hid (HL.out.below hb); clear hb HL)
  clear HF HAo99 HAr9
  have HL := Lib.hid HL9.out
  clear HL9
  obtain ⟨x0, x1, x2⟩ := HL.out.t9
  have zx := cell_lt x0
  have HF := Lib.hid (PG.out.1 v9 cq q HL.out.mon HL.out.lq HQ.out.1 HQ.out.2)
  go_upto_region 19 with (go_at_call 16; refine HF.out.mono ?_; rintro e va ⟨rfl, hb⟩; have HL9 := Lib.hid (HL.out.below hb); clear hb HL)
  clear x0 x1 x2 zx HF
  have HL := Lib.hid HL9.out
  clear HL9
  have hbx := below_alloc (Below.refl va.heap.size va) (.cells #[.int .i64 gx, .int .i64 gy] 28)
  have HDX := Lib.hid (two_cells va (.int .i64 gx) (.int .i64 gy) 28)
  have HL9 := Lib.hid (HL.out.below hbx)
  clear hbx HL
  have HL := Lib.hid HL9.out
  clear HL9
  generalize va.alloc (.cells #[.int .i64 gx, .int .i64 gy] 28) = vaa at *
  generalize va.heap.size = vas at *
  obtain ⟨x0, x1, x2⟩ := HL.out.t10
  have zx := cell_lt x0
  have HF := Lib.hid (PG.out.2 vaa cr qr HL.out.lr)
  go_upto_region 20 with (go_at_call 17; refine HF.out.mono ?_; rintro e vb ⟨rfl, hb⟩; have HL9 := Lib.hid (HL.out.below hb); have HDX9 := Lib.hid (show _ ∧ _ from ⟨cell_below hb HDX.out.1, cell_below hb HDX.out.2⟩); clear HDX; clear hb HL)
  clear x0 x1 x2 zx HF
  have HL := Lib.hid HL9.out
  clear HL9
  have hbx := below_alloc (Below.refl vb.heap.size vb) (.cells #[.int .i64 gx, .int .i64 gy] 54)
  obtain ⟨e0, e1⟩ := two_cells vb (.int .i64 gx) (.int .i64 gy) 54
  have d0 := cell_below hbx HDX9.out.1
  have d1 := cell_below hbx HDX9.out.2
  have HL9 := Lib.hid (HL.out.below hbx)
  clear hbx HL HDX9
  have HL := Lib.hid HL9.out
  clear HL9
  generalize vb.alloc (.cells #[.int .i64 gx, .int .i64 gy] 54) = vba at *
  generalize vb.heap.size = vbs at *
  have zd := cell_lt d0
  have ze := cell_lt e0
  go_upto_region 22 with fail
  clear d0 d1 e0 e1 zd ze
  obtain ⟨x0, x1, x2⟩ := HL.out.t9
  have zx := cell_lt x0
  obtain ⟨d0, d1⟩ := HL.out.g9
  have zd := cell_lt d0
  have HF := Lib.hid (PH.out.1 vba cq q HL.out.mon HL.out.lq HQ.out.1 HQ.out.2)
  go_upto_region 23 with (go_at_call 18; refine HF.out.mono ?_; rintro e vc ⟨rfl, hb⟩; have HL9 := Lib.hid (HL.out.below hb); clear hb HL)
  clear x0 x1 x2 zx HF d0 d1 zd
  have HL := Lib.hid HL9.out
  clear HL9
  obtain ⟨x0, x1, x2⟩ := HL.out.t10
  have zx := cell_lt x0
  obtain ⟨d0, d1⟩ := HL.out.g9
  have zd := cell_lt d0
  have HF := Lib.hid (PH.out.2 vc cr qr HL.out.lr)
  go_upto_region 24 with (go_at_call 19; refine HF.out.mono ?_; rintro e vd ⟨rfl, hb⟩; have HL9 := Lib.hid (HL.out.below hb); clear hb HL)
  clear x0 x1 x2 zx HF d0 d1 zd
  have HL := Lib.hid HL9.out
  clear HL9
  obtain ⟨x0, x1, x2⟩ := HL.out.t9
  obtain ⟨z0, z1, z2⟩ := HL.out.t4
  have zx := cell_lt x0
  have zz := cell_lt z0
  have HKP := Lib.hid (kept_yes b u f n cq c q p vd (by have := HN.out; omega) HL.out.lq HL.out.lp)
  go_wp2_with (go_at_call 20; refine HKP.out.mono ?_; rintro e vz ⟨rfl, hb⟩; have HLZ := Lib.hid (HL.out.below hb); clear hb)
  go_ret
  exact ⟨rfl, HLZ.out.bel⟩
theorem calendarCodes_any (b u : Int) (f : Nat → Int × Int) (n c : Nat) (p : Option Addr) (second unix E S G Z : Int) (hU : -9223372036854775808 ≤ unix ∧ unix ≤ 9223372036854775807) (w : World) (hw : Mon w) (hcl : n ≤ maxLen) (hp : p = none → n = 0) (hs : LpIn w f n p) :
    Calls Tryd.prog 3 #[.agg #[.int .i64 b, .slice p n c, .int .i64 u], .int .i64 second, .int .i64 unix, .agg #[.int .i64 E, .int .i64 S], .agg #[.int .i64 G, .int .i64 Z]] w fun e w' => e = .returned (.bool true) ∧ Below w.heap.size w w' := by
  obtain ⟨h4, h8, h9, hb⟩ := lc_start w b u n c p E S G Z
  obtain ⟨x0, x1, x2⟩ := h4
  obtain ⟨d0, d1⟩ := h8
  obtain ⟨e0, e1⟩ := h9
  have A0 := Lib.hid hb
  have HW := Lib.hid (hw.below hb)
  unfold maxLen at hcl
  by_cases hn : n ≤ 120
  · have hni : ¬ (120 : Int) < n := by omega
    have HTA := Lib.hid (codes_any b u f n c p second unix E S G Z hU _ (hw.below hb) hn hp (hs.below hb))
    clear hb hw hs hp hn hU
    go_enter Tryd.func3, Tryd.ntmps3
    go_upto_region 1 with fail
    generalize ((w.alloc (.cells #[.int .i64 b, .slice p n c, .int .i64 u] 24)).alloc (.cells #[.int .i64 E, .int .i64 S] 26)).alloc (.cells #[.int .i64 G, .int .i64 Z] 28) = W0 at *
    have zx := cell_lt x0
    have zd := cell_lt d0
    have ze := cell_lt e0
    go_wp2_with (first | (go_at_call 4; refine HTA.out.mono ?_; rintro e w2 ⟨rfl, hb2⟩; have HB2 := Lib.hid hb2; clear hb2) | (go_at_call 5; refine (awake_any _ (HW.out.below HB2.out)).mono ?_; rintro e w3 ⟨rfl, hb3⟩; have HB3 := Lib.hid hb3; clear hb3))
    go_ret
    exact ⟨rfl, bt (bt A0.out HB2.out) HB3.out⟩
  · have hni : (120 : Int) < n := by omega
    clear hb hw hs hp hn hU
    go_enter Tryd.func3, Tryd.ntmps3
    go_upto_region 1 with fail
    generalize ((w.alloc (.cells #[.int .i64 b, .slice p n c, .int .i64 u] 24)).alloc (.cells #[.int .i64 E, .int .i64 S] 26)).alloc (.cells #[.int .i64 G, .int .i64 Z] 28) = W0 at *
    have zx := cell_lt x0
    have zd := cell_lt d0
    have ze := cell_lt e0
    go_wp2_with (go_at_call 5; refine (awake_any _ HW.out).mono ?_; rintro e w3 ⟨rfl, hb3⟩; have HB3 := Lib.hid hb3; clear hb3)
    go_ret
    exact ⟨rfl, bt A0.out HB3.out⟩
end Go.Proofs.YtjdpdabafbbfaaaDoor.Cal
/- the encodings Ntp and Gps as arguments of a law -/
namespace Go.Proofs.YtjdpdabafbbfaaaDoor.Cal
open Go Go.RowKit Go.WideShapes Go.ChangeShapes Go.Deep Go.Joins
theorem wf_i64 {n : Int} (h : (Lit.int .i64 n).wf = true) : -9223372036854775808 ≤ n ∧ n ≤ 9223372036854775807 := by
  simp only [Lit.wf, Bool.and_eq_true, decide_eq_true_eq] at h
  have h1 : IntKind.i64.min = -9223372036854775808 := by decide
  have h2 : IntKind.i64.max = 9223372036854775807 := by decide
  omega
section
variable {H : Type} {enc : TypeId × Value → H} {w : World} {base : Nat} {spare : Nat → Bool} {held : Bool}
set_option maxRecDepth 100000 in
theorem open_ntp {r : Reach} {b0 : Nat} {v : Value} {d : DataW H} {q : List MemPlace} (hv : Value.okWide Tryd.prog w r b0 26 v) (h : DataW.Trod enc Tryd.prog w base spare held 26 v d q) :
    ∃ y m : Int, v = .agg #[.int .i64 y, .int .i64 m] := by
  obtain ⟨v0, v1, y0, y1, n, rfl, _, _, t0, t1⟩ := open_agg2 Tryd.underlying26 (by kernel_rfl) (by kernel_rfl) hv h
  obtain ⟨n0, e0, _⟩ := DataW.trod_int Tryd.underlying3 t0
  obtain ⟨n1, e1, _⟩ := DataW.trod_int Tryd.underlying3 t1
  simp only [List.cons.injEq, and_true] at e0 e1
  subst e0 e1
  exact ⟨n0, n1, rfl⟩
set_option maxRecDepth 100000 in
theorem open_gps {r : Reach} {b0 : Nat} {v : Value} {d : DataW H} {q : List MemPlace} (hv : Value.okWide Tryd.prog w r b0 28 v) (h : DataW.Trod enc Tryd.prog w base spare held 28 v d q) :
    ∃ y m : Int, v = .agg #[.int .i64 y, .int .i64 m] := by
  obtain ⟨v0, v1, y0, y1, n, rfl, _, _, t0, t1⟩ := open_agg2 Tryd.underlying28 (by kernel_rfl) (by kernel_rfl) hv h
  obtain ⟨n0, e0, _⟩ := DataW.trod_int Tryd.underlying3 t0
  obtain ⟨n1, e1, _⟩ := DataW.trod_int Tryd.underlying3 t1
  simp only [List.cons.injEq, and_true] at e0 e1
  subst e0 e1
  exact ⟨n0, n1, rfl⟩
end
end Go.Proofs.YtjdpdabafbbfaaaDoor.Cal

