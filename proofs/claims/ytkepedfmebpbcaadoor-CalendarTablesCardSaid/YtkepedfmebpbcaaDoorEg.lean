/- The law CalendarTables. (by gen_eg.py) -/
import Derived.Test.YtkepedfmebpbcaaDoorEf
import Derived.Test.YtkepedfmebpbcaaDoorDo
namespace Go.Proofs.YtkepedfmebpbcaaDoor.Cal
open Go Go.RowKit
attribute [local go_sem] Oper.semAt_some
/-- what the law holds in memory -/
structure LawT (w X : World) (a9 : Nat) (b u : Int) (n c cq cr : Nat) (p q qr : Option Addr) (f : Nat → Int × Int) (y m d h mi s : Int) : Prop where
  t4 : TBox X w.heap.size b u n c p
  t6 : DBox X (w.heap.size + 1) y m d h mi s
  t9 : TBox X a9 b u n cq q
  t10 : TBox X (a9 + 1) b u n cr qr
  lp : LpIn X f n p
  lq : LpIn X f n q
  lr : LpIn X f n qr
  mon : Mon X
  bel : Below w.heap.size w X
theorem LawT.below {w X Y : World} {a9 : Nat} {b u : Int} {n c cq cr : Nat} {p q qr : Option Addr} {f : Nat → Int × Int} {y m d h mi s : Int} (k : LawT w X a9 b u n c cq cr p q qr f y m d h mi s) (hb : Below X.heap.size X Y) : LawT w Y a9 b u n c cq cr p q qr f y m d h mi s :=
  ⟨k.t4.below hb, k.t6.below hb, k.t9.below hb, k.t10.below hb, k.lp.below hb, k.lq.below hb, k.lr.below hb, k.mon.below hb, bt k.bel hb⟩
theorem lt_start (w : World) (b u : Int) (n c : Nat) (p : Option Addr) (y m d h mi s : Int) : TBox ((w.alloc (.cells #[.int .i64 b, .slice p n c, .int .i64 u] 28)).alloc (.cells #[.int .i64 y, .int .i64 m, .int .i64 d, .int .i64 h, .int .i64 mi, .int .i64 s] 30)) w.heap.size b u n c p ∧ DBox ((w.alloc (.cells #[.int .i64 b, .slice p n c, .int .i64 u] 28)).alloc (.cells #[.int .i64 y, .int .i64 m, .int .i64 d, .int .i64 h, .int .i64 mi, .int .i64 s] 30)) (w.heap.size + 1) y m d h mi s ∧ Below w.heap.size w ((w.alloc (.cells #[.int .i64 b, .slice p n c, .int .i64 u] 28)).alloc (.cells #[.int .i64 y, .int .i64 m, .int .i64 d, .int .i64 h, .int .i64 mi, .int .i64 s] 30)) := td_start w b u n c p y m d h mi s
theorem LawT.new {w w2 : World} {b u : Int} {n c cq cr : Nat} {p q qr : Option Addr} {f : Nat → Int × Int} {y m d h mi s : Int} (h4 : TBox w2 w.heap.size b u n c p) (h6 : DBox w2 (w.heap.size + 1) y m d h mi s) (lp : LpIn w2 f n p) (lq : LpIn w2 f n q) (lr : LpIn w2 f n qr) (mon : Mon w2) (bel : Below w.heap.size w w2) :
    LawT w ((w2.alloc (.cells #[.int .i64 b, .slice q n cq, .int .i64 u] 28)).alloc (.cells #[.int .i64 b, .slice qr n cr, .int .i64 u] 56)) w2.heap.size b u n c cq cr p q qr f y m d h mi s := by
  have b1 := below_alloc (Below.refl w2.heap.size w2) (.cells #[.int .i64 b, .slice q n cq, .int .i64 u] 28)
  have t9 := TBox.new w2 b u n cq q 28
  have e1 : (w2.alloc (.cells #[.int .i64 b, .slice q n cq, .int .i64 u] 28)).heap.size = w2.heap.size + 1 := by simp
  have h4 := h4.below b1
  have h6 := h6.below b1
  have lp := lp.below b1
  have lq := lq.below b1
  have lr := lr.below b1
  have mon := mon.below b1
  have bel := bt bel b1
  generalize w2.alloc (.cells #[.int .i64 b, .slice q n cq, .int .i64 u] 28) = W at *
  have b2 := below_alloc (Below.refl W.heap.size W) (.cells #[.int .i64 b, .slice qr n cr, .int .i64 u] 56)
  have t10 := TBox.new W b u n cr qr 56
  rw [e1] at t10
  exact ⟨h4.below b2, h6.below b2, t9.below b2, t10, lp.below b2, lq.below b2, lr.below b2, mon.below b2, bt bel b2⟩
set_option maxRecDepth 100000 in
set_option maxHeartbeats 8000000 in
theorem tables_any (b u : Int) (f : Nat → Int × Int) (n c : Nat) (p : Option Addr) (day y m d h mi s second : Int) (w : World) (hw : Mon w) (hn : n ≤ 120) (hp : p = none → n = 0) (hs : LpIn w f n p) :
    Calls Tryd.prog 9 #[.agg #[.int .i64 b, .slice p n c, .int .i64 u], .int .i64 day, .agg #[.int .i64 y, .int .i64 m, .int .i64 d, .int .i64 h, .int .i64 mi, .int .i64 s], .int .i64 second] w fun e w' => e = .returned (.bool true) ∧ Below w.heap.size w w' := by
  obtain ⟨ce, hce⟩ := chk_pair b u n f (by omega)
  obtain ⟨lx, le, hle⟩ := len_pair b u day n f (by omega)
  obtain ⟨ox, oe, hoe⟩ := off_pair b u day n f (by omega)
  obtain ⟨tx, te, hte⟩ := tot_pair b u n f (by omega)
  obtain ⟨sx, se, hse⟩ := sec_pair b u y m d h mi s n f (by omega)
  obtain ⟨dy, dm, dd, dh, dn, ds, de, hde⟩ := dat_pair b u second n f (by omega)
  obtain ⟨ax, ae, hae⟩ := atm_pair b u second n f (by omega)
  obtain ⟨nx, ne, hne⟩ := ann_pair b u second n f (by omega)
  have PC := Lib.hid hce
  have PL := Lib.hid hle
  have PO := Lib.hid hoe
  have PT := Lib.hid hte
  have PS := Lib.hid hse
  have PD := Lib.hid hde
  have PA := Lib.hid hae
  have PN := Lib.hid hne
  unfold Pair at PC PL PO PT PS PD PA PN
  obtain ⟨h4, h6, hb⟩ := lt_start w b u n c p y m d h mi s
  have H4 := Lib.hid h4
  have H6 := Lib.hid h6
  have A0 := Lib.hid hb
  have HS := Lib.hid (hs.below hb)
  have HW := Lib.hid (hw.below hb)
  have HCP := Lib.hid (copied_any b u f n c p _ (by omega) hp (hs.below hb))
  have HN := Lib.hid hn
  clear hce hle hoe hte hse hde hae hne h4 h6 hb hs hw hp hn
  go_enter Tryd.func9, Tryd.ntmps9
  go_upto_region 1 with fail
  generalize (w.alloc (.cells #[.int .i64 b, .slice p n c, .int .i64 u] 28)).alloc (.cells #[.int .i64 y, .int .i64 m, .int .i64 d, .int .i64 h, .int .i64 mi, .int .i64 s] 30) = W0 at *
  obtain ⟨x0, x1, x2⟩ := H4.out
  have zx := cell_lt x0
  go_upto_region 2 with (go_at_call 27; refine HCP.out.mono ?_; rintro e w2 ⟨q, cq, qr, cr, rfl, hq, hlq, hlr, hb2⟩; have HQ := Lib.hid hq; have HLW := Lib.hid (LawT.new (w := w) (cq := cq) (cr := cr) (H4.out.below hb2) (H6.out.below hb2) (HS.out.below hb2) hlq hlr (HW.out.below hb2) (bt A0.out hb2)); clear hq hlq hlr hb2)
  clear x0 x1 x2 zx
  generalize (w2.alloc (.cells #[.int .i64 b, .slice q n cq, .int .i64 u] 28)).alloc (.cells #[.int .i64 b, .slice qr n cr, .int .i64 u] 56) = X0 at *
  generalize w2.heap.size = a9 at *
  obtain ⟨x0, x1, x2⟩ := HLW.out.t9
  obtain ⟨z0, z1, z2⟩ := HLW.out.t10
  have zx := cell_lt x0
  have zz := cell_lt z0
  have HB0 := Lib.hid (Below.refl X0.heap.size X0)
  have HK := Lib.hid (show ∀ X, Below X0.heap.size X0 X → (fun w' => Below X0.heap.size X0 w' ∧ w'.cell? ⟨a9, 0, none⟩ = some (.int .i64 b) ∧ w'.cell? ⟨a9, 1, none⟩ = some (.slice q n cq) ∧ w'.cell? ⟨a9, 2, none⟩ = some (.int .i64 u) ∧ w'.cell? ⟨a9 + 1, 0, none⟩ = some (.int .i64 b) ∧ w'.cell? ⟨a9 + 1, 1, none⟩ = some (.slice qr n cr) ∧ w'.cell? ⟨a9 + 1, 2, none⟩ = some (.int .i64 u)) X from fun X h => ⟨h, cell_below h x0, cell_below h x1, cell_below h x2, cell_below h z0, cell_below h z1, cell_below h z2⟩)
  have HC1 := Lib.hid (fun X (hX : Below X0.heap.size X0 X) => Calls.bel hX (PC.out.1 X cq q (HLW.out.mon.below hX) (HLW.out.lq.below hX) HQ.out.1 HQ.out.2))
  have HC2 := Lib.hid (fun X (hX : Below X0.heap.size X0 X) => Calls.bel hX (PC.out.2 X cr qr (HLW.out.lr.below hX)))
  go_region_held3 (fun w' => Below X0.heap.size X0 w' ∧ w'.cell? ⟨a9, 0, none⟩ = some (.int .i64 b) ∧ w'.cell? ⟨a9, 1, none⟩ = some (.slice q n cq) ∧ w'.cell? ⟨a9, 2, none⟩ = some (.int .i64 u) ∧ w'.cell? ⟨a9 + 1, 0, none⟩ = some (.int .i64 b) ∧ w'.cell? ⟨a9 + 1, 1, none⟩ = some (.slice qr n cr) ∧ w'.cell? ⟨a9 + 1, 2, none⟩ = some (.int .i64 u))
    (exact HK.out _ (by first | assumption | exact HB0.out | exact Below.drew HB0.out | exact Below.drew (by assumption)))
    (first | (go_at_call 28; refine (HC1.out _ (by first | assumption | exact HB0.out | exact Below.drew HB0.out)).mono ?_; rintro e w3 ⟨rfl, hb3⟩) | (go_at_call 29; refine (HC2.out _ (by first | assumption | exact HB0.out | exact Below.drew HB0.out)).mono ?_; rintro e w3 ⟨rfl, hb3⟩))
  have HL := Lib.hid (HLW.out.below hb3)
  clear x0 x1 x2 z0 z1 z2 zx zz hb3 HK HC1 HC2 HB0 HCP
  obtain ⟨x0, x1, x2⟩ := HL.out.t9
  have zx := cell_lt x0
  have HF := Lib.hid (PL.out.1 w3 cq q HL.out.mon HL.out.lq HQ.out.1 HQ.out.2)
  go_upto_region 5 with (go_at_call 30; refine HF.out.mono ?_; rintro e v0 ⟨rfl, hb⟩; have HL9 := Lib.hid (HL.out.below hb); clear hb HL)
  clear x0 x1 x2 zx HF
  have HL := Lib.hid HL9.out
  clear HL9
  obtain ⟨x0, x1, x2⟩ := HL.out.t10
  have zx := cell_lt x0
  have HF := Lib.hid (PL.out.2 v0 cr qr HL.out.lr)
  go_upto_region 8 with (go_at_call 31; refine HF.out.mono ?_; rintro e v1 ⟨rfl, hb⟩; have HL9 := Lib.hid (HL.out.below hb); clear hb HL)
  clear x0 x1 x2 zx HF
  have HL := Lib.hid HL9.out
  clear HL9
  obtain ⟨x0, x1, x2⟩ := HL.out.t9
  have zx := cell_lt x0
  have HF := Lib.hid (PO.out.1 v1 cq q HL.out.mon HL.out.lq HQ.out.1 HQ.out.2)
  go_upto_region 9 with (go_at_call 32; refine HF.out.mono ?_; rintro e v2 ⟨rfl, hb⟩; have HL9 := Lib.hid (HL.out.below hb); clear hb HL)
  clear x0 x1 x2 zx HF
  have HL := Lib.hid HL9.out
  clear HL9
  obtain ⟨x0, x1, x2⟩ := HL.out.t10
  have zx := cell_lt x0
  have HF := Lib.hid (PO.out.2 v2 cr qr HL.out.lr)
  go_upto_region 12 with (go_at_call 33; refine HF.out.mono ?_; rintro e v3 ⟨rfl, hb⟩; have HL9 := Lib.hid (HL.out.below hb); clear hb HL)
  clear x0 x1 x2 zx HF
  have HL := Lib.hid HL9.out
  clear HL9
  obtain ⟨x0, x1, x2⟩ := HL.out.t9
  have zx := cell_lt x0
  have HF := Lib.hid (PT.out.1 v3 cq q HL.out.mon HL.out.lq HQ.out.1 HQ.out.2)
  go_upto_region 13 with (go_at_call 11; refine HF.out.mono ?_; rintro e v4 ⟨rfl, hb⟩; have HL9 := Lib.hid (HL.out.below hb); clear hb HL)
  clear x0 x1 x2 zx HF
  have HL := Lib.hid HL9.out
  clear HL9
  obtain ⟨x0, x1, x2⟩ := HL.out.t10
  have zx := cell_lt x0
  have HF := Lib.hid (PT.out.2 v4 cr qr HL.out.lr)
  go_upto_region 16 with (go_at_call 34; refine HF.out.mono ?_; rintro e v5 ⟨rfl, hb⟩; have HL9 := Lib.hid (HL.out.below hb); clear hb HL)
  clear x0 x1 x2 zx HF
  have HL := Lib.hid HL9.out
  clear HL9
  obtain ⟨x0, x1, x2⟩ := HL.out.t9
  have zx := cell_lt x0
  obtain ⟨d0, d1, d2, d3, d4, d5⟩ := HL.out.t6
  have zd := cell_lt d0
  have HF := Lib.hid (PS.out.1 v5 cq q HL.out.mon HL.out.lq HQ.out.1 HQ.out.2)
  go_upto_region 17 with (go_at_call 14; refine HF.out.mono ?_; rintro e v6 ⟨rfl, hb⟩; have HL9 := Lib.hid (HL.out.below hb); clear hb HL)
  clear x0 x1 x2 zx HF d0 d1 d2 d3 d4 d5 zd
  have HL := Lib.hid HL9.out
  clear HL9
  obtain ⟨x0, x1, x2⟩ := HL.out.t10
  have zx := cell_lt x0
  obtain ⟨d0, d1, d2, d3, d4, d5⟩ := HL.out.t6
  have zd := cell_lt d0
  have HF := Lib.hid (PS.out.2 v6 cr qr HL.out.lr)
  go_upto_region 20 with (go_at_call 35; refine HF.out.mono ?_; rintro e v7 ⟨rfl, hb⟩; have HL9 := Lib.hid (HL.out.below hb); clear hb HL)
  clear x0 x1 x2 zx HF d0 d1 d2 d3 d4 d5 zd
  have HL := Lib.hid HL9.out
  clear HL9
  obtain ⟨x0, x1, x2⟩ := HL.out.t9
  have zx := cell_lt x0
  have HF := Lib.hid (PD.out.1 v7 cq q HL.out.mon HL.out.lq HQ.out.1 HQ.out.2)
  go_upto_region 21 with (go_at_call 13; refine HF.out.mono ?_; rintro e v8 ⟨rfl, hb⟩; have HL9 := Lib.hid (HL.out.below hb); clear hb HL)
  clear x0 x1 x2 zx HF
  have hbx := below_alloc (Below.refl v8.heap.size v8) (.cells #[.int .i64 dy, .int .i64 dm, .int .i64 dd, .int .i64 dh, .int .i64 dn, .int .i64 ds] 30)
  have HDX := Lib.hid (DBox.new v8 dy dm dd dh dn ds)
  have HL := Lib.hid (HL9.out.below hbx)
  clear hbx HL9
  generalize v8.alloc (.cells #[.int .i64 dy, .int .i64 dm, .int .i64 dd, .int .i64 dh, .int .i64 dn, .int .i64 ds] 30) = v8a at *
  obtain ⟨x0, x1, x2⟩ := HL.out.t10
  have zx := cell_lt x0
  have HF := Lib.hid (PD.out.2 v8a cr qr HL.out.lr)
  go_upto_region 22 with (go_at_call 36; refine HF.out.mono ?_; rintro e v9 ⟨rfl, hb⟩; have HL9 := Lib.hid (HL.out.below hb); have HD9 := Lib.hid (HDX.out.below hb); clear hb HL)
  clear x0 x1 x2 zx HF
  have hbx := below_alloc (Below.refl v9.heap.size v9) (.cells #[.int .i64 dy, .int .i64 dm, .int .i64 dd, .int .i64 dh, .int .i64 dn, .int .i64 ds] 65)
  obtain ⟨d0, d1, d2, d3, d4, d5⟩ := HD9.out.below hbx
  have e0 : (v9.alloc (.cells #[.int .i64 dy, .int .i64 dm, .int .i64 dd, .int .i64 dh, .int .i64 dn, .int .i64 ds] 65)).cell? ⟨v9.heap.size, 0, none⟩ = some (.int .i64 dy) ∧ (v9.alloc (.cells #[.int .i64 dy, .int .i64 dm, .int .i64 dd, .int .i64 dh, .int .i64 dn, .int .i64 ds] 65)).cell? ⟨v9.heap.size, 1, none⟩ = some (.int .i64 dm) ∧ (v9.alloc (.cells #[.int .i64 dy, .int .i64 dm, .int .i64 dd, .int .i64 dh, .int .i64 dn, .int .i64 ds] 65)).cell? ⟨v9.heap.size, 2, none⟩ = some (.int .i64 dd) ∧ (v9.alloc (.cells #[.int .i64 dy, .int .i64 dm, .int .i64 dd, .int .i64 dh, .int .i64 dn, .int .i64 ds] 65)).cell? ⟨v9.heap.size, 3, none⟩ = some (.int .i64 dh) ∧ (v9.alloc (.cells #[.int .i64 dy, .int .i64 dm, .int .i64 dd, .int .i64 dh, .int .i64 dn, .int .i64 ds] 65)).cell? ⟨v9.heap.size, 4, none⟩ = some (.int .i64 dn) ∧ (v9.alloc (.cells #[.int .i64 dy, .int .i64 dm, .int .i64 dd, .int .i64 dh, .int .i64 dn, .int .i64 ds] 65)).cell? ⟨v9.heap.size, 5, none⟩ = some (.int .i64 ds) := ⟨by simp, by simp, by simp, by simp, by simp, by simp⟩
  obtain ⟨e0, e1, e2, e3, e4, e5⟩ := e0
  have HL := Lib.hid (HL9.out.below hbx)
  clear hbx HL9 HD9 HDX
  generalize v9.alloc (.cells #[.int .i64 dy, .int .i64 dm, .int .i64 dd, .int .i64 dh, .int .i64 dn, .int .i64 ds] 65) = v9a at *
  have zd := cell_lt d0
  have ze := cell_lt e0
  go_upto_region 24 with fail
  clear d0 d1 d2 d3 d4 d5 e0 e1 e2 e3 e4 e5 zd ze
  obtain ⟨x0, x1, x2⟩ := HL.out.t9
  have zx := cell_lt x0
  have HF := Lib.hid (PA.out.1 v9a cq q HL.out.mon HL.out.lq HQ.out.1 HQ.out.2)
  go_upto_region 25 with (go_at_call 37; refine HF.out.mono ?_; rintro e v10 ⟨rfl, hb⟩; have HL9 := Lib.hid (HL.out.below hb); clear hb HL)
  clear x0 x1 x2 zx HF
  have HL := Lib.hid HL9.out
  clear HL9
  obtain ⟨x0, x1, x2⟩ := HL.out.t10
  have zx := cell_lt x0
  have HF := Lib.hid (PA.out.2 v10 cr qr HL.out.lr)
  go_upto_region 28 with (go_at_call 38; refine HF.out.mono ?_; rintro e v11 ⟨rfl, hb⟩; have HL9 := Lib.hid (HL.out.below hb); clear hb HL)
  clear x0 x1 x2 zx HF
  have HL := Lib.hid HL9.out
  clear HL9
  obtain ⟨x0, x1, x2⟩ := HL.out.t9
  have zx := cell_lt x0
  have HF := Lib.hid (PN.out.1 v11 cq q HL.out.mon HL.out.lq HQ.out.1 HQ.out.2)
  go_upto_region 29 with (go_at_call 39; refine HF.out.mono ?_; rintro e v12 ⟨rfl, hb⟩; have HL9 := Lib.hid (HL.out.below hb); clear hb HL)
  clear x0 x1 x2 zx HF
  have HL := Lib.hid HL9.out
  clear HL9
  obtain ⟨x0, x1, x2⟩ := HL.out.t10
  have zx := cell_lt x0
  have HF := Lib.hid (PN.out.2 v12 cr qr HL.out.lr)
  go_upto_region 30 with (go_at_call 40; refine HF.out.mono ?_; rintro e v13 ⟨rfl, hb⟩; have HL9 := Lib.hid (HL.out.below hb); clear hb HL)
  clear x0 x1 x2 zx HF
  have HL := Lib.hid HL9.out
  clear HL9
  obtain ⟨x0, x1, x2⟩ := HL.out.t9
  obtain ⟨z0, z1, z2⟩ := HL.out.t4
  have zx := cell_lt x0
  have zz := cell_lt z0
  have HKP := Lib.hid (kept_yes b u f n cq c q p v13 (by have := HN.out; omega) HL.out.lq HL.out.lp)
  go_wp2_with (go_at_call 41; refine HKP.out.mono ?_; rintro e vz ⟨rfl, hb⟩; have HLZ := Lib.hid (HL.out.below hb); clear hb)
  go_ret
  exact ⟨rfl, HLZ.out.bel⟩
theorem calendarTables_any (b u : Int) (f : Nat → Int × Int) (n c : Nat) (p : Option Addr) (day y m d h mi s second : Int) (w : World) (hw : Mon w) (hcl : n ≤ maxLen) (hp : p = none → n = 0) (hs : LpIn w f n p) :
    Calls Tryd.prog 4 #[.agg #[.int .i64 b, .slice p n c, .int .i64 u], .int .i64 day, .agg #[.int .i64 y, .int .i64 m, .int .i64 d, .int .i64 h, .int .i64 mi, .int .i64 s], .int .i64 second] w fun e w' => e = .returned (.bool true) ∧ Below w.heap.size w w' := by
  obtain ⟨h4, h6, hb⟩ := lt_start w b u n c p y m d h mi s
  obtain ⟨x0, x1, x2⟩ := h4
  obtain ⟨d0, d1, d2, d3, d4, d5⟩ := h6
  have A0 := Lib.hid hb
  have HW := Lib.hid (hw.below hb)
  unfold maxLen at hcl
  by_cases hn : n ≤ 120
  · have hni : ¬ (120 : Int) < n := by omega
    have HTA := Lib.hid (tables_any b u f n c p day y m d h mi s second _ (hw.below hb) hn hp (hs.below hb))
    clear hb hw hs hp hn
    go_enter Tryd.func4, Tryd.ntmps4
    go_upto_region 1 with fail
    generalize (w.alloc (.cells #[.int .i64 b, .slice p n c, .int .i64 u] 28)).alloc (.cells #[.int .i64 y, .int .i64 m, .int .i64 d, .int .i64 h, .int .i64 mi, .int .i64 s] 30) = W0 at *
    have zx := cell_lt x0
    have zd := cell_lt d0
    go_wp2_with (first | (go_at_call 9; refine HTA.out.mono ?_; rintro e w2 ⟨rfl, hb2⟩; have HB2 := Lib.hid hb2; clear hb2) | (go_at_call 8; refine (awake_any _ (HW.out.below HB2.out)).mono ?_; rintro e w3 ⟨rfl, hb3⟩; have HB3 := Lib.hid hb3; clear hb3))
    go_ret
    exact ⟨rfl, bt (bt A0.out HB2.out) HB3.out⟩
  · have hni : (120 : Int) < n := by omega
    clear hb hw hs hp hn
    go_enter Tryd.func4, Tryd.ntmps4
    go_upto_region 1 with fail
    generalize (w.alloc (.cells #[.int .i64 b, .slice p n c, .int .i64 u] 28)).alloc (.cells #[.int .i64 y, .int .i64 m, .int .i64 d, .int .i64 h, .int .i64 mi, .int .i64 s] 30) = W0 at *
    have zx := cell_lt x0
    have zd := cell_lt d0
    go_wp2_with (go_at_call 8; refine (awake_any _ HW.out).mono ?_; rintro e w3 ⟨rfl, hb3⟩; have HB3 := Lib.hid hb3; clear hb3)
    go_ret
    exact ⟨rfl, bt A0.out HB3.out⟩
end Go.Proofs.YtkepedfmebpbcaaDoor.Cal
