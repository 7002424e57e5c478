/- The walk over the law of covers. · The law StabilityCovers. -/
import Derived.Test.YthkndjkgokojmaaRt
import Derived.Test.YthkndjkgokojmaaRs
import Derived.Test.YthkndjkgokojmaaRh
import Derived.Test.YthkndjkgokojmaaAw
namespace Go.Proofs.Ythkndjkgokojmaa
section
open Go Go.RowKit Go.Shelf
theorem ochance_at (n k : Int) (w : World) (V : VarE) (hV : chanceE n k = V) :
    Calls Try.prog 15 #[.int .i64 n, .int .i64 k] w fun e w' => e = .returned (.tuple #[.agg #[.int .i64 V.n, .int .i64 V.d], .int .i64 V.e]) ∧ Below w.heap.size w w' := by
  subst hV; exact Chance_any n k w
theorem rchance_at (n k : Int) (w : World) (V : VarE) (hV : chanceE n k = V) :
    Calls Try.prog 16 #[.int .i64 n, .int .i64 k] w fun e w' => e = .returned (.tuple #[.agg #[.int .i64 V.n, .int .i64 V.d], .int .i64 V.e]) ∧ Below w.heap.size w w' := by
  subst hV; exact rChance_any n k w
theorem omed_at (l : List Int) (p : Option Addr) (cap : Nat) (N D : Int) (w : World) (hs : SliceIn p l.length (IntsAt w l)) (hN : I64 N) (hD : I64 D) (V : MedE) (hV : medE l N D = V) :
    Calls Try.prog 18 #[.slice p l.length cap, .agg #[.int .i64 N, .int .i64 D]] w fun e w' => e = .returned (.tuple #[.agg #[.int .i64 V.lo, .int .i64 V.hi, .int .i64 V.n, .int .i64 V.d], .int .i64 V.e]) ∧ Below w.heap.size w w' := by
  subst hV; exact omedian_any l p cap N D w hs hN hD
theorem rmed_at (l : List Int) (p : Option Addr) (cap : Nat) (N D : Int) (w : World) (hs : SliceIn p l.length (IntsAt w l)) (V : MedE) (hV : medE l N D = V) :
    Calls Try.prog 19 #[.slice p l.length cap, .agg #[.int .i64 N, .int .i64 D]] w fun e w' => e = .returned (.tuple #[.agg #[.int .i64 V.lo, .int .i64 V.hi, .int .i64 V.n, .int .i64 V.d], .int .i64 V.e]) ∧ Below w.heap.size w w' := by
  subst hV; exact rmedian_any l p cap N D w hs
theorem oexch_at (a b : List Int) (p q : Option Addr) (ca cb : Nat) (w : World) (hp : SliceIn p a.length (IntsAt w a)) (hq : SliceIn q b.length (IntsAt w b)) (hl : a.length + b.length ≤ 1000000) (V : VarE) (hV : exchE a b = V) :
    Calls Try.prog 20 #[.slice p a.length ca, .slice q b.length cb] w fun e w' => e = .returned (.tuple #[.agg #[.int .i64 V.n, .int .i64 V.d], .int .i64 V.e]) ∧ Below w.heap.size w w' := by
  subst hV; exact oexch_any a b p q ca cb w hp hq hl
theorem rexch_at (a b : List Int) (p q : Option Addr) (ca cb : Nat) (w : World) (hp : SliceIn p a.length (IntsAt w a)) (hq : SliceIn q b.length (IntsAt w b)) (hl : a.length + b.length ≤ 1000000) (V : VarE) (hV : exchE a b = V) :
    Calls Try.prog 21 #[.slice p a.length ca, .slice q b.length cb] w fun e w' => e = .returned (.tuple #[.agg #[.int .i64 V.n, .int .i64 V.d], .int .i64 V.e]) ∧ Below w.heap.size w w' := by
  subst hV; exact rexch_any a b p q ca cb w hp hq hl
/-- the arguments of the law, and the box of the fraction -/
structure CvAt (w X : World) (N D : Int) (l a b : List Int) (pl pa pb : Option Addr) : Prop where
  n0 : X.cell? ⟨w.heap.size, 0, none⟩ = some (.int .i64 N)
  d0 : X.cell? ⟨w.heap.size, 1, none⟩ = some (.int .i64 D)
  il : SliceIn pl l.length (IL X l w.heap.size)
  ia : SliceIn pa a.length (IL X a w.heap.size)
  ib : SliceIn pb b.length (IL X b w.heap.size)
  bel : Below w.heap.size w X
variable {w X Y : World} {N D : Int} {l a b : List Int} {pl pa pb q q1 q2 q3 : Option Addr} {S c : Nat}
theorem CvAt.below (h : CvAt w X N D l a b pl pa pb) (hb : Below X.heap.size X Y) : CvAt w Y N D l a b pl pa pb :=
  ⟨cell_below hb h.n0, cell_below hb h.d0, h.il.imp fun _ _ h => h.below hb, h.ia.imp fun _ _ h => h.below hb, h.ib.imp fun _ _ h => h.below hb, h.bel.trans (hb.mono h.bel.size)⟩
theorem CvAt.far {b' o' : Nat} {v : Value} (h : CvAt w X N D l a b pl pa pb) (hb : w.heap.size < b') : CvAt w (X.setCell ⟨b', o', none⟩ v) N D l a b pl pa pb := by
  have hne : b' ≠ w.heap.size := by omega
  exact ⟨by rw [World.cell?_setCell_far _ _ _ _ hne]; exact h.n0, by rw [World.cell?_setCell_far _ _ _ _ hne]; exact h.d0, h.il.imp fun _ _ h => h.far (by omega), h.ia.imp fun _ _ h => h.far (by omega), h.ib.imp fun _ _ h => h.far (by omega), h.bel.setCell (p := ⟨b', o', none⟩) (by show w.heap.size ≤ b'; omega) _⟩
/-- a copy that lies beyond S -/
structure CpAt (X : World) (S : Nat) (l : List Int) (q : Option Addr) : Prop where
  i : SliceIn q l.length (IntsAt X l)
  k : ∀ k o, q = some ⟨k, o, none⟩ → S ≤ k
theorem CpAt.below (h : CpAt X S l q) (hb : Below X.heap.size X Y) : CpAt Y S l q := ⟨h.i.imp fun _ _ h => h.below hb, h.k⟩
theorem CpAt.far {b' o' : Nat} {v : Value} (h : CpAt X S l q) (hb : b' < S) : CpAt (X.setCell ⟨b', o', none⟩ v) S l q :=
  ⟨SliceIn.set h.i fun k o e => Nat.lt_of_lt_of_le hb (h.k k o e), h.k⟩
theorem CvAt.start (pl pa pb : Option Addr) (hl : SliceIn pl l.length (IntsAt w l)) (ha : SliceIn pa a.length (IntsAt w a)) (hb : SliceIn pb b.length (IntsAt w b)) : CvAt w (w.alloc (.cells #[.int .i64 N, .int .i64 D] 24)) N D l a b pl pa pb := by
  have a0 := below_alloc (Below.refl w.heap.size w) (.cells #[.int .i64 N, .int .i64 D] 24)
  exact ⟨by simp, by simp, (il_of hl (Nat.le_refl _)).imp fun _ _ h => h.below a0, (il_of ha (Nat.le_refl _)).imp fun _ _ h => h.below a0, (il_of hb (Nat.le_refl _)).imp fun _ _ h => h.below a0, a0⟩
set_option maxRecDepth 100000 in
set_option maxHeartbeats 8000000 in
theorem covers_law (n k : Int) (l a b : List Int) (pl pa pb : Option Addr) (cl ca cb : Nat) (N D : Int) (w : World) (hl : SliceIn pl l.length (IntsAt w l)) (ha : SliceIn pa a.length (IntsAt w a)) (hb : SliceIn pb b.length (IntsAt w b))
    (hN : I64 N) (hD : I64 D) (h1 : l.length ≤ 1000) (h2 : a.length + b.length ≤ 1000) :
    Calls Try.prog 6 #[.int .i64 n, .int .i64 k, .slice pl l.length cl, .agg #[.int .i64 N, .int .i64 D], .slice pa a.length ca, .slice pb b.length cb] w fun e w' => e = .returned (.bool true) ∧ Below w.heap.size w w' := by
  have H0 : Hid (CvAt w (w.alloc (.cells #[.int .i64 N, .int .i64 D] 24)) N D l a b pl pa pb) := Lib.hid (CvAt.start pl pa pb hl ha hb)
  obtain ⟨⟨xn, xd, xe⟩, hx⟩ : ∃ V, chanceE n k = V := ⟨_, rfl⟩
  obtain ⟨⟨mlo, mhi, mn, md, me⟩, hm⟩ : ∃ V, medE l N D = V := ⟨_, rfl⟩
  obtain ⟨⟨yn, yd, ye⟩, hy⟩ : ∃ V, exchE a b = V := ⟨_, rfl⟩
  have HX := Lib.hid hx
  have HM := Lib.hid hm
  have HY := Lib.hid hy
  have HNI := Lib.hid hN
  have HDI := Lib.hid hD
  have HLA : Hid (l.length ≤ 1000000 ∧ a.length ≤ 1000000 ∧ b.length ≤ 1000000 ∧ a.length + b.length ≤ 1000000) := Lib.hid (by omega)
  clear hl ha hb hx hm hy hN hD h1 h2
  go_enter Try.func6, Try.ntmps6
  go_wp2_with fail
  refine (ochance_at n k _ _ HX.out).mono ?_
  rintro e ya ⟨rfl, hb⟩
  have hby := hb.trans ((below_alloc (Below.refl ya.heap.size ya) (.cells #[.int .i64 xn, .int .i64 xd] 24)).mono hb.size)
  have H1 := Lib.hid (H0.out.below hby)
  have L1 : Hid (w.heap.size < ya.heap.size) := Lib.hid (Nat.lt_of_lt_of_le (cell_lt H0.out.n0) hb.size)
  have R1 : Hid (RBox (ya.alloc (.cells #[.int .i64 xn, .int .i64 xd] 24)) ya.heap.size xn xd) := Lib.hid (RBox.new _ _ _ _)
  clear hb hby H0
  go_upto_region 2 with fail
  generalize ya.alloc (.cells #[.int .i64 xn, .int .i64 xd] 24) = X1 at *
  generalize ya.heap.size = g1 at *
  go_wp2_with fail
  refine (rchance_at n k _ _ HX.out).mono ?_
  rintro e yb ⟨rfl, hb⟩
  have hby := hb.trans ((below_alloc (Below.refl yb.heap.size yb) (.cells #[.int .i64 xn, .int .i64 xd] 24)).mono hb.size)
  have H2 := Lib.hid (H1.out.below hby)
  have L2 : Hid (g1 < yb.heap.size) := Lib.hid (Nat.lt_of_lt_of_le (cell_lt R1.out.c0) hb.size)
  have R1' := Lib.hid (R1.out.below hby)
  have R2 : Hid (RBox (yb.alloc (.cells #[.int .i64 xn, .int .i64 xd] 24)) yb.heap.size xn xd) := Lib.hid (RBox.new _ _ _ _)
  clear hb hby H1 R1 HX
  go_upto_region 3 with fail
  generalize yb.alloc (.cells #[.int .i64 xn, .int .i64 xd] 24) = X2 at *
  generalize yb.heap.size = g2 at *
  obtain ⟨a0, a1, -, -⟩ := R1'.out
  obtain ⟨b0, b1, -, -⟩ := R2.out
  have hz := cell_lt a0
  have hz2 := cell_lt b0
  go_upto_region 5 with fail
  clear a0 a1 b0 b1 hz hz2
  go_wp2_with fail
  refine (clone_all l pl cl _ (H2.out.il.imp fun _ _ h => h.2) HLA.out.1).mono ?_
  rintro e yc ⟨q1, c1, rfl, hq1, hk1, hb, -⟩
  have C1 : Hid (CpAt yc X2.heap.size l q1) := Lib.hid ⟨hq1, hk1⟩
  have H3 := Lib.hid (H2.out.below hb)
  have R1_3 := Lib.hid (R1'.out.below hb)
  have R2_3 := Lib.hid (R2.out.below hb)
  have L3 : Hid (g2 < X2.heap.size) := Lib.hid (cell_lt R2.out.c0)
  have LZ : Hid (X2.heap.size ≤ yc.heap.size) := Lib.hid hb.size
  clear hq1 hk1 hb H2 R1' R2
  generalize X2.heap.size = S at *
  go_wp2_with fail
  refine (clone_all a pa ca _ (H3.out.ia.imp fun _ _ h => h.2) HLA.out.2.1).mono ?_
  rintro e yc2 ⟨q2, c2, rfl, hq2, hk2, hb, -⟩
  have C2 : Hid (CpAt yc2 S a q2) := Lib.hid ⟨hq2, fun k o e => Nat.le_trans LZ.out (hk2 k o e)⟩
  have C1' := Lib.hid (C1.out.below hb)
  have H4 := Lib.hid (H3.out.below hb)
  have R1_4 := Lib.hid (R1_3.out.below hb)
  have R2_4 := Lib.hid (R2_3.out.below hb)
  have LZ' : Hid (S ≤ yc2.heap.size) := Lib.hid (Nat.le_trans LZ.out hb.size)
  clear hq2 hk2 hb H3 R1_3 R2_3 C1 LZ
  go_wp2_with fail
  refine (clone_all b pb cb _ (H4.out.ib.imp fun _ _ h => h.2) HLA.out.2.2.1).mono ?_
  rintro e ye' ⟨q3, c3, rfl, hq3, hk3, hb, -⟩
  have C3 : Hid (CpAt ye' S b q3) := Lib.hid ⟨hq3, fun k o e => Nat.le_trans LZ'.out (hk3 k o e)⟩
  have C2' := Lib.hid (C2.out.below hb)
  have C1'' := Lib.hid (C1'.out.below hb)
  have H5 := Lib.hid (H4.out.below hb)
  have R1_5 := Lib.hid (R1_4.out.below hb)
  have R2_5 := Lib.hid (R2_4.out.below hb)
  clear hq3 hk3 hb H4 R1_4 R2_4 C1' C2 LZ'
  go_upto_region 6 with fail
  have n0 := H5.out.n0
  have d0 := H5.out.d0
  have hz := cell_lt n0
  go_wp2_with fail
  refine (omed_at l q1 c1 N D _ C1''.out.i HNI.out HDI.out _ HM.out).mono ?_
  rintro e yf ⟨rfl, hb⟩
  have hby := hb.trans ((below_alloc (Below.refl yf.heap.size yf) (.cells #[.int .i64 mlo, .int .i64 mhi, .int .i64 mn, .int .i64 md] 51)).mono hb.size)
  have H6 := Lib.hid (H5.out.below hby)
  have D1 := Lib.hid (C1''.out.below hby)
  have D2 := Lib.hid (C2'.out.below hby)
  have D3 := Lib.hid (C3.out.below hby)
  have R1_6 := Lib.hid (R1_5.out.below hby)
  have R2_6 := Lib.hid (R2_5.out.below hby)
  have Q1 : Hid (QBox (yf.alloc (.cells #[.int .i64 mlo, .int .i64 mhi, .int .i64 mn, .int .i64 md] 51)) yf.heap.size mlo mhi mn md) := Lib.hid (QBox.new _ _ _ _ _ _)
  clear hb hby H5 C1'' C2' C3 R1_5 R2_5 n0 d0 hz
  go_upto_region 7 with fail
  generalize yf.alloc (.cells #[.int .i64 mlo, .int .i64 mhi, .int .i64 mn, .int .i64 md] 51) = X6 at *
  generalize yf.heap.size = g6 at *
  have n0 := H6.out.n0
  have d0 := H6.out.d0
  have hz := cell_lt n0
  go_wp2_with fail
  refine (rmed_at l pl cl N D _ (H6.out.il.imp fun _ _ h => h.2) _ HM.out).mono ?_
  rintro e yg ⟨rfl, hb⟩
  have hby := hb.trans ((below_alloc (Below.refl yg.heap.size yg) (.cells #[.int .i64 mlo, .int .i64 mhi, .int .i64 mn, .int .i64 md] 54)).mono hb.size)
  have H7 := Lib.hid (H6.out.below hby)
  have E1 := Lib.hid (D1.out.below hby)
  have E2 := Lib.hid (D2.out.below hby)
  have E3 := Lib.hid (D3.out.below hby)
  have R1_7 := Lib.hid (R1_6.out.below hby)
  have R2_7 := Lib.hid (R2_6.out.below hby)
  have Q1' := Lib.hid (Q1.out.below hby)
  have Q2 : Hid (QBox (yg.alloc (.cells #[.int .i64 mlo, .int .i64 mhi, .int .i64 mn, .int .i64 md] 54)) yg.heap.size mlo mhi mn md) := Lib.hid (QBox.new _ _ _ _ _ _)
  clear hb hby H6 D1 D2 D3 R1_6 R2_6 Q1 n0 d0 hz HM
  go_upto_region 8 with fail
  generalize yg.alloc (.cells #[.int .i64 mlo, .int .i64 mhi, .int .i64 mn, .int .i64 md] 54) = X7 at *
  generalize yg.heap.size = g7 at *
  obtain ⟨a0, a1, a2, a3, -, -, -, -⟩ := Q1'.out
  obtain ⟨b0, b1, b2, b3, -, -, -, -⟩ := Q2.out
  have hz := cell_lt a0
  have hz2 := cell_lt b0
  go_upto_region 10 with fail
  clear a0 a1 a2 a3 b0 b1 b2 b3 hz hz2 Q1' Q2
  go_wp2_with fail
  refine (oexch_at a b q2 q3 c2 c3 _ E2.out.i E3.out.i HLA.out.2.2.2 _ HY.out).mono ?_
  rintro e yh ⟨rfl, hb⟩
  have H8 := Lib.hid (H7.out.below hb)
  have F1 := Lib.hid (E1.out.below hb)
  have F2 := Lib.hid (E2.out.below hb)
  have F3 := Lib.hid (E3.out.below hb)
  have R1_8 := Lib.hid (R1_7.out.below hb)
  have R2_8 := Lib.hid (R2_7.out.below hb)
  clear hb H7 E1 E2 E3 R1_7 R2_7
  obtain ⟨a0, a1, f0, f1⟩ := R1_8.out
  have hz := cell_lt a0
  go_upto_region 11 with fail
  have hg1 : w.heap.size < g1 := L1.out
  have hg2 : g1 < S := Nat.lt_trans L2.out L3.out
  have H9 := Lib.hid ((H8.out.far (b' := g1) (o' := 0) (v := .int .i64 yn) hg1).far (b' := g1) (o' := 1) (v := .int .i64 yd) hg1)
  have G1 := Lib.hid ((F1.out.far (b' := g1) (o' := 0) (v := .int .i64 yn) hg2).far (b' := g1) (o' := 1) (v := .int .i64 yd) hg2)
  have G2 := Lib.hid ((F2.out.far (b' := g1) (o' := 0) (v := .int .i64 yn) hg2).far (b' := g1) (o' := 1) (v := .int .i64 yd) hg2)
  have G3 := Lib.hid ((F3.out.far (b' := g1) (o' := 0) (v := .int .i64 yn) hg2).far (b' := g1) (o' := 1) (v := .int .i64 yd) hg2)
  have R1_9 := Lib.hid (R1_8.out.store yn yd)
  have R2_9 := Lib.hid ((R2_8.out.far (b' := g1) (o := 0) (v := .int .i64 yn) (Nat.ne_of_lt L2.out)).far (b' := g1) (o := 1) (v := .int .i64 yd) (Nat.ne_of_lt L2.out))
  clear a0 a1 f0 f1 hz H8 F1 F2 F3 R1_8 R2_8
  generalize (yh.setCell ⟨g1, 0, none⟩ (.int .i64 yn)).setCell ⟨g1, 1, none⟩ (.int .i64 yd) = X9 at *
  go_wp2_with fail
  refine (rexch_at a b pa pb ca cb _ (H9.out.ia.imp fun _ _ h => h.2) (H9.out.ib.imp fun _ _ h => h.2) HLA.out.2.2.2 _ HY.out).mono ?_
  rintro e yi ⟨rfl, hb⟩
  have H10 := Lib.hid (H9.out.below hb)
  have F1 := Lib.hid (G1.out.below hb)
  have F2 := Lib.hid (G2.out.below hb)
  have F3 := Lib.hid (G3.out.below hb)
  have R1_10 := Lib.hid (R1_9.out.below hb)
  have R2_10 := Lib.hid (R2_9.out.below hb)
  clear hb H9 G1 G2 G3 R1_9 R2_9
  obtain ⟨a0, a1, f0, f1⟩ := R2_10.out
  have hz := cell_lt a0
  go_upto_region 12 with fail
  have hg3 : w.heap.size < g2 := Nat.lt_trans L1.out L2.out
  have hg4 : g2 < S := L3.out
  have H11 := Lib.hid ((H10.out.far (b' := g2) (o' := 0) (v := .int .i64 yn) hg3).far (b' := g2) (o' := 1) (v := .int .i64 yd) hg3)
  have G1 := Lib.hid ((F1.out.far (b' := g2) (o' := 0) (v := .int .i64 yn) hg4).far (b' := g2) (o' := 1) (v := .int .i64 yd) hg4)
  have G2 := Lib.hid ((F2.out.far (b' := g2) (o' := 0) (v := .int .i64 yn) hg4).far (b' := g2) (o' := 1) (v := .int .i64 yd) hg4)
  have G3 := Lib.hid ((F3.out.far (b' := g2) (o' := 0) (v := .int .i64 yn) hg4).far (b' := g2) (o' := 1) (v := .int .i64 yd) hg4)
  have R2_11 := Lib.hid (R2_10.out.store yn yd)
  have R1_11 := Lib.hid ((R1_10.out.far (b' := g2) (o := 0) (v := .int .i64 yn) (Nat.ne_of_gt L2.out)).far (b' := g2) (o := 1) (v := .int .i64 yd) (Nat.ne_of_gt L2.out))
  clear a0 a1 f0 f1 hz H10 F1 F2 F3 R1_10 R2_10
  generalize (yi.setCell ⟨g2, 0, none⟩ (.int .i64 yn)).setCell ⟨g2, 1, none⟩ (.int .i64 yd) = X11 at *
  obtain ⟨a0, a1, -, -⟩ := R1_11.out
  obtain ⟨b0, b1, -, -⟩ := R2_11.out
  have hz := cell_lt a0
  have hz2 := cell_lt b0
  clear hg1 hg2 hg3 hg4
  go_wp2_with fail
  refine (equal_yes l q1 pl c1 cl _ G1.out.i (H11.out.il.imp fun _ _ h => h.2) (by have := HLA.out.1; unfold maxLen; omega)).mono ?_
  rintro e yj ⟨rfl, hb⟩
  have H12 := Lib.hid (H11.out.below hb)
  have J2 := Lib.hid (G2.out.below hb)
  have J3 := Lib.hid (G3.out.below hb)
  clear hb H11 G1 G2 G3 a0 a1 b0 b1 hz hz2 R1_11 R2_11
  go_wp2_with fail
  refine (equal_yes a q2 pa c2 ca _ J2.out.i (H12.out.ia.imp fun _ _ h => h.2) (by have := HLA.out.2.1; unfold maxLen; omega)).mono ?_
  rintro e yk ⟨rfl, hb⟩
  have H13 := Lib.hid (H12.out.below hb)
  have J3' := Lib.hid (J3.out.below hb)
  clear hb H12 J2 J3
  go_wp2_with fail
  refine (equal_yes b q3 pb c3 cb _ J3'.out.i (H13.out.ib.imp fun _ _ h => h.2) (by have := HLA.out.2.2.1; unfold maxLen; omega)).mono ?_
  rintro e yl ⟨rfl, hb⟩
  have H14 := Lib.hid (H13.out.below hb)
  clear hb H13 J3'
  go_wp2
  go_ret
  exact ⟨rfl, H14.out.bel⟩
end
section
open Go Go.RowKit Go.Shelf
set_option maxRecDepth 100000 in
set_option maxHeartbeats 4000000 in
theorem claw_any (n k : Int) (l a b : List Int) (pl pa pb : Option Addr) (cl ca cb : Nat) (N D : Int) (w : World) (hl : SerIn w l pl) (ha : SerIn w a pa) (hb : SerIn w b pb) (hN : I64 N) (hD : I64 D) (m2 : a.length ≤ 17592186044416) (m3 : b.length ≤ 17592186044416) :
    Calls Try.prog 3 #[.int .i64 n, .int .i64 k, .slice pl l.length cl, .agg #[.int .i64 N, .int .i64 D], .slice pa a.length ca, .slice pb b.length cb] w fun e w' => e = .returned (.bool true) ∧ Below w.heap.size w w' := by
  have a0 := below_alloc (Below.refl w.heap.size w) (.cells #[.int .i64 N, .int .i64 D] 24)
  have A0 := Lib.hid a0
  have m1 := hl.1
  unfold maxLen at m1
  have ws : IntKind.i64.wrap ((a.length : Int) + b.length) = (a.length : Int) + b.length := IntWalk.i64_in _ (by omega)
  have c0 : (w.alloc (.cells #[.int .i64 N, .int .i64 D] 24)).cell? ⟨w.heap.size, 0, none⟩ = some (.int .i64 N) := by simp
  have c1 : (w.alloc (.cells #[.int .i64 N, .int .i64 D] 24)).cell? ⟨w.heap.size, 1, none⟩ = some (.int .i64 D) := by simp
  have HL : Hid (l.length ≤ 60 → a.length + b.length ≤ 120 → Calls Try.prog 6 #[.int .i64 n, .int .i64 k, .slice pl l.length cl, .agg #[.int .i64 N, .int .i64 D], .slice pa a.length ca, .slice pb b.length cb] (w.alloc (.cells #[.int .i64 N, .int .i64 D] 24)) fun e w' => e = .returned (.bool true) ∧ Below (w.alloc (.cells #[.int .i64 N, .int .i64 D] 24)).heap.size (w.alloc (.cells #[.int .i64 N, .int .i64 D] 24)) w') :=
    Lib.hid (fun h1 h2 => covers_law n k l a b pl pa pb cl ca cb N D _ (hl.2.imp fun _ _ h => h.below a0) (ha.2.imp fun _ _ h => h.below a0) (hb.2.imp fun _ _ h => h.below a0) hN hD (by omega) (by omega))
  clear hl ha hb hN hD a0
  have hend : ∀ (x : World), Below w.heap.size w x → Calls Try.prog 7 #[] x fun e w' => e = .returned (.bool true) ∧ Below w.heap.size w w' := fun x hx => (awake_any x).mono fun _ _ ⟨h1, h2⟩ => ⟨h1, hx.trans (h2.mono hx.size)⟩
  have HE := Lib.hid hend
  clear hend
  by_cases h60 : 60 < l.length
  · have hi : (60 : Int) < (l.length : Int) := by omega
    clear HL
    go_enter Try.func3, Try.ntmps3
    go_wp2_with fail
    refine (HE.out _ A0.out).mono ?_
    rintro e w2 ⟨rfl, hb⟩
    have HF := Lib.hid hb
    clear hb
    go_wp2
    go_ret
    exact ⟨rfl, HF.out⟩
  · have hi : ¬ ((60 : Int) < (l.length : Int)) := by omega
    by_cases h13 : 13 < a.length + b.length
    · have hj : (13 : Int) < (a.length : Int) + b.length := by omega
      by_cases h16 : a.length + b.length ≤ 16
      · have hk : (a.length : Int) + b.length ≤ 16 := by omega
        clear HL h60 h13 h16
        go_enter Try.func3, Try.ntmps3
        go_wp2_with fail
        refine (HE.out _ A0.out).mono ?_
        rintro e w2 ⟨rfl, hb⟩
        have HF := Lib.hid hb
        clear hb
        go_wp2
        go_ret
        exact ⟨rfl, HF.out⟩
      · have hk : ¬ ((a.length : Int) + b.length ≤ 16) := by omega
        by_cases h120 : 120 < a.length + b.length
        · have hm : (120 : Int) < (a.length : Int) + b.length := by omega
          clear HL h60 h13 h16 h120
          go_enter Try.func3, Try.ntmps3
          go_wp2_with fail
          refine (HE.out _ A0.out).mono ?_
          rintro e w2 ⟨rfl, hb⟩
          have HF := Lib.hid hb
          clear hb
          go_wp2
          go_ret
          exact ⟨rfl, HF.out⟩
        · have hm : ¬ ((120 : Int) < (a.length : Int) + b.length) := by omega
          have HV := Lib.hid (HL.out (by omega) (by omega))
          clear HL h60 h13 h16 h120
          go_enter Try.func3, Try.ntmps3
          go_wp2_with fail
          refine HV.out.mono ?_
          rintro e w1 ⟨rfl, hb⟩
          have HB := Lib.hid (A0.out.trans (hb.mono A0.out.size))
          clear hb HV c0 c1
          go_wp2_with fail
          refine (HE.out _ HB.out).mono ?_
          rintro e w2 ⟨rfl, hb⟩
          have HF := Lib.hid hb
          clear hb
          go_wp2
          go_ret
          exact ⟨rfl, HF.out⟩
    · have hj : ¬ ((13 : Int) < (a.length : Int) + b.length) := by omega
      have hm : ¬ ((120 : Int) < (a.length : Int) + b.length) := by omega
      have HV := Lib.hid (HL.out (by omega) (by omega))
      clear HL h60 h13
      go_enter Try.func3, Try.ntmps3
      go_wp2_with fail
      refine HV.out.mono ?_
      rintro e w1 ⟨rfl, hb⟩
      have HB := Lib.hid (A0.out.trans (hb.mono A0.out.size))
      clear hb HV c0 c1
      go_wp2_with fail
      refine (HE.out _ HB.out).mono ?_
      rintro e w2 ⟨rfl, hb⟩
      have HF := Lib.hid hb
      clear hb
      go_wp2
      go_ret
      exact ⟨rfl, HF.out⟩
end
end Go.Proofs.Ythkndjkgokojmaa
