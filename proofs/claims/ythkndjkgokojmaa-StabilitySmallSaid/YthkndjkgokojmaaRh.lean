/- The walk over the law StabilityVariances. -/
import Derived.Test.YthkndjkgokojmaaRg
import Derived.Test.YthkndjkgokojmaaQc
import Derived.Deep.CutRange
namespace Go.Proofs.Ythkndjkgokojmaa
open Go Go.RowKit Go.Shelf
def IL (X : World) (l : List Int) (B b o : Nat) : Prop := b < B ∧ IntsAt X l b o
/-- the boxes and the phases of the two series -/
structure VarsAt (w X : World) (b5 : Nat) (tau : Int) (l : List Int) (p p1 p2 : Option Addr) (cap c1 c2 : Nat) : Prop where
  i0 : SliceIn p l.length (IL X l b5)
  i1 : SliceIn p1 l.length (IL X l b5)
  i2 : SliceIn p2 l.length (IL X l b5)
  r0 : SAt X w.heap.size tau (.slice p l.length cap)
  r1 : SAt X b5 tau (.slice p1 l.length c1)
  r2 : SAt X (b5 + 1) tau (.slice p2 l.length c2)
  bel : Below w.heap.size w X
  lt : w.heap.size < b5
  len : l.length ≤ 200
variable {w X Y : World} {b5 : Nat} {tau : Int} {l : List Int} {p p1 p2 : Option Addr} {cap c1 c2 : Nat}
theorem IL.below {B b o : Nat} (h : IL X l B b o) (hb : Below X.heap.size X Y) : IL Y l B b o := ⟨h.1, h.2.below hb⟩
theorem VarsAt.below (h : VarsAt w X b5 tau l p p1 p2 cap c1 c2) (hb : Below X.heap.size X Y) : VarsAt w Y b5 tau l p p1 p2 cap c1 c2 :=
  ⟨h.i0.imp fun _ _ h => h.below hb, h.i1.imp fun _ _ h => h.below hb, h.i2.imp fun _ _ h => h.below hb, h.r0.below hb, h.r1.below hb, h.r2.below hb, h.bel.trans (hb.mono h.bel.size), h.lt, h.len⟩
theorem IL.far {B b o b' o' : Nat} {v : Value} (h : IL X l B b o) (hb : B ≤ b') : IL (X.setCell ⟨b', o', none⟩ v) l B b o := ⟨h.1, fun i hi => by
  have := h.1
  rw [World.cell?_setCell_far _ _ _ _ (by show b' ≠ b; omega)]; exact h.2 i hi⟩
theorem SAt.far {b b' o' : Nat} {v u : Value} (h : SAt X b tau v) (hb : b' ≠ b) : SAt (X.setCell ⟨b', o', none⟩ u) b tau v := ⟨by rw [World.cell?_setCell_far _ _ _ _ hb]; exact h.1, by rw [World.cell?_setCell_far _ _ _ _ hb]; exact h.2⟩
theorem VarsAt.far {b' o' : Nat} {v : Value} (h : VarsAt w X b5 tau l p p1 p2 cap c1 c2) (hb : b5 + 1 < b') : VarsAt w (X.setCell ⟨b', o', none⟩ v) b5 tau l p p1 p2 cap c1 c2 := by
  have hlt := h.lt
  exact ⟨h.i0.imp fun _ _ h => h.far (by omega), h.i1.imp fun _ _ h => h.far (by omega), h.i2.imp fun _ _ h => h.far (by omega), h.r0.far (by omega), h.r1.far (by omega), h.r2.far (by omega), h.bel.setCell (p := ⟨b', o', none⟩) (by show w.heap.size ≤ b'; omega) _, hlt, h.len⟩
theorem VarsAt.s1 (h : VarsAt w X b5 tau l p p1 p2 cap c1 c2) : SerIn X l p1 := ⟨by have := h.len; unfold maxLen; omega, h.i1.imp fun _ _ h => h.2⟩
theorem VarsAt.s2 (h : VarsAt w X b5 tau l p p1 p2 cap c1 c2) : SerIn X l p2 := ⟨by have := h.len; unfold maxLen; omega, h.i2.imp fun _ _ h => h.2⟩
theorem VarsAt.s0 (h : VarsAt w X b5 tau l p p1 p2 cap c1 c2) : SerIn X l p := ⟨by have := h.len; unfold maxLen; omega, h.i0.imp fun _ _ h => h.2⟩
theorem il_of {B : Nat} (h : SliceIn p l.length (IntsAt X l)) (hB : X.heap.size ≤ B) : SliceIn p l.length (IL X l B) := by
  by_cases h0 : l.length = 0
  · exact .inl h0
  · obtain ⟨b, o, rfl, hi⟩ := h.resolve_left h0
    exact .inr ⟨b, o, rfl, by have := cell_lt (hi 0 (by omega)); omega, hi⟩
theorem check_keep (X : World) (tau : Int) (l : List Int) (p : Option Addr) (cap : Nat) (W : World) (hX : Below X.heap.size X W) (hs : SerIn X l p) :
    Calls Try.prog 26 #[.agg #[.int .i64 tau, .slice p l.length cap]] W fun e w' => e = .returned (.int .i64 (checkSt tau l)) ∧ Below X.heap.size X w' :=
  (check_any tau l p cap W (hs.below hX)).mono fun _ _ ⟨h1, h2⟩ => ⟨h1, hX.trans (h2.mono hX.size)⟩
theorem rcheck_keep (X : World) (tau : Int) (l : List Int) (p : Option Addr) (cap : Nat) (W : World) (hX : Below X.heap.size X W) (hs : SerIn X l p) :
    Calls Try.prog 27 #[.agg #[.int .i64 tau, .slice p l.length cap]] W fun e w' => e = .returned (.int .i64 (checkSt tau l)) ∧ Below X.heap.size X w' :=
  (rcheck_any tau l p cap W (hs.below hX)).mono fun _ _ ⟨h1, h2⟩ => ⟨h1, hX.trans (h2.mono hX.size)⟩
theorem squaresL_len (tau : Int) (l : List Int) (m : Int) : (squaresL tau l m).length ≤ maxLen := by
  unfold squaresL
  by_cases h : stepErr tau l m = 0
  · rw [dif_pos h]
    have h1 := (stepErr_zero h).1
    unfold sqL2
    rw [List.length_map, secL_len]
    unfold cntS maxLen
    have := Nat.div_le_self (l.length - 2 * m.toNat + 1 - 1) 1
    omega
  · rw [dif_neg h]; simp [maxLen]
set_option maxRecDepth 100000 in
set_option maxHeartbeats 8000000 in
theorem variances_law (tau : Int) (l : List Int) (p : Option Addr) (cap : Nat) (m : Int) (w : World) (hs : SerIn w l p) (h200 : l.length ≤ 200) :
    Calls Try.prog 8 #[.agg #[.int .i64 tau, .slice p l.length cap], .int .i64 m] w fun e w' => e = .returned (.bool true) ∧ Below w.heap.size w w' := by
  have a0 := below_alloc (Below.refl w.heap.size w) (.cells #[.int .i64 tau, .slice p l.length cap] 28)
  have HSE := Lib.hid (series_any tau l p cap _ (hs.below a0).2 (by omega))
  have HS := Lib.hid hs
  have A0 := Lib.hid a0
  have k0 : Hid (SAt (w.alloc (.cells #[.int .i64 tau, .slice p l.length cap] 28)) w.heap.size tau (.slice p l.length cap)) := Lib.hid ⟨by simp, by simp⟩
  obtain ⟨⟨n0, d0, e0⟩, hv0⟩ : ∃ V, allanE tau l m = V := ⟨_, rfl⟩
  obtain ⟨⟨n1, d1, e1⟩, hv1⟩ : ∃ V, overlappingE tau l m = V := ⟨_, rfl⟩
  obtain ⟨⟨n2, d2, e2⟩, hv2⟩ : ∃ V, modifiedE tau l m = V := ⟨_, rfl⟩
  obtain ⟨⟨n3, d3, e3⟩, hv3⟩ : ∃ V, hadamardE tau l m = V := ⟨_, rfl⟩
  obtain ⟨⟨n4, d4, e4⟩, hv4⟩ : ∃ V, timeE tau l m = V := ⟨_, rfl⟩
  have HV0 := Lib.hid hv0
  have HV1 := Lib.hid hv1
  have HV2 := Lib.hid hv2
  have HV3 := Lib.hid hv3
  have HV4 := Lib.hid hv4
  clear hs a0 hv0 hv1 hv2 hv3 hv4
  go_enter Try.func8, Try.ntmps8
  go_wp2_with fail
  refine HSE.out.mono ?_
  rintro e y1 ⟨p1, c1, p2, c2, rfl, hs1, hs2, hb⟩
  have hby := hb.trans ((below_alloc (below_alloc (Below.refl y1.heap.size y1) (.cells #[.int .i64 tau, .slice p1 l.length c1] 28)) (.cells #[.int .i64 tau, .slice p2 l.length c2] 63)).mono hb.size)
  have hbz : Below y1.heap.size y1 ((y1.alloc (.cells #[.int .i64 tau, .slice p1 l.length c1] 28)).alloc (.cells #[.int .i64 tau, .slice p2 l.length c2] 63)) := below_alloc (below_alloc (Below.refl _ _) _) _
  have hlt : w.heap.size < y1.heap.size := by have := hb.size; simp at this; omega
  have HVA : Hid (VarsAt w ((y1.alloc (.cells #[.int .i64 tau, .slice p1 l.length c1] 28)).alloc (.cells #[.int .i64 tau, .slice p2 l.length c2] 63)) y1.heap.size tau l p p1 p2 cap c1 c2) :=
    Lib.hid ⟨(il_of ((HS.out.below A0.out).below hb).2 (Nat.le_refl _)).imp fun _ _ h => h.below hbz, (il_of hs1 (Nat.le_refl _)).imp fun _ _ h => h.below hbz, (il_of hs2 (Nat.le_refl _)).imp fun _ _ h => h.below hbz,
      k0.out.below hby, ⟨by simp [go_sem], by simp [go_sem]⟩, ⟨by simp [go_sem], by simp [go_sem]⟩, A0.out.trans (hby.mono A0.out.size), hlt, h200⟩
  have HSZ := Lib.hid (show y1.heap.size + 1 < ((y1.alloc (.cells #[.int .i64 tau, .slice p1 l.length c1] 28)).alloc (.cells #[.int .i64 tau, .slice p2 l.length c2] 63)).heap.size by simp)
  clear hb hby hbz hlt hs1 hs2 HSE k0 HS A0
  go_upto_region 2 with fail
  generalize (y1.alloc (.cells #[.int .i64 tau, .slice p1 l.length c1] 28)).alloc (.cells #[.int .i64 tau, .slice p2 l.length c2] 63) = X1 at *
  obtain ⟨g0, g1⟩ := HVA.out.r1
  obtain ⟨h0, h1⟩ := HVA.out.r2
  have hz := cell_lt g0
  have hz2 := cell_lt h0
  have hB0 : Below X1.heap.size X1 X1.drew := Below.drew (Below.refl _ _)
  go_cut [22] from 18 to 21 (fun s wx => s = .bool false ∧ Hid (Below X1.heap.size X1 wx))
  case first =>
    go_region_held3 (fun w' => w'.cell? ⟨y1.heap.size, 0, none⟩ = some (.int .i64 tau) ∧ w'.cell? ⟨y1.heap.size, 1, none⟩ = some (.slice p1 l.length c1) ∧ w'.cell? ⟨y1.heap.size + 1, 0, none⟩ = some (.int .i64 tau) ∧ w'.cell? ⟨y1.heap.size + 1, 1, none⟩ = some (.slice p2 l.length c2))
      (first | exact ⟨g0, g1, h0, h1⟩ | exact ⟨cell_below hbk g0, cell_below hbk g1, cell_below hbk h0, cell_below hbk h1⟩)
      (first | (go_at_call 26; refine (check_keep X1 tau l p1 c1 _ (by first | exact hbk | exact hB0) HVA.out.s1).mono ?_; rintro e wk ⟨rfl, hbk⟩) |
        (go_at_call 27; refine (rcheck_keep X1 tau l p2 c2 _ (by first | exact hbk | exact hB0) HVA.out.s2).mono ?_; rintro e wk ⟨rfl, hbk⟩))
    all_goals
      go_wp2_with fail
      go_meet
      exact ⟨by simp, Lib.hid hbk⟩
  case rest =>
  obtain ⟨rfl, HB0⟩ := hcut
  have HVB := Lib.hid (HVA.out.below HB0.out)
  have HSB := Lib.hid (Nat.lt_of_lt_of_le HSZ.out HB0.out.size)
  clear HVA HSZ HB0 g0 g1 h0 h1 hz hz2 hB0
  go_upto_region 4 with fail
  generalize wc = X2 at *
  obtain ⟨g0, g1⟩ := HVB.out.r1
  have hz := cell_lt g0
  go_wp2_with fail
  refine (oallan_at tau l p1 c1 m _ HVB.out.s1 _ HV0.out).mono ?_
  rintro e ya0 ⟨rfl, hb⟩
  have hbx := below_alloc (Below.refl ya0.heap.size ya0) (.cells #[.int .i64 n0, .int .i64 d0] 24)
  have hby := hb.trans (hbx.mono hb.size)
  have HVA0 := Lib.hid (HVB.out.below hby)
  have hb7 : y1.heap.size + 1 < ya0.heap.size := Nat.lt_of_lt_of_le HSB.out hb.size
  have HB7 := Lib.hid hb7
  have J70 : Hid (RBox (ya0.alloc (.cells #[.int .i64 n0, .int .i64 d0] 24)) ya0.heap.size n0 d0) := Lib.hid (RBox.new _ _ _ _)
  have hs7 : ya0.heap.size < (ya0.alloc (.cells #[.int .i64 n0, .int .i64 d0] 24)).heap.size := by simp
  have HS7 := Lib.hid hs7
  clear hb hbx hby hb7 hs7 g0 g1 hz HVB HSB
  go_upto_region 5 with fail
  generalize ya0.alloc (.cells #[.int .i64 n0, .int .i64 d0] 24) = XA0 at *
  obtain ⟨g0, g1⟩ := HVA0.out.r2
  have hz := cell_lt g0
  go_wp2_with fail
  refine (rallan_at tau l p2 c2 m _ HVA0.out.s2 _ HV0.out).mono ?_
  rintro e yb0 ⟨rfl, hb⟩
  have hbx := below_alloc (Below.refl yb0.heap.size yb0) (.cells #[.int .i64 n0, .int .i64 d0] 24)
  have hby := hb.trans (hbx.mono hb.size)
  have HVB0 := Lib.hid (HVA0.out.below hby)
  have HNE : Hid (ya0.heap.size ≠ yb0.heap.size) := Lib.hid (by have := HS7.out; have := hb.size; omega)
  have HB9 : Hid (y1.heap.size + 1 < yb0.heap.size) := Lib.hid (by have := HS7.out; have := hb.size; have := HB7.out; omega)
  have J7b := Lib.hid (J70.out.below hby)
  have J9b : Hid (RBox (yb0.alloc (.cells #[.int .i64 n0, .int .i64 d0] 24)) yb0.heap.size n0 d0) := Lib.hid (RBox.new _ _ _ _)
  clear hb hbx hby g0 g1 hz HVA0 J70 HS7
  go_upto_region 6 with fail
  generalize yb0.alloc (.cells #[.int .i64 n0, .int .i64 d0] 24) = XB0 at *
  obtain ⟨g0, g1, -, -⟩ := J7b.out
  obtain ⟨h0, h1, -, -⟩ := J9b.out
  have hz := cell_lt g0
  have hz2 := cell_lt h0
  go_upto_region 8 with fail
  clear g0 g1 h0 h1 hz hz2
  obtain ⟨g0, g1⟩ := HVB0.out.r1
  have hz := cell_lt g0
  go_wp2_with fail
  refine (ooverlapping_at tau l p1 c1 m _ HVB0.out.s1 _ HV1.out).mono ?_
  rintro e ya1 ⟨rfl, hb⟩
  have HVP := Lib.hid (HVB0.out.below hb)
  have J7P := Lib.hid (J7b.out.below hb)
  have J9P := Lib.hid (J9b.out.below hb)
  obtain ⟨k0, k1, k2, k3⟩ := J7P.out
  have hz7 := cell_lt k0
  have HVA1 := Lib.hid ((HVP.out.far (b' := ya0.heap.size) (o' := 0) (v := .int .i64 n1) HB7.out).far (b' := ya0.heap.size) (o' := 1) (v := .int .i64 d1) HB7.out)
  have J71 := Lib.hid (J7P.out.store n1 d1)
  have J91 := Lib.hid ((J9P.out.far (b' := ya0.heap.size) (o := 0) (v := .int .i64 n1) HNE.out).far (b' := ya0.heap.size) (o := 1) (v := .int .i64 d1) HNE.out)
  clear hb HVB0 J7b J9b HVP J7P J9P g0 g1 hz
  go_upto_region 9 with fail
  clear k0 k1 k2 k3 hz7
  generalize ((ya1.setCell ⟨ya0.heap.size, 0, none⟩ (.int .i64 n1)).setCell ⟨ya0.heap.size, 1, none⟩ (.int .i64 d1)) = XA1 at *
  obtain ⟨g0, g1⟩ := HVA1.out.r2
  have hz := cell_lt g0
  go_wp2_with fail
  refine (roverlapping_at tau l p2 c2 m _ HVA1.out.s2 _ HV1.out).mono ?_
  rintro e yb1 ⟨rfl, hb⟩
  have HVP := Lib.hid (HVA1.out.below hb)
  have J7P := Lib.hid (J71.out.below hb)
  have J9P := Lib.hid (J91.out.below hb)
  obtain ⟨k0, k1, k2, k3⟩ := J9P.out
  have hz7 := cell_lt k0
  have HVB1 := Lib.hid ((HVP.out.far (b' := yb0.heap.size) (o' := 0) (v := .int .i64 n1) HB9.out).far (b' := yb0.heap.size) (o' := 1) (v := .int .i64 d1) HB9.out)
  have J9b := Lib.hid (J9P.out.store n1 d1)
  have J7b := Lib.hid ((J7P.out.far (b' := yb0.heap.size) (o := 0) (v := .int .i64 n1) HNE.out.symm).far (b' := yb0.heap.size) (o := 1) (v := .int .i64 d1) HNE.out.symm)
  clear hb HVA1 J71 J91 HVP J7P J9P g0 g1 hz
  go_upto_region 10 with fail
  clear k0 k1 k2 k3 hz7
  generalize ((yb1.setCell ⟨yb0.heap.size, 0, none⟩ (.int .i64 n1)).setCell ⟨yb0.heap.size, 1, none⟩ (.int .i64 d1)) = XB1 at *
  obtain ⟨g0, g1, -, -⟩ := J7b.out
  obtain ⟨h0, h1, -, -⟩ := J9b.out
  have hz := cell_lt g0
  have hz2 := cell_lt h0
  go_upto_region 12 with fail
  clear g0 g1 h0 h1 hz hz2
  obtain ⟨g0, g1⟩ := HVB1.out.r1
  have hz := cell_lt g0
  go_wp2_with fail
  refine (omodified_at tau l p1 c1 m _ HVB1.out.s1 _ HV2.out).mono ?_
  rintro e ya2 ⟨rfl, hb⟩
  have HVP := Lib.hid (HVB1.out.below hb)
  have J7P := Lib.hid (J7b.out.below hb)
  have J9P := Lib.hid (J9b.out.below hb)
  obtain ⟨k0, k1, k2, k3⟩ := J7P.out
  have hz7 := cell_lt k0
  have HVA2 := Lib.hid ((HVP.out.far (b' := ya0.heap.size) (o' := 0) (v := .int .i64 n2) HB7.out).far (b' := ya0.heap.size) (o' := 1) (v := .int .i64 d2) HB7.out)
  have J72 := Lib.hid (J7P.out.store n2 d2)
  have J92 := Lib.hid ((J9P.out.far (b' := ya0.heap.size) (o := 0) (v := .int .i64 n2) HNE.out).far (b' := ya0.heap.size) (o := 1) (v := .int .i64 d2) HNE.out)
  clear hb HVB1 J7b J9b HVP J7P J9P g0 g1 hz
  go_upto_region 13 with fail
  clear k0 k1 k2 k3 hz7
  generalize ((ya2.setCell ⟨ya0.heap.size, 0, none⟩ (.int .i64 n2)).setCell ⟨ya0.heap.size, 1, none⟩ (.int .i64 d2)) = XA2 at *
  obtain ⟨g0, g1⟩ := HVA2.out.r2
  have hz := cell_lt g0
  go_wp2_with fail
  refine (rmodified_at tau l p2 c2 m _ HVA2.out.s2 _ HV2.out).mono ?_
  rintro e yb2 ⟨rfl, hb⟩
  have HVP := Lib.hid (HVA2.out.below hb)
  have J7P := Lib.hid (J72.out.below hb)
  have J9P := Lib.hid (J92.out.below hb)
  obtain ⟨k0, k1, k2, k3⟩ := J9P.out
  have hz7 := cell_lt k0
  have HVB2 := Lib.hid ((HVP.out.far (b' := yb0.heap.size) (o' := 0) (v := .int .i64 n2) HB9.out).far (b' := yb0.heap.size) (o' := 1) (v := .int .i64 d2) HB9.out)
  have J9b := Lib.hid (J9P.out.store n2 d2)
  have J7b := Lib.hid ((J7P.out.far (b' := yb0.heap.size) (o := 0) (v := .int .i64 n2) HNE.out.symm).far (b' := yb0.heap.size) (o := 1) (v := .int .i64 d2) HNE.out.symm)
  clear hb HVA2 J72 J92 HVP J7P J9P g0 g1 hz
  go_upto_region 14 with fail
  clear k0 k1 k2 k3 hz7
  generalize ((yb2.setCell ⟨yb0.heap.size, 0, none⟩ (.int .i64 n2)).setCell ⟨yb0.heap.size, 1, none⟩ (.int .i64 d2)) = XB2 at *
  obtain ⟨g0, g1, -, -⟩ := J7b.out
  obtain ⟨h0, h1, -, -⟩ := J9b.out
  have hz := cell_lt g0
  have hz2 := cell_lt h0
  go_upto_region 16 with fail
  clear g0 g1 h0 h1 hz hz2
  obtain ⟨g0, g1⟩ := HVB2.out.r1
  have hz := cell_lt g0
  go_wp2_with fail
  refine (ohadamard_at tau l p1 c1 m _ HVB2.out.s1 _ HV3.out).mono ?_
  rintro e ya3 ⟨rfl, hb⟩
  have HVP := Lib.hid (HVB2.out.below hb)
  have J7P := Lib.hid (J7b.out.below hb)
  have J9P := Lib.hid (J9b.out.below hb)
  obtain ⟨k0, k1, k2, k3⟩ := J7P.out
  have hz7 := cell_lt k0
  have HVA3 := Lib.hid ((HVP.out.far (b' := ya0.heap.size) (o' := 0) (v := .int .i64 n3) HB7.out).far (b' := ya0.heap.size) (o' := 1) (v := .int .i64 d3) HB7.out)
  have J73 := Lib.hid (J7P.out.store n3 d3)
  have J93 := Lib.hid ((J9P.out.far (b' := ya0.heap.size) (o := 0) (v := .int .i64 n3) HNE.out).far (b' := ya0.heap.size) (o := 1) (v := .int .i64 d3) HNE.out)
  clear hb HVB2 J7b J9b HVP J7P J9P g0 g1 hz
  go_upto_region 17 with fail
  clear k0 k1 k2 k3 hz7
  generalize ((ya3.setCell ⟨ya0.heap.size, 0, none⟩ (.int .i64 n3)).setCell ⟨ya0.heap.size, 1, none⟩ (.int .i64 d3)) = XA3 at *
  obtain ⟨g0, g1⟩ := HVA3.out.r2
  have hz := cell_lt g0
  go_wp2_with fail
  refine (rhadamard_at tau l p2 c2 m _ HVA3.out.s2 _ HV3.out).mono ?_
  rintro e yb3 ⟨rfl, hb⟩
  have HVP := Lib.hid (HVA3.out.below hb)
  have J7P := Lib.hid (J73.out.below hb)
  have J9P := Lib.hid (J93.out.below hb)
  obtain ⟨k0, k1, k2, k3⟩ := J9P.out
  have hz7 := cell_lt k0
  have HVB3 := Lib.hid ((HVP.out.far (b' := yb0.heap.size) (o' := 0) (v := .int .i64 n3) HB9.out).far (b' := yb0.heap.size) (o' := 1) (v := .int .i64 d3) HB9.out)
  have J9b := Lib.hid (J9P.out.store n3 d3)
  have J7b := Lib.hid ((J7P.out.far (b' := yb0.heap.size) (o := 0) (v := .int .i64 n3) HNE.out.symm).far (b' := yb0.heap.size) (o := 1) (v := .int .i64 d3) HNE.out.symm)
  clear hb HVA3 J73 J93 HVP J7P J9P g0 g1 hz
  go_upto_region 18 with fail
  clear k0 k1 k2 k3 hz7
  generalize ((yb3.setCell ⟨yb0.heap.size, 0, none⟩ (.int .i64 n3)).setCell ⟨yb0.heap.size, 1, none⟩ (.int .i64 d3)) = XB3 at *
  obtain ⟨g0, g1, -, -⟩ := J7b.out
  obtain ⟨h0, h1, -, -⟩ := J9b.out
  have hz := cell_lt g0
  have hz2 := cell_lt h0
  go_upto_region 20 with fail
  clear g0 g1 h0 h1 hz hz2
  obtain ⟨g0, g1⟩ := HVB3.out.r1
  have hz := cell_lt g0
  go_wp2_with fail
  refine (otime_at tau l p1 c1 m _ HVB3.out.s1 _ HV4.out).mono ?_
  rintro e ya4 ⟨rfl, hb⟩
  have HVP := Lib.hid (HVB3.out.below hb)
  have J7P := Lib.hid (J7b.out.below hb)
  have J9P := Lib.hid (J9b.out.below hb)
  obtain ⟨k0, k1, k2, k3⟩ := J7P.out
  have hz7 := cell_lt k0
  have HVA4 := Lib.hid ((HVP.out.far (b' := ya0.heap.size) (o' := 0) (v := .int .i64 n4) HB7.out).far (b' := ya0.heap.size) (o' := 1) (v := .int .i64 d4) HB7.out)
  have J74 := Lib.hid (J7P.out.store n4 d4)
  have J94 := Lib.hid ((J9P.out.far (b' := ya0.heap.size) (o := 0) (v := .int .i64 n4) HNE.out).far (b' := ya0.heap.size) (o := 1) (v := .int .i64 d4) HNE.out)
  clear hb HVB3 J7b J9b HVP J7P J9P g0 g1 hz
  go_upto_region 21 with fail
  clear k0 k1 k2 k3 hz7
  generalize ((ya4.setCell ⟨ya0.heap.size, 0, none⟩ (.int .i64 n4)).setCell ⟨ya0.heap.size, 1, none⟩ (.int .i64 d4)) = XA4 at *
  obtain ⟨g0, g1⟩ := HVA4.out.r2
  have hz := cell_lt g0
  go_wp2_with fail
  refine (rtime_at tau l p2 c2 m _ HVA4.out.s2 _ HV4.out).mono ?_
  rintro e yb4 ⟨rfl, hb⟩
  have HVP := Lib.hid (HVA4.out.below hb)
  have J7P := Lib.hid (J74.out.below hb)
  have J9P := Lib.hid (J94.out.below hb)
  obtain ⟨k0, k1, k2, k3⟩ := J9P.out
  have hz7 := cell_lt k0
  have HVB4 := Lib.hid ((HVP.out.far (b' := yb0.heap.size) (o' := 0) (v := .int .i64 n4) HB9.out).far (b' := yb0.heap.size) (o' := 1) (v := .int .i64 d4) HB9.out)
  have J9b := Lib.hid (J9P.out.store n4 d4)
  have J7b := Lib.hid ((J7P.out.far (b' := yb0.heap.size) (o := 0) (v := .int .i64 n4) HNE.out.symm).far (b' := yb0.heap.size) (o := 1) (v := .int .i64 d4) HNE.out.symm)
  clear hb HVA4 J74 J94 HVP J7P J9P g0 g1 hz
  go_upto_region 22 with fail
  clear k0 k1 k2 k3 hz7
  generalize ((yb4.setCell ⟨yb0.heap.size, 0, none⟩ (.int .i64 n4)).setCell ⟨yb0.heap.size, 1, none⟩ (.int .i64 d4)) = XB4 at *
  obtain ⟨g0, g1, -, -⟩ := J7b.out
  obtain ⟨h0, h1, -, -⟩ := J9b.out
  have hz := cell_lt g0
  have hz2 := cell_lt h0
  go_upto_region 24 with fail
  clear g0 g1 h0 h1 hz hz2
  clear J7b J9b HB7 HB9 HNE HV0 HV1 HV2 HV3 HV4
  obtain ⟨g0, g1⟩ := HVB4.out.r1
  have hz := cell_lt g0
  go_wp2_with fail
  refine (squares_any tau l p1 c1 m _ HVB4.out.s1).mono ?_
  rintro e z1 ⟨q1, d1', rfl, hq1, -, -, hb⟩
  have HVZ := Lib.hid (HVB4.out.below hb)
  have HQ1 := Lib.hid hq1
  clear hb hq1 g0 g1 hz HVB4
  obtain ⟨Q, hQ⟩ : ∃ Q, Q = squaresL tau l m := ⟨_, rfl⟩
  rw [← hQ] at HQ1 ⊢
  have HQQ := Lib.hid hQ
  clear hQ
  go_upto_region 25 with fail
  obtain ⟨g0, g1⟩ := HVZ.out.r2
  have hz := cell_lt g0
  go_wp2_with fail
  refine (rsquares_any tau l p2 c2 m _ HVZ.out.s2).mono ?_
  rintro e z2 ⟨q2, d2', rfl, hq2, hb⟩
  rw [← HQQ.out] at hq2 ⊢
  have HVY := Lib.hid (HVZ.out.below hb)
  have HQ2 := Lib.hid hq2
  have HQ3 := Lib.hid (HQ1.out.imp fun _ _ h => h.below hb)
  have HQL : Hid (Q.length ≤ maxLen) := Lib.hid (by rw [HQQ.out]; exact squaresL_len tau l m)
  clear hb hq2 g0 g1 hz HVZ HQ1
  go_upto_region 26 with fail
  obtain ⟨g0, g1⟩ := HVY.out.r1
  obtain ⟨h0, h1⟩ := HVY.out.r0
  have hz := cell_lt g0
  have hz2 := cell_lt h0
  go_wp2_with fail
  refine (equal_yes Q q1 q2 d1' d2' _ HQ3.out HQ2.out HQL.out).mono ?_
  rintro e z3 ⟨rfl, hb⟩
  have HVX := Lib.hid (HVY.out.below hb)
  clear hb g0 g1 h0 h1 hz hz2 HVY HQ2 HQ3
  obtain ⟨g0, g1⟩ := HVX.out.r1
  obtain ⟨h0, h1⟩ := HVX.out.r0
  have hz := cell_lt g0
  have hz2 := cell_lt h0
  go_wp2_with fail
  refine (equal_yes l p1 p c1 cap _ HVX.out.s1.2 HVX.out.s0.2 HVX.out.s0.1).mono ?_
  rintro e z4 ⟨rfl, hb⟩
  have HF := Lib.hid (HVX.out.bel.trans (hb.mono HVX.out.bel.size))
  clear hb g0 g1 h0 h1 hz hz2 HVX
  go_wp2
  go_ret
  exact ⟨rfl, HF.out⟩
end Go.Proofs.Ythkndjkgokojmaa
