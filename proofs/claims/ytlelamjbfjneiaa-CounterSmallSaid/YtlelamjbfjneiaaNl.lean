/- Contracts of layer 2: the iterator over the turns of a shown value. -/
import Derived.Test.YtlelamjbfjneiaaNk
import Derived.Test.YtlelamjbfjneiaaNd
namespace Go.Proofs.Ytlelamjbfjneiaa.Ct
open Go Go.RowKit Go.Shelf
attribute [local go_sem] Oper.semAt_some
/-- what a call makes of a box of one number that was laid just ahead of it -/
theorem one_bare {f : Nat} {args : Array Value} {r : Value} (Y : World) (hC : ∀ W, Calls Try.prog f args W fun e w' => e = .returned r ∧ Below W.heap.size W w') :
    Calls Try.prog f args Y.drew fun e w' => e = .returned r ∧ Below Y.heap.size Y w' :=
  (hC Y.drew).mono fun _ _ h => ⟨h.1, below_go (Below.drew (Below.refl _ _)) h.2⟩
theorem one_box {f : Nat} {args : Array Value} {r : Value} (Y : World) (t : TypeId) (hC : ∀ W, Calls Try.prog f args W fun e w' => e = .returned r ∧ Below W.heap.size W w') :
    Calls Try.prog f args (Y.drew.alloc (.cells #[.int .i64 0] t)) fun e w' => e = .returned r ∧ Below Y.heap.size Y w' ∧ w'.cell? ⟨Y.heap.size, 0, none⟩ = some (.int .i64 0) ∧ w'.frozen? ⟨Y.heap.size, 0, none⟩ = false ∧ Y.heap.size < w'.heap.size := by
  have hb0 : Below Y.heap.size Y (Y.drew.alloc (.cells #[.int .i64 0] t)) := below_alloc (Below.drew (Below.refl _ _)) _
  have k : ∀ X : World, (X.alloc (.cells #[.int .i64 0] t)).cell? ⟨X.heap.size, 0, none⟩ = some (.int .i64 0) ∧ (X.alloc (.cells #[.int .i64 0] t)).frozen? ⟨X.heap.size, 0, none⟩ = false := fun X => ⟨by simp, by simp⟩
  obtain ⟨k0, f0⟩ := k Y.drew
  refine (hC _).mono ?_
  rintro e w' ⟨rfl, hb⟩
  have hz : Y.heap.size < (Y.drew.alloc (.cells #[.int .i64 0] t)).heap.size := cell_lt k0
  exact ⟨rfl, below_go hb0 hb, cell_below hb k0, (hb.frozen (p := ⟨Y.heap.size, 0, none⟩) hz).trans f0, Nat.lt_of_lt_of_le hz hb.size⟩
def midS (c : Cnt) (m : Int) : Int := m - c.o
def firstS (c : Cnt) (m lo : Int) : Int := ceilS (c.f * lo - midS c m - faultS c) c.r
def farS (c : Cnt) (m hi : Int) : Int := (c.f * hi - midS c m + faultS c) / c.r
def lastS (c : Cnt) (m lo hi : Int) : Int := min (farS c m hi) (firstS c m lo + 2 * c.f - 1)
/-- what lies about the regions of turns -/
structure TIn (X : World) (b : Nat) (c : Cnt) (lo hi mid : Int) : Prop where
  cb : CBox X b c
  s0 : X.cell? ⟨b + 1, 0, none⟩ = some (.int .i64 lo)
  s1 : X.cell? ⟨b + 1, 1, none⟩ = some (.int .i64 hi)
  m : X.cell? ⟨b + 1 + 1, 0, none⟩ = some (.int .i64 mid)
theorem TIn.below {X Y : World} {b : Nat} {c : Cnt} {lo hi mid : Int} (h : TIn X b c lo hi mid) (hb : Below X.heap.size X Y) : TIn Y b c lo hi mid := ⟨h.cb.below hb, cell_below hb h.s0, cell_below hb h.s1, cell_below hb h.m⟩
theorem TIn.cells {X : World} {b : Nat} {c : Cnt} {lo hi mid : Int} (h : TIn X b c lo hi mid) : X.cell? ⟨b, 0, none⟩ = some (.int .i64 c.f) ∧ X.cell? ⟨b, 1, none⟩ = some (.int .i64 c.o) ∧ X.cell? ⟨b, 2, none⟩ = some (.int .i64 c.j) ∧ X.cell? ⟨b, 3, none⟩ = some (.int .i64 c.g) ∧ X.cell? ⟨b, 4, none⟩ = some (.int .i64 c.r) ∧ X.cell? ⟨b, 5, none⟩ = some (.int .i64 c.d) ∧ X.cell? ⟨b, 6, none⟩ = some (.int .i64 c.i) ∧
    X.cell? ⟨b + 1, 0, none⟩ = some (.int .i64 lo) ∧ X.cell? ⟨b + 1, 1, none⟩ = some (.int .i64 hi) ∧ X.cell? ⟨b + 1 + 1, 0, none⟩ = some (.int .i64 mid) :=
  ⟨h.cb.c0, h.cb.c1, h.cb.c2, h.cb.c3, h.cb.c4, h.cb.c5, h.cb.c6, h.s0, h.s1, h.m⟩
theorem tin_new (w : World) (c : Cnt) (lo hi mid : Int) : TIn (((w.alloc (cntObj c)).alloc (.cells #[.int .i64 lo, .int .i64 hi] 43)).alloc (.cells #[.int .i64 mid] 3)) w.heap.size c lo hi mid := by
  have k1 : ∀ X : World, (X.alloc (.cells #[.int .i64 lo, .int .i64 hi] 43)).cell? ⟨X.heap.size, 0, none⟩ = some (.int .i64 lo) ∧ (X.alloc (.cells #[.int .i64 lo, .int .i64 hi] 43)).cell? ⟨X.heap.size, 1, none⟩ = some (.int .i64 hi) := fun X => ⟨by simp, by simp⟩
  have k2 : ∀ X : World, (X.alloc (.cells #[.int .i64 mid] 3)).cell? ⟨X.heap.size, 0, none⟩ = some (.int .i64 mid) := fun X => by simp
  have e1 : (w.alloc (cntObj c)).heap.size = w.heap.size + 1 := by simp
  have e2 : ((w.alloc (cntObj c)).alloc (.cells #[.int .i64 lo, .int .i64 hi] 43)).heap.size = w.heap.size + 1 + 1 := by simp
  obtain ⟨a0, a1⟩ := k1 (w.alloc (cntObj c))
  have a2 := k2 ((w.alloc (cntObj c)).alloc (.cells #[.int .i64 lo, .int .i64 hi] 43))
  rw [e1] at a0 a1
  rw [e2] at a2
  have b1 := below_alloc (Below.refl ((w.alloc (cntObj c)).alloc (.cells #[.int .i64 lo, .int .i64 hi] 43)).heap.size _) (.cells #[.int .i64 mid] 3)
  exact ⟨((CBox.new w c).below (below_alloc (Below.refl _ _) _)).below b1, cell_below b1 a0, cell_below b1 a1, a2⟩
/-- a box of one number that may be written -/
structure One (X : World) (b : Nat) (x : Int) : Prop where
  c : X.cell? ⟨b, 0, none⟩ = some (.int .i64 x)
  f : X.frozen? ⟨b, 0, none⟩ = false
theorem One.below {X Y : World} {b : Nat} {x : Int} (h : One X b x) (hb : Below X.heap.size X Y) : One Y b x := ⟨cell_below hb h.c, (hb.frozen (p := ⟨b, 0, none⟩) (cell_lt h.c)).trans h.f⟩
theorem One.new (X : World) (x : Int) (t : TypeId) : One (X.alloc (.cells #[.int .i64 x] t)) X.heap.size x := ⟨by simp, by simp⟩
theorem One.set {X : World} {b : Nat} {x y : Int} (h : One X b x) : One (X.setCell ⟨b, 0, none⟩ (.int .i64 y)) b y := ⟨World.cell?_setCell_same _ _ _ h.c, by rw [World.frozen?_setCell]; exact h.f⟩
theorem One.far {X : World} {b b' o : Nat} {x : Int} {u : Value} (h : One X b x) (hne : b' ≠ b) : One (X.setCell ⟨b', o, none⟩ u) b x := ⟨by rw [World.cell?_setCell_far _ _ _ _ hne]; exact h.c, by rw [World.frozen?_setCell]; exact h.f⟩
theorem TIn.far {X : World} {b b' o : Nat} {c : Cnt} {lo hi mid : Int} {u : Value} (h : TIn X b c lo hi mid) (hne : b + 1 + 1 < b') : TIn (X.setCell ⟨b', o, none⟩ u) b c lo hi mid :=
  ⟨h.cb.far (by omega), by rw [World.cell?_setCell_far _ _ _ _ (by show b' ≠ b + 1; omega)]; exact h.s0, by rw [World.cell?_setCell_far _ _ _ _ (by show b' ≠ b + 1; omega)]; exact h.s1, by rw [World.cell?_setCell_far _ _ _ _ (by show b' ≠ b + 1 + 1; omega)]; exact h.m⟩
/-- what the iterator reads -/
structure TurnIn (X : World) (b b8 b9 : Nat) (c : Cnt) (lo hi mid first last : Int) : Prop where
  t : TIn X b c lo hi mid
  a : One X b8 first
  z : One X b9 last
set_option maxRecDepth 100000 in
set_option maxHeartbeats 8000000 in
theorem turns_any (c : Cnt) (m lo hi : Int) (w : World) (h : CntIn c) (hm : -1000000000000000 ≤ m ∧ m ≤ 1000000000000000) (hlo : -1000000000000000 ≤ lo ∧ lo ≤ 1000000000000000) (hhi : -1000000000000000 ≤ hi ∧ hi ≤ 1000000000000000) :
    Calls Try.prog 65 #[cntVal c, .int .i64 m, .agg #[.int .i64 lo, .int .i64 hi]] w fun e w' => ∃ b8 b9, e = .returned (.func (.func 74) #[] #[.pointer (some ⟨b8, 0, none⟩), .pointer (some ⟨b9, 0, none⟩), .pointer (some ⟨w.heap.size, 0, none⟩), .pointer (some ⟨w.heap.size + 1 + 1, 0, none⟩), .pointer (some ⟨w.heap.size + 1, 0, none⟩)]) ∧
      TurnIn w' w.heap.size b8 b9 c lo hi (midS c m) (firstS c m lo) (lastS c m lo hi) ∧ w.heap.size ≤ b8 ∧ w.heap.size ≤ b9 ∧ Below w.heap.size w w' := by
  have hf := h.f
  have ho := h.o
  have hr := h.r
  have hfa := fault_bd h
  have q1 := mul_bd c.f lo 1000 1000000000000000 (by omega) hlo
  have q2 := mul_bd c.f hi 1000 1000000000000000 (by omega) hhi
  have w1 : IntKind.i64.wrap (m - c.o) = midS c m := IntWalk.i64_in _ (by omega)
  have hmid : midS c m = m - c.o := rfl
  have HFI : Hid (ceilS (c.f * lo - midS c m - faultS c) c.r = firstS c m lo) := Lib.hid rfl
  have HLA : Hid ((c.f * hi - midS c m + faultS c) / c.r = farS c m hi) := Lib.hid rfl
  have HLS : Hid (min (farS c m hi) (firstS c m lo + 2 * c.f - 1) = lastS c m lo hi) := Lib.hid rfl
  generalize midS c m = mid at *
  have w2 : IntKind.i64.wrap (c.f * lo) = c.f * lo := IntWalk.i64_in _ (by omega)
  have w3 : IntKind.i64.wrap (c.f * lo - mid) = c.f * lo - mid := IntWalk.i64_in _ (by omega)
  have w4 : IntKind.i64.wrap (c.f * lo - mid - faultS c) = c.f * lo - mid - faultS c := IntWalk.i64_in _ (by omega)
  have w5 : IntKind.i64.wrap (c.f * hi) = c.f * hi := IntWalk.i64_in _ (by omega)
  have w6 : IntKind.i64.wrap (c.f * hi - mid) = c.f * hi - mid := IntWalk.i64_in _ (by omega)
  have w7 : IntKind.i64.wrap (c.f * hi - mid + faultS c) = c.f * hi - mid + faultS c := IntWalk.i64_in _ (by omega)
  have HE := Lib.hid (fun W => error_any c W h)
  have HC := Lib.hid (fun W => ceil_any (c.f * lo - mid - faultS c) c.r W (by omega) (by omega))
  have HF := Lib.hid (fun W => floor_any (c.f * hi - mid + faultS c) c.r W (by omega) (by omega))
  have hfb := ceilS_bd (c.f * lo - mid - faultS c) c.r 2000000000000000000 (by omega) (by omega)
  have hlb := floorS_bd (c.f * hi - mid + faultS c) c.r 2000000000000000000 (by omega) (by omega)
  rw [HFI.out] at hfb HC
  rw [HLA.out] at hlb HF
  generalize firstS c m lo = first at *
  generalize farS c m hi = far at *
  have v1 : IntKind.i64.wrap (2 * c.f) = 2 * c.f := IntWalk.i64_in _ (by omega)
  have v2 : IntKind.i64.wrap (first + 2 * c.f) = first + 2 * c.f := IntWalk.i64_in _ (by omega)
  have v3 : IntKind.i64.wrap (first + 2 * c.f - 1) = first + 2 * c.f - 1 := IntWalk.i64_in _ (by omega)
  have hls := HLS.out
  generalize lastS c m lo hi = last at *
  have a0 := below_alloc (below_alloc (below_alloc (Below.refl w.heap.size w) (cntObj c)) (.cells #[.int .i64 lo, .int .i64 hi] 43)) (.cells #[.int .i64 mid] 3)
  have hT : TIn (((w.alloc (cntObj c)).alloc (.cells #[.int .i64 lo, .int .i64 hi] 43)).alloc (.cells #[.int .i64 mid] 3)) w.heap.size c lo hi mid :=
    tin_new w c lo hi mid
  have A0 := Lib.hid a0
  have HT := Lib.hid hT
  unfold cntVal at HE
  unfold cntObj at A0 HT
  unfold cntVal
  generalize faultS c = fa at *
  clear a0 hT h hfa hf ho hr q1 q2 hfb hlb hmid hm hlo hhi
  go_enter Try.func65, Try.ntmps65
  go_upto_region 2 with fail
  generalize ((w.alloc (.cells #[.int .i64 c.f, .int .i64 c.o, .int .i64 c.j, .int .i64 c.g, .int .i64 c.r, .int .i64 c.d, .int .i64 c.i] 56)).alloc (.cells #[.int .i64 lo, .int .i64 hi] 43)).alloc (.cells #[.int .i64 mid] 3) = Y at *
  obtain ⟨c0, c1, c2, c3, c4, c5, c6, s0, s1, s2⟩ := HT.out.cells
  have hz := cell_lt c0
  have hzs := cell_lt s0
  have hzm := cell_lt s2
  go_cut [8] from 14 to 26 (fun sb wx => ∃ b8, sb = .pointer (some ⟨b8, 0, none⟩) ∧ Hid (One wx b8 first) ∧ Hid (Below Y.heap.size Y wx) ∧ Hid (Y.heap.size ≤ b8))
  case first =>
    have hB0 : Below Y.heap.size Y Y.drew := Below.drew (Below.refl _ _)
    go_region_held3 (fun w' => w'.cell? ⟨w.heap.size, 0, none⟩ = some (.int .i64 c.f) ∧ w'.cell? ⟨w.heap.size, 1, none⟩ = some (.int .i64 c.o) ∧ w'.cell? ⟨w.heap.size, 2, none⟩ = some (.int .i64 c.j) ∧ w'.cell? ⟨w.heap.size, 3, none⟩ = some (.int .i64 c.g) ∧ w'.cell? ⟨w.heap.size, 4, none⟩ = some (.int .i64 c.r) ∧ w'.cell? ⟨w.heap.size, 5, none⟩ = some (.int .i64 c.d) ∧ w'.cell? ⟨w.heap.size, 6, none⟩ = some (.int .i64 c.i) ∧ w'.cell? ⟨w.heap.size + 1, 0, none⟩ = some (.int .i64 lo) ∧ w'.cell? ⟨w.heap.size + 1, 1, none⟩ = some (.int .i64 hi) ∧ w'.cell? ⟨w.heap.size + 1 + 1, 0, none⟩ = some (.int .i64 mid))
      (first | exact (HT.out.below hB0).cells | exact (HT.out.below (below_alloc hB0 _)).cells | exact (HT.out.below hb2).cells | exact (HT.out.below (below_alloc hb2 _)).cells | exact ((HT.out.below hb2).far hzm).cells)
      (first | (go_at_call 36; refine (one_bare Y HE.out).mono ?_; rintro e wk ⟨rfl, hb2⟩) |
        (go_at_call 36; refine (one_box Y 3 HE.out).mono ?_; rintro e wk ⟨rfl, hb2, k0, f0, hz2⟩) |
        (go_at_call 73; refine (HC.out _).mono ?_; rintro e w' ⟨rfl, rfl⟩))
    all_goals
      go_wp2_with fail
      go_meet
    all_goals first
      | exact ⟨wk.heap.size, rfl, Lib.hid (One.new wk first 3), Lib.hid (below_alloc hb2 _), Lib.hid hb2.size⟩
      | exact ⟨Y.heap.size, rfl, Lib.hid (One.set ⟨k0, f0⟩), Lib.hid (hb2.setCell (p := ⟨Y.heap.size, 0, none⟩) (Nat.le_refl _) _), Lib.hid (Nat.le_refl _)⟩
  case rest =>
    obtain ⟨b8, rfl, H8, HB8, HG8⟩ := hcut
    generalize wc = Z at *
    have HTZ := Lib.hid (HT.out.below HB8.out)
    clear c0 c1 c2 c3 c4 c5 c6 s0 s1 s2 hz hzs hzm w2 w3 w4 HC
    obtain ⟨c0, c1, c2, c3, c4, c5, c6, s0, s1, s2⟩ := HTZ.out.cells
    have hz := cell_lt c0
    have hzs := cell_lt s0
    have hzm := cell_lt s2
    have HZM := Lib.hid hzm
    go_upto_region 3 with fail
    go_cut [9] from 27 to 39 (fun sb wx => ∃ b9, sb = .pointer (some ⟨b9, 0, none⟩) ∧ Hid (One wx b9 far) ∧ Hid (Below Z.heap.size Z wx) ∧ Hid (Z.heap.size ≤ b9))
    case first =>
      have hB0 : Below Z.heap.size Z Z.drew := Below.drew (Below.refl _ _)
      go_region_held3 (fun w' => w'.cell? ⟨w.heap.size, 0, none⟩ = some (.int .i64 c.f) ∧ w'.cell? ⟨w.heap.size, 1, none⟩ = some (.int .i64 c.o) ∧ w'.cell? ⟨w.heap.size, 2, none⟩ = some (.int .i64 c.j) ∧ w'.cell? ⟨w.heap.size, 3, none⟩ = some (.int .i64 c.g) ∧ w'.cell? ⟨w.heap.size, 4, none⟩ = some (.int .i64 c.r) ∧ w'.cell? ⟨w.heap.size, 5, none⟩ = some (.int .i64 c.d) ∧ w'.cell? ⟨w.heap.size, 6, none⟩ = some (.int .i64 c.i) ∧ w'.cell? ⟨w.heap.size + 1, 0, none⟩ = some (.int .i64 lo) ∧ w'.cell? ⟨w.heap.size + 1, 1, none⟩ = some (.int .i64 hi) ∧ w'.cell? ⟨w.heap.size + 1 + 1, 0, none⟩ = some (.int .i64 mid))
        (first | exact (HTZ.out.below hB0).cells | exact (HTZ.out.below (below_alloc hB0 _)).cells | exact (HTZ.out.below hb2).cells | exact (HTZ.out.below (below_alloc hb2 _)).cells | exact ((HTZ.out.below hb2).far hzm).cells)
        (first | (go_at_call 36; refine (one_bare Z HE.out).mono ?_; rintro e wk ⟨rfl, hb2⟩) |
          (go_at_call 36; refine (one_box Z 3 HE.out).mono ?_; rintro e wk ⟨rfl, hb2, k0, f0, hz2⟩) |
          (go_at_call 69; refine (HF.out _).mono ?_; rintro e w' ⟨rfl, rfl⟩))
      all_goals
        go_wp2_with fail
        go_meet
      all_goals first
        | exact ⟨wk.heap.size, rfl, Lib.hid (One.new wk far 3), Lib.hid (below_alloc hb2 _), Lib.hid hb2.size⟩
        | exact ⟨Z.heap.size, rfl, Lib.hid (One.set ⟨k0, f0⟩), Lib.hid (hb2.setCell (p := ⟨Z.heap.size, 0, none⟩) (Nat.le_refl _) _), Lib.hid (Nat.le_refl _)⟩
    case rest =>
      obtain ⟨b9, rfl, H9, HB9, HG9⟩ := hcut
      have HTY := Lib.hid (HTZ.out.below HB9.out)
      have h8 := H8.out.below HB9.out
      have h8l := cell_lt H8.out.c
      have hg8 := HG8.out
      have hg9 := HG9.out
      have hzmZ := HZM.out
      clear c0 c1 c2 c3 c4 c5 c6 s0 s1 s2 hz hzs hzm w5 w6 w7 HF HE
      have HTI := Lib.hid (show TurnIn (wc.setCell ⟨b9, 0, none⟩ (.int .i64 last)) w.heap.size b8 b9 c lo hi mid first last from ⟨HTY.out.far (by omega), h8.far (by omega), H9.out.set⟩)
      obtain ⟨k9, f9⟩ := H9.out
      obtain ⟨k8, -⟩ := h8
      have c0 := HTY.out.cb.c0
      have hz8 := cell_lt k8
      have hz9 := cell_lt k9
      have hzc := cell_lt c0
      have HFIN : Hid (Below w.heap.size w (wc.setCell ⟨b9, 0, none⟩ (.int .i64 last))) := Lib.hid (((A0.out.trans (HB8.out.mono A0.out.size)).trans (HB9.out.mono (Nat.le_trans A0.out.size HB8.out.size))).setCell (p := ⟨b9, 0, none⟩) (by show w.heap.size ≤ b9; omega) _)
      have HG := Lib.hid (show w.heap.size ≤ b8 ∧ w.heap.size ≤ b9 from ⟨Nat.le_trans A0.out.size hg8, by omega⟩)
      clear HTY H8 H9 h8l hg8 hg9 hzmZ
      go_wp2_with fail
      all_goals
        go_ret
        first
          | (have e : first + 2 * c.f - 1 = last := by omega
             rw [e]
             exact ⟨b8, b9, rfl, HTI.out, HG.out.1, HG.out.2, HFIN.out⟩)
          | (have e : far = last := by omega
             rw [e]
             exact ⟨b8, b9, rfl, HTI.out, HG.out.1, HG.out.2, HFIN.out⟩)
end Go.Proofs.Ytlelamjbfjneiaa.Ct
