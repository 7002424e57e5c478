/- Contracts of layer 2: contradiction. -/
import Derived.Test.YtlelamjbfjneiaaNt
import Derived.Test.YtlelamjbfjneiaaNs
import Derived.Test.YtlelamjbfjneiaaCe
import Derived.Test.YtlelamjbfjneiaaNn
import Derived.Test.YtlelamjbfjneiaaNv
import Derived.Test.YtlelamjbfjneiaaNx
namespace Go.Proofs.Ytlelamjbfjneiaa.Ct
open Go Go.RowKit Go.Shelf
attribute [local go_sem] Oper.semAt_some
theorem infoUse : (Try.prog.info? 41).map (fun i => (i.zero, i.size, i.bytes)) = some (some (.agg #[.int .i64 0, .bool false]), 2, 16) := by kernel_rfl
theorem own_free {X : World} {B g n cap : Nat} {e : TypeId} {sz : Nat} {xs : List Value} (h : X.ownsRow B e sz (.slice (some ⟨g, 0, none⟩) n cap) n xs) (o : Nat) : X.frozen? ⟨g, o, none⟩ = false := by
  rcases h.2 with ⟨e, _⟩ | ⟨g', cap', cur, e, hg, hgb, _⟩
  · cases e
  · cases e
    simp [World.frozen?, hgb]
theorem own_cell {X : World} {B g n cap : Nat} {e : TypeId} {sz : Nat} {xs : List Value} (h : X.ownsRow B e sz (.slice (some ⟨g, 0, none⟩) n cap) n xs) (i : Nat) (v : Value) (hi : xs[i]? = some v) : X.cell? ⟨g, i, none⟩ = some v := by
  have := World.ownsRow.cells h (g := g) rfl i v hi
  rwa [show (⟨g, 0, none⟩ : Addr).add i = ⟨g, i, none⟩ by unfold Addr.add; split <;> simp_all] at this
theorem two_cells (n i : Nat) (hi : i < n) : (madeCells #[.int .i64 0, .bool false] (n * 2)).toList[i * 2]? = some (.int .i64 0) ∧ (madeCells #[.int .i64 0, .bool false] (n * 2)).toList[i * 2 + 1]? = some (.bool false) := by
  have h1 : i * 2 < n * 2 := by omega
  have h2 : i * 2 + 1 < n * 2 := by omega
  have h3 : (i * 2) % 2 = 0 := by omega
  have h4 : (i * 2 + 1) % 2 = 1 := by omega
  constructor
  · simp [madeCells, h1, h3]
  · simp [madeCells, h2, h4]
theorem CtrB.b8 {W : World} {q : CtB} {n : Nat} {l : List Bnd} {p : Option Addr} {cap : Nat} {s : Ctr} (H : CtrB W q n l p cap s) (x : Nat) : CtrB W { q with b8 := x } n l p cap s := ⟨H.b3, H.b5, H.b6, H.lev, H.cau, H.low, H.gt, H.bnds⟩
theorem bt {A B C : World} (h : Below A.heap.size A B) (k : Below B.heap.size B C) : Below A.heap.size A C := h.trans (k.mono h.size)
/-- what contradiction hands back -/
def ConRet (n : Nat) (l : List Bnd) (w : World) (e : Ending) (w' : World) : Prop := (∃ u p cap, e = .returned (.slice p u.length cap) ∧ UsesIn w' u p ∧ ConOf n l u ∧ u.length ≤ cap ∧ cap ≤ maxLen) ∧ Below w.heap.size w w'
set_option maxRecDepth 100000 in
set_option maxHeartbeats 8000000 in
theorem contradiction_any (n : Nat) (l : List Bnd) (p : Option Addr) (cap : Nat) (w : World) (hn : 1 ≤ n ∧ n ≤ 16) (hl : LimsOk n l) (hs : BndsIn w l p) :
    Calls Try.prog 27 #[.int .i64 (n : Int), .slice p l.length cap] w (ConRet n l w) := by
  obtain ⟨i0, hi0, hz0, hz1, hz2⟩ := info_parts infoInt
  obtain ⟨i1, hi1, hy0, hy1, hy2⟩ := info_parts infoUse
  refine (callsIn_wide (n := 9)).1 ?_
  have hro : Fence.wide.round = none := rfl
  have HN := Lib.hid hn
  have HL := Lib.hid hl
  have HS := Lib.hid hs
  clear hn hl hs
  refine callsIn_of_wp_marks Try.func27 rfl trivial ?_ hro
  simp only [Try.ntmps27, List.size_toArray, List.length_cons, List.length_nil, Nat.reduceAdd, Nat.reduceSub, Array.replicate_succ, Array.replicate_zero, List.push_toArray, List.append_toArray, List.nil_append, List.cons_append]
  refine wpIn_wide.2 ?_
  go_upto_region 1 with fail
  have hb0 : Below w.heap.size w (w.alloc (.cells #[.slice p l.length cap] 25)) := (Below.refl w.heap.size w).alloc (Nat.le_refl _) _
  have k3 : (w.alloc (.cells #[.slice p l.length cap] 25)).cell? ⟨w.heap.size, 0, none⟩ = some (.slice p l.length cap) := by simp
  have es : (w.alloc (.cells #[.slice p l.length cap] 25)).heap.size = w.heap.size + 1 := by simp
  generalize w.alloc (.cells #[.slice p l.length cap] 25) = V at *
  have HES := Lib.hid es
  have HB0 := Lib.hid hb0
  have HK3 := Lib.hid k3
  clear es hb0 k3
  go_upto_region 2 with (at_make; refine wpList_make_full _ rfl _ _ 52 rfl 0 3 i0 (.int .i64 0) 1 Try.underlying52 hi0 hz0 hz1 .i64 .i64 _ _ n rfl rfl rfl rfl (by have := HN.out; rw [hz2]; omega) (by have := HN.out; unfold maxLen; omega) (Nat.zero_le _) ?_; intro w0 hown0 hgrow0)
  have hb1 : Below V.heap.size V w0 := (Below.refl _ _).grown hgrow0 (Nat.le_refl _) (fun k hk => by cases hk)
  rw [Nat.mul_one, show (Value.int .i64 0).cells = #[.int .i64 0] from rfl, toList_madeCells_one] at hown0
  have HLV : Hid (∀ i, i < n → Own2 w0 V.heap.size i (.int .i64 0)) := Lib.hid fun i hi => ⟨own_cell hown0 i _ (by simp [hi]), own_free hown0 i⟩
  have hgl : V.heap.size < w0.heap.size := cell_lt (HLV.out 0 HN.out.1).1
  have HGL := Lib.hid hgl
  have HB1 := Lib.hid hb1
  clear hown0 hgrow0 hb1 hgl hi0 hz0 hz1 hz2
  have HX0 : Hid (Below w0.heap.size w0 (w0.alloc (.cells #[.slice (some ⟨V.heap.size, 0, none⟩) n n] 52)) ∧ (w0.alloc (.cells #[.slice (some ⟨V.heap.size, 0, none⟩) n n] 52)).cell? ⟨w0.heap.size, 0, none⟩ = some (.slice (some ⟨V.heap.size, 0, none⟩) n n) ∧ (w0.alloc (.cells #[.slice (some ⟨V.heap.size, 0, none⟩) n n] 52)).heap.size = w0.heap.size + 1) :=
    Lib.hid ⟨(Below.refl _ _).alloc (Nat.le_refl _) _, by simp, by simp⟩
  generalize w0.alloc (.cells #[.slice (some ⟨V.heap.size, 0, none⟩) n n] 52) = X0 at *
  go_upto_region 3 with (at_make; refine wpList_make_full _ rfl _ _ 34 rfl 0 41 i1 (.agg #[.int .i64 0, .bool false]) 2 Try.underlying34 hi1 hy0 hy1 .i64 .i64 _ _ n rfl rfl rfl rfl (by have := HN.out; rw [hy2]; omega) (by have := HN.out; unfold maxLen; omega) (Nat.zero_le _) ?_; intro w1 hown1 hgrow1)
  have hb3 : Below X0.heap.size X0 w1 := (Below.refl _ _).grown hgrow1 (Nat.le_refl _) (fun k hk => by cases hk)
  rw [show (Value.agg #[.int .i64 0, .bool false]).cells = #[.int .i64 0, .bool false] from rfl] at hown1
  have HCV : Hid (∀ i, i < n → Own2 w1 X0.heap.size (i * 2) (.int .i64 0) ∧ Own2 w1 X0.heap.size (i * 2 + 1) (.bool false)) := Lib.hid fun i hi => ⟨⟨own_cell hown1 _ _ (two_cells n i hi).1, own_free hown1 _⟩, ⟨own_cell hown1 _ _ (two_cells n i hi).2, own_free hown1 _⟩⟩
  have HGC := Lib.hid (show X0.heap.size < w1.heap.size from cell_lt (HCV.out 0 HN.out.1).1.1)
  have HB3 := Lib.hid hb3
  clear hown1 hgrow1 hb3 hi1 hy0 hy1 hy2
  have HX1 : Hid (Below w1.heap.size w1 (w1.alloc (.cells #[.slice (some ⟨X0.heap.size, 0, none⟩) n n] 34)) ∧ (w1.alloc (.cells #[.slice (some ⟨X0.heap.size, 0, none⟩) n n] 34)).cell? ⟨w1.heap.size, 0, none⟩ = some (.slice (some ⟨X0.heap.size, 0, none⟩) n n) ∧ (w1.alloc (.cells #[.slice (some ⟨X0.heap.size, 0, none⟩) n n] 34)).heap.size = w1.heap.size + 1) :=
    Lib.hid ⟨(Below.refl _ _).alloc (Nat.le_refl _) _, by simp, by simp⟩
  generalize w1.alloc (.cells #[.slice (some ⟨X0.heap.size, 0, none⟩) n n] 34) = X1 at *
  go_upto_region 4 with fail
  have HX2 : Hid (Below X1.heap.size X1 (X1.alloc (.cells #[.int .i64 0] 3)) ∧ Own2 (X1.alloc (.cells #[.int .i64 0] 3)) X1.heap.size 0 (.int .i64 0) ∧ (X1.alloc (.cells #[.int .i64 0] 3)).heap.size = X1.heap.size + 1) :=
    Lib.hid ⟨(Below.refl _ _).alloc (Nat.le_refl _) _, Own2.new _ _ _, by simp⟩
  generalize X1.alloc (.cells #[.int .i64 0] 3) = X2 at *
  have b4 := bt HX1.out.1 HX2.out.1
  have b3 := bt HB3.out b4
  have b2 := bt HX0.out.1 b3
  have b1 := bt HB1.out b2
  have HB := Lib.hid (HB0.out.trans (b1.mono HB0.out.size))
  have h1 := HES.out
  have h2 := HGL.out
  have h3 := HX0.out.2.2
  have h4 := HGC.out
  have h5 := HX1.out.2.2
  have h6 := HX2.out.2.2
  have H0 : Hid (CtrB X2 ⟨w.heap.size, V.heap.size, w0.heap.size, X0.heap.size, w1.heap.size, X1.heap.size, 0⟩ n l p cap ctr0) := Lib.hid
    ⟨cell_below b1 HK3.out, cell_below b3 HX0.out.2.1, cell_below HX2.out.1 HX1.out.2.1, fun i hi => (HLV.out i hi).below b2, fun i hi => ⟨(HCV.out i hi).1.below b4, (HCV.out i hi).2.below b4⟩, HX2.out.2.1, by dsimp only; omega,
      by
        by_cases hl0 : l.length = 0
        · exact .inl hl0
        · obtain ⟨b, o, e, hi⟩ := HS.out.resolve_left hl0
          exact .inr ⟨b, o, cell_lt (hi 0 (by omega)).1.1, e, fun i hi' => (hi i hi').of (fun e => cell_below (HB.out) e)⟩⟩
  have HORD := Lib.hid (show V.heap.size = w.heap.size + 1 ∧ V.heap.size < w0.heap.size ∧ X0.heap.size = w0.heap.size + 1 ∧ X0.heap.size < w1.heap.size ∧ X1.heap.size = w1.heap.size + 1 ∧ X2.heap.size = X1.heap.size + 1 from ⟨h1, h2, h3, h4, h5, h6⟩)
  clear h1 h2 h3 h4 h5 h6
  clear b1 b2 b3 b4 HX0 HX1 HX2 HLV HCV HB1 HB3 HK3 HB0 HGL HGC HES
  go_wp2_with fail
  refine wp_loop (fun a W => ∃ (t : Nat) (Ds : List Nat) (s8 s20 s21 s22 s58 s59 : Value), a = { tmps := List.toArray (.int .i64 (n : Int) :: .slice p l.length cap :: undef :: .pointer (some ⟨w.heap.size, 0, none⟩) :: .slice none 0 0 :: .pointer (some ⟨w0.heap.size, 0, none⟩) :: .pointer (some ⟨w1.heap.size, 0, none⟩) :: .pointer (some ⟨X1.heap.size, 0, none⟩) :: s8 :: undef :: undef :: undef :: undef :: undef :: .int .i64 (n : Int) :: .slice (some ⟨V.heap.size, 0, none⟩) n n :: .int .i64 (n : Int) :: .slice (some ⟨X0.heap.size, 0, none⟩) n n :: .int .i64 (n : Int) :: .int .i64 (t : Int) :: s20 :: s21 :: s22 :: undef :: undef :: undef :: undef :: undef :: undef :: undef :: undef :: undef :: undef :: undef :: undef :: undef :: undef :: undef :: undef :: undef :: undef :: undef :: undef :: undef :: undef :: undef :: undef :: undef :: undef :: undef :: undef :: undef :: undef :: undef :: undef :: undef :: undef :: undef :: s58 :: s59 :: undef :: undef :: undef :: undef :: undef :: undef :: undef :: undef :: undef :: undef :: undef :: undef :: undef :: undef :: undef :: undef :: undef :: undef :: undef :: undef :: undef :: undef :: undef :: undef :: undef :: undef :: undef :: undef :: undef :: undef :: []), defers := marksL Ds } ∧ t ≤ n ∧ Hid (CtrB W ⟨w.heap.size, V.heap.size, w0.heap.size, X0.heap.size, w1.heap.size, X1.heap.size, 0⟩ n l p cap (roundsK l t)) ∧
      Hid (Below w.heap.size w W) ∧ Hid (X2.heap.size ≤ W.heap.size) ∧ Hid (Ds.Nodup ∧ ∀ D, D ∈ Ds → X2.heap.size ≤ D ∧ W.heap[D]? = some (.deferred (some []))) ∧ Hid (∀ s, s < t → (roundsK l (s + 1)).settled = false)) (fun a _ => n - (intOf (a.tmps.getD 19 undef)).toNat)
    ⟨0, [], _, _, _, _, _, _, rfl, Nat.zero_le _, H0, HB, Lib.hid (Nat.le_refl _), Lib.hid ⟨List.nodup_nil, fun D h => (by cases h)⟩, Lib.hid (fun s h => absurd h (Nat.not_lt_zero s))⟩ ?_
  rintro a W ⟨t, Ds, s8, s20, s21, s22, s58, s59, rfl, ht, HC, HBW, HXW, HDS, HUS⟩
  by_cases hlt : t < n
  · have hti : (t : Int) < n := by omega
    have HT := Lib.hid hlt
    have HA := Lib.hid (HC.out.round 4)
    have k3 := HA.out.b3
    dsimp only at k3
    have hz3 := cell_lt k3
    have ez : (W.alloc (.cells #[.bool true] 4)).heap.size = W.heap.size + 1 := by simp
    have HBZ := Lib.hid (HBW.out.alloc HBW.out.size (.cells #[.bool true] 4))
    go_upto_region 7 with fail
    have HEZ := Lib.hid ez
    have HMK : Hid (∀ D, D ∈ Ds → (W.alloc (.cells #[.bool true] 4)).heap[D]? = some (.deferred (some []))) := Lib.hid fun D hD => (((Below.refl W.heap.size W).alloc (Nat.le_refl _) (.cells #[.bool true] 4)).block D (Array.getElem?_eq_some_iff.1 (HDS.out.2 D hD).2).1).trans (HDS.out.2 D hD).2
    clear ez
    generalize W.alloc (.cells #[.bool true] 4) = Z at *
    go_wp2_with fail
    refine (limits_any p l.length cap Z).mono ?_
    rintro e W3 ⟨rfl, rfl⟩
    have HR : Hid (Below Z.heap.size Z (Z.alloc (.cells #[.slice p l.length cap] 25)) ∧ LimIn (Z.alloc (.cells #[.slice p l.length cap] 25)) Z.heap.size l p cap ∧ (Z.alloc (.cells #[.slice p l.length cap] 25)).heap.size = Z.heap.size + 1) := Lib.hid ⟨(Below.refl _ _).alloc (Nat.le_refl _) _, ⟨by simp, (HS.out.below HBZ.out).below ((Below.refl _ _).alloc (Nat.le_refl _) _)⟩, by simp⟩
    have HO : LimOk (fun k => k ≠ V.heap.size ∧ k ≠ X0.heap.size ∧ k ≠ X1.heap.size ∧ k ≠ W.heap.size) Z.heap.size p l.length := by
      have h0 := HORD.out
      have h1 := HEZ.out
      have h2 := HXW.out
      refine ⟨by omega, ?_⟩
      by_cases hl0 : l.length = 0
      · exact .inl hl0
      · obtain ⟨b, o, e, hi⟩ := HS.out.resolve_left hl0
        have hb := cell_lt (hi 0 (by omega)).1.1
        refine .inr fun b' o' e' => ?_
        rw [e] at e'
        cases e'
        exact ⟨by omega, by omega, by omega, by omega⟩
    generalize (Z.alloc (.cells #[.slice p l.length cap] 25)) = R at *
    have HST := limits1_stops 8 Z.heap.size (fun k => k ≠ V.heap.size ∧ k ≠ X0.heap.size ∧ k ≠ X1.heap.size ∧ k ≠ W.heap.size) l p cap HO HL.out.len (fun i hi => (HL.out.ok i hi).lo) (by decide) R (fun k hk => by
      have h0 := HORD.out
      have h1 := HEZ.out
      have h2 := HXW.out
      have h3 := HR.out.2.2
      exact ⟨by omega, by omega, by omega, by omega⟩) HR.out.2.1
    have HHO := Lib.hid HO
    clear HO k3 hz3 HC
    have HA0 : CtrAt R ⟨w.heap.size, V.heap.size, w0.heap.size, X0.heap.size, w1.heap.size, X1.heap.size, W.heap.size⟩ n l p cap (foldK l { roundsK l t with settled := true } (([] : List (Uix l.length)).map (·.1))) := HA.out.below HR.out.1
    have HM0 : ∀ D, D ∈ Ds → R.heap[D]? = some (.deferred (some [])) := fun D hD => (HR.out.1.block D (Array.getElem?_eq_some_iff.1 (HMK.out D hD)).1).trans (HMK.out D hD)
    have HB0 : Below w.heap.size w R := HBZ.out.trans (HR.out.1.mono HBZ.out.size)
    go_wp2_with fail
    refine (wpIn_wide (n := 9)).1 ?_
    refine wpIn_rangeFunc_ownH hro (by decide) (gf := 71) (lb := #[.pointer (some ⟨Z.heap.size, 0, none⟩)]) rfl trivial (enters_of Try.func71 (by kernel_rfl) rfl)
      HST (fun h k => h.trans k) StayC.putObj (Below.refl _ _) (fun _ => rfl)
      (fun pre W' => CtrAt W' ⟨w.heap.size, V.heap.size, w0.heap.size, X0.heap.size, w1.heap.size, X1.heap.size, W.heap.size⟩ n l p cap (foldK l { roundsK l t with settled := true } (pre.map (·.1))) ∧ Below w.heap.size w W' ∧ R.heap.size ≤ W'.heap.size ∧ ∀ D, D ∈ Ds → W'.heap[D]? = some (.deferred (some []))) (fun _ _ _ => False)
      (fun s A C row hs hg hr => by
        have hk := stay_grown hg (fun r e => (hr r e).2)
        refine ⟨hs.1.stay hk, below_grown hs.2.1 hg (fun r e => (hr r e).1) HB0.size, Nat.le_trans hs.2.2.1 hg.size, fun D hD => ?_⟩
        have hl := (Array.getElem?_eq_some_iff.1 (HM0 D hD)).1
        exact (hg.block D (by omega) (fun e => by have := (hr D e.symm).1; omega)).trans (hs.2.2.2 D hD)) (fun _ _ _ _ _ hs _ _ => hs) ⟨HA0, HB0, Nat.le_refl _, HM0⟩
      (fun d a' W' => ∃ g1 g2, a' = { tmps := List.toArray (.int .i64 (n : Int) :: .slice p l.length cap :: undef :: .pointer (some ⟨w.heap.size, 0, none⟩) :: .slice none 0 0 :: .pointer (some ⟨w0.heap.size, 0, none⟩) :: .pointer (some ⟨w1.heap.size, 0, none⟩) :: .pointer (some ⟨X1.heap.size, 0, none⟩) :: .pointer (some ⟨W.heap.size, 0, none⟩) :: .pointer (some ⟨g1, 0, none⟩) :: .pointer (some ⟨g2, 0, none⟩) :: undef :: undef :: undef :: .int .i64 (n : Int) :: .slice (some ⟨V.heap.size, 0, none⟩) n n :: .int .i64 (n : Int) :: .slice (some ⟨X0.heap.size, 0, none⟩) n n :: .int .i64 (n : Int) :: .int .i64 (t : Int) :: .bool true :: .slice p l.length cap :: .func (.func 71) #[] #[.pointer (some ⟨Z.heap.size, 0, none⟩)] :: uixVal d :: limVal (uixLim l d) :: undef :: undef :: undef :: undef :: undef :: undef :: undef :: undef :: undef :: undef :: undef :: undef :: undef :: undef :: undef :: undef :: undef :: undef :: undef :: undef :: undef :: undef :: undef :: undef :: undef :: undef :: undef :: undef :: undef :: undef :: undef :: undef :: undef :: s58 :: s59 :: undef :: undef :: undef :: undef :: undef :: undef :: undef :: undef :: undef :: undef :: undef :: undef :: undef :: undef :: undef :: undef :: undef :: undef :: undef :: undef :: undef :: undef :: undef :: undef :: undef :: undef :: undef :: undef :: undef :: undef :: []), defers := [] } ∧ R.heap.size ≤ g1 ∧ R.heap.size ≤ g2 ∧ (W'.cell? ⟨g1, 0, none⟩ = some (.int .i64 (d.1.1 : Int)) ∧ W'.cell? ⟨g1, 1, none⟩ = some (.bool d.1.2)) ∧ (W'.cell? ⟨g2, 0, none⟩ = some (.int .i64 (uixLim l d).f) ∧ W'.cell? ⟨g2, 1, none⟩ = some (.int .i64 (uixLim l d).s) ∧ W'.cell? ⟨g2, 2, none⟩ = some (.int .i64 (uixLim l d).m)))
      (fun d a' s A C row hs hg hr => by
        obtain ⟨g1, g2, e, h1, h2, ⟨h3, h4⟩, h5, h6, h7⟩ := hs
        have hk := stay_grown hg (fun r e => (hr r e).2)
        exact ⟨g1, g2, e, h1, h2, ⟨hk.cell trivial h3, hk.cell trivial h4⟩, hk.cell trivial h5, hk.cell trivial h6, hk.cell trivial h7⟩) ?assign ?body ?done ?stop
    case assign =>
      rintro lp pre d W' K ⟨hI, hB, hS, hM⟩ hK
      unfold uixVal limVal
      generalize uixLim l d = L at *
      obtain ⟨Lf, Ls, Lm⟩ := L
      dsimp only at *
      gi_wp2
      have b1 := below_alloc (Below.refl W'.heap.size W') (.cells #[.int .i64 (d.1.1 : Int), .bool d.1.2] 41)
      have b2 := below_alloc b1 (.cells #[.int .i64 Lf, .int .i64 Ls, .int .i64 Lm] 98)
      have c1 : (W'.alloc (.cells #[.int .i64 (d.1.1 : Int), .bool d.1.2] 41)).cell? ⟨W'.heap.size, 0, none⟩ = some (.int .i64 (d.1.1 : Int)) ∧ (W'.alloc (.cells #[.int .i64 (d.1.1 : Int), .bool d.1.2] 41)).cell? ⟨W'.heap.size, 1, none⟩ = some (.bool d.1.2) := ⟨by simp, by simp⟩
      have b3 := below_alloc (Below.refl (W'.alloc (.cells #[.int .i64 (d.1.1 : Int), .bool d.1.2] 41)).heap.size _) (.cells #[.int .i64 Lf, .int .i64 Ls, .int .i64 Lm] 98)
      refine hK _ _ (kf_below b2 (Nat.le_refl _)) (StayC.of_below b2) ⟨hI.below b2, hB.trans (b2.mono hB.size), Nat.le_trans hS b2.size, fun D hD => (b2.block D (Array.getElem?_eq_some_iff.1 (hM D hD)).1).trans (hM D hD)⟩
        ⟨W'.heap.size, W'.heap.size + 1, rfl, hS, by omega, ⟨cell_below b3 c1.1, cell_below b3 c1.2⟩, by simp, by simp, by simp⟩
    case body =>
      rintro lp pre d a' W' hlp hrc ⟨hI, hB, hS, hM⟩ ⟨g1, g2, rfl, hg1, hg2, ⟨u0, u1⟩, m0, m1, m2⟩ hlen
      have hbd := foldK_bd HL.out (pre.map (·.1)) { roundsK l t with settled := true } (t * (480 * 1000000000000000)) (fun e he => by
        obtain ⟨e', _, rfl⟩ := List.mem_map.1 he
        exact e'.2) (by omega) (roundsK_bd HL.out t)
      rw [List.length_map] at hbd
      have hsn : foldK l { roundsK l t with settled := true } ((pre ++ [d]).map (·.1)) = stepK l (foldK l { roundsK l t with settled := true } (pre.map (·.1))) d.1 := by rw [List.map_append, List.map_cons, List.map_nil, foldK_snoc]
      have hkl : kLim l d.1 = uixLim l d := rfl
      generalize foldK l { roundsK l t with settled := true } (pre.map (·.1)) = S at *
      obtain ⟨x, y, mm, hxy, hx, hy⟩ := uix_bd HL.out d
      rw [hxy] at m0 m1 m2 hkl
      dsimp only at m0 m1 m2
      have r5 := hI.b5
      have r6 := hI.b6
      obtain ⟨lx, lxf⟩ := hI.lev x hx
      obtain ⟨ly, lyf⟩ := hI.lev y hy
      dsimp only at r5 r6 lx ly lxf lyf
      have hxi : (x : Int) < n := by omega
      have hyi : (y : Int) < n := by omega
      have z5 := cell_lt r5
      have zx := cell_lt lx
      have zu := cell_lt u0
      have zm := cell_lt m0
      have hb1 := hbd x
      have hb2 := hbd y
      have hnn := HN.out
      have htt := HT.out
      have hll := HL.out.len
      have v1 : IntKind.i64.wrap (S.lev x - S.lev y) = S.lev x - S.lev y := IntWalk.i64_in _ (by omega)
      have HBD := Lib.hid hbd
      clear hbd hb1 hb2 hnn htt hll hxy
      by_cases hle : S.lev x - S.lev y ≤ mm
      · gi_wp2
        refine wpIn_region_pre_nd 13 1 (by kernel_rfl) (by kernel_rfl) (by kernel_rfl) (by kernel_rfl) (by kernel_rfl) rfl ?_
        simp only [List.take_succ_cons, List.take_zero]
        repeat (refine wpQuietIn_step (by first | exact fun _ _ _ _ => trivial | quiet_asked_in) (fun KQ hKQ => ?_); go_simp; first | (refine hKQ _ ?_; clear hKQ KQ) | (apply Exists.intro; refine ⟨fun _ => ?_, hKQ _ ?_⟩; (fail); clear hKQ KQ))
        refine wpQuietIn_nil ?_
        intro _ hwq1
        obtain ⟨nq, hwq2⟩ := hwq1
        subst hwq2
        simp only [List.replicate_succ, List.replicate_zero, List.cons_append, List.nil_append]
        refine wpAnyIn_ready (rs := [13]) (by kernel_rfl) (by simp) (AllReadyIn.cons rfl (fun K' hKK => ?_) AllReadyIn.nil)
        go_simp
        refine hKK _ _ ?_
        clear hKK
        refine wpAnyIn_done (by kernel_rfl) ?_ _
        gi_wp2
        have hb := below_drewN (Below.refl W'.heap.size W') nq
        refine ⟨kf_below hb (Nat.le_refl _), StayC.of_below hb, ?_, hB.trans (hb.mono hB.size), Nat.le_trans hS hb.size, fun D hD => (hb.block D (Array.getElem?_eq_some_iff.1 (hM D hD)).1).trans (hM D hD)⟩
        rw [hsn, stepK_same (by rw [hkl]; exact hle)]
        exact hI.below hb
      · gi_wp2
        refine wpIn_region_pre_nd 13 1 (by kernel_rfl) (by kernel_rfl) (by kernel_rfl) (by kernel_rfl) (by kernel_rfl) rfl ?_
        simp only [List.take_succ_cons, List.take_zero]
        repeat (refine wpQuietIn_step (by first | exact fun _ _ _ _ => trivial | quiet_asked_in) (fun KQ hKQ => ?_); go_simp; first | (refine hKQ _ ?_; clear hKQ KQ) | (apply Exists.intro; refine ⟨fun _ => ?_, hKQ _ ?_⟩; (fail); clear hKQ KQ))
        refine wpQuietIn_nil ?_
        intro _ hwq1
        obtain ⟨nq, hwq2⟩ := hwq1
        subst hwq2
        simp only [List.replicate_succ, List.replicate_zero, List.cons_append, List.nil_append]
        refine wpAnyIn_ready (rs := [13]) (by kernel_rfl) (by simp) (AllReadyIn.cons rfl (fun K' hKK => ?_) AllReadyIn.nil)
        go_simp
        refine hKK _ _ ?_
        clear hKK
        refine wpAnyIn_done (by kernel_rfl) ?_ _
        gi_wp2
        have hb := below_drewN (Below.refl W'.heap.size W') nq
        have hIY := hI.below hb
        have HBY := Lib.hid (hB.trans (hb.mono hB.size))
        have HSY := Lib.hid (Nat.le_trans hS hb.size)
        have HMY : Hid (∀ D, D ∈ Ds → (W'.drewN nq).heap[D]? = some (.deferred (some []))) := Lib.hid fun D hD => (hb.block D (Array.getElem?_eq_some_iff.1 (hM D hD)).1).trans (hM D hD)
        have HKY := Lib.hid (show KeepsFrom R.heap.size W' (W'.drewN nq) from kf_below hb (Nat.le_refl _))
        have HTY := Lib.hid (show StayC (fun k => k ≠ V.heap.size ∧ k ≠ X0.heap.size ∧ k ≠ X1.heap.size ∧ k ≠ W.heap.size) W' (W'.drewN nq) from StayC.of_below hb)
        have u0' := cell_below hb u0
        have u1' := cell_below hb u1
        have m0' := cell_below hb m0
        have m1' := cell_below hb m1
        have m2' := cell_below hb m2
        clear u0 u1 m0 m1 m2 r5 r6 lx ly lxf lyf z5 zx zu zm hb
        generalize W'.drewN nq = Y at *
        have HIY := Lib.hid hIY
        obtain ⟨lx, lxf⟩ := hIY.lev x hx
        obtain ⟨ly, lyf⟩ := hIY.lev y hy
        obtain ⟨⟨k0, kf0⟩, k1, kf1⟩ := hIY.cau x hx
        obtain ⟨o0, of0⟩ := hIY.low
        obtain ⟨t0, tf0⟩ := hIY.set_
        have r5 := hIY.b5
        have r6 := hIY.b6
        have hgt := hIY.gt
        dsimp only at r5 r6 lx ly lxf lyf k0 kf0 k1 kf1 o0 of0 t0 tf0 hgt
        have z5 := cell_lt r5
        have z6 := cell_lt r6
        have zx := cell_lt lx
        have zk := cell_lt k0
        have zo := cell_lt o0
        have zt := cell_lt t0
        have zu := cell_lt u0'
        have zm := cell_lt m0'
        have hmm := kLim_m HL.out d.1 d.2
        rw [hkl] at hmm
        dsimp only at hmm
        have hb2 := HBD.out y
        have hnn := HN.out
        have htt := HT.out
        have hll := HL.out.len
        have v2 : IntKind.i64.wrap (S.lev y + mm) = S.lev y + mm := IntWalk.i64_in _ (by omega)
        have HGT := Lib.hid hgt
        clear hmm hb2 hnn htt hll hgt hIY
        refine wpIn_region_pre_nd 12 1 (by kernel_rfl) (by kernel_rfl) (by kernel_rfl) (by kernel_rfl) (by kernel_rfl) rfl ?_
        simp only [List.take_succ_cons, List.take_zero]
        repeat (refine wpQuietIn_step (by first | exact fun _ _ _ _ => trivial | quiet_asked_in) (fun KQ hKQ => ?_); go_simp; first | (refine hKQ _ ?_; clear hKQ KQ) | (apply Exists.intro; refine ⟨fun _ => ?_, hKQ _ ?_⟩; (fail); clear hKQ KQ))
        refine wpQuietIn_nil ?_
        intro _ hwq1
        obtain ⟨nq, hwq2⟩ := hwq1
        subst hwq2
        simp only [List.replicate_succ, List.replicate_zero, List.cons_append, List.nil_append]
        refine wpAnyIn_ready (rs := [12]) (by kernel_rfl) (by simp) (AllReadyIn.cons rfl (fun K' hKK => ?_) AllReadyIn.nil)
        go_simp
        refine hKK _ _ ?_
        clear hKK
        refine wpAnyIn_done (by kernel_rfl) ?_ _
        have hbq := below_drewN (Below.refl Y.heap.size Y) nq
        have hgt := HGT.out
        have hord := HORD.out
        have hrs := HR.out.2.2
        have hez := HEZ.out
        have hxw := HXW.out
        have F : ∀ {b o : Nat} {v : Value}, b ≠ V.heap.size → Y.cell? ⟨b, o, none⟩ = some v → ((Y.drewN nq).setCell ⟨V.heap.size, x, none⟩ (.int .i64 (S.lev y + mm))).cell? ⟨b, o, none⟩ = some v := fun {b o v} hne e => by
          rw [World.cell?_setCell_far _ _ _ _ (by show V.heap.size ≠ b; omega)]; exact cell_below hbq e
        have G : ∀ {b o o' : Nat} {v : Value}, Y.cell? ⟨b, o', none⟩ = some v → Y.frozen? ⟨b, o, none⟩ = false → ((Y.drewN nq).setCell ⟨V.heap.size, x, none⟩ (.int .i64 (S.lev y + mm))).frozen? ⟨b, o, none⟩ = false := fun {b o o' v} e h => by
          rw [World.frozen?_setCell]; exact (hbq.frozen (p := ⟨b, o, none⟩) (cell_lt e)).trans h
        have a0 := F (by omega) u0'
        have a1 := F (by omega) u1'
        have a2 := F (by omega) m0'
        have a6 := F (by omega) r6
        have ak0 := F (by omega) k0
        have ak1 := F (by omega) k1
        have ao := F (by omega) o0
        have at0 := F (by omega) t0
        have bk0 := G k0 kf0
        have bk1 := G k1 kf1
        have bo := G o0 of0
        have bt0 := G t0 tf0
        have HFIN : Hid (KeepsFrom R.heap.size W' (lowW (Y.drewN nq) ⟨w.heap.size, V.heap.size, w0.heap.size, X0.heap.size, w1.heap.size, X1.heap.size, W.heap.size⟩ x (S.lev y + mm) d.1)) := Lib.hid (HKY.out.trans ((kf_below hbq (Nat.le_refl _)).trans (low_keeps _ _ _ _ _ _)))
        have HIQ := Lib.hid (HIY.out.below hbq)
        have HSQ : Hid (StayC (fun k => k ≠ V.heap.size ∧ k ≠ X0.heap.size ∧ k ≠ X1.heap.size ∧ k ≠ W.heap.size) W' (Y.drewN nq)) := Lib.hid (HTY.out.trans (StayC.of_below hbq))
        have HBQ := Lib.hid (HBY.out.trans (hbq.mono HBY.out.size))
        have HQ := Lib.hid (show w.heap.size ≤ V.heap.size by omega)
        have HSZ := Lib.hid (Nat.le_trans HSY.out hbq.size)
        have HMQ : Hid (∀ D, D ∈ Ds → (Y.drewN nq).heap[D]? = some (.deferred (some []))) := Lib.hid fun D hD => (hbq.block D (Array.getElem?_eq_some_iff.1 (HMY.out D hD)).1).trans (HMY.out D hD)
        have HXX : Hid ((kLim l d.1).f.toNat = x) := Lib.hid (by rw [hkl]; rfl)
        have HV : Hid (S.lev (kLim l d.1).s.toNat + (kLim l d.1).m = S.lev y + mm) := Lib.hid (by rw [hkl]; rfl)
        have HGTV : Hid (¬ S.lev (kLim l d.1).f.toNat - S.lev (kLim l d.1).s.toNat ≤ (kLim l d.1).m) := Lib.hid (by rw [hkl]; show ¬ (S.lev x - S.lev y ≤ mm); omega)
        clear r5 r6 lx ly lxf lyf k0 k1 kf0 kf1 o0 of0 t0 tf0 z5 z6 zx zk zo zt zu zm u0' u1' m0' m1' m2'
        have HU : Hid (∀ A B C D E F', ((((((Y.drewN nq).setCell ⟨V.heap.size, x, none⟩ (.int .i64 (S.lev y + mm))).setCell A B).setCell C D).setCell E F') = ((((((Y.drewN nq).setCell ⟨V.heap.size, x, none⟩ (.int .i64 (S.lev y + mm))).setCell A B).setCell C D).setCell E F')))) := Lib.hid (fun _ _ _ _ _ _ => rfl)
        obtain ⟨U, hU⟩ : ∃ U, U = (Y.drewN nq).setCell ⟨V.heap.size, x, none⟩ (.int .i64 (S.lev y + mm)) := ⟨_, rfl⟩
        rw [← hU] at a0 a1 a2 a6 ak0 ak1 ao at0 bk0 bk1 bo bt0 ⊢
        have HUE := Lib.hid hU
        have n1 : X0.heap.size < X1.heap.size := by omega
        have n2 : X1.heap.size < W.heap.size := by omega
        have n3 : W.heap.size < g2 := by omega
        have n4 : W.heap.size < g1 := by omega
        have n5 : X0.heap.size ≠ g2 := by omega
        have n6 : g2 ≠ X0.heap.size := by omega
        clear hU F G HU hgt hord hrs hez hxw
        have y0 := cell_lt a0
        have y2 := cell_lt a2
        have y6 := cell_lt a6
        have yk := cell_lt ak0
        have yo := cell_lt ao
        have yt := cell_lt at0
        gi_wp2
        rw [HUE.out]
        obtain ⟨q1, q2, q3, q4, q5, q6⟩ := low_all HIQ.out HFIN.out HSQ.out (fun i h => h) HBQ.out HQ.out HSZ.out HMQ.out HXX.out hx HV.out (by have := HGTV.out; omega)
        unfold lowW at q1 q2 q3 q4 q5 q6
        refine ⟨q1, q2, ?_, q4, q5, q6⟩
        rw [hsn]
        exact q3
    case done =>
      rintro D ys W' hD rfl ⟨hI, hB, hS, hM⟩ hK
      rw [useL_val] at hI
      change CtrAt W' _ n l p cap (roundsK l (t + 1)) at hI
      have s0 := hI.set_.1
      dsimp only at s0
      have hz := cell_lt s0
      have HI := Lib.hid hI
      have HBE := Lib.hid hB
      have HND : Hid ((D :: Ds).Nodup ∧ ∀ E, E ∈ D :: Ds → X2.heap.size ≤ E ∧ W'.heap[E]? = some (.deferred (some []))) := Lib.hid (by
        have hRs := HR.out.2.2
        have hZs := HEZ.out
        have hXs := HXW.out
        refine ⟨List.nodup_cons.2 ⟨fun hm => ?_, HDS.out.1⟩, fun E hE => ?_⟩
        · have := (Array.getElem?_eq_some_iff.1 (HDS.out.2 D hm).2).1; omega
        · rcases List.mem_cons.1 hE with rfl | h
          · exact ⟨by omega, hK⟩
          · exact ⟨(HDS.out.2 E h).1, hM E h⟩)
      have HX2S := Lib.hid (show w.heap.size ≤ X2.heap.size from HB.out.size)
      have HSS := Lib.hid (show X2.heap.size ≤ W'.heap.size by have := HR.out.2.2; have := HEZ.out; have := HXW.out; omega)
      have w1t : IntKind.i64.wrap ((t : Int) + 1) = (t : Int) + 1 := IntWalk.i64_in _ (by have := HN.out; have := HT.out; omega)
      clear hI hB hM hK hS
      cases hse : (roundsK l (t + 1)).settled
      · rw [hse] at s0
        have HUN2 : Hid (∀ s, s < t + 1 → (roundsK l (s + 1)).settled = false) := Lib.hid fun s hs => by
          by_cases e : s = t
          · rw [e]; exact hse
          · exact HUS.out s (by omega)
        clear hse
        go_wp2_with fail
        refine ⟨⟨t + 1, D :: Ds, _, _, _, _, _, _, rfl, HT.out, Lib.hid (HI.out.base.b8 0), HBE, HSS, HND, HUN2⟩, ?_⟩
        have := HT.out
        simp [intOf]
        omega
      · rw [hse] at s0
        have HSE := Lib.hid hse
        clear hse
        go_wp2_with fail
        exact leaves_marks w.heap.size (D :: Ds) W' HND.out.1 (fun E hE => ⟨Nat.le_trans HX2S.out (HND.out.2 E hE).1, (HND.out.2 E hE).2⟩) (fun Y _ h2 => ⟨_, results_tmp rfl _ _ _, ⟨[], none, 0, rfl, .inl rfl, .inl ⟨rfl, t, HT.out, HSE.out⟩, Nat.le_refl _, by decide⟩, HBE.out.trans h2⟩)
    case stop =>
      rintro D c pre W _ _ h _
      exact h.elim
  · obtain rfl : t = n := by omega
    have hti : ¬ ((t : Int) < (t : Int)) := by omega
    have h0 : 0 < l.length := by
      by_cases e : l.length = 0
      · have h1 := HUS.out 0 HN.out.1
        have h2 : (roundsK l (0 + 1)).settled = true := by
          show (foldK l { roundsK l 0 with settled := true } (useN l.length)).settled = true
          rw [e]; rfl
        rw [h2] at h1; cases h1
      · omega
    have HCI := Lib.hid (roundsK_in HL.out HN.out.1 h0 t)
    have HCO : Hid (∀ u, (∃ k c, k = itN (backK l (roundsK l t)) t (roundsK l t).low ∧ 1 ≤ c ∧ c ≤ t ∧ itN (backK l (roundsK l t)) c k = k ∧ (∀ i, 1 ≤ i → i < c → itN (backK l (roundsK l t)) i k ≠ k) ∧ u = cycK l (roundsK l t) k c) → ConOf t l u) := Lib.hid fun u hu => .inr ⟨HUS.out, hu⟩
    have HMS : Hid (MkAt W Ds) := Lib.hid fun D hD => (HDS.out.2 D hD).2
    have HDD : Hid (Ds.Nodup ∧ ∀ D, D ∈ Ds → X2.heap.size ≤ D) := Lib.hid ⟨HDS.out.1, fun D hD => (HDS.out.2 D hD).1⟩
    have HX2S := Lib.hid (show w.heap.size ≤ X2.heap.size from HB.out.size)
    have HGB := Lib.hid (show w.heap.size ≤ X1.heap.size by have := HORD.out; omega)
    clear hlt ht HUS HDS HORD HB
    obtain ⟨S, hS⟩ : ∃ S, S = roundsK l t := ⟨_, rfl⟩
    rw [← hS] at HC HCI HCO
    clear hS
    have HLT := Lib.hid (fun m => itN_lt (fun k _ => backK_lt HL.out HCI.out k) HCI.out.1 m)
    obtain ⟨C, hC1, hC2, hC3⟩ := itN_comes (fun k _ => backK_lt HL.out HCI.out k) HCI.out.1
    have HCC := Lib.hid (And.intro hC1 (And.intro hC2 hC3))
    have HBK := Lib.hid (fun (s : Ctr) (hs : s.cause = S.cause) (W' : World) (hW : CtrB W' ⟨w.heap.size, V.heap.size, w0.heap.size, X0.heap.size, w1.heap.size, X1.heap.size, 0⟩ t l p cap s) (k : Nat) (hk : k < t) => back_at hW HL.out HN.out.2 (by rw [hs]; exact HCI.out.2) hk)
    clear hC1 hC2 hC3 h0
    go_wp2_with fail
    go_loopw [62] (fun si wr => ∃ i : Nat, i ≤ t ∧ si = .int .i64 (i : Int) ∧ Hid (CtrB wr ⟨w.heap.size, V.heap.size, w0.heap.size, X0.heap.size, w1.heap.size, X1.heap.size, 0⟩ t l p cap { S with low := itN (backK l S) i S.low }) ∧ Hid (Below w.heap.size w wr) ∧ Hid (X2.heap.size ≤ wr.heap.size) ∧ Hid (MkAt wr Ds)) (fun si _ => t - (intOf si).toNat)
    case atStart => exact ⟨0, Nat.zero_le _, rfl, HC, HBW, HXW, HMS⟩
    case round =>
      obtain ⟨i, hi, rfl, HC2, HB2, HX2, HM2⟩ := hrel
      by_cases hlt : i < t
      · have hii : (i : Int) < t := by omega
        have HI := Lib.hid hlt
        obtain ⟨c7, f7⟩ := HC2.out.low
        dsimp only at c7 f7
        have z7 := cell_lt c7
        obtain ⟨k, hk⟩ : ∃ k, k = itN (backK l S) i S.low := ⟨_, rfl⟩
        have hkl := HLT.out i
        rw [← hk] at c7 hkl
        have HKL := Lib.hid hkl
        have HK := Lib.hid hk
        have HCALL := Lib.hid (HBK.out { S with low := itN (backK l S) i S.low } rfl wr HC2.out k hkl)
        have w1 : IntKind.i64.wrap ((i : Int) + 1) = (i : Int) + 1 := IntWalk.i64_in _ (by have := HN.out; omega)
        clear hlt hkl hk
        have hbk : backK l { S with low := itN (backK l S) i S.low } k = itN (backK l S) (i + 1) S.low := by rw [HK.out]; rfl
        rw [hbk] at HCALL
        clear hbk
        go_wp2_with (go_at_call 49; refine HCALL.out.mono ?_; rintro e w2 ⟨rfl, hb2⟩; have d7 := cell_below hb2 c7; have g7 := (hb2.frozen (p := ⟨X1.heap.size, 0, none⟩) z7).trans f7; have y7 := cell_lt d7; have HB3 := Lib.hid hb2; clear hb2)
        have HSL := Lib.hid ((HC2.out.below HB3.out).setLow (itN (backK l S) (i + 1) S.low))
        have HMM := Lib.hid ((HM2.out.below HB3.out).set d7 (.int .i64 ((itN (backK l S) (i + 1) S.low : Nat) : Int)))
        have HBB := Lib.hid ((bt HB2.out HB3.out).setCell (p := ⟨X1.heap.size, 0, none⟩) HGB.out (.int .i64 ((itN (backK l S) (i + 1) S.low : Nat) : Int)))
        go_roundw
        case rel => exact ⟨i + 1, HI.out, by simp, HSL, HBB, Lib.hid (by have := HX2.out; have := HB3.out.size; simp; omega), HMM⟩
        case measure => have := HI.out; simp [intOf]; omega
      · obtain rfl : i = t := by omega
        clear hlt hi
        have hii : ¬ ((i : Int) < (i : Int)) := by omega
        obtain ⟨k0, hk0⟩ : ∃ k0, k0 = itN (backK l S) i S.low := ⟨_, rfl⟩
        have hkl := HLT.out i
        have HK0 := Lib.hid hk0
        rw [← hk0] at HC2 HCC hkl
        have HKL := Lib.hid hkl
        have HLT0 := Lib.hid (fun m => itN_lt (fun k _ => backK_lt HL.out HCI.out k) hkl m)
        have HSTEP : Hid (∀ k, k < i → ∀ W', Below wr.heap.size wr W' → Calls Try.prog 49 #[.int .i64 (k : Int), .pointer (some ⟨w1.heap.size, 0, none⟩), .pointer (some ⟨w.heap.size, 0, none⟩)] W' fun e w' => e = .returned (.int .i64 ((backK l S k : Nat) : Int)) ∧ Below W'.heap.size W' w') := Lib.hid fun k hk W' hb => HBK.out { S with low := k0 } rfl W' (HC2.out.below hb) k hk
        obtain ⟨c7, f7⟩ := HC2.out.low
        have c6 := HC2.out.b6
        obtain ⟨⟨x0, -⟩, x1, -⟩ := HC2.out.cau k0 hkl
        dsimp only at c7 c6 x0 x1
        have z7 := cell_lt c7
        have z6 := cell_lt c6
        have zx := cell_lt x0
        have hki : (k0 : Int) < i := by omega
        clear hk0 hkl f7 HLT HBK
        go_upto_region 23 with fail
        have HCY0 := Lib.hid (CycAt.new wr ((S.cause k0).1 : Int) (S.cause k0).2)
        have HCL := Lib.hid (HSTEP.out k0 HKL.out _ HCY0.out.bel)
        have d7 := cell_below HCY0.out.bel c7
        have y7 := cell_lt d7
        clear c7 c6 x0 x1 z7 z6 zx
        generalize wr.alloc (.cells #[.int .i64 ((S.cause k0).1 : Int), .bool (S.cause k0).2] 41) = Y at *
        go_wp2_with (go_at_call 49; refine HCL.out.mono ?_; rintro e w2 ⟨rfl, hb2⟩; have HB3 := Lib.hid hb2; clear hb2)
        have HCY1 := Lib.hid (HCY0.out.below HB3.out)
        clear d7 y7
        generalize wr = W5 at *
        go_loopw [12, 13] (fun sv sk wx => ∃ (c : Nat) (v : Value), 1 ≤ c ∧ c ≤ C ∧ sv = v ∧ sk = .int .i64 ((itN (backK l S) c k0 : Nat) : Int) ∧ Hid (∀ i, 1 ≤ i → i < c → itN (backK l S) i k0 ≠ k0) ∧ Hid (CycAt W5 wx v (cycK l S k0 c))) (fun sv _ _ => C - lenV sv)
        case atStart => exact ⟨1, _, Nat.le_refl _, HCC.out.1, rfl, rfl, Lib.hid (fun i h1 h2 => by omega), HCY1⟩
        case round =>
          obtain ⟨c, v, h1, hcC, rfl, rfl, HNE, HCY⟩ := hrel
          have HC5 := HC2.out.below HCY.out.bel
          have c7 := HC5.low.1
          have c6 := HC5.b6
          dsimp only at c7 c6
          have z7 := cell_lt c7
          have HCCC := Lib.hid (And.intro h1 hcC)
          clear h1 hcC
          by_cases heq : itN (backK l S) c k0 = k0
          · have hb' : (((itN (backK l S) c k0 : Nat) : Int) != (k0 : Int)) = false := by rw [heq]; simp
            obtain ⟨p', cap', rfl, hu, hcap⟩ := HCY.out.uses
            have HU := Lib.hid hu
            have HCAP := Lib.hid hcap
            have HEQ := Lib.hid heq
            clear heq hu c6 hcap
            go_wp2_with fail
            exact leaves_marks w.heap.size Ds wr HDD.out.1 (fun E hE => ⟨Nat.le_trans HX2S.out (HDD.out.2 E hE), HM2.out.below HCY.out.bel E hE⟩) (fun Y' hst h2 => ⟨_, results_tmp rfl _ _ _, ⟨_, p', cap', rfl, UsesIn.stay HU.out hst, HCO.out _ ⟨k0, c, HK0.out, HCCC.out.1, Nat.le_trans HCCC.out.2 HCC.out.2.1, HEQ.out, HNE.out, rfl⟩, HCAP.out⟩, (bt HB2.out HCY.out.bel).trans h2⟩)
          · have hb' : (((itN (backK l S) c k0 : Nat) : Int) != (k0 : Int)) = true := by
              simp only [bne_iff_ne, ne_eq]; omega
            have HNE2 : Hid (∀ i, 1 ≤ i → i < c + 1 → itN (backK l S) i k0 ≠ k0) := Lib.hid fun j h1 h2 => by
              by_cases e : j = c
              · rw [e]; exact heq
              · exact HNE.out j h1 (by omega)
            have HC1 := Lib.hid (show c + 1 ≤ C by
              have := HCCC.out
              by_cases e : c = C
              · exact absurd (by rw [e]; exact HCC.out.2.2) heq
              · omega)
            have hkl := HLT0.out c
            have HKS := Lib.hid (show backK l S (itN (backK l S) c k0) = itN (backK l S) (c + 1) k0 from rfl)
            have HCS := Lib.hid (cycK_succ l S k0 c)
            have HLN := Lib.hid HCY.out.len
            have hlen : (cycK l S k0 c).length = c := cycK_len _ _ _ _
            rw [hlen] at HLN
            have hcc := HCCC.out
            have hcb := HCC.out.2.1
            have hnn := HN.out
            have HLE := Lib.hid (show (cycK l S k0 c).length ≤ 16 by omega)
            clear hlen hcc hcb hnn heq
            generalize itN (backK l S) c k0 = kc at *
            obtain ⟨⟨x0, -⟩, x1, -⟩ := HC5.cau kc hkl
            dsimp only at x0 x1
            have zx := cell_lt x0
            have hki2 : (kc : Int) < i := by omega
            have HKC := Lib.hid hkl
            obtain ⟨i1, hi1, hy0, hy1, hy2⟩ := info_parts infoUse
            generalize cycK l S k0 c = u at *
            clear HC5 hkl
            go_wp2_with (at_builtin; refine wpList_append_own_at _ rfl (.tmp 82) (.tmp 87) _ rfl W5.heap.size 41 i1 (.agg #[.int .i64 0, .bool false]) 2 16 Try.underlying34 hi1 hy0 hy1 hy2 rfl (by decide) _ u.length _ rfl (HCY.out.own.alloc _) ⟨wr.heap.size, 0, none⟩ 1 1 [.int .i64 ((S.cause kc).1 : Int), .bool (S.cause kc).2] rfl rfl (two_new _ _ _ _) (by simp [Value.oneCell']) (by have := HLE.out; unfold maxLen; omega) (by have := HLE.out; omega) (by have := HCY.out.bel.size; simp; omega) ?_; intro v' z1 hown hg _ _; have HCY2 := Lib.hid (HCY.out.more hown hg); clear hown hg)
            refine (HSTEP.out kc HKC.out _ HCY2.out.bel).mono ?_
            rintro e w3 ⟨rfl, hb3⟩
            rw [HKS.out]
            have HCY3 := Lib.hid (HCY2.out.below hb3)
            rw [← HCS.out] at HCY3
            have HLN3 := Lib.hid HCY3.out.len
            rw [cycK_len] at HLN3
            clear hb3
            go_wp2_with fail
            go_roundw
            case rel => exact ⟨c + 1, v', by omega, HC1.out, rfl, rfl, HNE2, HCY3⟩
            case measure => rw [HLN.out, HLN3.out]; have := HC1.out; omega
end Go.Proofs.Ytlelamjbfjneiaa.Ct
