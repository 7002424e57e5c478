/- Contracts: find, which makes a clock at work. · Contracts: phases, what is shown, readings; the calls that hand back one number. · Contracts: the calls of package world that hand back one number, or a bool. · Contracts: the calls of package world that hand back a pair of numbers. · A world that comes in as an argument, as it lies in memory. · Contract: Big, which says whether a world is more than a law looks at. · Rows of memory that Own makes: chambers, events, clocks; what they are good for when they are done. · The states of Own's loops, and how a round leads from one to the next. · What Own's walks need: the element types' rows of the table; what Own leaves. -/
import Derived.Test.YtmfpnfdoidihcaaGreatDoorVb
import Derived.Test.YtmfpnfdoidihcaaGreatDoorVc
import Derived.Test.YtmfpnfdoidihcaaGreatDoorVa
import Derived.Deep.Slices
import Derived.Deep.Fields
import Derived.ChangeSame
import Derived.Lib.SmallJoins
import Derived.LoopTactic
import Derived.Deep.AppendLies
import Derived.Maps.AppendAt
import Derived.Deep.RegionHeld3
import Derived.OwnWalk
import Derived.Laws.Pointers
namespace Go.Proofs.YtmfpnfdoidihcaaGreatDoor.Wd
open Go Go.RowKit
/-- a slice of seconds -/
def SecsIn (w : World) (l : List Int) (p : Option Addr) : Prop := l.length ≤ maxLen ∧ SliceIn p l.length (IntsAt w l)
theorem IntsAt.below {w w' : World} {b o : Nat} {l : List Int} (h : IntsAt w l b o) (hb : Below w.heap.size w w') : IntsAt w' l b o := fun i hi => cell_below hb (h i hi)
theorem checkS_vals (W : Wld) : checkS W = 0 ∨ checkS W = 2 ∨ checkS W = 6 ∨ checkS W = 20 ∨ checkS W = 21 := by
  unfold checkS; repeat (split; omega); omega
set_option maxRecDepth 100000 in
set_option maxHeartbeats 1000000 in
theorem find_bad (W : Wld) (k : Int) (l : List Int) (p1 p2 p3 : Option Addr) (k1 k2 k3 : Nat) (w : World) (ht : Tabs w) (hW : WldIn w W p1 p2) (hs : SecsIn w l p3) (he : findErr W k l ≠ 0) :
    Calls Tryz.prog 73 #[wldVal W p1 p2 k1 k2, .int .i64 k, .slice p3 l.length k3] w fun e w' => e = .returned (.tuple #[.pointer none, .int .i64 (findErr W k l)]) ∧ Below w.heap.size w w' := by
  have hm2 := hW.2.1
  unfold maxLen at hm2
  have a0 : Below w.heap.size w (w.alloc (.cells #[.int .u64 W.seed, .slice p1 W.chs.length k1, .slice p2 W.cls.length k2] 38)) := (Below.refl _ _).alloc (Nat.le_refl _) _
  have hc := check_any W p1 p2 k1 k2 _ (ht.below a0) (hW.below a0)
  have x2 : (w.alloc (.cells #[.int .u64 W.seed, .slice p1 W.chs.length k1, .slice p2 W.cls.length k2] 38)).cell? ⟨w.heap.size, 2, none⟩ = some (.slice p2 W.cls.length k2) := by simp
  unfold wldVal at hc ⊢
  have HC := Lib.hid hc
  have HS := Lib.hid hs
  have HE := Lib.hid he
  clear hc hW ht hs he
  by_cases h0 : checkS W = 0
  · have he2 : findErr W k l = if inR k 0 (W.cls.length - 1) = true then (if secsOk l = true then 0 else 21) else 20 := if_pos h0
    rw [h0] at HC
    cases h1 : inR k 0 (W.cls.length - 1)
    · rw [h1, if_neg (by decide)] at he2
      have H2 := Lib.hid he2
      clear he2 h0
      go_enter Tryz.func73, Tryz.ntmps73
      go_wp2_with fail
      refine HC.out.mono ?_
      rintro e w1 ⟨rfl, b1⟩
      have y2 := cell_below b1 x2
      have hz := cell_lt y2
      go_wp2_with (go_at_call 87; refine (isIndex_any _ _ _ (by omega) (by omega)).mono ?_; rintro e w' ⟨rfl, rfl⟩)
      go_ret2
      exact ⟨by rw [H2.out]; rfl, a0.trans (b1.mono (by simp))⟩
    · rw [h1, if_pos rfl] at he2
      cases h2 : secsOk l
      · rw [h2, if_neg (by decide)] at he2
        have H2 := Lib.hid he2
        clear he2 h0
        go_enter Tryz.func73, Tryz.ntmps73
        go_wp2_with fail
        refine HC.out.mono ?_
        rintro e w1 ⟨rfl, b1⟩
        have y2 := cell_below b1 x2
        have hz := cell_lt y2
        have b2 : Below w.heap.size w w1 := a0.trans (b1.mono (by simp))
        have B2 := Lib.hid b2
        clear b2
        go_wp2_with (first | (go_at_call 87; refine (isIndex_any _ _ _ (by omega) (by omega)).mono ?_; rintro e w' ⟨rfl, rfl⟩) |
          (go_at_call 108; refine (allInt_any _ _ l _ HS.out.1 (HS.out.2.imp fun _ _ h => h.below B2.out)).mono ?_; rintro e w' ⟨rfl, rfl⟩))
        go_ret2
        exact ⟨by rw [H2.out]; rfl, B2.out⟩
      · rw [h2, if_pos rfl] at he2
        exact absurd he2 HE.out
  · have he2 : findErr W k l = checkS W := if_neg h0
    have h3 : (checkS W != 0) = true := by simpa using h0
    have H2 := Lib.hid he2
    clear he2 h0
    go_enter Tryz.func73, Tryz.ntmps73
    go_wp2_with fail
    refine HC.out.mono ?_
    rintro e w1 ⟨rfl, b1⟩
    go_wp2
    go_ret2
    exact ⟨by rw [H2.out]; rfl, a0.trans (b1.mono (by simp))⟩
theorem effects_keep (W0 : World) (w : World) (hb : Below W0.heap.size W0 w) :
    Calls Tryz.prog 110 #[] w fun e w' => ∃ m, e = .returned (.map (some m)) ∧ w'.heap[m]? = some fxMap ∧ Below W0.heap.size W0 w' :=
  (effects_any w).mono fun _ _ ⟨a, b⟩ => ⟨_, a, by rw [b]; exact (MapKept.heap_alloc w _).1, by rw [b]; exact hb.alloc hb.size _⟩
theorem below_alloc {W0 w : World} (h : Below W0.heap.size W0 w) (o : Obj) : Below W0.heap.size W0 (w.alloc o) := h.alloc h.size o
/-- what find hands back where it hands back a clock -/
def Found (W : Wld) (k : Int) (B : Nat) (w : World) (e : Ending) (w' : World) : Prop :=
  ∃ a m v, e = .returned (.tuple #[.pointer (some ⟨a, 0, none⟩), .int .i64 0]) ∧ AtWork w' a m (clkOf W k) W.seed k (roomOf W k) v ∧ Below B w w' ∧ B ≤ a
set_option maxRecDepth 100000 in
set_option maxHeartbeats 2000000 in
theorem find_okA (W : Wld) (k : Int) (j i : Nat) (c : Clk) (r : Cham) (l : List Int) (p1 p2 p3 : Option Addr) (k1 k2 k3 : Nat) (w : World) (ht : Tabs w) (hW : WldIn w W p1 p2) (hs : SecsIn w l p3) (h0 : checkS W = 0) (h1 : inR k 0 (W.cls.length - 1) = true) (h2 : secsOk l = true) (hk : k = (j : Int)) (hj : j < W.cls.length) (hjc : W.cls[j] = c) (hi : i < W.chs.length) (hroom : c.room = (i : Int)) (hir : W.chs[i] = r) :
    Calls Tryz.prog 73 #[wldVal W p1 p2 k1 k2, .int .i64 k, .slice p3 l.length k3] w (fun e w' => ∃ a m v, e = .returned (.tuple #[.pointer (some ⟨a, 0, none⟩), .int .i64 0]) ∧ AtWork w' a m c W.seed k r v ∧ Below w.heap.size w w' ∧ w.heap.size ≤ a) := by
  have hm2 := hW.2.1
  unfold maxLen at hm2
  have a0 : Below w.heap.size w (w.alloc (.cells #[.int .u64 W.seed, .slice p1 W.chs.length k1, .slice p2 W.cls.length k2] 38)) := (Below.refl _ _).alloc (Nat.le_refl _) _
  have hc := check_any W p1 p2 k1 k2 _ (ht.below a0) (hW.below a0)
  rw [h0] at hc
  have x0 : (w.alloc (.cells #[.int .u64 W.seed, .slice p1 W.chs.length k1, .slice p2 W.cls.length k2] 38)).cell? ⟨w.heap.size, 0, none⟩ = some (.int .u64 W.seed) := by simp
  have x1 : (w.alloc (.cells #[.int .u64 W.seed, .slice p1 W.chs.length k1, .slice p2 W.cls.length k2] 38)).cell? ⟨w.heap.size, 1, none⟩ = some (.slice p1 W.chs.length k1) := by simp
  have x2 : (w.alloc (.cells #[.int .u64 W.seed, .slice p1 W.chs.length k1, .slice p2 W.cls.length k2] 38)).cell? ⟨w.heap.size, 2, none⟩ = some (.slice p2 W.cls.length k2) := by simp
  obtain ⟨q1, o1, rfl, hq1⟩ := hW.2.2.1.resolve_left (by omega)
  obtain ⟨q2, o2, rfl, hq2⟩ := hW.2.2.2.resolve_left (by omega)
  subst hk
  have hcc := hq2 j hj
  have hrr := hq1 i hi
  rw [hjc] at hcc
  rw [hir] at hrr
  have hjlt : (j : Int) < (W.cls.length : Int) := by omega
  have hilt : (i : Int) < (W.chs.length : Int) := by omega
  have hm1 := hW.1
  unfold maxLen at hm1
  unfold wldVal at hc ⊢
  have HC := Lib.hid hc
  have HS := Lib.hid hs
  have H1 := Lib.hid h1
  have H2 := Lib.hid h2
  have HCC := Lib.hid hcc
  have HRR := Lib.hid hrr
  have HRO := Lib.hid hroom
  clear hc hW ht hs h0 h1 h2 hcc hrr hq1 hq2 hroom hj hi hjc hir
  go_enter Tryz.func73, Tryz.ntmps73
  go_wp2_with fail
  refine HC.out.mono ?_
  rintro e w1 ⟨rfl, b1⟩
  have y0 := cell_below b1 x0
  have y1 := cell_below b1 x1
  have y2 := cell_below b1 x2
  have hz := cell_lt y2
  have b2 : Below w.heap.size w w1 := a0.trans (b1.mono (by simp))
  have B2 := Lib.hid b2
  obtain ⟨⟨c0, c1, c2, c3, c4, c5, c6, c7⟩, v, c8, hv⟩ := HCC.out.below b2
  obtain ⟨r0, r1, r2⟩ := HRR.out.below b2
  have HV := Lib.hid hv
  obtain ⟨pv, capv, rfl, hmv, -⟩ := hv
  rw [HRO.out] at c7
  have hz1 := cell_lt c0
  have hz2 := cell_lt r0
  clear x0 x1 x2 b1 b2 a0
  have h1' := H1.out
  have h2' := H2.out
  go_wp2_with (first | (go_at_call 87; refine (isIndex_any _ _ _ (by omega) (by omega)).mono ?_; rintro e w' ⟨rfl, rfl⟩) |
    (go_at_call 108; refine (allInt_any _ _ l _ HS.out.1 (HS.out.2.imp fun _ _ h => h.below B2.out)).mono ?_; rintro e w' ⟨rfl, rfl⟩))
  obtain ⟨W0, hW0⟩ : ∃ W0, W0 = (w1.alloc (.cells #[.int .i64 c.kind, .int .i64 c.phase, .int .i64 c.rate, .int .i64 c.drift, .int .i64 c.white, .int .i64 c.walk, .int .i64 c.heat, .int .i64 (i : Int), .slice pv c.evs.length capv] 88)) := ⟨_, rfl⟩
  rw [← hW0]
  have hbw : Below w1.heap.size w1 W0 := by rw [hW0]; exact (Below.refl _ _).alloc (Nat.le_refl _) _
  have g0 : W0.cell? ⟨w1.heap.size, 0, none⟩ = some (.int .i64 c.kind) := by rw [hW0]; simp
  have g1 : W0.cell? ⟨w1.heap.size, 1, none⟩ = some (.int .i64 c.phase) := by rw [hW0]; simp
  have g2 : W0.cell? ⟨w1.heap.size, 2, none⟩ = some (.int .i64 c.rate) := by rw [hW0]; simp
  have g3 : W0.cell? ⟨w1.heap.size, 3, none⟩ = some (.int .i64 c.drift) := by rw [hW0]; simp
  have g4 : W0.cell? ⟨w1.heap.size, 4, none⟩ = some (.int .i64 c.white) := by rw [hW0]; simp
  have g5 : W0.cell? ⟨w1.heap.size, 5, none⟩ = some (.int .i64 c.walk) := by rw [hW0]; simp
  have g6 : W0.cell? ⟨w1.heap.size, 6, none⟩ = some (.int .i64 c.heat) := by rw [hW0]; simp
  have g7 : W0.cell? ⟨w1.heap.size, 7, none⟩ = some (.int .i64 (i : Int)) := by rw [hW0]; simp
  have g8 : W0.cell? ⟨w1.heap.size, 8, none⟩ = some (.slice pv c.evs.length capv) := by rw [hW0]; simp
  have d0 := cell_below hbw y0
  have d1 := cell_below hbw y1
  have s0 := cell_below hbw r0
  have s1 := cell_below hbw r1
  have s2 := cell_below hbw r2
  have hz3 := hbw.size
  clear hW0 y0 y1 y2 r0 r1 r2 c0 c1 c2 c3 c4 c5 c6 c7 c8 h1' h2'
  have HBW := Lib.hid hbw
  clear hbw
  have hk : ∀ X, Below W0.heap.size W0 X → (fun w' => Below W0.heap.size W0 w' ∧ w'.cell? ⟨w1.heap.size, 0, none⟩ = some (.int .i64 c.kind) ∧ w'.cell? ⟨w1.heap.size, 1, none⟩ = some (.int .i64 c.phase) ∧ w'.cell? ⟨w1.heap.size, 2, none⟩ = some (.int .i64 c.rate) ∧ w'.cell? ⟨w1.heap.size, 3, none⟩ = some (.int .i64 c.drift) ∧ w'.cell? ⟨w1.heap.size, 4, none⟩ = some (.int .i64 c.white) ∧ w'.cell? ⟨w1.heap.size, 5, none⟩ = some (.int .i64 c.walk) ∧ w'.cell? ⟨w1.heap.size, 6, none⟩ = some (.int .i64 c.heat) ∧ w'.cell? ⟨w1.heap.size, 7, none⟩ = some (.int .i64 (i : Int)) ∧ w'.cell? ⟨w1.heap.size, 8, none⟩ = some (.slice pv c.evs.length capv) ∧ w'.cell? ⟨w.heap.size, 0, none⟩ = some (.int .u64 W.seed) ∧ w'.cell? ⟨w.heap.size, 1, none⟩ = some (.slice (some ⟨q1, o1, none⟩) W.chs.length k1) ∧  w'.cell? ⟨q1, o1 + i * 3, none⟩ = some (.int .i64 r.base) ∧ w'.cell? ⟨q1, o1 + i * 3 + 1, none⟩ = some (.int .i64 r.swing) ∧ w'.cell? ⟨q1, o1 + i * 3 + 2, none⟩ = some (.int .i64 r.period)) X := fun X h => ⟨h, cell_below h g0, cell_below h g1, cell_below h g2, cell_below h g3, cell_below h g4, cell_below h g5, cell_below h g6, cell_below h g7, cell_below h g8, cell_below h d0, cell_below h d1, cell_below h s0, cell_below h s1, cell_below h s2⟩
  have HK := Lib.hid hk
  clear hk
  go_region_held3 (fun w' => Below W0.heap.size W0 w' ∧ w'.cell? ⟨w1.heap.size, 0, none⟩ = some (.int .i64 c.kind) ∧ w'.cell? ⟨w1.heap.size, 1, none⟩ = some (.int .i64 c.phase) ∧ w'.cell? ⟨w1.heap.size, 2, none⟩ = some (.int .i64 c.rate) ∧ w'.cell? ⟨w1.heap.size, 3, none⟩ = some (.int .i64 c.drift) ∧ w'.cell? ⟨w1.heap.size, 4, none⟩ = some (.int .i64 c.white) ∧ w'.cell? ⟨w1.heap.size, 5, none⟩ = some (.int .i64 c.walk) ∧ w'.cell? ⟨w1.heap.size, 6, none⟩ = some (.int .i64 c.heat) ∧ w'.cell? ⟨w1.heap.size, 7, none⟩ = some (.int .i64 (i : Int)) ∧ w'.cell? ⟨w1.heap.size, 8, none⟩ = some (.slice pv c.evs.length capv) ∧ w'.cell? ⟨w.heap.size, 0, none⟩ = some (.int .u64 W.seed) ∧ w'.cell? ⟨w.heap.size, 1, none⟩ = some (.slice (some ⟨q1, o1, none⟩) W.chs.length k1) ∧  w'.cell? ⟨q1, o1 + i * 3, none⟩ = some (.int .i64 r.base) ∧ w'.cell? ⟨q1, o1 + i * 3 + 1, none⟩ = some (.int .i64 r.swing) ∧ w'.cell? ⟨q1, o1 + i * 3 + 2, none⟩ = some (.int .i64 r.period))
    (exact HK.out _ (by first | assumption | exact below_drewN (Below.refl _ _) _ | exact Below.drew (below_drewN (Below.refl _ _) _) | exact Below.drew (Below.refl _ _) | exact below_alloc (by assumption) _))
    (first | (go_at_call 110; refine (effects_keep W0 _ (by first | assumption | exact Below.drew (Below.refl _ _) | exact below_drewN (Below.refl _ _) _ | exact Below.drew (below_drewN (Below.refl _ _) _))).mono ?_; rintro e w2 ⟨m, rfl, hfx, hb2⟩))
  go_wp2_with fail
  go_ret2
  have hb3 := below_alloc hb2 (.cells #[.int .i64 c.kind, .int .i64 c.phase, .int .i64 c.rate, .int .i64 c.drift, .int .i64 c.white, .int .i64 c.walk, .int .i64 c.heat, .int .i64 (i : Int), .slice pv c.evs.length capv, .int .u64 W.seed, .int .i64 (j : Int), .int .i64 r.base, .int .i64 r.swing, .int .i64 r.period, .map (some m)] 161)
  have hm : m < w2.heap.size := heap_lt hfx
  have hroom := HRO.out
  refine ⟨w2.heap.size, m, .slice pv c.evs.length capv, rfl, ⟨⟨by simp, by simp, by simp, by simp, by simp, by simp, by simp, by simp [hroom]⟩, by simp, (HV.out.below HBW.out).below hb3, by simp, by simp, ⟨by simp, by simp, by simp⟩, by simp, (Below.heap_alloc _ _ _ hm).trans hfx⟩, ?_, ?_⟩
  · exact B2.out.trans ((HBW.out.trans (hb3.mono HBW.out.size)).mono B2.out.size)
  · have := B2.out.size; have := HBW.out.size; have := hb2.size; omega
theorem find_ok (W : Wld) (k : Int) (l : List Int) (p1 p2 p3 : Option Addr) (k1 k2 k3 : Nat) (w X : World) (hb : Below w.heap.size w X) (ht : Tabs w) (hW : WldIn w W p1 p2) (hs : SecsIn X l p3) (he : findErr W k l = 0) :
    Calls Tryz.prog 73 #[wldVal W p1 p2 k1 k2, .int .i64 k, .slice p3 l.length k3] X (Found W k w.heap.size w) := by
  obtain ⟨h0, h1, h2⟩ := findErr_zero he
  have hA := allowed_of h0 h1
  have hk := inR_true h1
  have hjc : W.cls[k.toNat]'hA.hk = clkOf W k := by have := hA.hc; rw [List.getElem?_eq_getElem hA.hk] at this; exact Option.some.inj this
  have hir : W.chs[(clkOf W k).room.toNat]'hA.hi = roomOf W k := by have := hA.hr; rw [List.getElem?_eq_getElem hA.hi] at this; exact Option.some.inj this
  exact (find_okA W k k.toNat (clkOf W k).room.toNat (clkOf W k) (roomOf W k) l p1 p2 p3 k1 k2 k3 X (ht.below hb) (hW.below hb) hs h0 h1 h2 (by omega) hA.hk hjc hA.hi (by have := hA.room; omega) hir).mono
    fun e w' ⟨a, m, v, h1, h2, h3, h4⟩ => ⟨a, m, v, h1, h2, hb.trans (h3.mono hb.size), Nat.le_trans hb.size h4⟩
theorem find_no (W : Wld) (k : Int) (l : List Int) (p1 p2 p3 : Option Addr) (k1 k2 k3 : Nat) (w X : World) (hb : Below w.heap.size w X) (ht : Tabs w) (hW : WldIn w W p1 p2) (hs : SecsIn X l p3) (he : findErr W k l ≠ 0) :
    Calls Tryz.prog 73 #[wldVal W p1 p2 k1 k2, .int .i64 k, .slice p3 l.length k3] X fun e w' => e = .returned (.tuple #[.pointer none, .int .i64 (findErr W k l)]) ∧ Below w.heap.size w w' :=
  (find_bad W k l p1 p2 p3 k1 k2 k3 X (ht.below hb) (hW.below hb) hs he).mono fun _ _ ⟨a, b⟩ => ⟨a, hb.trans (b.mono hb.size)⟩
theorem secs_nil (X : World) : SecsIn X [] none := ⟨by simp [maxLen], .inl rfl⟩
theorem secs_one {X : World} {b : Nat} {s : Int} (h : X.cell? ⟨b, 0, none⟩ = some (.int .i64 s)) : SecsIn X [s] (some ⟨b, 0, none⟩) :=
  ⟨by simp [maxLen], .inr ⟨b, 0, rfl, fun i hi => by
    obtain rfl : i = 0 := by simp at hi; omega
    exact h⟩⟩
theorem secs_two {X : World} {b : Nat} {s t : Int} (h : X.cell? ⟨b, 0, none⟩ = some (.int .i64 s)) (h' : X.cell? ⟨b, 1, none⟩ = some (.int .i64 t)) : SecsIn X [s, t] (some ⟨b, 0, none⟩) :=
  ⟨by simp [maxLen], .inr ⟨b, 0, rfl, fun i hi => by
    have : i = 0 ∨ i = 1 := by simp at hi; omega
    rcases this with rfl | rfl
    · exact h
    · exact h'⟩⟩
end Go.Proofs.YtmfpnfdoidihcaaGreatDoor.Wd
namespace Go.Proofs.YtmfpnfdoidihcaaGreatDoor.Wd
open Go Go.RowKit
theorem phase_at {a m : Nat} {c : Clk} {seed k : Int} {r : Cham} {v : Value} (s : Int) (w : World) (h : AtWork w a m c seed k r v) (hc : ClkIn c) (hr : chamOk r = true) (hk : 0 ≤ k ∧ k ≤ 16) (h0 : 0 ≤ s) (h1 : s ≤ 1000000) :
    Calls Tryz.prog 75 #[.pointer (some ⟨a, 0, none⟩), .int .i64 s] w fun e w' => e = .returned (.int .i64 (phaseS seed k c r s)) ∧ Below w.heap.size w w' := by
  have b1 := fixed_bd hc hr s h0 h1
  have b2 := walked_bd seed k c.walk 0 s hc.walk.1 (Int.le_refl 0) h0
  have b3 := stray_bd hc 0 s (Int.le_refl 0) h0 h1
  have b4 : -10000000000000 ≤ walkedS seed k c.walk 0 s ∧ walkedS seed k c.walk 0 s ≤ 10000000000000 := by omega
  clear b2 b3
  have H := Lib.hid h
  have HC := Lib.hid hc
  have HR := Lib.hid hr
  clear h hc hr
  go_enter Tryz.func75, Tryz.ntmps75
  go_wp2_with fail
  refine (fixed_at s _ H.out HC.out HR.out h0 h1).mono ?_
  rintro e w1 ⟨rfl, hb1⟩
  have HB := Lib.hid hb1
  clear hb1
  go_wp2_with fail
  refine (walked_at 0 s _ (H.out.below HB.out) HC.out hk (Int.le_refl 0) h0 h1).mono ?_
  rintro e w2 ⟨rfl, hb2⟩
  have HB2 := Lib.hid hb2
  clear hb2
  go_wp2
  go_ret
  exact ⟨rfl, HB.out.trans (HB2.out.mono HB.out.size)⟩
theorem shown_at {a m : Nat} {c : Clk} {seed k : Int} {r : Cham} {v : Value} (s : Int) (w : World) (h : AtWork w a m c seed k r v) (hc : ClkIn c) (hr : chamOk r = true) (hk : 0 ≤ k ∧ k ≤ 16) (h0 : 0 ≤ s) (h1 : s ≤ 1000000) :
    Calls Tryz.prog 47 #[.pointer (some ⟨a, 0, none⟩), .int .i64 s] w fun e w' => e = .returned (.int .i64 (shownS seed k c r s)) ∧ Below w.heap.size w w' := by
  have b1 := phase_bd seed k hc hr s h0 h1
  have b2 := white_bd seed k hc s
  have b3 := hc.white
  have b4 : -1000000000000 ≤ whiteS seed k c s ∧ whiteS seed k c s ≤ 1000000000000 := by omega
  clear b2 b3
  have H := Lib.hid h
  have HC := Lib.hid hc
  have HR := Lib.hid hr
  clear h hc hr
  go_enter Tryz.func47, Tryz.ntmps47
  go_wp2_with fail
  refine (phase_at s _ H.out HC.out HR.out hk h0 h1).mono ?_
  rintro e w1 ⟨rfl, hb1⟩
  have HB := Lib.hid hb1
  clear hb1
  go_wp2_with fail
  refine (white_at s _ (H.out.below HB.out) HC.out h0 h1 hk).mono ?_
  rintro e w2 ⟨rfl, hb2⟩
  have HB2 := Lib.hid hb2
  clear hb2
  go_wp2
  go_ret
  exact ⟨rfl, HB.out.trans (HB2.out.mono HB.out.size)⟩
def momVal (a b : Int) : Value := .agg #[.int .i64 a, .int .i64 b]
end Go.Proofs.YtmfpnfdoidihcaaGreatDoor.Wd
namespace Go.Proofs.YtmfpnfdoidihcaaGreatDoor.Wd
open Go Go.RowKit
/-- the box of a world, and a slice of seconds behind it -/
def wldObj (W : Wld) (p1 p2 : Option Addr) (k1 k2 : Nat) : Obj := .cells #[.int .u64 W.seed, .slice p1 W.chs.length k1, .slice p2 W.cls.length k2] 38
theorem phase_any (W : Wld) (k s : Int) (p1 p2 : Option Addr) (k1 k2 : Nat) (w : World) (ht : Tabs w) (hW : WldIn w W p1 p2) :
    Calls Tryz.prog 64 #[wldVal W p1 p2 k1 k2, .int .i64 k, .int .i64 s] w fun e w' => e = .returned (.tuple #[.int .i64 (phaseE W k s).v, .int .i64 (phaseE W k s).e]) ∧ Below w.heap.size w w' := by
  have a0 : Below w.heap.size w ((w.alloc (wldObj W p1 p2 k1 k2)).alloc (.cells #[.int .i64 s] 3)) := by unfold wldObj; go_grown
  have x0 : ((w.alloc (wldObj W p1 p2 k1 k2)).alloc (.cells #[.int .i64 s] 3)).cell? ⟨w.heap.size + 1, 0, none⟩ = some (.int .i64 s) := by simp [go_sem]
  have HT := Lib.hid ht
  have HW := Lib.hid hW
  have A0 := Lib.hid a0
  have X0 := Lib.hid x0
  by_cases he : findErr W k [s] = 0
  · have hfin := show phaseE W k s = _ from if_pos he
    have hall := allowed_find he
    have hsec := sec_of he
    have HF := Lib.hid hfin
    have HE := Lib.hid he
    have HA := Lib.hid hall
    clear he hfin hall ht hW a0 x0
    obtain ⟨s0, s1⟩ := hsec
    unfold wldVal
    go_enter Tryz.func64, Tryz.ntmps64
    go_wp2_with fail
    refine (find_ok W k [s] p1 p2 _ k1 k2 1 w _ A0.out HT.out HW.out (secs_one X0.out) HE.out).mono ?_
    rintro e w1 ⟨a, m, v, rfl, hat, hb, hage⟩
    have HAT := Lib.hid hat
    have HB := Lib.hid hb
    clear hat hb
    go_wp2_with fail
    refine (phase_at s _ HAT.out HA.out.cin HA.out.rok HA.out.k16 s0 s1).mono ?_
    rintro e w2 ⟨rfl, hb2⟩
    have HB2 := Lib.hid hb2
    clear hb2
    go_wp2
    go_ret2
    exact ⟨by rw [HF.out]; rfl, HB.out.trans (HB2.out.mono HB.out.size)⟩
  · have hfin := show phaseE W k s = _ from if_neg he
    have hne : (findErr W k [s] != 0) = true := by simpa using he
    have HF := Lib.hid hfin
    have HE := Lib.hid he
    clear he hfin ht hW a0 x0
    unfold wldVal
    go_enter Tryz.func64, Tryz.ntmps64
    go_wp2_with fail
    refine (find_no W k [s] p1 p2 _ k1 k2 1 w _ A0.out HT.out HW.out (secs_one X0.out) HE.out).mono ?_
    rintro e w1 ⟨rfl, hb⟩
    have HB := Lib.hid hb
    clear hb
    go_wp2
    go_ret2
    exact ⟨by rw [HF.out]; rfl, HB.out⟩
/-- what findRunning hands back -/
theorem findRunning_ok (W : Wld) (k s : Int) (p1 p2 : Option Addr) (k1 k2 : Nat) (w X : World) (hb : Below w.heap.size w X) (ht : Tabs w) (hW : WldIn w W p1 p2) (he : runErr W k s = 0) :
    Calls Tryz.prog 46 #[wldVal W p1 p2 k1 k2, .int .i64 k, .int .i64 s] X (Found W k w.heap.size w) := by
  obtain ⟨he0, hr0⟩ := runErr_zero he
  have a0 : Below w.heap.size w ((X.alloc (wldObj W p1 p2 k1 k2)).alloc (.cells #[.int .i64 s] 3)) := below_alloc (below_alloc hb _) _
  have x0 : ((X.alloc (wldObj W p1 p2 k1 k2)).alloc (.cells #[.int .i64 s] 3)).cell? ⟨X.heap.size + 1, 0, none⟩ = some (.int .i64 s) := by simp [go_sem]
  have hall := allowed_find he0
  have hsec := sec_of he0
  have HT := Lib.hid ht
  have HW := Lib.hid hW
  have A0 := Lib.hid a0
  have X0 := Lib.hid x0
  have HE := Lib.hid he0
  have HA := Lib.hid hall
  have hr1 : (!(pastS s (clkOf W k).evs).stopped) = true := hr0
  clear he he0 hall ht hW a0 x0 hb hr0
  obtain ⟨s0, s1⟩ := hsec
  unfold wldVal
  go_enter Tryz.func46, Tryz.ntmps46
  go_wp2_with fail
  refine (find_ok W k [s] p1 p2 _ k1 k2 1 w _ A0.out HT.out HW.out (secs_one X0.out) HE.out).mono ?_
  rintro e w1 ⟨a, m, v, rfl, hat, hb, hage⟩
  have HAT := Lib.hid hat
  have HB := Lib.hid hb
  clear hat hb
  go_wp2_with fail
  refine (runs_at s _ HAT.out HA.out.cin.evs s0 s1).mono ?_
  rintro e w2 ⟨rfl, hb2⟩
  have HB2 := Lib.hid hb2
  clear hb2
  go_wp2
  go_ret2
  exact ⟨a, m, v, rfl, HAT.out.below HB2.out, HB.out.trans (HB2.out.mono HB.out.size), hage⟩
theorem findRunning_no (W : Wld) (k s : Int) (p1 p2 : Option Addr) (k1 k2 : Nat) (w X : World) (hb : Below w.heap.size w X) (ht : Tabs w) (hW : WldIn w W p1 p2) (he : runErr W k s ≠ 0) :
    Calls Tryz.prog 46 #[wldVal W p1 p2 k1 k2, .int .i64 k, .int .i64 s] X fun e w' => e = .returned (.tuple #[.pointer none, .int .i64 (runErr W k s)]) ∧ Below w.heap.size w w' := by
  have a0 : Below w.heap.size w ((X.alloc (wldObj W p1 p2 k1 k2)).alloc (.cells #[.int .i64 s] 3)) := below_alloc (below_alloc hb _) _
  have x0 : ((X.alloc (wldObj W p1 p2 k1 k2)).alloc (.cells #[.int .i64 s] 3)).cell? ⟨X.heap.size + 1, 0, none⟩ = some (.int .i64 s) := by simp [go_sem]
  have HT := Lib.hid ht
  have HW := Lib.hid hW
  have A0 := Lib.hid a0
  have X0 := Lib.hid x0
  by_cases he0 : findErr W k [s] = 0
  · have hall := allowed_find he0
    have hsec := sec_of he0
    have hfin : runErr W k s = if runsS (clkOf W k) s = true then 0 else 22 := if_pos he0
    have hr1 : (!(pastS s (clkOf W k).evs).stopped) = false := by
      cases h : runsS (clkOf W k) s
      · exact h
      · rw [h, if_pos rfl] at hfin; exact absurd hfin he
    have hfin2 : runErr W k s = 22 := by rw [hfin, show runsS (clkOf W k) s = false from hr1]; rfl
    have HF := Lib.hid hfin2
    have HE := Lib.hid he0
    have HA := Lib.hid hall
    clear he he0 hall ht hW a0 x0 hb hfin hfin2
    obtain ⟨s0, s1⟩ := hsec
    unfold wldVal
    go_enter Tryz.func46, Tryz.ntmps46
    go_wp2_with fail
    refine (find_ok W k [s] p1 p2 _ k1 k2 1 w _ A0.out HT.out HW.out (secs_one X0.out) HE.out).mono ?_
    rintro e w1 ⟨a, m, v, rfl, hat, hb, hage⟩
    have HAT := Lib.hid hat
    have HB := Lib.hid hb
    clear hat hb
    go_wp2_with fail
    refine (runs_at s _ HAT.out HA.out.cin.evs s0 s1).mono ?_
    rintro e w2 ⟨rfl, hb2⟩
    have HB2 := Lib.hid hb2
    clear hb2
    go_wp2
    go_ret2
    exact ⟨by rw [HF.out]; rfl, HB.out.trans (HB2.out.mono HB.out.size)⟩
  · have hfin : runErr W k s = findErr W k [s] := if_neg he0
    have hne : (findErr W k [s] == 0) = false := by simpa using he0
    have HF := Lib.hid hfin
    have HE := Lib.hid he0
    clear he he0 hfin ht hW a0 x0 hb
    unfold wldVal
    go_enter Tryz.func46, Tryz.ntmps46
    go_wp2_with fail
    refine (find_no W k [s] p1 p2 _ k1 k2 1 w _ A0.out HT.out HW.out (secs_one X0.out) HE.out).mono ?_
    rintro e w1 ⟨rfl, hb⟩
    have HB := Lib.hid hb
    clear hb
    go_wp2
    go_ret2
    exact ⟨by rw [HF.out]; rfl, HB.out⟩
theorem shown_any (W : Wld) (k s : Int) (p1 p2 : Option Addr) (k1 k2 : Nat) (w : World) (ht : Tabs w) (hW : WldIn w W p1 p2) :
    Calls Tryz.prog 21 #[wldVal W p1 p2 k1 k2, .int .i64 k, .int .i64 s] w fun e w' => e = .returned (.tuple #[.int .i64 (shownE W k s).v, .int .i64 (shownE W k s).e]) ∧ Below w.heap.size w w' := by
  have a0 : Below w.heap.size w (w.alloc (wldObj W p1 p2 k1 k2)) := below_alloc (Below.refl _ _) _
  have HT := Lib.hid ht
  have HW := Lib.hid hW
  have A0 := Lib.hid a0
  by_cases he : runErr W k s = 0
  · have hfin := show shownE W k s = _ from if_pos he
    have hall := allowed_find (runErr_zero he).1
    have hsec := sec_of (runErr_zero he).1
    have HF := Lib.hid hfin
    have HE := Lib.hid he
    have HA := Lib.hid hall
    clear he hfin hall ht hW a0
    obtain ⟨s0, s1⟩ := hsec
    unfold wldVal
    go_enter Tryz.func21, Tryz.ntmps21
    go_wp2_with fail
    refine (findRunning_ok W k s p1 p2 k1 k2 w _ A0.out HT.out HW.out HE.out).mono ?_
    rintro e w1 ⟨a, m, v, rfl, hat, hb, hage⟩
    have HAT := Lib.hid hat
    have HB := Lib.hid hb
    clear hat hb
    go_wp2_with fail
    refine (shown_at s _ HAT.out HA.out.cin HA.out.rok HA.out.k16 s0 s1).mono ?_
    rintro e w2 ⟨rfl, hb2⟩
    have HB2 := Lib.hid hb2
    clear hb2
    go_wp2
    go_ret2
    exact ⟨by rw [HF.out]; rfl, HB.out.trans (HB2.out.mono HB.out.size)⟩
  · have hfin := show shownE W k s = _ from if_neg he
    have hne : (runErr W k s != 0) = true := by simpa using he
    have HF := Lib.hid hfin
    have HE := Lib.hid he
    clear he hfin ht hW a0
    unfold wldVal
    go_enter Tryz.func21, Tryz.ntmps21
    go_wp2_with fail
    refine (findRunning_no W k s p1 p2 k1 k2 w _ A0.out HT.out HW.out HE.out).mono ?_
    rintro e w1 ⟨rfl, hb⟩
    have HB := Lib.hid hb
    clear hb
    go_wp2
    go_ret2
    exact ⟨by rw [HF.out]; rfl, HB.out⟩
theorem draw_exp (sd ki cl ix mo : Int) (w : World) (b1 : ki ≤ 9223372036854775807) (b2 : cl ≤ 9223372036854775807) (b3 : ix ≤ 9223372036854775807) :
    Calls Tryz.prog 50 #[.int .u64 sd, .int .i64 ki, .int .i64 cl, .int .i64 ix, .int .i64 mo] w fun e w' => e = .returned (.tuple #[.int .i64 (drawE sd ki cl ix mo).v, .int .i64 (drawE sd ki cl ix mo).e]) ∧ w = w' := by
  by_cases h : drawOk ki cl ix mo = true
  · have hf := show drawE sd ki cl ix mo = _ from if_pos h
    have HF := Lib.hid hf
    clear hf
    simp only [drawOk, Bool.and_eq_true, decide_eq_true_eq] at h
    obtain ⟨h1, h2, h3, h4⟩ := h
    have h5 := inR_true h4
    go_enter Tryz.func50, Tryz.ntmps50
    go_wp2_with (first | (go_at_call 32; refine (within_any _ _ _ _).mono ?_; rintro e w' ⟨rfl, rfl⟩) | (go_at_call 78; refine (source_any _ _ _ _ (by omega) (by omega) (by omega) (by omega)).mono ?_; rintro e w' ⟨rfl, rfl⟩) |
      (go_at_call 77; refine (draw_any _ _ _ _ (by omega) (by omega) (by omega) (by omega)).mono ?_; rintro e w' ⟨rfl, rfl⟩))
    go_ret2
    exact ⟨by rw [HF.out]; rfl, rfl⟩
  · have hf := show drawE sd ki cl ix mo = _ from if_neg h
    have HF := Lib.hid hf
    clear hf
    by_cases h1 : 0 ≤ ki
    · by_cases h2 : 0 ≤ cl
      · by_cases h3 : 0 ≤ ix
        · have h4 : inR mo 0 1000000000000000 = false := by
            cases h4 : inR mo 0 1000000000000000
            · rfl
            · simp [drawOk, h1, h2, h3, h4] at h
          clear h
          go_enter Tryz.func50, Tryz.ntmps50
          go_wp2_with (go_at_call 32; refine (within_any _ _ _ _).mono ?_; rintro e w' ⟨rfl, rfl⟩)
          go_ret2
          exact ⟨by rw [HF.out]; rfl, rfl⟩
        · clear h
          go_enter Tryz.func50, Tryz.ntmps50
          go_wp2
          go_ret2
          exact ⟨by rw [HF.out]; rfl, rfl⟩
      · clear h
        go_enter Tryz.func50, Tryz.ntmps50
        go_wp2
        go_ret2
        exact ⟨by rw [HF.out]; rfl, rfl⟩
    · clear h
      go_enter Tryz.func50, Tryz.ntmps50
      go_wp2
      go_ret2
      exact ⟨by rw [HF.out]; rfl, rfl⟩
end Go.Proofs.YtmfpnfdoidihcaaGreatDoor.Wd
namespace Go.Proofs.YtmfpnfdoidihcaaGreatDoor.Wd
open Go Go.RowKit
theorem two_c0 {w : World} {b : Nat} {x : Value} (u : Value) (h : w.cell? ⟨b, 0, none⟩ = some x) : (w.setCell ⟨b, 0, none⟩ u).cell? ⟨b, 0, none⟩ = some u := World.cell?_setCell_same _ _ _ h
theorem two_c1 {w : World} {b : Nat} {x : Value} (u v : Value) (h : w.cell? ⟨b, 1, none⟩ = some x) : ((w.setCell ⟨b, 0, none⟩ u).setCell ⟨b, 1, none⟩ v).cell? ⟨b, 1, none⟩ = some v :=
  World.cell?_setCell_same _ _ _ (u := x) (by rw [World.cell?_setCell_other]; exact h; simp)
/-- a block of two numbers that a call has made for its result -/
def Res (w : World) (b : Nat) : Prop := (w.cell? ⟨b, 0, none⟩ = some (.int .i64 0) ∧ w.cell? ⟨b, 1, none⟩ = some (.int .i64 0)) ∧ (w.frozen? ⟨b, 0, none⟩ = false ∧ w.frozen? ⟨b, 1, none⟩ = false)
theorem Res.below {w w' : World} {b : Nat} (h : Res w b) (hb : Below w.heap.size w w') : Res w' b :=
  ⟨⟨cell_below hb h.1.1, cell_below hb h.1.2⟩, (hb.frozen (p := ⟨b, 0, none⟩) (cell_lt h.1.1)).trans h.2.1, (hb.frozen (p := ⟨b, 1, none⟩) (cell_lt h.1.1)).trans h.2.2⟩
theorem below_sets {w X : World} {b : Nat} {u v : Value} (h : Below w.heap.size w X) (hb : w.heap.size ≤ b) : Below w.heap.size w ((X.setCell ⟨b, 0, none⟩ u).setCell ⟨b, 1, none⟩ v) := (h.setCell hb _).setCell hb _
theorem Keeps.set {n₀ sb o : Nat} {A B : World} (v : Value) (h : Keeps n₀ sb A B) : Keeps n₀ sb A (B.setCell ⟨sb, o, none⟩ v) :=
  ⟨by simpa using h.1, fun k hk hs => (Below.heap_setCell _ _ _ _ hs).trans (h.2 k hk hs)⟩
theorem fixed_keep {W0 : World} {a m : Nat} {c : Clk} {seed k : Int} {r : Cham} {v : Value} (s : Int) (w : World) (hb : Below W0.heap.size W0 w) (h : AtWork W0 a m c seed k r v) (hc : ClkIn c) (hr : chamOk r = true) (h0 : 0 ≤ s) (h1 : s ≤ 1000000) :
    Calls Tryz.prog 100 #[.pointer (some ⟨a, 0, none⟩), .int .i64 s] w fun e w' => e = .returned (.int .i64 (fixedS c r s)) ∧ Below W0.heap.size W0 w' :=
  (fixed_at s w (h.below hb) hc hr h0 h1).mono fun _ _ ⟨a, b⟩ => ⟨a, hb.trans (b.mono hb.size)⟩
theorem around_keep {W0 : World} (a b : Int) (w : World) (hb0 : Below W0.heap.size W0 w) (h : -4000000000000000000 ≤ a ∧ a ≤ 4000000000000000000) (hb : 0 ≤ b ∧ b ≤ 4000000000000000000) :
    Calls Tryz.prog 99 #[.int .i64 a, .int .i64 b] w fun e w' => e = .returned (.agg #[.int .i64 (a - b), .int .i64 (a + b)]) ∧ Below W0.heap.size W0 w' :=
  (around_any a b w h hb).mono fun _ _ ⟨x, y⟩ => ⟨x, hb0.trans (y.mono hb0.size)⟩
set_option maxRecDepth 100000 in
set_option maxHeartbeats 2000000 in
theorem growth_any (W : Wld) (k x y : Int) (p1 p2 : Option Addr) (k1 k2 : Nat) (w : World) (ht : Tabs w) (hW : WldIn w W p1 p2) :
    Calls Tryz.prog 65 #[wldVal W p1 p2 k1 k2, .int .i64 k, .int .i64 x, .int .i64 y] w fun e w' => e = .returned (.tuple #[.agg #[.int .i64 (growthE W k x y).a, .int .i64 (growthE W k x y).b], .int .i64 (growthE W k x y).e]) ∧ Below w.heap.size w w' := by
  have a0 : Below w.heap.size w (((w.alloc (wldObj W p1 p2 k1 k2)).alloc (.cells #[.int .i64 0, .int .i64 0] 31)).alloc (.cells #[.int .i64 x, .int .i64 y] 3)) := below_alloc (below_alloc (below_alloc (Below.refl _ _) _) _) _
  have r0 : Res (((w.alloc (wldObj W p1 p2 k1 k2)).alloc (.cells #[.int .i64 0, .int .i64 0] 31)).alloc (.cells #[.int .i64 x, .int .i64 y] 3)) (w.heap.size + 1) := ⟨⟨by simp [go_sem], by simp [go_sem]⟩, by simp [go_sem], by simp [go_sem]⟩
  have x0 : (((w.alloc (wldObj W p1 p2 k1 k2)).alloc (.cells #[.int .i64 0, .int .i64 0] 31)).alloc (.cells #[.int .i64 x, .int .i64 y] 3)).cell? ⟨w.heap.size + 1 + 1, 0, none⟩ = some (.int .i64 x) := by simp [go_sem]
  have x1 : (((w.alloc (wldObj W p1 p2 k1 k2)).alloc (.cells #[.int .i64 0, .int .i64 0] 31)).alloc (.cells #[.int .i64 x, .int .i64 y] 3)).cell? ⟨w.heap.size + 1 + 1, 1, none⟩ = some (.int .i64 y) := by simp [go_sem]
  have HT := Lib.hid ht
  have HW := Lib.hid hW
  have A0 := Lib.hid a0
  have R0 := Lib.hid r0
  have X0 := Lib.hid x0
  have X1 := Lib.hid x1
  by_cases he : findErr W k [x, y] = 0
  · have hall := allowed_find he
    obtain ⟨⟨s0, s1⟩, s2, s3⟩ := secs_of he
    have hge : growErr W k x y = if y < x then 1 else 0 := if_pos he
    have HE := Lib.hid he
    have HA := Lib.hid hall
    by_cases hlt : y < x
    · rw [if_pos hlt] at hge
      have hfin : growthE W k x y = ⟨0, 0, 1⟩ := by unfold growthE; rw [hge]; rfl
      have HF := Lib.hid hfin
      clear he hfin hall ht hW a0 r0 x0 x1 hge
      unfold wldVal
      go_enter Tryz.func65, Tryz.ntmps65
      go_wp2_with fail
      refine (find_ok W k [x, y] p1 p2 _ k1 k2 2 (((w.alloc (wldObj W p1 p2 k1 k2)).alloc (.cells #[.int .i64 0, .int .i64 0] 31)).alloc (.cells #[.int .i64 x, .int .i64 y] 3)) _ (Below.refl _ _) (HT.out.below A0.out) (HW.out.below A0.out) (secs_two X0.out X1.out) HE.out).mono ?_
      rintro e w1 ⟨a, m, v, rfl, hat, hb, hage⟩
      obtain ⟨⟨x0, x1⟩, f0, f1⟩ := R0.out.below hb
      have HB := Lib.hid (A0.out.trans (hb.mono A0.out.size))
      clear hb
      have c0 := two_c0 (.int .i64 0) x0
      have c1 := two_c1 (.int .i64 0) (.int .i64 0) x1
      go_wp2
      refine bodyPost_ret (v := .tuple #[.agg #[.int .i64 0, .int .i64 0], .int .i64 1]) (by simp [results, Tryz.results65, go_sem, c0, c1]) rfl ?_
      exact ⟨by rw [HF.out], below_sets HB.out (by omega)⟩
    · rw [if_neg hlt] at hge
      have hle : x ≤ y := by omega
      have hfin := show growthE W k x y = _ from if_pos hge
      have hfb := fixed_bd hall.cin hall.rok y s2 s3
      have hfa := fixed_bd hall.cin hall.rok x s0 s1
      have hsb := stray_bd hall.cin x y s0 hle s3
      change 0 ≤ strayedS (clkOf W k) x y ∧ strayedS (clkOf W k) x y ≤ 10000000000000 at hsb
      have HF := Lib.hid hfin
      clear he hfin hall ht hW a0 r0 x0 x1 hge hlt
      unfold wldVal
      go_enter Tryz.func65, Tryz.ntmps65
      go_wp2_with fail
      refine (find_ok W k [x, y] p1 p2 _ k1 k2 2 (((w.alloc (wldObj W p1 p2 k1 k2)).alloc (.cells #[.int .i64 0, .int .i64 0] 31)).alloc (.cells #[.int .i64 x, .int .i64 y] 3)) _ (Below.refl _ _) (HT.out.below A0.out) (HW.out.below A0.out) (secs_two X0.out X1.out) HE.out).mono ?_
      rintro e w1 ⟨a, m, v, rfl, hat, hb, hage⟩
      have hr1 := R0.out.below hb
      have HAT := Lib.hid hat
      have HB := Lib.hid (A0.out.trans (hb.mono A0.out.size))
      have R1 := Lib.hid hr1
      clear hat hb hr1 hage
      go_wp2_with fail
      refine (fixed_keep (W0 := w1) y _ (Below.refl _ _) HAT.out HA.out.cin HA.out.rok s2 s3).mono ?_
      rintro e w2 ⟨rfl, hb2⟩
      have HB2 := Lib.hid hb2
      clear hb2
      go_wp2_with fail
      refine (fixed_keep (W0 := w1) x _ HB2.out HAT.out HA.out.cin HA.out.rok s0 s1).mono ?_
      rintro e w3 ⟨rfl, hb3⟩
      have HB3 := Lib.hid hb3
      clear hb3
      go_wp2_with fail
      refine (strayed_at x y _ (HAT.out.below HB3.out) HA.out.cin s0 hle s3).mono ?_
      rintro e w4 ⟨rfl, rfl⟩
      go_wp2_with fail
      refine (around_keep (W0 := w1) _ _ _ HB3.out (by omega) (by omega)).mono ?_
      rintro e w4 ⟨rfl, hb4⟩
      obtain ⟨⟨x0, x1⟩, f0, f1⟩ := R1.out.below hb4
      have HB4 := Lib.hid hb4
      clear hb4
      have c0 := two_c0 (.int .i64 (fixedS (clkOf W k) (roomOf W k) y - fixedS (clkOf W k) (roomOf W k) x - strayedS (clkOf W k) x y)) x0
      have c1 := two_c1 (.int .i64 (fixedS (clkOf W k) (roomOf W k) y - fixedS (clkOf W k) (roomOf W k) x - strayedS (clkOf W k) x y)) (.int .i64 (fixedS (clkOf W k) (roomOf W k) y - fixedS (clkOf W k) (roomOf W k) x + strayedS (clkOf W k) x y)) x1
      go_wp2
      refine bodyPost_ret (v := .tuple #[.agg #[.int .i64 (fixedS (clkOf W k) (roomOf W k) y - fixedS (clkOf W k) (roomOf W k) x - strayedS (clkOf W k) x y), .int .i64 (fixedS (clkOf W k) (roomOf W k) y - fixedS (clkOf W k) (roomOf W k) x + strayedS (clkOf W k) x y)], .int .i64 0]) (by simp [results, Tryz.results65, go_sem, c0, c1]) rfl ?_
      exact ⟨by rw [HF.out], below_sets (HB.out.trans (HB4.out.mono HB.out.size)) (by omega)⟩
  · have hge : growErr W k x y = findErr W k [x, y] := if_neg he
    have hfin : growthE W k x y = ⟨0, 0, findErr W k [x, y]⟩ := by unfold growthE; rw [hge, if_neg he]
    have hne : (findErr W k [x, y] != 0) = true := by simpa using he
    have HF := Lib.hid hfin
    have HE := Lib.hid he
    clear he hfin ht hW a0 r0 x0 x1 hge
    unfold wldVal
    go_enter Tryz.func65, Tryz.ntmps65
    go_wp2_with fail
    refine (find_no W k [x, y] p1 p2 _ k1 k2 2 (((w.alloc (wldObj W p1 p2 k1 k2)).alloc (.cells #[.int .i64 0, .int .i64 0] 31)).alloc (.cells #[.int .i64 x, .int .i64 y] 3)) _ (Below.refl _ _) (HT.out.below A0.out) (HW.out.below A0.out) (secs_two X0.out X1.out) HE.out).mono ?_
    rintro e w1 ⟨rfl, hb⟩
    obtain ⟨⟨x0, x1⟩, f0, f1⟩ := R0.out.below hb
    have HB := Lib.hid (A0.out.trans (hb.mono A0.out.size))
    clear hb
    have c0 := two_c0 (.int .i64 0) x0
    have c1 := two_c1 (.int .i64 0) (.int .i64 0) x1
    go_wp2
    refine bodyPost_ret (v := .tuple #[.agg #[.int .i64 0, .int .i64 0], .int .i64 (findErr W k [x, y])]) (by simp [results, Tryz.results65, go_sem, c0, c1]) rfl ?_
    exact ⟨by rw [HF.out], below_sets HB.out (by omega)⟩
end Go.Proofs.YtmfpnfdoidihcaaGreatDoor.Wd
namespace Go.Proofs.YtmfpnfdoidihcaaGreatDoor.Wd
open Go Go.RowKit Go.ChangeShapes Go.WideShapes Go.Deep Go.Joins
theorem pick_list {α : Type} (n : Nat) (Q : Nat → α → Prop) (h : ∀ i, i < n → ∃ x, Q i x) : ∃ l : List α, l.length = n ∧ ∀ i, (hi : i < l.length) → Q i l[i] := by
  induction n with
  | zero => exact ⟨[], rfl, fun i hi => absurd hi (by simp)⟩
  | succ n ih =>
    obtain ⟨l, hl, hq⟩ := ih fun i hi => h i (by omega)
    obtain ⟨x, hx⟩ := h n (by omega)
    refine ⟨l ++ [x], by simp [hl], fun i hi => ?_⟩
    by_cases hlt : i < l.length
    · rw [List.getElem_append_left hlt]; exact hq i hlt
    · have : i = l.length := by simp at hi; omega
      subst this
      rw [List.getElem_append_right (by omega)]
      simpa [hl] using hx
theorem add_plain (b o k : Nat) : (⟨b, o, none⟩ : Addr).add k = ⟨b, o + k, none⟩ := by
  unfold Addr.add; split <;> simp_all
section
variable {H : Type} {enc : TypeId × Value → H} {P : Program} {w : World} {base : Nat} {spare : Nat → Bool} {held : Bool}
theorem field_of {e : TypeId} {fs : Array Field} {fuel : Nat} {cs : List Value} {x : DataW H × List MemPlace} (he : P.underlying e = some (.struct fs)) (hone : oneCellFields P fs = true) (hC : P.cellsOf e = fs.size)
    (h : DataW.trod enc P w base spare held fuel e cs = some x) (j : Nat) (f : Field) (hj : fs[j]? = some f) :
    ∃ v y n, cs[j]? = some v ∧ DataW.trod enc P w base spare held n f.type [v] = some y := by
  obtain ⟨ys, n, _, _, hlen, hyl, hf⟩ := DataW.trod_struct he h
  obtain ⟨ho, hk⟩ := hone_of hone j f hj
  have hjl : j < fs.size := (Array.getElem?_eq_some_iff.1 hj).1
  have hv : j < cs.length := by omega
  have hy : j < ys.length := by omega
  have h1 := hf j f hj
  have e : (cs.drop j).take 1 = [cs[j]] := by rw [List.drop_eq_getElem_cons hv]; rfl
  rw [ho, hk, e, List.getElem?_eq_getElem hy] at h1
  exact ⟨cs[j], ys[j], n, List.getElem?_eq_getElem hv, h1⟩
/-- a slice of structs of one-cell fields: the cell of each field of each element -/
theorem struct_slice {t e : TypeId} {fs : Array Field} {fuel : Nat} {cs : List Value} {x : DataW H × List MemPlace} (ht : P.underlying t = some (.slice e)) (he : P.underlying e = some (.struct fs)) (hone : oneCellFields P fs = true)
    (hC : P.cellsOf e = fs.size) (hpos : 0 < fs.size) (h : DataW.trod enc P w base spare held fuel t cs = some x) :
    ∃ p n cap, cs = [.slice p n cap] ∧ n ≤ maxLen ∧ SliceIn p n fun b o => ∀ i, i < n → ∀ j f, fs[j]? = some f →
      ∃ v y m, w.cell? ⟨b, o + (i * fs.size + j), none⟩ = some v ∧ DataW.trod enc P w base spare held m f.type [v] = some y := by
  rcases open_slice ht h with ⟨rfl, _⟩ | ⟨a, len, cap, m, n, D, Pl, rfl, _, hl, hm, hmm, _, hx⟩
  · exact ⟨none, 0, 0, rfl, by simp [maxLen], .inl rfl⟩
  · refine ⟨some a, len, cap, rfl, by omega, ?_⟩
    rcases Nat.eq_zero_or_pos len with h0 | h0
    · exact .inl h0
    · have hlt : ∀ i, i < len → i < m := fun i hi => by rw [hmm]; split <;> omega
      have cell : ∀ i, i < len → ∀ j f, fs[j]? = some f → ∃ v y m', w.cell? (a.add (i * fs.size + j)) = some v ∧ DataW.trod enc P w base spare held m' f.type [v] = some y := by
        intro i hi j f hj
        obtain ⟨cs', hc, ht'⟩ := hx i (hlt i hi)
        obtain ⟨v, y, k, hv, hy⟩ := field_of he hone hC ht' j f hj
        rw [hC] at hc
        obtain ⟨_, _, hat⟩ := World.cells?_some hc
        have hjl : j < fs.size := (Array.getElem?_eq_some_iff.1 hj).1
        exact ⟨v, y, k, by rw [← Go.Deep.add_add, hat j hjl, hv], hy⟩
      obtain ⟨v, _, _, hv, _⟩ := cell 0 h0 0 (fs[0]'hpos) (Array.getElem?_eq_getElem hpos)
      obtain ⟨b, o, spot⟩ := a
      have hs : spot = none := by simpa [Addr.add] using World.cell?_spot hv
      subst hs
      refine .inr ⟨b, o, rfl, fun i hi j f hj => ?_⟩
      obtain ⟨v, y, k, hv, hy⟩ := cell i hi j f hj
      exact ⟨v, y, k, by rw [← hv, add_plain], hy⟩
end
section
variable {H : Type} {enc : TypeId × Value → H} {w : World} {base : Nat} {spare : Nat → Bool} {held : Bool}
theorem open_chams {fuel : Nat} {cs : List Value} {x : DataW H × List MemPlace} (h : DataW.trod enc Tryz.prog w base spare held fuel 25 cs = some x) :
    ∃ p cap, ∃ l : List Cham, cs = [.slice p l.length cap] ∧ l.length ≤ maxLen ∧ SliceIn p l.length (ChamsAt w l) := by
  obtain ⟨p, n, cap, hcs, hm, hs⟩ := struct_slice Tryz.underlying25 Tryz.underlying84 (by kernel_rfl) (by kernel_rfl) (by decide) h
  rcases hs with rfl | ⟨b, o, rfl, hs⟩
  · exact ⟨p, cap, [], hcs, hm, .inl rfl⟩
  · obtain ⟨l, rfl, hl⟩ := pick_list n (fun i c => ChamCells w b (o + i * 3) c) (by
      intro i hi
      obtain ⟨v0, y0, m0, c0, t0⟩ := hs i hi 0 _ rfl
      obtain ⟨v1, y1, m1, c1, t1⟩ := hs i hi 1 _ rfl
      obtain ⟨v2, y2, m2, c2, t2⟩ := hs i hi 2 _ rfl
      obtain ⟨n0, e0, _⟩ := DataW.trod_int Tryz.underlying3 t0
      obtain ⟨n1, e1, _⟩ := DataW.trod_int Tryz.underlying3 t1
      obtain ⟨n2, e2, _⟩ := DataW.trod_int Tryz.underlying3 t2
      simp only [List.cons.injEq, and_true] at e0 e1 e2
      subst e0 e1 e2
      exact ⟨⟨n0, n1, n2⟩, c0, c1, c2⟩)
    exact ⟨_, cap, l, hcs, hm, .inr ⟨b, o, rfl, hl⟩⟩
theorem open_evts {fuel : Nat} {v : Value} {x : DataW H × List MemPlace} (h : DataW.trod enc Tryz.prog w base spare held fuel 62 [v] = some x) : ∃ l : List Evt, EvSlice w l v := by
  obtain ⟨p, n, cap, hcs, hm, hs⟩ := struct_slice Tryz.underlying62 Tryz.underlying91 (by kernel_rfl) (by kernel_rfl) (by decide) h
  simp only [List.cons.injEq, and_true] at hcs
  subst hcs
  rcases hs with rfl | ⟨b, o, rfl, hs⟩
  · exact ⟨[], p, cap, rfl, hm, .inl rfl⟩
  · obtain ⟨l, rfl, hl⟩ := pick_list n (fun i c => EvtCells w b (o + i * 3) c) (by
      intro i hi
      obtain ⟨v0, y0, m0, c0, t0⟩ := hs i hi 0 _ rfl
      obtain ⟨v1, y1, m1, c1, t1⟩ := hs i hi 1 _ rfl
      obtain ⟨v2, y2, m2, c2, t2⟩ := hs i hi 2 _ rfl
      obtain ⟨n0, e0, _⟩ := DataW.trod_int Tryz.underlying3 t0
      obtain ⟨n1, e1, _⟩ := DataW.trod_int Tryz.underlying3 t1
      obtain ⟨n2, e2, _⟩ := DataW.trod_int Tryz.underlying3 t2
      simp only [List.cons.injEq, and_true] at e0 e1 e2
      subst e0 e1 e2
      exact ⟨⟨n0, n1, n2⟩, c0, c1, c2⟩)
    exact ⟨l, _, cap, rfl, hm, .inr ⟨b, o, rfl, hl⟩⟩
theorem open_clks {fuel : Nat} {cs : List Value} {x : DataW H × List MemPlace} (h : DataW.trod enc Tryz.prog w base spare held fuel 26 cs = some x) :
    ∃ p cap, ∃ l : List Clk, cs = [.slice p l.length cap] ∧ l.length ≤ maxLen ∧ SliceIn p l.length (ClksAt w l) := by
  obtain ⟨p, n, cap, hcs, hm, hs⟩ := struct_slice Tryz.underlying26 Tryz.underlying64 (by kernel_rfl) (by kernel_rfl) (by decide) h
  rcases hs with rfl | ⟨b, o, rfl, hs⟩
  · exact ⟨p, cap, [], hcs, hm, .inl rfl⟩
  · obtain ⟨l, rfl, hl⟩ := pick_list n (fun i c => ClkCells w b (o + i * 9) c) (by
      intro i hi
      obtain ⟨v0, y0, m0, c0, t0⟩ := hs i hi 0 _ rfl
      obtain ⟨v1, y1, m1, c1, t1⟩ := hs i hi 1 _ rfl
      obtain ⟨v2, y2, m2, c2, t2⟩ := hs i hi 2 _ rfl
      obtain ⟨v3, y3, m3, c3, t3⟩ := hs i hi 3 _ rfl
      obtain ⟨v4, y4, m4, c4, t4⟩ := hs i hi 4 _ rfl
      obtain ⟨v5, y5, m5, c5, t5⟩ := hs i hi 5 _ rfl
      obtain ⟨v6, y6, m6, c6, t6⟩ := hs i hi 6 _ rfl
      obtain ⟨v7, y7, m7, c7, t7⟩ := hs i hi 7 _ rfl
      obtain ⟨v8, y8, m8, c8, t8⟩ := hs i hi 8 _ rfl
      obtain ⟨n0, e0, _⟩ := DataW.trod_int Tryz.underlying3 t0
      obtain ⟨n1, e1, _⟩ := DataW.trod_int Tryz.underlying3 t1
      obtain ⟨n2, e2, _⟩ := DataW.trod_int Tryz.underlying3 t2
      obtain ⟨n3, e3, _⟩ := DataW.trod_int Tryz.underlying3 t3
      obtain ⟨n4, e4, _⟩ := DataW.trod_int Tryz.underlying3 t4
      obtain ⟨n5, e5, _⟩ := DataW.trod_int Tryz.underlying3 t5
      obtain ⟨n6, e6, _⟩ := DataW.trod_int Tryz.underlying3 t6
      obtain ⟨n7, e7, _⟩ := DataW.trod_int Tryz.underlying3 t7
      obtain ⟨es, he⟩ := open_evts t8
      simp only [List.cons.injEq, and_true] at e0 e1 e2 e3 e4 e5 e6 e7
      subst e0 e1 e2 e3 e4 e5 e6 e7
      exact ⟨⟨n0, n1, n2, n3, n4, n5, n6, n7, es⟩, ⟨c0, c1, c2, c3, c4, c5, c6, c7⟩, v8, c8, he⟩)
    exact ⟨_, cap, l, hcs, hm, .inr ⟨b, o, rfl, hl⟩⟩
set_option maxRecDepth 100000 in
/-- the argument of a law: a world -/
theorem open_world {r : Reach} {b0 : Nat} {v : Value} {d : DataW H} {q : List MemPlace} (hv : Value.okWide Tryz.prog w r b0 28 v) (h : DataW.Trod enc Tryz.prog w base spare held 28 v d q) :
    ∃ (W : Wld) (p1 p2 : Option Addr) (c1 c2 : Nat), v = .agg #[.int .u64 W.seed, .slice p1 W.chs.length c1, .slice p2 W.cls.length c2] ∧ WldIn w W p1 p2 := by
  obtain ⟨v0, v1, v2, y0, y1, y2, n, rfl, _, _, t0, t1, t2⟩ := open_agg3 Tryz.underlying28 (by kernel_rfl) (by kernel_rfl) hv h
  obtain ⟨n0, e0, _⟩ := DataW.trod_int Tryz.underlying24 t0
  obtain ⟨p1, c1, l1, e1, m1, s1⟩ := open_chams t1
  obtain ⟨p2, c2, l2, e2, m2, s2⟩ := open_clks t2
  simp only [List.cons.injEq, and_true] at e0 e1 e2
  subst e0 e1 e2
  exact ⟨⟨n0, l1, l2⟩, p1, p2, c1, c2, rfl, m1, m2, s1, s2⟩
end
end Go.Proofs.YtmfpnfdoidihcaaGreatDoor.Wd
namespace Go.Proofs.YtmfpnfdoidihcaaGreatDoor.Wd
open Go Go.RowKit
def manyEvs (l : List Clk) : Bool := l.any fun c => decide (40 < c.evs.length)
def bigS (W : Wld) : Bool := decide (40 < W.chs.length) || (decide (40 < W.cls.length) || manyEvs W.cls)
theorem manyEvs_snoc (l : List Clk) (k : Nat) (h : k < l.length) : manyEvs (l.take (k + 1)) = (manyEvs (l.take k) || decide (40 < l[k].evs.length)) := by
  unfold manyEvs; rw [List.take_succ_eq_append_getElem h, List.any_append]; simp
theorem manyEvs_at (l : List Clk) (k : Nat) (h : k < l.length) (h40 : 40 < l[k].evs.length) : manyEvs l = true := by
  unfold manyEvs; rw [List.any_eq_true]; exact ⟨l[k], List.getElem_mem h, by simpa using h40⟩
theorem bigS_no {W : Wld} (h : bigS W = false) : W.chs.length ≤ 40 ∧ W.cls.length ≤ 40 ∧ ∀ k, (hk : k < W.cls.length) → W.cls[k].evs.length ≤ 40 := by
  simp only [bigS, Bool.or_eq_false_iff, decide_eq_false_iff_not] at h
  refine ⟨by omega, by omega, fun k hk => ?_⟩
  by_cases h40 : 40 < W.cls[k].evs.length
  · have := manyEvs_at _ k hk h40; rw [h.2.2] at this; cases this
  · omega
set_option maxRecDepth 100000 in
set_option maxHeartbeats 1000000 in
theorem big_loop (W : Wld) (p1 p2 : Option Addr) (c1 c2 : Nat) (w : World) (hW : WldIn w W p1 p2) (h1 : ¬ (40 : Int) < W.chs.length) (h2 : ¬ (40 : Int) < W.cls.length) :
    Calls Tryz.prog 5 #[.agg #[.int .u64 W.seed, .slice p1 W.chs.length c1, .slice p2 W.cls.length c2]] w fun e w' => e = .returned (.bool (manyEvs W.cls)) ∧ Below w.heap.size w w' := by
  have hm2 := hW.2.1
  unfold maxLen at hm2
  have hS := hW.2.2.2.imp fun _ _ h => h.below ((Below.refl _ w).alloc (Nat.le_refl _) (.cells #[.int .u64 W.seed, .slice p1 W.chs.length c1, .slice p2 W.cls.length c2] 28))
  clear hW
  rcases hS with h0 | ⟨b, o, rfl, hS⟩
  · have hn : W.cls = [] := List.eq_nil_of_length_eq_zero h0
    have hle : (W.cls.length : Int) ≤ 0 := by omega
    have H0 := Lib.hid hn
    clear hn h0
    go_enter Tryz.func5, Tryz.ntmps5
    go_wp2
    go_loop [3] (fun i => i = .int .i64 0) (fun i => (5 : Nat) - (intOf i).toNat)
    case atStart => rfl
    case round =>
      subst hrel
      go_wp2
      go_ret
      exact ⟨ret_bool (by rw [H0.out]; rfl), by go_grown⟩
  · have HS := Lib.hid hS
    clear hS
    go_enter Tryz.func5, Tryz.ntmps5
    go_wp2
    go_loop [3] (fun i => ∃ k : Nat, k ≤ W.cls.length ∧ i = .int .i64 k ∧ manyEvs (W.cls.take k) = false) (fun i => W.cls.length - (intOf i).toNat)
    case atStart => exact ⟨0, Nat.zero_le _, rfl, rfl⟩
    case round =>
      obtain ⟨k, hk, rfl, hq⟩ := hrel
      by_cases hlt : k < W.cls.length
      · obtain ⟨-, v, y8, p, cap, rfl, hml, -⟩ := HS.out k hlt
        unfold maxLen at hml
        have hsn := manyEvs_snoc W.cls k hlt
        rw [hq, Bool.false_or] at hsn
        have HSN := Lib.hid hsn
        have HAT := Lib.hid (manyEvs_at W.cls k hlt)
        clear hsn hq
        have hkl : (k : Int) < (W.cls.length : Int) := by omega
        by_cases h40 : (40 : Int) < (W.cls[k].evs.length : Int)
        · go_wp2
          go_ret
          exact ⟨ret_bool (by rw [HAT.out (by omega)]), by go_grown⟩
        · go_wp2
          go_round
          case rel => exact ⟨k + 1, by omega, by go_num, by rw [HSN.out]; simp; omega⟩
          case measure => simp [intOf]; omega
      · have hkl : ¬ (k : Int) < (W.cls.length : Int) := by omega
        have hfin : false = manyEvs W.cls := by rw [← hq, List.take_of_length_le (by omega)]
        have HF := Lib.hid hfin
        clear hfin hq
        go_wp2
        go_ret
        exact ⟨ret_bool HF.out, by go_grown⟩
set_option maxRecDepth 100000 in
theorem big_any (W : Wld) (p1 p2 : Option Addr) (c1 c2 : Nat) (w : World) (hW : WldIn w W p1 p2) :
    Calls Tryz.prog 5 #[.agg #[.int .u64 W.seed, .slice p1 W.chs.length c1, .slice p2 W.cls.length c2]] w fun e w' => e = .returned (.bool (bigS W)) ∧ Below w.heap.size w w' := by
  by_cases h1 : (40 : Int) < W.chs.length
  · have hb : true = bigS W := by simp only [bigS]; rw [show decide (40 < W.chs.length) = true by simp; omega]; rfl
    have HB := Lib.hid hb
    clear hb hW
    go_enter Tryz.func5, Tryz.ntmps5
    go_wp2
    go_ret
    exact ⟨ret_bool HB.out, by go_grown⟩
  · by_cases h2 : (40 : Int) < W.cls.length
    · have hb : true = bigS W := by simp only [bigS]; rw [show decide (40 < W.cls.length) = true by simp; omega]; simp
      have HB := Lib.hid hb
      clear hb hW
      go_enter Tryz.func5, Tryz.ntmps5
      go_wp2
      go_ret
      exact ⟨ret_bool HB.out, by go_grown⟩
    · have hb : bigS W = manyEvs W.cls := by
        simp only [bigS]
        rw [show decide (40 < W.chs.length) = false by simp; omega, show decide (40 < W.cls.length) = false by simp; omega]; rfl
      rw [hb]
      exact big_loop W p1 p2 c1 c2 w hW h1 h2
end Go.Proofs.YtmfpnfdoidihcaaGreatDoor.Wd
namespace Go.Proofs.YtmfpnfdoidihcaaGreatDoor.Wd
section
open Go Go.RowKit
def chCells (c : Cham) : List Value := [.int .i64 c.base, .int .i64 c.swing, .int .i64 c.period]
def evCells (c : Evt) : List Value := [.int .i64 c.what, .int .i64 c.sec, .int .i64 c.size]
def clkCells (c : Clk) (v : Value) : List Value := [.int .i64 c.kind, .int .i64 c.phase, .int .i64 c.rate, .int .i64 c.drift, .int .i64 c.white, .int .i64 c.walk, .int .i64 c.heat, .int .i64 c.room, v]
def chRow (l : List Cham) : List Value := l.flatMap chCells
def evRow (l : List Evt) : List Value := l.flatMap evCells
def clRow (l : List (Clk × Value)) : List Value := l.flatMap fun x => clkCells x.1 x.2
theorem row_get {α : Type} (f : α → List Value) (m : Nat) (hm : ∀ x, (f x).length = m) : ∀ (l : List α) (i j : Nat) (hi : i < l.length), j < m → (l.flatMap f)[i * m + j]? = (f l[i])[j]?
  | [], i, _, hi, _ => absurd hi (by simp)
  | x :: l, 0, j, _, hj => by
    rw [List.flatMap_cons, Nat.zero_mul, Nat.zero_add, List.getElem?_append_left (by rw [hm]; exact hj)]; rfl
  | x :: l, i + 1, j, hi, hj => by
    have hi' : i < l.length := by simpa using hi
    have e : (i + 1) * m + j = m + (i * m + j) := by rw [Nat.add_mul]; omega
    rw [List.flatMap_cons, e, List.getElem?_append_right (by rw [hm]; omega), hm, Nat.add_sub_cancel_left, row_get f m hm l i j hi' hj]
    rfl
theorem row_snoc {α : Type} (f : α → List Value) (l : List α) (k : Nat) (h : k < l.length) : (l.take (k + 1)).flatMap f = (l.take k).flatMap f ++ f l[k] := by
  rw [List.take_succ_eq_append_getElem h, List.flatMap_append]; simp
theorem chRow_snoc (l : List Cham) (k : Nat) (h : k < l.length) : chRow (l.take (k + 1)) = chRow (l.take k) ++ chCells l[k] := row_snoc _ l k h
theorem evRow_snoc (l : List Evt) (k : Nat) (h : k < l.length) : evRow (l.take (k + 1)) = evRow (l.take k) ++ evCells l[k] := row_snoc _ l k h
section
variable {w w' : World} {b b' : Nat} {e e' : TypeId} {s s' : Nat} {v v' : Value} {n n' : Nat} {xs xs' : List Value}
theorem own_ne (h : w.ownsRow b e s v n xs) (h' : w.ownsRow b' e' s' v' n' xs') (hne : e ≠ e') : v.ownBlock = none ∨ v.ownBlock ≠ v'.ownBlock := by
  rcases h.2 with ⟨rfl, _⟩ | ⟨g, cap, cur, rfl, _, hg, _⟩
  · exact .inl rfl
  · right
    intro he
    rcases h'.2 with ⟨rfl, _⟩ | ⟨g', cap', cur', rfl, _, hg', _⟩
    · simp [Value.ownBlock] at he
    · simp [Value.ownBlock] at he
      subst he
      rw [hg] at hg'
      injection hg' with hg'
      injection hg' with _ h2
      exact hne h2
theorem own_far {g : Nat} {cs : Array Value} {t : TypeId} (h : w.ownsRow b e s v n xs) (hg : w.heap[g]? = some (.cells cs t (0, 0))) (hne : e ≠ t) : v.ownBlock ≠ some g := by
  rcases h.2 with ⟨rfl, _⟩ | ⟨g', cap, cur, rfl, _, hg', _⟩
  · simp [Value.ownBlock]
  · intro he
    simp [Value.ownBlock] at he
    subst he
    rw [hg] at hg'
    injection hg' with hg'
    injection hg' with _ h2
    exact hne h2.symm
theorem own_base (h : w.ownsRow b e s v n xs) (hb : b' ≤ b) : w.ownsRow b' e s v n xs := by
  refine ⟨h.1, ?_⟩
  rcases h.2 with hn | ⟨g, cap, cur, hv, hbg, rest⟩
  · exact .inl hn
  · exact .inr ⟨g, cap, cur, hv, by omega, rest⟩
theorem own_below {B : Nat} (h : w.ownsRow b e s v n xs) (hb : Below B w w') (hB : w.heap.size ≤ B) : w'.ownsRow b e s v n xs := by
  refine ⟨h.1, ?_⟩
  rcases h.2 with hn | ⟨g, cap, cur, hv, hbg, hg, rest⟩
  · exact .inl hn
  · exact .inr ⟨g, cap, cur, hv, hbg, (hb.block g (by have := heap_lt hg; omega)).trans hg, rest⟩
theorem own_set {p : Addr} (h : w.ownsRow b e s v n xs) (u : Value) (hne : v.ownBlock ≠ some p.block) : (w.setCell p u).ownsRow b e s v n xs := by
  refine ⟨h.1, ?_⟩
  rcases h.2 with hn | ⟨g, cap, cur, rfl, hbg, hg, rest⟩
  · exact .inl hn
  · refine .inr ⟨g, cap, cur, rfl, hbg, (Below.heap_setCell w p u g (fun he => ?_)).trans hg, rest⟩
    subst he
    exact hne rfl
theorem blk_grown {g : Nat} {o : Obj} {row : Option Nat} (hg : w.heap[g]? = some o) (h : w.grownBy w' row) (hne : row ≠ some g) : w'.heap[g]? = some o := (h.block g (heap_lt hg) (Ne.symm hne)).trans hg
theorem blk_set_far {g : Nat} {o : Obj} {p : Addr} (u : Value) (hg : w.heap[g]? = some o) (hne : g ≠ p.block) : (w.setCell p u).heap[g]? = some o := (Below.heap_setCell w p u g hne).trans hg
theorem blk_set {g : Nat} {cs : Array Value} {t : TypeId} (i : Nat) (u : Value) (hg : w.heap[g]? = some (.cells cs t (0, 0))) : (w.setCell ⟨g, i, none⟩ u).heap[g]? = some (.cells (cs.setIfInBounds i u) t (0, 0)) := by
  simp [World.setCell, Array.getElem?_modify, hg]
theorem blk_below {B g : Nat} {o : Obj} (hg : w.heap[g]? = some o) (hb : Below B w w') (h : g < B) : w'.heap[g]? = some o := (hb.block g h).trans hg
theorem blk_alloc {g : Nat} {o : Obj} (hg : w.heap[g]? = some o) (x : Obj) : (w.alloc x).heap[g]? = some o := (Below.heap_alloc w x g (heap_lt hg)).trans hg
theorem blk_cell {g : Nat} {cs : Array Value} {t : TypeId} (hg : w.heap[g]? = some (.cells cs t (0, 0))) (i : Nat) (u : Value) (h : cs[i]? = some u) : w.cell? ⟨g, i, none⟩ = some u := (cell_of_row w g i cs t (0, 0) hg).trans h
theorem blk_free {g : Nat} {cs : Array Value} {t : TypeId} (hg : w.heap[g]? = some (.cells cs t (0, 0))) (i : Nat) : w.frozen? ⟨g, i, none⟩ = false := by
  simp [World.frozen?, hg]
/-- the cells of a row that is owned -/
theorem own_cells {g : Nat} {cap : Nat} (h : w.ownsRow b e s (.slice (some ⟨g, 0, none⟩) n cap) n' xs) (j : Nat) (u : Value) (hj : xs[j]? = some u) : w.cell? ⟨g, 0 + j, none⟩ = some u := by
  have := h.cells (g := g) rfl j u hj
  rwa [add_plain] at this
end
theorem chams_own {w : World} {b : Nat} {v : Value} {l : List Cham} (h : w.ownsRow b 83 3 v l.length (chRow l)) : ∃ p cap, v = .slice p l.length cap ∧ SliceIn p l.length (ChamsAt w l) := by
  rcases h.2 with ⟨rfl, h0⟩ | ⟨g, cap, cur, rfl, _⟩
  · exact ⟨none, 0, by rw [h0], .inl h0⟩
  · refine ⟨_, cap, rfl, .inr ⟨g, 0, rfl, fun i hi => ⟨?_, ?_, ?_⟩⟩⟩
    · exact own_cells h (i * 3 + 0) _ (row_get chCells 3 (fun _ => rfl) l i 0 hi (by decide))
    · rw [Nat.add_assoc]; exact own_cells h (i * 3 + 1) _ (row_get chCells 3 (fun _ => rfl) l i 1 hi (by decide))
    · rw [Nat.add_assoc]; exact own_cells h (i * 3 + 2) _ (row_get chCells 3 (fun _ => rfl) l i 2 hi (by decide))
theorem evts_own {w : World} {b : Nat} {v : Value} {l : List Evt} (hm : l.length ≤ maxLen) (h : w.ownsRow b 93 3 v l.length (evRow l)) : EvSlice w l v := by
  rcases h.2 with ⟨rfl, h0⟩ | ⟨g, cap, cur, rfl, _⟩
  · exact ⟨none, 0, by rw [h0], hm, .inl h0⟩
  · refine ⟨_, cap, rfl, hm, .inr ⟨g, 0, rfl, fun i hi => ⟨?_, ?_, ?_⟩⟩⟩
    · exact own_cells h (i * 3 + 0) _ (row_get evCells 3 (fun _ => rfl) l i 0 hi (by decide))
    · rw [Nat.add_assoc]; exact own_cells h (i * 3 + 1) _ (row_get evCells 3 (fun _ => rfl) l i 1 hi (by decide))
    · rw [Nat.add_assoc]; exact own_cells h (i * 3 + 2) _ (row_get evCells 3 (fun _ => rfl) l i 2 hi (by decide))
theorem clks_own {w : World} {b : Nat} {v : Value} {l : List (Clk × Value)} (h : w.ownsRow b 88 9 v l.length (clRow l)) (he : ∀ x ∈ l, EvSlice w x.1.evs x.2) :
    ∃ p cap, v = .slice p l.length cap ∧ SliceIn p l.length (ClksAt w (l.map (·.1))) := by
  rcases h.2 with ⟨rfl, h0⟩ | ⟨g, cap, cur, rfl, _⟩
  · exact ⟨none, 0, by rw [h0], .inl h0⟩
  · refine ⟨_, cap, rfl, .inr ⟨g, 0, rfl, fun i hi => ?_⟩⟩
    have hi' : i < l.length := by simpa using hi
    have c := fun j (hj : j < 9) (u : Value) (hu : (clkCells l[i].1 l[i].2)[j]? = some u) => own_cells h (i * 9 + j) u ((row_get (fun x : Clk × Value => clkCells x.1 x.2) 9 (fun _ => rfl) l i j hi' hj).trans hu)
    have e : (l.map (·.1))[i] = l[i].1 := by simp
    rw [e]
    refine ⟨⟨?_, ?_, ?_, ?_, ?_, ?_, ?_, ?_⟩, l[i].2, ?_, he _ (List.getElem_mem hi')⟩
    · exact c 0 (by decide) _ rfl
    · rw [Nat.add_assoc]; exact c 1 (by decide) _ rfl
    · rw [Nat.add_assoc]; exact c 2 (by decide) _ rfl
    · rw [Nat.add_assoc]; exact c 3 (by decide) _ rfl
    · rw [Nat.add_assoc]; exact c 4 (by decide) _ rfl
    · rw [Nat.add_assoc]; exact c 5 (by decide) _ rfl
    · rw [Nat.add_assoc]; exact c 6 (by decide) _ rfl
    · rw [Nat.add_assoc]; exact c 7 (by decide) _ rfl
    · rw [Nat.add_assoc]; exact c 8 (by decide) _ rfl
end
section
open Go Go.RowKit
theorem below_alloc' {X Y : World} (h : Below X.heap.size X Y) (o : Obj) : Below X.heap.size X (Y.alloc o) := h.alloc h.size o
/-- the argument's box, the result's, and what is being made, after some chambers and clocks -/
structure OwnAt (w wr : World) (W : Wld) (p1 p2 : Option Addr) (c1 c2 : Nat) (v1 v2 : Value) : Prop where
  par : wr.heap[w.heap.size]? = some (.cells #[.int .u64 W.seed, .slice p1 W.chs.length c1, .slice p2 W.cls.length c2] 28 (0, 0))
  res : wr.heap[w.heap.size + 1]? = some (.cells #[.int .u64 0, .slice none 0 0, .slice none 0 0] 38 (0, 0))
  out : wr.heap[w.heap.size + 1 + 1]? = some (.cells #[.int .u64 W.seed, v1, v2] 38 (0, 0))
  bel : Below w.heap.size w wr
  big : w.heap.size + 3 ≤ wr.heap.size
variable {w wr wq w1 : World} {W : Wld} {p1 p2 : Option Addr} {c1 c2 : Nat} {v1 v2 v1' v2' v3 : Value}
theorem OwnAt.below (h : OwnAt w wr W p1 p2 c1 c2 v1 v2) (hb : Below wr.heap.size wr wq) : OwnAt w wq W p1 p2 c1 c2 v1 v2 :=
  ⟨blk_below h.par hb (by have := h.big; omega), blk_below h.res hb (by have := h.big; omega), blk_below h.out hb (by have := h.big; omega), h.bel.trans (hb.mono h.bel.size), Nat.le_trans h.big hb.size⟩
theorem below_grown {row : Option Nat} {X Y Z : World} (h : Below X.heap.size X Y) (hg : Y.grownBy Z row) (hr : ∀ g, row = some g → X.heap.size ≤ g) : Below X.heap.size X Z := h.grown hg h.size (fun g hx => hr g hx)
theorem OwnAt.store1 {o : Obj} (h : OwnAt w wr W p1 p2 c1 c2 v1 v2) (hg : (wr.alloc o).grownBy w1 v1.ownBlock) (hlo : ∀ g, v1.ownBlock = some g → w.heap.size + 3 ≤ g) :
    OwnAt w (w1.setCell ⟨w.heap.size + 1 + 1, 1, none⟩ v1') W p1 p2 c1 c2 v1' v2 := by
  have hs := hg.size
  have hb := h.big
  simp at hs
  have f : ∀ g, g < w.heap.size + 3 → v1.ownBlock ≠ some g := fun g hlt he => by have := hlo g he; omega
  refine ⟨blk_set_far _ (blk_grown (blk_alloc h.par o) hg (f _ (by omega))) (by dsimp only; omega), blk_set_far _ (blk_grown (blk_alloc h.res o) hg (f _ (by omega))) (by dsimp only; omega), ?_, ?_, by simpa using (by omega : w.heap.size + 3 ≤ w1.heap.size)⟩
  · have := blk_set 1 v1' (blk_grown (blk_alloc h.out o) hg (f _ (by omega)))
    simpa using this
  · exact (below_grown (below_alloc' h.bel o) hg (fun g hx => by have := hlo g hx; omega)).setCell (by dsimp only; omega) _
theorem OwnAt.store2 {o : Obj} (h : OwnAt w wr W p1 p2 c1 c2 v1 v2) (hg : (wr.alloc o).grownBy w1 v2.ownBlock) (hlo : ∀ g, v2.ownBlock = some g → w.heap.size + 3 ≤ g) :
    OwnAt w (w1.setCell ⟨w.heap.size + 1 + 1, 2, none⟩ v2') W p1 p2 c1 c2 v1 v2' := by
  have hs := hg.size
  have hb := h.big
  simp at hs
  have f : ∀ g, g < w.heap.size + 3 → v2.ownBlock ≠ some g := fun g hlt he => by have := hlo g he; omega
  refine ⟨blk_set_far _ (blk_grown (blk_alloc h.par o) hg (f _ (by omega))) (by dsimp only; omega), blk_set_far _ (blk_grown (blk_alloc h.res o) hg (f _ (by omega))) (by dsimp only; omega), ?_, ?_, by simpa using (by omega : w.heap.size + 3 ≤ w1.heap.size)⟩
  · have := blk_set 2 v2' (blk_grown (blk_alloc h.out o) hg (f _ (by omega)))
    simpa using this
  · exact (below_grown (below_alloc' h.bel o) hg (fun g hx => by have := hlo g hx; omega)).setCell (by dsimp only; omega) _
/-- behind an append the box is as it was -/
theorem OwnAt.boxed {o : Obj} {v : Value} (h : OwnAt w wr W p1 p2 c1 c2 v1 v2) (hg : (wr.alloc o).grownBy w1 v.ownBlock) (hlo : ∀ g, v.ownBlock = some g → w.heap.size + 3 ≤ g) :
    (w1.cell? ⟨w.heap.size + 1 + 1, 1, none⟩ = some v1 ∧ w1.frozen? ⟨w.heap.size + 1 + 1, 1, none⟩ = false) ∧ (w1.cell? ⟨w.heap.size + 1 + 1, 2, none⟩ = some v2 ∧ w1.frozen? ⟨w.heap.size + 1 + 1, 2, none⟩ = false) := by
  have e := blk_grown (blk_alloc h.out o) hg (fun he => by have := hlo _ he; omega)
  exact ⟨⟨blk_cell e 1 _ rfl, blk_free e 1⟩, blk_cell e 2 _ rfl, blk_free e 2⟩
/-- the chambers made so far -/
structure Own1 (w wr : World) (W : Wld) (p1 p2 : Option Addr) (c1 c2 : Nat) (k : Nat) (v1 : Value) : Prop where
  at_ : OwnAt w wr W p1 p2 c1 c2 v1 (.slice none 0 0)
  row : wr.ownsRow (w.heap.size + 3) 83 3 v1 k (chRow (W.chs.take k))
theorem own1_start (w : World) (W : Wld) (p1 p2 : Option Addr) (c1 c2 : Nat) :
    Own1 w (((w.alloc (.cells #[.int .u64 W.seed, .slice p1 W.chs.length c1, .slice p2 W.cls.length c2] 28)).alloc (.cells #[.int .u64 0, .slice none 0 0, .slice none 0 0] 38)).alloc (.cells #[.int .u64 W.seed, .slice none 0 0, .slice none 0 0] 38))
      W p1 p2 c1 c2 0 (.slice none 0 0) := by
  refine ⟨⟨blk_alloc (blk_alloc (heap_alloc_new w _) _) _, blk_alloc ?_ _, ?_, ?_, by simp⟩, World.ownsRow_nil _ _ _ _⟩
  · have := heap_alloc_new (w.alloc (.cells #[.int .u64 W.seed, .slice p1 W.chs.length c1, .slice p2 W.cls.length c2] 28)) (.cells #[.int .u64 0, .slice none 0 0, .slice none 0 0] 38)
    simpa using this
  · have := heap_alloc_new ((w.alloc (.cells #[.int .u64 W.seed, .slice p1 W.chs.length c1, .slice p2 W.cls.length c2] 28)).alloc (.cells #[.int .u64 0, .slice none 0 0, .slice none 0 0] 38)) (.cells #[.int .u64 W.seed, .slice none 0 0, .slice none 0 0] 38)
    simpa using this
  · exact below_alloc' (below_alloc' (below_alloc' (Below.refl _ _) _) _) _
theorem Own1.next {o : Obj} {k : Nat} (h : Own1 w wr W p1 p2 c1 c2 k v1) (hk : k < W.chs.length) (hown : w1.ownsRow (w.heap.size + 3) 83 3 v1' (k + 1) (chRow (W.chs.take k) ++ chCells W.chs[k]))
    (hg : (wr.alloc o).grownBy w1 v1.ownBlock) : Own1 w (w1.setCell ⟨w.heap.size + 1 + 1, 1, none⟩ v1') W p1 p2 c1 c2 (k + 1) v1' := by
  have hlo : ∀ g, v1.ownBlock = some g → w.heap.size + 3 ≤ g := fun g hx => (h.row.lt g hx).1
  refine ⟨h.at_.store1 hg hlo, ?_⟩
  rw [chRow_snoc _ _ hk]
  exact own_set hown _ (fun he => by have := (hown.lt _ he).1; dsimp only at this; omega)
/-- the clocks made so far -/
structure Own2 (w wr : World) (W : Wld) (p1 p2 : Option Addr) (c1 c2 : Nat) (k : Nat) (v1 v2 : Value) (l : List (Clk × Value)) : Prop where
  at_ : OwnAt w wr W p1 p2 c1 c2 v1 v2
  row1 : wr.ownsRow (w.heap.size + 3) 83 3 v1 W.chs.length (chRow W.chs)
  row2 : wr.ownsRow (w.heap.size + 3) 88 9 v2 k (clRow l)
  evs : ∀ x ∈ l, wr.ownsRow (w.heap.size + 3) 93 3 x.2 x.1.evs.length (evRow x.1.evs)
  done : l.map (·.1) = W.cls.take k
theorem Own1.start2 (h : Own1 w wr W p1 p2 c1 c2 W.chs.length v1) : Own2 w wr W p1 p2 c1 c2 0 v1 (.slice none 0 0) [] :=
  ⟨h.at_, by have := h.row; rwa [List.take_length] at this, World.ownsRow_nil _ _ _ _, (fun _ hx => by cases hx), rfl⟩
theorem Own2.below {k : Nat} {l : List (Clk × Value)} (h : Own2 w wr W p1 p2 c1 c2 k v1 v2 l) (hb : Below wr.heap.size wr wq) : Own2 w wq W p1 p2 c1 c2 k v1 v2 l :=
  ⟨h.at_.below hb, own_below h.row1 hb (Nat.le_refl _), own_below h.row2 hb (Nat.le_refl _), fun x hx => own_below (h.evs x hx) hb (Nat.le_refl _), h.done⟩
theorem Own2.next {o : Obj} {k : Nat} {l : List (Clk × Value)} (h : Own2 w wq W p1 p2 c1 c2 k v1 v2 l) (hk : k < W.cls.length) (hv : wq.ownsRow (w.heap.size + 3) 93 3 v3 W.cls[k].evs.length (evRow W.cls[k].evs))
    (hown : w1.ownsRow (w.heap.size + 3) 88 9 v2' (k + 1) (clRow l ++ clkCells W.cls[k] v3)) (hg : (wq.alloc o).grownBy w1 v2.ownBlock) :
    Own2 w (w1.setCell ⟨w.heap.size + 1 + 1, 2, none⟩ v2') W p1 p2 c1 c2 (k + 1) v1 v2' (l ++ [(W.cls[k], v3)]) := by
  have hlo : ∀ g, v2.ownBlock = some g → w.heap.size + 3 ≤ g := fun g hx => (h.row2.lt g hx).1
  have far : ∀ {v : Value} {n : Nat} {xs : List Value} {e : TypeId} {s : Nat}, e ≠ 88 → wq.ownsRow (w.heap.size + 3) e s v n xs → (w1.setCell ⟨w.heap.size + 1 + 1, 2, none⟩ v2').ownsRow (w.heap.size + 3) e s v n xs := by
    intro v n xs e s hne ho
    refine own_set ((ho.alloc o).kept hg (own_ne (ho.alloc o) (h.row2.alloc o) hne)) _ (fun he => ?_)
    have := (ho.lt _ he).1
    dsimp only at this; omega
  refine ⟨h.at_.store2 hg hlo, far (by decide) h.row1, ?_, ?_, ?_⟩
  · have : clRow (l ++ [(W.cls[k], v3)]) = clRow l ++ clkCells W.cls[k] v3 := by simp [clRow]
    rw [this]
    exact own_set hown _ (fun he => by have := (hown.lt _ he).1; dsimp only at this; omega)
  · intro x hx
    rcases List.mem_append.1 hx with hx | hx
    · exact far (by decide) (h.evs x hx)
    · obtain rfl := List.mem_singleton.1 hx
      exact far (by decide) hv
  · rw [List.map_append, h.done, List.take_succ_eq_append_getElem hk]; rfl
/-- the events of one clock made so far: wr is the world at the round's head -/
structure Own3 (wr wq : World) (c : Clk) (u : Value) (j : Nat) (v3 : Value) : Prop where
  xbox : wq.heap[wr.heap.size]? = some (.cells (clkCells c u).toArray 64 (0, 0))
  cbox : wq.heap[wr.heap.size + 1]? = some (.cells (clkCells c v3).toArray 88 (0, 0))
  row : wq.ownsRow (wr.heap.size + 2) 93 3 v3 j (evRow (c.evs.take j))
  bel : Below wr.heap.size wr wq
  big : wr.heap.size + 2 ≤ wq.heap.size
theorem own3_start (wr : World) (c : Clk) (u : Value) : Own3 wr ((wr.alloc (.cells (clkCells c u).toArray 64)).alloc (.cells (clkCells c (.slice none 0 0)).toArray 88)) c u 0 (.slice none 0 0) := by
  refine ⟨blk_alloc (heap_alloc_new wr _) _, ?_, World.ownsRow_nil _ _ _ _, below_alloc' (below_alloc' (Below.refl _ _) _) _, by simp⟩
  have := heap_alloc_new (wr.alloc (.cells (clkCells c u).toArray 64)) (.cells (clkCells c (.slice none 0 0)).toArray 88)
  simpa using this
theorem Own3.next {o : Obj} {n : Nat} {c : Clk} {u v3' : Value} {j : Nat} (h : Own3 wr wq c u j v3) (hj : j < c.evs.length) (hown : w1.ownsRow (wr.heap.size + 2) 93 3 v3' (j + 1) (evRow (c.evs.take j) ++ evCells c.evs[j]))
    (hg : ((wq.alloc o).drewN n).grownBy w1 v3.ownBlock) : Own3 wr (w1.setCell ⟨wr.heap.size + 1, 8, none⟩ v3') c u (j + 1) v3' := by
  have hlo : ∀ g, v3.ownBlock = some g → wr.heap.size + 2 ≤ g := fun g hx => (h.row.lt g hx).1
  have hs := hg.size
  have hb := h.big
  simp at hs
  have f : ∀ g, g < wr.heap.size + 2 → v3.ownBlock ≠ some g := fun g hlt he => by have := hlo g he; omega
  refine ⟨blk_set_far _ (blk_grown (w := (wq.alloc o).drewN n) (blk_alloc h.xbox o) hg (f _ (by omega))) (by simp), ?_, ?_, ?_, by simpa using (by omega : wr.heap.size + 2 ≤ w1.heap.size)⟩
  · have := blk_set 8 v3' (blk_grown (w := (wq.alloc o).drewN n) (blk_alloc h.cbox o) hg (f _ (by omega)))
    simpa [clkCells] using this
  · rw [evRow_snoc _ _ hj]
    exact own_set hown _ (fun he => by have := (hown.lt _ he).1; dsimp only at this; omega)
  · exact (below_grown (below_drewN (below_alloc' h.bel o) n) hg (fun g hx => by have := hlo g hx; omega)).setCell (by simp) _
/-- behind an append both boxes are as they were -/
theorem Own3.boxed {o : Obj} {n : Nat} {c : Clk} {u : Value} {j : Nat} (h : Own3 wr wq c u j v3) (hg : ((wq.alloc o).drewN n).grownBy w1 v3.ownBlock) :
    w1.cell? ⟨wr.heap.size + 1, 8, none⟩ = some v3 ∧ w1.frozen? ⟨wr.heap.size + 1, 8, none⟩ = false := by
  have hlo : ∀ g, v3.ownBlock = some g → wr.heap.size + 2 ≤ g := fun g hx => (h.row.lt g hx).1
  have e := blk_grown (w := (wq.alloc o).drewN n) (blk_alloc h.cbox o) hg (fun he => by have := hlo _ he; omega)
  exact ⟨blk_cell e 8 _ rfl, blk_free e 8⟩
theorem Own3.far {c : Clk} {u : Value} {j : Nat} (h : Own3 wr wq c u j v3) {g : Nat} (hg : g < wr.heap.size + 2) : v3.ownBlock ≠ some g := fun he => by
  have := (h.row.lt g he).1; omega
theorem Own3.done {c : Clk} {u : Value} (h : Own3 wr wq c u c.evs.length v3) : wq.ownsRow (wr.heap.size + 2) 93 3 v3 c.evs.length (evRow c.evs) := by
  have := h.row; rwa [List.take_length] at this
theorem own_one {b : Nat} {e : TypeId} {s : Nat} {v : Value} {n : Nat} {xs : List Value} {w : World} (h : w.ownsRow b e s v n xs) : v.oneCell' = true := by
  rcases h.2 with ⟨rfl, _⟩ | ⟨g, cap, cur, rfl, _⟩ <;> rfl
/-- a world that lies in blocks from n on: it lies wherever these blocks do -/
def WldFr (n : Nat) (X : World) (W : Wld) (q1 q2 : Option Addr) : Prop := ∀ Z : World, (∀ k o, n ≤ k → X.heap[k]? = some o → Z.heap[k]? = some o) → WldIn Z W q1 q2
theorem WldFr.in_ {n : Nat} {X : World} {W : Wld} {q1 q2 : Option Addr} (h : WldFr n X W q1 q2) : WldIn X W q1 q2 := h X fun _ _ _ h => h
theorem own_fresh_at {n b s m : Nat} {X Z : World} {e : TypeId} {v : Value} {xs : List Value} (hn : n ≤ b) (hZ : ∀ k o, n ≤ k → X.heap[k]? = some o → Z.heap[k]? = some o) (h : X.ownsRow b e s v m xs) : Z.ownsRow b e s v m xs := by
  refine ⟨h.1, ?_⟩
  rcases h.2 with h0 | ⟨g, cap, cur, hv, hb, hg, h1, h2, h3, h4⟩
  · exact .inl h0
  · exact .inr ⟨g, cap, cur, hv, hb, hZ g _ (by omega) hg, h1, h2, h3, h4⟩
theorem slices_own {X : World} {b1 s1 n1 b2 s2 n2 : Nat} {e1 e2 : TypeId} {v1 v2 : Value} {x1 x2 : List Value} {P : Prop} (h1 : X.ownsRow b1 e1 s1 v1 n1 x1) (h2 : X.ownsRow b2 e2 s2 v2 n2 x2) (k : ∀ q1 q2 d1 d2, v1 = .slice q1 n1 d1 → v2 = .slice q2 n2 d2 → P) : P := by
  rcases h1.2 with ⟨e, n⟩ | ⟨g, cap, cur, e, _⟩ <;> rcases h2.2 with ⟨e', n'⟩ | ⟨g', cap', cur', e', _⟩
  · exact k _ _ _ _ (by rw [n]; exact e) (by rw [n']; exact e')
  · exact k _ _ _ _ (by rw [n]; exact e) e'
  · exact k _ _ _ _ e (by rw [n']; exact e')
  · exact k _ _ _ _ e e'
theorem Own2.world {l : List (Clk × Value)} (h : Own2 w wr W p1 p2 c1 c2 W.cls.length v1 v2 l) (x y z : Value) (h1 : W.chs.length ≤ maxLen) (h2 : W.cls.length ≤ maxLen) (h3 : ∀ k, (hk : k < W.cls.length) → W.cls[k].evs.length ≤ maxLen) :
    ∃ q1 q2 d1 d2, v1 = .slice q1 W.chs.length d1 ∧ v2 = .slice q2 W.cls.length d2 ∧ WldFr w.heap.size (((wr.setCell ⟨w.heap.size + 1, 0, none⟩ x).setCell ⟨w.heap.size + 1, 1, none⟩ y).setCell ⟨w.heap.size + 1, 2, none⟩ z) W q1 q2 := by
  have st : ∀ {v : Value} {n : Nat} {xs : List Value} {e : TypeId} {s : Nat}, wr.ownsRow (w.heap.size + 3) e s v n xs →
      (((wr.setCell ⟨w.heap.size + 1, 0, none⟩ x).setCell ⟨w.heap.size + 1, 1, none⟩ y).setCell ⟨w.heap.size + 1, 2, none⟩ z).ownsRow (w.heap.size + 3) e s v n xs := by
    intro v n xs e s ho
    have hf : v.ownBlock ≠ some (w.heap.size + 1) := fun he => by have := (ho.lt _ he).1; omega
    exact own_set (own_set (own_set ho x hf) y hf) z hf
  refine slices_own h.row1 h.row2 fun q1 q2 d1 d2 hv1 hv2 => ⟨q1, q2, d1, d2, hv1, hv2, fun Z hZ => ?_⟩
  subst hv1 hv2
  have st : ∀ {v : Value} {n : Nat} {xs : List Value} {e : TypeId} {s : Nat}, wr.ownsRow (w.heap.size + 3) e s v n xs → Z.ownsRow (w.heap.size + 3) e s v n xs := fun ho => own_fresh_at (by omega) hZ (st ho)
  obtain ⟨q1', d1', e1, s1⟩ := chams_own (st h.row1)
  cases e1
  have hd := h.done
  rw [List.take_length] at hd
  have hlen : l.length = W.cls.length := by rw [← hd, List.length_map]
  have r2 := st h.row2
  rw [← hlen] at r2
  obtain ⟨q2', d2', e2, s2⟩ := clks_own r2 fun x hx => by
    have hxc : x.1 ∈ W.cls := by rw [← hd]; exact List.mem_map_of_mem hx
    obtain ⟨k, hk, he⟩ := List.getElem_of_mem hxc
    refine evts_own ?_ (st (h.evs x hx))
    have := h3 k hk
    rwa [he] at this
  cases e2
  rw [hlen] at s2
  rw [hd] at s2
  exact ⟨h1, h2, s1, s2⟩
end
section
open Go Go.RowKit
theorem infoCh : (Tryz.prog.info? 83).map (fun i => (i.zero, i.size, i.bytes)) = some (some (.agg #[.int .i64 0, .int .i64 0, .int .i64 0]), 3, 24) := by kernel_rfl
theorem infoEv : (Tryz.prog.info? 93).map (fun i => (i.zero, i.size, i.bytes)) = some (some (.agg #[.int .i64 0, .int .i64 0, .int .i64 0]), 3, 24) := by kernel_rfl
theorem infoCl : (Tryz.prog.info? 88).map (fun i => (i.zero, i.size, i.bytes)) = some (some (.agg #[.int .i64 0, .int .i64 0, .int .i64 0, .int .i64 0, .int .i64 0, .int .i64 0, .int .i64 0, .int .i64 0, .slice none 0 0]), 9, 88) := by kernel_rfl
theorem set_far {w : World} {b o b' o' : Nat} {u v : Value} (h : w.cell? ⟨b, o, none⟩ = some v) (hne : b' ≠ b) : (w.setCell ⟨b', o', none⟩ u).cell? ⟨b, o, none⟩ = some v := by
  rw [World.cell?_setCell_other w ⟨b', o', none⟩ ⟨b, o, none⟩ u (fun e => by cases e; exact hne rfl)]; exact h
/-- what Own leaves -/
def Owned (w : World) (W : Wld) (e : Ending) (w' : World) : Prop :=
  ∃ q1 q2 d1 d2, e = .returned (.agg #[.int .u64 W.seed, .slice q1 W.chs.length d1, .slice q2 W.cls.length d2]) ∧ WldIn w' W q1 q2 ∧ Below w.heap.size w w'
/-- what Own leaves, in blocks of its own -/
def OwnedF (w : World) (W : Wld) (e : Ending) (w' : World) : Prop :=
  ∃ q1 q2 d1 d2, e = .returned (.agg #[.int .u64 W.seed, .slice q1 W.chs.length d1, .slice q2 W.cls.length d2]) ∧ WldFr w.heap.size w' W q1 q2 ∧ Below w.heap.size w w'
end
end Go.Proofs.YtmfpnfdoidihcaaGreatDoor.Wd
