/- Contracts: find, which makes a clock at work. · Contracts: phases, what is shown, readings; the calls that hand back one number. -/
import Derived.Test.YtlelamjbfjneiaaGreatDoorQ24
import Derived.Test.YtlelamjbfjneiaaGreatDoorQ23
import Derived.Test.YtlelamjbfjneiaaGreatDoorQ02
namespace Go.Proofs.YtlelamjbfjneiaaGreatDoor.Wd
open Go Go.RowKit
/-- a slice of seconds -/
def SecsIn (w : World) (l : List Int) (p : Option Addr) : Prop := l.length ≤ maxLen ∧ SliceIn p l.length (IntsAt w l)
theorem IntsAt.below {w w' : World} {b o : Nat} {l : List Int} (h : IntsAt w l b o) (hb : Below w.heap.size w w') : IntsAt w' l b o := fun i hi => cell_below hb (h i hi)
theorem checkS_vals (W : Wld) : checkS W = 0 ∨ checkS W = 2 ∨ checkS W = 6 ∨ checkS W = 20 ∨ checkS W = 21 := by
  unfold checkS; repeat (split; omega); omega
set_option maxRecDepth 100000 in
set_option maxHeartbeats 1000000 in
theorem find_bad (W : Wld) (k : Int) (l : List Int) (p1 p2 p3 : Option Addr) (k1 k2 k3 : Nat) (w : World) (ht : Tabs w) (hW : WldIn w W p1 p2) (hs : SecsIn w l p3) (he : findErr W k l ≠ 0) :
    Calls Tryz.prog 90 #[wldVal W p1 p2 k1 k2, .int .i64 k, .slice p3 l.length k3] w fun e w' => e = .returned (.tuple #[.pointer none, .int .i64 (findErr W k l)]) ∧ Below w.heap.size w w' := by
  have hm2 := hW.2.1
  unfold maxLen at hm2
  have a0 : Below w.heap.size w (w.alloc (.cells #[.int .u64 W.seed, .slice p1 W.chs.length k1, .slice p2 W.cls.length k2] 38)) := (Below.refl _ _).alloc (Nat.le_refl _) _
  have hc := check_any W p1 p2 k1 k2 _ (ht.below a0) (hW.below a0)
  have x2 : (w.alloc (.cells #[.int .u64 W.seed, .slice p1 W.chs.length k1, .slice p2 W.cls.length k2] 38)).cell? ⟨w.heap.size, 2, none⟩ = some (.slice p2 W.cls.length k2) := by simp
  unfold wldVal at hc ⊢
  have HC := Lib.hid hc
  have HS := Lib.hid hs
  have HE := Lib.hid he
  clear hc hW ht hs he
  by_cases h0 : checkS W = 0
  · have he2 : findErr W k l = if inR k 0 (W.cls.length - 1) = true then (if secsOk l = true then 0 else 21) else 20 := if_pos h0
    rw [h0] at HC
    cases h1 : inR k 0 (W.cls.length - 1)
    · rw [h1, if_neg (by decide)] at he2
      have H2 := Lib.hid he2
      clear he2 h0
      go_enter Tryz.func90, Tryz.ntmps90
      go_wp2_with fail
      refine HC.out.mono ?_
      rintro e w1 ⟨rfl, b1⟩
      have y2 := cell_below b1 x2
      have hz := cell_lt y2
      go_wp2_with (go_at_call 81; refine (isIndex_any _ _ _ (by omega) (by omega)).mono ?_; rintro e w' ⟨rfl, rfl⟩)
      go_ret2
      exact ⟨by rw [H2.out]; rfl, a0.trans (b1.mono (by simp))⟩
    · rw [h1, if_pos rfl] at he2
      cases h2 : secsOk l
      · rw [h2, if_neg (by decide)] at he2
        have H2 := Lib.hid he2
        clear he2 h0
        go_enter Tryz.func90, Tryz.ntmps90
        go_wp2_with fail
        refine HC.out.mono ?_
        rintro e w1 ⟨rfl, b1⟩
        have y2 := cell_below b1 x2
        have hz := cell_lt y2
        have b2 : Below w.heap.size w w1 := a0.trans (b1.mono (by simp))
        have B2 := Lib.hid b2
        clear b2
        go_wp2_with (first | (go_at_call 81; refine (isIndex_any _ _ _ (by omega) (by omega)).mono ?_; rintro e w' ⟨rfl, rfl⟩) |
          (go_at_call 109; refine (allInt_any _ _ l _ HS.out.1 (HS.out.2.imp fun _ _ h => h.below B2.out)).mono ?_; rintro e w' ⟨rfl, rfl⟩))
        go_ret2
        exact ⟨by rw [H2.out]; rfl, B2.out⟩
      · rw [h2, if_pos rfl] at he2
        exact absurd he2 HE.out
  · have he2 : findErr W k l = checkS W := if_neg h0
    have h3 : (checkS W != 0) = true := by simpa using h0
    have H2 := Lib.hid he2
    clear he2 h0
    go_enter Tryz.func90, Tryz.ntmps90
    go_wp2_with fail
    refine HC.out.mono ?_
    rintro e w1 ⟨rfl, b1⟩
    go_wp2
    go_ret2
    exact ⟨by rw [H2.out]; rfl, a0.trans (b1.mono (by simp))⟩
theorem effects_keep (W0 : World) (w : World) (hb : Below W0.heap.size W0 w) :
    Calls Tryz.prog 111 #[] w fun e w' => ∃ m, e = .returned (.map (some m)) ∧ w'.heap[m]? = some fxMap ∧ Below W0.heap.size W0 w' :=
  (effects_any w).mono fun _ _ ⟨a, b⟩ => ⟨_, a, by rw [b]; exact (MapKept.heap_alloc w _).1, by rw [b]; exact hb.alloc hb.size _⟩
theorem below_alloc {W0 w : World} (h : Below W0.heap.size W0 w) (o : Obj) : Below W0.heap.size W0 (w.alloc o) := h.alloc h.size o
/-- what find hands back where it hands back a clock -/
def Found (W : Wld) (k : Int) (B : Nat) (w : World) (e : Ending) (w' : World) : Prop :=
  ∃ a m v, e = .returned (.tuple #[.pointer (some ⟨a, 0, none⟩), .int .i64 0]) ∧ AtWork w' a m (clkOf W k) W.seed k (roomOf W k) v ∧ Below B w w' ∧ B ≤ a
set_option maxRecDepth 100000 in
set_option maxHeartbeats 2000000 in
theorem find_okA (W : Wld) (k : Int) (j i : Nat) (c : Clk) (r : Cham) (l : List Int) (p1 p2 p3 : Option Addr) (k1 k2 k3 : Nat) (w : World) (ht : Tabs w) (hW : WldIn w W p1 p2) (hs : SecsIn w l p3) (h0 : checkS W = 0) (h1 : inR k 0 (W.cls.length - 1) = true) (h2 : secsOk l = true) (hk : k = (j : Int)) (hj : j < W.cls.length) (hjc : W.cls[j] = c) (hi : i < W.chs.length) (hroom : c.room = (i : Int)) (hir : W.chs[i] = r) :
    Calls Tryz.prog 90 #[wldVal W p1 p2 k1 k2, .int .i64 k, .slice p3 l.length k3] w (fun e w' => ∃ a m v, e = .returned (.tuple #[.pointer (some ⟨a, 0, none⟩), .int .i64 0]) ∧ AtWork w' a m c W.seed k r v ∧ Below w.heap.size w w' ∧ w.heap.size ≤ a) := by
  have hm2 := hW.2.1
  unfold maxLen at hm2
  have a0 : Below w.heap.size w (w.alloc (.cells #[.int .u64 W.seed, .slice p1 W.chs.length k1, .slice p2 W.cls.length k2] 38)) := (Below.refl _ _).alloc (Nat.le_refl _) _
  have hc := check_any W p1 p2 k1 k2 _ (ht.below a0) (hW.below a0)
  rw [h0] at hc
  have x0 : (w.alloc (.cells #[.int .u64 W.seed, .slice p1 W.chs.length k1, .slice p2 W.cls.length k2] 38)).cell? ⟨w.heap.size, 0, none⟩ = some (.int .u64 W.seed) := by simp
  have x1 : (w.alloc (.cells #[.int .u64 W.seed, .slice p1 W.chs.length k1, .slice p2 W.cls.length k2] 38)).cell? ⟨w.heap.size, 1, none⟩ = some (.slice p1 W.chs.length k1) := by simp
  have x2 : (w.alloc (.cells #[.int .u64 W.seed, .slice p1 W.chs.length k1, .slice p2 W.cls.length k2] 38)).cell? ⟨w.heap.size, 2, none⟩ = some (.slice p2 W.cls.length k2) := by simp
  obtain ⟨q1, o1, rfl, hq1⟩ := hW.2.2.1.resolve_left (by omega)
  obtain ⟨q2, o2, rfl, hq2⟩ := hW.2.2.2.resolve_left (by omega)
  subst hk
  have hcc := hq2 j hj
  have hrr := hq1 i hi
  rw [hjc] at hcc
  rw [hir] at hrr
  have hjlt : (j : Int) < (W.cls.length : Int) := by omega
  have hilt : (i : Int) < (W.chs.length : Int) := by omega
  have hm1 := hW.1
  unfold maxLen at hm1
  unfold wldVal at hc ⊢
  have HC := Lib.hid hc
  have HS := Lib.hid hs
  have H1 := Lib.hid h1
  have H2 := Lib.hid h2
  have HCC := Lib.hid hcc
  have HRR := Lib.hid hrr
  have HRO := Lib.hid hroom
  clear hc hW ht hs h0 h1 h2 hcc hrr hq1 hq2 hroom hj hi hjc hir
  go_enter Tryz.func90, Tryz.ntmps90
  go_wp2_with fail
  refine HC.out.mono ?_
  rintro e w1 ⟨rfl, b1⟩
  have y0 := cell_below b1 x0
  have y1 := cell_below b1 x1
  have y2 := cell_below b1 x2
  have hz := cell_lt y2
  have b2 : Below w.heap.size w w1 := a0.trans (b1.mono (by simp))
  have B2 := Lib.hid b2
  obtain ⟨⟨c0, c1, c2, c3, c4, c5, c6, c7⟩, v, c8, hv⟩ := HCC.out.below b2
  obtain ⟨r0, r1, r2⟩ := HRR.out.below b2
  have HV := Lib.hid hv
  obtain ⟨pv, capv, rfl, hmv, -⟩ := hv
  rw [HRO.out] at c7
  have hz1 := cell_lt c0
  have hz2 := cell_lt r0
  clear x0 x1 x2 b1 b2 a0
  have h1' := H1.out
  have h2' := H2.out
  go_wp2_with (first | (go_at_call 81; refine (isIndex_any _ _ _ (by omega) (by omega)).mono ?_; rintro e w' ⟨rfl, rfl⟩) |
    (go_at_call 109; refine (allInt_any _ _ l _ HS.out.1 (HS.out.2.imp fun _ _ h => h.below B2.out)).mono ?_; rintro e w' ⟨rfl, rfl⟩))
  obtain ⟨W0, hW0⟩ : ∃ W0, W0 = (w1.alloc (.cells #[.int .i64 c.kind, .int .i64 c.phase, .int .i64 c.rate, .int .i64 c.drift, .int .i64 c.white, .int .i64 c.walk, .int .i64 c.heat, .int .i64 (i : Int), .slice pv c.evs.length capv] 85)) := ⟨_, rfl⟩
  rw [← hW0]
  have hbw : Below w1.heap.size w1 W0 := by rw [hW0]; exact (Below.refl _ _).alloc (Nat.le_refl _) _
  have g0 : W0.cell? ⟨w1.heap.size, 0, none⟩ = some (.int .i64 c.kind) := by rw [hW0]; simp
  have g1 : W0.cell? ⟨w1.heap.size, 1, none⟩ = some (.int .i64 c.phase) := by rw [hW0]; simp
  have g2 : W0.cell? ⟨w1.heap.size, 2, none⟩ = some (.int .i64 c.rate) := by rw [hW0]; simp
  have g3 : W0.cell? ⟨w1.heap.size, 3, none⟩ = some (.int .i64 c.drift) := by rw [hW0]; simp
  have g4 : W0.cell? ⟨w1.heap.size, 4, none⟩ = some (.int .i64 c.white) := by rw [hW0]; simp
  have g5 : W0.cell? ⟨w1.heap.size, 5, none⟩ = some (.int .i64 c.walk) := by rw [hW0]; simp
  have g6 : W0.cell? ⟨w1.heap.size, 6, none⟩ = some (.int .i64 c.heat) := by rw [hW0]; simp
  have g7 : W0.cell? ⟨w1.heap.size, 7, none⟩ = some (.int .i64 (i : Int)) := by rw [hW0]; simp
  have g8 : W0.cell? ⟨w1.heap.size, 8, none⟩ = some (.slice pv c.evs.length capv) := by rw [hW0]; simp
  have d0 := cell_below hbw y0
  have d1 := cell_below hbw y1
  have s0 := cell_below hbw r0
  have s1 := cell_below hbw r1
  have s2 := cell_below hbw r2
  have hz3 := hbw.size
  clear hW0 y0 y1 y2 r0 r1 r2 c0 c1 c2 c3 c4 c5 c6 c7 c8 h1' h2'
  have HBW := Lib.hid hbw
  clear hbw
  have hk : ∀ X, Below W0.heap.size W0 X → (fun w' => Below W0.heap.size W0 w' ∧ w'.cell? ⟨w1.heap.size, 0, none⟩ = some (.int .i64 c.kind) ∧ w'.cell? ⟨w1.heap.size, 1, none⟩ = some (.int .i64 c.phase) ∧ w'.cell? ⟨w1.heap.size, 2, none⟩ = some (.int .i64 c.rate) ∧ w'.cell? ⟨w1.heap.size, 3, none⟩ = some (.int .i64 c.drift) ∧ w'.cell? ⟨w1.heap.size, 4, none⟩ = some (.int .i64 c.white) ∧ w'.cell? ⟨w1.heap.size, 5, none⟩ = some (.int .i64 c.walk) ∧ w'.cell? ⟨w1.heap.size, 6, none⟩ = some (.int .i64 c.heat) ∧ w'.cell? ⟨w1.heap.size, 7, none⟩ = some (.int .i64 (i : Int)) ∧ w'.cell? ⟨w1.heap.size, 8, none⟩ = some (.slice pv c.evs.length capv) ∧ w'.cell? ⟨w.heap.size, 0, none⟩ = some (.int .u64 W.seed) ∧ w'.cell? ⟨w.heap.size, 1, none⟩ = some (.slice (some ⟨q1, o1, none⟩) W.chs.length k1) ∧  w'.cell? ⟨q1, o1 + i * 3, none⟩ = some (.int .i64 r.base) ∧ w'.cell? ⟨q1, o1 + i * 3 + 1, none⟩ = some (.int .i64 r.swing) ∧ w'.cell? ⟨q1, o1 + i * 3 + 2, none⟩ = some (.int .i64 r.period)) X := fun X h => ⟨h, cell_below h g0, cell_below h g1, cell_below h g2, cell_below h g3, cell_below h g4, cell_below h g5, cell_below h g6, cell_below h g7, cell_below h g8, cell_below h d0, cell_below h d1, cell_below h s0, cell_below h s1, cell_below h s2⟩
  have HK := Lib.hid hk
  clear hk
  go_region_held3 (fun w' => Below W0.heap.size W0 w' ∧ w'.cell? ⟨w1.heap.size, 0, none⟩ = some (.int .i64 c.kind) ∧ w'.cell? ⟨w1.heap.size, 1, none⟩ = some (.int .i64 c.phase) ∧ w'.cell? ⟨w1.heap.size, 2, none⟩ = some (.int .i64 c.rate) ∧ w'.cell? ⟨w1.heap.size, 3, none⟩ = some (.int .i64 c.drift) ∧ w'.cell? ⟨w1.heap.size, 4, none⟩ = some (.int .i64 c.white) ∧ w'.cell? ⟨w1.heap.size, 5, none⟩ = some (.int .i64 c.walk) ∧ w'.cell? ⟨w1.heap.size, 6, none⟩ = some (.int .i64 c.heat) ∧ w'.cell? ⟨w1.heap.size, 7, none⟩ = some (.int .i64 (i : Int)) ∧ w'.cell? ⟨w1.heap.size, 8, none⟩ = some (.slice pv c.evs.length capv) ∧ w'.cell? ⟨w.heap.size, 0, none⟩ = some (.int .u64 W.seed) ∧ w'.cell? ⟨w.heap.size, 1, none⟩ = some (.slice (some ⟨q1, o1, none⟩) W.chs.length k1) ∧  w'.cell? ⟨q1, o1 + i * 3, none⟩ = some (.int .i64 r.base) ∧ w'.cell? ⟨q1, o1 + i * 3 + 1, none⟩ = some (.int .i64 r.swing) ∧ w'.cell? ⟨q1, o1 + i * 3 + 2, none⟩ = some (.int .i64 r.period))
    (exact HK.out _ (by first | assumption | exact below_drewN (Below.refl _ _) _ | exact Below.drew (below_drewN (Below.refl _ _) _) | exact Below.drew (Below.refl _ _) | exact below_alloc (by assumption) _))
    (first | (go_at_call 111; refine (effects_keep W0 _ (by first | assumption | exact Below.drew (Below.refl _ _) | exact below_drewN (Below.refl _ _) _ | exact Below.drew (below_drewN (Below.refl _ _) _))).mono ?_; rintro e w2 ⟨m, rfl, hfx, hb2⟩))
  go_wp2_with fail
  go_ret2
  have hb3 := below_alloc hb2 (.cells #[.int .i64 c.kind, .int .i64 c.phase, .int .i64 c.rate, .int .i64 c.drift, .int .i64 c.white, .int .i64 c.walk, .int .i64 c.heat, .int .i64 (i : Int), .slice pv c.evs.length capv, .int .u64 W.seed, .int .i64 (j : Int), .int .i64 r.base, .int .i64 r.swing, .int .i64 r.period, .map (some m)] 162)
  have hm : m < w2.heap.size := heap_lt hfx
  have hroom := HRO.out
  refine ⟨w2.heap.size, m, .slice pv c.evs.length capv, rfl, ⟨⟨by simp, by simp, by simp, by simp, by simp, by simp, by simp, by simp [hroom]⟩, by simp, (HV.out.below HBW.out).below hb3, by simp, by simp, ⟨by simp, by simp, by simp⟩, by simp, (Below.heap_alloc _ _ _ hm).trans hfx⟩, ?_, ?_⟩
  · exact B2.out.trans ((HBW.out.trans (hb3.mono HBW.out.size)).mono B2.out.size)
  · have := B2.out.size; have := HBW.out.size; have := hb2.size; omega
theorem find_ok (W : Wld) (k : Int) (l : List Int) (p1 p2 p3 : Option Addr) (k1 k2 k3 : Nat) (w X : World) (hb : Below w.heap.size w X) (ht : Tabs w) (hW : WldIn w W p1 p2) (hs : SecsIn X l p3) (he : findErr W k l = 0) :
    Calls Tryz.prog 90 #[wldVal W p1 p2 k1 k2, .int .i64 k, .slice p3 l.length k3] X (Found W k w.heap.size w) := by
  obtain ⟨h0, h1, h2⟩ := findErr_zero he
  have hA := allowed_of h0 h1
  have hk := inR_true h1
  have hjc : W.cls[k.toNat]'hA.hk = clkOf W k := by have := hA.hc; rw [List.getElem?_eq_getElem hA.hk] at this; exact Option.some.inj this
  have hir : W.chs[(clkOf W k).room.toNat]'hA.hi = roomOf W k := by have := hA.hr; rw [List.getElem?_eq_getElem hA.hi] at this; exact Option.some.inj this
  exact (find_okA W k k.toNat (clkOf W k).room.toNat (clkOf W k) (roomOf W k) l p1 p2 p3 k1 k2 k3 X (ht.below hb) (hW.below hb) hs h0 h1 h2 (by omega) hA.hk hjc hA.hi (by have := hA.room; omega) hir).mono
    fun e w' ⟨a, m, v, h1, h2, h3, h4⟩ => ⟨a, m, v, h1, h2, hb.trans (h3.mono hb.size), Nat.le_trans hb.size h4⟩
theorem find_no (W : Wld) (k : Int) (l : List Int) (p1 p2 p3 : Option Addr) (k1 k2 k3 : Nat) (w X : World) (hb : Below w.heap.size w X) (ht : Tabs w) (hW : WldIn w W p1 p2) (hs : SecsIn X l p3) (he : findErr W k l ≠ 0) :
    Calls Tryz.prog 90 #[wldVal W p1 p2 k1 k2, .int .i64 k, .slice p3 l.length k3] X fun e w' => e = .returned (.tuple #[.pointer none, .int .i64 (findErr W k l)]) ∧ Below w.heap.size w w' :=
  (find_bad W k l p1 p2 p3 k1 k2 k3 X (ht.below hb) (hW.below hb) hs he).mono fun _ _ ⟨a, b⟩ => ⟨a, hb.trans (b.mono hb.size)⟩
theorem secs_nil (X : World) : SecsIn X [] none := ⟨by simp [maxLen], .inl rfl⟩
theorem secs_one {X : World} {b : Nat} {s : Int} (h : X.cell? ⟨b, 0, none⟩ = some (.int .i64 s)) : SecsIn X [s] (some ⟨b, 0, none⟩) :=
  ⟨by simp [maxLen], .inr ⟨b, 0, rfl, fun i hi => by
    obtain rfl : i = 0 := by simp at hi; omega
    exact h⟩⟩
theorem secs_two {X : World} {b : Nat} {s t : Int} (h : X.cell? ⟨b, 0, none⟩ = some (.int .i64 s)) (h' : X.cell? ⟨b, 1, none⟩ = some (.int .i64 t)) : SecsIn X [s, t] (some ⟨b, 0, none⟩) :=
  ⟨by simp [maxLen], .inr ⟨b, 0, rfl, fun i hi => by
    have : i = 0 ∨ i = 1 := by simp at hi; omega
    rcases this with rfl | rfl
    · exact h
    · exact h'⟩⟩
end Go.Proofs.YtlelamjbfjneiaaGreatDoor.Wd
namespace Go.Proofs.YtlelamjbfjneiaaGreatDoor.Wd
open Go Go.RowKit
theorem phase_at {a m : Nat} {c : Clk} {seed k : Int} {r : Cham} {v : Value} (s : Int) (w : World) (h : AtWork w a m c seed k r v) (hc : ClkIn c) (hr : chamOk r = true) (hk : 0 ≤ k ∧ k ≤ 16) (h0 : 0 ≤ s) (h1 : s ≤ 1000000) :
    Calls Tryz.prog 92 #[.pointer (some ⟨a, 0, none⟩), .int .i64 s] w fun e w' => e = .returned (.int .i64 (phaseS seed k c r s)) ∧ Below w.heap.size w w' := by
  have b1 := fixed_bd hc hr s h0 h1
  have b2 := walked_bd seed k c.walk 0 s hc.walk.1 (Int.le_refl 0) h0
  have b3 := stray_bd hc 0 s (Int.le_refl 0) h0 h1
  have b4 : -10000000000000 ≤ walkedS seed k c.walk 0 s ∧ walkedS seed k c.walk 0 s ≤ 10000000000000 := by omega
  clear b2 b3
  have H := Lib.hid h
  have HC := Lib.hid hc
  have HR := Lib.hid hr
  clear h hc hr
  go_enter Tryz.func92, Tryz.ntmps92
  go_wp2_with fail
  refine (fixed_at s _ H.out HC.out HR.out h0 h1).mono ?_
  rintro e w1 ⟨rfl, hb1⟩
  have HB := Lib.hid hb1
  clear hb1
  go_wp2_with fail
  refine (walked_at 0 s _ (H.out.below HB.out) HC.out hk (Int.le_refl 0) h0 h1).mono ?_
  rintro e w2 ⟨rfl, hb2⟩
  have HB2 := Lib.hid hb2
  clear hb2
  go_wp2
  go_ret
  exact ⟨rfl, HB.out.trans (HB2.out.mono HB.out.size)⟩
theorem shown_at {a m : Nat} {c : Clk} {seed k : Int} {r : Cham} {v : Value} (s : Int) (w : World) (h : AtWork w a m c seed k r v) (hc : ClkIn c) (hr : chamOk r = true) (hk : 0 ≤ k ∧ k ≤ 16) (h0 : 0 ≤ s) (h1 : s ≤ 1000000) :
    Calls Tryz.prog 56 #[.pointer (some ⟨a, 0, none⟩), .int .i64 s] w fun e w' => e = .returned (.int .i64 (shownS seed k c r s)) ∧ Below w.heap.size w w' := by
  have b1 := phase_bd seed k hc hr s h0 h1
  have b2 := white_bd seed k hc s
  have b3 := hc.white
  have b4 : -1000000000000 ≤ whiteS seed k c s ∧ whiteS seed k c s ≤ 1000000000000 := by omega
  clear b2 b3
  have H := Lib.hid h
  have HC := Lib.hid hc
  have HR := Lib.hid hr
  clear h hc hr
  go_enter Tryz.func56, Tryz.ntmps56
  go_wp2_with fail
  refine (phase_at s _ H.out HC.out HR.out hk h0 h1).mono ?_
  rintro e w1 ⟨rfl, hb1⟩
  have HB := Lib.hid hb1
  clear hb1
  go_wp2_with fail
  refine (white_at s _ (H.out.below HB.out) HC.out h0 h1 hk).mono ?_
  rintro e w2 ⟨rfl, hb2⟩
  have HB2 := Lib.hid hb2
  clear hb2
  go_wp2
  go_ret
  exact ⟨rfl, HB.out.trans (HB2.out.mono HB.out.size)⟩
def momVal (a b : Int) : Value := .agg #[.int .i64 a, .int .i64 b]
end Go.Proofs.YtlelamjbfjneiaaGreatDoor.Wd
