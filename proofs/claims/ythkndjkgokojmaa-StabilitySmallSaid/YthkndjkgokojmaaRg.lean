/- The walk over the law StabilityVariances. -/
import Derived.Test.YthkndjkgokojmaaRf
import Derived.Test.YthkndjkgokojmaaQc
namespace Go.Proofs.Ythkndjkgokojmaa
open Go Go.RowKit Go.Shelf
def VarRet (V : VarE) (e : Ending) : Prop := e = .returned (.tuple #[.agg #[.int .i64 V.n, .int .i64 V.d], .int .i64 V.e])
theorem oallan_at (tau : Int) (l : List Int) (p : Option Addr) (cap : Nat) (m : Int) (w : World) (hs : SerIn w l p) (V : VarE) (hV : allanE tau l m = V) :
    Calls Try.prog 23 #[.agg #[.int .i64 tau, .slice p l.length cap], .int .i64 m] w fun e w' => e = .returned (.tuple #[.agg #[.int .i64 V.n, .int .i64 V.d], .int .i64 V.e]) ∧ Below w.heap.size w w' := by
  subst hV
  exact allan_any tau l p cap m w hs
theorem rallan_at (tau : Int) (l : List Int) (p : Option Addr) (cap : Nat) (m : Int) (w : World) (hs : SerIn w l p) (V : VarE) (hV : allanE tau l m = V) :
    Calls Try.prog 28 #[.agg #[.int .i64 tau, .slice p l.length cap], .int .i64 m] w fun e w' => e = .returned (.tuple #[.agg #[.int .i64 V.n, .int .i64 V.d], .int .i64 V.e]) ∧ Below w.heap.size w w' := by
  subst hV
  exact rallan_any tau l p cap m w hs
theorem ooverlapping_at (tau : Int) (l : List Int) (p : Option Addr) (cap : Nat) (m : Int) (w : World) (hs : SerIn w l p) (V : VarE) (hV : overlappingE tau l m = V) :
    Calls Try.prog 14 #[.agg #[.int .i64 tau, .slice p l.length cap], .int .i64 m] w fun e w' => e = .returned (.tuple #[.agg #[.int .i64 V.n, .int .i64 V.d], .int .i64 V.e]) ∧ Below w.heap.size w w' := by
  subst hV
  exact overlapping_any tau l p cap m w hs
theorem omodified_at (tau : Int) (l : List Int) (p : Option Addr) (cap : Nat) (m : Int) (w : World) (hs : SerIn w l p) (V : VarE) (hV : modifiedE tau l m = V) :
    Calls Try.prog 30 #[.agg #[.int .i64 tau, .slice p l.length cap], .int .i64 m] w fun e w' => e = .returned (.tuple #[.agg #[.int .i64 V.n, .int .i64 V.d], .int .i64 V.e]) ∧ Below w.heap.size w w' := by
  subst hV
  exact modified_any tau l p cap m w hs
theorem rmodified_at (tau : Int) (l : List Int) (p : Option Addr) (cap : Nat) (m : Int) (w : World) (hs : SerIn w l p) (V : VarE) (hV : modifiedE tau l m = V) :
    Calls Try.prog 31 #[.agg #[.int .i64 tau, .slice p l.length cap], .int .i64 m] w fun e w' => e = .returned (.tuple #[.agg #[.int .i64 V.n, .int .i64 V.d], .int .i64 V.e]) ∧ Below w.heap.size w w' := by
  subst hV
  exact rmodified_any tau l p cap m w hs
theorem ohadamard_at (tau : Int) (l : List Int) (p : Option Addr) (cap : Nat) (m : Int) (w : World) (hs : SerIn w l p) (V : VarE) (hV : hadamardE tau l m = V) :
    Calls Try.prog 32 #[.agg #[.int .i64 tau, .slice p l.length cap], .int .i64 m] w fun e w' => e = .returned (.tuple #[.agg #[.int .i64 V.n, .int .i64 V.d], .int .i64 V.e]) ∧ Below w.heap.size w w' := by
  subst hV
  exact hadamard_any tau l p cap m w hs
theorem rhadamard_at (tau : Int) (l : List Int) (p : Option Addr) (cap : Nat) (m : Int) (w : World) (hs : SerIn w l p) (V : VarE) (hV : hadamardE tau l m = V) :
    Calls Try.prog 33 #[.agg #[.int .i64 tau, .slice p l.length cap], .int .i64 m] w fun e w' => e = .returned (.tuple #[.agg #[.int .i64 V.n, .int .i64 V.d], .int .i64 V.e]) ∧ Below w.heap.size w w' := by
  subst hV
  exact rhadamard_any tau l p cap m w hs
theorem otime_at (tau : Int) (l : List Int) (p : Option Addr) (cap : Nat) (m : Int) (w : World) (hs : SerIn w l p) (V : VarE) (hV : timeE tau l m = V) :
    Calls Try.prog 34 #[.agg #[.int .i64 tau, .slice p l.length cap], .int .i64 m] w fun e w' => e = .returned (.tuple #[.agg #[.int .i64 V.n, .int .i64 V.d], .int .i64 V.e]) ∧ Below w.heap.size w w' := by
  subst hV
  exact time_any tau l p cap m w hs
theorem rtime_at (tau : Int) (l : List Int) (p : Option Addr) (cap : Nat) (m : Int) (w : World) (hs : SerIn w l p) (V : VarE) (hV : timeE tau l m = V) :
    Calls Try.prog 35 #[.agg #[.int .i64 tau, .slice p l.length cap], .int .i64 m] w fun e w' => e = .returned (.tuple #[.agg #[.int .i64 V.n, .int .i64 V.d], .int .i64 V.e]) ∧ Below w.heap.size w w' := by
  subst hV
  exact rtime_any tau l p cap m w hs
theorem clone_keep (X : World) (l : List Int) (p : Option Addr) (cap : Nat) (W : World) (hX : Below X.heap.size X W) (hs : SliceIn p l.length (IntsAt X l)) (hl : l.length ≤ 1000000) :
    Calls Try.prog 17 #[.slice p l.length cap] W fun e w' => ∃ p' c', e = .returned (.slice p' l.length c') ∧ SliceIn p' l.length (IntsAt w' l) ∧ (∀ k o, p' = some ⟨k, o, none⟩ → X.heap.size ≤ k) ∧ Below X.heap.size X w' ∧ Below W.heap.size W w' ∧ l.length ≤ c' :=
  (clone_all l p cap W (hs.imp fun _ _ h => h.below hX) hl).mono fun _ _ ⟨a, b, h1, h2, h3, h4, h5⟩ => ⟨a, b, h1, h2, fun k o e => Nat.le_trans hX.size (h3 k o e), hX.trans (h4.mono hX.size), h4, h5⟩
theorem keepFar {W : World} {b b1 o o' : Nat} {u u' v v' : Value} (hne : b1 ≠ b) (h : W.cell? ⟨b, o, none⟩ = some u ∧ W.cell? ⟨b, o', none⟩ = some u') :
    ((W.setCell ⟨b1, 0, none⟩ v).setCell ⟨b1, 1, none⟩ v').cell? ⟨b, o, none⟩ = some u ∧ ((W.setCell ⟨b1, 0, none⟩ v).setCell ⟨b1, 1, none⟩ v').cell? ⟨b, o', none⟩ = some u' :=
  ⟨by rw [World.cell?_setCell_far _ _ _ _ hne, World.cell?_setCell_far _ _ _ _ hne]; exact h.1, by rw [World.cell?_setCell_far _ _ _ _ hne, World.cell?_setCell_far _ _ _ _ hne]; exact h.2⟩
/-- two boxes that are written anew -/
theorem boxes4 {W : World} {b1 b2 : Nat} {x0 x1 y0 y1 : Value} (hne : b1 ≠ b2) (u v u' v' : Value) (h0 : W.cell? ⟨b1, 0, none⟩ = some x0) (h1 : W.cell? ⟨b1, 1, none⟩ = some x1) (g0 : W.cell? ⟨b2, 0, none⟩ = some y0) (g1 : W.cell? ⟨b2, 1, none⟩ = some y1) :
    ((((W.setCell ⟨b1, 0, none⟩ u).setCell ⟨b1, 1, none⟩ v).setCell ⟨b2, 0, none⟩ u').setCell ⟨b2, 1, none⟩ v').cell? ⟨b1, 0, none⟩ = some u ∧ ((((W.setCell ⟨b1, 0, none⟩ u).setCell ⟨b1, 1, none⟩ v).setCell ⟨b2, 0, none⟩ u').setCell ⟨b2, 1, none⟩ v').cell? ⟨b1, 1, none⟩ = some v ∧
    ((((W.setCell ⟨b1, 0, none⟩ u).setCell ⟨b1, 1, none⟩ v).setCell ⟨b2, 0, none⟩ u').setCell ⟨b2, 1, none⟩ v').cell? ⟨b2, 0, none⟩ = some u' ∧ ((((W.setCell ⟨b1, 0, none⟩ u).setCell ⟨b1, 1, none⟩ v).setCell ⟨b2, 0, none⟩ u').setCell ⟨b2, 1, none⟩ v').cell? ⟨b2, 1, none⟩ = some v' := by
  have hne' := hne.symm
  obtain ⟨e0, e1⟩ := set2 u v h0 h1
  have k0 : ((W.setCell ⟨b1, 0, none⟩ u).setCell ⟨b1, 1, none⟩ v).cell? ⟨b2, 0, none⟩ = some y0 := by rw [World.cell?_setCell_far _ _ _ _ hne, World.cell?_setCell_far _ _ _ _ hne]; exact g0
  have k1 : ((W.setCell ⟨b1, 0, none⟩ u).setCell ⟨b1, 1, none⟩ v).cell? ⟨b2, 1, none⟩ = some y1 := by rw [World.cell?_setCell_far _ _ _ _ hne, World.cell?_setCell_far _ _ _ _ hne]; exact g1
  obtain ⟨f0, f1⟩ := set2 u' v' k0 k1
  exact ⟨by rw [World.cell?_setCell_far _ _ _ _ hne', World.cell?_setCell_far _ _ _ _ hne']; exact e0, by rw [World.cell?_setCell_far _ _ _ _ hne', World.cell?_setCell_far _ _ _ _ hne']; exact e1, f0, f1⟩
theorem SliceIn.set4 {W : World} {l : List Int} {p : Option Addr} {b1 b2 o1 o2 o3 o4 : Nat} {u v u' v' : Value} (h : SliceIn p l.length (IntsAt W l)) (h1 : ∀ k o, p = some ⟨k, o, none⟩ → b1 < k) (h2 : ∀ k o, p = some ⟨k, o, none⟩ → b2 < k) :
    SliceIn p l.length (IntsAt ((((W.setCell ⟨b1, o1, none⟩ u).setCell ⟨b1, o2, none⟩ v).setCell ⟨b2, o3, none⟩ u').setCell ⟨b2, o4, none⟩ v') l) := (((h.set h1).set h1).set h2).set h2
theorem below_set4 {w W : World} {b1 b2 o1 o2 o3 o4 : Nat} {u v u' v' : Value} (h : Below w.heap.size w W) (h1 : w.heap.size ≤ b1) (h2 : w.heap.size ≤ b2) : Below w.heap.size w ((((W.setCell ⟨b1, o1, none⟩ u).setCell ⟨b1, o2, none⟩ v).setCell ⟨b2, o3, none⟩ u').setCell ⟨b2, o4, none⟩ v') :=
  (((h.setCell (p := ⟨b1, o1, none⟩) h1 _).setCell (p := ⟨b1, o2, none⟩) h1 _).setCell (p := ⟨b2, o3, none⟩) h2 _).setCell (p := ⟨b2, o4, none⟩) h2 _
/-- the two boxes of series' answers -/
structure SerBox (w X : World) : Prop where
  a0 : X.cell? ⟨w.heap.size + 1, 0, none⟩ = some (.int .i64 0)
  a1 : X.cell? ⟨w.heap.size + 1, 1, none⟩ = some (.slice none 0 0)
  a2 : X.frozen? ⟨w.heap.size + 1, 0, none⟩ = false
  a3 : X.frozen? ⟨w.heap.size + 1, 1, none⟩ = false
  b0 : X.cell? ⟨w.heap.size + 1 + 1, 0, none⟩ = some (.int .i64 0)
  b1 : X.cell? ⟨w.heap.size + 1 + 1, 1, none⟩ = some (.slice none 0 0)
  b2 : X.frozen? ⟨w.heap.size + 1 + 1, 0, none⟩ = false
  b3 : X.frozen? ⟨w.heap.size + 1 + 1, 1, none⟩ = false
theorem SerBox.below {w X Y : World} (h : SerBox w X) (hb : Below X.heap.size X Y) : SerBox w Y :=
  ⟨cell_below hb h.a0, cell_below hb h.a1, (hb.frozen (p := ⟨w.heap.size + 1, 0, none⟩) (cell_lt h.a0)).trans h.a2, (hb.frozen (p := ⟨w.heap.size + 1, 1, none⟩) (cell_lt h.a1)).trans h.a3,
   cell_below hb h.b0, cell_below hb h.b1, (hb.frozen (p := ⟨w.heap.size + 1 + 1, 0, none⟩) (cell_lt h.b0)).trans h.b2, (hb.frozen (p := ⟨w.heap.size + 1 + 1, 1, none⟩) (cell_lt h.b1)).trans h.b3⟩
theorem SerBox.start (w : World) (tau : Int) (sv : Value) (t t' : TypeId) : SerBox w (((w.alloc (.cells #[.int .i64 tau, sv] t)).alloc (.cells #[.int .i64 0, .slice none 0 0] t)).alloc (.cells #[.int .i64 0, .slice none 0 0] t')) :=
  ⟨by simp [go_sem], by simp [go_sem], by simp [go_sem], by simp [go_sem], by simp [go_sem], by simp [go_sem], by simp [go_sem], by simp [go_sem]⟩
set_option maxRecDepth 100000 in
set_option maxHeartbeats 4000000 in
theorem series_cap (tau : Int) (l : List Int) (p : Option Addr) (cap : Nat) (w : World) (hs : SliceIn p l.length (IntsAt w l)) (hl : l.length ≤ 1000000) :
    Calls Try.prog 25 #[.agg #[.int .i64 tau, .slice p l.length cap]] w fun e w' => ∃ p1 c1 p2 c2, e = .returned (.tuple #[.agg #[.int .i64 tau, .slice p1 l.length c1], .agg #[.int .i64 tau, .slice p2 l.length c2]]) ∧
      SliceIn p1 l.length (IntsAt w' l) ∧ SliceIn p2 l.length (IntsAt w' l) ∧ Below w.heap.size w w' ∧ l.length ≤ c1 := by
  have a0 : Below w.heap.size w (((w.alloc (.cells #[.int .i64 tau, .slice p l.length cap] 28)).alloc (.cells #[.int .i64 0, .slice none 0 0] 28)).alloc (.cells #[.int .i64 0, .slice none 0 0] 63)) := below_alloc (below_alloc (below_alloc (Below.refl _ _) _) _) _
  have HS := Lib.hid (hs.imp fun _ _ h => h.below a0)
  have A0 := Lib.hid a0
  have HRB := Lib.hid (SerBox.start w tau (.slice p l.length cap) 28 63)
  have c0 : ((((w.alloc (.cells #[.int .i64 tau, .slice p l.length cap] 28)).alloc (.cells #[.int .i64 0, .slice none 0 0] 28)).alloc (.cells #[.int .i64 0, .slice none 0 0] 63))).cell? ⟨w.heap.size, 0, none⟩ = some (.int .i64 tau) := by simp [go_sem]
  have c1 : ((((w.alloc (.cells #[.int .i64 tau, .slice p l.length cap] 28)).alloc (.cells #[.int .i64 0, .slice none 0 0] 28)).alloc (.cells #[.int .i64 0, .slice none 0 0] 63))).cell? ⟨w.heap.size, 1, none⟩ = some (.slice p l.length cap) := by simp [go_sem]
  have hsz : ((((w.alloc (.cells #[.int .i64 tau, .slice p l.length cap] 28)).alloc (.cells #[.int .i64 0, .slice none 0 0] 28)).alloc (.cells #[.int .i64 0, .slice none 0 0] 63))).heap.size = w.heap.size + 1 + 1 + 1 := by simp
  clear hs a0
  go_enter Try.func25, Try.ntmps25
  go_wp2
  generalize (((w.alloc (.cells #[.int .i64 tau, .slice p l.length cap] 28)).alloc (.cells #[.int .i64 0, .slice none 0 0] 28)).alloc (.cells #[.int .i64 0, .slice none 0 0] 63)) = X1 at *
  have HSZ := Lib.hid hsz
  clear hsz
  have hB0 : Below X1.heap.size X1 X1.drew := Below.drew (Below.refl _ _)
  go_region_held3 (fun w' => w'.cell? ⟨w.heap.size, 0, none⟩ = some (.int .i64 tau) ∧ w'.cell? ⟨w.heap.size, 1, none⟩ = some (.slice p l.length cap))
    (first | exact ⟨c0, c1⟩ | exact ⟨cell_below hbB c0, cell_below hbB c1⟩ | exact ⟨cell_below hbA c0, cell_below hbA c1⟩ | exact ⟨hk0, hk1⟩ | exact keepFar (by omega) ⟨cell_below hbB c0, cell_below hbB c1⟩ | exact keepFar (by omega) (keepFar (by omega) ⟨cell_below hbB c0, cell_below hbB c1⟩))
    (first | (go_at_call 17; refine (clone_keep X1 l p cap _ hbA HS.out hl).mono ?_; rintro e wB ⟨pB, cB, rfl, hsB, hkB, hbB, hb2, hcB⟩; have hsA2 := hsA.imp (fun _ _ h => h.below hb2); obtain ⟨z0, z1, z2, z3, z4, z5, z6, z7⟩ := HRB.out.below hbB; have hzz := cell_lt z0; have hzz2 := cell_lt z4) |
      (go_at_call 17; refine (clone_keep X1 l p cap _ hB0 HS.out hl).mono ?_; rintro e wA ⟨pA, cA, rfl, hsA, hkA, hbA, hb1, hcA⟩))
  all_goals
    have hB1 : w.heap.size ≤ w.heap.size + 1 := by omega
    have hB2 : w.heap.size ≤ w.heap.size + 1 + 1 := by omega
    have hX := HSZ.out
    have HBW := Lib.hid (A0.out.trans (hbB.mono A0.out.size))
    have hA1 : ∀ k o, pA = some ⟨k, o, none⟩ → w.heap.size + 1 < k := fun k o e => by have := hkA k o e; omega
    have hA2 : ∀ k o, pA = some ⟨k, o, none⟩ → w.heap.size + 1 + 1 < k := fun k o e => by have := hkA k o e; omega
    have hBB1 : ∀ k o, pB = some ⟨k, o, none⟩ → w.heap.size + 1 < k := fun k o e => by have := hkB k o e; omega
    have hBB2 : ∀ k o, pB = some ⟨k, o, none⟩ → w.heap.size + 1 + 1 < k := fun k o e => by have := hkB k o e; omega
    have hne : w.heap.size + 1 ≠ w.heap.size + 1 + 1 := by omega
    clear hX
  all_goals
    go_wp2
    first
      | (obtain ⟨r0, r1, r2, r3⟩ := boxes4 hne (.int .i64 tau) (.slice pA l.length cA) (.int .i64 tau) (.slice pB l.length cB) z0 z1 z4 z5; exact bodyPost_ret (v := .tuple #[.agg #[.int .i64 tau, .slice pA l.length cA], .agg #[.int .i64 tau, .slice pB l.length cB]]) (by simp [results, Try.results25, go_sem, r0, r1, r2, r3]) rfl ⟨pA, cA, pB, cB, rfl, SliceIn.set4 hsA2 hA1 hA2, SliceIn.set4 hsB hBB1 hBB2, below_set4 HBW.out hB1 hB2, hcA⟩)
      | (obtain ⟨r2, r3, r0, r1⟩ := boxes4 hne.symm (.int .i64 tau) (.slice pB l.length cB) (.int .i64 tau) (.slice pA l.length cA) z4 z5 z0 z1; exact bodyPost_ret (v := .tuple #[.agg #[.int .i64 tau, .slice pA l.length cA], .agg #[.int .i64 tau, .slice pB l.length cB]]) (by simp [results, Try.results25, go_sem, r0, r1, r2, r3]) rfl ⟨pA, cA, pB, cB, rfl, SliceIn.set4 hsA2 hA2 hA1, SliceIn.set4 hsB hBB2 hBB1, below_set4 HBW.out hB2 hB1, hcA⟩)
      | (obtain ⟨r0, r1, r2, r3⟩ := boxes4 hne (.int .i64 tau) (.slice pB l.length cB) (.int .i64 tau) (.slice pA l.length cA) z0 z1 z4 z5; exact bodyPost_ret (v := .tuple #[.agg #[.int .i64 tau, .slice pB l.length cB], .agg #[.int .i64 tau, .slice pA l.length cA]]) (by simp [results, Try.results25, go_sem, r0, r1, r2, r3]) rfl ⟨pB, cB, pA, cA, rfl, SliceIn.set4 hsB hBB1 hBB2, SliceIn.set4 hsA2 hA1 hA2, below_set4 HBW.out hB1 hB2, hcB⟩)
      | (obtain ⟨r2, r3, r0, r1⟩ := boxes4 hne.symm (.int .i64 tau) (.slice pA l.length cA) (.int .i64 tau) (.slice pB l.length cB) z4 z5 z0 z1; exact bodyPost_ret (v := .tuple #[.agg #[.int .i64 tau, .slice pB l.length cB], .agg #[.int .i64 tau, .slice pA l.length cA]]) (by simp [results, Try.results25, go_sem, r0, r1, r2, r3]) rfl ⟨pB, cB, pA, cA, rfl, SliceIn.set4 hsB hBB2 hBB1, SliceIn.set4 hsA2 hA2 hA1, below_set4 HBW.out hB2 hB1⟩)
theorem series_any (tau : Int) (l : List Int) (p : Option Addr) (cap : Nat) (w : World) (hs : SliceIn p l.length (IntsAt w l)) (hl : l.length ≤ 1000000) :
    Calls Try.prog 25 #[.agg #[.int .i64 tau, .slice p l.length cap]] w fun e w' => ∃ p1 c1 p2 c2, e = .returned (.tuple #[.agg #[.int .i64 tau, .slice p1 l.length c1], .agg #[.int .i64 tau, .slice p2 l.length c2]]) ∧
      SliceIn p1 l.length (IntsAt w' l) ∧ SliceIn p2 l.length (IntsAt w' l) ∧ Below w.heap.size w w' :=
  (series_cap tau l p cap w hs hl).mono fun _ _ ⟨p1, c1, p2, c2, h1, h2, h3, h4, _⟩ => ⟨p1, c1, p2, c2, h1, h2, h3, h4⟩
end Go.Proofs.Ythkndjkgokojmaa
