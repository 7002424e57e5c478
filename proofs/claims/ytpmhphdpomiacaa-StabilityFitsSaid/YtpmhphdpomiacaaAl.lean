/- The four variances of a series, as the laws ask for them. -/
import Derived.Test.YtpmhphdpomiacaaQb
namespace Go.Proofs.Ytpmhphdpomiacaa
open Go Go.RowKit Go.Shelf
/-- numbers that lie in a box that may be written -/
def IntBox (X : World) (b : Nat) (l : List Int) : Prop := ∀ i (h : i < l.length), X.cell? ⟨b, i, none⟩ = some (.int .i64 l[i]) ∧ X.frozen? ⟨b, i, none⟩ = false
theorem IntBox.below {X Y : World} {b : Nat} {l : List Int} (h : IntBox X b l) (hb : Below X.heap.size X Y) : IntBox Y b l := fun i hi =>
  ⟨cell_below hb (h i hi).1, (hb.frozen (p := ⟨b, i, none⟩) (cell_lt (h i hi).1)).trans (h i hi).2⟩
theorem IntBox.far {X : World} {b b' o : Nat} {l : List Int} {v : Value} (h : IntBox X b l) (hne : b' ≠ b) : IntBox (X.setCell ⟨b', o, none⟩ v) b l := fun i hi =>
  ⟨by rw [World.cell?_setCell_far _ _ _ _ hne]; exact (h i hi).1, by rw [World.frozen?_setCell]; exact (h i hi).2⟩
theorem IntBox.set {X : World} {b : Nat} {l : List Int} (h : IntBox X b l) (j : Nat) (v : Int) (hj : j < l.length) : IntBox (X.setCell ⟨b, j, none⟩ (.int .i64 v)) b (l.set j v) := fun i hi => by
  have hi' : i < l.length := by simpa using hi
  refine ⟨?_, by rw [World.frozen?_setCell]; exact (h i hi').2⟩
  by_cases e : j = i
  · subst e
    rw [List.getElem_set_self]
    exact World.cell?_setCell_same _ _ _ (h j hj).1
  · rw [List.getElem_set_ne e, World.cell?_setCell_other X ⟨b, j, none⟩ ⟨b, i, none⟩ _ (fun e' => e (by cases e'; rfl))]
    exact (h i hi').1
theorem IntBox.new (X : World) (l : List Int) (t : TypeId) : IntBox (X.alloc (.cells (l.map (Value.int .i64)).toArray t)) X.heap.size l := fun i hi => ⟨by simp [hi], by simp⟩
theorem SerIn.far {w X : World} {l : List Int} {p : Option Addr} (h0 : SerIn w l p) (h : SerIn X l p) {b' o : Nat} {v : Value} (hb : w.heap.size ≤ b') : SerIn (X.setCell ⟨b', o, none⟩ v) l p := by
  refine ⟨h.1, ?_⟩
  rcases h.2 with h2 | ⟨k, q, hp, hi⟩
  · exact .inl h2
  · rcases h0.2 with h2 | ⟨k', q', hp', hi'⟩
    · exact .inl h2
    · rw [hp] at hp'
      cases hp'
      refine .inr ⟨k, q, hp, fun i hl => ?_⟩
      have := cell_lt (hi' i hl)
      rw [World.cell?_setCell_far _ _ _ _ (by show b' ≠ k; omega)]
      exact hi i hl
/-- a series in a box, as it is read -/
def SAt (X : World) (b : Nat) (tau : Int) (v : Value) : Prop := X.cell? ⟨b, 0, none⟩ = some (.int .i64 tau) ∧ X.cell? ⟨b, 1, none⟩ = some v
theorem SAt.below {X Y : World} {b : Nat} {tau : Int} {v : Value} (h : SAt X b tau v) (hb : Below X.heap.size X Y) : SAt Y b tau v := ⟨cell_below hb h.1, cell_below hb h.2⟩
structure FourV where
  a : VarE
  b : VarE
  c : VarE
  d : VarE
def allE (tau : Int) (l : List Int) (m : Int) : FourV := ⟨allanE tau l m, overlappingE tau l m, modifiedE tau l m, hadamardE tau l m⟩
def fourVal (v : FourV) : Value := .tuple #[.agg #[.int .i64 v.a.n, .int .i64 v.a.d, .int .i64 v.b.n, .int .i64 v.b.d, .int .i64 v.c.n, .int .i64 v.c.d, .int .i64 v.d.n, .int .i64 v.d.d], .agg #[.int .i64 v.a.e, .int .i64 v.b.e, .int .i64 v.c.e, .int .i64 v.d.e]]
set_option maxRecDepth 100000 in
set_option maxHeartbeats 4000000 in
theorem all_any (tau : Int) (l : List Int) (p : Option Addr) (cap : Nat) (m : Int) (w : World) (hs : SerIn w l p) :
    Calls Try.prog 20 #[.agg #[.int .i64 tau, .slice p l.length cap], .int .i64 m] w fun e w' => e = .returned (fourVal (allE tau l m)) ∧ Below w.heap.size w w' := by
  have a0 : Below w.heap.size w (((((w.alloc (.cells #[.int .i64 tau, .slice p l.length cap] 24)).alloc (.cells #[.int .i64 0, .int .i64 0, .int .i64 0, .int .i64 0, .int .i64 0, .int .i64 0, .int .i64 0, .int .i64 0] 39)).alloc (.cells #[.int .i64 0, .int .i64 0, .int .i64 0, .int .i64 0] 41)).alloc (.cells #[.int .i64 0, .int .i64 0, .int .i64 0, .int .i64 0, .int .i64 0, .int .i64 0, .int .i64 0, .int .i64 0] 39)).alloc (.cells #[.int .i64 0, .int .i64 0, .int .i64 0, .int .i64 0] 41)) := below_alloc (below_alloc (below_alloc (below_alloc (below_alloc (Below.refl _ _) _) _) _) _) _
  have HS00 := Lib.hid hs
  have HS := Lib.hid (hs.below a0)
  have B0 := Lib.hid a0
  have HX : Hid (SAt (((((w.alloc (.cells #[.int .i64 tau, .slice p l.length cap] 24)).alloc (.cells #[.int .i64 0, .int .i64 0, .int .i64 0, .int .i64 0, .int .i64 0, .int .i64 0, .int .i64 0, .int .i64 0] 39)).alloc (.cells #[.int .i64 0, .int .i64 0, .int .i64 0, .int .i64 0] 41)).alloc (.cells #[.int .i64 0, .int .i64 0, .int .i64 0, .int .i64 0, .int .i64 0, .int .i64 0, .int .i64 0, .int .i64 0] 39)).alloc (.cells #[.int .i64 0, .int .i64 0, .int .i64 0, .int .i64 0] 41)) (w.heap.size) tau (.slice p l.length cap)) := Lib.hid ⟨by simp [go_sem], by simp [go_sem]⟩
  clear hs a0
  have H1 : Hid (IntBox (((((w.alloc (.cells #[.int .i64 tau, .slice p l.length cap] 24)).alloc (.cells #[.int .i64 0, .int .i64 0, .int .i64 0, .int .i64 0, .int .i64 0, .int .i64 0, .int .i64 0, .int .i64 0] 39)).alloc (.cells #[.int .i64 0, .int .i64 0, .int .i64 0, .int .i64 0] 41)).alloc (.cells #[.int .i64 0, .int .i64 0, .int .i64 0, .int .i64 0, .int .i64 0, .int .i64 0, .int .i64 0, .int .i64 0] 39)).alloc (.cells #[.int .i64 0, .int .i64 0, .int .i64 0, .int .i64 0] 41)) (w.heap.size + 1) [0, 0, 0, 0, 0, 0, 0, 0]) := Lib.hid (by
    have h := IntBox.new (w.alloc (.cells #[.int .i64 tau, .slice p l.length cap] 24)) [0, 0, 0, 0, 0, 0, 0, 0] 39
    rw [show (w.alloc (.cells #[.int .i64 tau, .slice p l.length cap] 24)).heap.size = w.heap.size + 1 by simp] at h
    exact (((h.below (below_alloc (Below.refl _ _) _)).below (below_alloc (Below.refl _ _) _)).below (below_alloc (Below.refl _ _) _)))
  have H2 : Hid (IntBox (((((w.alloc (.cells #[.int .i64 tau, .slice p l.length cap] 24)).alloc (.cells #[.int .i64 0, .int .i64 0, .int .i64 0, .int .i64 0, .int .i64 0, .int .i64 0, .int .i64 0, .int .i64 0] 39)).alloc (.cells #[.int .i64 0, .int .i64 0, .int .i64 0, .int .i64 0] 41)).alloc (.cells #[.int .i64 0, .int .i64 0, .int .i64 0, .int .i64 0, .int .i64 0, .int .i64 0, .int .i64 0, .int .i64 0] 39)).alloc (.cells #[.int .i64 0, .int .i64 0, .int .i64 0, .int .i64 0] 41)) (w.heap.size + 1 + 1) [0, 0, 0, 0]) := Lib.hid (by
    have h := IntBox.new ((w.alloc (.cells #[.int .i64 tau, .slice p l.length cap] 24)).alloc (.cells #[.int .i64 0, .int .i64 0, .int .i64 0, .int .i64 0, .int .i64 0, .int .i64 0, .int .i64 0, .int .i64 0] 39)) [0, 0, 0, 0] 41
    rw [show ((w.alloc (.cells #[.int .i64 tau, .slice p l.length cap] 24)).alloc (.cells #[.int .i64 0, .int .i64 0, .int .i64 0, .int .i64 0, .int .i64 0, .int .i64 0, .int .i64 0, .int .i64 0] 39)).heap.size = w.heap.size + 1 + 1 by simp] at h
    exact ((h.below (below_alloc (Below.refl _ _) _)).below (below_alloc (Below.refl _ _) _)))
  have H3 : Hid (IntBox (((((w.alloc (.cells #[.int .i64 tau, .slice p l.length cap] 24)).alloc (.cells #[.int .i64 0, .int .i64 0, .int .i64 0, .int .i64 0, .int .i64 0, .int .i64 0, .int .i64 0, .int .i64 0] 39)).alloc (.cells #[.int .i64 0, .int .i64 0, .int .i64 0, .int .i64 0] 41)).alloc (.cells #[.int .i64 0, .int .i64 0, .int .i64 0, .int .i64 0, .int .i64 0, .int .i64 0, .int .i64 0, .int .i64 0] 39)).alloc (.cells #[.int .i64 0, .int .i64 0, .int .i64 0, .int .i64 0] 41)) (w.heap.size + 1 + 1 + 1) [0, 0, 0, 0, 0, 0, 0, 0]) := Lib.hid (by
    have h := IntBox.new (((w.alloc (.cells #[.int .i64 tau, .slice p l.length cap] 24)).alloc (.cells #[.int .i64 0, .int .i64 0, .int .i64 0, .int .i64 0, .int .i64 0, .int .i64 0, .int .i64 0, .int .i64 0] 39)).alloc (.cells #[.int .i64 0, .int .i64 0, .int .i64 0, .int .i64 0] 41)) [0, 0, 0, 0, 0, 0, 0, 0] 39
    rw [show (((w.alloc (.cells #[.int .i64 tau, .slice p l.length cap] 24)).alloc (.cells #[.int .i64 0, .int .i64 0, .int .i64 0, .int .i64 0, .int .i64 0, .int .i64 0, .int .i64 0, .int .i64 0] 39)).alloc (.cells #[.int .i64 0, .int .i64 0, .int .i64 0, .int .i64 0] 41)).heap.size = w.heap.size + 1 + 1 + 1 by simp] at h
    exact (h.below (below_alloc (Below.refl _ _) _)))
  have H4 : Hid (IntBox (((((w.alloc (.cells #[.int .i64 tau, .slice p l.length cap] 24)).alloc (.cells #[.int .i64 0, .int .i64 0, .int .i64 0, .int .i64 0, .int .i64 0, .int .i64 0, .int .i64 0, .int .i64 0] 39)).alloc (.cells #[.int .i64 0, .int .i64 0, .int .i64 0, .int .i64 0] 41)).alloc (.cells #[.int .i64 0, .int .i64 0, .int .i64 0, .int .i64 0, .int .i64 0, .int .i64 0, .int .i64 0, .int .i64 0] 39)).alloc (.cells #[.int .i64 0, .int .i64 0, .int .i64 0, .int .i64 0] 41)) (w.heap.size + 1 + 1 + 1 + 1) [0, 0, 0, 0]) := Lib.hid (by
    have h := IntBox.new ((((w.alloc (.cells #[.int .i64 tau, .slice p l.length cap] 24)).alloc (.cells #[.int .i64 0, .int .i64 0, .int .i64 0, .int .i64 0, .int .i64 0, .int .i64 0, .int .i64 0, .int .i64 0] 39)).alloc (.cells #[.int .i64 0, .int .i64 0, .int .i64 0, .int .i64 0] 41)).alloc (.cells #[.int .i64 0, .int .i64 0, .int .i64 0, .int .i64 0, .int .i64 0, .int .i64 0, .int .i64 0, .int .i64 0] 39)) [0, 0, 0, 0] 41
    rw [show ((((w.alloc (.cells #[.int .i64 tau, .slice p l.length cap] 24)).alloc (.cells #[.int .i64 0, .int .i64 0, .int .i64 0, .int .i64 0, .int .i64 0, .int .i64 0, .int .i64 0, .int .i64 0] 39)).alloc (.cells #[.int .i64 0, .int .i64 0, .int .i64 0, .int .i64 0] 41)).alloc (.cells #[.int .i64 0, .int .i64 0, .int .i64 0, .int .i64 0, .int .i64 0, .int .i64 0, .int .i64 0, .int .i64 0] 39)).heap.size = w.heap.size + 1 + 1 + 1 + 1 by simp] at h
    exact h)
  have HV : allE tau l m = ⟨allanE tau l m, overlappingE tau l m, modifiedE tau l m, hadamardE tau l m⟩ := rfl
  have HVV := Lib.hid HV
  clear HV
  go_enter Try.func20, Try.ntmps20
  go_wp2_with fail
  generalize (((((w.alloc (.cells #[.int .i64 tau, .slice p l.length cap] 24)).alloc (.cells #[.int .i64 0, .int .i64 0, .int .i64 0, .int .i64 0, .int .i64 0, .int .i64 0, .int .i64 0, .int .i64 0] 39)).alloc (.cells #[.int .i64 0, .int .i64 0, .int .i64 0, .int .i64 0] 41)).alloc (.cells #[.int .i64 0, .int .i64 0, .int .i64 0, .int .i64 0, .int .i64 0, .int .i64 0, .int .i64 0, .int .i64 0] 39)).alloc (.cells #[.int .i64 0, .int .i64 0, .int .i64 0, .int .i64 0] 41)) = X0 at *
  refine (allan_named tau l p cap m _ HS.out).mono ?_
  rintro e y0 ⟨n0, d0, e0, rfl, HE0, hb⟩
  have K1 := Lib.hid (H1.out.below hb)
  have K2 := Lib.hid (H2.out.below hb)
  have K3 := Lib.hid (H3.out.below hb)
  have K4 := Lib.hid (H4.out.below hb)
  have KX := Lib.hid (HX.out.below hb)
  have KS := Lib.hid (HS.out.below hb)
  have KB := Lib.hid (B0.out.trans (hb.mono B0.out.size))
  clear hb H1 H2 H3 H4 HX HS B0
  obtain ⟨p0, q0⟩ := K3.out 0 (by simp)
  obtain ⟨p1, q1⟩ := K3.out 1 (by simp)
  obtain ⟨p2, q2⟩ := K4.out 0 (by simp)
  simp only [List.getElem_cons_zero, List.getElem_cons_succ] at p0 p1 p2
  have z1 := cell_lt p0
  have z2 := cell_lt p2
  go_upto_region 4 with fail
  have L1_1 : Hid (IntBox (((y0.setCell ⟨w.heap.size + 1 + 1 + 1, 0, none⟩ (.int .i64 n0)).setCell ⟨w.heap.size + 1 + 1 + 1, 1, none⟩ (.int .i64 d0)).setCell ⟨w.heap.size + 1 + 1 + 1 + 1, 0, none⟩ (.int .i64 e0)) (w.heap.size + 1) [0, 0, 0, 0, 0, 0, 0, 0]) := Lib.hid (((K1.out.far (by omega)).far (by omega)).far (by omega))
  have L2_1 : Hid (IntBox (((y0.setCell ⟨w.heap.size + 1 + 1 + 1, 0, none⟩ (.int .i64 n0)).setCell ⟨w.heap.size + 1 + 1 + 1, 1, none⟩ (.int .i64 d0)).setCell ⟨w.heap.size + 1 + 1 + 1 + 1, 0, none⟩ (.int .i64 e0)) (w.heap.size + 1 + 1) [0, 0, 0, 0]) := Lib.hid (((K2.out.far (by omega)).far (by omega)).far (by omega))
  have L3_1 : Hid (IntBox (((y0.setCell ⟨w.heap.size + 1 + 1 + 1, 0, none⟩ (.int .i64 n0)).setCell ⟨w.heap.size + 1 + 1 + 1, 1, none⟩ (.int .i64 d0)).setCell ⟨w.heap.size + 1 + 1 + 1 + 1, 0, none⟩ (.int .i64 e0)) (w.heap.size + 1 + 1 + 1) [n0, d0, 0, 0, 0, 0, 0, 0]) := Lib.hid (((K3.out.set 0 n0 (by simp)).set 1 d0 (by simp)).far (by omega))
  have L4_1 : Hid (IntBox (((y0.setCell ⟨w.heap.size + 1 + 1 + 1, 0, none⟩ (.int .i64 n0)).setCell ⟨w.heap.size + 1 + 1 + 1, 1, none⟩ (.int .i64 d0)).setCell ⟨w.heap.size + 1 + 1 + 1 + 1, 0, none⟩ (.int .i64 e0)) (w.heap.size + 1 + 1 + 1 + 1) [e0, 0, 0, 0]) := Lib.hid (((K4.out.far (by omega)).far (by omega)).set 0 e0 (by simp))
  have LB_1 : Hid (Below w.heap.size w (((y0.setCell ⟨w.heap.size + 1 + 1 + 1, 0, none⟩ (.int .i64 n0)).setCell ⟨w.heap.size + 1 + 1 + 1, 1, none⟩ (.int .i64 d0)).setCell ⟨w.heap.size + 1 + 1 + 1 + 1, 0, none⟩ (.int .i64 e0))) := Lib.hid (((KB.out.setCell (p := ⟨w.heap.size + 1 + 1 + 1, 0, none⟩) (by show w.heap.size ≤ w.heap.size + 1 + 1 + 1; omega) _).setCell (p := ⟨w.heap.size + 1 + 1 + 1, 1, none⟩) (by show w.heap.size ≤ w.heap.size + 1 + 1 + 1; omega) _).setCell (p := ⟨w.heap.size + 1 + 1 + 1 + 1, 0, none⟩) (by show w.heap.size ≤ w.heap.size + 1 + 1 + 1 + 1; omega) _)
  have LX_1 : Hid (SAt (((y0.setCell ⟨w.heap.size + 1 + 1 + 1, 0, none⟩ (.int .i64 n0)).setCell ⟨w.heap.size + 1 + 1 + 1, 1, none⟩ (.int .i64 d0)).setCell ⟨w.heap.size + 1 + 1 + 1 + 1, 0, none⟩ (.int .i64 e0)) (w.heap.size) tau (.slice p l.length cap)) := Lib.hid (by
    obtain ⟨c0, c1⟩ := KX.out
    constructor
    · rw [World.cell?_setCell_far _ _ _ _ (by show w.heap.size + 1 + 1 + 1 + 1 ≠ w.heap.size; omega), World.cell?_setCell_far _ _ _ _ (by show w.heap.size + 1 + 1 + 1 ≠ w.heap.size; omega), World.cell?_setCell_far _ _ _ _ (by show w.heap.size + 1 + 1 + 1 ≠ w.heap.size; omega)]; exact c0
    · rw [World.cell?_setCell_far _ _ _ _ (by show w.heap.size + 1 + 1 + 1 + 1 ≠ w.heap.size; omega), World.cell?_setCell_far _ _ _ _ (by show w.heap.size + 1 + 1 + 1 ≠ w.heap.size; omega), World.cell?_setCell_far _ _ _ _ (by show w.heap.size + 1 + 1 + 1 ≠ w.heap.size; omega)]; exact c1)
  have LS_1 : Hid (SerIn (((y0.setCell ⟨w.heap.size + 1 + 1 + 1, 0, none⟩ (.int .i64 n0)).setCell ⟨w.heap.size + 1 + 1 + 1, 1, none⟩ (.int .i64 d0)).setCell ⟨w.heap.size + 1 + 1 + 1 + 1, 0, none⟩ (.int .i64 e0)) l p) := Lib.hid (HS00.out.far (HS00.out.far (HS00.out.far KS.out (by omega)) (by omega)) (by omega))
  clear K1 K2 K3 K4 KX KS KB p0 p1 p2 q0 q1 q2 z1 z2
  generalize (((y0.setCell ⟨w.heap.size + 1 + 1 + 1, 0, none⟩ (.int .i64 n0)).setCell ⟨w.heap.size + 1 + 1 + 1, 1, none⟩ (.int .i64 d0)).setCell ⟨w.heap.size + 1 + 1 + 1 + 1, 0, none⟩ (.int .i64 e0)) = X1 at *
  obtain ⟨c0, c1⟩ := LX_1.out
  have hz := cell_lt c0
  go_wp2_with fail
  clear c0 c1 hz
  refine (overlapping_named tau l p cap m _ LS_1.out).mono ?_
  rintro e y1 ⟨n1, d1, e1, rfl, HE1, hb⟩
  have K1 := Lib.hid (L1_1.out.below hb)
  have K2 := Lib.hid (L2_1.out.below hb)
  have K3 := Lib.hid (L3_1.out.below hb)
  have K4 := Lib.hid (L4_1.out.below hb)
  have KX := Lib.hid (LX_1.out.below hb)
  have KS := Lib.hid (LS_1.out.below hb)
  have KB := Lib.hid (LB_1.out.trans (hb.mono LB_1.out.size))
  clear hb L1_1 L2_1 L3_1 L4_1 LX_1 LS_1 LB_1
  obtain ⟨p0, q0⟩ := K3.out 2 (by simp)
  obtain ⟨p1, q1⟩ := K3.out 3 (by simp)
  obtain ⟨p2, q2⟩ := K4.out 1 (by simp)
  simp only [List.getElem_cons_zero, List.getElem_cons_succ] at p0 p1 p2
  have z1 := cell_lt p0
  have z2 := cell_lt p2
  go_upto_region 5 with fail
  have L1_2 : Hid (IntBox (((y1.setCell ⟨w.heap.size + 1 + 1 + 1, 2, none⟩ (.int .i64 n1)).setCell ⟨w.heap.size + 1 + 1 + 1, 3, none⟩ (.int .i64 d1)).setCell ⟨w.heap.size + 1 + 1 + 1 + 1, 1, none⟩ (.int .i64 e1)) (w.heap.size + 1) [0, 0, 0, 0, 0, 0, 0, 0]) := Lib.hid (((K1.out.far (by omega)).far (by omega)).far (by omega))
  have L2_2 : Hid (IntBox (((y1.setCell ⟨w.heap.size + 1 + 1 + 1, 2, none⟩ (.int .i64 n1)).setCell ⟨w.heap.size + 1 + 1 + 1, 3, none⟩ (.int .i64 d1)).setCell ⟨w.heap.size + 1 + 1 + 1 + 1, 1, none⟩ (.int .i64 e1)) (w.heap.size + 1 + 1) [0, 0, 0, 0]) := Lib.hid (((K2.out.far (by omega)).far (by omega)).far (by omega))
  have L3_2 : Hid (IntBox (((y1.setCell ⟨w.heap.size + 1 + 1 + 1, 2, none⟩ (.int .i64 n1)).setCell ⟨w.heap.size + 1 + 1 + 1, 3, none⟩ (.int .i64 d1)).setCell ⟨w.heap.size + 1 + 1 + 1 + 1, 1, none⟩ (.int .i64 e1)) (w.heap.size + 1 + 1 + 1) [n0, d0, n1, d1, 0, 0, 0, 0]) := Lib.hid (((K3.out.set 2 n1 (by simp)).set 3 d1 (by simp)).far (by omega))
  have L4_2 : Hid (IntBox (((y1.setCell ⟨w.heap.size + 1 + 1 + 1, 2, none⟩ (.int .i64 n1)).setCell ⟨w.heap.size + 1 + 1 + 1, 3, none⟩ (.int .i64 d1)).setCell ⟨w.heap.size + 1 + 1 + 1 + 1, 1, none⟩ (.int .i64 e1)) (w.heap.size + 1 + 1 + 1 + 1) [e0, e1, 0, 0]) := Lib.hid (((K4.out.far (by omega)).far (by omega)).set 1 e1 (by simp))
  have LB_2 : Hid (Below w.heap.size w (((y1.setCell ⟨w.heap.size + 1 + 1 + 1, 2, none⟩ (.int .i64 n1)).setCell ⟨w.heap.size + 1 + 1 + 1, 3, none⟩ (.int .i64 d1)).setCell ⟨w.heap.size + 1 + 1 + 1 + 1, 1, none⟩ (.int .i64 e1))) := Lib.hid (((KB.out.setCell (p := ⟨w.heap.size + 1 + 1 + 1, 2, none⟩) (by show w.heap.size ≤ w.heap.size + 1 + 1 + 1; omega) _).setCell (p := ⟨w.heap.size + 1 + 1 + 1, 3, none⟩) (by show w.heap.size ≤ w.heap.size + 1 + 1 + 1; omega) _).setCell (p := ⟨w.heap.size + 1 + 1 + 1 + 1, 1, none⟩) (by show w.heap.size ≤ w.heap.size + 1 + 1 + 1 + 1; omega) _)
  have LX_2 : Hid (SAt (((y1.setCell ⟨w.heap.size + 1 + 1 + 1, 2, none⟩ (.int .i64 n1)).setCell ⟨w.heap.size + 1 + 1 + 1, 3, none⟩ (.int .i64 d1)).setCell ⟨w.heap.size + 1 + 1 + 1 + 1, 1, none⟩ (.int .i64 e1)) (w.heap.size) tau (.slice p l.length cap)) := Lib.hid (by
    obtain ⟨c0, c1⟩ := KX.out
    constructor
    · rw [World.cell?_setCell_far _ _ _ _ (by show w.heap.size + 1 + 1 + 1 + 1 ≠ w.heap.size; omega), World.cell?_setCell_far _ _ _ _ (by show w.heap.size + 1 + 1 + 1 ≠ w.heap.size; omega), World.cell?_setCell_far _ _ _ _ (by show w.heap.size + 1 + 1 + 1 ≠ w.heap.size; omega)]; exact c0
    · rw [World.cell?_setCell_far _ _ _ _ (by show w.heap.size + 1 + 1 + 1 + 1 ≠ w.heap.size; omega), World.cell?_setCell_far _ _ _ _ (by show w.heap.size + 1 + 1 + 1 ≠ w.heap.size; omega), World.cell?_setCell_far _ _ _ _ (by show w.heap.size + 1 + 1 + 1 ≠ w.heap.size; omega)]; exact c1)
  have LS_2 : Hid (SerIn (((y1.setCell ⟨w.heap.size + 1 + 1 + 1, 2, none⟩ (.int .i64 n1)).setCell ⟨w.heap.size + 1 + 1 + 1, 3, none⟩ (.int .i64 d1)).setCell ⟨w.heap.size + 1 + 1 + 1 + 1, 1, none⟩ (.int .i64 e1)) l p) := Lib.hid (HS00.out.far (HS00.out.far (HS00.out.far KS.out (by omega)) (by omega)) (by omega))
  clear K1 K2 K3 K4 KX KS KB p0 p1 p2 q0 q1 q2 z1 z2
  generalize (((y1.setCell ⟨w.heap.size + 1 + 1 + 1, 2, none⟩ (.int .i64 n1)).setCell ⟨w.heap.size + 1 + 1 + 1, 3, none⟩ (.int .i64 d1)).setCell ⟨w.heap.size + 1 + 1 + 1 + 1, 1, none⟩ (.int .i64 e1)) = X2 at *
  obtain ⟨c0, c1⟩ := LX_2.out
  have hz := cell_lt c0
  go_wp2_with fail
  clear c0 c1 hz
  refine (modified_named tau l p cap m _ LS_2.out).mono ?_
  rintro e y2 ⟨n2, d2, e2, rfl, HE2, hb⟩
  have K1 := Lib.hid (L1_2.out.below hb)
  have K2 := Lib.hid (L2_2.out.below hb)
  have K3 := Lib.hid (L3_2.out.below hb)
  have K4 := Lib.hid (L4_2.out.below hb)
  have KX := Lib.hid (LX_2.out.below hb)
  have KS := Lib.hid (LS_2.out.below hb)
  have KB := Lib.hid (LB_2.out.trans (hb.mono LB_2.out.size))
  clear hb L1_2 L2_2 L3_2 L4_2 LX_2 LS_2 LB_2
  obtain ⟨p0, q0⟩ := K3.out 4 (by simp)
  obtain ⟨p1, q1⟩ := K3.out 5 (by simp)
  obtain ⟨p2, q2⟩ := K4.out 2 (by simp)
  simp only [List.getElem_cons_zero, List.getElem_cons_succ] at p0 p1 p2
  have z1 := cell_lt p0
  have z2 := cell_lt p2
  go_upto_region 6 with fail
  have L1_3 : Hid (IntBox (((y2.setCell ⟨w.heap.size + 1 + 1 + 1, 4, none⟩ (.int .i64 n2)).setCell ⟨w.heap.size + 1 + 1 + 1, 5, none⟩ (.int .i64 d2)).setCell ⟨w.heap.size + 1 + 1 + 1 + 1, 2, none⟩ (.int .i64 e2)) (w.heap.size + 1) [0, 0, 0, 0, 0, 0, 0, 0]) := Lib.hid (((K1.out.far (by omega)).far (by omega)).far (by omega))
  have L2_3 : Hid (IntBox (((y2.setCell ⟨w.heap.size + 1 + 1 + 1, 4, none⟩ (.int .i64 n2)).setCell ⟨w.heap.size + 1 + 1 + 1, 5, none⟩ (.int .i64 d2)).setCell ⟨w.heap.size + 1 + 1 + 1 + 1, 2, none⟩ (.int .i64 e2)) (w.heap.size + 1 + 1) [0, 0, 0, 0]) := Lib.hid (((K2.out.far (by omega)).far (by omega)).far (by omega))
  have L3_3 : Hid (IntBox (((y2.setCell ⟨w.heap.size + 1 + 1 + 1, 4, none⟩ (.int .i64 n2)).setCell ⟨w.heap.size + 1 + 1 + 1, 5, none⟩ (.int .i64 d2)).setCell ⟨w.heap.size + 1 + 1 + 1 + 1, 2, none⟩ (.int .i64 e2)) (w.heap.size + 1 + 1 + 1) [n0, d0, n1, d1, n2, d2, 0, 0]) := Lib.hid (((K3.out.set 4 n2 (by simp)).set 5 d2 (by simp)).far (by omega))
  have L4_3 : Hid (IntBox (((y2.setCell ⟨w.heap.size + 1 + 1 + 1, 4, none⟩ (.int .i64 n2)).setCell ⟨w.heap.size + 1 + 1 + 1, 5, none⟩ (.int .i64 d2)).setCell ⟨w.heap.size + 1 + 1 + 1 + 1, 2, none⟩ (.int .i64 e2)) (w.heap.size + 1 + 1 + 1 + 1) [e0, e1, e2, 0]) := Lib.hid (((K4.out.far (by omega)).far (by omega)).set 2 e2 (by simp))
  have LB_3 : Hid (Below w.heap.size w (((y2.setCell ⟨w.heap.size + 1 + 1 + 1, 4, none⟩ (.int .i64 n2)).setCell ⟨w.heap.size + 1 + 1 + 1, 5, none⟩ (.int .i64 d2)).setCell ⟨w.heap.size + 1 + 1 + 1 + 1, 2, none⟩ (.int .i64 e2))) := Lib.hid (((KB.out.setCell (p := ⟨w.heap.size + 1 + 1 + 1, 4, none⟩) (by show w.heap.size ≤ w.heap.size + 1 + 1 + 1; omega) _).setCell (p := ⟨w.heap.size + 1 + 1 + 1, 5, none⟩) (by show w.heap.size ≤ w.heap.size + 1 + 1 + 1; omega) _).setCell (p := ⟨w.heap.size + 1 + 1 + 1 + 1, 2, none⟩) (by show w.heap.size ≤ w.heap.size + 1 + 1 + 1 + 1; omega) _)
  have LX_3 : Hid (SAt (((y2.setCell ⟨w.heap.size + 1 + 1 + 1, 4, none⟩ (.int .i64 n2)).setCell ⟨w.heap.size + 1 + 1 + 1, 5, none⟩ (.int .i64 d2)).setCell ⟨w.heap.size + 1 + 1 + 1 + 1, 2, none⟩ (.int .i64 e2)) (w.heap.size) tau (.slice p l.length cap)) := Lib.hid (by
    obtain ⟨c0, c1⟩ := KX.out
    constructor
    · rw [World.cell?_setCell_far _ _ _ _ (by show w.heap.size + 1 + 1 + 1 + 1 ≠ w.heap.size; omega), World.cell?_setCell_far _ _ _ _ (by show w.heap.size + 1 + 1 + 1 ≠ w.heap.size; omega), World.cell?_setCell_far _ _ _ _ (by show w.heap.size + 1 + 1 + 1 ≠ w.heap.size; omega)]; exact c0
    · rw [World.cell?_setCell_far _ _ _ _ (by show w.heap.size + 1 + 1 + 1 + 1 ≠ w.heap.size; omega), World.cell?_setCell_far _ _ _ _ (by show w.heap.size + 1 + 1 + 1 ≠ w.heap.size; omega), World.cell?_setCell_far _ _ _ _ (by show w.heap.size + 1 + 1 + 1 ≠ w.heap.size; omega)]; exact c1)
  have LS_3 : Hid (SerIn (((y2.setCell ⟨w.heap.size + 1 + 1 + 1, 4, none⟩ (.int .i64 n2)).setCell ⟨w.heap.size + 1 + 1 + 1, 5, none⟩ (.int .i64 d2)).setCell ⟨w.heap.size + 1 + 1 + 1 + 1, 2, none⟩ (.int .i64 e2)) l p) := Lib.hid (HS00.out.far (HS00.out.far (HS00.out.far KS.out (by omega)) (by omega)) (by omega))
  clear K1 K2 K3 K4 KX KS KB p0 p1 p2 q0 q1 q2 z1 z2
  generalize (((y2.setCell ⟨w.heap.size + 1 + 1 + 1, 4, none⟩ (.int .i64 n2)).setCell ⟨w.heap.size + 1 + 1 + 1, 5, none⟩ (.int .i64 d2)).setCell ⟨w.heap.size + 1 + 1 + 1 + 1, 2, none⟩ (.int .i64 e2)) = X3 at *
  obtain ⟨c0, c1⟩ := LX_3.out
  have hz := cell_lt c0
  go_wp2_with fail
  clear c0 c1 hz
  refine (hadamard_named tau l p cap m _ LS_3.out).mono ?_
  rintro e y3 ⟨n3, d3, e3, rfl, HE3, hb⟩
  have K1 := Lib.hid (L1_3.out.below hb)
  have K2 := Lib.hid (L2_3.out.below hb)
  have K3 := Lib.hid (L3_3.out.below hb)
  have K4 := Lib.hid (L4_3.out.below hb)
  have KX := Lib.hid (LX_3.out.below hb)
  have KS := Lib.hid (LS_3.out.below hb)
  have KB := Lib.hid (LB_3.out.trans (hb.mono LB_3.out.size))
  clear hb L1_3 L2_3 L3_3 L4_3 LX_3 LS_3 LB_3
  obtain ⟨p0, q0⟩ := K3.out 6 (by simp)
  obtain ⟨p1, q1⟩ := K3.out 7 (by simp)
  obtain ⟨p2, q2⟩ := K4.out 3 (by simp)
  simp only [List.getElem_cons_zero, List.getElem_cons_succ] at p0 p1 p2
  have z1 := cell_lt p0
  have z2 := cell_lt p2
  go_upto_region 7 with fail
  have L1_4 : Hid (IntBox (((y3.setCell ⟨w.heap.size + 1 + 1 + 1, 6, none⟩ (.int .i64 n3)).setCell ⟨w.heap.size + 1 + 1 + 1, 7, none⟩ (.int .i64 d3)).setCell ⟨w.heap.size + 1 + 1 + 1 + 1, 3, none⟩ (.int .i64 e3)) (w.heap.size + 1) [0, 0, 0, 0, 0, 0, 0, 0]) := Lib.hid (((K1.out.far (by omega)).far (by omega)).far (by omega))
  have L2_4 : Hid (IntBox (((y3.setCell ⟨w.heap.size + 1 + 1 + 1, 6, none⟩ (.int .i64 n3)).setCell ⟨w.heap.size + 1 + 1 + 1, 7, none⟩ (.int .i64 d3)).setCell ⟨w.heap.size + 1 + 1 + 1 + 1, 3, none⟩ (.int .i64 e3)) (w.heap.size + 1 + 1) [0, 0, 0, 0]) := Lib.hid (((K2.out.far (by omega)).far (by omega)).far (by omega))
  have L3_4 : Hid (IntBox (((y3.setCell ⟨w.heap.size + 1 + 1 + 1, 6, none⟩ (.int .i64 n3)).setCell ⟨w.heap.size + 1 + 1 + 1, 7, none⟩ (.int .i64 d3)).setCell ⟨w.heap.size + 1 + 1 + 1 + 1, 3, none⟩ (.int .i64 e3)) (w.heap.size + 1 + 1 + 1) [n0, d0, n1, d1, n2, d2, n3, d3]) := Lib.hid (((K3.out.set 6 n3 (by simp)).set 7 d3 (by simp)).far (by omega))
  have L4_4 : Hid (IntBox (((y3.setCell ⟨w.heap.size + 1 + 1 + 1, 6, none⟩ (.int .i64 n3)).setCell ⟨w.heap.size + 1 + 1 + 1, 7, none⟩ (.int .i64 d3)).setCell ⟨w.heap.size + 1 + 1 + 1 + 1, 3, none⟩ (.int .i64 e3)) (w.heap.size + 1 + 1 + 1 + 1) [e0, e1, e2, e3]) := Lib.hid (((K4.out.far (by omega)).far (by omega)).set 3 e3 (by simp))
  have LB_4 : Hid (Below w.heap.size w (((y3.setCell ⟨w.heap.size + 1 + 1 + 1, 6, none⟩ (.int .i64 n3)).setCell ⟨w.heap.size + 1 + 1 + 1, 7, none⟩ (.int .i64 d3)).setCell ⟨w.heap.size + 1 + 1 + 1 + 1, 3, none⟩ (.int .i64 e3))) := Lib.hid (((KB.out.setCell (p := ⟨w.heap.size + 1 + 1 + 1, 6, none⟩) (by show w.heap.size ≤ w.heap.size + 1 + 1 + 1; omega) _).setCell (p := ⟨w.heap.size + 1 + 1 + 1, 7, none⟩) (by show w.heap.size ≤ w.heap.size + 1 + 1 + 1; omega) _).setCell (p := ⟨w.heap.size + 1 + 1 + 1 + 1, 3, none⟩) (by show w.heap.size ≤ w.heap.size + 1 + 1 + 1 + 1; omega) _)
  clear K1 K2 K3 K4 KX KS KB p0 p1 p2 q0 q1 q2 z1 z2
  generalize (((y3.setCell ⟨w.heap.size + 1 + 1 + 1, 6, none⟩ (.int .i64 n3)).setCell ⟨w.heap.size + 1 + 1 + 1, 7, none⟩ (.int .i64 d3)).setCell ⟨w.heap.size + 1 + 1 + 1 + 1, 3, none⟩ (.int .i64 e3)) = X4 at *
  obtain ⟨p0, -⟩ := L3_4.out 0 (by simp)
  obtain ⟨r0, s0⟩ := L1_4.out 0 (by simp)
  obtain ⟨p1, -⟩ := L3_4.out 1 (by simp)
  obtain ⟨r1, s1⟩ := L1_4.out 1 (by simp)
  obtain ⟨p2, -⟩ := L3_4.out 2 (by simp)
  obtain ⟨r2, s2⟩ := L1_4.out 2 (by simp)
  obtain ⟨p3, -⟩ := L3_4.out 3 (by simp)
  obtain ⟨r3, s3⟩ := L1_4.out 3 (by simp)
  obtain ⟨p4, -⟩ := L3_4.out 4 (by simp)
  obtain ⟨r4, s4⟩ := L1_4.out 4 (by simp)
  obtain ⟨p5, -⟩ := L3_4.out 5 (by simp)
  obtain ⟨r5, s5⟩ := L1_4.out 5 (by simp)
  obtain ⟨p6, -⟩ := L3_4.out 6 (by simp)
  obtain ⟨r6, s6⟩ := L1_4.out 6 (by simp)
  obtain ⟨p7, -⟩ := L3_4.out 7 (by simp)
  obtain ⟨r7, s7⟩ := L1_4.out 7 (by simp)
  obtain ⟨e0', -⟩ := L4_4.out 0 (by simp)
  obtain ⟨t0, u0⟩ := L2_4.out 0 (by simp)
  obtain ⟨e1', -⟩ := L4_4.out 1 (by simp)
  obtain ⟨t1, u1⟩ := L2_4.out 1 (by simp)
  obtain ⟨e2', -⟩ := L4_4.out 2 (by simp)
  obtain ⟨t2, u2⟩ := L2_4.out 2 (by simp)
  obtain ⟨e3', -⟩ := L4_4.out 3 (by simp)
  obtain ⟨t3, u3⟩ := L2_4.out 3 (by simp)
  simp only [List.getElem_cons_zero, List.getElem_cons_succ] at p0 r0 p1 r1 p2 r2 p3 r3 p4 r4 p5 r5 p6 r6 p7 r7 e0' t0 e1' t1 e2' t2 e3' t3
  have z1 := cell_lt p0
  have z2 := cell_lt r0
  have z3 := cell_lt e0'
  have z4 := cell_lt t0
  go_region
  have M1 : Hid (IntBox ((((((((((((X4.setCell ⟨w.heap.size + 1, 0, none⟩ (.int .i64 n0)).setCell ⟨w.heap.size + 1, 1, none⟩ (.int .i64 d0)).setCell ⟨w.heap.size + 1, 2, none⟩ (.int .i64 n1)).setCell ⟨w.heap.size + 1, 3, none⟩ (.int .i64 d1)).setCell ⟨w.heap.size + 1, 4, none⟩ (.int .i64 n2)).setCell ⟨w.heap.size + 1, 5, none⟩ (.int .i64 d2)).setCell ⟨w.heap.size + 1, 6, none⟩ (.int .i64 n3)).setCell ⟨w.heap.size + 1, 7, none⟩ (.int .i64 d3)).setCell ⟨w.heap.size + 1 + 1, 0, none⟩ (.int .i64 e0)).setCell ⟨w.heap.size + 1 + 1, 1, none⟩ (.int .i64 e1)).setCell ⟨w.heap.size + 1 + 1, 2, none⟩ (.int .i64 e2)).setCell ⟨w.heap.size + 1 + 1, 3, none⟩ (.int .i64 e3)) (w.heap.size + 1) [n0, d0, n1, d1, n2, d2, n3, d3]) := Lib.hid ((((((((((((L1_4.out.set 0 n0 (by simp)).set 1 d0 (by simp)).set 2 n1 (by simp)).set 3 d1 (by simp)).set 4 n2 (by simp)).set 5 d2 (by simp)).set 6 n3 (by simp)).set 7 d3 (by simp)).far (by omega)).far (by omega)).far (by omega)).far (by omega))
  have M2 : Hid (IntBox ((((((((((((X4.setCell ⟨w.heap.size + 1, 0, none⟩ (.int .i64 n0)).setCell ⟨w.heap.size + 1, 1, none⟩ (.int .i64 d0)).setCell ⟨w.heap.size + 1, 2, none⟩ (.int .i64 n1)).setCell ⟨w.heap.size + 1, 3, none⟩ (.int .i64 d1)).setCell ⟨w.heap.size + 1, 4, none⟩ (.int .i64 n2)).setCell ⟨w.heap.size + 1, 5, none⟩ (.int .i64 d2)).setCell ⟨w.heap.size + 1, 6, none⟩ (.int .i64 n3)).setCell ⟨w.heap.size + 1, 7, none⟩ (.int .i64 d3)).setCell ⟨w.heap.size + 1 + 1, 0, none⟩ (.int .i64 e0)).setCell ⟨w.heap.size + 1 + 1, 1, none⟩ (.int .i64 e1)).setCell ⟨w.heap.size + 1 + 1, 2, none⟩ (.int .i64 e2)).setCell ⟨w.heap.size + 1 + 1, 3, none⟩ (.int .i64 e3)) (w.heap.size + 1 + 1) [e0, e1, e2, e3]) := Lib.hid ((((((((((((L2_4.out.far (by omega)).far (by omega)).far (by omega)).far (by omega)).far (by omega)).far (by omega)).far (by omega)).far (by omega)).set 0 e0 (by simp)).set 1 e1 (by simp)).set 2 e2 (by simp)).set 3 e3 (by simp))
  have MB : Hid (Below w.heap.size w ((((((((((((X4.setCell ⟨w.heap.size + 1, 0, none⟩ (.int .i64 n0)).setCell ⟨w.heap.size + 1, 1, none⟩ (.int .i64 d0)).setCell ⟨w.heap.size + 1, 2, none⟩ (.int .i64 n1)).setCell ⟨w.heap.size + 1, 3, none⟩ (.int .i64 d1)).setCell ⟨w.heap.size + 1, 4, none⟩ (.int .i64 n2)).setCell ⟨w.heap.size + 1, 5, none⟩ (.int .i64 d2)).setCell ⟨w.heap.size + 1, 6, none⟩ (.int .i64 n3)).setCell ⟨w.heap.size + 1, 7, none⟩ (.int .i64 d3)).setCell ⟨w.heap.size + 1 + 1, 0, none⟩ (.int .i64 e0)).setCell ⟨w.heap.size + 1 + 1, 1, none⟩ (.int .i64 e1)).setCell ⟨w.heap.size + 1 + 1, 2, none⟩ (.int .i64 e2)).setCell ⟨w.heap.size + 1 + 1, 3, none⟩ (.int .i64 e3))) := Lib.hid ((((((((((((LB_4.out.setCell (p := ⟨w.heap.size + 1, 0, none⟩) (by show w.heap.size ≤ w.heap.size + 1; omega) (.int .i64 n0)).setCell (p := ⟨w.heap.size + 1, 1, none⟩) (by show w.heap.size ≤ w.heap.size + 1; omega) (.int .i64 d0)).setCell (p := ⟨w.heap.size + 1, 2, none⟩) (by show w.heap.size ≤ w.heap.size + 1; omega) (.int .i64 n1)).setCell (p := ⟨w.heap.size + 1, 3, none⟩) (by show w.heap.size ≤ w.heap.size + 1; omega) (.int .i64 d1)).setCell (p := ⟨w.heap.size + 1, 4, none⟩) (by show w.heap.size ≤ w.heap.size + 1; omega) (.int .i64 n2)).setCell (p := ⟨w.heap.size + 1, 5, none⟩) (by show w.heap.size ≤ w.heap.size + 1; omega) (.int .i64 d2)).setCell (p := ⟨w.heap.size + 1, 6, none⟩) (by show w.heap.size ≤ w.heap.size + 1; omega) (.int .i64 n3)).setCell (p := ⟨w.heap.size + 1, 7, none⟩) (by show w.heap.size ≤ w.heap.size + 1; omega) (.int .i64 d3)).setCell (p := ⟨w.heap.size + 1 + 1, 0, none⟩) (by show w.heap.size ≤ w.heap.size + 1 + 1; omega) (.int .i64 e0)).setCell (p := ⟨w.heap.size + 1 + 1, 1, none⟩) (by show w.heap.size ≤ w.heap.size + 1 + 1; omega) (.int .i64 e1)).setCell (p := ⟨w.heap.size + 1 + 1, 2, none⟩) (by show w.heap.size ≤ w.heap.size + 1 + 1; omega) (.int .i64 e2)).setCell (p := ⟨w.heap.size + 1 + 1, 3, none⟩) (by show w.heap.size ≤ w.heap.size + 1 + 1; omega) (.int .i64 e3))
  clear p0 r0 s0 p1 r1 s1 p2 r2 s2 p3 r3 s3 p4 r4 s4 p5 r5 s5 p6 r6 s6 p7 r7 s7 e0' t0 u0 e1' t1 u1 e2' t2 u2 e3' t3 u3 z1 z2 z3 z4 L1_4 L2_4 L3_4 L4_4 LB_4
  generalize ((((((((((((X4.setCell ⟨w.heap.size + 1, 0, none⟩ (.int .i64 n0)).setCell ⟨w.heap.size + 1, 1, none⟩ (.int .i64 d0)).setCell ⟨w.heap.size + 1, 2, none⟩ (.int .i64 n1)).setCell ⟨w.heap.size + 1, 3, none⟩ (.int .i64 d1)).setCell ⟨w.heap.size + 1, 4, none⟩ (.int .i64 n2)).setCell ⟨w.heap.size + 1, 5, none⟩ (.int .i64 d2)).setCell ⟨w.heap.size + 1, 6, none⟩ (.int .i64 n3)).setCell ⟨w.heap.size + 1, 7, none⟩ (.int .i64 d3)).setCell ⟨w.heap.size + 1 + 1, 0, none⟩ (.int .i64 e0)).setCell ⟨w.heap.size + 1 + 1, 1, none⟩ (.int .i64 e1)).setCell ⟨w.heap.size + 1 + 1, 2, none⟩ (.int .i64 e2)).setCell ⟨w.heap.size + 1 + 1, 3, none⟩ (.int .i64 e3)) = Y at *
  have c0 := (M1.out 0 (by simp)).1
  have c1 := (M1.out 1 (by simp)).1
  have c2 := (M1.out 2 (by simp)).1
  have c3 := (M1.out 3 (by simp)).1
  have c4 := (M1.out 4 (by simp)).1
  have c5 := (M1.out 5 (by simp)).1
  have c6 := (M1.out 6 (by simp)).1
  have c7 := (M1.out 7 (by simp)).1
  have x0 := (M2.out 0 (by simp)).1
  have x1 := (M2.out 1 (by simp)).1
  have x2 := (M2.out 2 (by simp)).1
  have x3 := (M2.out 3 (by simp)).1
  simp only [List.getElem_cons_zero, List.getElem_cons_succ] at c0 c1 c2 c3 c4 c5 c6 c7 x0 x1 x2 x3
  go_wp2
  refine bodyPost_ret (v := .tuple #[.agg #[.int .i64 n0, .int .i64 d0, .int .i64 n1, .int .i64 d1, .int .i64 n2, .int .i64 d2, .int .i64 n3, .int .i64 d3], .agg #[.int .i64 e0, .int .i64 e1, .int .i64 e2, .int .i64 e3]]) (by simp [results, Try.results20, go_sem, c0, c1, c2, c3, c4, c5, c6, c7, x0, x1, x2, x3]) rfl ?_
  refine ⟨?_, MB.out.drew⟩
  unfold fourVal
  rw [HVV.out, HE0.out, HE1.out, HE2.out, HE3.out]
end Go.Proofs.Ytpmhphdpomiacaa
