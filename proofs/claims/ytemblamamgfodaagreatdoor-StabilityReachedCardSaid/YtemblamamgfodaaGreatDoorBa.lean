/- What the laws of layer 3 share: arguments opened, pairs in boxes, the calls with their answers named. -/
import Derived.Test.YtemblamamgfodaaGreatDoorStP
import Derived.Test.YtemblamamgfodaaGreatDoorStD
import Derived.Deep.Slices
import Derived.ChangeSame
namespace Go.Proofs.YtemblamamgfodaaGreatDoor
open Go Go.RowKit Go.ChangeShapes Go.WideShapes Go.Deep Go.Shelf
/-- numbers of 16 bits that lie in memory -/
def I16At (w : World) (l : List Int) (b o : Nat) : Prop := ∀ i (h : i < l.length), w.cell? ⟨b, o + i, none⟩ = some (.int .i16 l[i])
theorem I16At.below {w w' : World} {b o : Nat} {l : List Int} (h : I16At w l b o) (hb : Below w.heap.size w w') : I16At w' l b o := fun i hi => cell_below hb (h i hi)
/-- a slice of numbers of 16 bits that came in -/
structure I16In (w : World) (l : List Int) (p : Option Addr) (cap : Nat) : Prop where
  len : l.length ≤ maxLen
  cap : l.length ≤ cap
  at_ : SliceIn p l.length (I16At w l)
  bd : ∀ i, -32768 ≤ atL l i ∧ atL l i ≤ 32767
theorem I16In.below {w w' : World} {l : List Int} {p : Option Addr} {cap : Nat} (h : I16In w l p cap) (hb : Below w.heap.size w w') : I16In w' l p cap := ⟨h.len, h.cap, h.at_.imp fun _ _ x => x.below hb, h.bd⟩
theorem pick_list {α : Type} (n : Nat) (Q : Nat → α → Prop) (h : ∀ i, i < n → ∃ x, Q i x) : ∃ l : List α, l.length = n ∧ ∀ i, (hi : i < l.length) → Q i l[i] := by
  induction n with
  | zero => exact ⟨[], rfl, fun i hi => absurd hi (by simp)⟩
  | succ n ih =>
    obtain ⟨l, hl, hq⟩ := ih fun i hi => h i (by omega)
    obtain ⟨x, hx⟩ := h n (by omega)
    refine ⟨l ++ [x], by simp [hl], fun i hi => ?_⟩
    by_cases hlt : i < l.length
    · rw [List.getElem_append_left hlt]; exact hq i hlt
    · have : i = l.length := by simp at hi; omega
      subst this
      rw [List.getElem_append_right (by omega)]
      simpa [hl] using hx
theorem add_plain (b o k : Nat) : (⟨b, o, none⟩ : Addr).add k = ⟨b, o + k, none⟩ := by
  unfold Addr.add; split <;> simp_all
theorem wf_i16 {n : Int} (h : (Lit.int .i16 n).wf = true) : -32768 ≤ n ∧ n ≤ 32767 := by
  simp only [Lit.wf, Bool.and_eq_true, decide_eq_true_eq] at h
  have h1 : IntKind.i16.min = -32768 := by decide
  have h2 : IntKind.i16.max = 32767 := by decide
  omega
section
variable {H : Type} {enc : TypeId × Value → H} {w : World} {base : Nat} {spare : Nat → Bool} {held : Bool}
end
/-- two numbers that lie in a box -/
def Two (X : World) (b : Nat) (x z : Int) : Prop := X.cell? ⟨b, 0, none⟩ = some (.int .i64 x) ∧ X.cell? ⟨b, 1, none⟩ = some (.int .i64 z)
theorem Two.below {X Y : World} {b : Nat} {x z : Int} (h : Two X b x z) (hb : Below X.heap.size X Y) : Two Y b x z := ⟨cell_below hb h.1, cell_below hb h.2⟩
theorem two_new (X : World) (x z : Int) (t : TypeId) : Two (X.alloc (.cells #[.int .i64 x, .int .i64 z] t)) X.heap.size x z := ⟨by simp, by simp⟩
/-! the calls, their answers named -/
def FracRet (g : VarE) (X : World) (e : Ending) (Y : World) : Prop := ∃ a b c : Int, e = .returned (.tuple #[.agg #[.int .i64 a, .int .i64 b], .int .i64 c]) ∧ Hid (g = ⟨a, b, c⟩) ∧ Below X.heap.size X Y
theorem allan_named (tau : Int) (l : List Int) (p : Option Addr) (cap : Nat) (m : Int) (w : World) (hs : SerIn w l p) :
    Calls Tryz.prog 45 #[.agg #[.int .i64 tau, .slice p l.length cap], .int .i64 m] w (FracRet (allanE tau l m) w) :=
  (allan_any tau l p cap m w hs).mono fun _ _ ⟨h1, h2⟩ => ⟨_, _, _, h1, Lib.hid rfl, h2⟩
theorem overlapping_named (tau : Int) (l : List Int) (p : Option Addr) (cap : Nat) (m : Int) (w : World) (hs : SerIn w l p) :
    Calls Tryz.prog 15 #[.agg #[.int .i64 tau, .slice p l.length cap], .int .i64 m] w (FracRet (overlappingE tau l m) w) :=
  (overlapping_any tau l p cap m w hs).mono fun _ _ ⟨h1, h2⟩ => ⟨_, _, _, h1, Lib.hid rfl, h2⟩
def FracRet2 (g : FracE) (X : World) (e : Ending) (Y : World) : Prop := ∃ a b c : Int, e = .returned (.tuple #[.agg #[.int .i64 a, .int .i64 b], .int .i64 c]) ∧ Hid (g = ⟨a, b, c⟩) ∧ Below X.heap.size X Y
theorem rest_named (tau : Int) (l : List Int) (p : Option Addr) (cap : Nat) (w : World) (hs : SerIn w l p) :
    Calls Tryz.prog 17 #[.agg #[.int .i64 tau, .slice p l.length cap]] w (FracRet2 (restE tau l) w) :=
  (Rest_any tau l p cap w hs).mono fun _ _ ⟨h1, h2⟩ => ⟨_, _, _, h1, Lib.hid rfl, h2⟩
def LineRet (g : LineE) (X : World) (e : Ending) (Y : World) : Prop := ∃ a b c d k : Int, e = .returned (.tuple #[.agg #[.int .i64 a, .int .i64 b, .int .i64 c, .int .i64 d], .int .i64 k]) ∧ Hid (g = ⟨a, b, c, d, k⟩) ∧ Below X.heap.size X Y
theorem fit_named (tau : Int) (l : List Int) (p : Option Addr) (cap : Nat) (w : World) (hs : SerIn w l p) :
    Calls Tryz.prog 46 #[.agg #[.int .i64 tau, .slice p l.length cap]] w (LineRet (fitE tau l) w) :=
  (fit_any tau l p cap w hs).mono fun _ _ ⟨h1, h2⟩ => ⟨_, _, _, _, _, h1, Lib.hid rfl, h2⟩
end Go.Proofs.YtemblamamgfodaaGreatDoor
