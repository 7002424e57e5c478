/- Layer 2: the numbers of the chapter's examples. -/
import Derived.Test.YtlelamjbfjneiaaNy
import Derived.Test.YtlelamjbfjneiaaNo
import Derived.Test.YtlelamjbfjneiaaNp
import Derived.Test.YtlelamjbfjneiaaNh
import Derived.Test.YtlelamjbfjneiaaNi
namespace Go.Proofs.Ytlelamjbfjneiaa.Ct
open Go Go.RowKit Go.Shelf
/-- cells with what lies in them -/
def Has (X : World) (L : List (Nat × Nat × Value)) : Prop := ∀ t, t ∈ L → X.cell? ⟨t.1, t.2.1, none⟩ = some t.2.2
theorem Has.below {X Y : World} {L : List (Nat × Nat × Value)} (h : Has X L) (hb : Below X.heap.size X Y) : Has Y L := fun t ht => cell_below hb (h t ht)
theorem Has.two {X : World} {L M : List (Nat × Nat × Value)} (h : Has X L) (k : Has X M) : Has X (L ++ M) := fun t ht => (List.mem_append.1 ht).elim (h t) (k t)
theorem has_new (X : World) (vs : List Value) (t : TypeId) : Has (X.alloc (.cells vs.toArray t)) ((List.range vs.length).map fun i => (X.heap.size, i, (vs[i]?).getD undef)) := by
  intro x hx
  obtain ⟨i, hi, rfl⟩ := List.mem_map.1 hx
  have := List.mem_range.1 hi
  simp [this]
def exC (f : Int) : Cnt := ⟨f, 0, 0, 100, 1000, 1, 0⟩
theorem ex_in (f : Int) (h : f = 1 ∨ f = 10) : cntB (exC f) = true := by rcases h with rfl | rfl <;> kernel_rfl
theorem draw0 (s i : Int) : drawS s i 0 = 0 := by unfold drawS; simp [Int.emod_one]
theorem aw_show (f d m : Int) (hf : f = 1 ∨ f = 10) (hd : -1000000000000000 ≤ d ∧ d ≤ 1000000000000000) (hm : wrapS (exC f) (roundS (exC f) (f * d + 0)) = m) (W : World) :
    Calls Try.prog 19 #[.agg #[.int .i64 f, .int .i64 0, .int .i64 0, .int .i64 100, .int .i64 1000, .int .i64 1, .int .i64 0], .int .u64 5, .int .i64 3, .int .i64 d] W fun e w' => e = .returned (.tuple #[.int .i64 m, .int .i64 0]) ∧ Below W.heap.size W w' := by
  have hE : showErr (exC f) 3 d = 0 := by
    unfold showErr
    rw [if_pos (ex_in f hf), if_pos (by rcases hf with rfl | rfl <;> kernel_rfl), if_pos hd]
  have hh := show_any (exC f) 5 3 d W
  rw [hE, if_pos rfl] at hh
  have e : shownS (exC f) 5 3 d = m := by
    unfold shownS rawS
    rw [← hm, show (exC f).j = 0 from rfl, draw0, show (exC f).o = 0 from rfl, show (exC f).f = f from rfl, Int.add_zero]
  rw [e] at hh
  exact hh
theorem aw_res (f lo hi x y e : Int) (h : resolveS (exC f) 100 lo hi = ((x, y), e)) (W : World) :
    Calls Try.prog 17 #[.agg #[.int .i64 f, .int .i64 0, .int .i64 0, .int .i64 100, .int .i64 1000, .int .i64 1, .int .i64 0], .int .i64 100, .agg #[.int .i64 lo, .int .i64 hi]] W fun e' w' => e' = .returned (.tuple #[.agg #[.int .i64 x, .int .i64 y], .int .i64 e]) ∧ Below W.heap.size W w' := by
  have hh := Resolve_any (exC f) 100 lo hi W
  rw [h] at hh
  exact hh
theorem r1 : resolveS (exC 1) 100 0 900 = ((50, 150), 0) := by kernel_rfl
theorem r2 : resolveS (exC 1) 100 140 900 = ((140, 150), 0) := by kernel_rfl
theorem r3 : resolveS (exC 1) 100 0 1100 = ((0, 0), 8) := by kernel_rfl
theorem r4 : resolveS (exC 1) 100 200 900 = ((0, 0), 12) := by kernel_rfl
theorem r5 : resolveS (exC 10) 100 (-40) 40 = ((5, 15), 0) := by kernel_rfl
def exM (i : Nat) : Int := ([400, -500, -400] : List Int)[i]?.getD 0
theorem aw_unw (g : Nat) (W : World) (h : FnIn W exM 3 (some ⟨g, 0, none⟩)) :
    Calls Try.prog 18 #[.agg #[.int .i64 1, .int .i64 0, .int .i64 0, .int .i64 100, .int .i64 1000, .int .i64 1, .int .i64 0], .slice (some ⟨g, 0, none⟩) 3 3, .int .i64 100] W (UnwRet2 (exC 1) exM 3 W) :=
  Unwrap_ok (exC 1) exM 3 (some ⟨g, 0, none⟩) 3 100 W (cntB_in (ex_in 1 (.inl rfl))) (by decide) (fun i hi => by
    match i, hi with
    | 0, _ => rfl
    | 1, _ => rfl
    | 2, _ => rfl) (by decide) (by decide) h
theorem unw0 : unwS (exC 1) exM 0 = 400 ∧ unwS (exC 1) exM 1 = 500 ∧ unwS (exC 1) exM 2 = 600 := ⟨by kernel_rfl, by kernel_rfl, by kernel_rfl⟩
def exL (k : Int) : List Bnd := [⟨0, 1, 1, 3⟩, ⟨1, 2, 1, 3⟩, ⟨0, 2, k, 9⟩]
theorem net5 : netErr 3 (exL 5) = 0 := by kernel_rfl
theorem net7 : netErr 3 (exL 7) = 0 := by kernel_rfl
theorem calm5 : calmAll 3 (exL 5) = true := by kernel_rfl
theorem calm7 : calmAll 3 (exL 7) = true := by kernel_rfl
theorem nar5 : (narrowS 3 (exL 5)).2 = true := by kernel_rfl
theorem nar5M : (narrowS 3 (exL 5)).1 = [[0, 3, 6], [-2, 0, 3], [-5, -2, 0]] := by kernel_rfl
theorem nar7 : (narrowS 3 (exL 7)).2 = false := by kernel_rfl
def exK : Nat := itN (backK (exL 7) (roundsK (exL 7) 3)) 3 (roundsK (exL 7) 3).low
theorem con7_s : (roundsK (exL 7) (0 + 1)).settled = false ∧ (roundsK (exL 7) (1 + 1)).settled = false ∧ (roundsK (exL 7) (2 + 1)).settled = false := ⟨by kernel_rfl, by kernel_rfl, by kernel_rfl⟩
theorem con7_c : Nat.beq (itN (backK (exL 7) (roundsK (exL 7) 3)) 1 exK) exK = false ∧ Nat.beq (itN (backK (exL 7) (roundsK (exL 7) 3)) 2 exK) exK = false := ⟨by kernel_rfl, by kernel_rfl⟩
theorem con7_u : cutB (exL 7) (cycK (exL 7) (roundsK (exL 7) 3) exK 3) = true := by kernel_rfl
theorem con7 (u : List (Int × Bool)) (h : ConOf 3 (exL 7) u) : u.length ≤ 240 ∧ u.length ≠ 0 ∧ cutB (exL 7) u = true := by
  rcases h with ⟨rfl, t, ht, hs⟩ | ⟨-, k, c, hk, h1, h2, h3, h4, rfl⟩
  · obtain ⟨s0, s1, s2⟩ := con7_s
    have : t = 0 ∨ t = 1 ∨ t = 2 := by omega
    rcases this with rfl | rfl | rfl
    · rw [s0] at hs; cases hs
    · rw [s1] at hs; cases hs
    · rw [s2] at hs; cases hs
  · obtain ⟨c1, c2⟩ := con7_c
    change k = exK at hk
    rw [hk] at h3 ⊢
    have hc : c = 1 ∨ c = 2 ∨ c = 3 := by omega
    rcases hc with rfl | rfl | rfl
    · exact absurd h3 (Nat.ne_of_beq_eq_false c1)
    · exact absurd h3 (Nat.ne_of_beq_eq_false c2)
    · exact ⟨by rw [cycK_len]; decide, by rw [cycK_len]; decide, con7_u⟩
theorem cut7 : cutB (exL 7) [(2, false), (0, true), (1, true)] = true := by kernel_rfl
end Go.Proofs.Ytlelamjbfjneiaa.Ct
