/- Plain facts for WorldHolds: what is shown is in its reach, and phases grow within their growth, whatever the seed. -/
import Derived.Test.YtehjkmnamgafaaaDoorWalksPlain
namespace Go.Proofs.YtehjkmnamgafaaaDoor
open Go Go.RowKit
def reseed (W : Wld) (seed : Int) : Wld := ⟨seed, W.chs, W.cls⟩
theorem reseed_find (W : Wld) (seed k : Int) (l : List Int) : findErr (reseed W seed) k l = findErr W k l := rfl
theorem reseed_run (W : Wld) (seed k s : Int) : runErr (reseed W seed) k s = runErr W k s := rfl
theorem sumDraws_add (src walk i : Int) (n m : Nat) : sumDraws src walk i (n + m) = sumDraws src walk i n + sumDraws src walk (i + n) m := by
  induction m with
  | zero => simp [sumDraws]
  | succ m ih =>
    show sumDraws src walk i (n + m) + drawS src (i + (n + m : Nat) + 1) walk = sumDraws src walk i n + (sumDraws src walk (i + n) m + drawS src (i + n + m + 1) walk)
    rw [ih, show i + ((n + m : Nat) : Int) + 1 = i + n + m + 1 by omega]; omega
theorem walked_add (seed k walk a b : Int) (h0 : 0 ≤ a) (h1 : a ≤ b) : walkedS seed k walk 0 b = walkedS seed k walk 0 a + walkedS seed k walk a b := by
  unfold walkedS
  have e : (b / 100 - 0 / 100).toNat = (a / 100 - 0 / 100).toNat + (b / 100 - a / 100).toNat := by omega
  rw [e, sumDraws_add]
  have e2 : (0 : Int) / 100 + ((a / 100 - 0 / 100).toNat : Nat) = a / 100 := by omega
  rw [e2]
/-- what is asked of a reach (r) and of what is shown (n) -/
structure InReach (r : PairErr) (n : IntErr) : Prop where
  ok : r.e = 0 → n.e = 0 → r.a ≤ n.v ∧ n.v ≤ r.b ∧ -400000000000000 < r.a ∧ r.b < 400000000000000
  no : r.e ≠ 0 → n.e = r.e
theorem holds_reach (W : Wld) (seed k a : Int) : InReach (reachE W k a) (shownE (reseed W seed) k a) := by
  by_cases h : findErr W k [a] = 0
  · have er : reachE W k a = ⟨fixedS (clkOf W k) (roomOf W k) a - (strayedS (clkOf W k) 0 a + (clkOf W k).white), fixedS (clkOf W k) (roomOf W k) a + (strayedS (clkOf W k) 0 a + (clkOf W k).white), 0⟩ := if_pos h
    rw [er]
    refine ⟨fun _ h2 => ?_, fun h2 => absurd rfl h2⟩
    have hr : runErr (reseed W seed) k a = 0 := by
      by_cases hr : runErr (reseed W seed) k a = 0
      · exact hr
      · have es : shownE (reseed W seed) k a = ⟨0, runErr (reseed W seed) k a⟩ := if_neg hr
        rw [es] at h2; exact h2
    have es : shownE (reseed W seed) k a = ⟨shownS seed k (clkOf W k) (roomOf W k) a, 0⟩ := if_pos hr
    rw [es]
    have al := allowed_find h
    obtain ⟨s0, s1⟩ := sec_of h
    have f := fixed_bd al.cin al.rok a s0 s1
    have g := walked_bd seed k (clkOf W k).walk 0 a al.cin.walk.1 (Int.le_refl 0) s0
    have i := stray_bd al.cin 0 a (Int.le_refl 0) s0 s1
    have j := white_bd seed k al.cin a
    have l := al.cin.white
    simp only [shownS, phaseS, strayedS]
    omega
  · have er : reachE W k a = ⟨0, 0, findErr W k [a]⟩ := if_neg h
    have hr : runErr (reseed W seed) k a = findErr W k [a] := by
      rw [reseed_run]; unfold runErr; rw [if_neg h]
    have es : shownE (reseed W seed) k a = ⟨0, findErr W k [a]⟩ := by
      unfold shownE; rw [hr, if_neg h]
    rw [er, es]
    exact ⟨fun h2 => absurd h2 h, fun _ => rfl⟩
/-- what is asked of a growth (g) and of two phases -/
structure InGrowth (g : PairErr) (x y : IntErr) : Prop where
  ok : g.e = 0 → (x.e = 0 ∧ y.e = 0) ∧ g.a ≤ y.v - x.v ∧ y.v - x.v ≤ g.b ∧ (-400000000000000 ≤ x.v ∧ x.v ≤ 400000000000000) ∧ (-400000000000000 ≤ y.v ∧ y.v ≤ 400000000000000)
theorem find_two {W : Wld} {k a b : Int} (h : findErr W k [a, b] = 0) : findErr W k [a] = 0 ∧ findErr W k [b] = 0 := by
  obtain ⟨h1, h2, h3⟩ := findErr_zero h
  simp only [secsOk, List.all_cons, List.all_nil, Bool.and_true, Bool.and_eq_true] at h3
  refine ⟨?_, ?_⟩
  · unfold findErr; rw [if_pos h1, if_pos h2, if_pos (by simp [secsOk, h3.1])]
  · unfold findErr; rw [if_pos h1, if_pos h2, if_pos (by simp [secsOk, h3.2])]
theorem holds_growth (W : Wld) (seed k a b : Int) : InGrowth (growthE W k a b) (phaseE (reseed W seed) k a) (phaseE (reseed W seed) k b) := by
  refine ⟨fun hg => ?_⟩
  have hge : growErr W k a b = 0 := by
    by_cases hr : growErr W k a b = 0
    · exact hr
    · have es : growthE W k a b = ⟨0, 0, growErr W k a b⟩ := if_neg hr
      rw [es] at hg; exact hg
  have hf : findErr W k [a, b] = 0 := by
    by_cases hr : findErr W k [a, b] = 0
    · exact hr
    · unfold growErr at hge; rw [if_neg hr] at hge; exact hge
  have hab : a ≤ b := by
    unfold growErr at hge; rw [if_pos hf] at hge
    by_cases hl : b < a
    · rw [if_pos hl] at hge; omega
    · omega
  have eg : growthE W k a b = ⟨fixedS (clkOf W k) (roomOf W k) b - fixedS (clkOf W k) (roomOf W k) a - strayedS (clkOf W k) a b, fixedS (clkOf W k) (roomOf W k) b - fixedS (clkOf W k) (roomOf W k) a + strayedS (clkOf W k) a b, 0⟩ := if_pos hge
  obtain ⟨fa, fb⟩ := find_two hf
  have ea : phaseE (reseed W seed) k a = ⟨phaseS seed k (clkOf W k) (roomOf W k) a, 0⟩ := if_pos fa
  have eb : phaseE (reseed W seed) k b = ⟨phaseS seed k (clkOf W k) (roomOf W k) b, 0⟩ := if_pos fb
  rw [eg, ea, eb]
  have al := allowed_find fa
  obtain ⟨a0, a1⟩ := sec_of fa
  obtain ⟨b0, b1⟩ := sec_of fb
  have p1 := phase_bd seed k al.cin al.rok a a0 a1
  have p2 := phase_bd seed k al.cin al.rok b b0 b1
  have g := walked_bd seed k (clkOf W k).walk a b al.cin.walk.1 a0 hab
  have w := walked_add seed k (clkOf W k).walk a b a0 hab
  simp only [strayedS]
  have q1 : phaseS seed k (clkOf W k) (roomOf W k) a = fixedS (clkOf W k) (roomOf W k) a + walkedS seed k (clkOf W k).walk 0 a := rfl
  have q2 : phaseS seed k (clkOf W k) (roomOf W k) b = fixedS (clkOf W k) (roomOf W k) b + walkedS seed k (clkOf W k).walk 0 b := rfl
  simp only [true_and, and_true]
  omega
end Go.Proofs.YtehjkmnamgafaaaDoor
