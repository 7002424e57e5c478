/- Contracts of layer 3: Exchange, of the program and of the reference, where the sizes are refused. · Contracts of layer 3: Exchange of the program, where a number is out of range; all cases. -/
import Derived.Test.YthkndjkgokojmaaRa
import Derived.Test.YthkndjkgokojmaaStN
import Derived.Test.YthkndjkgokojmaaSv
import Derived.Test.YthkndjkgokojmaaPa
namespace Go.Proofs.Ythkndjkgokojmaa
section
open Go Go.RowKit Go.Shelf
def exNo (e : Int) : Value := .tuple #[.agg #[.int .i64 0, .int .i64 0], .int .i64 e]
set_option maxRecDepth 100000 in
set_option maxHeartbeats 1000000 in
theorem oexch_none (p q : Option Addr) (n m ca cb : Nat) (w : World) (h : n = 0 ∨ m = 0) :
    Calls Try.prog 20 #[.slice p n ca, .slice q m cb] w fun e w' => e = .returned (exNo 1) ∧ Below w.heap.size w w' := by
  have A0 := Lib.hid (below_alloc (Below.refl w.heap.size w) (.cells #[.int .i64 0, .int .i64 0] 24))
  by_cases h0 : n = 0
  · subst h0
    clear h
    go_enter Try.func20, Try.ntmps20
    go_wp2
    exact bodyPost_ret (v := exNo 1) (by simp [results, Try.results20, go_sem, exNo]) rfl ⟨rfl, A0.out⟩
  · obtain rfl : m = 0 := h.resolve_left h0
    have hne : ((n : Int) == 0) = false := by simp; omega
    have hne2 : ¬ ((n : Int) = 0) := by omega
    clear h
    go_enter Try.func20, Try.ntmps20
    go_wp2
    exact bodyPost_ret (v := exNo 1) (by simp [results, Try.results20, go_sem, exNo]) rfl ⟨rfl, A0.out⟩
set_option maxRecDepth 100000 in
set_option maxHeartbeats 1000000 in
theorem oexch_many (p q : Option Addr) (n m ca cb : Nat) (w : World) (hn : 1 ≤ n) (hm : 1 ≤ m) (h : 16 < n + m) (hb : n + m ≤ 1000000) :
    Calls Try.prog 20 #[.slice p n ca, .slice q m cb] w fun e w' => e = .returned (exNo 2) ∧ Below w.heap.size w w' := by
  have A0 := Lib.hid (below_alloc (Below.refl w.heap.size w) (.cells #[.int .i64 0, .int .i64 0] 24))
  have hne : ((n : Int) == 0) = false := by simp; omega
  have hne2 : ¬ ((n : Int) = 0) := by omega
  have hne3 : ((m : Int) == 0) = false := by simp; omega
  have hne4 : ¬ ((m : Int) = 0) := by omega
  have w1 : IntKind.i64.wrap ((n : Int) + (m : Int)) = (n : Int) + (m : Int) := IntWalk.i64_in _ (by omega)
  have hgt : (16 : Int) < (n : Int) + (m : Int) := by omega
  go_enter Try.func20, Try.ntmps20
  go_wp2
  exact bodyPost_ret (v := exNo 2) (by simp [results, Try.results20, go_sem, exNo]) rfl ⟨rfl, A0.out⟩
set_option maxRecDepth 100000 in
set_option maxHeartbeats 1000000 in
theorem rexch_none (p q : Option Addr) (n m ca cb : Nat) (w : World) (h : n = 0 ∨ m = 0) :
    Calls Try.prog 21 #[.slice p n ca, .slice q m cb] w fun e w' => e = .returned (exNo 1) ∧ Below w.heap.size w w' := by
  have A0 := Lib.hid (below_alloc (Below.refl w.heap.size w) (.cells #[.int .i64 0, .int .i64 0] 24))
  by_cases h0 : n = 0
  · subst h0
    clear h
    go_enter Try.func21, Try.ntmps21
    go_wp2
    exact bodyPost_ret (v := exNo 1) (by simp [results, Try.results21, go_sem, exNo]) rfl ⟨rfl, A0.out⟩
  · obtain rfl : m = 0 := h.resolve_left h0
    have hne : ((n : Int) == 0) = false := by simp; omega
    have hne2 : ¬ ((n : Int) = 0) := by omega
    clear h
    go_enter Try.func21, Try.ntmps21
    go_wp2
    exact bodyPost_ret (v := exNo 1) (by simp [results, Try.results21, go_sem, exNo]) rfl ⟨rfl, A0.out⟩
set_option maxRecDepth 100000 in
set_option maxHeartbeats 1000000 in
theorem rexch_many (p q : Option Addr) (n m ca cb : Nat) (w : World) (hn : 1 ≤ n) (hm : 1 ≤ m) (h : 16 < n + m) (hb : n + m ≤ 1000000) :
    Calls Try.prog 21 #[.slice p n ca, .slice q m cb] w fun e w' => e = .returned (exNo 2) ∧ Below w.heap.size w w' := by
  have A0 := Lib.hid (below_alloc (Below.refl w.heap.size w) (.cells #[.int .i64 0, .int .i64 0] 24))
  have hne : ((n : Int) == 0) = false := by simp; omega
  have hne2 : ¬ ((n : Int) = 0) := by omega
  have hne3 : ((m : Int) == 0) = false := by simp; omega
  have hne4 : ¬ ((m : Int) = 0) := by omega
  have w1 : IntKind.i64.wrap ((n : Int) + (m : Int)) = (n : Int) + (m : Int) := IntWalk.i64_in _ (by omega)
  have hgt : (16 : Int) < (n : Int) + (m : Int) := by omega
  go_enter Try.func21, Try.ntmps21
  go_wp2
  exact bodyPost_ret (v := exNo 2) (by simp [results, Try.results21, go_sem, exNo]) rfl ⟨rfl, A0.out⟩
end
section
open Go Go.RowKit Go.Shelf
def numB (x : Int) : Bool := decide (-1000000000000 ≤ x) && decide (x ≤ 1000000000000)
theorem numB_yes {x : Int} (h : numB x = true) : -1000000000000 ≤ x ∧ x ≤ 1000000000000 := by simpa [numB] using h
theorem numB_no {x : Int} (h : numB x = false) : ¬ (-1000000000000 ≤ x ∧ x ≤ 1000000000000) := fun hx => by simp [numB, hx] at h
theorem first_bad : ∀ (l : List Int), l.all numB = false → ∃ j, j < l.length ∧ numB (atL l j) = false ∧ ∀ i, i < j → numB (atL l i) = true
  | [], h => by simp at h
  | x :: l, h => by
    by_cases hx : numB x = true
    · rw [List.all_cons, hx, Bool.true_and] at h
      obtain ⟨j, h1, h2, h3⟩ := first_bad l h
      refine ⟨j + 1, by simpa using h1, by rw [atL_succ]; exact h2, fun i hi => ?_⟩
      cases i with
      | zero => exact hx
      | succ i => rw [atL_succ]; exact h3 i (by omega)
    · exact ⟨0, by simp, show numB x = false by simpa using hx, fun i hi => absurd hi (Nat.not_lt_zero i)⟩
theorem all_at {l : List Int} (h : l.all numB = true) (i : Nat) : numB (atL l i) = true := by
  by_cases hi : i < l.length
  · have := List.all_eq_true.1 h _ (List.getElem_mem hi)
    rwa [atL_get] at this
  · have : atL l i = 0 := by simp [atL, show l[i]? = none from List.getElem?_eq_none (by omega)]
    rw [this]; rfl
set_option maxRecDepth 100000 in
set_option maxHeartbeats 2000000 in
theorem Exchange_bad (ba oa ca bb ob cb : Nat) (a b : List Int) (w : World) (ha : 1 ≤ a.length) (hb : 1 ≤ b.length) (h16 : a.length + b.length ≤ 16) (hA : IntsAt w a ba oa) (hB : IntsAt w b bb ob)
    (j : Nat) (hj : j < a.length + b.length) (hbad : numB (atL (a ++ b) j) = false) (hpre : ∀ i, i < j → numB (atL (a ++ b) i) = true) :
    Calls Try.prog 20 #[.slice (some ⟨ba, oa, none⟩) a.length ca, .slice (some ⟨bb, ob, none⟩) b.length cb] w fun e w' =>
      e = .returned (exNo 6) ∧ Below w.heap.size w w' := by
  have a0 := below_alloc (Below.refl w.heap.size w) (.cells #[.int .i64 0, .int .i64 0] 24)
  have a1 := below_alloc a0 (.cells #[.slice (some ⟨ba, oa, none⟩) a.length ca, .slice (some ⟨bb, ob, none⟩) b.length cb] 22)
  have HT := Lib.hid (show TwoAt ((w.alloc (.cells #[.int .i64 0, .int .i64 0] 24)).alloc (.cells #[.slice (some ⟨ba, oa, none⟩) a.length ca, .slice (some ⟨bb, ob, none⟩) b.length cb] 22)) (w.heap.size + 1) a b ba oa ca bb ob cb from ⟨by simp, by simp, hA.below a1, hB.below a1⟩)
  have HC := Lib.hid (concat_any _ _ _ _ _ _ _ a b _ ha hb h16 HT.out)
  have A1 := Lib.hid a1
  have r0 : ((w.alloc (.cells #[.int .i64 0, .int .i64 0] 24)).alloc (.cells #[.slice (some ⟨ba, oa, none⟩) a.length ca, .slice (some ⟨bb, ob, none⟩) b.length cb] 22)).cell? ⟨w.heap.size, 0, none⟩ = some (.int .i64 0) := by simp [go_sem]
  have r1 : ((w.alloc (.cells #[.int .i64 0, .int .i64 0] 24)).alloc (.cells #[.slice (some ⟨ba, oa, none⟩) a.length ca, .slice (some ⟨bb, ob, none⟩) b.length cb] 22)).cell? ⟨w.heap.size, 1, none⟩ = some (.int .i64 0) := by simp [go_sem]
  have q0 : ((w.alloc (.cells #[.int .i64 0, .int .i64 0] 24)).alloc (.cells #[.slice (some ⟨ba, oa, none⟩) a.length ca, .slice (some ⟨bb, ob, none⟩) b.length cb] 22)).frozen? ⟨w.heap.size, 0, none⟩ = false := by simp [go_sem]
  have q1 : ((w.alloc (.cells #[.int .i64 0, .int .i64 0] 24)).alloc (.cells #[.slice (some ⟨ba, oa, none⟩) a.length ca, .slice (some ⟨bb, ob, none⟩) b.length cb] 22)).frozen? ⟨w.heap.size, 1, none⟩ = false := by simp [go_sem]
  have R0 := Lib.hid r0
  have R1 := Lib.hid r1
  have Q0 := Lib.hid q0
  have Q1 := Lib.hid q1
  have hea : ((a.length : Int) == 0) = false := beq_eq_false_iff_ne.2 (by omega)
  have heb : ((b.length : Int) == 0) = false := beq_eq_false_iff_ne.2 (by omega)
  have hsi : (a.length : Int) + b.length ≤ 16 := by omega
  clear hA hB a0 a1 r0 r1 q0 q1 HT
  go_enter Try.func20, Try.ntmps20
  go_wp2_with fail
  refine HC.out.mono ?_
  rintro e w2 ⟨v, rfl, hrow, hb2⟩
  have hrow' := hrow
  rw [← List.length_append] at hrow'
  obtain ⟨p, cap, rfl, hS, -, hcap⟩ := ints_own hrow'
  have HSP := Lib.hid (show SerIn w2 (a ++ b) p from ⟨by rw [List.length_append]; unfold maxLen; omega, hS⟩)
  have HB2 := Lib.hid (A1.out.trans (hb2.mono A1.out.size))
  have y0 := cell_below hb2 R0.out
  have y1 := cell_below hb2 R1.out
  have f0 := (hb2.frozen (p := ⟨w.heap.size, 0, none⟩) (cell_lt R0.out)).trans Q0.out
  have f1 := (hb2.frozen (p := ⟨w.heap.size, 1, none⟩) (cell_lt R1.out)).trans Q1.out
  have HLN := Lib.hid (show (a ++ b).length = a.length + b.length from List.length_append)
  generalize hP' : a ++ b = P at *
  have HPP := Lib.hid hP'
  have hjP : j < P.length := by rw [HLN.out]; exact hj
  have HBAD := Lib.hid hbad
  have HPRE := Lib.hid hpre
  clear hrow hrow' hS hb2 hP' HC R0 R1 Q0 Q1 hbad hpre
  go_wp2
  go_loop [31] (fun i => ∃ k : Nat, k ≤ j ∧ i = .int .i64 (k : Int)) (fun i => j - (intOf i).toNat)
  case atStart => exact ⟨0, Nat.zero_le _, rfl⟩
  case round =>
    obtain ⟨k, hk, rfl⟩ := hrel
    obtain ⟨bp, op, rfl, hi⟩ := HSP.out.2.resolve_left (by omega)
    have x0 := hi k (by omega)
    rw [atL_get] at x0
    have hkl : (k : Int) < (P.length : Int) := by omega
    clear hi
    by_cases hlt : k < j
    · have HW := Lib.hid (fun W => within_yes (atL P k) (-1000000000000) 1000000000000 W (numB_yes (HPRE.out k hlt)))
      go_wp2_with (go_at_call 56; refine (HW.out _).mono ?_; rintro e w1 ⟨rfl, rfl⟩)
      go_round
      case rel => exact ⟨k + 1, by omega, by go_num⟩
      case measure => simp [intOf]; omega
    · obtain rfl : k = j := by omega
      have HW := Lib.hid (fun W => within_no (atL P k) (-1000000000000) 1000000000000 W (numB_no HBAD.out))
      obtain ⟨z0, z1⟩ := set2 (.int .i64 0) (.int .i64 0) y0 y1
      have HB3 := Lib.hid ((HB2.out.setCell (p := ⟨w.heap.size, 0, none⟩) (Nat.le_refl _) (.int .i64 0)).setCell (p := ⟨w.heap.size, 1, none⟩) (Nat.le_refl _) (.int .i64 0))
      go_wp2_with (go_at_call 56; refine (HW.out _).mono ?_; rintro e w1 ⟨rfl, rfl⟩)
      exact bodyPost_ret (v := exNo 6) (by simp [results, Try.results20, go_sem, exNo, z0, z1]) rfl ⟨rfl, HB3.out⟩
/-- what Exchange answers -/
def exchE (a b : List Int) : VarE :=
  if a.length = 0 ∨ b.length = 0 then ⟨0, 0, 1⟩ else if 16 < a.length + b.length then ⟨0, 0, 2⟩ else
    if (a ++ b).all numB = true then ⟨lowN (cg (a ++ b) a.length (sumL a)) (cs (a.length + b.length) a.length), lowD (cg (a ++ b) a.length (sumL a)) (cs (a.length + b.length) a.length), 0⟩ else ⟨0, 0, 6⟩
theorem oexch_any (a b : List Int) (p q : Option Addr) (ca cb : Nat) (w : World) (hp : SliceIn p a.length (IntsAt w a)) (hq : SliceIn q b.length (IntsAt w b)) (hl : a.length + b.length ≤ 1000000) :
    Calls Try.prog 20 #[.slice p a.length ca, .slice q b.length cb] w fun e w' => e = .returned (varVal (exchE a b)) ∧ Below w.heap.size w w' := by
  unfold exchE
  by_cases h0 : a.length = 0 ∨ b.length = 0
  · rw [if_pos h0]
    exact oexch_none p q a.length b.length ca cb w h0
  · rw [if_neg h0]
    by_cases h16 : 16 < a.length + b.length
    · rw [if_pos h16]
      exact oexch_many p q a.length b.length ca cb w (by omega) (by omega) h16 hl
    · rw [if_neg h16]
      obtain ⟨ba, oa, rfl, hA⟩ := hp.resolve_left (by omega)
      obtain ⟨bb, ob, rfl, hB⟩ := hq.resolve_left (by omega)
      by_cases hall : (a ++ b).all numB = true
      · rw [if_pos hall]
        refine (Exchange_ok ba oa ca bb ob cb a b w (by omega) (by omega) (by omega) hA hB (fun i => numB_yes (all_at hall i))).mono fun e w' h => ⟨?_, h.2⟩
        rw [h.1, exN_eq, exS_eq0]; rfl
      · rw [if_neg hall]
        obtain ⟨j, h1, h2, h3⟩ := first_bad (a ++ b) (Bool.eq_false_iff.2 hall)
        rw [List.length_append] at h1
        exact Exchange_bad ba oa ca bb ob cb a b w (by omega) (by omega) (by omega) hA hB j h1 h2 h3
end
end Go.Proofs.Ythkndjkgokojmaa
