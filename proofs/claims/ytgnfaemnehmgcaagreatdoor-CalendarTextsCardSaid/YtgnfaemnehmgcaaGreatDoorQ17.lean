/- Layer 9 (calendar): lists of leaps that are cloned, compared, copied. -/
import Derived.Test.YtgnfaemnehmgcaaGreatDoorQ14
import Derived.Test.YtgnfaemnehmgcaaGreatDoorQ06
import Derived.Lib.SliceRun
import Derived.Test.YtgnfaemnehmgcaaGreatDoorQ16
namespace Go.Proofs.YtgnfaemnehmgcaaGreatDoor.Cal
open Go Go.RowKit
attribute [local go_sem] Oper.semAt_some
theorem infoLeapR : (Tryz.prog.info? 63).map (fun i => (i.zero, i.size, i.bytes)) = some (some (.agg #[.int .i64 0, .int .i64 0]), 2, 16) := by kernel_rfl
theorem eql_nilL (w : World) (a : Option Addr) (n c n' c' : Nat) : (binOp .eql 22 (.slice a n c) (.slice none n' c')).run Tryz.prog w = .ok (.bool a.isNone) w := Lib.run_eql_slice_nil w _ _ a n c n' c' Tryz.underlying22
attribute [local go_sem] eql_nilL
theorem empty_own (w : World) : (w.alloc (.cells #[] 33)).ownsRow w.heap.size 33 2 (.slice (some ⟨w.heap.size, 0, none⟩) 0 0) 0 [] :=
  ⟨rfl, .inr ⟨w.heap.size, 0, #[], rfl, Nat.le_refl _, heap_alloc_new w _, Nat.le_refl _, Nat.zero_le _, rfl, rfl⟩⟩
set_option maxRecDepth 100000 in
set_option maxHeartbeats 1000000 in
theorem clone_any (f : Nat → Int × Int) (n c : Nat) (p : Option Addr) (w : World) (hn : n ≤ 1000) (hp : p = none → n = 0) (hs : LpIn w f n p) :
    Calls Tryz.prog 70 #[.slice p n c] w fun e w' => ∃ q cq, e = .returned (.slice q n cq) ∧ n ≤ cq ∧ cq ≤ maxLen ∧ LpIn w' f n q ∧ (∀ b o, q = some ⟨b, o, none⟩ → w.heap.size ≤ b) ∧ Below w.heap.size w w' := by
  cases p with
  | none =>
    obtain rfl : n = 0 := hp rfl
    clear hp hs
    go_enter Tryz.func70, Tryz.ntmps70
    go_wp2
    go_ret
    exact ⟨none, 0, rfl, Nat.le_refl _, by simp [maxLen], .inl rfl, fun b o e => (by cases e), Below.refl _ _⟩
  | some a =>
    obtain ⟨i0, hi0, hz0, hz1, hz2⟩ := info_parts infoLeap
    have b1 := below_alloc (Below.refl w.heap.size w) (.cells #[] 33)
    have hcell : ∀ j u, (lv f n)[j]? = some u → (w.alloc (.cells #[] 33)).cell? (a.add j) = some u := fun j u hj => by
      have hlt : j < n * 2 := by rw [← lv_len f n]; exact (List.getElem?_eq_some_iff.1 hj).1
      obtain ⟨bb, oo, e, hsi⟩ := hs.resolve_left (by omega)
      cases e
      exact lv_cells (hsi.below b1) j u hj
    have HCE := Lib.hid hcell
    have HEO := Lib.hid (empty_own w)
    have HB1 := Lib.hid b1
    clear hcell hs hp b1
    go_enter Tryz.func70, Tryz.ntmps70
    go_wp2_with (at_builtin; refine wpList_append_own_at _ rfl _ _ _ rfl w.heap.size 33 i0 (.agg #[.int .i64 0, .int .i64 0]) 2 16 Tryz.underlying22 hi0 hz0 hz1 hz2 rfl (by decide) _ 0 [] rfl HEO.out a n c (lv f n) rfl (by rw [lv_len]) HCE.out (lv_one f n) (by unfold maxLen; omega) (by omega) (by simp) ?_; intro v' w1 hown hg _ _; have HOWN := Lib.hid hown; have HG := Lib.hid hg; clear hown hg)
    have HB := Lib.hid (Below.grown HB1.out HG.out HB1.out.size (fun k hk => by
      have e : (some w.heap.size : Option Nat) = some k := hk
      cases e
      exact Nat.le_refl _))
    have hown := HOWN.out
    simp only [Nat.zero_add, List.nil_append] at hown
    obtain ⟨q, cq, rfl, h1, h2, h3, h4⟩ := own_leaps hown
    have H3 := Lib.hid h3
    have H4 := Lib.hid h4
    have H12 := Lib.hid (And.intro h1 h2)
    clear hown HOWN HG h1 h2 h3 h4
    go_wp2_with fail
    go_ret
    exact ⟨q, cq, rfl, H12.out.1, H12.out.2, H3.out, H4.out, HB.out⟩
end Go.Proofs.YtgnfaemnehmgcaaGreatDoor.Cal
