/-  ·  -/
import Derived.Test.YtgnfaemnehmgcaaGreatDoorQ07
import Derived.Test.YtgnfaemnehmgcaaGreatDoorQ08
import Derived.Lib.SliceRun
namespace Go.Proofs.YtgnfaemnehmgcaaGreatDoor.Cal
open Go Go.RowKit
attribute [local go_sem] Oper.semAt_some
theorem infoLeapR : (Tryz.prog.info? 63).map (fun i => (i.zero, i.size, i.bytes)) = some (some (.agg #[.int .i64 0, .int .i64 0]), 2, 16) := by kernel_rfl
theorem eql_nilL (w : World) (a : Option Addr) (n c n' c' : Nat) : (binOp .eql 22 (.slice a n c) (.slice none n' c')).run Tryz.prog w = .ok (.bool a.isNone) w := Lib.run_eql_slice_nil w _ _ a n c n' c' Tryz.underlying22
attribute [local go_sem] eql_nilL
theorem empty_own (w : World) : (w.alloc (.cells #[] 33)).ownsRow w.heap.size 33 2 (.slice (some ⟨w.heap.size, 0, none⟩) 0 0) 0 [] :=
  ⟨rfl, .inr ⟨w.heap.size, 0, #[], rfl, Nat.le_refl _, heap_alloc_new w _, Nat.le_refl _, Nat.zero_le _, rfl, rfl⟩⟩
set_option maxRecDepth 100000 in
set_option maxHeartbeats 1000000 in
theorem clone_any (f : Nat → Int × Int) (n c : Nat) (p : Option Addr) (w : World) (hn : n ≤ 1000) (hp : p = none → n = 0) (hs : LpIn w f n p) :
    Calls Tryz.prog 70 #[.slice p n c] w fun e w' => ∃ q cq, e = .returned (.slice q n cq) ∧ n ≤ cq ∧ cq ≤ maxLen ∧ LpIn w' f n q ∧ (∀ b o, q = some ⟨b, o, none⟩ → w.heap.size ≤ b) ∧ Below w.heap.size w w' := by
  cases p with
  | none =>
    obtain rfl : n = 0 := hp rfl
    clear hp hs
    go_enter Tryz.func70, Tryz.ntmps70
    go_wp2
    go_ret
    exact ⟨none, 0, rfl, Nat.le_refl _, by simp [maxLen], .inl rfl, fun b o e => (by cases e), Below.refl _ _⟩
  | some a =>
    obtain ⟨i0, hi0, hz0, hz1, hz2⟩ := info_parts infoLeap
    have b1 := below_alloc (Below.refl w.heap.size w) (.cells #[] 33)
    have hcell : ∀ j u, (lv f n)[j]? = some u → (w.alloc (.cells #[] 33)).cell? (a.add j) = some u := fun j u hj => by
      have hlt : j < n * 2 := by rw [← lv_len f n]; exact (List.getElem?_eq_some_iff.1 hj).1
      obtain ⟨bb, oo, e, hsi⟩ := hs.resolve_left (by omega)
      cases e
      exact lv_cells (hsi.below b1) j u hj
    have HCE := Lib.hid hcell
    have HEO := Lib.hid (empty_own w)
    have HB1 := Lib.hid b1
    clear hcell hs hp b1
    go_enter Tryz.func70, Tryz.ntmps70
    go_wp2_with (at_builtin; refine wpList_append_own_at _ rfl _ _ _ rfl w.heap.size 33 i0 (.agg #[.int .i64 0, .int .i64 0]) 2 16 Tryz.underlying22 hi0 hz0 hz1 hz2 rfl (by decide) _ 0 [] rfl HEO.out a n c (lv f n) rfl (by rw [lv_len]) HCE.out (lv_one f n) (by unfold maxLen; omega) (by omega) (by simp) ?_; intro v' w1 hown hg _ _; have HOWN := Lib.hid hown; have HG := Lib.hid hg; clear hown hg)
    have HB := Lib.hid (Below.grown HB1.out HG.out HB1.out.size (fun k hk => by
      have e : (some w.heap.size : Option Nat) = some k := hk
      cases e
      exact Nat.le_refl _))
    have hown := HOWN.out
    simp only [Nat.zero_add, List.nil_append] at hown
    obtain ⟨q, cq, rfl, h1, h2, h3, h4⟩ := own_leaps hown
    have H3 := Lib.hid h3
    have H4 := Lib.hid h4
    have H12 := Lib.hid (And.intro h1 h2)
    clear hown HOWN HG h1 h2 h3 h4
    go_wp2_with fail
    go_ret
    exact ⟨q, cq, rfl, H12.out.1, H12.out.2, H3.out, H4.out, HB.out⟩
end Go.Proofs.YtgnfaemnehmgcaaGreatDoor.Cal
namespace Go.Proofs.YtgnfaemnehmgcaaGreatDoor.Cal
open Go Go.RowKit
attribute [local go_sem] Oper.semAt_some
set_option maxHeartbeats 1000000 in
theorem equalL_yes (f : Nat → Int × Int) (n c1 c2 : Nat) (p q : Option Addr) (w : World) (hn : n ≤ 1000000000) (h1 : LpIn w f n p) (h2 : LpIn w f n q) :
    Calls Tryz.prog 72 #[.slice p n c1, .slice q n c2] w fun e w' => e = .returned (.bool true) ∧ Below w.heap.size w w' := by
  have H1 := Lib.hid h1
  have H2 := Lib.hid h2
  clear h1 h2
  go_enter Tryz.func72, Tryz.ntmps72
  go_wp2_with fail
  go_loopw [4, 5, 13] (fun s4 s5 s13 wr => ∃ (k : Nat) (v5 : Value), k ≤ n ∧ s4 = .bool false ∧ s5 = v5 ∧ s13 = .int .i64 (k : Int) ∧ Hid (Below w.heap.size w wr)) (fun _ _ s _ => n - (intOf s).toNat)
  case atStart => exact ⟨0, _, Nat.zero_le _, rfl, rfl, rfl, Lib.hid (Below.refl _ _)⟩
  case round =>
    obtain ⟨k, v5, hk, rfl, rfl, rfl, HB⟩ := hrel
    by_cases hlt : k < n
    · have hki : (k : Int) < n := by omega
      have vk : IntKind.i64.wrap ((k : Int) + 1) = (k : Int) + 1 := IntWalk.i64_in _ (by omega)
      obtain ⟨b1, o1, rfl, hi1⟩ := H1.out.resolve_left (by omega)
      obtain ⟨b2, o2, rfl, hi2⟩ := H2.out.resolve_left (by omega)
      obtain ⟨x1, x2⟩ := (hi1.below HB.out) k hlt
      obtain ⟨y1, y2⟩ := (hi2.below HB.out) k hlt
      have z1 := cell_lt x1
      have z2 := cell_lt y1
      have HK := Lib.hid hlt
      clear hlt hi1 hi2
      generalize (f k).1 = dk at *
      generalize (f k).2 = sk at *
      go_wp2_with fail
      go_quiet (fail)
      go_wp2_with fail
      go_roundw
      case rel => exact ⟨k + 1, _, HK.out, rfl, rfl, by simp, Lib.hid (below_drewN HB.out _)⟩
      case measure => have := HK.out; simp [intOf]; omega
    · obtain rfl : k = n := by omega
      have hki : ¬ ((k : Int) < k) := by omega
      clear hlt
      go_wp2_with fail
      go_ret
      exact ⟨rfl, HB.out⟩
theorem kept_yes (b u : Int) (f : Nat → Int × Int) (n c1 c2 : Nat) (p q : Option Addr) (w : World) (hn : n ≤ 1000000000) (h1 : LpIn w f n p) (h2 : LpIn w f n q) :
    Calls Tryz.prog 18 #[.agg #[.int .i64 b, .slice p n c1, .int .i64 u], .agg #[.int .i64 b, .slice q n c2, .int .i64 u]] w fun e w' => e = .returned (.bool true) ∧ Below w.heap.size w w' := by
  have b1 := below_alloc (Below.refl w.heap.size w) (.cells #[.int .i64 b, .slice p n c1, .int .i64 u] 24)
  have t1 := TBox.new w b u n c1 p 24
  have e1 : (w.alloc (.cells #[.int .i64 b, .slice p n c1, .int .i64 u] 24)).heap.size = w.heap.size + 1 := by simp
  have b2 := below_alloc (Below.refl (w.alloc (.cells #[.int .i64 b, .slice p n c1, .int .i64 u] 24)).heap.size (w.alloc (.cells #[.int .i64 b, .slice p n c1, .int .i64 u] 24))) (.cells #[.int .i64 b, .slice q n c2, .int .i64 u] 24)
  have t2 := TBox.new (w.alloc (.cells #[.int .i64 b, .slice p n c1, .int .i64 u] 24)) b u n c2 q 24
  rw [e1] at t2
  obtain ⟨x0, x1, x2⟩ := t1.below b2
  obtain ⟨y0, y1, y2⟩ := t2
  have A0 := bt b1 b2
  have HEQ := Lib.hid (equalL_yes f n c1 c2 p q _ hn (h1.below A0) (h2.below A0))
  have A0 := Lib.hid A0
  clear b1 b2 t1 e1 h1 h2
  go_enter Tryz.func18, Tryz.ntmps18
  go_upto_region 1 with fail
  generalize (w.alloc (.cells #[.int .i64 b, .slice p n c1, .int .i64 u] 24)).alloc (.cells #[.int .i64 b, .slice q n c2, .int .i64 u] 24) = W1 at *
  have zx := cell_lt x0
  have zy := cell_lt y0
  go_wp2_with (go_at_call 72; refine HEQ.out.mono ?_; rintro e w2 ⟨rfl, hb2⟩; have HB2 := Lib.hid hb2; clear hb2)
  go_ret
  exact ⟨rfl, bt A0.out HB2.out⟩
end Go.Proofs.YtgnfaemnehmgcaaGreatDoor.Cal
