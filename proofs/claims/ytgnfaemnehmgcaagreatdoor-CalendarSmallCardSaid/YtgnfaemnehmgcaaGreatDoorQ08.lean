/-  ·  ·  -/
import Derived.Test.YtgnfaemnehmgcaaGreatDoorQ04
import Derived.Lib.SmallJoins
import Derived.Deep.Slices
import Derived.OpenShut
import Derived.ChangeSame
import Derived.Test.YtgnfaemnehmgcaaGreatDoorQ07
import Derived.Lib.SliceRun
namespace Go.Proofs.YtgnfaemnehmgcaaGreatDoor.Cal
open Go Go.RowKit Go.WideShapes Go.ChangeShapes Go.Deep Go.Joins
theorem add_plain (b o k : Nat) : (⟨b, o, none⟩ : Addr).add k = ⟨b, o + k, none⟩ := by
  simp only [Addr.add]; split <;> simp_all
section
variable {H : Type} {enc : TypeId × Value → H} {P : Program} {w : World} {base : Nat} {spare : Nat → Bool} {held : Bool}
end
end Go.Proofs.YtgnfaemnehmgcaaGreatDoor.Cal
namespace Go.Proofs.YtgnfaemnehmgcaaGreatDoor.Cal
open Go Go.RowKit
attribute [local go_sem] Oper.semAt_some
theorem infoLeap : (Tryz.prog.info? 33).map (fun i => (i.zero, i.size, i.bytes)) = some (some (.agg #[.int .i64 0, .int .i64 0]), 2, 16) := by kernel_rfl
def lv (f : Nat → Int × Int) : Nat → List Value
  | 0 => []
  | k + 1 => lv f k ++ [.int .i64 (f k).1, .int .i64 (f k).2]
theorem lv_len (f : Nat → Int × Int) : ∀ k, (lv f k).length = k * 2
  | 0 => rfl
  | k + 1 => by rw [lv, List.length_append, lv_len f k]; simp; omega
theorem lv_get (f : Nat → Int × Int) : ∀ k i, i < k → (lv f k)[i * 2]? = some (.int .i64 (f i).1) ∧ (lv f k)[i * 2 + 1]? = some (.int .i64 (f i).2)
  | 0, i, h => by omega
  | k + 1, i, h => by
    have hl := lv_len f k
    rw [lv]
    by_cases e : i = k
    · subst e
      rw [List.getElem?_append_right (by omega), List.getElem?_append_right (by omega), hl]
      simp
    · have := lv_get f k i (by omega)
      rw [List.getElem?_append_left (by omega), List.getElem?_append_left (by omega)]
      exact this
theorem lv_one (f : Nat → Int × Int) (k : Nat) : ∀ u ∈ lv f k, u.oneCell' = true := by
  induction k with
  | zero => intro u hu; cases hu
  | succ k ih =>
    intro u hu
    rw [lv] at hu
    rcases List.mem_append.1 hu with h | h
    · exact ih u h
    · simp at h; rcases h with rfl | rfl <;> rfl
theorem lv_cells {w : World} {f : Nat → Int × Int} {n b o : Nat} (h : LpAt w f n b o) : ∀ j u, (lv f n)[j]? = some u → w.cell? ((⟨b, o, none⟩ : Addr).add j) = some u := by
  intro j u hj
  have hlt : j < n * 2 := by rw [← lv_len f n]; exact (List.getElem?_eq_some_iff.1 hj).1
  rw [add_plain]
  have e : j = (j / 2) * 2 ∨ j = (j / 2) * 2 + 1 := by omega
  obtain ⟨g0, g1⟩ := lv_get f n (j / 2) (by omega)
  obtain ⟨c0, c1⟩ := h (j / 2) (by omega)
  rcases e with e | e
  · rw [e] at hj ⊢
    rw [g0] at hj
    cases hj
    exact c0
  · rw [e] at hj ⊢
    rw [g1] at hj
    cases hj
    rw [← Nat.add_assoc]
    exact c1
theorem own_leaps {X : World} {B : Nat} {e : TypeId} {v : Value} {n : Nat} {f : Nat → Int × Int} (h : X.ownsRow B e 2 v n (lv f n)) : ∃ p c, v = .slice p n c ∧ n ≤ c ∧ c ≤ maxLen ∧ LpIn X f n p ∧ (∀ b o, p = some ⟨b, o, none⟩ → B ≤ b) := by
  rcases h.2 with ⟨rfl, h0⟩ | ⟨g, cap, cur, rfl, hge, hg, hc, hcm, hs, ht⟩
  · subst h0
    exact ⟨none, 0, rfl, Nat.le_refl _, by simp [maxLen], .inl rfl, fun b o e => by cases e⟩
  · refine ⟨some ⟨g, 0, none⟩, cap, rfl, hc, hcm, .inr ⟨g, 0, rfl, fun i hi => ?_⟩, fun b o e => by cases e; exact hge⟩
    obtain ⟨g0, g1⟩ := lv_get f n i hi
    have get : ∀ j u, (lv f n)[j]? = some u → j < n * 2 → X.cell? ⟨g, j, none⟩ = some u := fun j u hj hlt => by
      have e1 : cur.toList[j]? = some u := by
        rw [← hj, ← ht, List.getElem?_take, if_pos hlt]
      have e2 : cur[j]? = some u := by rw [← e1]; simp
      simp [World.cell?, hg, e2]
    rw [Nat.zero_add]
    exact ⟨get _ _ g0 (by omega), get _ _ g1 (by omega)⟩
end Go.Proofs.YtgnfaemnehmgcaaGreatDoor.Cal
namespace Go.Proofs.YtgnfaemnehmgcaaGreatDoor.Cal
open Go Go.RowKit
attribute [local go_sem] Oper.semAt_some
theorem infoChgQ : (Tryz.prog.info? 35).map (fun i => (i.zero, i.size, i.bytes)) = some (some (.agg #[.int .i64 0, .int .i64 0]), 2, 16) := by kernel_rfl
theorem infoChgR : (Tryz.prog.info? 110).map (fun i => (i.zero, i.size, i.bytes)) = some (some (.agg #[.int .i64 0, .int .i64 0]), 2, 16) := by kernel_rfl
theorem eql_nilC (w : World) (a : Option Addr) (n c n' c' : Nat) : (binOp .eql 36 (.slice a n c) (.slice none n' c')).run Tryz.prog w = .ok (.bool a.isNone) w := Lib.run_eql_slice_nil w _ _ a n c n' c' Tryz.underlying36
attribute [local go_sem] eql_nilC
theorem empty_ownC (w : World) : (w.alloc (.cells #[] 35)).ownsRow w.heap.size 35 2 (.slice (some ⟨w.heap.size, 0, none⟩) 0 0) 0 [] :=
  ⟨rfl, .inr ⟨w.heap.size, 0, #[], rfl, Nat.le_refl _, heap_alloc_new w _, Nat.le_refl _, Nat.zero_le _, rfl, rfl⟩⟩
set_option maxRecDepth 100000 in
set_option maxHeartbeats 1000000 in
theorem cloneC_any (f : Nat → Int × Int) (n c : Nat) (p : Option Addr) (w : World) (hn : n ≤ 1000) (hp : p = none → n = 0) (hs : LpIn w f n p) :
    Calls Tryz.prog 59 #[.slice p n c] w fun e w' => ∃ q cq, e = .returned (.slice q n cq) ∧ n ≤ cq ∧ cq ≤ maxLen ∧ LpIn w' f n q ∧ (∀ b o, q = some ⟨b, o, none⟩ → w.heap.size ≤ b) ∧ Below w.heap.size w w' := by
  cases p with
  | none =>
    obtain rfl : n = 0 := hp rfl
    clear hp hs
    go_enter Tryz.func59, Tryz.ntmps59
    go_wp2
    go_ret
    exact ⟨none, 0, rfl, Nat.le_refl _, by simp [maxLen], .inl rfl, fun b o e => (by cases e), Below.refl _ _⟩
  | some a =>
    obtain ⟨i0, hi0, hz0, hz1, hz2⟩ := info_parts infoChgQ
    have b1 := below_alloc (Below.refl w.heap.size w) (.cells #[] 35)
    have hcell : ∀ j u, (lv f n)[j]? = some u → (w.alloc (.cells #[] 35)).cell? (a.add j) = some u := fun j u hj => by
      have hlt : j < n * 2 := by rw [← lv_len f n]; exact (List.getElem?_eq_some_iff.1 hj).1
      obtain ⟨bb, oo, e, hsi⟩ := hs.resolve_left (by omega)
      cases e
      exact lv_cells (hsi.below b1) j u hj
    have HCE := Lib.hid hcell
    have HEO := Lib.hid (empty_ownC w)
    have HB1 := Lib.hid b1
    clear hcell hs hp b1
    go_enter Tryz.func59, Tryz.ntmps59
    go_wp2_with (at_builtin; refine wpList_append_own_at _ rfl _ _ _ rfl w.heap.size 35 i0 (.agg #[.int .i64 0, .int .i64 0]) 2 16 Tryz.underlying36 hi0 hz0 hz1 hz2 rfl (by decide) _ 0 [] rfl HEO.out a n c (lv f n) rfl (by rw [lv_len]) HCE.out (lv_one f n) (by unfold maxLen; omega) (by omega) (by simp) ?_; intro v' w1 hown hg _ _; have HOWN := Lib.hid hown; have HG := Lib.hid hg; clear hown hg)
    have HB := Lib.hid (Below.grown HB1.out HG.out HB1.out.size (fun k hk => by
      have e : (some w.heap.size : Option Nat) = some k := hk
      cases e
      exact Nat.le_refl _))
    have hown := HOWN.out
    simp only [Nat.zero_add, List.nil_append] at hown
    obtain ⟨q, cq, rfl, h1, h2, h3, h4⟩ := own_leaps hown
    have H3 := Lib.hid h3
    have H4 := Lib.hid h4
    have H12 := Lib.hid (And.intro h1 h2)
    clear hown HOWN HG h1 h2 h3 h4
    go_wp2_with fail
    go_ret
    exact ⟨q, cq, rfl, H12.out.1, H12.out.2, H3.out, H4.out, HB.out⟩
set_option maxHeartbeats 1000000 in
theorem equalC_yes (f : Nat → Int × Int) (n c1 c2 : Nat) (p q : Option Addr) (w : World) (hn : n ≤ 1000000000) (h1 : LpIn w f n p) (h2 : LpIn w f n q) :
    Calls Tryz.prog 66 #[.slice p n c1, .slice q n c2] w fun e w' => e = .returned (.bool true) ∧ Below w.heap.size w w' := by
  have H1 := Lib.hid h1
  have H2 := Lib.hid h2
  clear h1 h2
  go_enter Tryz.func66, Tryz.ntmps66
  go_wp2_with fail
  go_loopw [4, 5, 13] (fun s4 s5 s13 wr => ∃ (k : Nat) (v5 : Value), k ≤ n ∧ s4 = .bool false ∧ s5 = v5 ∧ s13 = .int .i64 (k : Int) ∧ Hid (Below w.heap.size w wr)) (fun _ _ s _ => n - (intOf s).toNat)
  case atStart => exact ⟨0, _, Nat.zero_le _, rfl, rfl, rfl, Lib.hid (Below.refl _ _)⟩
  case round =>
    obtain ⟨k, v5, hk, rfl, rfl, rfl, HB⟩ := hrel
    by_cases hlt : k < n
    · have hki : (k : Int) < n := by omega
      have vk : IntKind.i64.wrap ((k : Int) + 1) = (k : Int) + 1 := IntWalk.i64_in _ (by omega)
      obtain ⟨b1, o1, rfl, hi1⟩ := H1.out.resolve_left (by omega)
      obtain ⟨b2, o2, rfl, hi2⟩ := H2.out.resolve_left (by omega)
      obtain ⟨x1, x2⟩ := (hi1.below HB.out) k hlt
      obtain ⟨y1, y2⟩ := (hi2.below HB.out) k hlt
      have z1 := cell_lt x1
      have z2 := cell_lt y1
      have HK := Lib.hid hlt
      clear hlt hi1 hi2
      generalize (f k).1 = dk at *
      generalize (f k).2 = sk at *
      go_wp2_with fail
      go_quiet (fail)
      go_wp2_with fail
      go_roundw
      case rel => exact ⟨k + 1, _, HK.out, rfl, rfl, by simp, Lib.hid (below_drewN HB.out _)⟩
      case measure => have := HK.out; simp [intOf]; omega
    · obtain rfl : k = n := by omega
      have hki : ¬ ((k : Int) < k) := by omega
      clear hlt
      go_wp2_with fail
      go_ret
      exact ⟨rfl, HB.out⟩
end Go.Proofs.YtgnfaemnehmgcaaGreatDoor.Cal
