/- Contracts of the kit: lists of numbers, and lists of lists, that are the same. -/
import Derived.Test.YtlelamjbfjneiaaCe
import Derived.Test.YtlelamjbfjneiaaStPre
namespace Go.Proofs.Ytlelamjbfjneiaa.Ct
open Go Go.RowKit
attribute [local go_sem] Oper.semAt_some
set_option maxRecDepth 100000 in
set_option maxHeartbeats 2000000 in
theorem sameInts_yes (m : Nat → Int) (n : Nat) (p1 p2 : Option Addr) (c1 c2 : Nat) (w : World) (hn : n ≤ maxLen) (h1 : FnIn w m n p1) (h2 : FnIn w m n p2) :
    Calls Try.prog 20 #[.slice p1 n c1, .slice p2 n c2] w fun e w' => e = .returned (.bool true) ∧ Below w.heap.size w w' := by
  unfold maxLen at hn
  have H1 := Lib.hid h1
  have H2 := Lib.hid h2
  clear h1 h2
  go_enter Try.func20, Try.ntmps20
  go_wp2_with fail
  go_loopw [4, 5] (fun s i wr => ∃ (k : Nat) (v : Value), k ≤ n ∧ s = v ∧ i = .int .i64 (k : Int) ∧ Hid (Below w.heap.size w wr)) (fun _ i _ => n - (intOf i).toNat)
  case atStart => exact ⟨0, _, Nat.zero_le _, rfl, rfl, Lib.hid (Below.refl _ _)⟩
  case round =>
    obtain ⟨k, v, hk, rfl, rfl, HB⟩ := hrel
    by_cases hlt : k < n
    · have hki : (k : Int) < n := by omega
      have HK := Lib.hid hlt
      obtain ⟨b1, o1, rfl, x1⟩ := (H1.out.below HB.out).resolve_left (by omega)
      obtain ⟨b2, o2, rfl, x2⟩ := (H2.out.below HB.out).resolve_left (by omega)
      have y1 := x1 k hlt
      have y2 := x2 k hlt
      have z1 := cell_lt y1
      have z2 := cell_lt y2
      have w1 : IntKind.i64.wrap ((k : Int) + 1) = (k : Int) + 1 := IntWalk.i64_in _ (by omega)
      generalize m k = mk at *
      clear x1 x2 hlt
      go_upto_region 6 with fail
      go_quiet (fail)
      go_wp2_with fail
      go_roundw
      case rel => exact ⟨k + 1, _, HK.out, rfl, by simp, Lib.hid (below_drewN HB.out _)⟩
      case measure => have := HK.out; simp [intOf]; omega
    · have hki : ¬ ((k : Int) < n) := by omega
      go_wp2_with fail
      go_ret
      exact ⟨rfl, HB.out⟩
theorem sameList_yes (m : Nat → Int) (n : Nat) (p1 p2 : Option Addr) (c1 c2 : Nat) (w : World) (hn : n ≤ maxLen) (h1 : FnIn w m n p1) (h2 : FnIn w m n p2) :
    Calls Try.prog 24 #[.slice p1 n c1, .slice p2 n c2] w fun e w' => e = .returned (.bool true) ∧ Below w.heap.size w w' := by
  have H := Lib.hid (sameInts_yes m n p1 p2 c1 c2 w hn h1 h2)
  clear h1 h2
  go_enter Try.func24, Try.ntmps24
  go_wp2_with (go_at_call 20; refine H.out.mono ?_; rintro e w1 ⟨rfl, hb⟩; have HB := Lib.hid hb; clear hb)
  go_ret
  exact ⟨rfl, HB.out⟩
/-- n lists that lie in memory -/
def RowsIn (X : World) (m : Nat → Nat → Int) (len : Nat → Nat) (n : Nat) (b o : Nat) : Prop := ∀ i, i < n → ∃ p c, X.cell? ⟨b, o + i, none⟩ = some (.slice p (len i) c) ∧ FnIn X (m i) (len i) p ∧ len i ≤ maxLen
theorem RowsIn.below {X Y : World} {m : Nat → Nat → Int} {len : Nat → Nat} {n b o : Nat} (h : RowsIn X m len n b o) (hb : Below X.heap.size X Y) : RowsIn Y m len n b o := fun i hi => by
  obtain ⟨p, c, h1, h2, h3⟩ := h i hi
  exact ⟨p, c, cell_below hb h1, h2.below hb, h3⟩
set_option maxRecDepth 100000 in
set_option maxHeartbeats 2000000 in
theorem sameLists_yes (m : Nat → Nat → Int) (len : Nat → Nat) (n b1 o1 b2 o2 c1 c2 : Nat) (w : World) (hn : n ≤ maxLen) (h1 : RowsIn w m len n b1 o1) (h2 : RowsIn w m len n b2 o2) :
    Calls Try.prog 9 #[.slice (some ⟨b1, o1, none⟩) n c1, .slice (some ⟨b2, o2, none⟩) n c2] w fun e w' => e = .returned (.bool true) ∧ Below w.heap.size w w' := by
  unfold maxLen at hn
  have H1 := Lib.hid h1
  have H2 := Lib.hid h2
  clear h1 h2
  go_enter Try.func9, Try.ntmps9
  go_wp2_with fail
  go_loopw [4, 5] (fun s i wr => ∃ (k : Nat) (v : Value), k ≤ n ∧ s = v ∧ i = .int .i64 (k : Int) ∧ Hid (Below w.heap.size w wr)) (fun _ i _ => n - (intOf i).toNat)
  case atStart => exact ⟨0, _, Nat.zero_le _, rfl, rfl, Lib.hid (Below.refl _ _)⟩
  case round =>
    obtain ⟨k, v, hk, rfl, rfl, HB⟩ := hrel
    by_cases hlt : k < n
    · have hki : (k : Int) < n := by omega
      have HK := Lib.hid hlt
      obtain ⟨p1, q1, y1, f1, hlen⟩ := (H1.out.below HB.out) k hlt
      obtain ⟨p2, q2, y2, f2, -⟩ := (H2.out.below HB.out) k hlt
      have z1 := cell_lt y1
      have z2 := cell_lt y2
      have w1 : IntKind.i64.wrap ((k : Int) + 1) = (k : Int) + 1 := IntWalk.i64_in _ (by omega)
      have HC := Lib.hid (fun j => sameList_yes (m k) (len k) p1 p2 q1 q2 (wr.drewN j) hlen f1 f2)
      generalize len k = lk at *
      clear f1 f2 hlt
      go_upto_region 6 with fail
      refine (wpIn_wide (n := 9)).1 ?_
      refine wpIn_region_pre_lit 8 2 rfl (by kernel_rfl) (by kernel_rfl) (by kernel_rfl) (by kernel_rfl) rfl ?_
      simp only [List.take_succ_cons, List.take_zero]
      repeat (refine wpQuietIn_step (by first | exact fun _ _ _ _ => trivial | quiet_asked_in) (fun KQ hKQ => ?_); go_simp; first | (refine hKQ _ ?_; clear hKQ KQ) | (apply Exists.intro; refine ⟨fun _ => ?_, hKQ _ ?_⟩; (fail); clear hKQ KQ))
      refine wpQuietIn_nil ?_
      intro _ hwq1
      obtain ⟨nq, hwq2⟩ := hwq1
      subst hwq2
      simp only [List.replicate_succ, List.replicate_zero, List.cons_append, List.nil_append]
      refine wpAnyIn_ready (rs := [8]) (by kernel_rfl) (by simp) (AllReadyIn.cons rfl (fun K' hKK => ?_) AllReadyIn.nil)
      go_simp
      refine ⟨trivial, (callsIn_wide.2 (HC.out nq)).mono ?_⟩
      rintro e w2 ⟨rfl, hb2⟩
      have HB2 := Lib.hid (HB.out.trans (((below_drewN (Below.refl wr.heap.size wr) nq).trans hb2).mono HB.out.size))
      go_simp
      refine hKK _ _ ?_
      clear hKK hb2
      refine wpAnyIn_ready (rs := [9]) (by kernel_rfl) (by simp) (AllReadyIn.cons rfl (fun K' hKK => ?_) AllReadyIn.nil)
      go_simp
      refine hKK _ _ ?_
      clear hKK
      refine wpAnyIn_done (by kernel_rfl) ?_ _
      go_wp2_with fail
      go_roundw
      case rel => exact ⟨k + 1, _, HK.out, rfl, by simp, HB2⟩
      case measure => have := HK.out; simp [intOf]; omega
    · have hki : ¬ ((k : Int) < n) := by omega
      go_wp2_with fail
      go_ret
      exact ⟨rfl, HB.out⟩
end Go.Proofs.Ytlelamjbfjneiaa.Ct
