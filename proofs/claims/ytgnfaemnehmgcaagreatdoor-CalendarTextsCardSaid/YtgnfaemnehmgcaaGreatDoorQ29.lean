/- Layer 9 (calendar): the reference's Format. (by gen_vh.py) -/
import Derived.Test.YtgnfaemnehmgcaaGreatDoorQ28
import Derived.Test.YtgnfaemnehmgcaaGreatDoorQ12
import Derived.Test.YtgnfaemnehmgcaaGreatDoorQ27
namespace Go.Proofs.YtgnfaemnehmgcaaGreatDoor.Cal
open Go Go.RowKit
attribute [local go_sem] Oper.semAt_some
/-- the text that Padded returns -/
def padB (n : Int) (least : Nat) : ByteArray := ⟨(padL n least).toArray⟩
theorem padB_size {n : Int} (h0 : -9223372036854775808 ≤ n) (h9 : n ≤ 9223372036854775807) {least : Nat} (hl : least ≤ 4) : (padB n least).size ≤ 30 := by
  have hdl : (digR n.natAbs).length ≤ 19 := digR_len 19 _ (by have : (10 : Nat) ^ 19 = 10000000000000000000 := by decide
                                                              omega)
  have e : (padB n least).size = (padL n least).length := by unfold padB; simp [ByteArray.size]
  rw [e]
  unfold padL
  rw [List.length_append, List.length_append, List.length_replicate]
  split <;> simp <;> omega
theorem rPadded_all (n : Int) (h0 : -9223372036854775808 ≤ n) (h9 : n ≤ 9223372036854775807) (least : Nat) (hl : least ≤ 4) (w : World) :
    Calls Tryz.prog 75 #[.int .i64 n, .int .i64 (least : Int)] w fun e w' => e = .returned (.string (padB n least)) ∧ Below w.heap.size w w' := by
  have key : ∀ S : ByteArray, S.data.toList = padL n least → S = padB n least := fun S h => by
    unfold padB
    apply ByteArray.ext
    apply Array.toList_inj.1
    simpa using h
  by_cases hn : n < 0
  · exact (rPadded_neg n h0 h9 hn least hl w).mono fun e w' ⟨S, he, hS, hb⟩ => ⟨by rw [he, key S hS], hb⟩
  · exact (rPadded_pos n h0 h9 hn least hl w).mono fun e w' ⟨S, he, hS, hb⟩ => ⟨by rw [he, key S hS], hb⟩
/-- the text of a date -/
def fmtB (y m d h i s : Int) : ByteArray := padB y 4 ++ ⟨#[45]⟩ ++ padB m 2 ++ ⟨#[45]⟩ ++ padB d 2 ++ ⟨#[32]⟩ ++ padB h 2 ++ ⟨#[58]⟩ ++ padB i 2 ++ ⟨#[58]⟩ ++ padB s 2
set_option maxRecDepth 100000 in
set_option maxHeartbeats 4000000 in
theorem rFormat_any (y m d h i s : Int) (Ly : -9223372036854775808 ≤ y ∧ y ≤ 9223372036854775807) (Lm : -9223372036854775808 ≤ m ∧ m ≤ 9223372036854775807) (Ld : -9223372036854775808 ≤ d ∧ d ≤ 9223372036854775807) (Lh : -9223372036854775808 ≤ h ∧ h ≤ 9223372036854775807) (Li : -9223372036854775808 ≤ i ∧ i ≤ 9223372036854775807) (Ls : -9223372036854775808 ≤ s ∧ s ≤ 9223372036854775807) (w : World) :
    Calls Tryz.prog 20 #[.agg #[.int .i64 y, .int .i64 m, .int .i64 d, .int .i64 h, .int .i64 i, .int .i64 s]] w fun e w' => e = .returned (.string (fmtB y m d h i s)) ∧ Below w.heap.size w w' := by
  have A0 := below_alloc (Below.refl w.heap.size w) (.cells #[.int .i64 y, .int .i64 m, .int .i64 d, .int .i64 h, .int .i64 i, .int .i64 s] 67)
  obtain ⟨P0, hP0⟩ : ∃ P, padB y 4 = P := ⟨_, rfl⟩
  have hz0 : P0.size ≤ 30 := by rw [← hP0]; exact padB_size Ly.1 Ly.2 (by decide)
  have K0 := Lib.hid (fun X => rPadded_all y Ly.1 Ly.2 4 (by decide) X)
  rw [hP0] at K0
  obtain ⟨P1, hP1⟩ : ∃ P, padB m 2 = P := ⟨_, rfl⟩
  have hz1 : P1.size ≤ 30 := by rw [← hP1]; exact padB_size Lm.1 Lm.2 (by decide)
  have K1 := Lib.hid (fun X => rPadded_all m Lm.1 Lm.2 2 (by decide) X)
  rw [hP1] at K1
  obtain ⟨P2, hP2⟩ : ∃ P, padB d 2 = P := ⟨_, rfl⟩
  have hz2 : P2.size ≤ 30 := by rw [← hP2]; exact padB_size Ld.1 Ld.2 (by decide)
  have K2 := Lib.hid (fun X => rPadded_all d Ld.1 Ld.2 2 (by decide) X)
  rw [hP2] at K2
  obtain ⟨P3, hP3⟩ : ∃ P, padB h 2 = P := ⟨_, rfl⟩
  have hz3 : P3.size ≤ 30 := by rw [← hP3]; exact padB_size Lh.1 Lh.2 (by decide)
  have K3 := Lib.hid (fun X => rPadded_all h Lh.1 Lh.2 2 (by decide) X)
  rw [hP3] at K3
  obtain ⟨P4, hP4⟩ : ∃ P, padB i 2 = P := ⟨_, rfl⟩
  have hz4 : P4.size ≤ 30 := by rw [← hP4]; exact padB_size Li.1 Li.2 (by decide)
  have K4 := Lib.hid (fun X => rPadded_all i Li.1 Li.2 2 (by decide) X)
  rw [hP4] at K4
  obtain ⟨P5, hP5⟩ : ∃ P, padB s 2 = P := ⟨_, rfl⟩
  have hz5 : P5.size ≤ 30 := by rw [← hP5]; exact padB_size Ls.1 Ls.2 (by decide)
  have K5 := Lib.hid (fun X => rPadded_all s Ls.1 Ls.2 2 (by decide) X)
  rw [hP5] at K5
  have HF := Lib.hid (show fmtB y m d h i s = P0 ++ ⟨#[45]⟩ ++ P1 ++ ⟨#[45]⟩ ++ P2 ++ ⟨#[32]⟩ ++ P3 ++ ⟨#[58]⟩ ++ P4 ++ ⟨#[58]⟩ ++ P5 by unfold fmtB; rw [hP0, hP1, hP2, hP3, hP4, hP5])
  rw [HF.out]
  clear Ly Lm Ld Lh Li Ls hP0 hP1 hP2 hP3 hP4 hP5
  have HQ : ∀ j : Nat, j < 6 → (w.alloc (.cells #[.int .i64 y, .int .i64 m, .int .i64 d, .int .i64 h, .int .i64 i, .int .i64 s] 67)).cell? ⟨w.heap.size, j, none⟩ = some (.int .i64 (match j with | 0 => y | 1 => m | 2 => d | 3 => h | 4 => i | _ => s)) := fun j hj => by
    rcases (by omega : j = 0 ∨ j = 1 ∨ j = 2 ∨ j = 3 ∨ j = 4 ∨ j = 5) with rfl | rfl | rfl | rfl | rfl | rfl <;> simp
  have A0 := Lib.hid A0
  have HQ := Lib.hid HQ
  go_enter Tryz.func20, Tryz.ntmps20
  go_upto_region 1 with fail
  generalize w.alloc (.cells #[.int .i64 y, .int .i64 m, .int .i64 d, .int .i64 h, .int .i64 i, .int .i64 s] 67) = W1 at *
  refine (wpIn_wide (n := 9)).1 ?_
  refine wpIn_region_cls (fun Z => Below W1.heap.size W1 Z) 28 1 (Below.drew (Below.refl _ _)) (by kernel_rfl) (by kernel_rfl) (by kernel_rfl) (by kernel_rfl) (by kernel_rfl) rfl ?_
  simp only [List.take_succ_cons, List.take_zero]
  refine wpQuietIn_step (fun _ _ _ _ => trivial) (fun KQ hKQ => ?_)
  rw [if_pos (by rfl)]
  refine ⟨.pointer (some ⟨w.heap.size, 0, none⟩), fun Z hZ => ?_, hKQ _ ?_⟩
  · unfold Oper.quietAtIn; go_simp
  clear hKQ KQ
  simp only [Act.put, List.setIfInBounds_toArray, List.set_cons_zero, List.set_cons_succ]
  refine wpQuietIn_step (fun _ _ _ _ => trivial) (fun KQ hKQ => ?_)
  rw [if_pos (by rfl)]
  refine ⟨.int .i64 y, fun Z hZ => ?_, hKQ _ ?_⟩
  · have q0 := cell_below hZ (HQ.out 0 (by decide)); have qz := cell_lt q0; unfold Oper.quietAtIn; go_simp
  clear hKQ KQ
  simp only [Act.put, List.setIfInBounds_toArray, List.set_cons_zero, List.set_cons_succ]
  refine wpQuietIn_step (fun _ _ _ _ => trivial) (fun KQ hKQ => ?_)
  rw [if_pos (by rfl)]
  refine ⟨.string P0, fun Z hZ => ?_, hKQ _ ?_⟩
  · unfold Oper.quietAtIn; go_simp; exact callsIn_wide.2 (Calls.bel hZ (K0.out Z))
  clear hKQ KQ
  simp only [Act.put, List.setIfInBounds_toArray, List.set_cons_zero, List.set_cons_succ]
  refine wpQuietIn_step (fun _ _ _ _ => trivial) (fun KQ hKQ => ?_)
  rw [if_pos (by rfl)]
  refine ⟨.string (P0 ++ ⟨#[45]⟩), fun Z hZ => ?_, hKQ _ ?_⟩
  · unfold Oper.quietAtIn; go_simp; rw [if_neg (by omega)]; exact ⟨rfl, rfl⟩
  clear hKQ KQ
  simp only [Act.put, List.setIfInBounds_toArray, List.set_cons_zero, List.set_cons_succ]
  refine wpQuietIn_step (fun _ _ _ _ => trivial) (fun KQ hKQ => ?_)
  rw [if_pos (by rfl)]
  refine ⟨.pointer (some ⟨w.heap.size, 1, none⟩), fun Z hZ => ?_, hKQ _ ?_⟩
  · unfold Oper.quietAtIn; go_simp
  clear hKQ KQ
  simp only [Act.put, List.setIfInBounds_toArray, List.set_cons_zero, List.set_cons_succ]
  refine wpQuietIn_step (fun _ _ _ _ => trivial) (fun KQ hKQ => ?_)
  rw [if_pos (by rfl)]
  refine ⟨.int .i64 m, fun Z hZ => ?_, hKQ _ ?_⟩
  · have q0 := cell_below hZ (HQ.out 1 (by decide)); have qz := cell_lt q0; unfold Oper.quietAtIn; go_simp
  clear hKQ KQ
  simp only [Act.put, List.setIfInBounds_toArray, List.set_cons_zero, List.set_cons_succ]
  refine wpQuietIn_step (fun _ _ _ _ => trivial) (fun KQ hKQ => ?_)
  rw [if_pos (by rfl)]
  refine ⟨.string P1, fun Z hZ => ?_, hKQ _ ?_⟩
  · unfold Oper.quietAtIn; go_simp; exact callsIn_wide.2 (Calls.bel hZ (K1.out Z))
  clear hKQ KQ
  simp only [Act.put, List.setIfInBounds_toArray, List.set_cons_zero, List.set_cons_succ]
  refine wpQuietIn_step (fun _ _ _ _ => trivial) (fun KQ hKQ => ?_)
  rw [if_pos (by rfl)]
  refine ⟨.string (P0 ++ ⟨#[45]⟩ ++ P1), fun Z hZ => ?_, hKQ _ ?_⟩
  · unfold Oper.quietAtIn; go_simp; rw [if_neg (by omega)]; exact ⟨rfl, rfl⟩
  clear hKQ KQ
  simp only [Act.put, List.setIfInBounds_toArray, List.set_cons_zero, List.set_cons_succ]
  refine wpQuietIn_step (fun _ _ _ _ => trivial) (fun KQ hKQ => ?_)
  rw [if_pos (by rfl)]
  refine ⟨.string (P0 ++ ⟨#[45]⟩ ++ P1 ++ ⟨#[45]⟩), fun Z hZ => ?_, hKQ _ ?_⟩
  · unfold Oper.quietAtIn; go_simp; rw [if_neg (by omega)]; exact ⟨rfl, rfl⟩
  clear hKQ KQ
  simp only [Act.put, List.setIfInBounds_toArray, List.set_cons_zero, List.set_cons_succ]
  refine wpQuietIn_step (fun _ _ _ _ => trivial) (fun KQ hKQ => ?_)
  rw [if_pos (by rfl)]
  refine ⟨.pointer (some ⟨w.heap.size, 2, none⟩), fun Z hZ => ?_, hKQ _ ?_⟩
  · unfold Oper.quietAtIn; go_simp
  clear hKQ KQ
  simp only [Act.put, List.setIfInBounds_toArray, List.set_cons_zero, List.set_cons_succ]
  refine wpQuietIn_step (fun _ _ _ _ => trivial) (fun KQ hKQ => ?_)
  rw [if_pos (by rfl)]
  refine ⟨.int .i64 d, fun Z hZ => ?_, hKQ _ ?_⟩
  · have q0 := cell_below hZ (HQ.out 2 (by decide)); have qz := cell_lt q0; unfold Oper.quietAtIn; go_simp
  clear hKQ KQ
  simp only [Act.put, List.setIfInBounds_toArray, List.set_cons_zero, List.set_cons_succ]
  refine wpQuietIn_step (fun _ _ _ _ => trivial) (fun KQ hKQ => ?_)
  rw [if_pos (by rfl)]
  refine ⟨.string P2, fun Z hZ => ?_, hKQ _ ?_⟩
  · unfold Oper.quietAtIn; go_simp; exact callsIn_wide.2 (Calls.bel hZ (K2.out Z))
  clear hKQ KQ
  simp only [Act.put, List.setIfInBounds_toArray, List.set_cons_zero, List.set_cons_succ]
  refine wpQuietIn_step (fun _ _ _ _ => trivial) (fun KQ hKQ => ?_)
  rw [if_pos (by rfl)]
  refine ⟨.string (P0 ++ ⟨#[45]⟩ ++ P1 ++ ⟨#[45]⟩ ++ P2), fun Z hZ => ?_, hKQ _ ?_⟩
  · unfold Oper.quietAtIn; go_simp; rw [if_neg (by omega)]; exact ⟨rfl, rfl⟩
  clear hKQ KQ
  simp only [Act.put, List.setIfInBounds_toArray, List.set_cons_zero, List.set_cons_succ]
  refine wpQuietIn_step (fun _ _ _ _ => trivial) (fun KQ hKQ => ?_)
  rw [if_pos (by rfl)]
  refine ⟨.string (P0 ++ ⟨#[45]⟩ ++ P1 ++ ⟨#[45]⟩ ++ P2 ++ ⟨#[32]⟩), fun Z hZ => ?_, hKQ _ ?_⟩
  · unfold Oper.quietAtIn; go_simp; rw [if_neg (by omega)]; exact ⟨rfl, rfl⟩
  clear hKQ KQ
  simp only [Act.put, List.setIfInBounds_toArray, List.set_cons_zero, List.set_cons_succ]
  refine wpQuietIn_step (fun _ _ _ _ => trivial) (fun KQ hKQ => ?_)
  rw [if_pos (by rfl)]
  refine ⟨.pointer (some ⟨w.heap.size, 3, none⟩), fun Z hZ => ?_, hKQ _ ?_⟩
  · unfold Oper.quietAtIn; go_simp
  clear hKQ KQ
  simp only [Act.put, List.setIfInBounds_toArray, List.set_cons_zero, List.set_cons_succ]
  refine wpQuietIn_step (fun _ _ _ _ => trivial) (fun KQ hKQ => ?_)
  rw [if_pos (by rfl)]
  refine ⟨.int .i64 h, fun Z hZ => ?_, hKQ _ ?_⟩
  · have q0 := cell_below hZ (HQ.out 3 (by decide)); have qz := cell_lt q0; unfold Oper.quietAtIn; go_simp
  clear hKQ KQ
  simp only [Act.put, List.setIfInBounds_toArray, List.set_cons_zero, List.set_cons_succ]
  refine wpQuietIn_step (fun _ _ _ _ => trivial) (fun KQ hKQ => ?_)
  rw [if_pos (by rfl)]
  refine ⟨.string P3, fun Z hZ => ?_, hKQ _ ?_⟩
  · unfold Oper.quietAtIn; go_simp; exact callsIn_wide.2 (Calls.bel hZ (K3.out Z))
  clear hKQ KQ
  simp only [Act.put, List.setIfInBounds_toArray, List.set_cons_zero, List.set_cons_succ]
  refine wpQuietIn_step (fun _ _ _ _ => trivial) (fun KQ hKQ => ?_)
  rw [if_pos (by rfl)]
  refine ⟨.string (P0 ++ ⟨#[45]⟩ ++ P1 ++ ⟨#[45]⟩ ++ P2 ++ ⟨#[32]⟩ ++ P3), fun Z hZ => ?_, hKQ _ ?_⟩
  · unfold Oper.quietAtIn; go_simp; rw [if_neg (by omega)]; exact ⟨rfl, rfl⟩
  clear hKQ KQ
  simp only [Act.put, List.setIfInBounds_toArray, List.set_cons_zero, List.set_cons_succ]
  refine wpQuietIn_step (fun _ _ _ _ => trivial) (fun KQ hKQ => ?_)
  rw [if_pos (by rfl)]
  refine ⟨.string (P0 ++ ⟨#[45]⟩ ++ P1 ++ ⟨#[45]⟩ ++ P2 ++ ⟨#[32]⟩ ++ P3 ++ ⟨#[58]⟩), fun Z hZ => ?_, hKQ _ ?_⟩
  · unfold Oper.quietAtIn; go_simp; rw [if_neg (by omega)]; exact ⟨rfl, rfl⟩
  clear hKQ KQ
  simp only [Act.put, List.setIfInBounds_toArray, List.set_cons_zero, List.set_cons_succ]
  refine wpQuietIn_step (fun _ _ _ _ => trivial) (fun KQ hKQ => ?_)
  rw [if_pos (by rfl)]
  refine ⟨.pointer (some ⟨w.heap.size, 4, none⟩), fun Z hZ => ?_, hKQ _ ?_⟩
  · unfold Oper.quietAtIn; go_simp
  clear hKQ KQ
  simp only [Act.put, List.setIfInBounds_toArray, List.set_cons_zero, List.set_cons_succ]
  refine wpQuietIn_step (fun _ _ _ _ => trivial) (fun KQ hKQ => ?_)
  rw [if_pos (by rfl)]
  refine ⟨.int .i64 i, fun Z hZ => ?_, hKQ _ ?_⟩
  · have q0 := cell_below hZ (HQ.out 4 (by decide)); have qz := cell_lt q0; unfold Oper.quietAtIn; go_simp
  clear hKQ KQ
  simp only [Act.put, List.setIfInBounds_toArray, List.set_cons_zero, List.set_cons_succ]
  refine wpQuietIn_step (fun _ _ _ _ => trivial) (fun KQ hKQ => ?_)
  rw [if_pos (by rfl)]
  refine ⟨.string P4, fun Z hZ => ?_, hKQ _ ?_⟩
  · unfold Oper.quietAtIn; go_simp; exact callsIn_wide.2 (Calls.bel hZ (K4.out Z))
  clear hKQ KQ
  simp only [Act.put, List.setIfInBounds_toArray, List.set_cons_zero, List.set_cons_succ]
  refine wpQuietIn_step (fun _ _ _ _ => trivial) (fun KQ hKQ => ?_)
  rw [if_pos (by rfl)]
  refine ⟨.string (P0 ++ ⟨#[45]⟩ ++ P1 ++ ⟨#[45]⟩ ++ P2 ++ ⟨#[32]⟩ ++ P3 ++ ⟨#[58]⟩ ++ P4), fun Z hZ => ?_, hKQ _ ?_⟩
  · unfold Oper.quietAtIn; go_simp; rw [if_neg (by omega)]; exact ⟨rfl, rfl⟩
  clear hKQ KQ
  simp only [Act.put, List.setIfInBounds_toArray, List.set_cons_zero, List.set_cons_succ]
  refine wpQuietIn_step (fun _ _ _ _ => trivial) (fun KQ hKQ => ?_)
  rw [if_pos (by rfl)]
  refine ⟨.string (P0 ++ ⟨#[45]⟩ ++ P1 ++ ⟨#[45]⟩ ++ P2 ++ ⟨#[32]⟩ ++ P3 ++ ⟨#[58]⟩ ++ P4 ++ ⟨#[58]⟩), fun Z hZ => ?_, hKQ _ ?_⟩
  · unfold Oper.quietAtIn; go_simp; rw [if_neg (by omega)]; exact ⟨rfl, rfl⟩
  clear hKQ KQ
  simp only [Act.put, List.setIfInBounds_toArray, List.set_cons_zero, List.set_cons_succ]
  refine wpQuietIn_step (fun _ _ _ _ => trivial) (fun KQ hKQ => ?_)
  rw [if_pos (by rfl)]
  refine ⟨.pointer (some ⟨w.heap.size, 5, none⟩), fun Z hZ => ?_, hKQ _ ?_⟩
  · unfold Oper.quietAtIn; go_simp
  clear hKQ KQ
  simp only [Act.put, List.setIfInBounds_toArray, List.set_cons_zero, List.set_cons_succ]
  refine wpQuietIn_step (fun _ _ _ _ => trivial) (fun KQ hKQ => ?_)
  rw [if_pos (by rfl)]
  refine ⟨.int .i64 s, fun Z hZ => ?_, hKQ _ ?_⟩
  · have q0 := cell_below hZ (HQ.out 5 (by decide)); have qz := cell_lt q0; unfold Oper.quietAtIn; go_simp
  clear hKQ KQ
  simp only [Act.put, List.setIfInBounds_toArray, List.set_cons_zero, List.set_cons_succ]
  refine wpQuietIn_step (fun _ _ _ _ => trivial) (fun KQ hKQ => ?_)
  rw [if_pos (by rfl)]
  refine ⟨.string P5, fun Z hZ => ?_, hKQ _ ?_⟩
  · unfold Oper.quietAtIn; go_simp; exact callsIn_wide.2 (Calls.bel hZ (K5.out Z))
  clear hKQ KQ
  simp only [Act.put, List.setIfInBounds_toArray, List.set_cons_zero, List.set_cons_succ]
  refine wpQuietIn_step (fun _ _ _ _ => trivial) (fun KQ hKQ => ?_)
  rw [if_pos (by rfl)]
  refine ⟨.string (P0 ++ ⟨#[45]⟩ ++ P1 ++ ⟨#[45]⟩ ++ P2 ++ ⟨#[32]⟩ ++ P3 ++ ⟨#[58]⟩ ++ P4 ++ ⟨#[58]⟩ ++ P5), fun Z hZ => ?_, hKQ _ ?_⟩
  · unfold Oper.quietAtIn; go_simp; rw [if_neg (by omega)]; exact ⟨rfl, rfl⟩
  clear hKQ KQ
  simp only [Act.put, List.setIfInBounds_toArray, List.set_cons_zero, List.set_cons_succ]
  refine wpQuietIn_nil ?_
  intro Z hZ
  simp only [List.replicate_succ, List.replicate_zero, List.cons_append, List.nil_append]
  have HBZ := Lib.hid hZ
  clear hZ
  refine wpAnyIn_ready (rs := [28]) (by kernel_rfl) (by simp) (AllReadyIn.cons rfl (fun K' hKK => ?_) AllReadyIn.nil)
  go_simp
  refine hKK _ _ ?_
  clear hKK
  refine wpAnyIn_done (by kernel_rfl) ?_ _
  go_wp2_with fail
  go_ret
  exact ⟨rfl, bt A0.out HBZ.out⟩
end Go.Proofs.YtgnfaemnehmgcaaGreatDoor.Cal
