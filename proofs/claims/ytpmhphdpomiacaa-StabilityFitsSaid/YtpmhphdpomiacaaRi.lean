/- Contracts of the reference of layer 3: Fit. -/
import Derived.Test.YtpmhphdpomiacaaRb
import Derived.Test.YtpmhphdpomiacaaStD
namespace Go.Proofs.Ytpmhphdpomiacaa
open Go Go.RowKit Go.Shelf
def iS (k : Nat) : Int := sumF (fun i => (i : Int)) k
def iiS (k : Nat) : Int := sumF (fun i => (i : Int) * i) k
def imS (l : List Int) (k : Nat) : Int := sumF (fun i => (i : Int) * atL l i) k
theorem places_all : (List.range 129).all (fun n => decide (iS n = placesS n) && decide (iiS n = squaresS n)) = true := by decide +kernel
theorem iS_eq {n : Nat} (h : n ≤ 128) : iS n = placesS n ∧ iiS n = squaresS n := by
  have := List.all_eq_true.1 places_all n (by simp; omega)
  simpa using this
structure FitBd (l : List Int) (k : Nat) : Prop where
  a : -16384 ≤ iS k ∧ iS k ≤ 16384
  b : -2097152 ≤ iiS k ∧ iiS k ≤ 2097152
  c : -128000000 ≤ sumF (atL l) k ∧ sumF (atL l) k ≤ 128000000
  d : -16384000000 ≤ imS l k ∧ imS l k ≤ 16384000000
theorem fitBd {l : List Int} (hp : phasesOk l = true) {k : Nat} (hk : k ≤ 128) : FitBd l k := by
  have h1 := sumF_bd (fun i => (i : Int)) 128 k (fun i hi => by omega)
  have h2 := sumF_bd (fun i => (i : Int) * i) 16384 k (fun i hi => by
    have := mul_bd2 (x := (i : Int)) (y := (i : Int)) (a := 128) (b := 128) (by omega) (by omega); omega)
  have h3 := sumF_bd (atL l) 1000000 k (fun i _ => atL_bd hp i)
  have h4 := sumF_bd (fun i => (i : Int) * atL l i) 128000000 k (fun i hi => by
    have := mul_bd' (atL l i) (i : Int) 1000000 128 (by omega) (atL_bd hp i); omega)
  refine ⟨?_, ?_, ?_, ?_⟩
  · unfold iS; omega
  · unfold iiS; omega
  · omega
  · unfold imS; omega
set_option maxRecDepth 100000 in
set_option maxHeartbeats 4000000 in
theorem rfit_any (tau : Int) (l : List Int) (p : Option Addr) (cap : Nat) (w : World) (hs : SerIn w l p) :
    Calls Try.prog 47 #[.agg #[.int .i64 tau, .slice p l.length cap]] w fun e w' => e = .returned (.tuple #[lineVal (fitE tau l).a (fitE tau l).b (fitE tau l).c (fitE tau l).d, .int .i64 (fitE tau l).e]) ∧ Below w.heap.size w w' := by
  have hl := hs.1
  unfold maxLen at hl
  have a0 : Below w.heap.size w ((w.alloc (.cells #[.int .i64 tau, .slice p l.length cap] 74)).alloc (.cells #[.int .i64 0, .int .i64 0, .int .i64 0, .int .i64 0] 83)) := below_alloc (below_alloc (Below.refl _ _) _) _
  have x1 : Hid (((w.alloc (.cells #[.int .i64 tau, .slice p l.length cap] 74)).alloc (.cells #[.int .i64 0, .int .i64 0, .int .i64 0, .int .i64 0] 83)).cell? ⟨w.heap.size, 1, none⟩ = some (.slice p l.length cap)) := Lib.hid (by simp)
  have HR := Lib.hid (show Four ((w.alloc (.cells #[.int .i64 tau, .slice p l.length cap] 74)).alloc (.cells #[.int .i64 0, .int .i64 0, .int .i64 0, .int .i64 0] 83)) (w.heap.size + 1) from ⟨by simp, by simp, by simp, by simp, by simp, by simp, by simp, by simp⟩)
  have HC := Lib.hid (rcheck_any tau l p cap _ (hs.below a0))
  have HS := Lib.hid (hs.below a0)
  have A0 := Lib.hid a0
  have hge : w.heap.size ≤ w.heap.size + 1 := by omega
  clear hs a0
  by_cases h0 : checkSt tau l = 0
  · by_cases h2 : l.length < 2
    · have hfe : fitErr tau l = 4 := by unfold fitErr; rw [if_pos h0, if_pos h2]
      have hE : fitE tau l = ⟨0, 0, 0, 0, 4⟩ := by unfold fitE; rw [if_neg (by omega), hfe]
      have h2i : (l.length : Int) < 2 := by omega
      have H0 := Lib.hid h0
      rw [hE]
      unfold lineVal
      dsimp only
      clear hfe hE h0
      go_enter Try.func47, Try.ntmps47
      go_wp2_with fail
      refine HC.out.mono ?_
      rintro e w1 ⟨rfl, hb⟩
      rw [H0.out]
      have y1 := cell_below hb x1.out
      have hz := cell_lt y1
      have HR1 := Lib.hid (HR.out.below hb)
      have HB := Lib.hid (A0.out.trans (hb.mono A0.out.size))
      obtain ⟨b0, b1, b2, b3, f0, f1, f2, f3⟩ := HR1.out
      have hz2 := cell_lt b0
      have g0 := HR1.out.s0 (.int .i64 0)
      have g1 := HR1.out.s1 (.int .i64 0) (.int .i64 0)
      have g2 := HR1.out.s2 (.int .i64 0) (.int .i64 0) (.int .i64 0)
      have g3 := HR1.out.s3 (.int .i64 0) (.int .i64 0) (.int .i64 0) (.int .i64 0)
      clear hb
      go_wp2
      exact bodyPost_ret (v := .tuple #[.agg #[.int .i64 0, .int .i64 0, .int .i64 0, .int .i64 0], .int .i64 4]) (by simp [results, Try.results47, go_sem, g0, g1, g2, g3]) rfl ⟨rfl, below4 _ _ _ _ HB.out hge⟩
    · have hfe : fitErr tau l = 0 := by unfold fitErr; rw [if_pos h0, if_neg h2]
      have hE : fitE tau l = ⟨lowN (offN l) (detS l.length), lowD (offN l) (detS l.length), lowN (sloN l) (detS l.length), lowD (sloN l) (detS l.length), 0⟩ := by unfold fitE; rw [if_pos hfe]
      obtain ⟨h128, ht, hp⟩ := checkSt_zero h0
      have h2i : ¬ ((l.length : Int) < 2) := by omega
      have H0 := Lib.hid h0
      rw [hE]
      have ln := lineNums l.length (by omega) h128
      have hb := fitBd hp h128
      obtain ⟨ei, eii⟩ := iS_eq h128
      have e1 : sumF (atL l) l.length = totalL l := rfl
      have e2 : imS l l.length = momL l := rfl
      obtain ⟨ba, bb, bc, bd⟩ := hb
      rw [e1] at bc
      rw [e2] at bd
      have m1 := mul_bd (totalL l) (squaresS l.length) 128000000 1000000 bc ln.sq
      have m2 := mul_bd (momL l) (placesS l.length) 16384000000 8192 bd ln.pl
      have m3 := mul_bd' (momL l) (l.length : Int) 16384000000 128 (by omega) bd
      have m4 := mul_bd' (totalL l) (placesS l.length) 128000000 8192 ln.pl bc
      have u1 : IntKind.i64.wrap (totalL l * squaresS l.length) = totalL l * squaresS l.length := IntWalk.i64_in _ (by omega)
      have u2 : IntKind.i64.wrap (momL l * placesS l.length) = momL l * placesS l.length := IntWalk.i64_in _ (by omega)
      have hoff : totalL l * squaresS l.length - momL l * placesS l.length = offN l := by unfold offN; rw [Int.mul_comm (totalL l), Int.mul_comm (momL l)]
      have u3 : IntKind.i64.wrap (totalL l * squaresS l.length - momL l * placesS l.length) = offN l := by rw [IntWalk.i64_in _ (by omega)]; exact hoff
      have u4 : IntKind.i64.wrap ((l.length : Int) * momL l) = (l.length : Int) * momL l := IntWalk.i64_in _ (by omega)
      have u5 : IntKind.i64.wrap (placesS l.length * totalL l) = placesS l.length * totalL l := IntWalk.i64_in _ (by omega)
      have u6 : IntKind.i64.wrap ((l.length : Int) * momL l - placesS l.length * totalL l) = sloN l := IntWalk.i64_in _ (by omega)
      have ns := ln.ns
      have pp := ln.pp
      have det := ln.det
      have u7 : IntKind.i64.wrap ((l.length : Int) * squaresS l.length) = (l.length : Int) * squaresS l.length := IntWalk.i64_in _ (by omega)
      have u8 : IntKind.i64.wrap (placesS l.length * placesS l.length) = placesS l.length * placesS l.length := IntWalk.i64_in _ (by omega)
      have u9 : IntKind.i64.wrap ((l.length : Int) * squaresS l.length - placesS l.length * placesS l.length) = detS l.length := IntWalk.i64_in _ (by omega)
      have HF1 := Lib.hid (fun W => rfrac_any (offN l) (detS l.length) W (by rw [← hoff]; omega) (by omega))
      have HF2 := Lib.hid (fun W => rfrac_any (sloN l) (detS l.length) W (by show -9223372036854775807 ≤ (l.length : Int) * momL l - placesS l.length * totalL l ∧ (l.length : Int) * momL l - placesS l.length * totalL l ≤ 9223372036854775807; omega) (by omega))
      have HBD := Lib.hid (fun k (hk : k ≤ 128) => fitBd hp hk)
      have HPA := Lib.hid (fun i => atL_bd hp i)
      have EI := Lib.hid ei
      have EII := Lib.hid eii
      clear hfe hE h0 ln ei eii e1 e2 ba bb bc bd m1 m2 m3 m4 hoff ns pp det
      generalize squaresS l.length = sq at *
      generalize placesS l.length = pl at *
      generalize detS l.length = D at *
      generalize offN l = A at *
      generalize sloN l = B at *
      unfold lineVal
      dsimp only
      go_enter Try.func47, Try.ntmps47
      go_wp2_with fail
      refine HC.out.mono ?_
      rintro e w1 ⟨rfl, hb⟩
      rw [H0.out]
      have y1 := cell_below hb x1.out
      have hz := cell_lt y1
      have HR1 := Lib.hid (HR.out.below hb)
      have HS1 := Lib.hid (HS.out.below hb)
      have HB := Lib.hid (A0.out.trans (hb.mono A0.out.size))
      clear hb HC
      go_wp2
      go_loop [6, 7, 8, 9, 10] (fun a b c d i => ∃ k : Nat, k ≤ l.length ∧ i = .int .i64 (k : Int) ∧ a = .int .i64 (iS k) ∧ b = .int .i64 (iiS k) ∧ c = .int .i64 (sumF (atL l) k) ∧ d = .int .i64 (imS l k)) (fun _ _ _ _ i => l.length - (intOf i).toNat)
      case atStart => exact ⟨0, Nat.zero_le _, rfl, rfl, rfl, rfl, rfl⟩
      case round =>
        obtain ⟨k, hk, rfl, rfl, rfl, rfl, rfl⟩ := hrel
        by_cases hlt : k < l.length
        · obtain ⟨b, o, rfl, hi⟩ := HS1.out.2.resolve_left (by omega)
          have c0 := hi k hlt
          rw [atL_get] at c0
          have hkl : (k : Int) < (l.length : Int) := by omega
          have hx := HPA.out k
          obtain ⟨ba, bb, bc, bd⟩ := HBD.out k (by omega)
          have m1 := mul_bd2 (x := (k : Int)) (y := (k : Int)) (a := 128) (b := 128) (by omega) (by omega)
          have m2 := mul_bd' (atL l k) (k : Int) 1000000 128 (by omega) hx
          have s1 := Lib.hid (show iS (k + 1) = iS k + k from rfl)
          have s2 := Lib.hid (show iiS (k + 1) = iiS k + (k : Int) * k from rfl)
          have s3 := Lib.hid (show sumF (atL l) (k + 1) = sumF (atL l) k + atL l k from rfl)
          have s4 := Lib.hid (show imS l (k + 1) = imS l k + (k : Int) * atL l k from rfl)
          have v1 : IntKind.i64.wrap (iS k + (k : Int)) = iS k + k := IntWalk.i64_in _ (by omega)
          have v2 : IntKind.i64.wrap ((k : Int) * (k : Int)) = (k : Int) * k := IntWalk.i64_in _ (by omega)
          have v3 : IntKind.i64.wrap (iiS k + (k : Int) * (k : Int)) = iiS k + (k : Int) * k := IntWalk.i64_in _ (by omega)
          have v4 : IntKind.i64.wrap (sumF (atL l) k + atL l k) = sumF (atL l) k + atL l k := IntWalk.i64_in _ (by omega)
          have v5 : IntKind.i64.wrap ((k : Int) * atL l k) = (k : Int) * atL l k := IntWalk.i64_in _ (by omega)
          have v6 : IntKind.i64.wrap (imS l k + (k : Int) * atL l k) = imS l k + (k : Int) * atL l k := IntWalk.i64_in _ (by omega)
          have v7 : IntKind.i64.wrap ((k : Int) + 1) = (k : Int) + 1 := IntWalk.i64_in _ (by omega)
          clear hi hx ba bb bc bd m1 m2
          go_wp2
          go_round
          case rel => exact ⟨k + 1, by omega, by simp, by rw [s1.out], by rw [s2.out], by rw [s3.out], by rw [s4.out]⟩
          case measure => simp [intOf]; omega
        · obtain rfl : k = l.length := by omega
          rw [EI.out, EII.out, show sumF (atL l) l.length = totalL l from rfl, show imS l l.length = momL l from rfl]
          generalize totalL l = S at *
          generalize momL l = Q at *
          clear EI EII
          go_wp2_with fail
          refine (HF1.out _).mono ?_
          rintro e w2 ⟨rfl, hb2⟩
          have HR2 := Lib.hid (HR1.out.below hb2)
          have HB2 := Lib.hid (HB.out.trans (hb2.mono HB.out.size))
          clear hb2
          go_wp2_with fail
          refine (HF2.out _).mono ?_
          rintro e w3 ⟨rfl, hb3⟩
          have HR3 := Lib.hid (HR2.out.below hb3)
          have HB3 := Lib.hid (HB2.out.trans (hb3.mono HB2.out.size))
          obtain ⟨b0, b1, b2, b3, f0, f1, f2, f3⟩ := HR3.out
          have hz2 := cell_lt b0
          have g0 := HR3.out.s0 (.int .i64 (lowN A D))
          have g1 := HR3.out.s1 (.int .i64 (lowN A D)) (.int .i64 (lowD A D))
          have g2 := HR3.out.s2 (.int .i64 (lowN A D)) (.int .i64 (lowD A D)) (.int .i64 (lowN B D))
          have g3 := HR3.out.s3 (.int .i64 (lowN A D)) (.int .i64 (lowD A D)) (.int .i64 (lowN B D)) (.int .i64 (lowD B D))
          clear hb3
          go_wp2
          exact bodyPost_ret (v := .tuple #[.agg #[.int .i64 (lowN A D), .int .i64 (lowD A D), .int .i64 (lowN B D), .int .i64 (lowD B D)], .int .i64 0]) (by simp [results, Try.results47, go_sem, g0, g1, g2, g3]) rfl ⟨rfl, below4 _ _ _ _ HB3.out hge⟩
  · have hfe : fitErr tau l = checkSt tau l := by unfold fitErr; rw [if_neg h0]
    have hE : fitE tau l = ⟨0, 0, 0, 0, checkSt tau l⟩ := by unfold fitE; rw [hfe, if_neg h0]
    have hne : (checkSt tau l != 0) = true := by simpa using h0
    rw [hE]
    unfold lineVal
    dsimp only
    clear hfe hE h0
    go_enter Try.func47, Try.ntmps47
    go_wp2_with fail
    refine HC.out.mono ?_
    rintro e w1 ⟨rfl, hb⟩
    have HR1 := Lib.hid (HR.out.below hb)
    have HB := Lib.hid (A0.out.trans (hb.mono A0.out.size))
    obtain ⟨b0, b1, b2, b3, f0, f1, f2, f3⟩ := HR1.out
    have hz2 := cell_lt b0
    have g0 := HR1.out.s0 (.int .i64 0)
    have g1 := HR1.out.s1 (.int .i64 0) (.int .i64 0)
    have g2 := HR1.out.s2 (.int .i64 0) (.int .i64 0) (.int .i64 0)
    have g3 := HR1.out.s3 (.int .i64 0) (.int .i64 0) (.int .i64 0) (.int .i64 0)
    clear hb
    go_wp2
    exact bodyPost_ret (v := .tuple #[.agg #[.int .i64 0, .int .i64 0, .int .i64 0, .int .i64 0], .int .i64 (checkSt tau l)]) (by simp [results, Try.results47, go_sem, g0, g1, g2, g3]) rfl ⟨rfl, below4 _ _ _ _ HB.out hge⟩
end Go.Proofs.Ytpmhphdpomiacaa
